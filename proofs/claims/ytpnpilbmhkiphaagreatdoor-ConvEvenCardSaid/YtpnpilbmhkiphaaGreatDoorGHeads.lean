/-
  heads of layer 7.
  heads of layer 7: what conv answers at closed types.
-/
import Derived.Test.YtpnpilbmhkiphaaGreatDoorCvF
import Derived.Test.YtpnpilbmhkiphaaGreatDoorGOps
import Derived.Test.YtpnpilbmhkiphaaGreatDoorGAsg
import Derived.Test.YtpnpilbmhkiphaaGreatDoorGW
import Derived.Test.YtpnpilbmhkiphaaGreatDoorNew
namespace Go.Proofs.YtpnpilbmhkiphaaGreatDoor
open Go.RowKit Go.Maps
set_option linter.unusedVariables false
set_option maxRecDepth 100000

def pRow (e : Int) : Rw × Value := (⟨13, e, 0, ⟨#[]⟩, [], false⟩, .slice none 0 0)
def rH : List (Rw × Value) := basicRows 11 ++ [pRow 7] ++ [pRow 2]
section
variable {B : Nat} {w : World} {b mb : Nat} {v : Value} {rs : List (Rw × Value)} {ps : List (Value × Value)}
theorem ptr_new (h : Tab B w b mb v rs ps) (id : Int) (h0 : 0 < rs.length) (hid : hasP rs.length id = true) (hw : wf64 id) (hno : ∀ kv ∈ ps, kv.1 ≠ keyV 13 id 0) (hl : rs.length < 512) {n : Int} (hn : (rs.length : Int) = n) :
    Calls Tryz.prog 29 #[.pointer (some ⟨b, 0, none⟩), .int .i64 id] w fun e w' => e = .returned (.tuple #[.int .i64 n, .int .i64 0]) ∧ ∃ v', Tab B w' b mb v' (rs ++ [pRow id]) (ps ++ [(keyV 13 id 0, .int .i64 rs.length)]) ∧ Below B w w' := by
  subst hn
  exact ptr_of (R := fun _ w' => ∃ v', Tab B w' b mb v' (rs ++ [pRow id]) (ps ++ [(keyV 13 id 0, .int .i64 rs.length)]) ∧ Below B w w') h h0 id hid ((derived_new h (by unfold wf64; decide) hw (by unfold wf64; decide) hno hl).mono fun e w' ⟨he, v', hT, ht, _⟩ => ⟨he, v', (show Tab B w' b mb v' (rs ++ [pRow id]) (ps ++ [(keyV 13 id 0, .int .i64 rs.length)]) from hT), h.below ht⟩)
theorem rH_len : rH.length = 13 := by decide
theorem rH_small : Small rH := by
  intro p hp
  simp only [rH, basicRows, List.mem_append, List.mem_map, List.mem_range, List.mem_singleton] at hp
  rcases hp with (⟨n, _, rfl⟩ | rfl) | rfl <;> simp [basic, pRow]
/-- The table that heads makes, and any world behind it. -/
def HTab (w : World) (b : Nat) : Prop := ∃ B mb v ps, Tab B w b mb v rH ps
theorem HTab.kept {b : Nat} {w w' : World} (h : HTab w b) (hb : Below w.heap.size w w') : HTab w' b := by
  obtain ⟨B, mb, v, ps, h⟩ := h
  exact ⟨B, mb, v, ps, h.keptB hb⟩
theorem hOpd (h : HTab w b) {i : Nat} {p : Rw × Value} (hp : rH[i]? = some p) : ∀ Y, Below w.heap.size w Y → Calls Tryz.prog 39 #[.pointer (some ⟨b, 0, none⟩), .int .i64 i] Y fun e w' => (∃ q a u, e = .returned (.tuple #[.agg #[.int .i64 i, .int .i64 p.1.kind, .int .i64 p.1.elem, .int .i64 p.1.len, .string p.1.tag, .slice q a u, .bool p.1.done], .int .i64 0])) ∧ Below Y.heap.size Y w' := by
  intro Y hY
  obtain ⟨B, mb, v, ps, hT⟩ := h.kept hY
  exact operandOf_c hT rH_small hp
theorem hPair (h : HTab w b) {i j : Nat} {p q : Rw × Value} (hp : rH[i]? = some p) (hq : rH[j]? = some q) : ∀ Y, Below w.heap.size w Y → Calls Tryz.prog 31 #[.pointer (some ⟨b, 0, none⟩), .int .i64 i, .int .i64 j] Y fun e w' => (∃ p1 a1 u1 p2 a2 u2, e = .returned (.tuple #[.agg #[.pointer (some ⟨b, 0, none⟩), .string ⟨#[]⟩, .int .i64 i, .int .i64 p.1.kind, .int .i64 p.1.elem, .int .i64 p.1.len, .string p.1.tag, .slice p1 a1 u1, .bool p.1.done, .int .i64 j, .int .i64 q.1.kind, .int .i64 q.1.elem, .int .i64 q.1.len, .string q.1.tag, .slice p2 a2 u2, .bool q.1.done], .int .i64 0])) ∧ Below Y.heap.size Y w' := by
  intro Y hY
  exact pair_of (w := Y) (fun Z hZ => hOpd (h.kept hY) hp Z hZ) (fun Z hZ => hOpd (h.kept hY) hq Z hZ)
theorem hBasic (h : HTab w b) {k n : Int} (hk : 1 ≤ k ∧ k ≤ 11) (hn : k - 1 = n) : ∀ Y, Below w.heap.size w Y → Calls Tryz.prog 41 #[.pointer (some ⟨b, 0, none⟩), .int .i64 k] Y fun e w' => e = .returned (.int .i64 n) ∧ w' = Y := by
  refine cBasic_of (fun Y hY => ?_) ⟨_, rfl⟩
  obtain ⟨B, mb, v, ps, hT⟩ := h.kept hY
  have hwf : wf64 k := by
    have e1 : IntKind.min .i64 = -9223372036854775808 := by decide
    have e2 : IntKind.max .i64 = 9223372036854775807 := by decide
    simp only [wf64, Lit.wf, e1, e2, Bool.and_eq_true, decide_eq_true_eq]
    omega
  have c := basic_c hT (by rw [rH_len]; omega) k hwf
  rw [if_pos hk, hn] at c
  exact c
theorem hSize (h : HTab w b) {i : Nat} {p : Rw × Value} (hp : rH[i]? = some p) (hk : intK p.1.kind = true ∨ p.1.kind = 13) {n : Int} (hn : W.widthOf p.1.kind = n) : ∀ Y, Below w.heap.size w Y → Calls Tryz.prog 130 #[.pointer (some ⟨b, 0, none⟩), .int .i64 i] Y fun e w' => e = .returned (.tuple #[.int .i64 n, .int .i64 0]) ∧ Below Y.heap.size Y w' := by
  intro Y hY
  obtain ⟨B, mb, v, ps, hT⟩ := h.kept hY
  subst hn
  exact size_c hT rH_small hp hk
theorem hPlus (h : HTab w b) : ∀ Y, Below w.heap.size w Y → Calls Tryz.prog 7 #[.pointer (some ⟨b, 0, none⟩), .string ⟨#[43]⟩, .int .i64 11, .int .i64 2] Y fun e w' => e = .returned (.tuple #[.agg #[.int .i64 1, .int .i64 11, .int .i64 7, .int .i64 11, .int .i64 4], .int .i64 0]) ∧ Below Y.heap.size Y w' := by
  refine binary_sum (i1 := 11) (k1 := 13) (e1 := 7) (n1 := 0) (t1 := ⟨#[]⟩) (d1 := false) (i2 := 2) (k2 := 3) (e2 := 0) (n2 := 0) (t2 := ⟨#[]⟩) (d2 := false) (hPair h (i := 11) (j := 2) (p := pRow 7) (q := basic 2) rfl rfl) (fun p1 a1 u1 p2 a2 u2 Y => rule_plus Y) (fun p1 a1 u1 p2 a2 u2 => sum_ptr (k1 := 13) (by decide) (intType_of (hBasic h (by decide) (by decide))) (scaled_of (hSize h (i := 7) (p := basic 7) rfl (Or.inl (by decide)) (by decide))))
theorem op_less : ∀ Y : World, Calls Tryz.prog 113 #[.string ⟨#[60]⟩, .bool false] Y fun e w' => e = .returned (.int .i64 17) ∧ w' = Y := by
  intro w
  go_enter Tryz.func113, Tryz.ntmps113
  go_wp2_with (first | (go_at_call 129; go_in) | go_in)
  go_ret
  exact ⟨rfl, rfl⟩
theorem hLess (h : HTab w b) : ∀ Y, Below w.heap.size w Y → Calls Tryz.prog 7 #[.pointer (some ⟨b, 0, none⟩), .string ⟨#[60]⟩, .int .i64 8, .int .i64 7] Y fun e w' => e = .returned (.tuple #[.agg #[.int .i64 17, .int .i64 8, .int .i64 8, .int .i64 7, .int .i64 0], .int .i64 0]) ∧ Below Y.heap.size Y w' := by
  have hu : usualP 9 8 = 9 := by decide
  have cSg : ∀ Y, Calls Tryz.prog 112 #[.int .i64 (usualP 9 8)] Y fun e w' => e = .returned (.bool false) ∧ w' = Y := fun Y => by
    have c := (W.wide_any 9).2.2.1 Y
    rw [show W.signOf 9 = false by decide] at c
    rw [hu]; exact c
  have cB : ∀ Y, Below w.heap.size w Y → Calls Tryz.prog 41 #[.pointer (some ⟨b, 0, none⟩), .int .i64 (usualP 9 8)] Y fun e w' => e = .returned (.int .i64 8) ∧ w' = Y := by
    rw [hu]; exact hBasic h (by decide) (by decide)
  refine binary_order (i1 := 8) (k1 := 9) (e1 := 0) (n1 := 0) (t1 := ⟨#[]⟩) (d1 := false) (i2 := 7) (k2 := 8) (e2 := 0) (n2 := 0) (t2 := ⟨#[]⟩) (d2 := false) (hPair h (i := 8) (j := 7) (p := basic 8) (q := basic 7) rfl rfl) (fun p1 a1 u1 p2 a2 u2 Y => rule_less Y) (fun p1 a1 u1 p2 a2 u2 => order_of (by decide) (comp_int (sg := false) (by decide) (by decide) (intType_of (hBasic h (by decide) (by decide))) cSg op_less cB false))
theorem hMinus (h : HTab w b) : ∀ Y, Below w.heap.size w Y → Calls Tryz.prog 7 #[.pointer (some ⟨b, 0, none⟩), .string ⟨#[45]⟩, .int .i64 11, .int .i64 12] Y fun e w' => e = .returned (.tuple #[.agg #[.int .i64 0, .int .i64 0, .int .i64 0, .int .i64 0, .int .i64 0], .int .i64 70]) ∧ Below Y.heap.size Y w' := by
  refine binary_diff (i1 := 11) (k1 := 13) (e1 := 7) (n1 := 0) (t1 := ⟨#[]⟩) (d1 := false) (i2 := 12) (k2 := 13) (e2 := 2) (n2 := 0) (t2 := ⟨#[]⟩) (d2 := false) (hPair h (i := 11) (j := 12) (p := pRow 7) (q := pRow 2) rfl rfl) (fun p1 a1 u1 p2 a2 u2 Y => rule_minus Y) (fun p1 a1 u1 p2 a2 u2 => diff_no rfl rfl (by decide))
theorem hNot (h : HTab w b) : ∀ Y, Below w.heap.size w Y → Calls Tryz.prog 9 #[.pointer (some ⟨b, 0, none⟩), .string ⟨#[33]⟩, .int .i64 11] Y fun e w' => e = .returned (.tuple #[.int .i64 7, .int .i64 0]) ∧ Below Y.heap.size Y w' := by
  refine unary_not (i1 := 11) (k1 := 13) (e1 := 7) (n1 := 0) (t1 := ⟨#[]⟩) (d1 := false) (hOpd h (i := 11) (p := pRow 7) rfl) (fun Y hY => ?_) (hBasic h (by decide) (by decide))
  obtain ⟨B, mb, v, ps, hT⟩ := h.kept hY
  exact scalar_c hT (by rw [rH_len]; omega) 11
theorem hCond (h : HTab w b) : ∀ Y, Below w.heap.size w Y → Calls Tryz.prog 11 #[.pointer (some ⟨b, 0, none⟩), .int .i64 2, .int .i64 8] Y fun e w' => e = .returned (.tuple #[.int .i64 8, .int .i64 0]) ∧ Below Y.heap.size Y w' := by
  have hu : usualP 3 9 = 9 := by decide
  have cB : ∀ Y, Below w.heap.size w Y → Calls Tryz.prog 41 #[.pointer (some ⟨b, 0, none⟩), .int .i64 (usualP 3 9)] Y fun e w' => e = .returned (.int .i64 8) ∧ w' = Y := by
    rw [hu]; exact hBasic h (by decide) (by decide)
  exact cond_int (i1 := 2) (k1 := 3) (e1 := 0) (n1 := 0) (t1 := ⟨#[]⟩) (d1 := false) (i2 := 8) (k2 := 9) (e2 := 0) (n2 := 0) (t2 := ⟨#[]⟩) (d2 := false) (by decide) (by decide) (hPair h (i := 2) (j := 8) (p := basic 2) (q := basic 8) rfl rfl) cB
theorem hAssign (h : HTab w b) : ∀ Y, Below w.heap.size w Y → Calls Tryz.prog 13 #[.pointer (some ⟨b, 0, none⟩), .int .i64 11, .int .i64 12] Y fun e w' => e = .returned (.int .i64 70) ∧ Below Y.heap.size Y w' := fun Y hY =>
  assign_of (w := Y) (i1 := 11) (k1 := 13) (e1 := 7) (n1 := 0) (t1 := ⟨#[]⟩) (d1 := false) (i2 := 12) (k2 := 13) (e2 := 2) (n2 := 0) (t2 := ⟨#[]⟩) (d2 := false) (hPair h (i := 11) (j := 12) (p := pRow 7) (q := pRow 2) rfl rfl Y hY)
theorem hCast (h : HTab w b) : ∀ Y, Below w.heap.size w Y → Calls Tryz.prog 15 #[.pointer (some ⟨b, 0, none⟩), .int .i64 11, .int .i64 12] Y fun e w' => e = .returned (.int .i64 0) ∧ Below Y.heap.size Y w' := fun Y hY =>
  cast_of (w := Y) (i1 := 11) (k1 := 13) (e1 := 7) (n1 := 0) (t1 := ⟨#[]⟩) (d1 := false) (i2 := 12) (k2 := 13) (e2 := 2) (n2 := 0) (t2 := ⟨#[]⟩) (d2 := false) (hPair h (i := 11) (j := 12) (p := pRow 7) (q := pRow 2) rfl rfl Y hY)
end
end Go.Proofs.YtpnpilbmhkiphaaGreatDoor
namespace Go.Proofs.YtpnpilbmhkiphaaGreatDoor
open Go.RowKit Go.Maps
set_option linter.unusedVariables false
set_option maxRecDepth 100000

section
variable {w : World}
theorem name_add (w : World) (hN : W.NamesIn w) : Calls Tryz.prog 71 #[.int .i64 1] w fun e w' => e = .returned (.string ⟨#[97, 100, 100]⟩) ∧ w' = w := by
  have hn : w.cell? ⟨0, 0, none⟩ = some (.string ⟨#[97, 100, 100]⟩) := hN 0 (by decide)
  clear hN
  go_enter Tryz.func71, Tryz.ntmps71
  go_wp2
  go_ret
  exact ⟨rfl, rfl⟩
theorem name_divs (w : World) (hN : W.NamesIn w) : Calls Tryz.prog 71 #[.int .i64 4] w fun e w' => e = .returned (.string ⟨#[100, 105, 118, 115]⟩) ∧ w' = w := by
  have hn : w.cell? ⟨0, 3, none⟩ = some (.string ⟨#[100, 105, 118, 115]⟩) := hN 3 (by decide)
  clear hN
  go_enter Tryz.func71, Tryz.ntmps71
  go_wp2
  go_ret
  exact ⟨rfl, rfl⟩
theorem names_b {w w' : World} (h : W.NamesIn w) (hz : 0 < w.heap.size) (hb : Below w.heap.size w w') : W.NamesIn w' := fun i hi => (hb.cell (p := ⟨0, i, none⟩) hz).trans (h i hi)
theorem conv_260 (w : World) : Calls Tryz.prog 73 #[.int .i64 5, .int .u32 260] w fun e w' => e = .returned (.int .u32 4) ∧ w' = w := by
  have A := fun Y => W.wide_5.1 Y
  have C := fun Y => W.wide_5.2.2.1 Y
  have E := fun Y => W.extend_1u 260 Y (by decide) (by decide)
  go_enter Tryz.func73, Tryz.ntmps73
  go_wp2_with fail
  refine (A _).mono ?_
  rintro e w' ⟨rfl, hw⟩
  rw [hw]
  clear hw w'
  go_wp2_with fail
  refine (C _).mono ?_
  rintro e w' ⟨rfl, hw⟩
  rw [hw]
  clear hw w'
  go_wp2_with fail
  refine (E _).mono ?_
  rintro e w' ⟨rfl, hw⟩
  rw [hw]
  clear hw w'
  go_wp2
  go_ret
  exact ⟨rfl, rfl⟩
theorem hFold1 (w : World) (hN : W.NamesIn w) : Calls Tryz.prog 30 #[.int .i64 5, .int .i64 1, .int .u32 250, .int .u32 10] w fun e w' => e = .returned (.tuple #[.int .u32 4, .int .i64 0]) ∧ Below w.heap.size w w' := by
  have c1 := cInt_c 5 w
  rw [show intK 5 = true by decide] at c1
  have c2 := name_add w hN
  have c3 := W.bin_add 250 10 w (by decide) (by decide) (by decide) (by decide)
  rw [show ((250 : Int) + 10) % 4294967296 = 260 by decide] at c3
  have c4 := conv_260 w
  have n1 := not_t
  clear hN
  go_enter Tryz.func30, Tryz.ntmps30
  go_wp2_with fail
  refine c1.mono ?_
  rintro e w' ⟨rfl, hw⟩
  rw [hw]
  clear hw w'
  go_wp2_with fail
  refine c2.mono ?_
  rintro e w' ⟨rfl, hw⟩
  rw [hw]
  clear hw w'
  go_wp2_with fail
  refine c3.mono ?_
  rintro e w' ⟨rfl, hw⟩
  rw [hw]
  clear hw w'
  go_wp2_with fail
  refine c4.mono ?_
  rintro e w' ⟨rfl, hw⟩
  rw [hw]
  clear hw w'
  go_wp2
  go_ret2
  exact ⟨rfl, Below.refl _ _⟩
theorem hFold2 (w : World) (hN : W.NamesIn w) : Calls Tryz.prog 30 #[.int .i64 8, .int .i64 4, .int .u32 1, .int .u32 0] w fun e w' => e = .returned (.tuple #[.int .u32 0, .int .i64 71]) ∧ Below w.heap.size w w' := by
  have c1 := cInt_c 8 w
  rw [show intK 8 = true by decide] at c1
  have c2 := name_divs w hN
  have c3 := W.bin_divs_zero 1 w
  have n1 := not_t
  have n2 := not_f
  clear hN
  go_enter Tryz.func30, Tryz.ntmps30
  go_wp2_with fail
  refine c1.mono ?_
  rintro e w' ⟨rfl, hw⟩
  rw [hw]
  clear hw w'
  go_wp2_with fail
  refine c2.mono ?_
  rintro e w' ⟨rfl, hw⟩
  rw [hw]
  clear hw w'
  go_wp2_with fail
  refine c3.mono ?_
  rintro e w' ⟨rfl, hw⟩
  rw [hw]
  clear hw w'
  go_wp2
  go_ret2
  exact ⟨rfl, Below.refl _ _⟩
theorem eqA (W : World) : (binOp BinOp.eql TOp (.agg #[.int .i64 1, .int .i64 11, .int .i64 7, .int .i64 11, .int .i64 4]) (.agg #[.int .i64 1, .int .i64 11, .int .i64 7, .int .i64 11, .int .i64 4])).run Tryz.prog W = .ok (.bool true) W := by kernel_rfl
theorem eqB (W : World) : (binOp BinOp.eql TOp (.agg #[.int .i64 17, .int .i64 8, .int .i64 8, .int .i64 7, .int .i64 0]) (.agg #[.int .i64 17, .int .i64 8, .int .i64 8, .int .i64 7, .int .i64 0])).run Tryz.prog W = .ok (.bool true) W := by kernel_rfl
theorem build_A (W : World) : (Instr.build TOp #[(0, .int .i64 1), (1, .int .i64 11), (2, .int .i64 7), (3, .int .i64 11), (4, .int .i64 4)]).run Tryz.prog W = .ok (.agg #[.int .i64 1, .int .i64 11, .int .i64 7, .int .i64 11, .int .i64 4]) W := by kernel_rfl
theorem build_B (W : World) : (Instr.build TOp #[(0, .int .i64 17), (1, .int .i64 8), (2, .int .i64 8), (3, .int .i64 7)]).run Tryz.prog W = .ok (.agg #[.int .i64 17, .int .i64 8, .int .i64 8, .int .i64 7, .int .i64 0]) W := by kernel_rfl
theorem load_Op {Y : World} {g : Nat} {cs : Array Value} (h : Y.heap[g]? = some (.cells cs TOp (0, 0))) (hc : cs.size = 5) : (Instr.loadAt TOp (.pointer (some ⟨g, 0, none⟩))).run Tryz.prog Y = .ok (.agg cs) Y := by
  have hl := run_loadVar_row (P := Tryz.prog) Y g TOp TOp cs (0, 0) _ h Tryz.underlying30 rfl (by rw [hc]; kernel_rfl)
  simp only [Instr.loadAt, Instr.sureAddr, Sem.run_bind, Sem.run_pure, Result.andThen]
  exact hl
set_option maxHeartbeats 8000000 in
theorem cHeads_c (w : World) (hN : W.NamesIn w) (hz : 0 < w.heap.size) :
    Calls Tryz.prog 6 #[] w fun e w' => e = .returned (.bool true) ∧ Below w.heap.size w w' := by
  have HN : Hid (W.NamesIn w) := hN
  clear hN
  go_enter Tryz.func6, Tryz.ntmps6
  go_wp2_with fail
  refine (new_c w).mono ?_
  rintro e w1 ⟨b, mb, v, rfl, hT1, hb1⟩
  have c := ptr_new hT1 7 (by decide) (by decide) (by unfold wf64; decide) (by intro kv hkv; cases hkv) (by decide) (n := 11) rfl
  have HB1 : Hid (Below w.heap.size w w1) := hb1
  clear hT1 hb1
  go_wp2_with fail
  refine c.mono ?_
  rintro e w2 ⟨rfl, v2, hT2, hb2⟩
  have c2 := ptr_new hT2 2 (by decide) (by decide) (by unfold wf64; decide) (by intro kv hkv; simp at hkv; subst hkv; simp [keyV]) (by decide) (n := 12) rfl
  have HB2 : Hid (Below w.heap.size w w2) := HB1.out.trans hb2
  clear c hT2 hb2 HB1
  go_wp2_with fail
  refine c2.mono ?_
  rintro e w3 ⟨rfl, v3, hT3, hb3⟩
  have HT : Hid (HTab w3 b) := ⟨_, _, _, _, hT3⟩
  have HB3 : Hid (Below w.heap.size w w3) := HB2.out.trans hb3
  clear c2 hT3 hb3 HB2
  have cU := cUsual_c 10 9 w3
  rw [show usualV 10 9 = #[.int .i64 11, .int .i64 0] from rfl] at cU
  go_wp2_with fail
  refine cU.mono ?_
  rintro e w' ⟨rfl, hw⟩
  rw [hw]
  clear hw w' cU
  have cA := hPlus HT.out w3 (Below.refl _ _)
  go_wp2_with fail
  refine cA.mono ?_
  rintro e w4 ⟨rfl, hb4⟩
  have hold := heap_r0 w4 (.cells #[.int .i64 0, .int .i64 0, .int .i64 0, .int .i64 0, .int .i64 0] TOp)
  have H5 : Hid (Below w3.heap.size w3 (w4.alloc (.cells #[.int .i64 1, .int .i64 11, .int .i64 7, .int .i64 11, .int .i64 4] TOp))) := hb4.trans ((below1 w4 _).mono hb4.size)
  have G5 : Hid (_ = _) := heap_r0 w4 (.cells #[.int .i64 1, .int .i64 11, .int .i64 7, .int .i64 11, .int .i64 4] TOp)
  have cL := hLess HT.out _ H5.out
  clear cA hb4
  go_wp2_with (first | ((with_reducible apply step_store hold); rfl; rfl; kernel_rfl; rfl; kernel_rfl; rw [World.setRow_alloc_new]) | fail)
  generalize w4.alloc (.cells #[.int .i64 1, .int .i64 11, .int .i64 7, .int .i64 11, .int .i64 4] TOp) = w5 at *
  clear hold
  refine cL.mono ?_
  rintro e w6 ⟨rfl, hb6⟩
  have hold := heap_r0 w6 (.cells #[.int .i64 0, .int .i64 0, .int .i64 0, .int .i64 0, .int .i64 0] TOp)
  have hB7 := hb6.trans ((below1 w6 (.cells #[.int .i64 17, .int .i64 8, .int .i64 8, .int .i64 7, .int .i64 0] TOp)).mono hb6.size)
  have H7 : Hid (Below w3.heap.size w3 (w6.alloc (.cells #[.int .i64 17, .int .i64 8, .int .i64 8, .int .i64 7, .int .i64 0] TOp))) := H5.out.trans (hB7.mono H5.out.size)
  have G7 : Hid (_ = _) := blk_b G5.out hB7
  have K7 : Hid (_ = _) := heap_r0 w6 (.cells #[.int .i64 17, .int .i64 8, .int .i64 8, .int .i64 7, .int .i64 0] TOp)
  have cM := hMinus HT.out _ H7.out
  clear cL hb6 hB7 H5 G5
  go_wp2_with (first | ((with_reducible apply step_store hold); rfl; rfl; kernel_rfl; rfl; kernel_rfl; rw [World.setRow_alloc_new]) | fail)
  generalize w6.alloc (.cells #[.int .i64 17, .int .i64 8, .int .i64 8, .int .i64 7, .int .i64 0] TOp) = w7 at *
  clear hold
  refine cM.mono ?_
  rintro e w8 ⟨rfl, hb8⟩
  have hold := heap_r0 w8 (.cells #[.int .i64 0, .int .i64 0, .int .i64 0, .int .i64 0, .int .i64 0] TOp)
  have hB9 := hb8.trans ((below1 w8 (.cells #[.int .i64 0, .int .i64 0, .int .i64 0, .int .i64 0, .int .i64 0] TOp)).mono hb8.size)
  have H9 : Hid (Below w3.heap.size w3 (w8.alloc (.cells #[.int .i64 0, .int .i64 0, .int .i64 0, .int .i64 0, .int .i64 0] TOp))) := H7.out.trans (hB9.mono H7.out.size)
  have G9 : Hid (_ = _) := blk_b G7.out hB9
  have K9 : Hid (_ = _) := blk_b K7.out hB9
  clear cM hb8 hB9 H7 G7 K7
  go_wp2_with (first | ((with_reducible apply step_store hold); rfl; rfl; kernel_rfl; rfl; kernel_rfl; rw [World.setRow_alloc_new]) | fail)
  generalize w8.alloc (.cells #[.int .i64 0, .int .i64 0, .int .i64 0, .int .i64 0, .int .i64 0] TOp) = w9 at *
  clear hold
  have HNM : Hid (∀ Y, Below w3.heap.size w3 Y → W.NamesIn Y) := fun Y hY => names_b HN.out hz (HB3.out.trans (hY.mono HB3.out.size))
  refine (hFold1 _ (HNM.out _ H9.out)).mono ?_
  rintro e w10 ⟨rfl, hb10⟩
  have H10 : Hid (Below w3.heap.size w3 w10) := H9.out.trans (hb10.mono H9.out.size)
  have G10 : Hid (_ = _) := blk_b G9.out hb10
  have K10 : Hid (_ = _) := blk_b K9.out hb10
  clear hb10 H9 G9 K9
  go_wp2_with fail
  refine (hFold2 _ (HNM.out _ H10.out)).mono ?_
  rintro e w11 ⟨rfl, hb11⟩
  have H11 : Hid (Below w3.heap.size w3 w11) := H10.out.trans (hb11.mono H10.out.size)
  have G11 : Hid (_ = _) := blk_b G10.out hb11
  have K11 : Hid (_ = _) := blk_b K10.out hb11
  clear hb11 H10 G10 K10 HNM
  have cN := hNot HT.out _ H11.out
  go_wp2_with fail
  refine cN.mono ?_
  rintro e w12 ⟨rfl, hb12⟩
  have H12 : Hid (Below w3.heap.size w3 w12) := H11.out.trans (hb12.mono H11.out.size)
  have G12 : Hid (_ = _) := blk_b G11.out hb12
  have K12 : Hid (_ = _) := blk_b K11.out hb12
  clear hb12 H11 G11 K11 cN
  have cC := hCond HT.out _ H12.out
  go_wp2_with fail
  refine cC.mono ?_
  rintro e w13 ⟨rfl, hb13⟩
  have H13 : Hid (Below w3.heap.size w3 w13) := H12.out.trans (hb13.mono H12.out.size)
  obtain ⟨s0, s1, s2, s3, s4, _⟩ := cells5 (blk_b G12.out hb13)
  obtain ⟨r0, r1, r2, r3, r4, _⟩ := cells5 (blk_b K12.out hb13)
  clear hb13 H12 G12 K12 cC
  have hqa := eqA
  have hqb := eqB
  have hba := build_A
  have hbb := build_B
  have cAs := hAssign HT.out _ H13.out
  go_wp2_with fail
  refine cAs.mono ?_
  rintro e w14 ⟨rfl, hb14⟩
  have H14 : Hid (Below w3.heap.size w3 w14) := H13.out.trans (hb14.mono H13.out.size)
  have cCa := hCast HT.out _ H14.out
  clear hb14 cAs s0 s1 s2 s3 s4 r0 r1 r2 r3 r4 hqa hqb hba hbb
  go_wp2_with fail
  refine cCa.mono ?_
  rintro e w15 ⟨rfl, hb15⟩
  have H15 : Hid (Below w.heap.size w w15) := HB3.out.trans ((H14.out.trans (hb15.mono H14.out.size)).mono HB3.out.size)
  clear hb15 cCa
  have cPr := cPromote_c 9 5 w15
  rw [show promP 9 5 = 8 from rfl] at cPr
  go_wp2_with fail
  refine cPr.mono ?_
  rintro e w' ⟨rfl, hw⟩
  rw [hw]
  clear hw w' cPr
  go_wp2
  go_ret
  exact ⟨rfl, H15.out⟩
end
end Go.Proofs.YtpnpilbmhkiphaaGreatDoor
