/-
  heads of layer 7: what conv answers at closed types.
-/
import Derived.Test.YtpnpilbmhkiphaaDoorCvF
import Derived.Test.YtpnpilbmhkiphaaDoorCvH
import Derived.Test.YtpnpilbmhkiphaaDoorCvI
import Derived.Test.YtpnpilbmhkiphaaDoorCvN
import Derived.Test.YtpnpilbmhkiphaaDoorNew
namespace Go.Proofs.YtpnpilbmhkiphaaDoor
open Go.RowKit Go.Maps
set_option linter.unusedVariables false
set_option maxRecDepth 100000

def pRow (e : Int) : Rw × Value := (⟨13, e, 0, ⟨#[]⟩, [], false⟩, .slice none 0 0)
def rH : List (Rw × Value) := basicRows 11 ++ [pRow 7] ++ [pRow 2]
section
variable {B : Nat} {w : World} {b mb : Nat} {v : Value} {rs : List (Rw × Value)} {ps : List (Value × Value)}
theorem ptr_new (h : Tab B w b mb v rs ps) (id : Int) (h0 : 0 < rs.length) (hid : hasP rs.length id = true) (hw : wf64 id) (hno : ∀ kv ∈ ps, kv.1 ≠ keyV 13 id 0) (hl : rs.length < 512) {n : Int} (hn : (rs.length : Int) = n) :
    Calls Tryd.prog 22 #[.pointer (some ⟨b, 0, none⟩), .int .i64 id] w fun e w' => e = .returned (.tuple #[.int .i64 n, .int .i64 0]) ∧ ∃ v', Tab B w' b mb v' (rs ++ [pRow id]) (ps ++ [(keyV 13 id 0, .int .i64 rs.length)]) ∧ Below B w w' := by
  subst hn
  exact ptr_of (R := fun _ w' => ∃ v', Tab B w' b mb v' (rs ++ [pRow id]) (ps ++ [(keyV 13 id 0, .int .i64 rs.length)]) ∧ Below B w w') h h0 id hid ((derived_new h (by unfold wf64; decide) hw (by unfold wf64; decide) hno hl).mono fun e w' ⟨he, v', hT, ht, _⟩ => ⟨he, v', (show Tab B w' b mb v' (rs ++ [pRow id]) (ps ++ [(keyV 13 id 0, .int .i64 rs.length)]) from hT), h.below ht⟩)
theorem rH_len : rH.length = 13 := by decide
theorem rH_small : Small rH := by
  intro p hp
  simp only [rH, basicRows, List.mem_append, List.mem_map, List.mem_range, List.mem_singleton] at hp
  rcases hp with (⟨n, _, rfl⟩ | rfl) | rfl <;> simp [basic, pRow]
/-- The table that heads makes, and any world behind it. -/
def HTab (w : World) (b : Nat) : Prop := ∃ B mb v ps, Tab B w b mb v rH ps
theorem HTab.kept {b : Nat} {w w' : World} (h : HTab w b) (hb : Below w.heap.size w w') : HTab w' b := by
  obtain ⟨B, mb, v, ps, h⟩ := h
  exact ⟨B, mb, v, ps, h.keptB hb⟩
theorem hOpd (h : HTab w b) {i : Nat} {p : Rw × Value} (hp : rH[i]? = some p) : ∀ Y, Below w.heap.size w Y → Calls Tryd.prog 46 #[.pointer (some ⟨b, 0, none⟩), .int .i64 i] Y fun e w' => (∃ q a u, e = .returned (.tuple #[.agg #[.int .i64 i, .int .i64 p.1.kind, .int .i64 p.1.elem, .int .i64 p.1.len, .string p.1.tag, .slice q a u, .bool p.1.done], .int .i64 0])) ∧ Below Y.heap.size Y w' := by
  intro Y hY
  obtain ⟨B, mb, v, ps, hT⟩ := h.kept hY
  exact operandOf_c hT rH_small hp
theorem hPair (h : HTab w b) {i j : Nat} {p q : Rw × Value} (hp : rH[i]? = some p) (hq : rH[j]? = some q) : ∀ Y, Below w.heap.size w Y → Calls Tryd.prog 44 #[.pointer (some ⟨b, 0, none⟩), .int .i64 i, .int .i64 j] Y fun e w' => (∃ p1 a1 u1 p2 a2 u2, e = .returned (.tuple #[.agg #[.pointer (some ⟨b, 0, none⟩), .string ⟨#[]⟩, .int .i64 i, .int .i64 p.1.kind, .int .i64 p.1.elem, .int .i64 p.1.len, .string p.1.tag, .slice p1 a1 u1, .bool p.1.done, .int .i64 j, .int .i64 q.1.kind, .int .i64 q.1.elem, .int .i64 q.1.len, .string q.1.tag, .slice p2 a2 u2, .bool q.1.done], .int .i64 0])) ∧ Below Y.heap.size Y w' := by
  intro Y hY
  exact pair_of (w := Y) (fun Z hZ => hOpd (h.kept hY) hp Z hZ) (fun Z hZ => hOpd (h.kept hY) hq Z hZ)
theorem hBasic (h : HTab w b) {k n : Int} (hk : 1 ≤ k ∧ k ≤ 11) (hn : k - 1 = n) : ∀ Y, Below w.heap.size w Y → Calls Tryd.prog 48 #[.pointer (some ⟨b, 0, none⟩), .int .i64 k] Y fun e w' => e = .returned (.int .i64 n) ∧ w' = Y := by
  refine cBasic_of (fun Y hY => ?_) ⟨_, rfl⟩
  obtain ⟨B, mb, v, ps, hT⟩ := h.kept hY
  have hwf : wf64 k := by
    have e1 : IntKind.min .i64 = -9223372036854775808 := by decide
    have e2 : IntKind.max .i64 = 9223372036854775807 := by decide
    simp only [wf64, Lit.wf, e1, e2, Bool.and_eq_true, decide_eq_true_eq]
    omega
  have c := basic_c hT (by rw [rH_len]; omega) k hwf
  rw [if_pos hk, hn] at c
  exact c
theorem hSize (h : HTab w b) {i : Nat} {p : Rw × Value} (hp : rH[i]? = some p) (hk : intK p.1.kind = true ∨ p.1.kind = 13) {n : Int} (hn : W.widthOf p.1.kind = n) : ∀ Y, Below w.heap.size w Y → Calls Tryd.prog 87 #[.pointer (some ⟨b, 0, none⟩), .int .i64 i] Y fun e w' => e = .returned (.tuple #[.int .i64 n, .int .i64 0]) ∧ Below Y.heap.size Y w' := by
  intro Y hY
  obtain ⟨B, mb, v, ps, hT⟩ := h.kept hY
  subst hn
  exact size_c hT rH_small hp hk
theorem hPlus (h : HTab w b) : ∀ Y, Below w.heap.size w Y → Calls Tryd.prog 23 #[.pointer (some ⟨b, 0, none⟩), .string ⟨#[43]⟩, .int .i64 11, .int .i64 2] Y fun e w' => e = .returned (.tuple #[.agg #[.int .i64 1, .int .i64 11, .int .i64 7, .int .i64 11, .int .i64 4], .int .i64 0]) ∧ Below Y.heap.size Y w' := by
  refine binary_sum (i1 := 11) (k1 := 13) (e1 := 7) (n1 := 0) (t1 := ⟨#[]⟩) (d1 := false) (i2 := 2) (k2 := 3) (e2 := 0) (n2 := 0) (t2 := ⟨#[]⟩) (d2 := false) (hPair h (i := 11) (j := 2) (p := pRow 7) (q := basic 2) rfl rfl) (fun p1 a1 u1 p2 a2 u2 Y => rule_plus Y) (fun p1 a1 u1 p2 a2 u2 => sum_ptr (k1 := 13) (by decide) (intType_of (hBasic h (by decide) (by decide))) (scaled_of (hSize h (i := 7) (p := basic 7) rfl (Or.inl (by decide)) (by decide))))
theorem op_less : ∀ Y : World, Calls Tryd.prog 81 #[.string ⟨#[60]⟩, .bool false] Y fun e w' => e = .returned (.int .i64 17) ∧ w' = Y := by
  intro w
  go_enter Tryd.func81, Tryd.ntmps81
  go_wp2_with (first | (go_at_call 86; go_in) | go_in)
  go_ret
  exact ⟨rfl, rfl⟩
theorem hLess (h : HTab w b) : ∀ Y, Below w.heap.size w Y → Calls Tryd.prog 23 #[.pointer (some ⟨b, 0, none⟩), .string ⟨#[60]⟩, .int .i64 8, .int .i64 7] Y fun e w' => e = .returned (.tuple #[.agg #[.int .i64 17, .int .i64 8, .int .i64 8, .int .i64 7, .int .i64 0], .int .i64 0]) ∧ Below Y.heap.size Y w' := by
  have hu : usualP 9 8 = 9 := by decide
  have cSg : ∀ Y, Calls Tryd.prog 31 #[.int .i64 (usualP 9 8)] Y fun e w' => e = .returned (.bool false) ∧ w' = Y := fun Y => by
    have c := (W.wide_any 9).2.2.1 Y
    rw [show W.signOf 9 = false by decide] at c
    rw [hu]; exact c
  have cB : ∀ Y, Below w.heap.size w Y → Calls Tryd.prog 48 #[.pointer (some ⟨b, 0, none⟩), .int .i64 (usualP 9 8)] Y fun e w' => e = .returned (.int .i64 8) ∧ w' = Y := by
    rw [hu]; exact hBasic h (by decide) (by decide)
  refine binary_order (i1 := 8) (k1 := 9) (e1 := 0) (n1 := 0) (t1 := ⟨#[]⟩) (d1 := false) (i2 := 7) (k2 := 8) (e2 := 0) (n2 := 0) (t2 := ⟨#[]⟩) (d2 := false) (hPair h (i := 8) (j := 7) (p := basic 8) (q := basic 7) rfl rfl) (fun p1 a1 u1 p2 a2 u2 Y => rule_less Y) (fun p1 a1 u1 p2 a2 u2 => order_of (by decide) (comp_int (sg := false) (by decide) (by decide) (intType_of (hBasic h (by decide) (by decide))) cSg op_less cB false))
theorem hMinus (h : HTab w b) : ∀ Y, Below w.heap.size w Y → Calls Tryd.prog 23 #[.pointer (some ⟨b, 0, none⟩), .string ⟨#[45]⟩, .int .i64 11, .int .i64 12] Y fun e w' => e = .returned (.tuple #[.agg #[.int .i64 0, .int .i64 0, .int .i64 0, .int .i64 0, .int .i64 0], .int .i64 70]) ∧ Below Y.heap.size Y w' := by
  refine binary_diff (i1 := 11) (k1 := 13) (e1 := 7) (n1 := 0) (t1 := ⟨#[]⟩) (d1 := false) (i2 := 12) (k2 := 13) (e2 := 2) (n2 := 0) (t2 := ⟨#[]⟩) (d2 := false) (hPair h (i := 11) (j := 12) (p := pRow 7) (q := pRow 2) rfl rfl) (fun p1 a1 u1 p2 a2 u2 Y => rule_minus Y) (fun p1 a1 u1 p2 a2 u2 => diff_no rfl rfl (by decide))
theorem hNot (h : HTab w b) : ∀ Y, Below w.heap.size w Y → Calls Tryd.prog 24 #[.pointer (some ⟨b, 0, none⟩), .string ⟨#[33]⟩, .int .i64 11] Y fun e w' => e = .returned (.tuple #[.int .i64 7, .int .i64 0]) ∧ Below Y.heap.size Y w' := by
  refine unary_not (i1 := 11) (k1 := 13) (e1 := 7) (n1 := 0) (t1 := ⟨#[]⟩) (d1 := false) (hOpd h (i := 11) (p := pRow 7) rfl) (fun Y hY => ?_) (hBasic h (by decide) (by decide))
  obtain ⟨B, mb, v, ps, hT⟩ := h.kept hY
  exact scalar_c hT (by rw [rH_len]; omega) 11
theorem hCond (h : HTab w b) : ∀ Y, Below w.heap.size w Y → Calls Tryd.prog 25 #[.pointer (some ⟨b, 0, none⟩), .int .i64 2, .int .i64 8] Y fun e w' => e = .returned (.tuple #[.int .i64 8, .int .i64 0]) ∧ Below Y.heap.size Y w' := by
  have hu : usualP 3 9 = 9 := by decide
  have cB : ∀ Y, Below w.heap.size w Y → Calls Tryd.prog 48 #[.pointer (some ⟨b, 0, none⟩), .int .i64 (usualP 3 9)] Y fun e w' => e = .returned (.int .i64 8) ∧ w' = Y := by
    rw [hu]; exact hBasic h (by decide) (by decide)
  exact cond_int (i1 := 2) (k1 := 3) (e1 := 0) (n1 := 0) (t1 := ⟨#[]⟩) (d1 := false) (i2 := 8) (k2 := 9) (e2 := 0) (n2 := 0) (t2 := ⟨#[]⟩) (d2 := false) (by decide) (by decide) (hPair h (i := 2) (j := 8) (p := basic 2) (q := basic 8) rfl rfl) cB
theorem hAssign (h : HTab w b) : ∀ Y, Below w.heap.size w Y → Calls Tryd.prog 26 #[.pointer (some ⟨b, 0, none⟩), .int .i64 11, .int .i64 12] Y fun e w' => e = .returned (.int .i64 70) ∧ Below Y.heap.size Y w' := fun Y hY =>
  assign_of (w := Y) (i1 := 11) (k1 := 13) (e1 := 7) (n1 := 0) (t1 := ⟨#[]⟩) (d1 := false) (i2 := 12) (k2 := 13) (e2 := 2) (n2 := 0) (t2 := ⟨#[]⟩) (d2 := false) (hPair h (i := 11) (j := 12) (p := pRow 7) (q := pRow 2) rfl rfl Y hY)
theorem hCast (h : HTab w b) : ∀ Y, Below w.heap.size w Y → Calls Tryd.prog 27 #[.pointer (some ⟨b, 0, none⟩), .int .i64 11, .int .i64 12] Y fun e w' => e = .returned (.int .i64 0) ∧ Below Y.heap.size Y w' := fun Y hY =>
  cast_of (w := Y) (i1 := 11) (k1 := 13) (e1 := 7) (n1 := 0) (t1 := ⟨#[]⟩) (d1 := false) (i2 := 12) (k2 := 13) (e2 := 2) (n2 := 0) (t2 := ⟨#[]⟩) (d2 := false) (hPair h (i := 11) (j := 12) (p := pRow 7) (q := pRow 2) rfl rfl Y hY)
end
end Go.Proofs.YtpnpilbmhkiphaaDoor
