/-
  What a pair's methods answer.
  operandOf: a type as an operand.
  pairOf: two types as operands.
-/
import Derived.Test.YtpnpilbmhkiphaaGreatDoorGKind
namespace Go.Proofs.YtpnpilbmhkiphaaGreatDoor
open Go.RowKit Go.Maps
set_option linter.unusedVariables false
set_option maxRecDepth 100000

theorem ret_st {fn : Func} {R : Ending → World → Prop} {tmps : Array Value} {w : World} {g p q : Nat} {cs : Array Value} {ty : TypeId}
    (hres : fn.results = #[.cell p ty, .tmp q]) (hp : tmps.getD p undef = .pointer (some ⟨g, 0, none⟩)) (hl : (loadVar ty ⟨g, 0, none⟩).run Tryz.prog w = .ok (.agg cs) w)
    (hR : R (.returned (.tuple #[.agg cs, tmps.getD q undef])) w) : bodyPost Tryz.prog fn R .ret ⟨tmps, []⟩ w := by
  refine bodyPost_ret ?_ rfl hR
  rw [results_cell2 hres]
  simp only [hp]
  simp [asAddr, Result.andThen, hl]

section
variable {B : Nat} {w : World} {b mb : Nat} {v : Value} {rs : List (Rw × Value)} {ps : List (Value × Value)}
set_option maxHeartbeats 1000000 in
theorem row_none (h : Tab B w b mb v rs ps) (h0 : 0 < rs.length) (id : Int) (hid : hasP rs.length id = false) :
    Calls Tryz.prog 84 #[.pointer (some ⟨b, 0, none⟩), .int .i64 id] w fun e w' => e = .returned (.tuple #[zeroRow, .bool false]) ∧ Below w.heap.size w w' := by
  have hB : Below w.heap.size w (w.alloc (.cells #[.int .i64 0, .int .i64 0, .int .i64 0, .string ⟨#[]⟩, .slice none 0 0, .bool false] 67)) := (Below.refl _ w).alloc (Nat.le_refl _) _
  have c := has_c (h.keptB hB) h0 id
  rw [hid] at c
  have h1 := not_f
  have hbz : ∀ W : World, (Instr.build 67 #[]).run Tryz.prog W = .ok (.agg #[.int .i64 0, .int .i64 0, .int .i64 0, .string ⟨#[]⟩, .slice none 0 0, .bool false]) W := fun W => by kernel_rfl
  clear h
  go_enter Tryz.func84, Tryz.ntmps84
  go_wp2_with fail
  refine c.mono ?_
  rintro e w' ⟨rfl, rfl⟩
  have hold := heap_r0 w (.cells #[.int .i64 0, .int .i64 0, .int .i64 0, .string ⟨#[]⟩, .slice none 0 0, .bool false] 67)
  go_wp2_with ((with_reducible apply step_store hold); rfl; rfl; kernel_rfl; rfl; kernel_rfl)
  refine ret_rowb (p := 4) (q := 5) ?_ ?_ (setRow_heap _ _ _ _ _ _ hold) ?_ ?_
  · rfl
  · rfl
  · rfl
  · exact ⟨rfl, below_setRow hB (Nat.le_refl _) _⟩

theorem build_O (i k e n : Int) (t : ByteArray) (p : Option Addr) (a u : Nat) (d : Bool) (W : World) : (Instr.build TO #[(0, .int .i64 i), (1, .agg #[.int .i64 k, .int .i64 e, .int .i64 n, .string t, .slice p a u, .bool d])]).run Tryz.prog W = .ok (.agg #[.int .i64 i, .int .i64 k, .int .i64 e, .int .i64 n, .string t, .slice p a u, .bool d]) W := by kernel_rfl
theorem build_O0 (W : World) : (Instr.build TO #[]).run Tryz.prog W = .ok (.agg #[.int .i64 0, .int .i64 0, .int .i64 0, .int .i64 0, .string ⟨#[]⟩, .slice none 0 0, .bool false]) W := by kernel_rfl
def zeroOp : Value := .agg #[.int .i64 0, .int .i64 0, .int .i64 0, .int .i64 0, .string ⟨#[]⟩, .slice none 0 0, .bool false]

set_option maxHeartbeats 2000000 in
theorem operandOf_c (h : Tab B w b mb v rs ps) (hs : Small rs) {i : Nat} {p : Rw × Value} (hp : rs[i]? = some p) :
    Calls Tryz.prog 39 #[.pointer (some ⟨b, 0, none⟩), .int .i64 i] w fun e w' => (∃ q a u, e = .returned (.tuple #[.agg #[.int .i64 i, .int .i64 p.1.kind, .int .i64 p.1.elem, .int .i64 p.1.len, .string p.1.tag, .slice q a u, .bool p.1.done], .int .i64 0])) ∧ Below w.heap.size w w' := by
  have hlt : i < rs.length := (List.getElem?_eq_some_iff.1 hp).1
  have hl := h.len
  have h1 := not_t
  have hB : Below w.heap.size w (w.alloc (.cells #[.int .i64 0, .int .i64 0, .int .i64 0, .int .i64 0, .string ⟨#[]⟩, .slice none 0 0, .bool false] TO)) := below1 w _
  have E0 : Hid (_ = _) := heap_r0 w (.cells #[.int .i64 0, .int .i64 0, .int .i64 0, .int .i64 0, .string ⟨#[]⟩, .slice none 0 0, .bool false] TO)
  have hsz := lt_of_heap E0.out
  have h2 := h.keptB hB
  have HB : Hid (Below _ _ _) := hB
  have c1 := len_c h2 (by omega)
  have c2 := row_c h2 hp hs
  have hne : ((rs.length : Int) == 0) = false := beq_eq_false_iff_ne.2 (by omega)
  obtain ⟨⟨kd, el, ln, tg, mm, dn⟩, s0⟩ := p
  simp only [rwCells] at c2
  have hbo := build_O
  clear h h2 hB hp hs
  go_enter Tryz.func39, Tryz.ntmps39
  go_wp2_with fail
  generalize w.alloc (.cells #[.int .i64 0, .int .i64 0, .int .i64 0, .int .i64 0, .string ⟨#[]⟩, .slice none 0 0, .bool false] TO) = W at *
  refine c1.mono ?_
  rintro e w' ⟨rfl, hw⟩
  rw [hw]
  clear hw w' c1
  go_wp2_with fail
  refine c2.mono ?_
  rintro e w2 ⟨s', rfl, hown, hb2⟩
  obtain ⟨sp, sc, rfl⟩ := slice_of_own hown
  have hold := heap_r0 w2 (.cells #[.int .i64 0, .int .i64 0, .int .i64 0, .string ⟨#[]⟩, .slice none 0 0, .bool false] TR)
  have E2 : w2.heap[w.heap.size]? = some (.cells #[.int .i64 0, .int .i64 0, .int .i64 0, .int .i64 0, .string ⟨#[]⟩, .slice none 0 0, .bool false] TO (0, 0)) := (hb2.block _ hsz).trans E0.out
  have hlt2 := lt_of_heap E2
  have hB3 : Below w2.heap.size w2 (w2.alloc (.cells #[.int .i64 kd, .int .i64 el, .int .i64 ln, .string tg, .slice sp mm.length sc, .bool dn] TR)) := below1 w2 _
  have E3 : Hid (_ = _) := (hB3.block _ hlt2).trans E2
  have HB3 : Hid (Below w.heap.size w (w2.alloc (.cells #[.int .i64 kd, .int .i64 el, .int .i64 ln, .string tg, .slice sp mm.length sc, .bool dn] TR))) := HB.out.trans ((hb2.trans (hB3.mono hb2.size)).mono HB.out.size)
  clear hown hb2 c2 E2 hB3 E0
  go_wp2_with (first | ((with_reducible apply step_store hold); rfl; rfl; kernel_rfl; rfl; kernel_rfl; rw [World.setRow_alloc_new]) | ((with_reducible apply step_store E3.out); rfl; rfl; kernel_rfl; rfl; kernel_rfl))
  refine ret_st (p := 4) (q := 5) rfl rfl (run_loadVar_row _ _ _ _ _ (0, 0) _ (setRow_heap _ _ _ _ _ _ E3.out) Tryz.underlying69 rfl (by kernel_rfl)) ?_
  exact ⟨⟨_, _, _, rfl⟩, below_setRow HB3.out (Nat.le_refl _) _⟩
set_option maxHeartbeats 2000000 in
theorem operandOf_bad (h : Tab B w b mb v rs ps) (h0 : 0 < rs.length) (id : Int) (hid : hasP rs.length id = false) :
    Calls Tryz.prog 39 #[.pointer (some ⟨b, 0, none⟩), .int .i64 id] w fun e w' => e = .returned (.tuple #[zeroOp, .int .i64 30]) ∧ Below w.heap.size w w' := by
  have hl := h.len
  have h1 := not_f
  have hB : Below w.heap.size w (w.alloc (.cells #[.int .i64 0, .int .i64 0, .int .i64 0, .int .i64 0, .string ⟨#[]⟩, .slice none 0 0, .bool false] TO)) := below1 w _
  have E0 : Hid (_ = _) := heap_r0 w (.cells #[.int .i64 0, .int .i64 0, .int .i64 0, .int .i64 0, .string ⟨#[]⟩, .slice none 0 0, .bool false] TO)
  have hsz := lt_of_heap E0.out
  have h2 := h.keptB hB
  have HB : Hid (Below _ _ _) := hB
  have c1 := len_c h2 h0
  have c2 := row_none h2 h0 id hid
  unfold zeroRow at c2
  unfold zeroOp
  have hne : ((rs.length : Int) == 0) = false := beq_eq_false_iff_ne.2 (by omega)
  have hbo := build_O0
  clear h h2 hB
  go_enter Tryz.func39, Tryz.ntmps39
  go_wp2_with fail
  generalize w.alloc (.cells #[.int .i64 0, .int .i64 0, .int .i64 0, .int .i64 0, .string ⟨#[]⟩, .slice none 0 0, .bool false] TO) = W at *
  refine c1.mono ?_
  rintro e w' ⟨rfl, hw⟩
  rw [hw]
  clear hw w' c1
  go_wp2_with fail
  refine c2.mono ?_
  rintro e w2 ⟨rfl, hb2⟩
  have hold := heap_r0 w2 (.cells #[.int .i64 0, .int .i64 0, .int .i64 0, .string ⟨#[]⟩, .slice none 0 0, .bool false] TR)
  have E2 : w2.heap[w.heap.size]? = some (.cells #[.int .i64 0, .int .i64 0, .int .i64 0, .int .i64 0, .string ⟨#[]⟩, .slice none 0 0, .bool false] TO (0, 0)) := (hb2.block _ hsz).trans E0.out
  have hlt2 := lt_of_heap E2
  have hB3 : Below w2.heap.size w2 (w2.alloc (.cells #[.int .i64 0, .int .i64 0, .int .i64 0, .string ⟨#[]⟩, .slice none 0 0, .bool false] TR)) := below1 w2 _
  have E3 : Hid (_ = _) := (hB3.block _ hlt2).trans E2
  have HB3 : Hid (Below w.heap.size w (w2.alloc (.cells #[.int .i64 0, .int .i64 0, .int .i64 0, .string ⟨#[]⟩, .slice none 0 0, .bool false] TR))) := HB.out.trans ((hb2.trans (hB3.mono hb2.size)).mono HB.out.size)
  clear hb2 c2 E2 hB3 E0
  go_wp2_with (first | ((with_reducible apply step_store hold); rfl; rfl; kernel_rfl; rfl; kernel_rfl; rw [World.setRow_alloc_new]) | ((with_reducible apply step_store E3.out); rfl; rfl; kernel_rfl; rfl; kernel_rfl))
  refine ret_st (p := 4) (q := 5) rfl rfl (run_loadVar_row _ _ _ _ _ (0, 0) _ (setRow_heap _ _ _ _ _ _ E3.out) Tryz.underlying69 rfl (by kernel_rfl)) ?_
  exact ⟨rfl, below_setRow HB3.out (Nat.le_refl _) _⟩
end
section
variable {w : World}
set_option maxHeartbeats 2000000 in
theorem operandOf_no {v : Value} (h : NoT v w) (id : Int) :
    Calls Tryz.prog 39 #[v, .int .i64 id] w fun e w' => e = .returned (.tuple #[zeroOp, .int .i64 1]) ∧ Below w.heap.size w w' := by
  have hB : Below w.heap.size w (w.alloc (.cells #[.int .i64 0, .int .i64 0, .int .i64 0, .int .i64 0, .string ⟨#[]⟩, .slice none 0 0, .bool false] TO)) := below1 w _
  have E0 : Hid (_ = _) := heap_r0 w (.cells #[.int .i64 0, .int .i64 0, .int .i64 0, .int .i64 0, .string ⟨#[]⟩, .slice none 0 0, .bool false] TO)
  have HB : Hid (Below _ _ _) := hB
  have c1 := len_no (noT_below h hB)
  unfold zeroOp
  have hbo := build_O0
  clear h hB
  go_enter Tryz.func39, Tryz.ntmps39
  go_wp2_with fail
  generalize w.alloc (.cells #[.int .i64 0, .int .i64 0, .int .i64 0, .int .i64 0, .string ⟨#[]⟩, .slice none 0 0, .bool false] TO) = W at *
  refine c1.mono ?_
  rintro e w' ⟨rfl, hw⟩
  rw [hw]
  clear hw w' c1
  go_wp2_with ((with_reducible apply step_store E0.out); rfl; rfl; kernel_rfl; rfl; kernel_rfl)
  refine ret_st (p := 4) (q := 5) rfl rfl (run_loadVar_row _ _ _ _ _ (0, 0) _ (setRow_heap _ _ _ _ _ _ E0.out) Tryz.underlying69 rfl (by kernel_rfl)) ?_
  exact ⟨rfl, below_setRow HB.out (Nat.le_refl _) _⟩
end
end Go.Proofs.YtpnpilbmhkiphaaGreatDoor
namespace Go.Proofs.YtpnpilbmhkiphaaGreatDoor
open Go.RowKit Go.Maps
set_option linter.unusedVariables false
set_option maxRecDepth 100000

section
variable {w : World}
theorem cells7 {g : Nat} {T : TypeId} {x0 x1 x2 x3 x4 x5 x6 : Value} (h : w.heap[g]? = some (.cells #[x0, x1, x2, x3, x4, x5, x6] T (0, 0))) : w.cell? ⟨g, 0, none⟩ = some x0 ∧ w.cell? ⟨g, 1, none⟩ = some x1 ∧ w.cell? ⟨g, 2, none⟩ = some x2 ∧ w.cell? ⟨g, 3, none⟩ = some x3 ∧ w.cell? ⟨g, 4, none⟩ = some x4 ∧ w.cell? ⟨g, 5, none⟩ = some x5 ∧ w.cell? ⟨g, 6, none⟩ = some x6 :=
  ⟨Lib.cell_of_heap h 0, Lib.cell_of_heap h 1, Lib.cell_of_heap h 2, Lib.cell_of_heap h 3, Lib.cell_of_heap h 4, Lib.cell_of_heap h 5, Lib.cell_of_heap h 6⟩
theorem build_P (tp : Option Addr) (i1 k1 e1 n1 : Int) (t1 : ByteArray) (p1 : Option Addr) (a1 u1 : Nat) (d1 : Bool) (i2 k2 e2 n2 : Int) (t2 : ByteArray) (p2 : Option Addr) (a2 u2 : Nat) (d2 : Bool) (W : World) : (Instr.build TP #[(0, .pointer tp), (2, .agg #[.int .i64 i1, .int .i64 k1, .int .i64 e1, .int .i64 n1, .string t1, .slice p1 a1 u1, .bool d1]), (3, .agg #[.int .i64 i2, .int .i64 k2, .int .i64 e2, .int .i64 n2, .string t2, .slice p2 a2 u2, .bool d2])]).run Tryz.prog W = .ok (.agg #[.pointer tp, .string ⟨#[]⟩, .int .i64 i1, .int .i64 k1, .int .i64 e1, .int .i64 n1, .string t1, .slice p1 a1 u1, .bool d1, .int .i64 i2, .int .i64 k2, .int .i64 e2, .int .i64 n2, .string t2, .slice p2 a2 u2, .bool d2]) W := by kernel_rfl
theorem build_P0 (W : World) : (Instr.build TP #[]).run Tryz.prog W = .ok (.agg #[.pointer none, .string ⟨#[]⟩, .int .i64 0, .int .i64 0, .int .i64 0, .int .i64 0, .string ⟨#[]⟩, .slice none 0 0, .bool false, .int .i64 0, .int .i64 0, .int .i64 0, .int .i64 0, .string ⟨#[]⟩, .slice none 0 0, .bool false]) W := by kernel_rfl
def zeroPair : Value := .agg #[.pointer none, .string ⟨#[]⟩, .int .i64 0, .int .i64 0, .int .i64 0, .int .i64 0, .string ⟨#[]⟩, .slice none 0 0, .bool false, .int .i64 0, .int .i64 0, .int .i64 0, .int .i64 0, .string ⟨#[]⟩, .slice none 0 0, .bool false]

set_option maxHeartbeats 4000000 in
theorem pair_of {tp : Option Addr} {x y : Int} {i1 k1 e1 n1 : Int} {t1 : ByteArray} {d1 : Bool} {i2 k2 e2 n2 : Int} {t2 : ByteArray} {d2 : Bool}
    (c1 : ∀ W, Below w.heap.size w W → Calls Tryz.prog 39 #[.pointer tp, .int .i64 x] W fun e w' => (∃ p1 a1 u1, e = .returned (.tuple #[.agg #[.int .i64 i1, .int .i64 k1, .int .i64 e1, .int .i64 n1, .string t1, .slice p1 a1 u1, .bool d1], .int .i64 0])) ∧ Below W.heap.size W w')
    (c2 : ∀ W, Below w.heap.size w W → Calls Tryz.prog 39 #[.pointer tp, .int .i64 y] W fun e w' => (∃ p2 a2 u2, e = .returned (.tuple #[.agg #[.int .i64 i2, .int .i64 k2, .int .i64 e2, .int .i64 n2, .string t2, .slice p2 a2 u2, .bool d2], .int .i64 0])) ∧ Below W.heap.size W w') :
    Calls Tryz.prog 31 #[.pointer tp, .int .i64 x, .int .i64 y] w fun e w' => (∃ p1 a1 u1 p2 a2 u2, e = .returned (.tuple #[.agg #[.pointer tp, .string ⟨#[]⟩, .int .i64 i1, .int .i64 k1, .int .i64 e1, .int .i64 n1, .string t1, .slice p1 a1 u1, .bool d1, .int .i64 i2, .int .i64 k2, .int .i64 e2, .int .i64 n2, .string t2, .slice p2 a2 u2, .bool d2], .int .i64 0])) ∧ Below w.heap.size w w' := by
  have E0 : Hid (_ = _) := heap_r0 w (.cells #[.pointer none, .string ⟨#[]⟩, .int .i64 0, .int .i64 0, .int .i64 0, .int .i64 0, .string ⟨#[]⟩, .slice none 0 0, .bool false, .int .i64 0, .int .i64 0, .int .i64 0, .int .i64 0, .string ⟨#[]⟩, .slice none 0 0, .bool false] TP)
  have hsz := lt_of_heap E0.out
  have HB : Hid (Below _ _ _) := below1 w (.cells #[.pointer none, .string ⟨#[]⟩, .int .i64 0, .int .i64 0, .int .i64 0, .int .i64 0, .string ⟨#[]⟩, .slice none 0 0, .bool false, .int .i64 0, .int .i64 0, .int .i64 0, .int .i64 0, .string ⟨#[]⟩, .slice none 0 0, .bool false] TP)
  have C1 : Hid (∀ W, Below w.heap.size w W → Calls Tryz.prog 39 #[.pointer tp, .int .i64 x] W fun e w' => (∃ p1 a1 u1, e = .returned (.tuple #[.agg #[.int .i64 i1, .int .i64 k1, .int .i64 e1, .int .i64 n1, .string t1, .slice p1 a1 u1, .bool d1], .int .i64 0])) ∧ Below W.heap.size W w') := c1
  have C2 : Hid (∀ W, Below w.heap.size w W → Calls Tryz.prog 39 #[.pointer tp, .int .i64 y] W fun e w' => (∃ p2 a2 u2, e = .returned (.tuple #[.agg #[.int .i64 i2, .int .i64 k2, .int .i64 e2, .int .i64 n2, .string t2, .slice p2 a2 u2, .bool d2], .int .i64 0])) ∧ Below W.heap.size W w') := c2
  have hbp := build_P
  clear c1 c2
  go_enter Tryz.func31, Tryz.ntmps31
  go_wp2_with fail
  generalize w.alloc (.cells #[.pointer none, .string ⟨#[]⟩, .int .i64 0, .int .i64 0, .int .i64 0, .int .i64 0, .string ⟨#[]⟩, .slice none 0 0, .bool false, .int .i64 0, .int .i64 0, .int .i64 0, .int .i64 0, .string ⟨#[]⟩, .slice none 0 0, .bool false] TP) = W at *
  refine (C1.out _ HB.out).mono ?_
  rintro e w2 ⟨⟨p1, a1, u1, rfl⟩, hb2⟩
  have hold := heap_r0 w2 (.cells #[.int .i64 0, .int .i64 0, .int .i64 0, .int .i64 0, .string ⟨#[]⟩, .slice none 0 0, .bool false] TO)
  have E2 : w2.heap[w.heap.size]? = some (.cells #[.pointer none, .string ⟨#[]⟩, .int .i64 0, .int .i64 0, .int .i64 0, .int .i64 0, .string ⟨#[]⟩, .slice none 0 0, .bool false, .int .i64 0, .int .i64 0, .int .i64 0, .int .i64 0, .string ⟨#[]⟩, .slice none 0 0, .bool false] TP (0, 0)) := (hb2.block _ hsz).trans E0.out
  have hlt2 := lt_of_heap E2
  have hB3 : Below w2.heap.size w2 (w2.alloc (.cells #[.int .i64 i1, .int .i64 k1, .int .i64 e1, .int .i64 n1, .string t1, .slice p1 a1 u1, .bool d1] TO)) := below1 w2 _
  have E3 : Hid (_ = _) := (hB3.block _ hlt2).trans E2
  have F3 : Hid (_ = _) := heap_r0 w2 (.cells #[.int .i64 i1, .int .i64 k1, .int .i64 e1, .int .i64 n1, .string t1, .slice p1 a1 u1, .bool d1] TO)
  have HB3 : Hid (Below w.heap.size w (w2.alloc (.cells #[.int .i64 i1, .int .i64 k1, .int .i64 e1, .int .i64 n1, .string t1, .slice p1 a1 u1, .bool d1] TO))) := HB.out.trans ((hb2.trans (hB3.mono hb2.size)).mono HB.out.size)
  clear hb2 C1 E2 hB3 E0 HB
  go_wp2_with (first | ((with_reducible apply step_store hold); rfl; rfl; kernel_rfl; rfl; kernel_rfl; rw [World.setRow_alloc_new]) | fail)
  generalize w2.alloc (.cells #[.int .i64 i1, .int .i64 k1, .int .i64 e1, .int .i64 n1, .string t1, .slice p1 a1 u1, .bool d1] TO) = W3 at *
  clear hold
  refine (C2.out _ HB3.out).mono ?_
  rintro e w4 ⟨⟨p2, a2, u2, rfl⟩, hb4⟩
  have hold := heap_r0 w4 (.cells #[.int .i64 0, .int .i64 0, .int .i64 0, .int .i64 0, .string ⟨#[]⟩, .slice none 0 0, .bool false] TO)
  have E4 : w4.heap[w.heap.size]? = some (.cells #[.pointer none, .string ⟨#[]⟩, .int .i64 0, .int .i64 0, .int .i64 0, .int .i64 0, .string ⟨#[]⟩, .slice none 0 0, .bool false, .int .i64 0, .int .i64 0, .int .i64 0, .int .i64 0, .string ⟨#[]⟩, .slice none 0 0, .bool false] TP (0, 0)) := (hb4.block _ (lt_of_heap E3.out)).trans E3.out
  have F4 : w4.heap[w2.heap.size]? = some (.cells #[.int .i64 i1, .int .i64 k1, .int .i64 e1, .int .i64 n1, .string t1, .slice p1 a1 u1, .bool d1] TO (0, 0)) := (hb4.block _ (lt_of_heap F3.out)).trans F3.out
  have hB5 : Below w4.heap.size w4 (w4.alloc (.cells #[.int .i64 i2, .int .i64 k2, .int .i64 e2, .int .i64 n2, .string t2, .slice p2 a2 u2, .bool d2] TO)) := below1 w4 _
  have E5 : Hid (_ = _) := (hB5.block _ (lt_of_heap E4)).trans E4
  have F5 := (hB5.block _ (lt_of_heap F4)).trans F4
  have G5 := heap_r0 w4 (.cells #[.int .i64 i2, .int .i64 k2, .int .i64 e2, .int .i64 n2, .string t2, .slice p2 a2 u2, .bool d2] TO)
  have HB5 : Hid (Below w.heap.size w (w4.alloc (.cells #[.int .i64 i2, .int .i64 k2, .int .i64 e2, .int .i64 n2, .string t2, .slice p2 a2 u2, .bool d2] TO))) := HB3.out.trans ((hb4.trans (hB5.mono hb4.size)).mono HB3.out.size)
  obtain ⟨f0, f1, f2, f3, f4, f5, f6⟩ := cells7 F5
  clear hb4 C2 E4 F4 hB5 E3 F3 HB3 F5 G5
  go_wp2_with (first | ((with_reducible apply step_store hold); rfl; rfl; kernel_rfl; rfl; kernel_rfl; rw [World.setRow_alloc_new]) | ((with_reducible apply step_store E5.out); rfl; rfl; kernel_rfl; rfl; kernel_rfl))
  refine ret_st (p := 6) (q := 7) rfl rfl (run_loadVar_row _ _ _ _ _ (0, 0) _ (setRow_heap _ _ _ _ _ _ E5.out) Tryz.underlying71 rfl (by kernel_rfl)) ?_
  exact ⟨⟨_, _, _, _, _, _, rfl⟩, below_setRow HB5.out (Nat.le_refl _) _⟩
set_option maxHeartbeats 4000000 in
theorem pair_bad1 {tp : Value} {x y er : Int} (he : (er == 0) = false) (htp : ∃ q, tp = .pointer q)
    (c1 : ∀ W, Below w.heap.size w W → Calls Tryz.prog 39 #[tp, .int .i64 x] W fun e w' => e = .returned (.tuple #[zeroOp, .int .i64 er]) ∧ Below W.heap.size W w') :
    Calls Tryz.prog 31 #[tp, .int .i64 x, .int .i64 y] w fun e w' => e = .returned (.tuple #[zeroPair, .int .i64 er]) ∧ Below w.heap.size w w' := by
  have E0 : Hid (_ = _) := heap_r0 w (.cells #[.pointer none, .string ⟨#[]⟩, .int .i64 0, .int .i64 0, .int .i64 0, .int .i64 0, .string ⟨#[]⟩, .slice none 0 0, .bool false, .int .i64 0, .int .i64 0, .int .i64 0, .int .i64 0, .string ⟨#[]⟩, .slice none 0 0, .bool false] TP)
  have hsz := lt_of_heap E0.out
  have HB : Hid (Below _ _ _) := below1 w (.cells #[.pointer none, .string ⟨#[]⟩, .int .i64 0, .int .i64 0, .int .i64 0, .int .i64 0, .string ⟨#[]⟩, .slice none 0 0, .bool false, .int .i64 0, .int .i64 0, .int .i64 0, .int .i64 0, .string ⟨#[]⟩, .slice none 0 0, .bool false] TP)
  have hbp := build_P0
  have he2 : (er != 0) = true := by simp only [bne, he]; rfl
  unfold zeroOp at c1
  unfold zeroPair
  obtain ⟨q, rfl⟩ := htp
  have C1 : Hid (∀ W, Below w.heap.size w W → Calls Tryz.prog 39 #[.pointer q, .int .i64 x] W fun e w' => e = .returned (.tuple #[.agg #[.int .i64 0, .int .i64 0, .int .i64 0, .int .i64 0, .string ⟨#[]⟩, .slice none 0 0, .bool false], .int .i64 er]) ∧ Below W.heap.size W w') := c1
  clear c1
  go_enter Tryz.func31, Tryz.ntmps31
  go_wp2_with fail
  generalize w.alloc (.cells #[.pointer none, .string ⟨#[]⟩, .int .i64 0, .int .i64 0, .int .i64 0, .int .i64 0, .string ⟨#[]⟩, .slice none 0 0, .bool false, .int .i64 0, .int .i64 0, .int .i64 0, .int .i64 0, .string ⟨#[]⟩, .slice none 0 0, .bool false] TP) = W at *
  refine (C1.out _ HB.out).mono ?_
  rintro e w2 ⟨rfl, hb2⟩
  have hold := heap_r0 w2 (.cells #[.int .i64 0, .int .i64 0, .int .i64 0, .int .i64 0, .string ⟨#[]⟩, .slice none 0 0, .bool false] TO)
  have E2 : w2.heap[w.heap.size]? = some (.cells #[.pointer none, .string ⟨#[]⟩, .int .i64 0, .int .i64 0, .int .i64 0, .int .i64 0, .string ⟨#[]⟩, .slice none 0 0, .bool false, .int .i64 0, .int .i64 0, .int .i64 0, .int .i64 0, .string ⟨#[]⟩, .slice none 0 0, .bool false] TP (0, 0)) := (hb2.block _ hsz).trans E0.out
  have hlt2 := lt_of_heap E2
  have hB3 : Below w2.heap.size w2 (w2.alloc (.cells #[.int .i64 0, .int .i64 0, .int .i64 0, .int .i64 0, .string ⟨#[]⟩, .slice none 0 0, .bool false] TO)) := below1 w2 _
  have E3 : Hid (_ = _) := (hB3.block _ hlt2).trans E2
  have HB3 : Hid (Below w.heap.size w (w2.alloc (.cells #[.int .i64 0, .int .i64 0, .int .i64 0, .int .i64 0, .string ⟨#[]⟩, .slice none 0 0, .bool false] TO))) := HB.out.trans ((hb2.trans (hB3.mono hb2.size)).mono HB.out.size)
  clear hb2 C1 E2 hB3 E0 HB
  go_wp2_with (first | ((with_reducible apply step_store hold); rfl; rfl; kernel_rfl; rfl; kernel_rfl; rw [World.setRow_alloc_new]) | ((with_reducible apply step_store E3.out); rfl; rfl; kernel_rfl; rfl; kernel_rfl))
  refine ret_st (p := 6) (q := 7) rfl rfl (run_loadVar_row _ _ _ _ _ (0, 0) _ (setRow_heap _ _ _ _ _ _ E3.out) Tryz.underlying71 rfl (by kernel_rfl)) ?_
  exact ⟨rfl, below_setRow HB3.out (Nat.le_refl _) _⟩
end
end Go.Proofs.YtpnpilbmhkiphaaGreatDoor
namespace Go.Proofs.YtpnpilbmhkiphaaGreatDoor
open Go.RowKit Go.Maps
set_option linter.unusedVariables false
set_option maxRecDepth 100000

section
set_option maxHeartbeats 1000000 in
theorem pSame_c (tp : Option Addr) (op : ByteArray) (i1 k1 e1 n1 : Int) (t1 : ByteArray) (p1 : Option Addr) (a1 u1 : Nat) (d1 : Bool) (i2 k2 e2 n2 : Int) (t2 : ByteArray) (p2 : Option Addr) (a2 u2 : Nat) (d2 : Bool) (w : World) : Calls Tryz.prog 90 #[.agg #[.pointer tp, .string op, .int .i64 i1, .int .i64 k1, .int .i64 e1, .int .i64 n1, .string t1, .slice p1 a1 u1, .bool d1, .int .i64 i2, .int .i64 k2, .int .i64 e2, .int .i64 n2, .string t2, .slice p2 a2 u2, .bool d2]] w fun e w' => e = .returned (.bool (i1 == i2)) ∧ Below w.heap.size w w' := by
  have HB : Hid (Below w.heap.size w (w.alloc (.cells #[.pointer tp, .string op, .int .i64 i1, .int .i64 k1, .int .i64 e1, .int .i64 n1, .string t1, .slice p1 a1 u1, .bool d1, .int .i64 i2, .int .i64 k2, .int .i64 e2, .int .i64 n2, .string t2, .slice p2 a2 u2, .bool d2] TP))) := below1 w _
  go_enter Tryz.func90, Tryz.ntmps90
  go_wp2
  go_ret
  exact ⟨rfl, HB.out⟩
set_option maxHeartbeats 1000000 in
theorem pInts_c (tp : Option Addr) (op : ByteArray) (i1 k1 e1 n1 : Int) (t1 : ByteArray) (p1 : Option Addr) (a1 u1 : Nat) (d1 : Bool) (i2 k2 e2 n2 : Int) (t2 : ByteArray) (p2 : Option Addr) (a2 u2 : Nat) (d2 : Bool) (w : World) : Calls Tryz.prog 45 #[.agg #[.pointer tp, .string op, .int .i64 i1, .int .i64 k1, .int .i64 e1, .int .i64 n1, .string t1, .slice p1 a1 u1, .bool d1, .int .i64 i2, .int .i64 k2, .int .i64 e2, .int .i64 n2, .string t2, .slice p2 a2 u2, .bool d2]] w fun e w' => e = .returned (.bool ((intK k1) && (intK k2))) ∧ Below w.heap.size w w' := by
  have c1 := fun W => oInt_c i1 k1 e1 n1 t1 p1 a1 u1 d1 W
  have c2 := fun W => oInt_c i2 k2 e2 n2 t2 p2 a2 u2 d2 W
  have E0 : Hid (∀ Y, Below (w.alloc (.cells #[.pointer tp, .string op, .int .i64 i1, .int .i64 k1, .int .i64 e1, .int .i64 n1, .string t1, .slice p1 a1 u1, .bool d1, .int .i64 i2, .int .i64 k2, .int .i64 e2, .int .i64 n2, .string t2, .slice p2 a2 u2, .bool d2] TP)).heap.size (w.alloc (.cells #[.pointer tp, .string op, .int .i64 i1, .int .i64 k1, .int .i64 e1, .int .i64 n1, .string t1, .slice p1 a1 u1, .bool d1, .int .i64 i2, .int .i64 k2, .int .i64 e2, .int .i64 n2, .string t2, .slice p2 a2 u2, .bool d2] TP)) Y → Below w.heap.size w Y) := fun Y h => below_box h
  have HC : Hid (∀ Y, Below (w.alloc (.cells #[.pointer tp, .string op, .int .i64 i1, .int .i64 k1, .int .i64 e1, .int .i64 n1, .string t1, .slice p1 a1 u1, .bool d1, .int .i64 i2, .int .i64 k2, .int .i64 e2, .int .i64 n2, .string t2, .slice p2 a2 u2, .bool d2] TP)).heap.size (w.alloc (.cells #[.pointer tp, .string op, .int .i64 i1, .int .i64 k1, .int .i64 e1, .int .i64 n1, .string t1, .slice p1 a1 u1, .bool d1, .int .i64 i2, .int .i64 k2, .int .i64 e2, .int .i64 n2, .string t2, .slice p2 a2 u2, .bool d2] TP)) Y → InP Y w.heap.size #[.pointer tp, .string op, .int .i64 i1, .int .i64 k1, .int .i64 e1, .int .i64 n1, .string t1, .slice p1 a1 u1, .bool d1, .int .i64 i2, .int .i64 k2, .int .i64 e2, .int .i64 n2, .string t2, .slice p2 a2 u2, .bool d2]) := fun Y h => inP_box h
  obtain ⟨L0, L1, L2⟩ := load_P (HC.out _ (Below.refl _ _))
  generalize (intK k1) = z1 at c1 ⊢
  generalize (intK k2) = z2 at c2 ⊢
  cases z1 with
  | false =>
    clear c2
    go_enter Tryz.func45, Tryz.ntmps45
    go_wp2_with (first | ((with_reducible apply step_load L0); rfl; rfl) | ((with_reducible apply step_load L1); rfl; rfl) | ((with_reducible apply step_load L2); rfl; rfl) | fail)
    generalize w.alloc (.cells #[.pointer tp, .string op, .int .i64 i1, .int .i64 k1, .int .i64 e1, .int .i64 n1, .string t1, .slice p1 a1 u1, .bool d1, .int .i64 i2, .int .i64 k2, .int .i64 e2, .int .i64 n2, .string t2, .slice p2 a2 u2, .bool d2] TP) = W at *
    refine (c1 _).mono ?_
    rintro e w1 ⟨rfl, hb⟩
    have Hw1 : Hid (Below W.heap.size W w1) := hb
    clear hb c1 L0 L1 L2
    obtain ⟨L0, L1, L2⟩ := load_P (HC.out _ Hw1.out)
    clear L0 L1 L2
    go_wp2
    go_ret
    exact ⟨rfl, E0.out _ Hw1.out⟩
  | true =>
    go_enter Tryz.func45, Tryz.ntmps45
    go_wp2_with (first | ((with_reducible apply step_load L0); rfl; rfl) | ((with_reducible apply step_load L1); rfl; rfl) | ((with_reducible apply step_load L2); rfl; rfl) | fail)
    generalize w.alloc (.cells #[.pointer tp, .string op, .int .i64 i1, .int .i64 k1, .int .i64 e1, .int .i64 n1, .string t1, .slice p1 a1 u1, .bool d1, .int .i64 i2, .int .i64 k2, .int .i64 e2, .int .i64 n2, .string t2, .slice p2 a2 u2, .bool d2] TP) = W at *
    refine (c1 _).mono ?_
    rintro e w1 ⟨rfl, hb⟩
    have Hw1 : Hid (Below W.heap.size W w1) := hb
    clear hb c1 L0 L1 L2
    obtain ⟨L0, L1, L2⟩ := load_P (HC.out _ Hw1.out)
    go_wp2_with (first | ((with_reducible apply step_load L0); rfl; rfl) | ((with_reducible apply step_load L1); rfl; rfl) | ((with_reducible apply step_load L2); rfl; rfl) | fail)
    refine (c2 _).mono ?_
    rintro e w2 ⟨rfl, hb⟩
    have Hw2 : Hid (Below W.heap.size W w2) := Hw1.out.trans (hb.mono Hw1.out.size)
    clear hb c2 L0 L1 L2
    obtain ⟨L0, L1, L2⟩ := load_P (HC.out _ Hw2.out)
    clear L0 L1 L2
    go_wp2
    go_ret
    exact ⟨rfl, E0.out _ Hw2.out⟩
set_option maxHeartbeats 1000000 in
theorem pPtrs_c (tp : Option Addr) (op : ByteArray) (i1 k1 e1 n1 : Int) (t1 : ByteArray) (p1 : Option Addr) (a1 u1 : Nat) (d1 : Bool) (i2 k2 e2 n2 : Int) (t2 : ByteArray) (p2 : Option Addr) (a2 u2 : Nat) (d2 : Bool) (w : World) : Calls Tryz.prog 54 #[.agg #[.pointer tp, .string op, .int .i64 i1, .int .i64 k1, .int .i64 e1, .int .i64 n1, .string t1, .slice p1 a1 u1, .bool d1, .int .i64 i2, .int .i64 k2, .int .i64 e2, .int .i64 n2, .string t2, .slice p2 a2 u2, .bool d2]] w fun e w' => e = .returned (.bool ((k1 == 13) && (k2 == 13))) ∧ Below w.heap.size w w' := by
  have c1 := fun W => oPtr_c i1 k1 e1 n1 t1 p1 a1 u1 d1 W
  have c2 := fun W => oPtr_c i2 k2 e2 n2 t2 p2 a2 u2 d2 W
  have E0 : Hid (∀ Y, Below (w.alloc (.cells #[.pointer tp, .string op, .int .i64 i1, .int .i64 k1, .int .i64 e1, .int .i64 n1, .string t1, .slice p1 a1 u1, .bool d1, .int .i64 i2, .int .i64 k2, .int .i64 e2, .int .i64 n2, .string t2, .slice p2 a2 u2, .bool d2] TP)).heap.size (w.alloc (.cells #[.pointer tp, .string op, .int .i64 i1, .int .i64 k1, .int .i64 e1, .int .i64 n1, .string t1, .slice p1 a1 u1, .bool d1, .int .i64 i2, .int .i64 k2, .int .i64 e2, .int .i64 n2, .string t2, .slice p2 a2 u2, .bool d2] TP)) Y → Below w.heap.size w Y) := fun Y h => below_box h
  have HC : Hid (∀ Y, Below (w.alloc (.cells #[.pointer tp, .string op, .int .i64 i1, .int .i64 k1, .int .i64 e1, .int .i64 n1, .string t1, .slice p1 a1 u1, .bool d1, .int .i64 i2, .int .i64 k2, .int .i64 e2, .int .i64 n2, .string t2, .slice p2 a2 u2, .bool d2] TP)).heap.size (w.alloc (.cells #[.pointer tp, .string op, .int .i64 i1, .int .i64 k1, .int .i64 e1, .int .i64 n1, .string t1, .slice p1 a1 u1, .bool d1, .int .i64 i2, .int .i64 k2, .int .i64 e2, .int .i64 n2, .string t2, .slice p2 a2 u2, .bool d2] TP)) Y → InP Y w.heap.size #[.pointer tp, .string op, .int .i64 i1, .int .i64 k1, .int .i64 e1, .int .i64 n1, .string t1, .slice p1 a1 u1, .bool d1, .int .i64 i2, .int .i64 k2, .int .i64 e2, .int .i64 n2, .string t2, .slice p2 a2 u2, .bool d2]) := fun Y h => inP_box h
  obtain ⟨L0, L1, L2⟩ := load_P (HC.out _ (Below.refl _ _))
  generalize (k1 == 13) = z1 at c1 ⊢
  generalize (k2 == 13) = z2 at c2 ⊢
  cases z1 with
  | false =>
    clear c2
    go_enter Tryz.func54, Tryz.ntmps54
    go_wp2_with (first | ((with_reducible apply step_load L0); rfl; rfl) | ((with_reducible apply step_load L1); rfl; rfl) | ((with_reducible apply step_load L2); rfl; rfl) | fail)
    generalize w.alloc (.cells #[.pointer tp, .string op, .int .i64 i1, .int .i64 k1, .int .i64 e1, .int .i64 n1, .string t1, .slice p1 a1 u1, .bool d1, .int .i64 i2, .int .i64 k2, .int .i64 e2, .int .i64 n2, .string t2, .slice p2 a2 u2, .bool d2] TP) = W at *
    refine (c1 _).mono ?_
    rintro e w1 ⟨rfl, hb⟩
    have Hw1 : Hid (Below W.heap.size W w1) := hb
    clear hb c1 L0 L1 L2
    obtain ⟨L0, L1, L2⟩ := load_P (HC.out _ Hw1.out)
    clear L0 L1 L2
    go_wp2
    go_ret
    exact ⟨rfl, E0.out _ Hw1.out⟩
  | true =>
    go_enter Tryz.func54, Tryz.ntmps54
    go_wp2_with (first | ((with_reducible apply step_load L0); rfl; rfl) | ((with_reducible apply step_load L1); rfl; rfl) | ((with_reducible apply step_load L2); rfl; rfl) | fail)
    generalize w.alloc (.cells #[.pointer tp, .string op, .int .i64 i1, .int .i64 k1, .int .i64 e1, .int .i64 n1, .string t1, .slice p1 a1 u1, .bool d1, .int .i64 i2, .int .i64 k2, .int .i64 e2, .int .i64 n2, .string t2, .slice p2 a2 u2, .bool d2] TP) = W at *
    refine (c1 _).mono ?_
    rintro e w1 ⟨rfl, hb⟩
    have Hw1 : Hid (Below W.heap.size W w1) := hb
    clear hb c1 L0 L1 L2
    obtain ⟨L0, L1, L2⟩ := load_P (HC.out _ Hw1.out)
    go_wp2_with (first | ((with_reducible apply step_load L0); rfl; rfl) | ((with_reducible apply step_load L1); rfl; rfl) | ((with_reducible apply step_load L2); rfl; rfl) | fail)
    refine (c2 _).mono ?_
    rintro e w2 ⟨rfl, hb⟩
    have Hw2 : Hid (Below W.heap.size W w2) := Hw1.out.trans (hb.mono Hw1.out.size)
    clear hb c2 L0 L1 L2
    obtain ⟨L0, L1, L2⟩ := load_P (HC.out _ Hw2.out)
    clear L0 L1 L2
    go_wp2
    go_ret
    exact ⟨rfl, E0.out _ Hw2.out⟩
set_option maxHeartbeats 1000000 in
theorem pRecs_c (tp : Option Addr) (op : ByteArray) (i1 k1 e1 n1 : Int) (t1 : ByteArray) (p1 : Option Addr) (a1 u1 : Nat) (d1 : Bool) (i2 k2 e2 n2 : Int) (t2 : ByteArray) (p2 : Option Addr) (a2 u2 : Nat) (d2 : Bool) (w : World) : Calls Tryz.prog 49 #[.agg #[.pointer tp, .string op, .int .i64 i1, .int .i64 k1, .int .i64 e1, .int .i64 n1, .string t1, .slice p1 a1 u1, .bool d1, .int .i64 i2, .int .i64 k2, .int .i64 e2, .int .i64 n2, .string t2, .slice p2 a2 u2, .bool d2]] w fun e w' => e = .returned (.bool ((i1 == i2) && (k1 == 15 || k1 == 16))) ∧ Below w.heap.size w w' := by
  have c1 := fun W => pSame_c tp op i1 k1 e1 n1 t1 p1 a1 u1 d1 i2 k2 e2 n2 t2 p2 a2 u2 d2 W
  have E0 : Hid (∀ Y, Below (w.alloc (.cells #[.pointer tp, .string op, .int .i64 i1, .int .i64 k1, .int .i64 e1, .int .i64 n1, .string t1, .slice p1 a1 u1, .bool d1, .int .i64 i2, .int .i64 k2, .int .i64 e2, .int .i64 n2, .string t2, .slice p2 a2 u2, .bool d2] TP)).heap.size (w.alloc (.cells #[.pointer tp, .string op, .int .i64 i1, .int .i64 k1, .int .i64 e1, .int .i64 n1, .string t1, .slice p1 a1 u1, .bool d1, .int .i64 i2, .int .i64 k2, .int .i64 e2, .int .i64 n2, .string t2, .slice p2 a2 u2, .bool d2] TP)) Y → Below w.heap.size w Y) := fun Y h => below_box h
  have HC : Hid (∀ Y, Below (w.alloc (.cells #[.pointer tp, .string op, .int .i64 i1, .int .i64 k1, .int .i64 e1, .int .i64 n1, .string t1, .slice p1 a1 u1, .bool d1, .int .i64 i2, .int .i64 k2, .int .i64 e2, .int .i64 n2, .string t2, .slice p2 a2 u2, .bool d2] TP)).heap.size (w.alloc (.cells #[.pointer tp, .string op, .int .i64 i1, .int .i64 k1, .int .i64 e1, .int .i64 n1, .string t1, .slice p1 a1 u1, .bool d1, .int .i64 i2, .int .i64 k2, .int .i64 e2, .int .i64 n2, .string t2, .slice p2 a2 u2, .bool d2] TP)) Y → InP Y w.heap.size #[.pointer tp, .string op, .int .i64 i1, .int .i64 k1, .int .i64 e1, .int .i64 n1, .string t1, .slice p1 a1 u1, .bool d1, .int .i64 i2, .int .i64 k2, .int .i64 e2, .int .i64 n2, .string t2, .slice p2 a2 u2, .bool d2]) := fun Y h => inP_box h
  obtain ⟨L0, L1, L2⟩ := load_P (HC.out _ (Below.refl _ _))
  generalize (i1 == i2) = z1 at c1 ⊢
  cases z1 with
  | false =>
    go_enter Tryz.func49, Tryz.ntmps49
    go_wp2_with (first | ((with_reducible apply step_load L0); rfl; rfl) | ((with_reducible apply step_load L1); rfl; rfl) | ((with_reducible apply step_load L2); rfl; rfl) | fail)
    generalize w.alloc (.cells #[.pointer tp, .string op, .int .i64 i1, .int .i64 k1, .int .i64 e1, .int .i64 n1, .string t1, .slice p1 a1 u1, .bool d1, .int .i64 i2, .int .i64 k2, .int .i64 e2, .int .i64 n2, .string t2, .slice p2 a2 u2, .bool d2] TP) = W at *
    refine (c1 _).mono ?_
    rintro e w1 ⟨rfl, hb⟩
    have Hw1 : Hid (Below W.heap.size W w1) := hb
    clear hb c1 L0 L1 L2
    have Hq := HC.out _ Hw1.out 3
    simp only [List.getElem?_toArray, List.getElem?_cons_succ, List.getElem?_cons_zero] at Hq
    clear HC
    go_wp2
    go_ret
    exact ⟨rfl, E0.out _ Hw1.out⟩
  | true =>
    rw [Bool.true_and]
    by_cases ha : k1 = 15
    · subst ha
      go_enter Tryz.func49, Tryz.ntmps49
      go_wp2_with (first | ((with_reducible apply step_load L0); rfl; rfl) | ((with_reducible apply step_load L1); rfl; rfl) | ((with_reducible apply step_load L2); rfl; rfl) | fail)
      generalize w.alloc (.cells #[.pointer tp, .string op, .int .i64 i1, .int .i64 15, .int .i64 e1, .int .i64 n1, .string t1, .slice p1 a1 u1, .bool d1, .int .i64 i2, .int .i64 k2, .int .i64 e2, .int .i64 n2, .string t2, .slice p2 a2 u2, .bool d2] TP) = W at *
      refine (c1 _).mono ?_
      rintro e w1 ⟨rfl, hb⟩
      have Hw1 : Hid (Below W.heap.size W w1) := hb
      clear hb c1 L0 L1 L2
      have Hq := HC.out _ Hw1.out 3
      simp only [List.getElem?_toArray, List.getElem?_cons_succ, List.getElem?_cons_zero] at Hq
      clear HC
      go_wp2
      go_ret
      exact ⟨rfl, E0.out _ Hw1.out⟩
    · have dk : (k1 == 15) = false := by simpa using ha
      rw [dk, Bool.false_or]
      by_cases hb6 : k1 = 16
      · subst hb6
        go_enter Tryz.func49, Tryz.ntmps49
        go_wp2_with (first | ((with_reducible apply step_load L0); rfl; rfl) | ((with_reducible apply step_load L1); rfl; rfl) | ((with_reducible apply step_load L2); rfl; rfl) | fail)
        generalize w.alloc (.cells #[.pointer tp, .string op, .int .i64 i1, .int .i64 16, .int .i64 e1, .int .i64 n1, .string t1, .slice p1 a1 u1, .bool d1, .int .i64 i2, .int .i64 k2, .int .i64 e2, .int .i64 n2, .string t2, .slice p2 a2 u2, .bool d2] TP) = W at *
        refine (c1 _).mono ?_
        rintro e w1 ⟨rfl, hb⟩
        have Hw1 : Hid (Below W.heap.size W w1) := hb
        clear hb c1 L0 L1 L2
        have Hq := HC.out _ Hw1.out 3
        simp only [List.getElem?_toArray, List.getElem?_cons_succ, List.getElem?_cons_zero] at Hq
        clear HC
        go_wp2
        go_ret
        exact ⟨rfl, E0.out _ Hw1.out⟩
      · have dk2 : (k1 == 16) = false := by simpa using hb6
        rw [dk2]
        go_enter Tryz.func49, Tryz.ntmps49
        go_wp2_with (first | ((with_reducible apply step_load L0); rfl; rfl) | ((with_reducible apply step_load L1); rfl; rfl) | ((with_reducible apply step_load L2); rfl; rfl) | fail)
        generalize w.alloc (.cells #[.pointer tp, .string op, .int .i64 i1, .int .i64 k1, .int .i64 e1, .int .i64 n1, .string t1, .slice p1 a1 u1, .bool d1, .int .i64 i2, .int .i64 k2, .int .i64 e2, .int .i64 n2, .string t2, .slice p2 a2 u2, .bool d2] TP) = W at *
        refine (c1 _).mono ?_
        rintro e w1 ⟨rfl, hb⟩
        have Hw1 : Hid (Below W.heap.size W w1) := hb
        clear hb c1 L0 L1 L2
        have Hq := HC.out _ Hw1.out 3
        simp only [List.getElem?_toArray, List.getElem?_cons_succ, List.getElem?_cons_zero] at Hq
        clear HC
        go_wp2
        go_ret
        exact ⟨rfl, E0.out _ Hw1.out⟩
set_option maxHeartbeats 1000000 in
theorem pVoids_c (tp : Option Addr) (op : ByteArray) (i1 k1 e1 n1 : Int) (t1 : ByteArray) (p1 : Option Addr) (a1 u1 : Nat) (d1 : Bool) (i2 k2 e2 n2 : Int) (t2 : ByteArray) (p2 : Option Addr) (a2 u2 : Nat) (d2 : Bool) (w : World) : Calls Tryz.prog 50 #[.agg #[.pointer tp, .string op, .int .i64 i1, .int .i64 k1, .int .i64 e1, .int .i64 n1, .string t1, .slice p1 a1 u1, .bool d1, .int .i64 i2, .int .i64 k2, .int .i64 e2, .int .i64 n2, .string t2, .slice p2 a2 u2, .bool d2]] w fun e w' => e = .returned (.bool ((i1 == i2) && k1 == 1)) ∧ Below w.heap.size w w' := by
  have c1 := fun W => pSame_c tp op i1 k1 e1 n1 t1 p1 a1 u1 d1 i2 k2 e2 n2 t2 p2 a2 u2 d2 W
  have E0 : Hid (∀ Y, Below (w.alloc (.cells #[.pointer tp, .string op, .int .i64 i1, .int .i64 k1, .int .i64 e1, .int .i64 n1, .string t1, .slice p1 a1 u1, .bool d1, .int .i64 i2, .int .i64 k2, .int .i64 e2, .int .i64 n2, .string t2, .slice p2 a2 u2, .bool d2] TP)).heap.size (w.alloc (.cells #[.pointer tp, .string op, .int .i64 i1, .int .i64 k1, .int .i64 e1, .int .i64 n1, .string t1, .slice p1 a1 u1, .bool d1, .int .i64 i2, .int .i64 k2, .int .i64 e2, .int .i64 n2, .string t2, .slice p2 a2 u2, .bool d2] TP)) Y → Below w.heap.size w Y) := fun Y h => below_box h
  have HC : Hid (∀ Y, Below (w.alloc (.cells #[.pointer tp, .string op, .int .i64 i1, .int .i64 k1, .int .i64 e1, .int .i64 n1, .string t1, .slice p1 a1 u1, .bool d1, .int .i64 i2, .int .i64 k2, .int .i64 e2, .int .i64 n2, .string t2, .slice p2 a2 u2, .bool d2] TP)).heap.size (w.alloc (.cells #[.pointer tp, .string op, .int .i64 i1, .int .i64 k1, .int .i64 e1, .int .i64 n1, .string t1, .slice p1 a1 u1, .bool d1, .int .i64 i2, .int .i64 k2, .int .i64 e2, .int .i64 n2, .string t2, .slice p2 a2 u2, .bool d2] TP)) Y → InP Y w.heap.size #[.pointer tp, .string op, .int .i64 i1, .int .i64 k1, .int .i64 e1, .int .i64 n1, .string t1, .slice p1 a1 u1, .bool d1, .int .i64 i2, .int .i64 k2, .int .i64 e2, .int .i64 n2, .string t2, .slice p2 a2 u2, .bool d2]) := fun Y h => inP_box h
  obtain ⟨L0, L1, L2⟩ := load_P (HC.out _ (Below.refl _ _))
  generalize (i1 == i2) = z1 at c1 ⊢
  cases z1 with
  | false =>
    go_enter Tryz.func50, Tryz.ntmps50
    go_wp2_with (first | ((with_reducible apply step_load L0); rfl; rfl) | ((with_reducible apply step_load L1); rfl; rfl) | ((with_reducible apply step_load L2); rfl; rfl) | fail)
    generalize w.alloc (.cells #[.pointer tp, .string op, .int .i64 i1, .int .i64 k1, .int .i64 e1, .int .i64 n1, .string t1, .slice p1 a1 u1, .bool d1, .int .i64 i2, .int .i64 k2, .int .i64 e2, .int .i64 n2, .string t2, .slice p2 a2 u2, .bool d2] TP) = W at *
    refine (c1 _).mono ?_
    rintro e w1 ⟨rfl, hb⟩
    have Hw1 : Hid (Below W.heap.size W w1) := hb
    clear hb c1 L0 L1 L2
    have Hq := HC.out _ Hw1.out 3
    simp only [List.getElem?_toArray, List.getElem?_cons_succ, List.getElem?_cons_zero] at Hq
    clear HC
    go_wp2
    go_ret
    exact ⟨rfl, E0.out _ Hw1.out⟩
  | true =>
    rw [Bool.true_and]
    by_cases ha : k1 = 1
    · subst ha
      go_enter Tryz.func50, Tryz.ntmps50
      go_wp2_with (first | ((with_reducible apply step_load L0); rfl; rfl) | ((with_reducible apply step_load L1); rfl; rfl) | ((with_reducible apply step_load L2); rfl; rfl) | fail)
      generalize w.alloc (.cells #[.pointer tp, .string op, .int .i64 i1, .int .i64 1, .int .i64 e1, .int .i64 n1, .string t1, .slice p1 a1 u1, .bool d1, .int .i64 i2, .int .i64 k2, .int .i64 e2, .int .i64 n2, .string t2, .slice p2 a2 u2, .bool d2] TP) = W at *
      refine (c1 _).mono ?_
      rintro e w1 ⟨rfl, hb⟩
      have Hw1 : Hid (Below W.heap.size W w1) := hb
      clear hb c1 L0 L1 L2
      have Hq := HC.out _ Hw1.out 3
      simp only [List.getElem?_toArray, List.getElem?_cons_succ, List.getElem?_cons_zero] at Hq
      clear HC
      go_wp2
      go_ret
      exact ⟨rfl, E0.out _ Hw1.out⟩
    · have dk : (k1 == 1) = false := by simpa using ha
      rw [dk]
      go_enter Tryz.func50, Tryz.ntmps50
      go_wp2_with (first | ((with_reducible apply step_load L0); rfl; rfl) | ((with_reducible apply step_load L1); rfl; rfl) | ((with_reducible apply step_load L2); rfl; rfl) | fail)
      generalize w.alloc (.cells #[.pointer tp, .string op, .int .i64 i1, .int .i64 k1, .int .i64 e1, .int .i64 n1, .string t1, .slice p1 a1 u1, .bool d1, .int .i64 i2, .int .i64 k2, .int .i64 e2, .int .i64 n2, .string t2, .slice p2 a2 u2, .bool d2] TP) = W at *
      refine (c1 _).mono ?_
      rintro e w1 ⟨rfl, hb⟩
      have Hw1 : Hid (Below W.heap.size W w1) := hb
      clear hb c1 L0 L1 L2
      have Hq := HC.out _ Hw1.out 3
      simp only [List.getElem?_toArray, List.getElem?_cons_succ, List.getElem?_cons_zero] at Hq
      clear HC
      go_wp2
      go_ret
      exact ⟨rfl, E0.out _ Hw1.out⟩
set_option maxHeartbeats 1000000 in
theorem pUsual_c (tp : Option Addr) (op : ByteArray) (i1 k1 e1 n1 : Int) (t1 : ByteArray) (p1 : Option Addr) (a1 u1 : Nat) (d1 : Bool) (i2 k2 e2 n2 : Int) (t2 : ByteArray) (p2 : Option Addr) (a2 u2 : Nat) (d2 : Bool) (h1 : intK k1 = true) (h2 : intK k2 = true) (w : World) : Calls Tryz.prog 46 #[.agg #[.pointer tp, .string op, .int .i64 i1, .int .i64 k1, .int .i64 e1, .int .i64 n1, .string t1, .slice p1 a1 u1, .bool d1, .int .i64 i2, .int .i64 k2, .int .i64 e2, .int .i64 n2, .string t2, .slice p2 a2 u2, .bool d2]] w fun e w' => e = .returned (.int .i64 (usualP k1 k2)) ∧ Below w.heap.size w w' := by
  have c1 := fun W => cUsual_c k1 k2 W
  have HB : Hid (Below w.heap.size w (w.alloc (.cells #[.pointer tp, .string op, .int .i64 i1, .int .i64 k1, .int .i64 e1, .int .i64 n1, .string t1, .slice p1 a1 u1, .bool d1, .int .i64 i2, .int .i64 k2, .int .i64 e2, .int .i64 n2, .string t2, .slice p2 a2 u2, .bool d2] TP))) := below1 w _
  rw [usual_yes h1 h2] at c1
  unfold usualP
  go_enter Tryz.func46, Tryz.ntmps46
  go_wp2_with fail
  refine (c1 _).mono ?_
  rintro e w' ⟨rfl, rfl⟩
  go_wp2
  go_ret
  exact ⟨rfl, HB.out⟩
def relP (i1 k1 e1 i2 k2 e2 : Int) : Bool := (k1 == 13 && k2 == 13) && ((i1 == i2) || toV k1 e1 || toV k2 e2)
set_option maxHeartbeats 1000000 in
theorem pRel_c (tp : Option Addr) (op : ByteArray) (i1 k1 e1 n1 : Int) (t1 : ByteArray) (p1 : Option Addr) (a1 u1 : Nat) (d1 : Bool) (i2 k2 e2 n2 : Int) (t2 : ByteArray) (p2 : Option Addr) (a2 u2 : Nat) (d2 : Bool) (w : World) : Calls Tryz.prog 47 #[.agg #[.pointer tp, .string op, .int .i64 i1, .int .i64 k1, .int .i64 e1, .int .i64 n1, .string t1, .slice p1 a1 u1, .bool d1, .int .i64 i2, .int .i64 k2, .int .i64 e2, .int .i64 n2, .string t2, .slice p2 a2 u2, .bool d2]] w fun e w' => e = .returned (.bool (relP i1 k1 e1 i2 k2 e2)) ∧ Below w.heap.size w w' := by
  have c1 := fun W => pPtrs_c tp op i1 k1 e1 n1 t1 p1 a1 u1 d1 i2 k2 e2 n2 t2 p2 a2 u2 d2 W
  have c2 := fun W => pSame_c tp op i1 k1 e1 n1 t1 p1 a1 u1 d1 i2 k2 e2 n2 t2 p2 a2 u2 d2 W
  have c3 := fun W => oVoid_c i1 k1 e1 n1 t1 p1 a1 u1 d1 W
  have c4 := fun W => oVoid_c i2 k2 e2 n2 t2 p2 a2 u2 d2 W
  have E0 : Hid (∀ Y, Below (w.alloc (.cells #[.pointer tp, .string op, .int .i64 i1, .int .i64 k1, .int .i64 e1, .int .i64 n1, .string t1, .slice p1 a1 u1, .bool d1, .int .i64 i2, .int .i64 k2, .int .i64 e2, .int .i64 n2, .string t2, .slice p2 a2 u2, .bool d2] TP)).heap.size (w.alloc (.cells #[.pointer tp, .string op, .int .i64 i1, .int .i64 k1, .int .i64 e1, .int .i64 n1, .string t1, .slice p1 a1 u1, .bool d1, .int .i64 i2, .int .i64 k2, .int .i64 e2, .int .i64 n2, .string t2, .slice p2 a2 u2, .bool d2] TP)) Y → Below w.heap.size w Y) := fun Y h => below_box h
  have HC : Hid (∀ Y, Below (w.alloc (.cells #[.pointer tp, .string op, .int .i64 i1, .int .i64 k1, .int .i64 e1, .int .i64 n1, .string t1, .slice p1 a1 u1, .bool d1, .int .i64 i2, .int .i64 k2, .int .i64 e2, .int .i64 n2, .string t2, .slice p2 a2 u2, .bool d2] TP)).heap.size (w.alloc (.cells #[.pointer tp, .string op, .int .i64 i1, .int .i64 k1, .int .i64 e1, .int .i64 n1, .string t1, .slice p1 a1 u1, .bool d1, .int .i64 i2, .int .i64 k2, .int .i64 e2, .int .i64 n2, .string t2, .slice p2 a2 u2, .bool d2] TP)) Y → InP Y w.heap.size #[.pointer tp, .string op, .int .i64 i1, .int .i64 k1, .int .i64 e1, .int .i64 n1, .string t1, .slice p1 a1 u1, .bool d1, .int .i64 i2, .int .i64 k2, .int .i64 e2, .int .i64 n2, .string t2, .slice p2 a2 u2, .bool d2]) := fun Y h => inP_box h
  obtain ⟨L0, L1, L2⟩ := load_P (HC.out _ (Below.refl _ _))
  unfold relP
  generalize (k1 == 13 && k2 == 13) = z1 at c1 ⊢
  generalize (i1 == i2) = z2 at c2 ⊢
  generalize toV k1 e1 = z3 at c3 ⊢
  generalize toV k2 e2 = z4 at c4 ⊢
  cases z1 with
  | false =>
    clear c2 c3 c4
    go_enter Tryz.func47, Tryz.ntmps47
    go_wp2_with (first | ((with_reducible apply step_load L0); rfl; rfl) | ((with_reducible apply step_load L1); rfl; rfl) | ((with_reducible apply step_load L2); rfl; rfl) | fail)
    generalize w.alloc (.cells #[.pointer tp, .string op, .int .i64 i1, .int .i64 k1, .int .i64 e1, .int .i64 n1, .string t1, .slice p1 a1 u1, .bool d1, .int .i64 i2, .int .i64 k2, .int .i64 e2, .int .i64 n2, .string t2, .slice p2 a2 u2, .bool d2] TP) = W at *
    refine (c1 _).mono ?_
    rintro e w1 ⟨rfl, hb⟩
    have Hw1 : Hid (Below W.heap.size W w1) := hb
    clear hb c1 L0 L1 L2
    obtain ⟨L0, L1, L2⟩ := load_P (HC.out _ Hw1.out)
    clear L0 L1 L2
    go_wp2
    go_ret
    exact ⟨rfl, E0.out _ Hw1.out⟩
  | true =>
    cases z2 with
    | true =>
      clear c3 c4
      go_enter Tryz.func47, Tryz.ntmps47
      go_wp2_with (first | ((with_reducible apply step_load L0); rfl; rfl) | ((with_reducible apply step_load L1); rfl; rfl) | ((with_reducible apply step_load L2); rfl; rfl) | fail)
      generalize w.alloc (.cells #[.pointer tp, .string op, .int .i64 i1, .int .i64 k1, .int .i64 e1, .int .i64 n1, .string t1, .slice p1 a1 u1, .bool d1, .int .i64 i2, .int .i64 k2, .int .i64 e2, .int .i64 n2, .string t2, .slice p2 a2 u2, .bool d2] TP) = W at *
      refine (c1 _).mono ?_
      rintro e w1 ⟨rfl, hb⟩
      have Hw1 : Hid (Below W.heap.size W w1) := hb
      clear hb c1 L0 L1 L2
      obtain ⟨L0, L1, L2⟩ := load_P (HC.out _ Hw1.out)
      go_wp2_with (first | ((with_reducible apply step_load L0); rfl; rfl) | ((with_reducible apply step_load L1); rfl; rfl) | ((with_reducible apply step_load L2); rfl; rfl) | fail)
      refine (c2 _).mono ?_
      rintro e w2 ⟨rfl, hb⟩
      have Hw2 : Hid (Below W.heap.size W w2) := Hw1.out.trans (hb.mono Hw1.out.size)
      clear hb c2 L0 L1 L2
      obtain ⟨L0, L1, L2⟩ := load_P (HC.out _ Hw2.out)
      clear L0 L1 L2
      go_wp2
      go_ret
      exact ⟨rfl, E0.out _ Hw2.out⟩
    | false =>
      cases z3 with
      | true =>
        clear c4
        go_enter Tryz.func47, Tryz.ntmps47
        go_wp2_with (first | ((with_reducible apply step_load L0); rfl; rfl) | ((with_reducible apply step_load L1); rfl; rfl) | ((with_reducible apply step_load L2); rfl; rfl) | fail)
        generalize w.alloc (.cells #[.pointer tp, .string op, .int .i64 i1, .int .i64 k1, .int .i64 e1, .int .i64 n1, .string t1, .slice p1 a1 u1, .bool d1, .int .i64 i2, .int .i64 k2, .int .i64 e2, .int .i64 n2, .string t2, .slice p2 a2 u2, .bool d2] TP) = W at *
        refine (c1 _).mono ?_
        rintro e w1 ⟨rfl, hb⟩
        have Hw1 : Hid (Below W.heap.size W w1) := hb
        clear hb c1 L0 L1 L2
        obtain ⟨L0, L1, L2⟩ := load_P (HC.out _ Hw1.out)
        go_wp2_with (first | ((with_reducible apply step_load L0); rfl; rfl) | ((with_reducible apply step_load L1); rfl; rfl) | ((with_reducible apply step_load L2); rfl; rfl) | fail)
        refine (c2 _).mono ?_
        rintro e w2 ⟨rfl, hb⟩
        have Hw2 : Hid (Below W.heap.size W w2) := Hw1.out.trans (hb.mono Hw1.out.size)
        clear hb c2 L0 L1 L2
        obtain ⟨L0, L1, L2⟩ := load_P (HC.out _ Hw2.out)
        go_wp2_with (first | ((with_reducible apply step_load L0); rfl; rfl) | ((with_reducible apply step_load L1); rfl; rfl) | ((with_reducible apply step_load L2); rfl; rfl) | fail)
        refine (c3 _).mono ?_
        rintro e w3 ⟨rfl, hb⟩
        have Hw3 : Hid (Below W.heap.size W w3) := Hw2.out.trans (hb.mono Hw2.out.size)
        clear hb c3 L0 L1 L2
        obtain ⟨L0, L1, L2⟩ := load_P (HC.out _ Hw3.out)
        clear L0 L1 L2
        go_wp2
        go_ret
        exact ⟨rfl, E0.out _ Hw3.out⟩
      | false =>
        go_enter Tryz.func47, Tryz.ntmps47
        go_wp2_with (first | ((with_reducible apply step_load L0); rfl; rfl) | ((with_reducible apply step_load L1); rfl; rfl) | ((with_reducible apply step_load L2); rfl; rfl) | fail)
        generalize w.alloc (.cells #[.pointer tp, .string op, .int .i64 i1, .int .i64 k1, .int .i64 e1, .int .i64 n1, .string t1, .slice p1 a1 u1, .bool d1, .int .i64 i2, .int .i64 k2, .int .i64 e2, .int .i64 n2, .string t2, .slice p2 a2 u2, .bool d2] TP) = W at *
        refine (c1 _).mono ?_
        rintro e w1 ⟨rfl, hb⟩
        have Hw1 : Hid (Below W.heap.size W w1) := hb
        clear hb c1 L0 L1 L2
        obtain ⟨L0, L1, L2⟩ := load_P (HC.out _ Hw1.out)
        go_wp2_with (first | ((with_reducible apply step_load L0); rfl; rfl) | ((with_reducible apply step_load L1); rfl; rfl) | ((with_reducible apply step_load L2); rfl; rfl) | fail)
        refine (c2 _).mono ?_
        rintro e w2 ⟨rfl, hb⟩
        have Hw2 : Hid (Below W.heap.size W w2) := Hw1.out.trans (hb.mono Hw1.out.size)
        clear hb c2 L0 L1 L2
        obtain ⟨L0, L1, L2⟩ := load_P (HC.out _ Hw2.out)
        go_wp2_with (first | ((with_reducible apply step_load L0); rfl; rfl) | ((with_reducible apply step_load L1); rfl; rfl) | ((with_reducible apply step_load L2); rfl; rfl) | fail)
        refine (c3 _).mono ?_
        rintro e w3 ⟨rfl, hb⟩
        have Hw3 : Hid (Below W.heap.size W w3) := Hw2.out.trans (hb.mono Hw2.out.size)
        clear hb c3 L0 L1 L2
        obtain ⟨L0, L1, L2⟩ := load_P (HC.out _ Hw3.out)
        go_wp2_with (first | ((with_reducible apply step_load L0); rfl; rfl) | ((with_reducible apply step_load L1); rfl; rfl) | ((with_reducible apply step_load L2); rfl; rfl) | fail)
        refine (c4 _).mono ?_
        rintro e w4 ⟨rfl, hb⟩
        have Hw4 : Hid (Below W.heap.size W w4) := Hw3.out.trans (hb.mono Hw3.out.size)
        clear hb c4 L0 L1 L2
        obtain ⟨L0, L1, L2⟩ := load_P (HC.out _ Hw4.out)
        clear L0 L1 L2
        go_wp2
        go_ret
        exact ⟨rfl, E0.out _ Hw4.out⟩
theorem cRefuse_c (z : Bool) (w : World) : Calls Tryz.prog 52 #[.bool z] w fun e w' => e = .returned (.int .i64 (if z then 0 else 70)) ∧ w' = w := by
  cases z <;>
  · go_enter Tryz.func52, Tryz.ntmps52
    go_wp2
    go_ret
    exact ⟨rfl, rfl⟩
end
end Go.Proofs.YtpnpilbmhkiphaaGreatDoor
