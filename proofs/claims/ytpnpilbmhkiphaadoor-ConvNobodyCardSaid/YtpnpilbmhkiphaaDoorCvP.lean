/-
  pairOf: two types as operands.
-/
import Derived.Test.YtpnpilbmhkiphaaDoorCvO
namespace Go.Proofs.YtpnpilbmhkiphaaDoor
open Go.RowKit Go.Maps
set_option linter.unusedVariables false
set_option maxRecDepth 100000

section
variable {w : World}
theorem cells7 {g : Nat} {T : TypeId} {x0 x1 x2 x3 x4 x5 x6 : Value} (h : w.heap[g]? = some (.cells #[x0, x1, x2, x3, x4, x5, x6] T (0, 0))) : w.cell? ⟨g, 0, none⟩ = some x0 ∧ w.cell? ⟨g, 1, none⟩ = some x1 ∧ w.cell? ⟨g, 2, none⟩ = some x2 ∧ w.cell? ⟨g, 3, none⟩ = some x3 ∧ w.cell? ⟨g, 4, none⟩ = some x4 ∧ w.cell? ⟨g, 5, none⟩ = some x5 ∧ w.cell? ⟨g, 6, none⟩ = some x6 :=
  ⟨Lib.cell_of_heap h 0, Lib.cell_of_heap h 1, Lib.cell_of_heap h 2, Lib.cell_of_heap h 3, Lib.cell_of_heap h 4, Lib.cell_of_heap h 5, Lib.cell_of_heap h 6⟩
theorem build_P (tp : Option Addr) (i1 k1 e1 n1 : Int) (t1 : ByteArray) (p1 : Option Addr) (a1 u1 : Nat) (d1 : Bool) (i2 k2 e2 n2 : Int) (t2 : ByteArray) (p2 : Option Addr) (a2 u2 : Nat) (d2 : Bool) (W : World) : (Instr.build TP #[(0, .pointer tp), (2, .agg #[.int .i64 i1, .int .i64 k1, .int .i64 e1, .int .i64 n1, .string t1, .slice p1 a1 u1, .bool d1]), (3, .agg #[.int .i64 i2, .int .i64 k2, .int .i64 e2, .int .i64 n2, .string t2, .slice p2 a2 u2, .bool d2])]).run Tryd.prog W = .ok (.agg #[.pointer tp, .string ⟨#[]⟩, .int .i64 i1, .int .i64 k1, .int .i64 e1, .int .i64 n1, .string t1, .slice p1 a1 u1, .bool d1, .int .i64 i2, .int .i64 k2, .int .i64 e2, .int .i64 n2, .string t2, .slice p2 a2 u2, .bool d2]) W := by kernel_rfl
theorem build_P0 (W : World) : (Instr.build TP #[]).run Tryd.prog W = .ok (.agg #[.pointer none, .string ⟨#[]⟩, .int .i64 0, .int .i64 0, .int .i64 0, .int .i64 0, .string ⟨#[]⟩, .slice none 0 0, .bool false, .int .i64 0, .int .i64 0, .int .i64 0, .int .i64 0, .string ⟨#[]⟩, .slice none 0 0, .bool false]) W := by kernel_rfl
def zeroPair : Value := .agg #[.pointer none, .string ⟨#[]⟩, .int .i64 0, .int .i64 0, .int .i64 0, .int .i64 0, .string ⟨#[]⟩, .slice none 0 0, .bool false, .int .i64 0, .int .i64 0, .int .i64 0, .int .i64 0, .string ⟨#[]⟩, .slice none 0 0, .bool false]

set_option maxHeartbeats 4000000 in
theorem pair_of {tp : Option Addr} {x y : Int} {i1 k1 e1 n1 : Int} {t1 : ByteArray} {d1 : Bool} {i2 k2 e2 n2 : Int} {t2 : ByteArray} {d2 : Bool}
    (c1 : ∀ W, Below w.heap.size w W → Calls Tryd.prog 46 #[.pointer tp, .int .i64 x] W fun e w' => (∃ p1 a1 u1, e = .returned (.tuple #[.agg #[.int .i64 i1, .int .i64 k1, .int .i64 e1, .int .i64 n1, .string t1, .slice p1 a1 u1, .bool d1], .int .i64 0])) ∧ Below W.heap.size W w')
    (c2 : ∀ W, Below w.heap.size w W → Calls Tryd.prog 46 #[.pointer tp, .int .i64 y] W fun e w' => (∃ p2 a2 u2, e = .returned (.tuple #[.agg #[.int .i64 i2, .int .i64 k2, .int .i64 e2, .int .i64 n2, .string t2, .slice p2 a2 u2, .bool d2], .int .i64 0])) ∧ Below W.heap.size W w') :
    Calls Tryd.prog 44 #[.pointer tp, .int .i64 x, .int .i64 y] w fun e w' => (∃ p1 a1 u1 p2 a2 u2, e = .returned (.tuple #[.agg #[.pointer tp, .string ⟨#[]⟩, .int .i64 i1, .int .i64 k1, .int .i64 e1, .int .i64 n1, .string t1, .slice p1 a1 u1, .bool d1, .int .i64 i2, .int .i64 k2, .int .i64 e2, .int .i64 n2, .string t2, .slice p2 a2 u2, .bool d2], .int .i64 0])) ∧ Below w.heap.size w w' := by
  have E0 : Hid (_ = _) := heap_r0 w (.cells #[.pointer none, .string ⟨#[]⟩, .int .i64 0, .int .i64 0, .int .i64 0, .int .i64 0, .string ⟨#[]⟩, .slice none 0 0, .bool false, .int .i64 0, .int .i64 0, .int .i64 0, .int .i64 0, .string ⟨#[]⟩, .slice none 0 0, .bool false] TP)
  have hsz := lt_of_heap E0.out
  have HB : Hid (Below _ _ _) := below1 w (.cells #[.pointer none, .string ⟨#[]⟩, .int .i64 0, .int .i64 0, .int .i64 0, .int .i64 0, .string ⟨#[]⟩, .slice none 0 0, .bool false, .int .i64 0, .int .i64 0, .int .i64 0, .int .i64 0, .string ⟨#[]⟩, .slice none 0 0, .bool false] TP)
  have C1 : Hid (∀ W, Below w.heap.size w W → Calls Tryd.prog 46 #[.pointer tp, .int .i64 x] W fun e w' => (∃ p1 a1 u1, e = .returned (.tuple #[.agg #[.int .i64 i1, .int .i64 k1, .int .i64 e1, .int .i64 n1, .string t1, .slice p1 a1 u1, .bool d1], .int .i64 0])) ∧ Below W.heap.size W w') := c1
  have C2 : Hid (∀ W, Below w.heap.size w W → Calls Tryd.prog 46 #[.pointer tp, .int .i64 y] W fun e w' => (∃ p2 a2 u2, e = .returned (.tuple #[.agg #[.int .i64 i2, .int .i64 k2, .int .i64 e2, .int .i64 n2, .string t2, .slice p2 a2 u2, .bool d2], .int .i64 0])) ∧ Below W.heap.size W w') := c2
  have hbp := build_P
  clear c1 c2
  go_enter Tryd.func44, Tryd.ntmps44
  go_wp2_with fail
  generalize w.alloc (.cells #[.pointer none, .string ⟨#[]⟩, .int .i64 0, .int .i64 0, .int .i64 0, .int .i64 0, .string ⟨#[]⟩, .slice none 0 0, .bool false, .int .i64 0, .int .i64 0, .int .i64 0, .int .i64 0, .string ⟨#[]⟩, .slice none 0 0, .bool false] TP) = W at *
  refine (C1.out _ HB.out).mono ?_
  rintro e w2 ⟨⟨p1, a1, u1, rfl⟩, hb2⟩
  have hold := heap_r0 w2 (.cells #[.int .i64 0, .int .i64 0, .int .i64 0, .int .i64 0, .string ⟨#[]⟩, .slice none 0 0, .bool false] TO)
  have E2 : w2.heap[w.heap.size]? = some (.cells #[.pointer none, .string ⟨#[]⟩, .int .i64 0, .int .i64 0, .int .i64 0, .int .i64 0, .string ⟨#[]⟩, .slice none 0 0, .bool false, .int .i64 0, .int .i64 0, .int .i64 0, .int .i64 0, .string ⟨#[]⟩, .slice none 0 0, .bool false] TP (0, 0)) := (hb2.block _ hsz).trans E0.out
  have hlt2 := lt_of_heap E2
  have hB3 : Below w2.heap.size w2 (w2.alloc (.cells #[.int .i64 i1, .int .i64 k1, .int .i64 e1, .int .i64 n1, .string t1, .slice p1 a1 u1, .bool d1] TO)) := below1 w2 _
  have E3 : Hid (_ = _) := (hB3.block _ hlt2).trans E2
  have F3 : Hid (_ = _) := heap_r0 w2 (.cells #[.int .i64 i1, .int .i64 k1, .int .i64 e1, .int .i64 n1, .string t1, .slice p1 a1 u1, .bool d1] TO)
  have HB3 : Hid (Below w.heap.size w (w2.alloc (.cells #[.int .i64 i1, .int .i64 k1, .int .i64 e1, .int .i64 n1, .string t1, .slice p1 a1 u1, .bool d1] TO))) := HB.out.trans ((hb2.trans (hB3.mono hb2.size)).mono HB.out.size)
  clear hb2 C1 E2 hB3 E0 HB
  go_wp2_with (first | ((with_reducible apply step_store hold); rfl; rfl; kernel_rfl; rfl; kernel_rfl; rw [World.setRow_alloc_new]) | fail)
  generalize w2.alloc (.cells #[.int .i64 i1, .int .i64 k1, .int .i64 e1, .int .i64 n1, .string t1, .slice p1 a1 u1, .bool d1] TO) = W3 at *
  clear hold
  refine (C2.out _ HB3.out).mono ?_
  rintro e w4 ⟨⟨p2, a2, u2, rfl⟩, hb4⟩
  have hold := heap_r0 w4 (.cells #[.int .i64 0, .int .i64 0, .int .i64 0, .int .i64 0, .string ⟨#[]⟩, .slice none 0 0, .bool false] TO)
  have E4 : w4.heap[w.heap.size]? = some (.cells #[.pointer none, .string ⟨#[]⟩, .int .i64 0, .int .i64 0, .int .i64 0, .int .i64 0, .string ⟨#[]⟩, .slice none 0 0, .bool false, .int .i64 0, .int .i64 0, .int .i64 0, .int .i64 0, .string ⟨#[]⟩, .slice none 0 0, .bool false] TP (0, 0)) := (hb4.block _ (lt_of_heap E3.out)).trans E3.out
  have F4 : w4.heap[w2.heap.size]? = some (.cells #[.int .i64 i1, .int .i64 k1, .int .i64 e1, .int .i64 n1, .string t1, .slice p1 a1 u1, .bool d1] TO (0, 0)) := (hb4.block _ (lt_of_heap F3.out)).trans F3.out
  have hB5 : Below w4.heap.size w4 (w4.alloc (.cells #[.int .i64 i2, .int .i64 k2, .int .i64 e2, .int .i64 n2, .string t2, .slice p2 a2 u2, .bool d2] TO)) := below1 w4 _
  have E5 : Hid (_ = _) := (hB5.block _ (lt_of_heap E4)).trans E4
  have F5 := (hB5.block _ (lt_of_heap F4)).trans F4
  have G5 := heap_r0 w4 (.cells #[.int .i64 i2, .int .i64 k2, .int .i64 e2, .int .i64 n2, .string t2, .slice p2 a2 u2, .bool d2] TO)
  have HB5 : Hid (Below w.heap.size w (w4.alloc (.cells #[.int .i64 i2, .int .i64 k2, .int .i64 e2, .int .i64 n2, .string t2, .slice p2 a2 u2, .bool d2] TO))) := HB3.out.trans ((hb4.trans (hB5.mono hb4.size)).mono HB3.out.size)
  obtain ⟨f0, f1, f2, f3, f4, f5, f6⟩ := cells7 F5
  clear hb4 C2 E4 F4 hB5 E3 F3 HB3 F5 G5
  go_wp2_with (first | ((with_reducible apply step_store hold); rfl; rfl; kernel_rfl; rfl; kernel_rfl; rw [World.setRow_alloc_new]) | ((with_reducible apply step_store E5.out); rfl; rfl; kernel_rfl; rfl; kernel_rfl))
  refine ret_st (p := 6) (q := 7) rfl rfl (run_loadVar_row _ _ _ _ _ (0, 0) _ (setRow_heap _ _ _ _ _ _ E5.out) Tryd.underlying78 rfl (by kernel_rfl)) ?_
  exact ⟨⟨_, _, _, _, _, _, rfl⟩, below_setRow HB5.out (Nat.le_refl _) _⟩
set_option maxHeartbeats 4000000 in
theorem pair_bad1 {tp : Value} {x y er : Int} (he : (er == 0) = false) (htp : ∃ q, tp = .pointer q)
    (c1 : ∀ W, Below w.heap.size w W → Calls Tryd.prog 46 #[tp, .int .i64 x] W fun e w' => e = .returned (.tuple #[zeroOp, .int .i64 er]) ∧ Below W.heap.size W w') :
    Calls Tryd.prog 44 #[tp, .int .i64 x, .int .i64 y] w fun e w' => e = .returned (.tuple #[zeroPair, .int .i64 er]) ∧ Below w.heap.size w w' := by
  have E0 : Hid (_ = _) := heap_r0 w (.cells #[.pointer none, .string ⟨#[]⟩, .int .i64 0, .int .i64 0, .int .i64 0, .int .i64 0, .string ⟨#[]⟩, .slice none 0 0, .bool false, .int .i64 0, .int .i64 0, .int .i64 0, .int .i64 0, .string ⟨#[]⟩, .slice none 0 0, .bool false] TP)
  have hsz := lt_of_heap E0.out
  have HB : Hid (Below _ _ _) := below1 w (.cells #[.pointer none, .string ⟨#[]⟩, .int .i64 0, .int .i64 0, .int .i64 0, .int .i64 0, .string ⟨#[]⟩, .slice none 0 0, .bool false, .int .i64 0, .int .i64 0, .int .i64 0, .int .i64 0, .string ⟨#[]⟩, .slice none 0 0, .bool false] TP)
  have hbp := build_P0
  have he2 : (er != 0) = true := by simp only [bne, he]; rfl
  unfold zeroOp at c1
  unfold zeroPair
  obtain ⟨q, rfl⟩ := htp
  have C1 : Hid (∀ W, Below w.heap.size w W → Calls Tryd.prog 46 #[.pointer q, .int .i64 x] W fun e w' => e = .returned (.tuple #[.agg #[.int .i64 0, .int .i64 0, .int .i64 0, .int .i64 0, .string ⟨#[]⟩, .slice none 0 0, .bool false], .int .i64 er]) ∧ Below W.heap.size W w') := c1
  clear c1
  go_enter Tryd.func44, Tryd.ntmps44
  go_wp2_with fail
  generalize w.alloc (.cells #[.pointer none, .string ⟨#[]⟩, .int .i64 0, .int .i64 0, .int .i64 0, .int .i64 0, .string ⟨#[]⟩, .slice none 0 0, .bool false, .int .i64 0, .int .i64 0, .int .i64 0, .int .i64 0, .string ⟨#[]⟩, .slice none 0 0, .bool false] TP) = W at *
  refine (C1.out _ HB.out).mono ?_
  rintro e w2 ⟨rfl, hb2⟩
  have hold := heap_r0 w2 (.cells #[.int .i64 0, .int .i64 0, .int .i64 0, .int .i64 0, .string ⟨#[]⟩, .slice none 0 0, .bool false] TO)
  have E2 : w2.heap[w.heap.size]? = some (.cells #[.pointer none, .string ⟨#[]⟩, .int .i64 0, .int .i64 0, .int .i64 0, .int .i64 0, .string ⟨#[]⟩, .slice none 0 0, .bool false, .int .i64 0, .int .i64 0, .int .i64 0, .int .i64 0, .string ⟨#[]⟩, .slice none 0 0, .bool false] TP (0, 0)) := (hb2.block _ hsz).trans E0.out
  have hlt2 := lt_of_heap E2
  have hB3 : Below w2.heap.size w2 (w2.alloc (.cells #[.int .i64 0, .int .i64 0, .int .i64 0, .int .i64 0, .string ⟨#[]⟩, .slice none 0 0, .bool false] TO)) := below1 w2 _
  have E3 : Hid (_ = _) := (hB3.block _ hlt2).trans E2
  have HB3 : Hid (Below w.heap.size w (w2.alloc (.cells #[.int .i64 0, .int .i64 0, .int .i64 0, .int .i64 0, .string ⟨#[]⟩, .slice none 0 0, .bool false] TO))) := HB.out.trans ((hb2.trans (hB3.mono hb2.size)).mono HB.out.size)
  clear hb2 C1 E2 hB3 E0 HB
  go_wp2_with (first | ((with_reducible apply step_store hold); rfl; rfl; kernel_rfl; rfl; kernel_rfl; rw [World.setRow_alloc_new]) | ((with_reducible apply step_store E3.out); rfl; rfl; kernel_rfl; rfl; kernel_rfl))
  refine ret_st (p := 6) (q := 7) rfl rfl (run_loadVar_row _ _ _ _ _ (0, 0) _ (setRow_heap _ _ _ _ _ _ E3.out) Tryd.underlying78 rfl (by kernel_rfl)) ?_
  exact ⟨rfl, below_setRow HB3.out (Nat.le_refl _) _⟩
end
end Go.Proofs.YtpnpilbmhkiphaaDoor
