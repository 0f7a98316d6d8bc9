/-
  scaled: what is done with a pointer, by its element's size.
-/
import Derived.Test.YtpnpilbmhkiphaaDoorCvY
namespace Go.Proofs.YtpnpilbmhkiphaaDoor
open Go.RowKit Go.Maps
set_option linter.unusedVariables false
set_option maxRecDepth 100000

section
variable {w : World}
theorem four0 (w : World) (A B C D : Obj) : ((((w.alloc A).alloc B).alloc C).alloc D).heap[w.heap.size]? = some A ∧ ((((w.alloc A).alloc B).alloc C).alloc D).heap[w.heap.size + 1]? = some B ∧ ((((w.alloc A).alloc B).alloc C).alloc D).heap[w.heap.size + 1 + 1]? = some C ∧ ((((w.alloc A).alloc B).alloc C).alloc D).heap[w.heap.size + 1 + 1 + 1]? = some D ∧ Below w.heap.size w ((((w.alloc A).alloc B).alloc C).alloc D) := by
  have s1 : (w.alloc A).heap.size = w.heap.size + 1 := Array.size_push _
  have s2 : ((w.alloc A).alloc B).heap.size = w.heap.size + 1 + 1 := by rw [← s1]; exact Array.size_push _
  have s3 : (((w.alloc A).alloc B).alloc C).heap.size = w.heap.size + 1 + 1 + 1 := by rw [← s2]; exact Array.size_push _
  have b1 := below1 w A
  have b2 := below1 (w.alloc A) B
  have b3 := below1 ((w.alloc A).alloc B) C
  have b4 := below1 (((w.alloc A).alloc B).alloc C) D
  have r1 := heap_r0 w A
  have r2 := heap_r0 (w.alloc A) B
  have r3 := heap_r0 ((w.alloc A).alloc B) C
  have r4 := heap_r0 (((w.alloc A).alloc B).alloc C) D
  rw [s1] at r2
  rw [s2] at r3
  rw [s3] at r4
  exact ⟨blk_b (blk_b (blk_b r1 b2) b3) b4, blk_b (blk_b r2 b3) b4, blk_b r3 b4, r4, ((b1.trans (b2.mono (by omega))).trans (b3.mono (by omega))).trans (b4.mono (by omega))⟩
set_option maxHeartbeats 4000000 in
theorem scaled_of {tp : Option Addr} {op : ByteArray} {i1 k1 e1 n1 : Int} {t1 : ByteArray} {p1 : Option Addr} {a1 u1 : Nat} {d1 : Bool} {i2 k2 e2 n2 : Int} {t2 : ByteArray} {p2 : Option Addr} {a2 u2 : Nat} {d2 : Bool} {i3 k3 e3 n3 : Int} {t3 : ByteArray} {p3 : Option Addr} {a3 u3 : Nat} {d3 : Bool} {q0 q1 q2 q3 q4 n : Int}
    (cZ : ∀ Y, Below w.heap.size w Y → Calls Tryd.prog 87 #[.pointer tp, .int .i64 e3] Y fun e w' => e = .returned (.tuple #[.int .i64 n, .int .i64 0]) ∧ Below Y.heap.size Y w') :
    ∀ Y, Below w.heap.size w Y → Calls Tryd.prog 82 #[.agg #[.pointer tp, .string op, .int .i64 i1, .int .i64 k1, .int .i64 e1, .int .i64 n1, .string t1, .slice p1 a1 u1, .bool d1, .int .i64 i2, .int .i64 k2, .int .i64 e2, .int .i64 n2, .string t2, .slice p2 a2 u2, .bool d2], .agg #[.int .i64 i3, .int .i64 k3, .int .i64 e3, .int .i64 n3, .string t3, .slice p3 a3 u3, .bool d3], .agg #[.int .i64 q0, .int .i64 q1, .int .i64 q2, .int .i64 q3, .int .i64 q4]] Y fun e w' => e = .returned (.tuple #[.agg #[.int .i64 q0, .int .i64 q1, .int .i64 q2, .int .i64 q3, .int .i64 n], .int .i64 0]) ∧ Below Y.heap.size Y w' := by
  intro w0 hw0
  obtain ⟨g0, g1, g2, g3, hB⟩ := four0 w0 (.cells #[.pointer tp, .string op, .int .i64 i1, .int .i64 k1, .int .i64 e1, .int .i64 n1, .string t1, .slice p1 a1 u1, .bool d1, .int .i64 i2, .int .i64 k2, .int .i64 e2, .int .i64 n2, .string t2, .slice p2 a2 u2, .bool d2] TP) (.cells #[.int .i64 i3, .int .i64 k3, .int .i64 e3, .int .i64 n3, .string t3, .slice p3 a3 u3, .bool d3] TO) (.cells #[.int .i64 q0, .int .i64 q1, .int .i64 q2, .int .i64 q3, .int .i64 q4] TOp) (.cells #[.int .i64 0, .int .i64 0, .int .i64 0, .int .i64 0, .int .i64 0] TOp)
  have c := cZ _ (hw0.trans (hB.mono hw0.size))
  have G2 : Hid (_ = _) := g2
  have G3 : Hid (_ = _) := g3
  have HB : Hid (Below _ _ _) := hB
  clear g0 g1 g2 g3 hB cZ hw0
  go_enter Tryd.func82, Tryd.ntmps82
  go_wp2_with fail
  generalize (((w0.alloc (.cells #[.pointer tp, .string op, .int .i64 i1, .int .i64 k1, .int .i64 e1, .int .i64 n1, .string t1, .slice p1 a1 u1, .bool d1, .int .i64 i2, .int .i64 k2, .int .i64 e2, .int .i64 n2, .string t2, .slice p2 a2 u2, .bool d2] TP)).alloc (.cells #[.int .i64 i3, .int .i64 k3, .int .i64 e3, .int .i64 n3, .string t3, .slice p3 a3 u3, .bool d3] TO)).alloc (.cells #[.int .i64 q0, .int .i64 q1, .int .i64 q2, .int .i64 q3, .int .i64 q4] TOp)).alloc (.cells #[.int .i64 0, .int .i64 0, .int .i64 0, .int .i64 0, .int .i64 0] TOp) = W at *
  refine c.mono ?_
  rintro e w2 ⟨rfl, hb2⟩
  have E2 := blk_b G2.out hb2
  have E3 := blk_b G3.out hb2
  have x0 := Lib.cell_of_heap E2 0
  have x1 := Lib.cell_of_heap E2 1
  have x2 := Lib.cell_of_heap E2 2
  have x3 := Lib.cell_of_heap E2 3
  have x4 := Lib.cell_of_heap E2 4
  simp only [List.getElem?_toArray, List.getElem?_cons_succ, List.getElem?_cons_zero] at x0 x1 x2 x3 x4
  have z4 : w2.frozen? ⟨w0.heap.size + 1 + 1, 4, none⟩ = false := frozen_of E2 4
  have K2 := heap_setCell (j := 4) E2 (.int .i64 n)
  have L3 : Hid ((w2.setCell ⟨w0.heap.size + 1 + 1, 4, none⟩ (.int .i64 n)).heap[w0.heap.size + 1 + 1 + 1]? = some (.cells #[.int .i64 0, .int .i64 0, .int .i64 0, .int .i64 0, .int .i64 0] TOp (0, 0))) := (heap_setCell_other w2 ⟨w0.heap.size + 1 + 1, 4, none⟩ _ (.int .i64 n) (by show w0.heap.size + 1 + 1 + 1 ≠ w0.heap.size + 1 + 1; omega)).trans E3
  have y0 := Lib.cell_of_heap K2 0
  have y1 := Lib.cell_of_heap K2 1
  have y2 := Lib.cell_of_heap K2 2
  have y3 := Lib.cell_of_heap K2 3
  have y4 := Lib.cell_of_heap K2 4
  simp only [List.setIfInBounds_toArray, List.set_cons_zero, List.set_cons_succ, List.getElem?_toArray, List.getElem?_cons_succ, List.getElem?_cons_zero] at y0 y1 y2 y3 y4
  have HB2 : Hid (Below w0.heap.size w0 (w2.setCell ⟨w0.heap.size + 1 + 1, 4, none⟩ (.int .i64 n))) := (HB.out.trans (hb2.mono HB.out.size)).setCell (by show w0.heap.size ≤ w0.heap.size + 1 + 1; omega) _
  clear c hb2 G2 G3 E2 E3 K2 HB
  go_wp2_with ((with_reducible apply step_store L3.out); rfl; rfl; kernel_rfl; rfl; kernel_rfl)
  refine ret_op (p := 6) (q := 7) rfl rfl (setRow_heap _ _ _ _ _ _ L3.out) rfl ?_
  exact ⟨rfl, below_setRow HB2.out (by omega) _⟩
end
end Go.Proofs.YtpnpilbmhkiphaaDoor
