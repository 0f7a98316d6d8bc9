/- The given answer's shape of an instruction. -/
import Derived.Test.YtelaaaamnphbpaaGreatDoorKL
namespace Go.Proofs.YtelaaaamnphbpaaGreatDoor
set_option maxHeartbeats 8000000
open Go.RowKit Go.Maps
set_option linter.unusedVariables false
set_option linter.unusedSimpArgs false
set_option maxRecDepth 100000
theorem three_new (w : World) (A B C : Obj) : (((w.alloc A).alloc B).alloc C).heap[w.heap.size]? = some A ∧ (((w.alloc A).alloc B).alloc C).heap[w.heap.size + 1]? = some B ∧ (((w.alloc A).alloc B).alloc C).heap[w.heap.size + 2]? = some C ∧ Below w.heap.size w (((w.alloc A).alloc B).alloc C) := by
 have b1 := below1 w A
 have b2 := below1 (w.alloc A) B
 have b3 := below1 ((w.alloc A).alloc B) C
 have hzA : (w.alloc A).heap.size = w.heap.size + 1 := by simp
 have hzB : ((w.alloc A).alloc B).heap.size = w.heap.size + 2 := by simp
 refine ⟨blk_b (blk_b (heap_r0 w _) b2) b3, ?_, ?_, (b1.trans (b2.mono b1.size)).trans (b3.mono (b1.trans (b2.mono b1.size)).size)⟩
 ·have := heap_r0 (w.alloc A) B
  rw [hzA] at this
  exact blk_b this b3
 ·have := heap_r0 ((w.alloc A).alloc B) C
  rw [hzB] at this
  exact this
theorem three_new2 (w : World) (A B C : Obj) : (((w.alloc A).alloc B).alloc C).heap[w.heap.size]? = some A ∧ (((w.alloc A).alloc B).alloc C).heap[w.heap.size + 1]? = some B ∧ (((w.alloc A).alloc B).alloc C).heap[w.heap.size + 1 + 1]? = some C ∧ Below w.heap.size w (((w.alloc A).alloc B).alloc C) := three_new w A B C
theorem three_ex (w : World) (A B C : Obj) : ∃ W, W = ((w.alloc A).alloc B).alloc C ∧ W.heap[w.heap.size]? = some A ∧ W.heap[w.heap.size + 1]? = some B ∧ W.heap[w.heap.size + 2]? = some C ∧ Below w.heap.size w W := ⟨_, rfl, three_new w A B C⟩
theorem three_ex4 (w : World) (A B C : Obj) : ∃ W, W = ((w.alloc A).alloc B).alloc C ∧ W.heap[w.heap.size]? = some A ∧ W.heap[w.heap.size + 1]? = some B ∧ W.heap[w.heap.size + 1 + 1]? = some C ∧ Below w.heap.size w W ∧ ((w.alloc A).alloc B).heap[w.heap.size]? = some A ∧ (((w.alloc A).alloc B).alloc B).heap[((w.alloc A).alloc B).heap.size]? = some B := by
 obtain ⟨h1, h2, h3, h4⟩ := three_new2 w A B C
 exact ⟨_, rfl, h1, h2, h3, h4, blk_b (heap_r0 w A) (below1 _ B), heap_r0 _ B⟩
theorem Turned.step {w v : World} {g j : Nat} {x : Value} (h : Turned w v (fun k => k = g)) : Turned w (v.setCell ⟨g, j, none⟩ x) (fun k => k = g) := h.trans (Turned.setCell (S := fun k => k = g) v g j x rfl) (fun _ _ h => h)
theorem Turned.drw {w v : World} {S : Nat → Prop} (h : Turned w v S) : Turned w v.drew S := h.trans (Turned.of_below (Below.drew (Below.refl _ _)) _) (fun _ _ h => h)
theorem cel6 {W : World} {g : Nat} {t : TypeId} {v0 v1 v2 v3 v4 v5 : Value} (h : W.heap[g]? = some (.cells #[v0, v1, v2, v3, v4, v5] t (0, 0))) : W.cell? ⟨g, 0, none⟩ = some v0 ∧ W.cell? ⟨g, 1, none⟩ = some v1 ∧ W.cell? ⟨g, 2, none⟩ = some v2 ∧ W.cell? ⟨g, 3, none⟩ = some v3 ∧ W.cell? ⟨g, 4, none⟩ = some v4 ∧ W.cell? ⟨g, 5, none⟩ = some v5 :=
 ⟨(Lib.cell_of_heap h 0).trans rfl, (Lib.cell_of_heap h 1).trans rfl, (Lib.cell_of_heap h 2).trans rfl, (Lib.cell_of_heap h 3).trans rfl, (Lib.cell_of_heap h 4).trans rfl, (Lib.cell_of_heap h 5).trans rfl⟩
section
variable {w : World}
theorem rShape_1 (bin d ak an bk bn xn off wd : Int) (sg : Bool) (xp : Option Addr) (al xc : Nat) (w : World) :
 Calls Tryz.prog 84 #[.agg #[.int .i64 1, .int .i64 bin, .int .i64 d, .int .i64 ak, .int .u32 an, .int .i64 bk, .int .u32 bn, .int .i64 xn, .int .i64 off, .int .i64 wd, .bool sg, .slice xp al xc]] w fun e w' => e = .returned (.agg #[.int .i64 1, .int .i64 0, .int .i64 d, .int .i64 ak, .int .u32 an, .int .i64 0, .int .u32 0, .int .i64 0, .int .i64 0, .int .i64 0, .bool false, .slice none 0 0]) ∧ Below w.heap.size w w' := by
 obtain ⟨W3, hW3, hNX, hNR, hNY, hHB, hA, hold⟩ := three_ex4 w (.cells #[.int .i64 1, .int .i64 bin, .int .i64 d, .int .i64 ak, .int .u32 an, .int .i64 bk, .int .u32 bn, .int .i64 xn, .int .i64 off, .int .i64 wd, .bool sg, .slice xp al xc] TIn) (.cells #[.int .i64 0, .int .i64 0, .int .i64 0, .int .i64 0, .int .u32 0, .int .i64 0, .int .u32 0, .int .i64 0, .int .i64 0, .int .i64 0, .bool false, .slice none 0 0] TIn) (.cells #[.int .i64 1, .int .i64 0, .int .i64 (-1), .int .i64 0, .int .u32 0, .int .i64 0, .int .u32 0, .int .i64 0, .int .i64 0, .int .i64 0, .bool false, .slice none 0 0] TIn)
 have NX : Hid (_ = _) := hNX
 have NR : Hid (_ = _) := hNR
 have NY : Hid (_ = _) := hNY
 have HB : Hid (Below w.heap.size w _) := hHB
 have x0 := (Lib.cell_of_heap hA 0).trans rfl
 clear hNX hNR hNY hHB hA
 go_enter Tryz.func84, Tryz.ntmps84
 go_upto_region 2 with (first | ((with_reducible apply step_store hold); rfl; rfl; kernel_rfl; rfl; kernel_rfl; rw [World.setRow_alloc_new]) | fail)
 refine wp_at hW3 ?_
 clear x0 hold hW3
 have x0 := (Lib.cell_of_heap NX.out 0).trans rfl
 go_upto_region 4 with (fail)
 clear x0
 have x2 := (Lib.cell_of_heap NX.out 2).trans rfl
 have x3 := (Lib.cell_of_heap NX.out 3).trans rfl
 have x4 := (Lib.cell_of_heap NX.out 4).trans rfl
 have h0_0 := NY.out
 have y0_0 := (Lib.cell_of_heap h0_0 2).trans rfl
 have z0_0 := frozen_of h0_0 2
 have h0_1 := heap_setCell (j := 2) h0_0 (.int .i64 d)
 have y0_1 := (Lib.cell_of_heap h0_1 3).trans rfl
 have z0_1 := frozen_of h0_1 3
 have h0_2 := heap_setCell (j := 3) h0_1 (.int .i64 ak)
 have y0_2 := (Lib.cell_of_heap h0_2 4).trans rfl
 have z0_2 := frozen_of h0_2 4
 have h0_3 := heap_setCell (j := 4) h0_2 (.int .u32 an)
 go_region
 obtain ⟨V0, hV⟩ : ∃ V, V = ((((W3).setCell ⟨w.heap.size + 1 + 1, 2, none⟩ (.int .i64 d)).setCell ⟨w.heap.size + 1 + 1, 3, none⟩ (.int .i64 ak)).setCell ⟨w.heap.size + 1 + 1, 4, none⟩ (.int .u32 an)).drew := ⟨_, rfl⟩
 rw [← hV]
 have t0 : Turned W3 V0 (fun k => k = w.heap.size + 1 + 1) := by rw [hV]; exact (Turned.refl _ (fun k => k = w.heap.size + 1 + 1)).step.step.step.drw
 have NY0 : Hid (V0.heap[w.heap.size + 1 + 1]? = some (.cells #[.int .i64 1, .int .i64 0, .int .i64 d, .int .i64 ak, .int .u32 an, .int .i64 0, .int .u32 0, .int .i64 0, .int .i64 0, .int .i64 0, .bool false, .slice none 0 0] TIn (0, 0))) := by rw [hV]; exact h0_3
 have NX0 : Hid (_ = _) := blk_t NX.out t0 (by omega)
 have NR0 : Hid (_ = _) := blk_t NR.out t0 (by omega)
 have HB0 : Hid (Below w.heap.size w V0) := below_turned HB.out t0
 clear t0 hV x2 x3 x4 y0_0 z0_0 y0_1 z0_1 y0_2 z0_2 h0_0 h0_1 h0_2 h0_3
 go_upto_region 33 with (fail)
 obtain ⟨y0, y1, y2, y3, y4, y5, y6, y7, y8, y9, y10, y11⟩ := cells12 NY0.out
 have hold := NR0.out
 have g9 := setRow_heap V0 (w.heap.size + 1) _ #[.int .i64 1, .int .i64 0, .int .i64 d, .int .i64 ak, .int .u32 an, .int .i64 0, .int .u32 0, .int .i64 0, .int .i64 0, .int .i64 0, .bool false, .slice none 0 0] _ (0, 0) hold
 have t9 := Turned.setRow (S := fun k => k = w.heap.size + 1) V0 (w.heap.size + 1) #[.int .i64 1, .int .i64 0, .int .i64 d, .int .i64 ak, .int .u32 an, .int .i64 0, .int .u32 0, .int .i64 0, .int .i64 0, .int .i64 0, .bool false, .slice none 0 0] rfl
 obtain ⟨q0, q1, q2, q3, q4, q5, q6, q7, q8, q9, q10, q11⟩ := cells12 g9
 go_wp2_with (first | ((with_reducible apply step_store hold); rfl; rfl; kernel_rfl; rfl; kernel_rfl) | fail)
 refine bodyPost_ret (v := .agg #[.int .i64 1, .int .i64 0, .int .i64 d, .int .i64 ak, .int .u32 an, .int .i64 0, .int .u32 0, .int .i64 0, .int .i64 0, .int .i64 0, .bool false, .slice none 0 0]) (by simp [results, Tryz.results84, go_sem, q0, q1, q2, q3, q4, q5, q6, q7, q8, q9, q10, q11]) rfl ⟨rfl, below_turned HB0.out t9⟩
theorem rShape_2 (bin d ak an bk bn xn off wd : Int) (sg : Bool) (xp : Option Addr) (al xc : Nat) (w : World) :
 Calls Tryz.prog 84 #[.agg #[.int .i64 2, .int .i64 bin, .int .i64 d, .int .i64 ak, .int .u32 an, .int .i64 bk, .int .u32 bn, .int .i64 xn, .int .i64 off, .int .i64 wd, .bool sg, .slice xp al xc]] w fun e w' => e = .returned (.agg #[.int .i64 2, .int .i64 bin, .int .i64 d, .int .i64 ak, .int .u32 an, .int .i64 bk, .int .u32 bn, .int .i64 0, .int .i64 0, .int .i64 0, .bool false, .slice none 0 0]) ∧ Below w.heap.size w w' := by
 obtain ⟨W3, hW3, hNX, hNR, hNY, hHB, hA, hold⟩ := three_ex4 w (.cells #[.int .i64 2, .int .i64 bin, .int .i64 d, .int .i64 ak, .int .u32 an, .int .i64 bk, .int .u32 bn, .int .i64 xn, .int .i64 off, .int .i64 wd, .bool sg, .slice xp al xc] TIn) (.cells #[.int .i64 0, .int .i64 0, .int .i64 0, .int .i64 0, .int .u32 0, .int .i64 0, .int .u32 0, .int .i64 0, .int .i64 0, .int .i64 0, .bool false, .slice none 0 0] TIn) (.cells #[.int .i64 2, .int .i64 0, .int .i64 (-1), .int .i64 0, .int .u32 0, .int .i64 0, .int .u32 0, .int .i64 0, .int .i64 0, .int .i64 0, .bool false, .slice none 0 0] TIn)
 have NX : Hid (_ = _) := hNX
 have NR : Hid (_ = _) := hNR
 have NY : Hid (_ = _) := hNY
 have HB : Hid (Below w.heap.size w _) := hHB
 have x0 := (Lib.cell_of_heap hA 0).trans rfl
 clear hNX hNR hNY hHB hA
 go_enter Tryz.func84, Tryz.ntmps84
 go_upto_region 2 with (first | ((with_reducible apply step_store hold); rfl; rfl; kernel_rfl; rfl; kernel_rfl; rw [World.setRow_alloc_new]) | fail)
 refine wp_at hW3 ?_
 clear x0 hold hW3
 have x0 := (Lib.cell_of_heap NX.out 0).trans rfl
 go_upto_region 6 with (fail)
 clear x0
 have x2 := (Lib.cell_of_heap NX.out 2).trans rfl
 have x1 := (Lib.cell_of_heap NX.out 1).trans rfl
 have h0_0 := NY.out
 have y0_0 := (Lib.cell_of_heap h0_0 2).trans rfl
 have z0_0 := frozen_of h0_0 2
 have h0_1 := heap_setCell (j := 2) h0_0 (.int .i64 d)
 have y0_1 := (Lib.cell_of_heap h0_1 1).trans rfl
 have z0_1 := frozen_of h0_1 1
 have h0_2 := heap_setCell (j := 1) h0_1 (.int .i64 bin)
 go_region
 obtain ⟨V0, hV⟩ : ∃ V, V = (((W3).setCell ⟨w.heap.size + 1 + 1, 2, none⟩ (.int .i64 d)).setCell ⟨w.heap.size + 1 + 1, 1, none⟩ (.int .i64 bin)).drew := ⟨_, rfl⟩
 rw [← hV]
 have t0 : Turned W3 V0 (fun k => k = w.heap.size + 1 + 1) := by rw [hV]; exact (Turned.refl _ (fun k => k = w.heap.size + 1 + 1)).step.step.drw
 have NY0 : Hid (V0.heap[w.heap.size + 1 + 1]? = some (.cells #[.int .i64 2, .int .i64 bin, .int .i64 d, .int .i64 0, .int .u32 0, .int .i64 0, .int .u32 0, .int .i64 0, .int .i64 0, .int .i64 0, .bool false, .slice none 0 0] TIn (0, 0))) := by rw [hV]; exact h0_2
 have NX0 : Hid (_ = _) := blk_t NX.out t0 (by omega)
 have NR0 : Hid (_ = _) := blk_t NR.out t0 (by omega)
 have HB0 : Hid (Below w.heap.size w V0) := below_turned HB.out t0
 clear t0 hV x1 x2 y0_0 z0_0 y0_1 z0_1 h0_0 h0_1 h0_2
 go_upto_region 7 with (fail)
 have x3 := (Lib.cell_of_heap NX0.out 3).trans rfl
 have x4 := (Lib.cell_of_heap NX0.out 4).trans rfl
 have x5 := (Lib.cell_of_heap NX0.out 5).trans rfl
 have x6 := (Lib.cell_of_heap NX0.out 6).trans rfl
 have h1_0 := NY0.out
 have y1_0 := (Lib.cell_of_heap h1_0 3).trans rfl
 have z1_0 := frozen_of h1_0 3
 have h1_1 := heap_setCell (j := 3) h1_0 (.int .i64 ak)
 have y1_1 := (Lib.cell_of_heap h1_1 4).trans rfl
 have z1_1 := frozen_of h1_1 4
 have h1_2 := heap_setCell (j := 4) h1_1 (.int .u32 an)
 have y1_2 := (Lib.cell_of_heap h1_2 5).trans rfl
 have z1_2 := frozen_of h1_2 5
 have h1_3 := heap_setCell (j := 5) h1_2 (.int .i64 bk)
 have y1_3 := (Lib.cell_of_heap h1_3 6).trans rfl
 have z1_3 := frozen_of h1_3 6
 have h1_4 := heap_setCell (j := 6) h1_3 (.int .u32 bn)
 go_region
 obtain ⟨V1, hV⟩ : ∃ V, V = (((((V0).setCell ⟨w.heap.size + 1 + 1, 3, none⟩ (.int .i64 ak)).setCell ⟨w.heap.size + 1 + 1, 4, none⟩ (.int .u32 an)).setCell ⟨w.heap.size + 1 + 1, 5, none⟩ (.int .i64 bk)).setCell ⟨w.heap.size + 1 + 1, 6, none⟩ (.int .u32 bn)).drew := ⟨_, rfl⟩
 rw [← hV]
 have t1 : Turned V0 V1 (fun k => k = w.heap.size + 1 + 1) := by rw [hV]; exact (Turned.refl _ (fun k => k = w.heap.size + 1 + 1)).step.step.step.step.drw
 have NY1 : Hid (V1.heap[w.heap.size + 1 + 1]? = some (.cells #[.int .i64 2, .int .i64 bin, .int .i64 d, .int .i64 ak, .int .u32 an, .int .i64 bk, .int .u32 bn, .int .i64 0, .int .i64 0, .int .i64 0, .bool false, .slice none 0 0] TIn (0, 0))) := by rw [hV]; exact h1_4
 have NX1 : Hid (_ = _) := blk_t NX0.out t1 (by omega)
 have NR1 : Hid (_ = _) := blk_t NR0.out t1 (by omega)
 have HB1 : Hid (Below w.heap.size w V1) := below_turned HB0.out t1
 clear t1 hV x3 x4 x5 x6 y1_0 z1_0 y1_1 z1_1 y1_2 z1_2 y1_3 z1_3 h1_0 h1_1 h1_2 h1_3 h1_4
 go_upto_region 33 with (fail)
 obtain ⟨y0, y1, y2, y3, y4, y5, y6, y7, y8, y9, y10, y11⟩ := cells12 NY1.out
 have hold := NR1.out
 have g9 := setRow_heap V1 (w.heap.size + 1) _ #[.int .i64 2, .int .i64 bin, .int .i64 d, .int .i64 ak, .int .u32 an, .int .i64 bk, .int .u32 bn, .int .i64 0, .int .i64 0, .int .i64 0, .bool false, .slice none 0 0] _ (0, 0) hold
 have t9 := Turned.setRow (S := fun k => k = w.heap.size + 1) V1 (w.heap.size + 1) #[.int .i64 2, .int .i64 bin, .int .i64 d, .int .i64 ak, .int .u32 an, .int .i64 bk, .int .u32 bn, .int .i64 0, .int .i64 0, .int .i64 0, .bool false, .slice none 0 0] rfl
 obtain ⟨q0, q1, q2, q3, q4, q5, q6, q7, q8, q9, q10, q11⟩ := cells12 g9
 go_wp2_with (first | ((with_reducible apply step_store hold); rfl; rfl; kernel_rfl; rfl; kernel_rfl) | fail)
 refine bodyPost_ret (v := .agg #[.int .i64 2, .int .i64 bin, .int .i64 d, .int .i64 ak, .int .u32 an, .int .i64 bk, .int .u32 bn, .int .i64 0, .int .i64 0, .int .i64 0, .bool false, .slice none 0 0]) (by simp [results, Tryz.results84, go_sem, q0, q1, q2, q3, q4, q5, q6, q7, q8, q9, q10, q11]) rfl ⟨rfl, below_turned HB1.out t9⟩
theorem rShape_3 (bin d ak an bk bn xn off wd : Int) (sg : Bool) (xp : Option Addr) (al xc : Nat) (w : World) :
 Calls Tryz.prog 84 #[.agg #[.int .i64 3, .int .i64 bin, .int .i64 d, .int .i64 ak, .int .u32 an, .int .i64 bk, .int .u32 bn, .int .i64 xn, .int .i64 off, .int .i64 wd, .bool sg, .slice xp al xc]] w fun e w' => e = .returned (.agg #[.int .i64 3, .int .i64 0, .int .i64 d, .int .i64 0, .int .u32 0, .int .i64 0, .int .u32 0, .int .i64 xn, .int .i64 off, .int .i64 0, .bool false, .slice none 0 0]) ∧ Below w.heap.size w w' := by
 obtain ⟨W3, hW3, hNX, hNR, hNY, hHB, hA, hold⟩ := three_ex4 w (.cells #[.int .i64 3, .int .i64 bin, .int .i64 d, .int .i64 ak, .int .u32 an, .int .i64 bk, .int .u32 bn, .int .i64 xn, .int .i64 off, .int .i64 wd, .bool sg, .slice xp al xc] TIn) (.cells #[.int .i64 0, .int .i64 0, .int .i64 0, .int .i64 0, .int .u32 0, .int .i64 0, .int .u32 0, .int .i64 0, .int .i64 0, .int .i64 0, .bool false, .slice none 0 0] TIn) (.cells #[.int .i64 3, .int .i64 0, .int .i64 (-1), .int .i64 0, .int .u32 0, .int .i64 0, .int .u32 0, .int .i64 0, .int .i64 0, .int .i64 0, .bool false, .slice none 0 0] TIn)
 have NX : Hid (_ = _) := hNX
 have NR : Hid (_ = _) := hNR
 have NY : Hid (_ = _) := hNY
 have HB : Hid (Below w.heap.size w _) := hHB
 have x0 := (Lib.cell_of_heap hA 0).trans rfl
 clear hNX hNR hNY hHB hA
 go_enter Tryz.func84, Tryz.ntmps84
 go_upto_region 2 with (first | ((with_reducible apply step_store hold); rfl; rfl; kernel_rfl; rfl; kernel_rfl; rw [World.setRow_alloc_new]) | fail)
 refine wp_at hW3 ?_
 clear x0 hold hW3
 have x0 := (Lib.cell_of_heap NX.out 0).trans rfl
 go_upto_region 10 with (fail)
 clear x0
 have x2 := (Lib.cell_of_heap NX.out 2).trans rfl
 have x7 := (Lib.cell_of_heap NX.out 7).trans rfl
 have h0_0 := NY.out
 have y0_0 := (Lib.cell_of_heap h0_0 2).trans rfl
 have z0_0 := frozen_of h0_0 2
 have h0_1 := heap_setCell (j := 2) h0_0 (.int .i64 d)
 have y0_1 := (Lib.cell_of_heap h0_1 7).trans rfl
 have z0_1 := frozen_of h0_1 7
 have h0_2 := heap_setCell (j := 7) h0_1 (.int .i64 xn)
 go_region
 obtain ⟨V0, hV⟩ : ∃ V, V = (((W3).setCell ⟨w.heap.size + 1 + 1, 2, none⟩ (.int .i64 d)).setCell ⟨w.heap.size + 1 + 1, 7, none⟩ (.int .i64 xn)).drew := ⟨_, rfl⟩
 rw [← hV]
 have t0 : Turned W3 V0 (fun k => k = w.heap.size + 1 + 1) := by rw [hV]; exact (Turned.refl _ (fun k => k = w.heap.size + 1 + 1)).step.step.drw
 have NY0 : Hid (V0.heap[w.heap.size + 1 + 1]? = some (.cells #[.int .i64 3, .int .i64 0, .int .i64 d, .int .i64 0, .int .u32 0, .int .i64 0, .int .u32 0, .int .i64 xn, .int .i64 0, .int .i64 0, .bool false, .slice none 0 0] TIn (0, 0))) := by rw [hV]; exact h0_2
 have NX0 : Hid (_ = _) := blk_t NX.out t0 (by omega)
 have NR0 : Hid (_ = _) := blk_t NR.out t0 (by omega)
 have HB0 : Hid (Below w.heap.size w V0) := below_turned HB.out t0
 clear t0 hV x2 x7 y0_0 z0_0 y0_1 z0_1 h0_0 h0_1 h0_2
 go_upto_region 11 with (fail)
 have x8 := (Lib.cell_of_heap NX0.out 8).trans rfl
 have h1_0 := NY0.out
 have y1_0 := (Lib.cell_of_heap h1_0 8).trans rfl
 have z1_0 := frozen_of h1_0 8
 have h1_1 := heap_setCell (j := 8) h1_0 (.int .i64 off)
 go_upto_region 33 with (fail)
 obtain ⟨V1, hV⟩ : ∃ V, V = ((V0).setCell ⟨w.heap.size + 1 + 1, 8, none⟩ (.int .i64 off)) := ⟨_, rfl⟩
 rw [← hV]
 have t1 : Turned V0 V1 (fun k => k = w.heap.size + 1 + 1) := by rw [hV]; exact (Turned.refl _ (fun k => k = w.heap.size + 1 + 1)).step
 have NY1 : Hid (V1.heap[w.heap.size + 1 + 1]? = some (.cells #[.int .i64 3, .int .i64 0, .int .i64 d, .int .i64 0, .int .u32 0, .int .i64 0, .int .u32 0, .int .i64 xn, .int .i64 off, .int .i64 0, .bool false, .slice none 0 0] TIn (0, 0))) := by rw [hV]; exact h1_1
 have NX1 : Hid (_ = _) := blk_t NX0.out t1 (by omega)
 have NR1 : Hid (_ = _) := blk_t NR0.out t1 (by omega)
 have HB1 : Hid (Below w.heap.size w V1) := below_turned HB0.out t1
 clear t1 hV x8 y1_0 z1_0 h1_0 h1_1
 obtain ⟨y0, y1, y2, y3, y4, y5, y6, y7, y8, y9, y10, y11⟩ := cells12 NY1.out
 have hold := NR1.out
 have g9 := setRow_heap V1 (w.heap.size + 1) _ #[.int .i64 3, .int .i64 0, .int .i64 d, .int .i64 0, .int .u32 0, .int .i64 0, .int .u32 0, .int .i64 xn, .int .i64 off, .int .i64 0, .bool false, .slice none 0 0] _ (0, 0) hold
 have t9 := Turned.setRow (S := fun k => k = w.heap.size + 1) V1 (w.heap.size + 1) #[.int .i64 3, .int .i64 0, .int .i64 d, .int .i64 0, .int .u32 0, .int .i64 0, .int .u32 0, .int .i64 xn, .int .i64 off, .int .i64 0, .bool false, .slice none 0 0] rfl
 obtain ⟨q0, q1, q2, q3, q4, q5, q6, q7, q8, q9, q10, q11⟩ := cells12 g9
 go_wp2_with (first | ((with_reducible apply step_store hold); rfl; rfl; kernel_rfl; rfl; kernel_rfl) | fail)
 refine bodyPost_ret (v := .agg #[.int .i64 3, .int .i64 0, .int .i64 d, .int .i64 0, .int .u32 0, .int .i64 0, .int .u32 0, .int .i64 xn, .int .i64 off, .int .i64 0, .bool false, .slice none 0 0]) (by simp [results, Tryz.results84, go_sem, q0, q1, q2, q3, q4, q5, q6, q7, q8, q9, q10, q11]) rfl ⟨rfl, below_turned HB1.out t9⟩
theorem rShape_4 (bin d ak an bk bn xn off wd : Int) (sg : Bool) (xp : Option Addr) (al xc : Nat) (w : World) :
 Calls Tryz.prog 84 #[.agg #[.int .i64 4, .int .i64 bin, .int .i64 d, .int .i64 ak, .int .u32 an, .int .i64 bk, .int .u32 bn, .int .i64 xn, .int .i64 off, .int .i64 wd, .bool sg, .slice xp al xc]] w fun e w' => e = .returned (.agg #[.int .i64 4, .int .i64 0, .int .i64 d, .int .i64 0, .int .u32 0, .int .i64 0, .int .u32 0, .int .i64 xn, .int .i64 off, .int .i64 0, .bool false, .slice none 0 0]) ∧ Below w.heap.size w w' := by
 obtain ⟨W3, hW3, hNX, hNR, hNY, hHB, hA, hold⟩ := three_ex4 w (.cells #[.int .i64 4, .int .i64 bin, .int .i64 d, .int .i64 ak, .int .u32 an, .int .i64 bk, .int .u32 bn, .int .i64 xn, .int .i64 off, .int .i64 wd, .bool sg, .slice xp al xc] TIn) (.cells #[.int .i64 0, .int .i64 0, .int .i64 0, .int .i64 0, .int .u32 0, .int .i64 0, .int .u32 0, .int .i64 0, .int .i64 0, .int .i64 0, .bool false, .slice none 0 0] TIn) (.cells #[.int .i64 4, .int .i64 0, .int .i64 (-1), .int .i64 0, .int .u32 0, .int .i64 0, .int .u32 0, .int .i64 0, .int .i64 0, .int .i64 0, .bool false, .slice none 0 0] TIn)
 have NX : Hid (_ = _) := hNX
 have NR : Hid (_ = _) := hNR
 have NY : Hid (_ = _) := hNY
 have HB : Hid (Below w.heap.size w _) := hHB
 have x0 := (Lib.cell_of_heap hA 0).trans rfl
 clear hNX hNR hNY hHB hA
 go_enter Tryz.func84, Tryz.ntmps84
 go_upto_region 2 with (first | ((with_reducible apply step_store hold); rfl; rfl; kernel_rfl; rfl; kernel_rfl; rw [World.setRow_alloc_new]) | fail)
 refine wp_at hW3 ?_
 clear x0 hold hW3
 have x0 := (Lib.cell_of_heap NX.out 0).trans rfl
 go_upto_region 10 with (fail)
 clear x0
 have x2 := (Lib.cell_of_heap NX.out 2).trans rfl
 have x7 := (Lib.cell_of_heap NX.out 7).trans rfl
 have h0_0 := NY.out
 have y0_0 := (Lib.cell_of_heap h0_0 2).trans rfl
 have z0_0 := frozen_of h0_0 2
 have h0_1 := heap_setCell (j := 2) h0_0 (.int .i64 d)
 have y0_1 := (Lib.cell_of_heap h0_1 7).trans rfl
 have z0_1 := frozen_of h0_1 7
 have h0_2 := heap_setCell (j := 7) h0_1 (.int .i64 xn)
 go_region
 obtain ⟨V0, hV⟩ : ∃ V, V = (((W3).setCell ⟨w.heap.size + 1 + 1, 2, none⟩ (.int .i64 d)).setCell ⟨w.heap.size + 1 + 1, 7, none⟩ (.int .i64 xn)).drew := ⟨_, rfl⟩
 rw [← hV]
 have t0 : Turned W3 V0 (fun k => k = w.heap.size + 1 + 1) := by rw [hV]; exact (Turned.refl _ (fun k => k = w.heap.size + 1 + 1)).step.step.drw
 have NY0 : Hid (V0.heap[w.heap.size + 1 + 1]? = some (.cells #[.int .i64 4, .int .i64 0, .int .i64 d, .int .i64 0, .int .u32 0, .int .i64 0, .int .u32 0, .int .i64 xn, .int .i64 0, .int .i64 0, .bool false, .slice none 0 0] TIn (0, 0))) := by rw [hV]; exact h0_2
 have NX0 : Hid (_ = _) := blk_t NX.out t0 (by omega)
 have NR0 : Hid (_ = _) := blk_t NR.out t0 (by omega)
 have HB0 : Hid (Below w.heap.size w V0) := below_turned HB.out t0
 clear t0 hV x2 x7 y0_0 z0_0 y0_1 z0_1 h0_0 h0_1 h0_2
 go_upto_region 11 with (fail)
 have x8 := (Lib.cell_of_heap NX0.out 8).trans rfl
 have h1_0 := NY0.out
 have y1_0 := (Lib.cell_of_heap h1_0 8).trans rfl
 have z1_0 := frozen_of h1_0 8
 have h1_1 := heap_setCell (j := 8) h1_0 (.int .i64 off)
 go_upto_region 33 with (fail)
 obtain ⟨V1, hV⟩ : ∃ V, V = ((V0).setCell ⟨w.heap.size + 1 + 1, 8, none⟩ (.int .i64 off)) := ⟨_, rfl⟩
 rw [← hV]
 have t1 : Turned V0 V1 (fun k => k = w.heap.size + 1 + 1) := by rw [hV]; exact (Turned.refl _ (fun k => k = w.heap.size + 1 + 1)).step
 have NY1 : Hid (V1.heap[w.heap.size + 1 + 1]? = some (.cells #[.int .i64 4, .int .i64 0, .int .i64 d, .int .i64 0, .int .u32 0, .int .i64 0, .int .u32 0, .int .i64 xn, .int .i64 off, .int .i64 0, .bool false, .slice none 0 0] TIn (0, 0))) := by rw [hV]; exact h1_1
 have NX1 : Hid (_ = _) := blk_t NX0.out t1 (by omega)
 have NR1 : Hid (_ = _) := blk_t NR0.out t1 (by omega)
 have HB1 : Hid (Below w.heap.size w V1) := below_turned HB0.out t1
 clear t1 hV x8 y1_0 z1_0 h1_0 h1_1
 obtain ⟨y0, y1, y2, y3, y4, y5, y6, y7, y8, y9, y10, y11⟩ := cells12 NY1.out
 have hold := NR1.out
 have g9 := setRow_heap V1 (w.heap.size + 1) _ #[.int .i64 4, .int .i64 0, .int .i64 d, .int .i64 0, .int .u32 0, .int .i64 0, .int .u32 0, .int .i64 xn, .int .i64 off, .int .i64 0, .bool false, .slice none 0 0] _ (0, 0) hold
 have t9 := Turned.setRow (S := fun k => k = w.heap.size + 1) V1 (w.heap.size + 1) #[.int .i64 4, .int .i64 0, .int .i64 d, .int .i64 0, .int .u32 0, .int .i64 0, .int .u32 0, .int .i64 xn, .int .i64 off, .int .i64 0, .bool false, .slice none 0 0] rfl
 obtain ⟨q0, q1, q2, q3, q4, q5, q6, q7, q8, q9, q10, q11⟩ := cells12 g9
 go_wp2_with (first | ((with_reducible apply step_store hold); rfl; rfl; kernel_rfl; rfl; kernel_rfl) | fail)
 refine bodyPost_ret (v := .agg #[.int .i64 4, .int .i64 0, .int .i64 d, .int .i64 0, .int .u32 0, .int .i64 0, .int .u32 0, .int .i64 xn, .int .i64 off, .int .i64 0, .bool false, .slice none 0 0]) (by simp [results, Tryz.results84, go_sem, q0, q1, q2, q3, q4, q5, q6, q7, q8, q9, q10, q11]) rfl ⟨rfl, below_turned HB1.out t9⟩
theorem rShape_5 (bin d ak an bk bn xn off wd : Int) (sg : Bool) (xp : Option Addr) (al xc : Nat) (w : World) :
 Calls Tryz.prog 84 #[.agg #[.int .i64 5, .int .i64 bin, .int .i64 d, .int .i64 ak, .int .u32 an, .int .i64 bk, .int .u32 bn, .int .i64 xn, .int .i64 off, .int .i64 wd, .bool sg, .slice xp al xc]] w fun e w' => e = .returned (.agg #[.int .i64 5, .int .i64 0, .int .i64 d, .int .i64 ak, .int .u32 an, .int .i64 0, .int .u32 0, .int .i64 0, .int .i64 off, .int .i64 wd, .bool sg, .slice none 0 0]) ∧ Below w.heap.size w w' := by
 obtain ⟨W3, hW3, hNX, hNR, hNY, hHB, hA, hold⟩ := three_ex4 w (.cells #[.int .i64 5, .int .i64 bin, .int .i64 d, .int .i64 ak, .int .u32 an, .int .i64 bk, .int .u32 bn, .int .i64 xn, .int .i64 off, .int .i64 wd, .bool sg, .slice xp al xc] TIn) (.cells #[.int .i64 0, .int .i64 0, .int .i64 0, .int .i64 0, .int .u32 0, .int .i64 0, .int .u32 0, .int .i64 0, .int .i64 0, .int .i64 0, .bool false, .slice none 0 0] TIn) (.cells #[.int .i64 5, .int .i64 0, .int .i64 (-1), .int .i64 0, .int .u32 0, .int .i64 0, .int .u32 0, .int .i64 0, .int .i64 0, .int .i64 0, .bool false, .slice none 0 0] TIn)
 have NX : Hid (_ = _) := hNX
 have NR : Hid (_ = _) := hNR
 have NY : Hid (_ = _) := hNY
 have HB : Hid (Below w.heap.size w _) := hHB
 have x0 := (Lib.cell_of_heap hA 0).trans rfl
 clear hNX hNR hNY hHB hA
 go_enter Tryz.func84, Tryz.ntmps84
 go_upto_region 2 with (first | ((with_reducible apply step_store hold); rfl; rfl; kernel_rfl; rfl; kernel_rfl; rw [World.setRow_alloc_new]) | fail)
 refine wp_at hW3 ?_
 clear x0 hold hW3
 have x0 := (Lib.cell_of_heap NX.out 0).trans rfl
 go_upto_region 13 with (fail)
 clear x0
 have x2 := (Lib.cell_of_heap NX.out 2).trans rfl
 have x3 := (Lib.cell_of_heap NX.out 3).trans rfl
 have x4 := (Lib.cell_of_heap NX.out 4).trans rfl
 have h0_0 := NY.out
 have y0_0 := (Lib.cell_of_heap h0_0 2).trans rfl
 have z0_0 := frozen_of h0_0 2
 have h0_1 := heap_setCell (j := 2) h0_0 (.int .i64 d)
 have y0_1 := (Lib.cell_of_heap h0_1 3).trans rfl
 have z0_1 := frozen_of h0_1 3
 have h0_2 := heap_setCell (j := 3) h0_1 (.int .i64 ak)
 have y0_2 := (Lib.cell_of_heap h0_2 4).trans rfl
 have z0_2 := frozen_of h0_2 4
 have h0_3 := heap_setCell (j := 4) h0_2 (.int .u32 an)
 go_region
 obtain ⟨V0, hV⟩ : ∃ V, V = ((((W3).setCell ⟨w.heap.size + 1 + 1, 2, none⟩ (.int .i64 d)).setCell ⟨w.heap.size + 1 + 1, 3, none⟩ (.int .i64 ak)).setCell ⟨w.heap.size + 1 + 1, 4, none⟩ (.int .u32 an)).drew := ⟨_, rfl⟩
 rw [← hV]
 have t0 : Turned W3 V0 (fun k => k = w.heap.size + 1 + 1) := by rw [hV]; exact (Turned.refl _ (fun k => k = w.heap.size + 1 + 1)).step.step.step.drw
 have NY0 : Hid (V0.heap[w.heap.size + 1 + 1]? = some (.cells #[.int .i64 5, .int .i64 0, .int .i64 d, .int .i64 ak, .int .u32 an, .int .i64 0, .int .u32 0, .int .i64 0, .int .i64 0, .int .i64 0, .bool false, .slice none 0 0] TIn (0, 0))) := by rw [hV]; exact h0_3
 have NX0 : Hid (_ = _) := blk_t NX.out t0 (by omega)
 have NR0 : Hid (_ = _) := blk_t NR.out t0 (by omega)
 have HB0 : Hid (Below w.heap.size w V0) := below_turned HB.out t0
 clear t0 hV x2 x3 x4 y0_0 z0_0 y0_1 z0_1 y0_2 z0_2 h0_0 h0_1 h0_2 h0_3
 go_upto_region 14 with (fail)
 have x8 := (Lib.cell_of_heap NX0.out 8).trans rfl
 have x9 := (Lib.cell_of_heap NX0.out 9).trans rfl
 have h1_0 := NY0.out
 have y1_0 := (Lib.cell_of_heap h1_0 8).trans rfl
 have z1_0 := frozen_of h1_0 8
 have h1_1 := heap_setCell (j := 8) h1_0 (.int .i64 off)
 have y1_1 := (Lib.cell_of_heap h1_1 9).trans rfl
 have z1_1 := frozen_of h1_1 9
 have h1_2 := heap_setCell (j := 9) h1_1 (.int .i64 wd)
 go_region
 obtain ⟨V1, hV⟩ : ∃ V, V = (((V0).setCell ⟨w.heap.size + 1 + 1, 8, none⟩ (.int .i64 off)).setCell ⟨w.heap.size + 1 + 1, 9, none⟩ (.int .i64 wd)).drew := ⟨_, rfl⟩
 rw [← hV]
 have t1 : Turned V0 V1 (fun k => k = w.heap.size + 1 + 1) := by rw [hV]; exact (Turned.refl _ (fun k => k = w.heap.size + 1 + 1)).step.step.drw
 have NY1 : Hid (V1.heap[w.heap.size + 1 + 1]? = some (.cells #[.int .i64 5, .int .i64 0, .int .i64 d, .int .i64 ak, .int .u32 an, .int .i64 0, .int .u32 0, .int .i64 0, .int .i64 off, .int .i64 wd, .bool false, .slice none 0 0] TIn (0, 0))) := by rw [hV]; exact h1_2
 have NX1 : Hid (_ = _) := blk_t NX0.out t1 (by omega)
 have NR1 : Hid (_ = _) := blk_t NR0.out t1 (by omega)
 have HB1 : Hid (Below w.heap.size w V1) := below_turned HB0.out t1
 clear t1 hV x8 x9 y1_0 z1_0 y1_1 z1_1 h1_0 h1_1 h1_2
 go_upto_region 15 with (fail)
 have x10 := (Lib.cell_of_heap NX1.out 10).trans rfl
 have h2_0 := NY1.out
 have y2_0 := (Lib.cell_of_heap h2_0 10).trans rfl
 have z2_0 := frozen_of h2_0 10
 have h2_1 := heap_setCell (j := 10) h2_0 (.bool sg)
 go_upto_region 33 with (fail)
 obtain ⟨V2, hV⟩ : ∃ V, V = ((V1).setCell ⟨w.heap.size + 1 + 1, 10, none⟩ (.bool sg)) := ⟨_, rfl⟩
 rw [← hV]
 have t2 : Turned V1 V2 (fun k => k = w.heap.size + 1 + 1) := by rw [hV]; exact (Turned.refl _ (fun k => k = w.heap.size + 1 + 1)).step
 have NY2 : Hid (V2.heap[w.heap.size + 1 + 1]? = some (.cells #[.int .i64 5, .int .i64 0, .int .i64 d, .int .i64 ak, .int .u32 an, .int .i64 0, .int .u32 0, .int .i64 0, .int .i64 off, .int .i64 wd, .bool sg, .slice none 0 0] TIn (0, 0))) := by rw [hV]; exact h2_1
 have NX2 : Hid (_ = _) := blk_t NX1.out t2 (by omega)
 have NR2 : Hid (_ = _) := blk_t NR1.out t2 (by omega)
 have HB2 : Hid (Below w.heap.size w V2) := below_turned HB1.out t2
 clear t2 hV x10 y2_0 z2_0 h2_0 h2_1
 obtain ⟨y0, y1, y2, y3, y4, y5, y6, y7, y8, y9, y10, y11⟩ := cells12 NY2.out
 have hold := NR2.out
 have g9 := setRow_heap V2 (w.heap.size + 1) _ #[.int .i64 5, .int .i64 0, .int .i64 d, .int .i64 ak, .int .u32 an, .int .i64 0, .int .u32 0, .int .i64 0, .int .i64 off, .int .i64 wd, .bool sg, .slice none 0 0] _ (0, 0) hold
 have t9 := Turned.setRow (S := fun k => k = w.heap.size + 1) V2 (w.heap.size + 1) #[.int .i64 5, .int .i64 0, .int .i64 d, .int .i64 ak, .int .u32 an, .int .i64 0, .int .u32 0, .int .i64 0, .int .i64 off, .int .i64 wd, .bool sg, .slice none 0 0] rfl
 obtain ⟨q0, q1, q2, q3, q4, q5, q6, q7, q8, q9, q10, q11⟩ := cells12 g9
 go_wp2_with (first | ((with_reducible apply step_store hold); rfl; rfl; kernel_rfl; rfl; kernel_rfl) | fail)
 refine bodyPost_ret (v := .agg #[.int .i64 5, .int .i64 0, .int .i64 d, .int .i64 ak, .int .u32 an, .int .i64 0, .int .u32 0, .int .i64 0, .int .i64 off, .int .i64 wd, .bool sg, .slice none 0 0]) (by simp [results, Tryz.results84, go_sem, q0, q1, q2, q3, q4, q5, q6, q7, q8, q9, q10, q11]) rfl ⟨rfl, below_turned HB2.out t9⟩
theorem rShape_6 (bin d ak an bk bn xn off wd : Int) (sg : Bool) (xp : Option Addr) (al xc : Nat) (w : World) :
 Calls Tryz.prog 84 #[.agg #[.int .i64 6, .int .i64 bin, .int .i64 d, .int .i64 ak, .int .u32 an, .int .i64 bk, .int .u32 bn, .int .i64 xn, .int .i64 off, .int .i64 wd, .bool sg, .slice xp al xc]] w fun e w' => e = .returned (.agg #[.int .i64 6, .int .i64 0, .int .i64 (-1), .int .i64 ak, .int .u32 an, .int .i64 bk, .int .u32 bn, .int .i64 0, .int .i64 off, .int .i64 wd, .bool false, .slice none 0 0]) ∧ Below w.heap.size w w' := by
 obtain ⟨W3, hW3, hNX, hNR, hNY, hHB, hA, hold⟩ := three_ex4 w (.cells #[.int .i64 6, .int .i64 bin, .int .i64 d, .int .i64 ak, .int .u32 an, .int .i64 bk, .int .u32 bn, .int .i64 xn, .int .i64 off, .int .i64 wd, .bool sg, .slice xp al xc] TIn) (.cells #[.int .i64 0, .int .i64 0, .int .i64 0, .int .i64 0, .int .u32 0, .int .i64 0, .int .u32 0, .int .i64 0, .int .i64 0, .int .i64 0, .bool false, .slice none 0 0] TIn) (.cells #[.int .i64 6, .int .i64 0, .int .i64 (-1), .int .i64 0, .int .u32 0, .int .i64 0, .int .u32 0, .int .i64 0, .int .i64 0, .int .i64 0, .bool false, .slice none 0 0] TIn)
 have NX : Hid (_ = _) := hNX
 have NR : Hid (_ = _) := hNR
 have NY : Hid (_ = _) := hNY
 have HB : Hid (Below w.heap.size w _) := hHB
 have x0 := (Lib.cell_of_heap hA 0).trans rfl
 clear hNX hNR hNY hHB hA
 go_enter Tryz.func84, Tryz.ntmps84
 go_upto_region 2 with (first | ((with_reducible apply step_store hold); rfl; rfl; kernel_rfl; rfl; kernel_rfl; rw [World.setRow_alloc_new]) | fail)
 refine wp_at hW3 ?_
 clear x0 hold hW3
 have x0 := (Lib.cell_of_heap NX.out 0).trans rfl
 go_upto_region 18 with (fail)
 clear x0
 have x3 := (Lib.cell_of_heap NX.out 3).trans rfl
 have x4 := (Lib.cell_of_heap NX.out 4).trans rfl
 have x5 := (Lib.cell_of_heap NX.out 5).trans rfl
 have x6 := (Lib.cell_of_heap NX.out 6).trans rfl
 have h0_0 := NY.out
 have y0_0 := (Lib.cell_of_heap h0_0 3).trans rfl
 have z0_0 := frozen_of h0_0 3
 have h0_1 := heap_setCell (j := 3) h0_0 (.int .i64 ak)
 have y0_1 := (Lib.cell_of_heap h0_1 4).trans rfl
 have z0_1 := frozen_of h0_1 4
 have h0_2 := heap_setCell (j := 4) h0_1 (.int .u32 an)
 have y0_2 := (Lib.cell_of_heap h0_2 5).trans rfl
 have z0_2 := frozen_of h0_2 5
 have h0_3 := heap_setCell (j := 5) h0_2 (.int .i64 bk)
 have y0_3 := (Lib.cell_of_heap h0_3 6).trans rfl
 have z0_3 := frozen_of h0_3 6
 have h0_4 := heap_setCell (j := 6) h0_3 (.int .u32 bn)
 go_region
 obtain ⟨V0, hV⟩ : ∃ V, V = (((((W3).setCell ⟨w.heap.size + 1 + 1, 3, none⟩ (.int .i64 ak)).setCell ⟨w.heap.size + 1 + 1, 4, none⟩ (.int .u32 an)).setCell ⟨w.heap.size + 1 + 1, 5, none⟩ (.int .i64 bk)).setCell ⟨w.heap.size + 1 + 1, 6, none⟩ (.int .u32 bn)).drew := ⟨_, rfl⟩
 rw [← hV]
 have t0 : Turned W3 V0 (fun k => k = w.heap.size + 1 + 1) := by rw [hV]; exact (Turned.refl _ (fun k => k = w.heap.size + 1 + 1)).step.step.step.step.drw
 have NY0 : Hid (V0.heap[w.heap.size + 1 + 1]? = some (.cells #[.int .i64 6, .int .i64 0, .int .i64 (-1), .int .i64 ak, .int .u32 an, .int .i64 bk, .int .u32 bn, .int .i64 0, .int .i64 0, .int .i64 0, .bool false, .slice none 0 0] TIn (0, 0))) := by rw [hV]; exact h0_4
 have NX0 : Hid (_ = _) := blk_t NX.out t0 (by omega)
 have NR0 : Hid (_ = _) := blk_t NR.out t0 (by omega)
 have HB0 : Hid (Below w.heap.size w V0) := below_turned HB.out t0
 clear t0 hV x3 x4 x5 x6 y0_0 z0_0 y0_1 z0_1 y0_2 z0_2 y0_3 z0_3 h0_0 h0_1 h0_2 h0_3 h0_4
 go_upto_region 19 with (fail)
 have x8 := (Lib.cell_of_heap NX0.out 8).trans rfl
 have x9 := (Lib.cell_of_heap NX0.out 9).trans rfl
 have h1_0 := NY0.out
 have y1_0 := (Lib.cell_of_heap h1_0 8).trans rfl
 have z1_0 := frozen_of h1_0 8
 have h1_1 := heap_setCell (j := 8) h1_0 (.int .i64 off)
 have y1_1 := (Lib.cell_of_heap h1_1 9).trans rfl
 have z1_1 := frozen_of h1_1 9
 have h1_2 := heap_setCell (j := 9) h1_1 (.int .i64 wd)
 go_region
 obtain ⟨V1, hV⟩ : ∃ V, V = (((V0).setCell ⟨w.heap.size + 1 + 1, 8, none⟩ (.int .i64 off)).setCell ⟨w.heap.size + 1 + 1, 9, none⟩ (.int .i64 wd)).drew := ⟨_, rfl⟩
 rw [← hV]
 have t1 : Turned V0 V1 (fun k => k = w.heap.size + 1 + 1) := by rw [hV]; exact (Turned.refl _ (fun k => k = w.heap.size + 1 + 1)).step.step.drw
 have NY1 : Hid (V1.heap[w.heap.size + 1 + 1]? = some (.cells #[.int .i64 6, .int .i64 0, .int .i64 (-1), .int .i64 ak, .int .u32 an, .int .i64 bk, .int .u32 bn, .int .i64 0, .int .i64 off, .int .i64 wd, .bool false, .slice none 0 0] TIn (0, 0))) := by rw [hV]; exact h1_2
 have NX1 : Hid (_ = _) := blk_t NX0.out t1 (by omega)
 have NR1 : Hid (_ = _) := blk_t NR0.out t1 (by omega)
 have HB1 : Hid (Below w.heap.size w V1) := below_turned HB0.out t1
 clear t1 hV x8 x9 y1_0 z1_0 y1_1 z1_1 h1_0 h1_1 h1_2
 go_upto_region 33 with (fail)
 obtain ⟨y0, y1, y2, y3, y4, y5, y6, y7, y8, y9, y10, y11⟩ := cells12 NY1.out
 have hold := NR1.out
 have g9 := setRow_heap V1 (w.heap.size + 1) _ #[.int .i64 6, .int .i64 0, .int .i64 (-1), .int .i64 ak, .int .u32 an, .int .i64 bk, .int .u32 bn, .int .i64 0, .int .i64 off, .int .i64 wd, .bool false, .slice none 0 0] _ (0, 0) hold
 have t9 := Turned.setRow (S := fun k => k = w.heap.size + 1) V1 (w.heap.size + 1) #[.int .i64 6, .int .i64 0, .int .i64 (-1), .int .i64 ak, .int .u32 an, .int .i64 bk, .int .u32 bn, .int .i64 0, .int .i64 off, .int .i64 wd, .bool false, .slice none 0 0] rfl
 obtain ⟨q0, q1, q2, q3, q4, q5, q6, q7, q8, q9, q10, q11⟩ := cells12 g9
 go_wp2_with (first | ((with_reducible apply step_store hold); rfl; rfl; kernel_rfl; rfl; kernel_rfl) | fail)
 refine bodyPost_ret (v := .agg #[.int .i64 6, .int .i64 0, .int .i64 (-1), .int .i64 ak, .int .u32 an, .int .i64 bk, .int .u32 bn, .int .i64 0, .int .i64 off, .int .i64 wd, .bool false, .slice none 0 0]) (by simp [results, Tryz.results84, go_sem, q0, q1, q2, q3, q4, q5, q6, q7, q8, q9, q10, q11]) rfl ⟨rfl, below_turned HB1.out t9⟩
theorem rShape_7 (bin d ak an bk bn xn off wd : Int) (sg : Bool) (xp : Option Addr) (al xc : Nat) (w : World) :
 Calls Tryz.prog 84 #[.agg #[.int .i64 7, .int .i64 bin, .int .i64 d, .int .i64 ak, .int .u32 an, .int .i64 bk, .int .u32 bn, .int .i64 xn, .int .i64 off, .int .i64 wd, .bool sg, .slice xp al xc]] w fun e w' => e = .returned (.agg #[.int .i64 7, .int .i64 0, .int .i64 (-1), .int .i64 ak, .int .u32 an, .int .i64 bk, .int .u32 bn, .int .i64 0, .int .i64 off, .int .i64 wd, .bool false, .slice none 0 0]) ∧ Below w.heap.size w w' := by
 obtain ⟨W3, hW3, hNX, hNR, hNY, hHB, hA, hold⟩ := three_ex4 w (.cells #[.int .i64 7, .int .i64 bin, .int .i64 d, .int .i64 ak, .int .u32 an, .int .i64 bk, .int .u32 bn, .int .i64 xn, .int .i64 off, .int .i64 wd, .bool sg, .slice xp al xc] TIn) (.cells #[.int .i64 0, .int .i64 0, .int .i64 0, .int .i64 0, .int .u32 0, .int .i64 0, .int .u32 0, .int .i64 0, .int .i64 0, .int .i64 0, .bool false, .slice none 0 0] TIn) (.cells #[.int .i64 7, .int .i64 0, .int .i64 (-1), .int .i64 0, .int .u32 0, .int .i64 0, .int .u32 0, .int .i64 0, .int .i64 0, .int .i64 0, .bool false, .slice none 0 0] TIn)
 have NX : Hid (_ = _) := hNX
 have NR : Hid (_ = _) := hNR
 have NY : Hid (_ = _) := hNY
 have HB : Hid (Below w.heap.size w _) := hHB
 have x0 := (Lib.cell_of_heap hA 0).trans rfl
 clear hNX hNR hNY hHB hA
 go_enter Tryz.func84, Tryz.ntmps84
 go_upto_region 2 with (first | ((with_reducible apply step_store hold); rfl; rfl; kernel_rfl; rfl; kernel_rfl; rw [World.setRow_alloc_new]) | fail)
 refine wp_at hW3 ?_
 clear x0 hold hW3
 have x0 := (Lib.cell_of_heap NX.out 0).trans rfl
 go_upto_region 18 with (fail)
 clear x0
 have x3 := (Lib.cell_of_heap NX.out 3).trans rfl
 have x4 := (Lib.cell_of_heap NX.out 4).trans rfl
 have x5 := (Lib.cell_of_heap NX.out 5).trans rfl
 have x6 := (Lib.cell_of_heap NX.out 6).trans rfl
 have h0_0 := NY.out
 have y0_0 := (Lib.cell_of_heap h0_0 3).trans rfl
 have z0_0 := frozen_of h0_0 3
 have h0_1 := heap_setCell (j := 3) h0_0 (.int .i64 ak)
 have y0_1 := (Lib.cell_of_heap h0_1 4).trans rfl
 have z0_1 := frozen_of h0_1 4
 have h0_2 := heap_setCell (j := 4) h0_1 (.int .u32 an)
 have y0_2 := (Lib.cell_of_heap h0_2 5).trans rfl
 have z0_2 := frozen_of h0_2 5
 have h0_3 := heap_setCell (j := 5) h0_2 (.int .i64 bk)
 have y0_3 := (Lib.cell_of_heap h0_3 6).trans rfl
 have z0_3 := frozen_of h0_3 6
 have h0_4 := heap_setCell (j := 6) h0_3 (.int .u32 bn)
 go_region
 obtain ⟨V0, hV⟩ : ∃ V, V = (((((W3).setCell ⟨w.heap.size + 1 + 1, 3, none⟩ (.int .i64 ak)).setCell ⟨w.heap.size + 1 + 1, 4, none⟩ (.int .u32 an)).setCell ⟨w.heap.size + 1 + 1, 5, none⟩ (.int .i64 bk)).setCell ⟨w.heap.size + 1 + 1, 6, none⟩ (.int .u32 bn)).drew := ⟨_, rfl⟩
 rw [← hV]
 have t0 : Turned W3 V0 (fun k => k = w.heap.size + 1 + 1) := by rw [hV]; exact (Turned.refl _ (fun k => k = w.heap.size + 1 + 1)).step.step.step.step.drw
 have NY0 : Hid (V0.heap[w.heap.size + 1 + 1]? = some (.cells #[.int .i64 7, .int .i64 0, .int .i64 (-1), .int .i64 ak, .int .u32 an, .int .i64 bk, .int .u32 bn, .int .i64 0, .int .i64 0, .int .i64 0, .bool false, .slice none 0 0] TIn (0, 0))) := by rw [hV]; exact h0_4
 have NX0 : Hid (_ = _) := blk_t NX.out t0 (by omega)
 have NR0 : Hid (_ = _) := blk_t NR.out t0 (by omega)
 have HB0 : Hid (Below w.heap.size w V0) := below_turned HB.out t0
 clear t0 hV x3 x4 x5 x6 y0_0 z0_0 y0_1 z0_1 y0_2 z0_2 y0_3 z0_3 h0_0 h0_1 h0_2 h0_3 h0_4
 go_upto_region 19 with (fail)
 have x8 := (Lib.cell_of_heap NX0.out 8).trans rfl
 have x9 := (Lib.cell_of_heap NX0.out 9).trans rfl
 have h1_0 := NY0.out
 have y1_0 := (Lib.cell_of_heap h1_0 8).trans rfl
 have z1_0 := frozen_of h1_0 8
 have h1_1 := heap_setCell (j := 8) h1_0 (.int .i64 off)
 have y1_1 := (Lib.cell_of_heap h1_1 9).trans rfl
 have z1_1 := frozen_of h1_1 9
 have h1_2 := heap_setCell (j := 9) h1_1 (.int .i64 wd)
 go_region
 obtain ⟨V1, hV⟩ : ∃ V, V = (((V0).setCell ⟨w.heap.size + 1 + 1, 8, none⟩ (.int .i64 off)).setCell ⟨w.heap.size + 1 + 1, 9, none⟩ (.int .i64 wd)).drew := ⟨_, rfl⟩
 rw [← hV]
 have t1 : Turned V0 V1 (fun k => k = w.heap.size + 1 + 1) := by rw [hV]; exact (Turned.refl _ (fun k => k = w.heap.size + 1 + 1)).step.step.drw
 have NY1 : Hid (V1.heap[w.heap.size + 1 + 1]? = some (.cells #[.int .i64 7, .int .i64 0, .int .i64 (-1), .int .i64 ak, .int .u32 an, .int .i64 bk, .int .u32 bn, .int .i64 0, .int .i64 off, .int .i64 wd, .bool false, .slice none 0 0] TIn (0, 0))) := by rw [hV]; exact h1_2
 have NX1 : Hid (_ = _) := blk_t NX0.out t1 (by omega)
 have NR1 : Hid (_ = _) := blk_t NR0.out t1 (by omega)
 have HB1 : Hid (Below w.heap.size w V1) := below_turned HB0.out t1
 clear t1 hV x8 x9 y1_0 z1_0 y1_1 z1_1 h1_0 h1_1 h1_2
 go_upto_region 33 with (fail)
 obtain ⟨y0, y1, y2, y3, y4, y5, y6, y7, y8, y9, y10, y11⟩ := cells12 NY1.out
 have hold := NR1.out
 have g9 := setRow_heap V1 (w.heap.size + 1) _ #[.int .i64 7, .int .i64 0, .int .i64 (-1), .int .i64 ak, .int .u32 an, .int .i64 bk, .int .u32 bn, .int .i64 0, .int .i64 off, .int .i64 wd, .bool false, .slice none 0 0] _ (0, 0) hold
 have t9 := Turned.setRow (S := fun k => k = w.heap.size + 1) V1 (w.heap.size + 1) #[.int .i64 7, .int .i64 0, .int .i64 (-1), .int .i64 ak, .int .u32 an, .int .i64 bk, .int .u32 bn, .int .i64 0, .int .i64 off, .int .i64 wd, .bool false, .slice none 0 0] rfl
 obtain ⟨q0, q1, q2, q3, q4, q5, q6, q7, q8, q9, q10, q11⟩ := cells12 g9
 go_wp2_with (first | ((with_reducible apply step_store hold); rfl; rfl; kernel_rfl; rfl; kernel_rfl) | fail)
 refine bodyPost_ret (v := .agg #[.int .i64 7, .int .i64 0, .int .i64 (-1), .int .i64 ak, .int .u32 an, .int .i64 bk, .int .u32 bn, .int .i64 0, .int .i64 off, .int .i64 wd, .bool false, .slice none 0 0]) (by simp [results, Tryz.results84, go_sem, q0, q1, q2, q3, q4, q5, q6, q7, q8, q9, q10, q11]) rfl ⟨rfl, below_turned HB1.out t9⟩
theorem rShape_8 (bin d ak an bk bn xn off wd : Int) (sg : Bool) (xp : Option Addr) (al xc : Nat) (w : World) :
 Calls Tryz.prog 84 #[.agg #[.int .i64 8, .int .i64 bin, .int .i64 d, .int .i64 ak, .int .u32 an, .int .i64 bk, .int .u32 bn, .int .i64 xn, .int .i64 off, .int .i64 wd, .bool sg, .slice xp al xc]] w fun e w' => e = .returned (.agg #[.int .i64 8, .int .i64 0, .int .i64 d, .int .i64 0, .int .u32 0, .int .i64 0, .int .u32 0, .int .i64 xn, .int .i64 0, .int .i64 0, .bool false, .slice xp al xc]) ∧ Below w.heap.size w w' := by
 obtain ⟨W3, hW3, hNX, hNR, hNY, hHB, hA, hold⟩ := three_ex4 w (.cells #[.int .i64 8, .int .i64 bin, .int .i64 d, .int .i64 ak, .int .u32 an, .int .i64 bk, .int .u32 bn, .int .i64 xn, .int .i64 off, .int .i64 wd, .bool sg, .slice xp al xc] TIn) (.cells #[.int .i64 0, .int .i64 0, .int .i64 0, .int .i64 0, .int .u32 0, .int .i64 0, .int .u32 0, .int .i64 0, .int .i64 0, .int .i64 0, .bool false, .slice none 0 0] TIn) (.cells #[.int .i64 8, .int .i64 0, .int .i64 (-1), .int .i64 0, .int .u32 0, .int .i64 0, .int .u32 0, .int .i64 0, .int .i64 0, .int .i64 0, .bool false, .slice none 0 0] TIn)
 have NX : Hid (_ = _) := hNX
 have NR : Hid (_ = _) := hNR
 have NY : Hid (_ = _) := hNY
 have HB : Hid (Below w.heap.size w _) := hHB
 have x0 := (Lib.cell_of_heap hA 0).trans rfl
 clear hNX hNR hNY hHB hA
 go_enter Tryz.func84, Tryz.ntmps84
 go_upto_region 2 with (first | ((with_reducible apply step_store hold); rfl; rfl; kernel_rfl; rfl; kernel_rfl; rw [World.setRow_alloc_new]) | fail)
 refine wp_at hW3 ?_
 clear x0 hold hW3
 have x0 := (Lib.cell_of_heap NX.out 0).trans rfl
 go_upto_region 21 with (fail)
 clear x0
 have x2 := (Lib.cell_of_heap NX.out 2).trans rfl
 have x7 := (Lib.cell_of_heap NX.out 7).trans rfl
 have h0_0 := NY.out
 have y0_0 := (Lib.cell_of_heap h0_0 2).trans rfl
 have z0_0 := frozen_of h0_0 2
 have h0_1 := heap_setCell (j := 2) h0_0 (.int .i64 d)
 have y0_1 := (Lib.cell_of_heap h0_1 7).trans rfl
 have z0_1 := frozen_of h0_1 7
 have h0_2 := heap_setCell (j := 7) h0_1 (.int .i64 xn)
 go_region
 obtain ⟨V0, hV⟩ : ∃ V, V = (((W3).setCell ⟨w.heap.size + 1 + 1, 2, none⟩ (.int .i64 d)).setCell ⟨w.heap.size + 1 + 1, 7, none⟩ (.int .i64 xn)).drew := ⟨_, rfl⟩
 rw [← hV]
 have t0 : Turned W3 V0 (fun k => k = w.heap.size + 1 + 1) := by rw [hV]; exact (Turned.refl _ (fun k => k = w.heap.size + 1 + 1)).step.step.drw
 have NY0 : Hid (V0.heap[w.heap.size + 1 + 1]? = some (.cells #[.int .i64 8, .int .i64 0, .int .i64 d, .int .i64 0, .int .u32 0, .int .i64 0, .int .u32 0, .int .i64 xn, .int .i64 0, .int .i64 0, .bool false, .slice none 0 0] TIn (0, 0))) := by rw [hV]; exact h0_2
 have NX0 : Hid (_ = _) := blk_t NX.out t0 (by omega)
 have NR0 : Hid (_ = _) := blk_t NR.out t0 (by omega)
 have HB0 : Hid (Below w.heap.size w V0) := below_turned HB.out t0
 clear t0 hV x2 x7 y0_0 z0_0 y0_1 z0_1 h0_0 h0_1 h0_2
 go_upto_region 22 with (fail)
 have x11 := (Lib.cell_of_heap NX0.out 11).trans rfl
 have h1_0 := NY0.out
 have y1_0 := (Lib.cell_of_heap h1_0 11).trans rfl
 have z1_0 := frozen_of h1_0 11
 have h1_1 := heap_setCell (j := 11) h1_0 (.slice xp al xc)
 go_upto_region 33 with (fail)
 obtain ⟨V1, hV⟩ : ∃ V, V = ((V0).setCell ⟨w.heap.size + 1 + 1, 11, none⟩ (.slice xp al xc)) := ⟨_, rfl⟩
 rw [← hV]
 have t1 : Turned V0 V1 (fun k => k = w.heap.size + 1 + 1) := by rw [hV]; exact (Turned.refl _ (fun k => k = w.heap.size + 1 + 1)).step
 have NY1 : Hid (V1.heap[w.heap.size + 1 + 1]? = some (.cells #[.int .i64 8, .int .i64 0, .int .i64 d, .int .i64 0, .int .u32 0, .int .i64 0, .int .u32 0, .int .i64 xn, .int .i64 0, .int .i64 0, .bool false, .slice xp al xc] TIn (0, 0))) := by rw [hV]; exact h1_1
 have NX1 : Hid (_ = _) := blk_t NX0.out t1 (by omega)
 have NR1 : Hid (_ = _) := blk_t NR0.out t1 (by omega)
 have HB1 : Hid (Below w.heap.size w V1) := below_turned HB0.out t1
 clear t1 hV x11 y1_0 z1_0 h1_0 h1_1
 obtain ⟨y0, y1, y2, y3, y4, y5, y6, y7, y8, y9, y10, y11⟩ := cells12 NY1.out
 have hold := NR1.out
 have g9 := setRow_heap V1 (w.heap.size + 1) _ #[.int .i64 8, .int .i64 0, .int .i64 d, .int .i64 0, .int .u32 0, .int .i64 0, .int .u32 0, .int .i64 xn, .int .i64 0, .int .i64 0, .bool false, .slice xp al xc] _ (0, 0) hold
 have t9 := Turned.setRow (S := fun k => k = w.heap.size + 1) V1 (w.heap.size + 1) #[.int .i64 8, .int .i64 0, .int .i64 d, .int .i64 0, .int .u32 0, .int .i64 0, .int .u32 0, .int .i64 xn, .int .i64 0, .int .i64 0, .bool false, .slice xp al xc] rfl
 obtain ⟨q0, q1, q2, q3, q4, q5, q6, q7, q8, q9, q10, q11⟩ := cells12 g9
 go_wp2_with (first | ((with_reducible apply step_store hold); rfl; rfl; kernel_rfl; rfl; kernel_rfl) | fail)
 refine bodyPost_ret (v := .agg #[.int .i64 8, .int .i64 0, .int .i64 d, .int .i64 0, .int .u32 0, .int .i64 0, .int .u32 0, .int .i64 xn, .int .i64 0, .int .i64 0, .bool false, .slice xp al xc]) (by simp [results, Tryz.results84, go_sem, q0, q1, q2, q3, q4, q5, q6, q7, q8, q9, q10, q11]) rfl ⟨rfl, below_turned HB1.out t9⟩
theorem rShape_9 (bin d ak an bk bn xn off wd : Int) (sg : Bool) (xp : Option Addr) (al xc : Nat) (w : World) :
 Calls Tryz.prog 84 #[.agg #[.int .i64 9, .int .i64 bin, .int .i64 d, .int .i64 ak, .int .u32 an, .int .i64 bk, .int .u32 bn, .int .i64 xn, .int .i64 off, .int .i64 wd, .bool sg, .slice xp al xc]] w fun e w' => e = .returned (.agg #[.int .i64 9, .int .i64 0, .int .i64 (-1), .int .i64 ak, .int .u32 an, .int .i64 0, .int .u32 0, .int .i64 0, .int .i64 0, .int .i64 0, .bool false, .slice none 0 0]) ∧ Below w.heap.size w w' := by
 obtain ⟨W3, hW3, hNX, hNR, hNY, hHB, hA, hold⟩ := three_ex4 w (.cells #[.int .i64 9, .int .i64 bin, .int .i64 d, .int .i64 ak, .int .u32 an, .int .i64 bk, .int .u32 bn, .int .i64 xn, .int .i64 off, .int .i64 wd, .bool sg, .slice xp al xc] TIn) (.cells #[.int .i64 0, .int .i64 0, .int .i64 0, .int .i64 0, .int .u32 0, .int .i64 0, .int .u32 0, .int .i64 0, .int .i64 0, .int .i64 0, .bool false, .slice none 0 0] TIn) (.cells #[.int .i64 9, .int .i64 0, .int .i64 (-1), .int .i64 0, .int .u32 0, .int .i64 0, .int .u32 0, .int .i64 0, .int .i64 0, .int .i64 0, .bool false, .slice none 0 0] TIn)
 have NX : Hid (_ = _) := hNX
 have NR : Hid (_ = _) := hNR
 have NY : Hid (_ = _) := hNY
 have HB : Hid (Below w.heap.size w _) := hHB
 have x0 := (Lib.cell_of_heap hA 0).trans rfl
 clear hNX hNR hNY hHB hA
 go_enter Tryz.func84, Tryz.ntmps84
 go_upto_region 2 with (first | ((with_reducible apply step_store hold); rfl; rfl; kernel_rfl; rfl; kernel_rfl; rw [World.setRow_alloc_new]) | fail)
 refine wp_at hW3 ?_
 clear x0 hold hW3
 have x0 := (Lib.cell_of_heap NX.out 0).trans rfl
 go_upto_region 26 with (fail)
 clear x0
 have x3 := (Lib.cell_of_heap NX.out 3).trans rfl
 have x4 := (Lib.cell_of_heap NX.out 4).trans rfl
 have h0_0 := NY.out
 have y0_0 := (Lib.cell_of_heap h0_0 3).trans rfl
 have z0_0 := frozen_of h0_0 3
 have h0_1 := heap_setCell (j := 3) h0_0 (.int .i64 ak)
 have y0_1 := (Lib.cell_of_heap h0_1 4).trans rfl
 have z0_1 := frozen_of h0_1 4
 have h0_2 := heap_setCell (j := 4) h0_1 (.int .u32 an)
 go_upto_region 33 with (fail)
 obtain ⟨V0, hV⟩ : ∃ V, V = (((W3).setCell ⟨w.heap.size + 1 + 1, 3, none⟩ (.int .i64 ak)).setCell ⟨w.heap.size + 1 + 1, 4, none⟩ (.int .u32 an)) := ⟨_, rfl⟩
 rw [← hV]
 have t0 : Turned W3 V0 (fun k => k = w.heap.size + 1 + 1) := by rw [hV]; exact (Turned.refl _ (fun k => k = w.heap.size + 1 + 1)).step.step
 have NY0 : Hid (V0.heap[w.heap.size + 1 + 1]? = some (.cells #[.int .i64 9, .int .i64 0, .int .i64 (-1), .int .i64 ak, .int .u32 an, .int .i64 0, .int .u32 0, .int .i64 0, .int .i64 0, .int .i64 0, .bool false, .slice none 0 0] TIn (0, 0))) := by rw [hV]; exact h0_2
 have NX0 : Hid (_ = _) := blk_t NX.out t0 (by omega)
 have NR0 : Hid (_ = _) := blk_t NR.out t0 (by omega)
 have HB0 : Hid (Below w.heap.size w V0) := below_turned HB.out t0
 clear t0 hV x3 x4 y0_0 z0_0 y0_1 z0_1 h0_0 h0_1 h0_2
 obtain ⟨y0, y1, y2, y3, y4, y5, y6, y7, y8, y9, y10, y11⟩ := cells12 NY0.out
 have hold := NR0.out
 have g9 := setRow_heap V0 (w.heap.size + 1) _ #[.int .i64 9, .int .i64 0, .int .i64 (-1), .int .i64 ak, .int .u32 an, .int .i64 0, .int .u32 0, .int .i64 0, .int .i64 0, .int .i64 0, .bool false, .slice none 0 0] _ (0, 0) hold
 have t9 := Turned.setRow (S := fun k => k = w.heap.size + 1) V0 (w.heap.size + 1) #[.int .i64 9, .int .i64 0, .int .i64 (-1), .int .i64 ak, .int .u32 an, .int .i64 0, .int .u32 0, .int .i64 0, .int .i64 0, .int .i64 0, .bool false, .slice none 0 0] rfl
 obtain ⟨q0, q1, q2, q3, q4, q5, q6, q7, q8, q9, q10, q11⟩ := cells12 g9
 go_wp2_with (first | ((with_reducible apply step_store hold); rfl; rfl; kernel_rfl; rfl; kernel_rfl) | fail)
 refine bodyPost_ret (v := .agg #[.int .i64 9, .int .i64 0, .int .i64 (-1), .int .i64 ak, .int .u32 an, .int .i64 0, .int .u32 0, .int .i64 0, .int .i64 0, .int .i64 0, .bool false, .slice none 0 0]) (by simp [results, Tryz.results84, go_sem, q0, q1, q2, q3, q4, q5, q6, q7, q8, q9, q10, q11]) rfl ⟨rfl, below_turned HB0.out t9⟩
theorem rShape_10 (bin d ak an bk bn xn off wd : Int) (sg : Bool) (xp : Option Addr) (al xc : Nat) (w : World) :
 Calls Tryz.prog 84 #[.agg #[.int .i64 10, .int .i64 bin, .int .i64 d, .int .i64 ak, .int .u32 an, .int .i64 bk, .int .u32 bn, .int .i64 xn, .int .i64 off, .int .i64 wd, .bool sg, .slice xp al xc]] w fun e w' => e = .returned (.agg #[.int .i64 10, .int .i64 0, .int .i64 (-1), .int .i64 0, .int .u32 0, .int .i64 0, .int .u32 0, .int .i64 xn, .int .i64 0, .int .i64 0, .bool false, .slice none 0 0]) ∧ Below w.heap.size w w' := by
 obtain ⟨W3, hW3, hNX, hNR, hNY, hHB, hA, hold⟩ := three_ex4 w (.cells #[.int .i64 10, .int .i64 bin, .int .i64 d, .int .i64 ak, .int .u32 an, .int .i64 bk, .int .u32 bn, .int .i64 xn, .int .i64 off, .int .i64 wd, .bool sg, .slice xp al xc] TIn) (.cells #[.int .i64 0, .int .i64 0, .int .i64 0, .int .i64 0, .int .u32 0, .int .i64 0, .int .u32 0, .int .i64 0, .int .i64 0, .int .i64 0, .bool false, .slice none 0 0] TIn) (.cells #[.int .i64 10, .int .i64 0, .int .i64 (-1), .int .i64 0, .int .u32 0, .int .i64 0, .int .u32 0, .int .i64 0, .int .i64 0, .int .i64 0, .bool false, .slice none 0 0] TIn)
 have NX : Hid (_ = _) := hNX
 have NR : Hid (_ = _) := hNR
 have NY : Hid (_ = _) := hNY
 have HB : Hid (Below w.heap.size w _) := hHB
 have x0 := (Lib.cell_of_heap hA 0).trans rfl
 clear hNX hNR hNY hHB hA
 go_enter Tryz.func84, Tryz.ntmps84
 go_upto_region 2 with (first | ((with_reducible apply step_store hold); rfl; rfl; kernel_rfl; rfl; kernel_rfl; rw [World.setRow_alloc_new]) | fail)
 refine wp_at hW3 ?_
 clear x0 hold hW3
 have x0 := (Lib.cell_of_heap NX.out 0).trans rfl
 go_upto_region 28 with (fail)
 clear x0
 have x7 := (Lib.cell_of_heap NX.out 7).trans rfl
 have h0_0 := NY.out
 have y0_0 := (Lib.cell_of_heap h0_0 7).trans rfl
 have z0_0 := frozen_of h0_0 7
 have h0_1 := heap_setCell (j := 7) h0_0 (.int .i64 xn)
 go_upto_region 33 with (fail)
 obtain ⟨V0, hV⟩ : ∃ V, V = ((W3).setCell ⟨w.heap.size + 1 + 1, 7, none⟩ (.int .i64 xn)) := ⟨_, rfl⟩
 rw [← hV]
 have t0 : Turned W3 V0 (fun k => k = w.heap.size + 1 + 1) := by rw [hV]; exact (Turned.refl _ (fun k => k = w.heap.size + 1 + 1)).step
 have NY0 : Hid (V0.heap[w.heap.size + 1 + 1]? = some (.cells #[.int .i64 10, .int .i64 0, .int .i64 (-1), .int .i64 0, .int .u32 0, .int .i64 0, .int .u32 0, .int .i64 xn, .int .i64 0, .int .i64 0, .bool false, .slice none 0 0] TIn (0, 0))) := by rw [hV]; exact h0_1
 have NX0 : Hid (_ = _) := blk_t NX.out t0 (by omega)
 have NR0 : Hid (_ = _) := blk_t NR.out t0 (by omega)
 have HB0 : Hid (Below w.heap.size w V0) := below_turned HB.out t0
 clear t0 hV x7 y0_0 z0_0 h0_0 h0_1
 obtain ⟨y0, y1, y2, y3, y4, y5, y6, y7, y8, y9, y10, y11⟩ := cells12 NY0.out
 have hold := NR0.out
 have g9 := setRow_heap V0 (w.heap.size + 1) _ #[.int .i64 10, .int .i64 0, .int .i64 (-1), .int .i64 0, .int .u32 0, .int .i64 0, .int .u32 0, .int .i64 xn, .int .i64 0, .int .i64 0, .bool false, .slice none 0 0] _ (0, 0) hold
 have t9 := Turned.setRow (S := fun k => k = w.heap.size + 1) V0 (w.heap.size + 1) #[.int .i64 10, .int .i64 0, .int .i64 (-1), .int .i64 0, .int .u32 0, .int .i64 0, .int .u32 0, .int .i64 xn, .int .i64 0, .int .i64 0, .bool false, .slice none 0 0] rfl
 obtain ⟨q0, q1, q2, q3, q4, q5, q6, q7, q8, q9, q10, q11⟩ := cells12 g9
 go_wp2_with (first | ((with_reducible apply step_store hold); rfl; rfl; kernel_rfl; rfl; kernel_rfl) | fail)
 refine bodyPost_ret (v := .agg #[.int .i64 10, .int .i64 0, .int .i64 (-1), .int .i64 0, .int .u32 0, .int .i64 0, .int .u32 0, .int .i64 xn, .int .i64 0, .int .i64 0, .bool false, .slice none 0 0]) (by simp [results, Tryz.results84, go_sem, q0, q1, q2, q3, q4, q5, q6, q7, q8, q9, q10, q11]) rfl ⟨rfl, below_turned HB0.out t9⟩
theorem rShape_11 (bin d ak an bk bn xn off wd : Int) (sg : Bool) (xp : Option Addr) (al xc : Nat) (w : World) :
 Calls Tryz.prog 84 #[.agg #[.int .i64 11, .int .i64 bin, .int .i64 d, .int .i64 ak, .int .u32 an, .int .i64 bk, .int .u32 bn, .int .i64 xn, .int .i64 off, .int .i64 wd, .bool sg, .slice xp al xc]] w fun e w' => e = .returned (.agg #[.int .i64 11, .int .i64 0, .int .i64 (-1), .int .i64 ak, .int .u32 an, .int .i64 0, .int .u32 0, .int .i64 xn, .int .i64 0, .int .i64 0, .bool false, .slice none 0 0]) ∧ Below w.heap.size w w' := by
 obtain ⟨W3, hW3, hNX, hNR, hNY, hHB, hA, hold⟩ := three_ex4 w (.cells #[.int .i64 11, .int .i64 bin, .int .i64 d, .int .i64 ak, .int .u32 an, .int .i64 bk, .int .u32 bn, .int .i64 xn, .int .i64 off, .int .i64 wd, .bool sg, .slice xp al xc] TIn) (.cells #[.int .i64 0, .int .i64 0, .int .i64 0, .int .i64 0, .int .u32 0, .int .i64 0, .int .u32 0, .int .i64 0, .int .i64 0, .int .i64 0, .bool false, .slice none 0 0] TIn) (.cells #[.int .i64 11, .int .i64 0, .int .i64 (-1), .int .i64 0, .int .u32 0, .int .i64 0, .int .u32 0, .int .i64 0, .int .i64 0, .int .i64 0, .bool false, .slice none 0 0] TIn)
 have NX : Hid (_ = _) := hNX
 have NR : Hid (_ = _) := hNR
 have NY : Hid (_ = _) := hNY
 have HB : Hid (Below w.heap.size w _) := hHB
 have x0 := (Lib.cell_of_heap hA 0).trans rfl
 clear hNX hNR hNY hHB hA
 go_enter Tryz.func84, Tryz.ntmps84
 go_upto_region 2 with (first | ((with_reducible apply step_store hold); rfl; rfl; kernel_rfl; rfl; kernel_rfl; rw [World.setRow_alloc_new]) | fail)
 refine wp_at hW3 ?_
 clear x0 hold hW3
 have x0 := (Lib.cell_of_heap NX.out 0).trans rfl
 go_upto_region 30 with (fail)
 clear x0
 have x3 := (Lib.cell_of_heap NX.out 3).trans rfl
 have x4 := (Lib.cell_of_heap NX.out 4).trans rfl
 have x7 := (Lib.cell_of_heap NX.out 7).trans rfl
 have h0_0 := NY.out
 have y0_0 := (Lib.cell_of_heap h0_0 3).trans rfl
 have z0_0 := frozen_of h0_0 3
 have h0_1 := heap_setCell (j := 3) h0_0 (.int .i64 ak)
 have y0_1 := (Lib.cell_of_heap h0_1 4).trans rfl
 have z0_1 := frozen_of h0_1 4
 have h0_2 := heap_setCell (j := 4) h0_1 (.int .u32 an)
 have y0_2 := (Lib.cell_of_heap h0_2 7).trans rfl
 have z0_2 := frozen_of h0_2 7
 have h0_3 := heap_setCell (j := 7) h0_2 (.int .i64 xn)
 go_region
 obtain ⟨V0, hV⟩ : ∃ V, V = ((((W3).setCell ⟨w.heap.size + 1 + 1, 3, none⟩ (.int .i64 ak)).setCell ⟨w.heap.size + 1 + 1, 4, none⟩ (.int .u32 an)).setCell ⟨w.heap.size + 1 + 1, 7, none⟩ (.int .i64 xn)).drew := ⟨_, rfl⟩
 rw [← hV]
 have t0 : Turned W3 V0 (fun k => k = w.heap.size + 1 + 1) := by rw [hV]; exact (Turned.refl _ (fun k => k = w.heap.size + 1 + 1)).step.step.step.drw
 have NY0 : Hid (V0.heap[w.heap.size + 1 + 1]? = some (.cells #[.int .i64 11, .int .i64 0, .int .i64 (-1), .int .i64 ak, .int .u32 an, .int .i64 0, .int .u32 0, .int .i64 xn, .int .i64 0, .int .i64 0, .bool false, .slice none 0 0] TIn (0, 0))) := by rw [hV]; exact h0_3
 have NX0 : Hid (_ = _) := blk_t NX.out t0 (by omega)
 have NR0 : Hid (_ = _) := blk_t NR.out t0 (by omega)
 have HB0 : Hid (Below w.heap.size w V0) := below_turned HB.out t0
 clear t0 hV x3 x4 x7 y0_0 z0_0 y0_1 z0_1 y0_2 z0_2 h0_0 h0_1 h0_2 h0_3
 go_upto_region 33 with (fail)
 obtain ⟨y0, y1, y2, y3, y4, y5, y6, y7, y8, y9, y10, y11⟩ := cells12 NY0.out
 have hold := NR0.out
 have g9 := setRow_heap V0 (w.heap.size + 1) _ #[.int .i64 11, .int .i64 0, .int .i64 (-1), .int .i64 ak, .int .u32 an, .int .i64 0, .int .u32 0, .int .i64 xn, .int .i64 0, .int .i64 0, .bool false, .slice none 0 0] _ (0, 0) hold
 have t9 := Turned.setRow (S := fun k => k = w.heap.size + 1) V0 (w.heap.size + 1) #[.int .i64 11, .int .i64 0, .int .i64 (-1), .int .i64 ak, .int .u32 an, .int .i64 0, .int .u32 0, .int .i64 xn, .int .i64 0, .int .i64 0, .bool false, .slice none 0 0] rfl
 obtain ⟨q0, q1, q2, q3, q4, q5, q6, q7, q8, q9, q10, q11⟩ := cells12 g9
 go_wp2_with (first | ((with_reducible apply step_store hold); rfl; rfl; kernel_rfl; rfl; kernel_rfl) | fail)
 refine bodyPost_ret (v := .agg #[.int .i64 11, .int .i64 0, .int .i64 (-1), .int .i64 ak, .int .u32 an, .int .i64 0, .int .u32 0, .int .i64 xn, .int .i64 0, .int .i64 0, .bool false, .slice none 0 0]) (by simp [results, Tryz.results84, go_sem, q0, q1, q2, q3, q4, q5, q6, q7, q8, q9, q10, q11]) rfl ⟨rfl, below_turned HB0.out t9⟩
theorem rShape_12 (bin d ak an bk bn xn off wd : Int) (sg : Bool) (xp : Option Addr) (al xc : Nat) (w : World) :
 Calls Tryz.prog 84 #[.agg #[.int .i64 12, .int .i64 bin, .int .i64 d, .int .i64 ak, .int .u32 an, .int .i64 bk, .int .u32 bn, .int .i64 xn, .int .i64 off, .int .i64 wd, .bool sg, .slice xp al xc]] w fun e w' => e = .returned (.agg #[.int .i64 12, .int .i64 0, .int .i64 (-1), .int .i64 ak, .int .u32 an, .int .i64 0, .int .u32 0, .int .i64 0, .int .i64 0, .int .i64 0, .bool false, .slice none 0 0]) ∧ Below w.heap.size w w' := by
 obtain ⟨W3, hW3, hNX, hNR, hNY, hHB, hA, hold⟩ := three_ex4 w (.cells #[.int .i64 12, .int .i64 bin, .int .i64 d, .int .i64 ak, .int .u32 an, .int .i64 bk, .int .u32 bn, .int .i64 xn, .int .i64 off, .int .i64 wd, .bool sg, .slice xp al xc] TIn) (.cells #[.int .i64 0, .int .i64 0, .int .i64 0, .int .i64 0, .int .u32 0, .int .i64 0, .int .u32 0, .int .i64 0, .int .i64 0, .int .i64 0, .bool false, .slice none 0 0] TIn) (.cells #[.int .i64 12, .int .i64 0, .int .i64 (-1), .int .i64 0, .int .u32 0, .int .i64 0, .int .u32 0, .int .i64 0, .int .i64 0, .int .i64 0, .bool false, .slice none 0 0] TIn)
 have NX : Hid (_ = _) := hNX
 have NR : Hid (_ = _) := hNR
 have NY : Hid (_ = _) := hNY
 have HB : Hid (Below w.heap.size w _) := hHB
 have x0 := (Lib.cell_of_heap hA 0).trans rfl
 clear hNX hNR hNY hHB hA
 go_enter Tryz.func84, Tryz.ntmps84
 go_upto_region 2 with (first | ((with_reducible apply step_store hold); rfl; rfl; kernel_rfl; rfl; kernel_rfl; rw [World.setRow_alloc_new]) | fail)
 refine wp_at hW3 ?_
 clear x0 hold hW3
 have x0 := (Lib.cell_of_heap NX.out 0).trans rfl
 go_upto_region 26 with (fail)
 clear x0
 have x3 := (Lib.cell_of_heap NX.out 3).trans rfl
 have x4 := (Lib.cell_of_heap NX.out 4).trans rfl
 have h0_0 := NY.out
 have y0_0 := (Lib.cell_of_heap h0_0 3).trans rfl
 have z0_0 := frozen_of h0_0 3
 have h0_1 := heap_setCell (j := 3) h0_0 (.int .i64 ak)
 have y0_1 := (Lib.cell_of_heap h0_1 4).trans rfl
 have z0_1 := frozen_of h0_1 4
 have h0_2 := heap_setCell (j := 4) h0_1 (.int .u32 an)
 go_upto_region 33 with (fail)
 obtain ⟨V0, hV⟩ : ∃ V, V = (((W3).setCell ⟨w.heap.size + 1 + 1, 3, none⟩ (.int .i64 ak)).setCell ⟨w.heap.size + 1 + 1, 4, none⟩ (.int .u32 an)) := ⟨_, rfl⟩
 rw [← hV]
 have t0 : Turned W3 V0 (fun k => k = w.heap.size + 1 + 1) := by rw [hV]; exact (Turned.refl _ (fun k => k = w.heap.size + 1 + 1)).step.step
 have NY0 : Hid (V0.heap[w.heap.size + 1 + 1]? = some (.cells #[.int .i64 12, .int .i64 0, .int .i64 (-1), .int .i64 ak, .int .u32 an, .int .i64 0, .int .u32 0, .int .i64 0, .int .i64 0, .int .i64 0, .bool false, .slice none 0 0] TIn (0, 0))) := by rw [hV]; exact h0_2
 have NX0 : Hid (_ = _) := blk_t NX.out t0 (by omega)
 have NR0 : Hid (_ = _) := blk_t NR.out t0 (by omega)
 have HB0 : Hid (Below w.heap.size w V0) := below_turned HB.out t0
 clear t0 hV x3 x4 y0_0 z0_0 y0_1 z0_1 h0_0 h0_1 h0_2
 obtain ⟨y0, y1, y2, y3, y4, y5, y6, y7, y8, y9, y10, y11⟩ := cells12 NY0.out
 have hold := NR0.out
 have g9 := setRow_heap V0 (w.heap.size + 1) _ #[.int .i64 12, .int .i64 0, .int .i64 (-1), .int .i64 ak, .int .u32 an, .int .i64 0, .int .u32 0, .int .i64 0, .int .i64 0, .int .i64 0, .bool false, .slice none 0 0] _ (0, 0) hold
 have t9 := Turned.setRow (S := fun k => k = w.heap.size + 1) V0 (w.heap.size + 1) #[.int .i64 12, .int .i64 0, .int .i64 (-1), .int .i64 ak, .int .u32 an, .int .i64 0, .int .u32 0, .int .i64 0, .int .i64 0, .int .i64 0, .bool false, .slice none 0 0] rfl
 obtain ⟨q0, q1, q2, q3, q4, q5, q6, q7, q8, q9, q10, q11⟩ := cells12 g9
 go_wp2_with (first | ((with_reducible apply step_store hold); rfl; rfl; kernel_rfl; rfl; kernel_rfl) | fail)
 refine bodyPost_ret (v := .agg #[.int .i64 12, .int .i64 0, .int .i64 (-1), .int .i64 ak, .int .u32 an, .int .i64 0, .int .u32 0, .int .i64 0, .int .i64 0, .int .i64 0, .bool false, .slice none 0 0]) (by simp [results, Tryz.results84, go_sem, q0, q1, q2, q3, q4, q5, q6, q7, q8, q9, q10, q11]) rfl ⟨rfl, below_turned HB0.out t9⟩
theorem rShape_13 (bin d ak an bk bn xn off wd : Int) (sg : Bool) (xp : Option Addr) (al xc : Nat) (w : World) :
 Calls Tryz.prog 84 #[.agg #[.int .i64 13, .int .i64 bin, .int .i64 d, .int .i64 ak, .int .u32 an, .int .i64 bk, .int .u32 bn, .int .i64 xn, .int .i64 off, .int .i64 wd, .bool sg, .slice xp al xc]] w fun e w' => e = .returned (.agg #[.int .i64 13, .int .i64 0, .int .i64 d, .int .i64 0, .int .u32 0, .int .i64 0, .int .u32 0, .int .i64 0, .int .i64 0, .int .i64 0, .bool false, .slice none 0 0]) ∧ Below w.heap.size w w' := by
 obtain ⟨W3, hW3, hNX, hNR, hNY, hHB, hA, hold⟩ := three_ex4 w (.cells #[.int .i64 13, .int .i64 bin, .int .i64 d, .int .i64 ak, .int .u32 an, .int .i64 bk, .int .u32 bn, .int .i64 xn, .int .i64 off, .int .i64 wd, .bool sg, .slice xp al xc] TIn) (.cells #[.int .i64 0, .int .i64 0, .int .i64 0, .int .i64 0, .int .u32 0, .int .i64 0, .int .u32 0, .int .i64 0, .int .i64 0, .int .i64 0, .bool false, .slice none 0 0] TIn) (.cells #[.int .i64 13, .int .i64 0, .int .i64 (-1), .int .i64 0, .int .u32 0, .int .i64 0, .int .u32 0, .int .i64 0, .int .i64 0, .int .i64 0, .bool false, .slice none 0 0] TIn)
 have NX : Hid (_ = _) := hNX
 have NR : Hid (_ = _) := hNR
 have NY : Hid (_ = _) := hNY
 have HB : Hid (Below w.heap.size w _) := hHB
 have x0 := (Lib.cell_of_heap hA 0).trans rfl
 clear hNX hNR hNY hHB hA
 go_enter Tryz.func84, Tryz.ntmps84
 go_upto_region 2 with (first | ((with_reducible apply step_store hold); rfl; rfl; kernel_rfl; rfl; kernel_rfl; rw [World.setRow_alloc_new]) | fail)
 refine wp_at hW3 ?_
 clear x0 hold hW3
 have x0 := (Lib.cell_of_heap NX.out 0).trans rfl
 go_upto_region 32 with (fail)
 clear x0
 have x2 := (Lib.cell_of_heap NX.out 2).trans rfl
 have h0_0 := NY.out
 have y0_0 := (Lib.cell_of_heap h0_0 2).trans rfl
 have z0_0 := frozen_of h0_0 2
 have h0_1 := heap_setCell (j := 2) h0_0 (.int .i64 d)
 go_upto_region 33 with (fail)
 obtain ⟨V0, hV⟩ : ∃ V, V = ((W3).setCell ⟨w.heap.size + 1 + 1, 2, none⟩ (.int .i64 d)) := ⟨_, rfl⟩
 rw [← hV]
 have t0 : Turned W3 V0 (fun k => k = w.heap.size + 1 + 1) := by rw [hV]; exact (Turned.refl _ (fun k => k = w.heap.size + 1 + 1)).step
 have NY0 : Hid (V0.heap[w.heap.size + 1 + 1]? = some (.cells #[.int .i64 13, .int .i64 0, .int .i64 d, .int .i64 0, .int .u32 0, .int .i64 0, .int .u32 0, .int .i64 0, .int .i64 0, .int .i64 0, .bool false, .slice none 0 0] TIn (0, 0))) := by rw [hV]; exact h0_1
 have NX0 : Hid (_ = _) := blk_t NX.out t0 (by omega)
 have NR0 : Hid (_ = _) := blk_t NR.out t0 (by omega)
 have HB0 : Hid (Below w.heap.size w V0) := below_turned HB.out t0
 clear t0 hV x2 y0_0 z0_0 h0_0 h0_1
 obtain ⟨y0, y1, y2, y3, y4, y5, y6, y7, y8, y9, y10, y11⟩ := cells12 NY0.out
 have hold := NR0.out
 have g9 := setRow_heap V0 (w.heap.size + 1) _ #[.int .i64 13, .int .i64 0, .int .i64 d, .int .i64 0, .int .u32 0, .int .i64 0, .int .u32 0, .int .i64 0, .int .i64 0, .int .i64 0, .bool false, .slice none 0 0] _ (0, 0) hold
 have t9 := Turned.setRow (S := fun k => k = w.heap.size + 1) V0 (w.heap.size + 1) #[.int .i64 13, .int .i64 0, .int .i64 d, .int .i64 0, .int .u32 0, .int .i64 0, .int .u32 0, .int .i64 0, .int .i64 0, .int .i64 0, .bool false, .slice none 0 0] rfl
 obtain ⟨q0, q1, q2, q3, q4, q5, q6, q7, q8, q9, q10, q11⟩ := cells12 g9
 go_wp2_with (first | ((with_reducible apply step_store hold); rfl; rfl; kernel_rfl; rfl; kernel_rfl) | fail)
 refine bodyPost_ret (v := .agg #[.int .i64 13, .int .i64 0, .int .i64 d, .int .i64 0, .int .u32 0, .int .i64 0, .int .u32 0, .int .i64 0, .int .i64 0, .int .i64 0, .bool false, .slice none 0 0]) (by simp [results, Tryz.results84, go_sem, q0, q1, q2, q3, q4, q5, q6, q7, q8, q9, q10, q11]) rfl ⟨rfl, below_turned HB0.out t9⟩
theorem rShape_14 (bin d ak an bk bn xn off wd : Int) (sg : Bool) (xp : Option Addr) (al xc : Nat) (w : World) :
 Calls Tryz.prog 84 #[.agg #[.int .i64 14, .int .i64 bin, .int .i64 d, .int .i64 ak, .int .u32 an, .int .i64 bk, .int .u32 bn, .int .i64 xn, .int .i64 off, .int .i64 wd, .bool sg, .slice xp al xc]] w fun e w' => e = .returned (.agg #[.int .i64 14, .int .i64 0, .int .i64 (-1), .int .i64 ak, .int .u32 an, .int .i64 0, .int .u32 0, .int .i64 0, .int .i64 0, .int .i64 0, .bool false, .slice none 0 0]) ∧ Below w.heap.size w w' := by
 obtain ⟨W3, hW3, hNX, hNR, hNY, hHB, hA, hold⟩ := three_ex4 w (.cells #[.int .i64 14, .int .i64 bin, .int .i64 d, .int .i64 ak, .int .u32 an, .int .i64 bk, .int .u32 bn, .int .i64 xn, .int .i64 off, .int .i64 wd, .bool sg, .slice xp al xc] TIn) (.cells #[.int .i64 0, .int .i64 0, .int .i64 0, .int .i64 0, .int .u32 0, .int .i64 0, .int .u32 0, .int .i64 0, .int .i64 0, .int .i64 0, .bool false, .slice none 0 0] TIn) (.cells #[.int .i64 14, .int .i64 0, .int .i64 (-1), .int .i64 0, .int .u32 0, .int .i64 0, .int .u32 0, .int .i64 0, .int .i64 0, .int .i64 0, .bool false, .slice none 0 0] TIn)
 have NX : Hid (_ = _) := hNX
 have NR : Hid (_ = _) := hNR
 have NY : Hid (_ = _) := hNY
 have HB : Hid (Below w.heap.size w _) := hHB
 have x0 := (Lib.cell_of_heap hA 0).trans rfl
 clear hNX hNR hNY hHB hA
 go_enter Tryz.func84, Tryz.ntmps84
 go_upto_region 2 with (first | ((with_reducible apply step_store hold); rfl; rfl; kernel_rfl; rfl; kernel_rfl; rw [World.setRow_alloc_new]) | fail)
 refine wp_at hW3 ?_
 clear x0 hold hW3
 have x0 := (Lib.cell_of_heap NX.out 0).trans rfl
 go_upto_region 26 with (fail)
 clear x0
 have x3 := (Lib.cell_of_heap NX.out 3).trans rfl
 have x4 := (Lib.cell_of_heap NX.out 4).trans rfl
 have h0_0 := NY.out
 have y0_0 := (Lib.cell_of_heap h0_0 3).trans rfl
 have z0_0 := frozen_of h0_0 3
 have h0_1 := heap_setCell (j := 3) h0_0 (.int .i64 ak)
 have y0_1 := (Lib.cell_of_heap h0_1 4).trans rfl
 have z0_1 := frozen_of h0_1 4
 have h0_2 := heap_setCell (j := 4) h0_1 (.int .u32 an)
 go_upto_region 33 with (fail)
 obtain ⟨V0, hV⟩ : ∃ V, V = (((W3).setCell ⟨w.heap.size + 1 + 1, 3, none⟩ (.int .i64 ak)).setCell ⟨w.heap.size + 1 + 1, 4, none⟩ (.int .u32 an)) := ⟨_, rfl⟩
 rw [← hV]
 have t0 : Turned W3 V0 (fun k => k = w.heap.size + 1 + 1) := by rw [hV]; exact (Turned.refl _ (fun k => k = w.heap.size + 1 + 1)).step.step
 have NY0 : Hid (V0.heap[w.heap.size + 1 + 1]? = some (.cells #[.int .i64 14, .int .i64 0, .int .i64 (-1), .int .i64 ak, .int .u32 an, .int .i64 0, .int .u32 0, .int .i64 0, .int .i64 0, .int .i64 0, .bool false, .slice none 0 0] TIn (0, 0))) := by rw [hV]; exact h0_2
 have NX0 : Hid (_ = _) := blk_t NX.out t0 (by omega)
 have NR0 : Hid (_ = _) := blk_t NR.out t0 (by omega)
 have HB0 : Hid (Below w.heap.size w V0) := below_turned HB.out t0
 clear t0 hV x3 x4 y0_0 z0_0 y0_1 z0_1 h0_0 h0_1 h0_2
 obtain ⟨y0, y1, y2, y3, y4, y5, y6, y7, y8, y9, y10, y11⟩ := cells12 NY0.out
 have hold := NR0.out
 have g9 := setRow_heap V0 (w.heap.size + 1) _ #[.int .i64 14, .int .i64 0, .int .i64 (-1), .int .i64 ak, .int .u32 an, .int .i64 0, .int .u32 0, .int .i64 0, .int .i64 0, .int .i64 0, .bool false, .slice none 0 0] _ (0, 0) hold
 have t9 := Turned.setRow (S := fun k => k = w.heap.size + 1) V0 (w.heap.size + 1) #[.int .i64 14, .int .i64 0, .int .i64 (-1), .int .i64 ak, .int .u32 an, .int .i64 0, .int .u32 0, .int .i64 0, .int .i64 0, .int .i64 0, .bool false, .slice none 0 0] rfl
 obtain ⟨q0, q1, q2, q3, q4, q5, q6, q7, q8, q9, q10, q11⟩ := cells12 g9
 go_wp2_with (first | ((with_reducible apply step_store hold); rfl; rfl; kernel_rfl; rfl; kernel_rfl) | fail)
 refine bodyPost_ret (v := .agg #[.int .i64 14, .int .i64 0, .int .i64 (-1), .int .i64 ak, .int .u32 an, .int .i64 0, .int .u32 0, .int .i64 0, .int .i64 0, .int .i64 0, .bool false, .slice none 0 0]) (by simp [results, Tryz.results84, go_sem, q0, q1, q2, q3, q4, q5, q6, q7, q8, q9, q10, q11]) rfl ⟨rfl, below_turned HB0.out t9⟩
end
end Go.Proofs.YtelaaaamnphbpaaGreatDoor