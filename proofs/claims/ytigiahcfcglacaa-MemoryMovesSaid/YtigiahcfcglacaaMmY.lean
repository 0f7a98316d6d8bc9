/-
  The law's nobody: a memory that New did not give refuses all.
-/
import Derived.Test.YtigiahcfcglacaaMmU
namespace Go.Proofs.Ytigiahcfcglacaa
open Go.RowKit Go.Maps
set_option linter.unusedVariables false
set_option maxRecDepth 100000
theorem box3_cells {Y : World} {g : Nat} {k v bl : Int} (h : Y.heap[g]? = some (.cells #[.int .i64 k, .int .u32 v, .int .i64 bl] TV (0, 0))) : Y.cell? ⟨g, 0, none⟩ = some (.int .i64 k) ∧ Y.cell? ⟨g, 1, none⟩ = some (.int .u32 v) ∧ Y.cell? ⟨g, 2, none⟩ = some (.int .i64 bl) :=
  ⟨(Lib.cell_of_heap h 0).trans rfl, (Lib.cell_of_heap h 1).trans rfl, (Lib.cell_of_heap h 2).trans rfl⟩
theorem box2_heap (w : World) (p q : Vl) : (box2 w p q).heap[w.heap.size]? = some (.cells #[.int .i64 p.kind, .int .u32 p.v, .int .i64 p.block] TV (0, 0)) ∧ (box2 w p q).heap[w.heap.size + 1]? = some (.cells #[.int .i64 q.kind, .int .u32 q.v, .int .i64 q.block] TV (0, 0)) := by
  constructor
  · have := Below.heap_alloc (w.alloc (.cells #[.int .i64 p.kind, .int .u32 p.v, .int .i64 p.block] TV)) (.cells #[.int .i64 q.kind, .int .u32 q.v, .int .i64 q.block] TV) w.heap.size (by simp)
    unfold box2
    rw [this]; exact heap_r0 w _
  · have := heap_r0 (w.alloc (.cells #[.int .i64 p.kind, .int .u32 p.v, .int .i64 p.block] TV)) (.cells #[.int .i64 q.kind, .int .u32 q.v, .int .i64 q.block] TV)
    unfold box2
    simpa using this
set_option maxHeartbeats 8000000 in
theorem nobody_c {v : Value} {w : World} (h : NoM v w) (p q : Vl) (n : Int) :
    Calls Try.prog 22 #[v, .agg #[.int .i64 p.kind, .int .u32 p.v, .int .i64 p.block], .agg #[.int .i64 q.kind, .int .u32 q.v, .int .i64 q.block], .int .i64 n] w fun e w' => e = .returned (.bool true) ∧ Below w.heap.size w w' := by
  have HB : Hid (Below w.heap.size w (box2 w p q)) := box2_below w p q
  have HN : Hid (NoM v (box2 w p q)) := h.below (box2_below w p q)
  have hbt := zeroV_box
  obtain ⟨g1, g2⟩ := box2_heap w p q
  have GP : Hid _ := g1
  have GQ : Hid _ := g2
  obtain ⟨Wz, hW⟩ : ∃ Wz, Wz = box2 w p q := ⟨_, rfl⟩
  have n2 := not_f
  clear h g1 g2
  go_enter Try.func22, Try.ntmps22
  go_upto_region 1 with (fail)
  refine (?_ : Code.wp _ _ _ _ (box2 w p q))
  rw [← hW] at HB HN GP GQ ⊢
  clear hW
  obtain ⟨a0, a1, a2⟩ := box3_cells GP.out
  obtain ⟨a3, a4, a5⟩ := box3_cells GQ.out
  have cM := make_n HN.out 4 4
  have cC := cells_n HN.out n
  have cL := load_n HN.out p 4 false
  go_wp2_with fail
  refine cM.mono ?_; rintro e w' ⟨rfl, hw⟩; rw [hw]; clear hw w' cM
  go_wp2_with fail
  refine cC.mono ?_; rintro e w' ⟨rfl, hw⟩; rw [hw]; clear hw w' cC
  go_wp2_with fail
  refine cL.mono ?_; rintro e w1 ⟨rfl, hb1⟩
  have hb2 : Below Wz.heap.size Wz (w1.alloc (.cells #[.int .i64 0, .int .u32 0, .int .i64 0] TV)) := hb1.alloc hb1.size _
  have GX : Hid ((w1.alloc (.cells #[.int .i64 0, .int .u32 0, .int .i64 0] TV)).heap[w1.heap.size]? = some (.cells #[.int .i64 0, .int .u32 0, .int .i64 0] TV (0, 0))) := heap_r0 w1 _
  have HB : Hid (Below w.heap.size w (w1.alloc (.cells #[.int .i64 0, .int .u32 0, .int .i64 0] TV))) := HB.out.trans (hb2.mono HB.out.size)
  have HN : Hid (NoM v (w1.alloc (.cells #[.int .i64 0, .int .u32 0, .int .i64 0] TV))) := HN.out.below hb2
  have GP : Hid ((w1.alloc (.cells #[.int .i64 0, .int .u32 0, .int .i64 0] TV)).heap[w.heap.size]? = some (.cells #[.int .i64 p.kind, .int .u32 p.v, .int .i64 p.block] TV (0, 0))) := (hb2.block _ (lt_of_heap GP.out)).trans GP.out
  have GQ : Hid ((w1.alloc (.cells #[.int .i64 0, .int .u32 0, .int .i64 0] TV)).heap[w.heap.size + 1]? = some (.cells #[.int .i64 q.kind, .int .u32 q.v, .int .i64 q.block] TV (0, 0))) := (hb2.block _ (lt_of_heap GQ.out)).trans GQ.out
  clear hb1 hb2 a0 a1 a2 a3 a4 a5 cL
  obtain ⟨a3, a4, a5⟩ := box3_cells GQ.out
  have cB := bin_n HN.out q q 1 (by decide) (by decide)
  go_wp2_with fail
  refine cB.mono ?_; rintro e w2 ⟨rfl, hb1⟩
  have hb2 : Below (w1.alloc (.cells #[.int .i64 0, .int .u32 0, .int .i64 0] TV)).heap.size (w1.alloc (.cells #[.int .i64 0, .int .u32 0, .int .i64 0] TV)) (w2.alloc (.cells #[.int .i64 0, .int .u32 0, .int .i64 0] TV)) := hb1.alloc hb1.size _
  have GY : Hid ((w2.alloc (.cells #[.int .i64 0, .int .u32 0, .int .i64 0] TV)).heap[w2.heap.size]? = some (.cells #[.int .i64 0, .int .u32 0, .int .i64 0] TV (0, 0))) := heap_r0 w2 _
  have HB : Hid (Below w.heap.size w (w2.alloc (.cells #[.int .i64 0, .int .u32 0, .int .i64 0] TV))) := HB.out.trans (hb2.mono HB.out.size)
  have HN : Hid (NoM v (w2.alloc (.cells #[.int .i64 0, .int .u32 0, .int .i64 0] TV))) := HN.out.below hb2
  have GX : Hid ((w2.alloc (.cells #[.int .i64 0, .int .u32 0, .int .i64 0] TV)).heap[w1.heap.size]? = some (.cells #[.int .i64 0, .int .u32 0, .int .i64 0] TV (0, 0))) := (hb2.block _ (lt_of_heap GX.out)).trans GX.out
  have GP : Hid ((w2.alloc (.cells #[.int .i64 0, .int .u32 0, .int .i64 0] TV)).heap[w.heap.size]? = some (.cells #[.int .i64 p.kind, .int .u32 p.v, .int .i64 p.block] TV (0, 0))) := (hb2.block _ (lt_of_heap GP.out)).trans GP.out
  have GQ : Hid ((w2.alloc (.cells #[.int .i64 0, .int .u32 0, .int .i64 0] TV)).heap[w.heap.size + 1]? = some (.cells #[.int .i64 q.kind, .int .u32 q.v, .int .i64 q.block] TV (0, 0))) := (hb2.block _ (lt_of_heap GQ.out)).trans GQ.out
  clear hb1 hb2 a3 a4 a5 cB
  obtain ⟨a3, a4, a5⟩ := box3_cells GQ.out
  have cT := truth_n HN.out q
  go_wp2_with fail
  refine cT.mono ?_; rintro e Wf ⟨rfl, hb2⟩
  have HB : Hid (Below w.heap.size w Wf) := HB.out.trans (hb2.mono HB.out.size)
  have HN : Hid (NoM v Wf) := HN.out.below hb2
  have GX : Hid (Wf.heap[w1.heap.size]? = some (.cells #[.int .i64 0, .int .u32 0, .int .i64 0] TV (0, 0))) := (hb2.block _ (lt_of_heap GX.out)).trans GX.out
  have GY : Hid (Wf.heap[w2.heap.size]? = some (.cells #[.int .i64 0, .int .u32 0, .int .i64 0] TV (0, 0))) := (hb2.block _ (lt_of_heap GY.out)).trans GY.out
  have GP : Hid (Wf.heap[w.heap.size]? = some (.cells #[.int .i64 p.kind, .int .u32 p.v, .int .i64 p.block] TV (0, 0))) := (hb2.block _ (lt_of_heap GP.out)).trans GP.out
  have GQ : Hid (Wf.heap[w.heap.size + 1]? = some (.cells #[.int .i64 q.kind, .int .u32 q.v, .int .i64 q.block] TV (0, 0))) := (hb2.block _ (lt_of_heap GQ.out)).trans GQ.out
  clear hb2 a3 a4 a5 cT
  have q1_ := eqV ⟨0, 0, 0⟩ ⟨0, 0, 0⟩
  simp only [sameV_self] at q1_
  obtain ⟨x0, x1, x2⟩ := box3_cells GX.out
  obtain ⟨y0, y1, y2⟩ := box3_cells GY.out
  obtain ⟨p0, p1, p2⟩ := box3_cells GP.out
  obtain ⟨q0, q1, q2⟩ := box3_cells GQ.out
  have cE := end_n HN.out n
  go_wp2_with fail
  refine cE.mono ?_; rintro e w' ⟨rfl, hw⟩; rw [hw]; clear hw w' cE
  have cS := store_n HN.out p q 4
  go_wp2_with fail
  refine cS.mono ?_; rintro e Z0 ⟨rfl, hb2⟩
  have HB : Hid (Below w.heap.size w Z0) := HB.out.trans (hb2.mono HB.out.size)
  have HN : Hid (NoM v Z0) := HN.out.below hb2
  have GX : Hid (Z0.heap[w1.heap.size]? = some (.cells #[.int .i64 0, .int .u32 0, .int .i64 0] TV (0, 0))) := (hb2.block _ (lt_of_heap GX.out)).trans GX.out
  have GY : Hid (Z0.heap[w2.heap.size]? = some (.cells #[.int .i64 0, .int .u32 0, .int .i64 0] TV (0, 0))) := (hb2.block _ (lt_of_heap GY.out)).trans GY.out
  have GP : Hid (Z0.heap[w.heap.size]? = some (.cells #[.int .i64 p.kind, .int .u32 p.v, .int .i64 p.block] TV (0, 0))) := (hb2.block _ (lt_of_heap GP.out)).trans GP.out
  have GQ : Hid (Z0.heap[w.heap.size + 1]? = some (.cells #[.int .i64 q.kind, .int .u32 q.v, .int .i64 q.block] TV (0, 0))) := (hb2.block _ (lt_of_heap GQ.out)).trans GQ.out
  clear hb2 cS x0 x1 x2 y0 y1 y2 p0 p1 p2 q0 q1 q2
  obtain ⟨x0, x1, x2⟩ := box3_cells GX.out
  obtain ⟨y0, y1, y2⟩ := box3_cells GY.out
  obtain ⟨p0, p1, p2⟩ := box3_cells GP.out
  obtain ⟨q0, q1, q2⟩ := box3_cells GQ.out
  have cC := copy_n HN.out p q n 4
  go_wp2_with fail
  refine cC.mono ?_; rintro e Z1 ⟨rfl, hb2⟩
  have HB : Hid (Below w.heap.size w Z1) := HB.out.trans (hb2.mono HB.out.size)
  have HN : Hid (NoM v Z1) := HN.out.below hb2
  have GX : Hid (Z1.heap[w1.heap.size]? = some (.cells #[.int .i64 0, .int .u32 0, .int .i64 0] TV (0, 0))) := (hb2.block _ (lt_of_heap GX.out)).trans GX.out
  have GY : Hid (Z1.heap[w2.heap.size]? = some (.cells #[.int .i64 0, .int .u32 0, .int .i64 0] TV (0, 0))) := (hb2.block _ (lt_of_heap GY.out)).trans GY.out
  have GP : Hid (Z1.heap[w.heap.size]? = some (.cells #[.int .i64 p.kind, .int .u32 p.v, .int .i64 p.block] TV (0, 0))) := (hb2.block _ (lt_of_heap GP.out)).trans GP.out
  have GQ : Hid (Z1.heap[w.heap.size + 1]? = some (.cells #[.int .i64 q.kind, .int .u32 q.v, .int .i64 q.block] TV (0, 0))) := (hb2.block _ (lt_of_heap GQ.out)).trans GQ.out
  clear hb2 cC x0 x1 x2 y0 y1 y2 p0 p1 p2 q0 q1 q2
  obtain ⟨x0, x1, x2⟩ := box3_cells GX.out
  obtain ⟨y0, y1, y2⟩ := box3_cells GY.out
  obtain ⟨p0, p1, p2⟩ := box3_cells GP.out
  obtain ⟨q0, q1, q2⟩ := box3_cells GQ.out
  have cZ := zero_n HN.out p n
  go_wp2_with fail
  refine cZ.mono ?_; rintro e Z2 ⟨rfl, hb2⟩
  have HB : Hid (Below w.heap.size w Z2) := HB.out.trans (hb2.mono HB.out.size)
  have HN : Hid (NoM v Z2) := HN.out.below hb2
  have GX : Hid (Z2.heap[w1.heap.size]? = some (.cells #[.int .i64 0, .int .u32 0, .int .i64 0] TV (0, 0))) := (hb2.block _ (lt_of_heap GX.out)).trans GX.out
  have GY : Hid (Z2.heap[w2.heap.size]? = some (.cells #[.int .i64 0, .int .u32 0, .int .i64 0] TV (0, 0))) := (hb2.block _ (lt_of_heap GY.out)).trans GY.out
  have GP : Hid (Z2.heap[w.heap.size]? = some (.cells #[.int .i64 p.kind, .int .u32 p.v, .int .i64 p.block] TV (0, 0))) := (hb2.block _ (lt_of_heap GP.out)).trans GP.out
  have GQ : Hid (Z2.heap[w.heap.size + 1]? = some (.cells #[.int .i64 q.kind, .int .u32 q.v, .int .i64 q.block] TV (0, 0))) := (hb2.block _ (lt_of_heap GQ.out)).trans GQ.out
  clear hb2 cZ x0 x1 x2 y0 y1 y2 p0 p1 p2 q0 q1 q2
  obtain ⟨x0, x1, x2⟩ := box3_cells GX.out
  obtain ⟨y0, y1, y2⟩ := box3_cells GY.out
  obtain ⟨p0, p1, p2⟩ := box3_cells GP.out
  obtain ⟨q0, q1, q2⟩ := box3_cells GQ.out
  go_wp2
  go_ret
  exact ⟨rfl, HB.out⟩
end Go.Proofs.Ytigiahcfcglacaa
