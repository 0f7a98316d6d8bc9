/-
  A memory that New did not give refuses all: the law's own walk.
-/
import Derived.Test.YtakkipnggnbecaaMmX
import Derived.Test.YtakkipnggnbecaaMmY
namespace Go.Proofs.Ytakkipnggnbecaa
open Go.RowKit Go.Maps
set_option linter.unusedVariables false
set_option maxRecDepth 100000
set_option maxHeartbeats 4000000 in
theorem nob_walk (p q : Vl) (n : Int) (w : World) :
    Calls Try.prog 8 #[.agg #[.int .i64 p.kind, .int .u32 p.v, .int .i64 p.block], .agg #[.int .i64 q.kind, .int .u32 q.v, .int .i64 q.block], .int .i64 n] w fun e w' => e = .returned (.bool true) ∧ Below w.heap.size w w' := by
  have HB : Hid (Below w.heap.size w (box2 w p q)) := box2_below w p q
  obtain ⟨g1, g2⟩ := box2_heap w p q
  have GP : Hid _ := g1
  have GQ : Hid _ := g2
  have hbm : ∀ (Y : World), (Instr.build TMm #[]).run Try.prog Y = .ok (.agg #[.pointer none, .map none, .int .i64 0]) Y := fun Y => by kernel_rfl
  obtain ⟨Wz, hW⟩ : ∃ Wz, Wz = box2 w p q := ⟨_, rfl⟩
  clear g1 g2
  go_enter Try.func8, Try.ntmps8
  go_upto_region 1 with (fail)
  refine (?_ : Code.wp _ _ _ _ (box2 w p q))
  rw [← hW] at HB GP GQ ⊢
  clear hW
  obtain ⟨a0, a1, a2⟩ := box3_cells GP.out
  obtain ⟨a3, a4, a5⟩ := box3_cells GQ.out
  have c1 := nobody_c (v := .pointer none) (w := Wz) (Or.inl rfl) p q n
  go_wp2_with fail
  refine c1.mono ?_; rintro e w1 ⟨rfl, hb1⟩
  have hb2 : Below Wz.heap.size Wz (w1.alloc (.cells #[.pointer none, .map none, .int .i64 0] TMm)) := hb1.alloc hb1.size _
  have HB : Hid (Below w.heap.size w (w1.alloc (.cells #[.pointer none, .map none, .int .i64 0] TMm))) := HB.out.trans (hb2.mono HB.out.size)
  have GP : Hid ((w1.alloc (.cells #[.pointer none, .map none, .int .i64 0] TMm)).heap[w.heap.size]? = some (.cells #[.int .i64 p.kind, .int .u32 p.v, .int .i64 p.block] TV (0, 0))) := (hb2.block _ (lt_of_heap GP.out)).trans GP.out
  have GQ : Hid ((w1.alloc (.cells #[.pointer none, .map none, .int .i64 0] TMm)).heap[w.heap.size + 1]? = some (.cells #[.int .i64 q.kind, .int .u32 q.v, .int .i64 q.block] TV (0, 0))) := (hb2.block _ (lt_of_heap GQ.out)).trans GQ.out
  have c2 := nobody_c (v := .pointer (some ⟨w1.heap.size, 0, none⟩)) (w := w1.alloc (.cells #[.pointer none, .map none, .int .i64 0] TMm)) (Or.inr ⟨_, rfl, by rw [Lib.cell_of_heap (heap_r0 w1 _)]; rfl⟩) p q n
  clear hb1 hb2 c1 a0 a1 a2 a3 a4 a5
  obtain ⟨a0, a1, a2⟩ := box3_cells GP.out
  obtain ⟨a3, a4, a5⟩ := box3_cells GQ.out
  go_wp2_with fail
  refine c2.mono ?_; rintro e w2 ⟨rfl, hb1⟩
  have HB : Hid (Below w.heap.size w w2) := HB.out.trans (hb1.mono HB.out.size)
  clear hb1 c2
  have c3 := heads_c w2
  go_wp2_with fail
  refine c3.mono ?_; rintro e w3 ⟨rfl, hb1⟩
  have HB : Hid (Below w.heap.size w w3) := HB.out.trans (hb1.mono HB.out.size)
  clear hb1 c3
  go_wp2
  go_ret
  exact ⟨rfl, HB.out⟩
end Go.Proofs.Ytakkipnggnbecaa
