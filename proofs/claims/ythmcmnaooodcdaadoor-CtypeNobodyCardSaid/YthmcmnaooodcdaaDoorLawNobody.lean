/-
  The law CtypeNobody's own walk.
-/
import Derived.Test.YthmcmnaooodcdaaDoorNobody3
import Derived.Test.YthmcmnaooodcdaaDoorHeads
namespace Go.Proofs.YthmcmnaooodcdaaDoor
open Go.RowKit Go.Maps
set_option linter.unusedVariables false
set_option maxRecDepth 100000

set_option maxHeartbeats 1000000 in
theorem ctypeNobody_c (id : Int) (s : ByteArray) (l : Value) (w : World) (hT : Tabs w) (hN : Names w) :
    Calls Tryd.prog 6 #[.int .i64 id, .string s, l] w fun e w' => e = .returned (.bool true) ∧ Below w.heap.size w w' := by
  have c1 := nobody_c (v := .pointer none) (w := w) (Or.inl rfl) id s l
  have hbt : ∀ W : World, (Instr.build 59 #[]).run Tryd.prog W = .ok (.agg #[.slice none 0 0, .map none]) W := fun W => by kernel_rfl
  have hT0 : Hid (Tabs w) := hT
  have hN0 : Hid (Names w) := hN
  clear hT hN
  go_enter Tryd.func6, Tryd.ntmps6
  go_wp2_with fail
  refine c1.mono ?_
  rintro e w1 ⟨rfl, hb1⟩
  have c2 := nobody_c (v := .pointer (some ⟨w1.heap.size, 0, none⟩)) (w := w1.alloc (.cells #[.slice none 0 0, .map none] 59)) (Or.inr ⟨_, rfl, by rw [Lib.cell_of_heap (heap_r0 w1 _)]; rfl⟩) id s l
  have HB1 : Hid (Below w.heap.size w w1) := hb1
  clear c1 hb1
  go_wp2_with fail
  refine c2.mono ?_
  rintro e w2 ⟨rfl, hb2⟩
  have HB2 : Hid (Below w.heap.size w w2) := HB1.out.trans (((Below.refl _ w1).alloc HB1.out.size _).trans (hb2.mono (Nat.le_trans HB1.out.size (by simp))))
  have c3 := heads_c w2 (Tabs.below hT0.out HB2.out) (Names.below hN0.out HB2.out)
  clear c2 hb2
  go_wp2_with fail
  refine c3.mono ?_
  rintro e w3 ⟨rfl, hb3⟩
  go_wp2
  go_ret
  exact ⟨rfl, HB2.out.trans (hb3.mono HB2.out.size)⟩
end Go.Proofs.YthmcmnaooodcdaaDoor
