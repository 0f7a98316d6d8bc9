/-
  What mortiseref02's Signs and moved answer.
-/
import Derived.Test.YtjbmpdcgmphhoaaGreatDoorRefQuo
import Derived.Test.YtjbmpdcgmphhoaaGreatDoorRefKey
import Derived.Test.YtjbmpdcgmphhoaaGreatDoorFirst
namespace Go.Proofs.YtjbmpdcgmphhoaaGreatDoor
open Go.RowKit
set_option linter.unusedVariables false

set_option maxRecDepth 100000 in
set_option maxHeartbeats 4000000 in
theorem signs_r (w : World) : Calls Tryz.prog 49 #[] w fun e w' => e = .returned (.slice (some ⟨w.heap.size, 0, none⟩) 45 45) ∧ w' = w.alloc (.cells signCells 9) := by
  go_enter Tryz.func49, Tryz.ntmps49
  go_wp2
  go_ret
  exact ⟨rfl, rfl⟩
end Go.Proofs.YtjbmpdcgmphhoaaGreatDoor
