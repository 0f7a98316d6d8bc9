/-
  What mortiseref02's Word answers: the same as package token's.
-/
import Derived.Test.YtjbmpdcgmphhoaaDoorRefKey
namespace Go.Proofs.YtjbmpdcgmphhoaaDoor
open Go.RowKit
set_option linter.unusedVariables false

theorem word_r (s : ByteArray) (w : World) :
    Calls Tryd.prog 12 #[.string s] w fun e w' => e = .returned (.bool (isWord s.data.toList)) ∧ Below w.heap.size w w' := by
  have cK := keyword_r s w
  go_enter Tryd.func12, Tryd.ntmps12
  go_wp2_with (go_at_call 27; refine cK.mono ?_; rintro e w1 ⟨rfl, hb⟩)
  go_ret
  exact ⟨rfl, hb⟩
end Go.Proofs.YtjbmpdcgmphhoaaDoor
