/-
  What the laws' common part heads answers: it returns true, and changes nothing that was there before, in every world in which the table of the operations' names holds its nineteenth name.
-/
import Derived.Test.YtpnpilbmhkiphaaDoorWBin
import Derived.Deep.QuietTactic
import Derived.BigQuiet
import Derived.LoopN
namespace Go.Proofs.YtpnpilbmhkiphaaDoor.W
open Go.RowKit
set_option linter.unusedVariables false

theorem one_result {k : IntKind} {x y : Int} (h : x = y) : Ending.returned (.int k x) = .returned (.int k y) := by rw [h]

set_option maxHeartbeats 400000 in
theorem name_19 (w : World) (h0 : w.cell? ⟨0, 18, none⟩ = some (.string ⟨#[108, 101, 117]⟩)) :
    Calls Tryd.prog 17 #[.int .i64 19] w fun e w' => e = .returned (.string ⟨#[108, 101, 117]⟩) ∧ w' = w := by
  go_enter Tryd.func17, Tryd.ntmps17
  go_wp2
  go_ret
  exact ⟨rfl, rfl⟩

theorem of_7 (w : World) : Calls Tryd.prog 39 #[.int .i64 (-7)] w fun e w' => e = .returned (.int .u32 4294967289) ∧ w' = w := by
  go_enter Tryd.func39, Tryd.ntmps39
  go_wp2
  go_ret
  exact ⟨one_result (by decide), rfl⟩
theorem of_1 (w : World) : Calls Tryd.prog 39 #[.int .i64 (-1)] w fun e w' => e = .returned (.int .u32 4294967295) ∧ w' = w := by
  go_enter Tryd.func39, Tryd.ntmps39
  go_wp2
  go_ret
  exact ⟨one_result (by decide), rfl⟩
theorem int_any (a : Int) (w : World) : Calls Tryd.prog 40 #[.int .u32 a] w fun e w' => e = .returned (.int .i64 (wrap64 (wrap32 a))) ∧ w' = w := by
  go_enter Tryd.func40, Tryd.ntmps40
  go_wp2
  go_ret
  exact ⟨rfl, rfl⟩
theorem int_3 (w : World) : Calls Tryd.prog 40 #[.int .u32 4294967293] w fun e w' => e = .returned (.int .i64 (-3)) ∧ w' = w := by
  have h := int_any 4294967293 w
  rw [show wrap64 (wrap32 4294967293) = -3 by decide +kernel] at h
  exact h
theorem int_1 (w : World) : Calls Tryd.prog 40 #[.int .u32 4294967295] w fun e w' => e = .returned (.int .i64 (-1)) ∧ w' = w := by
  have h := int_any 4294967295 w
  rw [show wrap64 (wrap32 4294967295) = -1 by decide +kernel] at h
  exact h
theorem div_7 (w : World) : Calls Tryd.prog 7 #[.int .i64 4, .int .u32 4294967289, .int .u32 2] w fun e w' => e = .returned (.tuple #[.int .u32 4294967293, .bool true]) ∧ w' = w := by
  have h := bin_divs 4294967289 2 w (by decide) (by decide) (by decide) (by decide)
  rw [show wrap64 ((wrap64 (wrap32 4294967289)).tdiv (wrap64 (wrap32 2))) % 4294967296 = 4294967293 by decide +kernel] at h
  exact h
theorem rem_7 (w : World) : Calls Tryd.prog 7 #[.int .i64 6, .int .u32 4294967289, .int .u32 2] w fun e w' => e = .returned (.tuple #[.int .u32 4294967295, .bool true]) ∧ w' = w := by
  have h := bin_rems 4294967289 2 w (by decide) (by decide) (by decide) (by decide)
  rw [show (wrap64 (wrap32 4294967289)).tmod (wrap64 (wrap32 2)) % 4294967296 = 4294967295 by decide +kernel] at h
  exact h
theorem div_1 (w : World) : Calls Tryd.prog 7 #[.int .i64 4, .int .u32 2147483648, .int .u32 4294967295] w fun e w' => e = .returned (.tuple #[.int .u32 2147483648, .bool true]) ∧ w' = w := by
  have h := bin_divs 2147483648 4294967295 w (by decide) (by decide) (by decide) (by decide)
  rw [show wrap64 ((wrap64 (wrap32 2147483648)).tdiv (wrap64 (wrap32 4294967295))) % 4294967296 = 2147483648 by decide +kernel] at h
  exact h
theorem div_0 (w : World) : Calls Tryd.prog 7 #[.int .i64 5, .int .u32 1, .int .u32 0] w fun e w' => e = .returned (.tuple #[.int .u32 0, .bool false]) ∧ w' = w := by
  go_enter Tryd.func7, Tryd.ntmps7
  go_wp2
  go_ret2
  exact ⟨rfl, rfl⟩
theorem conv_char (w : World) : Calls Tryd.prog 9 #[.int .i64 3, .int .u32 511] w fun e w' => e = .returned (.int .u32 4294967295) ∧ w' = w := by
  go_enter Tryd.func9, Tryd.ntmps9
  go_wp2
  go_ret
  exact ⟨rfl, rfl⟩
theorem conv_bool (w : World) : Calls Tryd.prog 9 #[.int .i64 2, .int .u32 256] w fun e w' => e = .returned (.int .u32 1) ∧ w' = w := by
  go_enter Tryd.func9, Tryd.ntmps9
  go_wp2
  go_ret
  exact ⟨rfl, rfl⟩

end Go.Proofs.YtpnpilbmhkiphaaDoor.W
