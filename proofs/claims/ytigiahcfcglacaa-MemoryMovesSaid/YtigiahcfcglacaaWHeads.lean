/-
  What the laws' common part heads answers: it returns true, and changes nothing that was there before, in every world in which the table of the operations' names holds its nineteenth name.
-/
import Derived.Test.YtigiahcfcglacaaWBin
import Derived.Deep.QuietTactic
import Derived.BigQuiet
import Derived.LoopN
namespace Go.Proofs.Ytigiahcfcglacaa.W
open Go.RowKit
set_option linter.unusedVariables false

theorem one_result {k : IntKind} {x y : Int} (h : x = y) : Ending.returned (.int k x) = .returned (.int k y) := by rw [h]

set_option maxHeartbeats 400000 in
theorem value_128 (b : Nat) (w : World) (h : w.cell? ⟨b, 0, none⟩ = some (.int .u8 128)) :
    Calls Try.prog 73 #[.slice (some ⟨b, 0, none⟩) 1 1, .bool true] w fun e w' => e = .returned (.tuple #[.int .u32 4294967168, .int .i64 0]) ∧ w' = w := by
  go_enter Try.func73, Try.ntmps73
  go_wp2
  refine wp_loop_rounds 2 ?_
  rw [rounds_succ]
  go_wp2
  rw [rounds_succ]
  go_wp2
  go_ret2
  exact ⟨rfl, rfl⟩

set_option maxHeartbeats 400000 in
theorem bytes_two (w : World) :
    Calls Try.prog 72 #[.int .u32 305419896, .int .i64 2] w fun e w' => e = .returned (.slice (some ⟨w.heap.size, 0, none⟩) 2 2) ∧ w' = w.alloc (.cells #[.int .u8 120, .int .u8 86] 5) := by
  have hmk : ∀ w, (Instr.makeSlice 112 (.int .i64 2) (.int .i64 2)).run Try.prog w = .ok (.slice (some ⟨w.heap.size, 0, none⟩) 2 2) (w.alloc (.cells #[.int .u8 0, .int .u8 0] 5)) := fun _ => by kernel_rfl
  go_enter Try.func72, Try.ntmps72
  go_wp2
  refine wp_loop_rounds 3 ?_
  rw [rounds_succ]
  go_wp2
  rw [rounds_succ]
  go_wp2
  rw [rounds_succ]
  go_wp2
  go_ret
  exact ⟨rfl, rfl⟩

theorem of_7 (w : World) : Calls Try.prog 85 #[.int .i64 (-7)] w fun e w' => e = .returned (.int .u32 4294967289) ∧ w' = w := by
  go_enter Try.func85, Try.ntmps85
  go_wp2
  go_ret
  exact ⟨one_result (by decide), rfl⟩
theorem of_1 (w : World) : Calls Try.prog 85 #[.int .i64 (-1)] w fun e w' => e = .returned (.int .u32 4294967295) ∧ w' = w := by
  go_enter Try.func85, Try.ntmps85
  go_wp2
  go_ret
  exact ⟨one_result (by decide), rfl⟩
theorem int_any (a : Int) (w : World) : Calls Try.prog 57 #[.int .u32 a] w fun e w' => e = .returned (.int .i64 (wrap64 (wrap32 a))) ∧ w' = w := by
  go_enter Try.func57, Try.ntmps57
  go_wp2
  go_ret
  exact ⟨rfl, rfl⟩
theorem int_3 (w : World) : Calls Try.prog 57 #[.int .u32 4294967293] w fun e w' => e = .returned (.int .i64 (-3)) ∧ w' = w := by
  have h := int_any 4294967293 w
  rw [show wrap64 (wrap32 4294967293) = -3 by decide +kernel] at h
  exact h
theorem int_1 (w : World) : Calls Try.prog 57 #[.int .u32 4294967295] w fun e w' => e = .returned (.int .i64 (-1)) ∧ w' = w := by
  have h := int_any 4294967295 w
  rw [show wrap64 (wrap32 4294967295) = -1 by decide +kernel] at h
  exact h
theorem div_7 (w : World) : Calls Try.prog 52 #[.int .i64 4, .int .u32 4294967289, .int .u32 2] w fun e w' => e = .returned (.tuple #[.int .u32 4294967293, .bool true]) ∧ w' = w := by
  have h := bin_divs 4294967289 2 w (by decide) (by decide) (by decide) (by decide)
  rw [show wrap64 ((wrap64 (wrap32 4294967289)).tdiv (wrap64 (wrap32 2))) % 4294967296 = 4294967293 by decide +kernel] at h
  exact h
theorem rem_7 (w : World) : Calls Try.prog 52 #[.int .i64 6, .int .u32 4294967289, .int .u32 2] w fun e w' => e = .returned (.tuple #[.int .u32 4294967295, .bool true]) ∧ w' = w := by
  have h := bin_rems 4294967289 2 w (by decide) (by decide) (by decide) (by decide)
  rw [show (wrap64 (wrap32 4294967289)).tmod (wrap64 (wrap32 2)) % 4294967296 = 4294967295 by decide +kernel] at h
  exact h
theorem div_1 (w : World) : Calls Try.prog 52 #[.int .i64 4, .int .u32 2147483648, .int .u32 4294967295] w fun e w' => e = .returned (.tuple #[.int .u32 2147483648, .bool true]) ∧ w' = w := by
  have h := bin_divs 2147483648 4294967295 w (by decide) (by decide) (by decide) (by decide)
  rw [show wrap64 ((wrap64 (wrap32 2147483648)).tdiv (wrap64 (wrap32 4294967295))) % 4294967296 = 2147483648 by decide +kernel] at h
  exact h
theorem div_0 (w : World) : Calls Try.prog 52 #[.int .i64 5, .int .u32 1, .int .u32 0] w fun e w' => e = .returned (.tuple #[.int .u32 0, .bool false]) ∧ w' = w := by
  go_enter Try.func52, Try.ntmps52
  go_wp2
  go_ret2
  exact ⟨rfl, rfl⟩
end Go.Proofs.Ytigiahcfcglacaa.W
