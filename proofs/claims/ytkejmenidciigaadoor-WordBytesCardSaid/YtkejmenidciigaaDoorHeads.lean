/-
  What the laws' common part heads answers: it returns true, and changes nothing that was there before, in every world in which the table of the operations' names holds its nineteenth name.
-/
import Derived.Test.YtkejmenidciigaaDoorBin
import Derived.Deep.QuietTactic
import Derived.BigQuiet
import Derived.LoopN
namespace Go.Proofs.YtkejmenidciigaaDoor
open Go.RowKit
set_option linter.unusedVariables false

theorem one_result {k : IntKind} {x y : Int} (h : x = y) : Ending.returned (.int k x) = .returned (.int k y) := by rw [h]

set_option maxHeartbeats 400000 in
theorem value_128 (b : Nat) (w : World) (h : w.cell? ⟨b, 0, none⟩ = some (.int .u8 128)) :
    Calls Tryd.prog 26 #[.slice (some ⟨b, 0, none⟩) 1 1, .bool true] w fun e w' => e = .returned (.tuple #[.int .u32 4294967168, .int .i64 0]) ∧ w' = w := by
  go_enter Tryd.func26, Tryd.ntmps26
  go_wp2
  refine wp_loop_rounds 2 ?_
  rw [rounds_succ]
  go_wp2
  rw [rounds_succ]
  go_wp2
  go_ret2
  exact ⟨rfl, rfl⟩

set_option maxHeartbeats 400000 in
theorem bytes_two (w : World) :
    Calls Tryd.prog 29 #[.int .u32 305419896, .int .i64 2] w fun e w' => e = .returned (.slice (some ⟨w.heap.size, 0, none⟩) 2 2) ∧ w' = w.alloc (.cells #[.int .u8 120, .int .u8 86] 5) := by
  have hmk : ∀ w, (Instr.makeSlice 38 (.int .i64 2) (.int .i64 2)).run Tryd.prog w = .ok (.slice (some ⟨w.heap.size, 0, none⟩) 2 2) (w.alloc (.cells #[.int .u8 0, .int .u8 0] 5)) := fun _ => by kernel_rfl
  go_enter Tryd.func29, Tryd.ntmps29
  go_wp2
  refine wp_loop_rounds 3 ?_
  rw [rounds_succ]
  go_wp2
  rw [rounds_succ]
  go_wp2
  rw [rounds_succ]
  go_wp2
  go_ret
  exact ⟨rfl, rfl⟩

set_option maxHeartbeats 400000 in
theorem same_two (a b : Nat) (x y : Int) (w : World) (h0 : w.cell? ⟨a, 0, none⟩ = some (.int .u8 x)) (h1 : w.cell? ⟨a, 1, none⟩ = some (.int .u8 y))
    (h2 : w.cell? ⟨b, 0, none⟩ = some (.int .u8 x)) (h3 : w.cell? ⟨b, 1, none⟩ = some (.int .u8 y)) :
    Calls Tryd.prog 28 #[.slice (some ⟨a, 0, none⟩) 2 2, .slice (some ⟨b, 0, none⟩) 2 2] w fun e w' => e = .returned (.bool true) ∧ ∃ n, w' = w.drewN n := by
  go_enter Tryd.func28, Tryd.ntmps28
  go_wp2
  refine wp_loop_rounds 3 ?_
  rw [rounds_succ]
  go_wp2
  go_quiet (fail)
  go_wp2
  rw [rounds_succ]
  go_wp2
  go_quiet (fail)
  go_wp2
  rw [rounds_succ]
  go_wp2
  go_ret
  exact ⟨rfl, _, rfl⟩

set_option maxHeartbeats 400000 in
theorem name_19 (w : World) (h0 : w.cell? ⟨0, 18, none⟩ = some (.string ⟨#[108, 101, 117]⟩)) :
    Calls Tryd.prog 24 #[.int .i64 19] w fun e w' => e = .returned (.string ⟨#[108, 101, 117]⟩) ∧ w' = w := by
  go_enter Tryd.func24, Tryd.ntmps24
  go_wp2
  go_ret
  exact ⟨rfl, rfl⟩

theorem of_7 (w : World) : Calls Tryd.prog 19 #[.int .i64 (-7)] w fun e w' => e = .returned (.int .u32 4294967289) ∧ w' = w := by
  go_enter Tryd.func19, Tryd.ntmps19
  go_wp2
  go_ret
  exact ⟨one_result (by decide), rfl⟩
theorem of_1 (w : World) : Calls Tryd.prog 19 #[.int .i64 (-1)] w fun e w' => e = .returned (.int .u32 4294967295) ∧ w' = w := by
  go_enter Tryd.func19, Tryd.ntmps19
  go_wp2
  go_ret
  exact ⟨one_result (by decide), rfl⟩
theorem int_any (a : Int) (w : World) : Calls Tryd.prog 10 #[.int .u32 a] w fun e w' => e = .returned (.int .i64 (wrap64 (wrap32 a))) ∧ w' = w := by
  go_enter Tryd.func10, Tryd.ntmps10
  go_wp2
  go_ret
  exact ⟨rfl, rfl⟩
theorem int_3 (w : World) : Calls Tryd.prog 10 #[.int .u32 4294967293] w fun e w' => e = .returned (.int .i64 (-3)) ∧ w' = w := by
  have h := int_any 4294967293 w
  rw [show wrap64 (wrap32 4294967293) = -3 by decide +kernel] at h
  exact h
theorem int_1 (w : World) : Calls Tryd.prog 10 #[.int .u32 4294967295] w fun e w' => e = .returned (.int .i64 (-1)) ∧ w' = w := by
  have h := int_any 4294967295 w
  rw [show wrap64 (wrap32 4294967295) = -1 by decide +kernel] at h
  exact h
theorem div_7 (w : World) : Calls Tryd.prog 9 #[.int .i64 4, .int .u32 4294967289, .int .u32 2] w fun e w' => e = .returned (.tuple #[.int .u32 4294967293, .bool true]) ∧ w' = w := by
  have h := bin_divs 4294967289 2 w (by decide) (by decide) (by decide) (by decide)
  rw [show wrap64 ((wrap64 (wrap32 4294967289)).tdiv (wrap64 (wrap32 2))) % 4294967296 = 4294967293 by decide +kernel] at h
  exact h
theorem rem_7 (w : World) : Calls Tryd.prog 9 #[.int .i64 6, .int .u32 4294967289, .int .u32 2] w fun e w' => e = .returned (.tuple #[.int .u32 4294967295, .bool true]) ∧ w' = w := by
  have h := bin_rems 4294967289 2 w (by decide) (by decide) (by decide) (by decide)
  rw [show (wrap64 (wrap32 4294967289)).tmod (wrap64 (wrap32 2)) % 4294967296 = 4294967295 by decide +kernel] at h
  exact h
theorem div_1 (w : World) : Calls Tryd.prog 9 #[.int .i64 4, .int .u32 2147483648, .int .u32 4294967295] w fun e w' => e = .returned (.tuple #[.int .u32 2147483648, .bool true]) ∧ w' = w := by
  have h := bin_divs 2147483648 4294967295 w (by decide) (by decide) (by decide) (by decide)
  rw [show wrap64 ((wrap64 (wrap32 2147483648)).tdiv (wrap64 (wrap32 4294967295))) % 4294967296 = 2147483648 by decide +kernel] at h
  exact h
theorem div_0 (w : World) : Calls Tryd.prog 9 #[.int .i64 5, .int .u32 1, .int .u32 0] w fun e w' => e = .returned (.tuple #[.int .u32 0, .bool false]) ∧ w' = w := by
  go_enter Tryd.func9, Tryd.ntmps9
  go_wp2
  go_ret2
  exact ⟨rfl, rfl⟩
theorem conv_char (w : World) : Calls Tryd.prog 16 #[.int .i64 3, .int .u32 511] w fun e w' => e = .returned (.int .u32 4294967295) ∧ w' = w := by
  go_enter Tryd.func16, Tryd.ntmps16
  go_wp2
  go_ret
  exact ⟨rfl, rfl⟩
theorem conv_bool (w : World) : Calls Tryd.prog 16 #[.int .i64 2, .int .u32 256] w fun e w' => e = .returned (.int .u32 1) ∧ w' = w := by
  go_enter Tryd.func16, Tryd.ntmps16
  go_wp2
  go_ret
  exact ⟨rfl, rfl⟩

set_option maxHeartbeats 2000000 in
theorem heads_any (w : World) (hn : w.cell? ⟨0, 18, none⟩ = some (.string ⟨#[108, 101, 117]⟩)) (hz : 0 < w.heap.size) :
    Calls Tryd.prog 11 #[] w fun e w' => e = .returned (.bool true) ∧ Below w.heap.size w w' := by
  go_enter Tryd.func11, Tryd.ntmps11
  go_wp2_with fail
  refine (of_7 _).mono ?_; rintro e w' ⟨rfl, rfl⟩
  go_wp2_with fail
  refine (div_7 _).mono ?_; rintro e w' ⟨rfl, rfl⟩
  go_wp2_with fail
  refine (of_7 _).mono ?_; rintro e w' ⟨rfl, rfl⟩
  go_wp2_with fail
  refine (rem_7 _).mono ?_; rintro e w' ⟨rfl, rfl⟩
  go_wp2_with fail
  refine (of_1 _).mono ?_; rintro e w' ⟨rfl, rfl⟩
  go_wp2_with fail
  refine (div_1 _).mono ?_; rintro e w' ⟨rfl, rfl⟩
  go_wp2_with fail
  refine (div_0 _).mono ?_; rintro e w' ⟨rfl, rfl⟩
  go_wp2_with fail
  refine (value_128 _ _ (by simp [go_sem])).mono ?_; rintro e w' ⟨rfl, rfl⟩
  go_wp2_with fail
  refine (int_3 _).mono ?_; rintro e w' ⟨rfl, rfl⟩
  go_wp2_with fail
  refine (int_1 _).mono ?_; rintro e w' ⟨rfl, rfl⟩
  go_wp2_with fail
  refine (conv_char _).mono ?_; rintro e w' ⟨rfl, rfl⟩
  go_wp2_with fail
  refine (conv_bool _).mono ?_; rintro e w' ⟨rfl, rfl⟩
  go_wp2_with fail
  refine (name_19 _ (by simp [go_sem, hn, hz])).mono ?_; rintro e w' ⟨rfl, rfl⟩
  go_wp2_with fail
  refine (bytes_two _).mono ?_; rintro e w' ⟨rfl, rfl⟩
  go_wp2_with fail
  refine (same_two _ _ 120 86 _ (by simp [go_sem]) (by simp [go_sem]) (by simp [go_sem]) (by simp [go_sem])).mono ?_; rintro e w' ⟨rfl, n, rfl⟩
  go_wp2_with fail
  go_ret
  exact ⟨rfl, below_drewN ((((Below.refl _ w').alloc (Nat.le_refl _) _).alloc (by simp) _).alloc (by simp; omega) _) _⟩
end Go.Proofs.YtkejmenidciigaaDoor
