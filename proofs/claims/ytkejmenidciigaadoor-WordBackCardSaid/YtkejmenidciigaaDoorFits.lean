/-
  At every kind and every number the program's function Fits answers as the document's own: whether the number lies within the kind's range.
-/
import Derived.Test.YtkejmenidciigaaDoorKind
namespace Go.Proofs.YtkejmenidciigaaDoor
open Go.RowKit
set_option linter.unusedVariables false

theorem bool_result {x y : Bool} (h : x = y) : Ending.returned (.bool x) = .returned (.bool y) := by rw [h]
/-- Fits of both. -/
def BothFits (k n : Int) (b : Bool) : Prop := Answers 21 #[.int .i64 k, .int .i64 n] (.bool b) ∧ Answers 22 #[.int .i64 k, .int .i64 n] (.bool b)

set_option maxHeartbeats 1000000 in
theorem fits_2 (n : Int) (n0 : -9223372036854775808 ≤ n) (n1 : n < 9223372036854775808) : BothFits 2 n (decide (0 ≤ n ∧ n ≤ 1)) := by
  by_cases h1 : n < 0
  · have e : decide (0 ≤ n ∧ n ≤ 1) = false := by simp; omega
    rw [e]
    have g1 : (n == 0) = false := by simp; omega
    have g2 : (n == 1) = false := by simp; omega
    refine ⟨fun w => ?_, fun w => ?_⟩
    · go_enter Tryd.func21, Tryd.ntmps21
      go_wp2
      go_ret
      first | exact ⟨rfl, rfl⟩ | (refine ⟨bool_result ?_, rfl⟩; simp; omega)
    · go_enter Tryd.func22, Tryd.ntmps22
      go_wp2
      go_ret
      first | exact ⟨rfl, rfl⟩ | (refine ⟨bool_result ?_, rfl⟩; simp; omega)
  by_cases h2 : 1 < n
  · have e : decide (0 ≤ n ∧ n ≤ 1) = false := by simp; omega
    rw [e]
    have g1 : (n == 0) = false := by simp; omega
    have g2 : (n == 1) = false := by simp; omega
    refine ⟨fun w => ?_, fun w => ?_⟩
    · go_enter Tryd.func21, Tryd.ntmps21
      go_wp2
      go_ret
      first | exact ⟨rfl, rfl⟩ | (refine ⟨bool_result ?_, rfl⟩; simp; omega)
    · go_enter Tryd.func22, Tryd.ntmps22
      go_wp2
      go_ret
      first | exact ⟨rfl, rfl⟩ | (refine ⟨bool_result ?_, rfl⟩; simp; omega)
  have e : decide (0 ≤ n ∧ n ≤ 1) = true := by simp; omega
  rw [e]
  have h3 : n = 0 ∨ n = 1 := by omega
  rcases h3 with rfl | rfl
  · refine ⟨fun w => ?_, fun w => ?_⟩
    · go_enter Tryd.func21, Tryd.ntmps21
      go_wp2
      go_ret
      first | exact ⟨rfl, rfl⟩ | (refine ⟨bool_result ?_, rfl⟩; simp; omega)
    · go_enter Tryd.func22, Tryd.ntmps22
      go_wp2
      go_ret
      first | exact ⟨rfl, rfl⟩ | (refine ⟨bool_result ?_, rfl⟩; simp; omega)
  · refine ⟨fun w => ?_, fun w => ?_⟩
    · go_enter Tryd.func21, Tryd.ntmps21
      go_wp2
      go_ret
      first | exact ⟨rfl, rfl⟩ | (refine ⟨bool_result ?_, rfl⟩; simp; omega)
    · go_enter Tryd.func22, Tryd.ntmps22
      go_wp2
      go_ret
      first | exact ⟨rfl, rfl⟩ | (refine ⟨bool_result ?_, rfl⟩; simp; omega)

set_option maxHeartbeats 1000000 in
theorem fits_3 (n : Int) (n0 : -9223372036854775808 ≤ n) (n1 : n < 9223372036854775808) : BothFits 3 n (decide (-128 ≤ n ∧ n ≤ 127)) := by
  by_cases h1 : n < -128
  · have e : decide (-128 ≤ n ∧ n ≤ 127) = false := by simp; omega
    rw [e]
    have g1 : (n == 0) = false := by simp; omega
    have g2 : (n == 1) = false := by simp; omega
    refine ⟨fun w => ?_, fun w => ?_⟩
    · go_enter Tryd.func21, Tryd.ntmps21
      go_wp2
      go_ret
      first | exact ⟨rfl, rfl⟩ | (refine ⟨bool_result ?_, rfl⟩; simp; omega)
    · go_enter Tryd.func22, Tryd.ntmps22
      go_wp2
      go_ret
      first | exact ⟨rfl, rfl⟩ | (refine ⟨bool_result ?_, rfl⟩; simp; omega)
  by_cases h2 : 127 < n
  · have e : decide (-128 ≤ n ∧ n ≤ 127) = false := by simp; omega
    rw [e]
    have g1 : (n == 0) = false := by simp; omega
    have g2 : (n == 1) = false := by simp; omega
    refine ⟨fun w => ?_, fun w => ?_⟩
    · go_enter Tryd.func21, Tryd.ntmps21
      go_wp2
      go_ret
      first | exact ⟨rfl, rfl⟩ | (refine ⟨bool_result ?_, rfl⟩; simp; omega)
    · go_enter Tryd.func22, Tryd.ntmps22
      go_wp2
      go_ret
      first | exact ⟨rfl, rfl⟩ | (refine ⟨bool_result ?_, rfl⟩; simp; omega)
  have e : decide (-128 ≤ n ∧ n ≤ 127) = true := by simp; omega
  rw [e]
  refine ⟨fun w => ?_, fun w => ?_⟩
  · go_enter Tryd.func21, Tryd.ntmps21
    go_wp2
    go_ret
    first | exact ⟨rfl, rfl⟩ | (refine ⟨bool_result ?_, rfl⟩; simp; omega)
  · go_enter Tryd.func22, Tryd.ntmps22
    go_wp2
    go_ret
    first | exact ⟨rfl, rfl⟩ | (refine ⟨bool_result ?_, rfl⟩; simp; omega)

set_option maxHeartbeats 1000000 in
theorem fits_4 (n : Int) (n0 : -9223372036854775808 ≤ n) (n1 : n < 9223372036854775808) : BothFits 4 n (decide (-128 ≤ n ∧ n ≤ 127)) := by
  by_cases h1 : n < -128
  · have e : decide (-128 ≤ n ∧ n ≤ 127) = false := by simp; omega
    rw [e]
    have g1 : (n == 0) = false := by simp; omega
    have g2 : (n == 1) = false := by simp; omega
    refine ⟨fun w => ?_, fun w => ?_⟩
    · go_enter Tryd.func21, Tryd.ntmps21
      go_wp2
      go_ret
      first | exact ⟨rfl, rfl⟩ | (refine ⟨bool_result ?_, rfl⟩; simp; omega)
    · go_enter Tryd.func22, Tryd.ntmps22
      go_wp2
      go_ret
      first | exact ⟨rfl, rfl⟩ | (refine ⟨bool_result ?_, rfl⟩; simp; omega)
  by_cases h2 : 127 < n
  · have e : decide (-128 ≤ n ∧ n ≤ 127) = false := by simp; omega
    rw [e]
    have g1 : (n == 0) = false := by simp; omega
    have g2 : (n == 1) = false := by simp; omega
    refine ⟨fun w => ?_, fun w => ?_⟩
    · go_enter Tryd.func21, Tryd.ntmps21
      go_wp2
      go_ret
      first | exact ⟨rfl, rfl⟩ | (refine ⟨bool_result ?_, rfl⟩; simp; omega)
    · go_enter Tryd.func22, Tryd.ntmps22
      go_wp2
      go_ret
      first | exact ⟨rfl, rfl⟩ | (refine ⟨bool_result ?_, rfl⟩; simp; omega)
  have e : decide (-128 ≤ n ∧ n ≤ 127) = true := by simp; omega
  rw [e]
  refine ⟨fun w => ?_, fun w => ?_⟩
  · go_enter Tryd.func21, Tryd.ntmps21
    go_wp2
    go_ret
    first | exact ⟨rfl, rfl⟩ | (refine ⟨bool_result ?_, rfl⟩; simp; omega)
  · go_enter Tryd.func22, Tryd.ntmps22
    go_wp2
    go_ret
    first | exact ⟨rfl, rfl⟩ | (refine ⟨bool_result ?_, rfl⟩; simp; omega)

set_option maxHeartbeats 1000000 in
theorem fits_5 (n : Int) (n0 : -9223372036854775808 ≤ n) (n1 : n < 9223372036854775808) : BothFits 5 n (decide (0 ≤ n ∧ n ≤ 255)) := by
  by_cases h1 : n < 0
  · have e : decide (0 ≤ n ∧ n ≤ 255) = false := by simp; omega
    rw [e]
    have g1 : (n == 0) = false := by simp; omega
    have g2 : (n == 1) = false := by simp; omega
    refine ⟨fun w => ?_, fun w => ?_⟩
    · go_enter Tryd.func21, Tryd.ntmps21
      go_wp2
      go_ret
      first | exact ⟨rfl, rfl⟩ | (refine ⟨bool_result ?_, rfl⟩; simp; omega)
    · go_enter Tryd.func22, Tryd.ntmps22
      go_wp2
      go_ret
      first | exact ⟨rfl, rfl⟩ | (refine ⟨bool_result ?_, rfl⟩; simp; omega)
  by_cases h2 : 255 < n
  · have e : decide (0 ≤ n ∧ n ≤ 255) = false := by simp; omega
    rw [e]
    have g1 : (n == 0) = false := by simp; omega
    have g2 : (n == 1) = false := by simp; omega
    refine ⟨fun w => ?_, fun w => ?_⟩
    · go_enter Tryd.func21, Tryd.ntmps21
      go_wp2
      go_ret
      first | exact ⟨rfl, rfl⟩ | (refine ⟨bool_result ?_, rfl⟩; simp; omega)
    · go_enter Tryd.func22, Tryd.ntmps22
      go_wp2
      go_ret
      first | exact ⟨rfl, rfl⟩ | (refine ⟨bool_result ?_, rfl⟩; simp; omega)
  have e : decide (0 ≤ n ∧ n ≤ 255) = true := by simp; omega
  rw [e]
  refine ⟨fun w => ?_, fun w => ?_⟩
  · go_enter Tryd.func21, Tryd.ntmps21
    go_wp2
    go_ret
    first | exact ⟨rfl, rfl⟩ | (refine ⟨bool_result ?_, rfl⟩; simp; omega)
  · go_enter Tryd.func22, Tryd.ntmps22
    go_wp2
    go_ret
    first | exact ⟨rfl, rfl⟩ | (refine ⟨bool_result ?_, rfl⟩; simp; omega)

set_option maxHeartbeats 1000000 in
theorem fits_6 (n : Int) (n0 : -9223372036854775808 ≤ n) (n1 : n < 9223372036854775808) : BothFits 6 n (decide (-32768 ≤ n ∧ n ≤ 32767)) := by
  by_cases h1 : n < -32768
  · have e : decide (-32768 ≤ n ∧ n ≤ 32767) = false := by simp; omega
    rw [e]
    have g1 : (n == 0) = false := by simp; omega
    have g2 : (n == 1) = false := by simp; omega
    refine ⟨fun w => ?_, fun w => ?_⟩
    · go_enter Tryd.func21, Tryd.ntmps21
      go_wp2
      go_ret
      first | exact ⟨rfl, rfl⟩ | (refine ⟨bool_result ?_, rfl⟩; simp; omega)
    · go_enter Tryd.func22, Tryd.ntmps22
      go_wp2
      go_ret
      first | exact ⟨rfl, rfl⟩ | (refine ⟨bool_result ?_, rfl⟩; simp; omega)
  by_cases h2 : 32767 < n
  · have e : decide (-32768 ≤ n ∧ n ≤ 32767) = false := by simp; omega
    rw [e]
    have g1 : (n == 0) = false := by simp; omega
    have g2 : (n == 1) = false := by simp; omega
    refine ⟨fun w => ?_, fun w => ?_⟩
    · go_enter Tryd.func21, Tryd.ntmps21
      go_wp2
      go_ret
      first | exact ⟨rfl, rfl⟩ | (refine ⟨bool_result ?_, rfl⟩; simp; omega)
    · go_enter Tryd.func22, Tryd.ntmps22
      go_wp2
      go_ret
      first | exact ⟨rfl, rfl⟩ | (refine ⟨bool_result ?_, rfl⟩; simp; omega)
  have e : decide (-32768 ≤ n ∧ n ≤ 32767) = true := by simp; omega
  rw [e]
  refine ⟨fun w => ?_, fun w => ?_⟩
  · go_enter Tryd.func21, Tryd.ntmps21
    go_wp2
    go_ret
    first | exact ⟨rfl, rfl⟩ | (refine ⟨bool_result ?_, rfl⟩; simp; omega)
  · go_enter Tryd.func22, Tryd.ntmps22
    go_wp2
    go_ret
    first | exact ⟨rfl, rfl⟩ | (refine ⟨bool_result ?_, rfl⟩; simp; omega)

set_option maxHeartbeats 1000000 in
theorem fits_7 (n : Int) (n0 : -9223372036854775808 ≤ n) (n1 : n < 9223372036854775808) : BothFits 7 n (decide (0 ≤ n ∧ n ≤ 65535)) := by
  by_cases h1 : n < 0
  · have e : decide (0 ≤ n ∧ n ≤ 65535) = false := by simp; omega
    rw [e]
    have g1 : (n == 0) = false := by simp; omega
    have g2 : (n == 1) = false := by simp; omega
    refine ⟨fun w => ?_, fun w => ?_⟩
    · go_enter Tryd.func21, Tryd.ntmps21
      go_wp2
      go_ret
      first | exact ⟨rfl, rfl⟩ | (refine ⟨bool_result ?_, rfl⟩; simp; omega)
    · go_enter Tryd.func22, Tryd.ntmps22
      go_wp2
      go_ret
      first | exact ⟨rfl, rfl⟩ | (refine ⟨bool_result ?_, rfl⟩; simp; omega)
  by_cases h2 : 65535 < n
  · have e : decide (0 ≤ n ∧ n ≤ 65535) = false := by simp; omega
    rw [e]
    have g1 : (n == 0) = false := by simp; omega
    have g2 : (n == 1) = false := by simp; omega
    refine ⟨fun w => ?_, fun w => ?_⟩
    · go_enter Tryd.func21, Tryd.ntmps21
      go_wp2
      go_ret
      first | exact ⟨rfl, rfl⟩ | (refine ⟨bool_result ?_, rfl⟩; simp; omega)
    · go_enter Tryd.func22, Tryd.ntmps22
      go_wp2
      go_ret
      first | exact ⟨rfl, rfl⟩ | (refine ⟨bool_result ?_, rfl⟩; simp; omega)
  have e : decide (0 ≤ n ∧ n ≤ 65535) = true := by simp; omega
  rw [e]
  refine ⟨fun w => ?_, fun w => ?_⟩
  · go_enter Tryd.func21, Tryd.ntmps21
    go_wp2
    go_ret
    first | exact ⟨rfl, rfl⟩ | (refine ⟨bool_result ?_, rfl⟩; simp; omega)
  · go_enter Tryd.func22, Tryd.ntmps22
    go_wp2
    go_ret
    first | exact ⟨rfl, rfl⟩ | (refine ⟨bool_result ?_, rfl⟩; simp; omega)

set_option maxHeartbeats 1000000 in
theorem fits_8 (n : Int) (n0 : -9223372036854775808 ≤ n) (n1 : n < 9223372036854775808) : BothFits 8 n (decide (-2147483648 ≤ n ∧ n ≤ 2147483647)) := by
  by_cases h1 : n < -2147483648
  · have e : decide (-2147483648 ≤ n ∧ n ≤ 2147483647) = false := by simp; omega
    rw [e]
    have g1 : (n == 0) = false := by simp; omega
    have g2 : (n == 1) = false := by simp; omega
    refine ⟨fun w => ?_, fun w => ?_⟩
    · go_enter Tryd.func21, Tryd.ntmps21
      go_wp2
      go_ret
      first | exact ⟨rfl, rfl⟩ | (refine ⟨bool_result ?_, rfl⟩; simp; omega)
    · go_enter Tryd.func22, Tryd.ntmps22
      go_wp2
      go_ret
      first | exact ⟨rfl, rfl⟩ | (refine ⟨bool_result ?_, rfl⟩; simp; omega)
  by_cases h2 : 2147483647 < n
  · have e : decide (-2147483648 ≤ n ∧ n ≤ 2147483647) = false := by simp; omega
    rw [e]
    have g1 : (n == 0) = false := by simp; omega
    have g2 : (n == 1) = false := by simp; omega
    refine ⟨fun w => ?_, fun w => ?_⟩
    · go_enter Tryd.func21, Tryd.ntmps21
      go_wp2
      go_ret
      first | exact ⟨rfl, rfl⟩ | (refine ⟨bool_result ?_, rfl⟩; simp; omega)
    · go_enter Tryd.func22, Tryd.ntmps22
      go_wp2
      go_ret
      first | exact ⟨rfl, rfl⟩ | (refine ⟨bool_result ?_, rfl⟩; simp; omega)
  have e : decide (-2147483648 ≤ n ∧ n ≤ 2147483647) = true := by simp; omega
  rw [e]
  refine ⟨fun w => ?_, fun w => ?_⟩
  · go_enter Tryd.func21, Tryd.ntmps21
    go_wp2
    go_ret
    first | exact ⟨rfl, rfl⟩ | (refine ⟨bool_result ?_, rfl⟩; simp; omega)
  · go_enter Tryd.func22, Tryd.ntmps22
    go_wp2
    go_ret
    first | exact ⟨rfl, rfl⟩ | (refine ⟨bool_result ?_, rfl⟩; simp; omega)

set_option maxHeartbeats 1000000 in
theorem fits_9 (n : Int) (n0 : -9223372036854775808 ≤ n) (n1 : n < 9223372036854775808) : BothFits 9 n (decide (0 ≤ n ∧ n ≤ 4294967295)) := by
  by_cases h1 : n < 0
  · have e : decide (0 ≤ n ∧ n ≤ 4294967295) = false := by simp; omega
    rw [e]
    have g1 : (n == 0) = false := by simp; omega
    have g2 : (n == 1) = false := by simp; omega
    refine ⟨fun w => ?_, fun w => ?_⟩
    · go_enter Tryd.func21, Tryd.ntmps21
      go_wp2
      go_ret
      first | exact ⟨rfl, rfl⟩ | (refine ⟨bool_result ?_, rfl⟩; simp; omega)
    · go_enter Tryd.func22, Tryd.ntmps22
      go_wp2
      go_ret
      first | exact ⟨rfl, rfl⟩ | (refine ⟨bool_result ?_, rfl⟩; simp; omega)
  by_cases h2 : 4294967295 < n
  · have e : decide (0 ≤ n ∧ n ≤ 4294967295) = false := by simp; omega
    rw [e]
    have g1 : (n == 0) = false := by simp; omega
    have g2 : (n == 1) = false := by simp; omega
    refine ⟨fun w => ?_, fun w => ?_⟩
    · go_enter Tryd.func21, Tryd.ntmps21
      go_wp2
      go_ret
      first | exact ⟨rfl, rfl⟩ | (refine ⟨bool_result ?_, rfl⟩; simp; omega)
    · go_enter Tryd.func22, Tryd.ntmps22
      go_wp2
      go_ret
      first | exact ⟨rfl, rfl⟩ | (refine ⟨bool_result ?_, rfl⟩; simp; omega)
  have e : decide (0 ≤ n ∧ n ≤ 4294967295) = true := by simp; omega
  rw [e]
  refine ⟨fun w => ?_, fun w => ?_⟩
  · go_enter Tryd.func21, Tryd.ntmps21
    go_wp2
    go_ret
    first | exact ⟨rfl, rfl⟩ | (refine ⟨bool_result ?_, rfl⟩; simp; omega)
  · go_enter Tryd.func22, Tryd.ntmps22
    go_wp2
    go_ret
    first | exact ⟨rfl, rfl⟩ | (refine ⟨bool_result ?_, rfl⟩; simp; omega)

set_option maxHeartbeats 1000000 in
theorem fits_10 (n : Int) (n0 : -9223372036854775808 ≤ n) (n1 : n < 9223372036854775808) : BothFits 10 n (decide (-2147483648 ≤ n ∧ n ≤ 2147483647)) := by
  by_cases h1 : n < -2147483648
  · have e : decide (-2147483648 ≤ n ∧ n ≤ 2147483647) = false := by simp; omega
    rw [e]
    have g1 : (n == 0) = false := by simp; omega
    have g2 : (n == 1) = false := by simp; omega
    refine ⟨fun w => ?_, fun w => ?_⟩
    · go_enter Tryd.func21, Tryd.ntmps21
      go_wp2
      go_ret
      first | exact ⟨rfl, rfl⟩ | (refine ⟨bool_result ?_, rfl⟩; simp; omega)
    · go_enter Tryd.func22, Tryd.ntmps22
      go_wp2
      go_ret
      first | exact ⟨rfl, rfl⟩ | (refine ⟨bool_result ?_, rfl⟩; simp; omega)
  by_cases h2 : 2147483647 < n
  · have e : decide (-2147483648 ≤ n ∧ n ≤ 2147483647) = false := by simp; omega
    rw [e]
    have g1 : (n == 0) = false := by simp; omega
    have g2 : (n == 1) = false := by simp; omega
    refine ⟨fun w => ?_, fun w => ?_⟩
    · go_enter Tryd.func21, Tryd.ntmps21
      go_wp2
      go_ret
      first | exact ⟨rfl, rfl⟩ | (refine ⟨bool_result ?_, rfl⟩; simp; omega)
    · go_enter Tryd.func22, Tryd.ntmps22
      go_wp2
      go_ret
      first | exact ⟨rfl, rfl⟩ | (refine ⟨bool_result ?_, rfl⟩; simp; omega)
  have e : decide (-2147483648 ≤ n ∧ n ≤ 2147483647) = true := by simp; omega
  rw [e]
  refine ⟨fun w => ?_, fun w => ?_⟩
  · go_enter Tryd.func21, Tryd.ntmps21
    go_wp2
    go_ret
    first | exact ⟨rfl, rfl⟩ | (refine ⟨bool_result ?_, rfl⟩; simp; omega)
  · go_enter Tryd.func22, Tryd.ntmps22
    go_wp2
    go_ret
    first | exact ⟨rfl, rfl⟩ | (refine ⟨bool_result ?_, rfl⟩; simp; omega)

set_option maxHeartbeats 1000000 in
theorem fits_11 (n : Int) (n0 : -9223372036854775808 ≤ n) (n1 : n < 9223372036854775808) : BothFits 11 n (decide (0 ≤ n ∧ n ≤ 4294967295)) := by
  by_cases h1 : n < 0
  · have e : decide (0 ≤ n ∧ n ≤ 4294967295) = false := by simp; omega
    rw [e]
    have g1 : (n == 0) = false := by simp; omega
    have g2 : (n == 1) = false := by simp; omega
    refine ⟨fun w => ?_, fun w => ?_⟩
    · go_enter Tryd.func21, Tryd.ntmps21
      go_wp2
      go_ret
      first | exact ⟨rfl, rfl⟩ | (refine ⟨bool_result ?_, rfl⟩; simp; omega)
    · go_enter Tryd.func22, Tryd.ntmps22
      go_wp2
      go_ret
      first | exact ⟨rfl, rfl⟩ | (refine ⟨bool_result ?_, rfl⟩; simp; omega)
  by_cases h2 : 4294967295 < n
  · have e : decide (0 ≤ n ∧ n ≤ 4294967295) = false := by simp; omega
    rw [e]
    have g1 : (n == 0) = false := by simp; omega
    have g2 : (n == 1) = false := by simp; omega
    refine ⟨fun w => ?_, fun w => ?_⟩
    · go_enter Tryd.func21, Tryd.ntmps21
      go_wp2
      go_ret
      first | exact ⟨rfl, rfl⟩ | (refine ⟨bool_result ?_, rfl⟩; simp; omega)
    · go_enter Tryd.func22, Tryd.ntmps22
      go_wp2
      go_ret
      first | exact ⟨rfl, rfl⟩ | (refine ⟨bool_result ?_, rfl⟩; simp; omega)
  have e : decide (0 ≤ n ∧ n ≤ 4294967295) = true := by simp; omega
  rw [e]
  refine ⟨fun w => ?_, fun w => ?_⟩
  · go_enter Tryd.func21, Tryd.ntmps21
    go_wp2
    go_ret
    first | exact ⟨rfl, rfl⟩ | (refine ⟨bool_result ?_, rfl⟩; simp; omega)
  · go_enter Tryd.func22, Tryd.ntmps22
    go_wp2
    go_ret
    first | exact ⟨rfl, rfl⟩ | (refine ⟨bool_result ?_, rfl⟩; simp; omega)

set_option maxHeartbeats 1000000 in
theorem fits_12 (n : Int) (n0 : -9223372036854775808 ≤ n) (n1 : n < 9223372036854775808) : BothFits 12 n (decide (-2147483648 ≤ n ∧ n ≤ 2147483647)) := by
  by_cases h1 : n < -2147483648
  · have e : decide (-2147483648 ≤ n ∧ n ≤ 2147483647) = false := by simp; omega
    rw [e]
    have g1 : (n == 0) = false := by simp; omega
    have g2 : (n == 1) = false := by simp; omega
    refine ⟨fun w => ?_, fun w => ?_⟩
    · go_enter Tryd.func21, Tryd.ntmps21
      go_wp2
      go_ret
      first | exact ⟨rfl, rfl⟩ | (refine ⟨bool_result ?_, rfl⟩; simp; omega)
    · go_enter Tryd.func22, Tryd.ntmps22
      go_wp2
      go_ret
      first | exact ⟨rfl, rfl⟩ | (refine ⟨bool_result ?_, rfl⟩; simp; omega)
  by_cases h2 : 2147483647 < n
  · have e : decide (-2147483648 ≤ n ∧ n ≤ 2147483647) = false := by simp; omega
    rw [e]
    have g1 : (n == 0) = false := by simp; omega
    have g2 : (n == 1) = false := by simp; omega
    refine ⟨fun w => ?_, fun w => ?_⟩
    · go_enter Tryd.func21, Tryd.ntmps21
      go_wp2
      go_ret
      first | exact ⟨rfl, rfl⟩ | (refine ⟨bool_result ?_, rfl⟩; simp; omega)
    · go_enter Tryd.func22, Tryd.ntmps22
      go_wp2
      go_ret
      first | exact ⟨rfl, rfl⟩ | (refine ⟨bool_result ?_, rfl⟩; simp; omega)
  have e : decide (-2147483648 ≤ n ∧ n ≤ 2147483647) = true := by simp; omega
  rw [e]
  refine ⟨fun w => ?_, fun w => ?_⟩
  · go_enter Tryd.func21, Tryd.ntmps21
    go_wp2
    go_ret
    first | exact ⟨rfl, rfl⟩ | (refine ⟨bool_result ?_, rfl⟩; simp; omega)
  · go_enter Tryd.func22, Tryd.ntmps22
    go_wp2
    go_ret
    first | exact ⟨rfl, rfl⟩ | (refine ⟨bool_result ?_, rfl⟩; simp; omega)

set_option maxHeartbeats 1000000 in
theorem fits_13 (n : Int) (n0 : -9223372036854775808 ≤ n) (n1 : n < 9223372036854775808) : BothFits 13 n (decide (0 ≤ n ∧ n ≤ 4294967295)) := by
  by_cases h1 : n < 0
  · have e : decide (0 ≤ n ∧ n ≤ 4294967295) = false := by simp; omega
    rw [e]
    have g1 : (n == 0) = false := by simp; omega
    have g2 : (n == 1) = false := by simp; omega
    refine ⟨fun w => ?_, fun w => ?_⟩
    · go_enter Tryd.func21, Tryd.ntmps21
      go_wp2
      go_ret
      first | exact ⟨rfl, rfl⟩ | (refine ⟨bool_result ?_, rfl⟩; simp; omega)
    · go_enter Tryd.func22, Tryd.ntmps22
      go_wp2
      go_ret
      first | exact ⟨rfl, rfl⟩ | (refine ⟨bool_result ?_, rfl⟩; simp; omega)
  by_cases h2 : 4294967295 < n
  · have e : decide (0 ≤ n ∧ n ≤ 4294967295) = false := by simp; omega
    rw [e]
    have g1 : (n == 0) = false := by simp; omega
    have g2 : (n == 1) = false := by simp; omega
    refine ⟨fun w => ?_, fun w => ?_⟩
    · go_enter Tryd.func21, Tryd.ntmps21
      go_wp2
      go_ret
      first | exact ⟨rfl, rfl⟩ | (refine ⟨bool_result ?_, rfl⟩; simp; omega)
    · go_enter Tryd.func22, Tryd.ntmps22
      go_wp2
      go_ret
      first | exact ⟨rfl, rfl⟩ | (refine ⟨bool_result ?_, rfl⟩; simp; omega)
  have e : decide (0 ≤ n ∧ n ≤ 4294967295) = true := by simp; omega
  rw [e]
  refine ⟨fun w => ?_, fun w => ?_⟩
  · go_enter Tryd.func21, Tryd.ntmps21
    go_wp2
    go_ret
    first | exact ⟨rfl, rfl⟩ | (refine ⟨bool_result ?_, rfl⟩; simp; omega)
  · go_enter Tryd.func22, Tryd.ntmps22
    go_wp2
    go_ret
    first | exact ⟨rfl, rfl⟩ | (refine ⟨bool_result ?_, rfl⟩; simp; omega)

set_option maxRecDepth 100000 in
set_option maxHeartbeats 1000000 in
theorem fits_no (k n : Int) (h : k < 2 ∨ 13 < k) : BothFits k n false := by
  obtain ⟨a0, b0, c0, d0⟩ := wide_no k (no_kind k 2 h (by decide) (by decide)) (no_kind k 3 h (by decide) (by decide)) (no_kind k 4 h (by decide) (by decide)) (no_kind k 5 h (by decide) (by decide)) (no_kind k 6 h (by decide) (by decide)) (no_kind k 7 h (by decide) (by decide)) (no_kind k 8 h (by decide) (by decide)) (no_kind k 9 h (by decide) (by decide)) (no_kind k 10 h (by decide) (by decide)) (no_kind k 11 h (by decide) (by decide)) (no_kind k 12 h (by decide) (by decide)) (no_kind k 13 h (by decide) (by decide))
  have A : Hid _ := a0; have B : Hid _ := b0
  clear a0 b0 c0 d0 h
  refine ⟨fun w => ?_, fun w => ?_⟩
  · by_cases hn : n < 0
    all_goals
      go_enter Tryd.func21, Tryd.ntmps21
      go_wp2_with (first | (go_at_call 12; refine (A.out _).mono ?_; rintro e w' ⟨rfl, rfl⟩) | go_in)
      go_ret
      first | exact ⟨rfl, rfl⟩ | (refine ⟨bool_result ?_, rfl⟩; simp; omega)
  · go_enter Tryd.func22, Tryd.ntmps22
    go_wp2_with (first | (go_at_call 13; refine (B.out _).mono ?_; rintro e w' ⟨rfl, rfl⟩) | go_in)
    go_ret
    exact ⟨rfl, rfl⟩
/-- Whether a number fits a kind. -/
def fits (k n : Int) : Bool :=
  if k = 2 then decide (0 ≤ n ∧ n ≤ 1) else if k = 3 ∨ k = 4 then decide (-128 ≤ n ∧ n ≤ 127) else if k = 5 then decide (0 ≤ n ∧ n ≤ 255) else
  if k = 6 then decide (-32768 ≤ n ∧ n ≤ 32767) else if k = 7 then decide (0 ≤ n ∧ n ≤ 65535) else
  if k = 8 ∨ k = 10 ∨ k = 12 then decide (-2147483648 ≤ n ∧ n ≤ 2147483647) else if k = 9 ∨ k = 11 ∨ k = 13 then decide (0 ≤ n ∧ n ≤ 4294967295) else false
theorem fits_any (k n : Int) (n0 : -9223372036854775808 ≤ n) (n1 : n < 9223372036854775808) : BothFits k n (fits k n) := by
  by_cases h : k < 2 ∨ 13 < k
  · have e : fits k n = false := by
      unfold fits
      rw [if_neg (by omega), if_neg (by omega), if_neg (by omega), if_neg (by omega), if_neg (by omega), if_neg (by omega), if_neg (by omega)]
    rw [e]
    exact fits_no k n h
  · have hk : k = 2 ∨ k = 3 ∨ k = 4 ∨ k = 5 ∨ k = 6 ∨ k = 7 ∨ k = 8 ∨ k = 9 ∨ k = 10 ∨ k = 11 ∨ k = 12 ∨ k = 13 := by omega
    rcases hk with rfl | rfl | rfl | rfl | rfl | rfl | rfl | rfl | rfl | rfl | rfl | rfl
    · exact fits_2 n n0 n1
    · exact fits_3 n n0 n1
    · exact fits_4 n n0 n1
    · exact fits_5 n n0 n1
    · exact fits_6 n n0 n1
    · exact fits_7 n n0 n1
    · exact fits_8 n n0 n1
    · exact fits_9 n n0 n1
    · exact fits_10 n n0 n1
    · exact fits_11 n n0 n1
    · exact fits_12 n n0 n1
    · exact fits_13 n n0 n1
end Go.Proofs.YtkejmenidciigaaDoor
