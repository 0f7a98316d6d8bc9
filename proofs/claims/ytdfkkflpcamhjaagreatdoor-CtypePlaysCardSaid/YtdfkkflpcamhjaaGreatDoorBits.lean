/-
  isBits: how many bits a bit-field may have.
-/
import Derived.Test.YtdfkkflpcamhjaaGreatDoorKinds
namespace Go.Proofs.YtdfkkflpcamhjaaGreatDoor
open Go.RowKit Go.Maps
set_option linter.unusedVariables false
set_option maxRecDepth 100000

def widthP (k : Int) : Int := if 2 ≤ k ∧ k ≤ 5 then 1 else if k = 6 ∨ k = 7 then 2 else if 8 ≤ k ∧ k ≤ 13 then 4 else 0
def widestP (k : Int) : Int := if k = 2 then 1 else 8 * widthP k
def bitsP (k n : Int) : Bool := n == -1 || (intK k && decide (0 ≤ n) && decide (n ≤ widestP k))
theorem int_ret {x y : Int} (h : x = y) : Ending.returned (.int .i64 x) = .returned (.int .i64 y) := by rw [h]

theorem width_c (k : Int) (w : World) : Calls Tryz.prog 92 #[.int .i64 k] w fun e w' => e = .returned (.int .i64 (widthP k)) ∧ w' = w := by
  by_cases h : 2 ≤ k ∧ k ≤ 13
  · obtain rfl | rfl | rfl | rfl | rfl | rfl | rfl | rfl | rfl | rfl | rfl | rfl : k = 2 ∨ k = 3 ∨ k = 4 ∨ k = 5 ∨ k = 6 ∨ k = 7 ∨ k = 8 ∨ k = 9 ∨ k = 10 ∨ k = 11 ∨ k = 12 ∨ k = 13 := by omega
    all_goals go_enter Tryz.func92, Tryz.ntmps92
    all_goals go_wp2
    all_goals go_ret
    all_goals exact ⟨by simp [widthP], rfl⟩
  · have b2 : (k == 2) = false := by simp; omega
    have b3 : (k == 3) = false := by simp; omega
    have b4 : (k == 4) = false := by simp; omega
    have b5 : (k == 5) = false := by simp; omega
    have b6 : (k == 6) = false := by simp; omega
    have b7 : (k == 7) = false := by simp; omega
    have b8 : (k == 8) = false := by simp; omega
    have b9 : (k == 9) = false := by simp; omega
    have b10 : (k == 10) = false := by simp; omega
    have b11 : (k == 11) = false := by simp; omega
    have b12 : (k == 12) = false := by simp; omega
    have b13 : (k == 13) = false := by simp; omega
    go_enter Tryz.func92, Tryz.ntmps92
    go_wp2
    go_ret
    exact ⟨int_ret (by unfold widthP; repeat' split
                       all_goals omega), rfl⟩

theorem widthP_le (k : Int) : 0 ≤ widthP k ∧ widthP k ≤ 4 := by
  unfold widthP; repeat' split
  all_goals omega

theorem widest_c (k : Int) (w : World) : Calls Tryz.prog 87 #[.int .i64 k] w fun e w' => e = .returned (.int .i64 (widestP k)) ∧ w' = w := by
  have c := width_c k w
  have hle := widthP_le k
  by_cases h2 : k = 2
  · subst h2
    clear c
    go_enter Tryz.func87, Tryz.ntmps87
    go_wp2
    go_ret
    exact ⟨by simp [widestP], rfl⟩
  · have b2 : (k == 2) = false := by simpa using h2
    have hw : widestP k = 8 * widthP k := by simp [widestP, h2]
    rw [hw]
    generalize widthP k = x at *
    obtain ⟨hx0, hx4⟩ := hle
    go_enter Tryz.func87, Tryz.ntmps87
    go_wp2_with (go_at_call 92; refine c.mono ?_; rintro e w' ⟨rfl, rfl⟩)
    go_ret
    exact ⟨rfl, rfl⟩

set_option maxHeartbeats 1000000 in
theorem isBits_c (k n : Int) (w : World) : Calls Tryz.prog 79 #[.int .i64 k, .int .i64 n] w fun e w' => e = .returned (.bool (bitsP k n)) ∧ w' = w := by
  have c1 := isInteger_c k w
  have c2 := widest_c k w
  unfold bitsP
  generalize widestP k = x at *
  rcases hI : intK k with _ | _ <;> rw [hI] at c1
  all_goals go_enter Tryz.func79, Tryz.ntmps79
  all_goals go_wp2_with (first | (go_at_call 69; refine c1.mono ?_; rintro e w' ⟨rfl, rfl⟩) | (go_at_call 87; refine c2.mono ?_; rintro e w' ⟨rfl, rfl⟩))
  all_goals go_ret
  all_goals refine ⟨bool_ret ?_, rfl⟩
  all_goals (rw [Bool.eq_iff_iff]; simp <;> omega)
end Go.Proofs.YtdfkkflpcamhjaaGreatDoor
