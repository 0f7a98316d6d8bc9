/-
  What the program's functions Width, Signed and Convert of package word, kindBits, mostBits, Value, lies and Touched of package field answer at every kind, place and number.
-/
import Derived.Test.YtmdgnjadfdnibaaFdU
import Derived.Deep.QuietTactic
import Derived.BigQuiet
import Derived.Below
namespace Go.Proofs.Ytmdgnjadfdnibaa
open Go.RowKit
set_option linter.unusedVariables false
theorem one_i64 {x y : Int} (h : x = y) : Ending.returned (.int .i64 x) = .returned (.int .i64 y) := by rw [h]
/-- The width in bytes and the sign of an integer's kind (0 and false of every other). -/
def widthOf (k : Int) : Nat := if 2 ≤ k ∧ k ≤ 5 then 1 else if 6 ≤ k ∧ k ≤ 7 then 2 else if 8 ≤ k ∧ k ≤ 12 then 4 else 0
def signOf (k : Int) : Bool := decide (k = 3 ∨ k = 4 ∨ k = 6 ∨ k = 8 ∨ k = 10 ∨ k = 12)
def Whole (k : Int) : Prop := 2 ≤ k ∧ k ≤ 12
theorem whole_cases {k : Int} (h : Whole k) : k = 2 ∨ k = 3 ∨ k = 4 ∨ k = 5 ∨ k = 6 ∨ k = 7 ∨ k = 8 ∨ k = 9 ∨ k = 10 ∨ k = 11 ∨ k = 12 := by
  unfold Whole at h; omega
set_option maxHeartbeats 400000 in
theorem width_2 (w : World) : Calls Try.prog 41 #[.int .i64 2] w fun e w' => e = .returned (.int .i64 1) ∧ w' = w := by
  go_enter Try.func41, Try.ntmps41
  go_wp2
  go_ret
  exact ⟨rfl, rfl⟩
set_option maxHeartbeats 400000 in
theorem signed_2 (w : World) : Calls Try.prog 33 #[.int .i64 2] w fun e w' => e = .returned (.bool false) ∧ w' = w := by
  go_enter Try.func33, Try.ntmps33
  go_wp2
  go_ret
  exact ⟨rfl, rfl⟩
set_option maxHeartbeats 400000 in
theorem width_3 (w : World) : Calls Try.prog 41 #[.int .i64 3] w fun e w' => e = .returned (.int .i64 1) ∧ w' = w := by
  go_enter Try.func41, Try.ntmps41
  go_wp2
  go_ret
  exact ⟨rfl, rfl⟩
set_option maxHeartbeats 400000 in
theorem signed_3 (w : World) : Calls Try.prog 33 #[.int .i64 3] w fun e w' => e = .returned (.bool true) ∧ w' = w := by
  go_enter Try.func33, Try.ntmps33
  go_wp2
  go_ret
  exact ⟨rfl, rfl⟩
set_option maxHeartbeats 400000 in
theorem width_4 (w : World) : Calls Try.prog 41 #[.int .i64 4] w fun e w' => e = .returned (.int .i64 1) ∧ w' = w := by
  go_enter Try.func41, Try.ntmps41
  go_wp2
  go_ret
  exact ⟨rfl, rfl⟩
set_option maxHeartbeats 400000 in
theorem signed_4 (w : World) : Calls Try.prog 33 #[.int .i64 4] w fun e w' => e = .returned (.bool true) ∧ w' = w := by
  go_enter Try.func33, Try.ntmps33
  go_wp2
  go_ret
  exact ⟨rfl, rfl⟩
set_option maxHeartbeats 400000 in
theorem width_5 (w : World) : Calls Try.prog 41 #[.int .i64 5] w fun e w' => e = .returned (.int .i64 1) ∧ w' = w := by
  go_enter Try.func41, Try.ntmps41
  go_wp2
  go_ret
  exact ⟨rfl, rfl⟩
set_option maxHeartbeats 400000 in
theorem signed_5 (w : World) : Calls Try.prog 33 #[.int .i64 5] w fun e w' => e = .returned (.bool false) ∧ w' = w := by
  go_enter Try.func33, Try.ntmps33
  go_wp2
  go_ret
  exact ⟨rfl, rfl⟩
set_option maxHeartbeats 400000 in
theorem width_6 (w : World) : Calls Try.prog 41 #[.int .i64 6] w fun e w' => e = .returned (.int .i64 2) ∧ w' = w := by
  go_enter Try.func41, Try.ntmps41
  go_wp2
  go_ret
  exact ⟨rfl, rfl⟩
set_option maxHeartbeats 400000 in
theorem signed_6 (w : World) : Calls Try.prog 33 #[.int .i64 6] w fun e w' => e = .returned (.bool true) ∧ w' = w := by
  go_enter Try.func33, Try.ntmps33
  go_wp2
  go_ret
  exact ⟨rfl, rfl⟩
set_option maxHeartbeats 400000 in
theorem width_7 (w : World) : Calls Try.prog 41 #[.int .i64 7] w fun e w' => e = .returned (.int .i64 2) ∧ w' = w := by
  go_enter Try.func41, Try.ntmps41
  go_wp2
  go_ret
  exact ⟨rfl, rfl⟩
set_option maxHeartbeats 400000 in
theorem signed_7 (w : World) : Calls Try.prog 33 #[.int .i64 7] w fun e w' => e = .returned (.bool false) ∧ w' = w := by
  go_enter Try.func33, Try.ntmps33
  go_wp2
  go_ret
  exact ⟨rfl, rfl⟩
set_option maxHeartbeats 400000 in
theorem width_8 (w : World) : Calls Try.prog 41 #[.int .i64 8] w fun e w' => e = .returned (.int .i64 4) ∧ w' = w := by
  go_enter Try.func41, Try.ntmps41
  go_wp2
  go_ret
  exact ⟨rfl, rfl⟩
set_option maxHeartbeats 400000 in
theorem signed_8 (w : World) : Calls Try.prog 33 #[.int .i64 8] w fun e w' => e = .returned (.bool true) ∧ w' = w := by
  go_enter Try.func33, Try.ntmps33
  go_wp2
  go_ret
  exact ⟨rfl, rfl⟩
set_option maxHeartbeats 400000 in
theorem width_9 (w : World) : Calls Try.prog 41 #[.int .i64 9] w fun e w' => e = .returned (.int .i64 4) ∧ w' = w := by
  go_enter Try.func41, Try.ntmps41
  go_wp2
  go_ret
  exact ⟨rfl, rfl⟩
set_option maxHeartbeats 400000 in
theorem signed_9 (w : World) : Calls Try.prog 33 #[.int .i64 9] w fun e w' => e = .returned (.bool false) ∧ w' = w := by
  go_enter Try.func33, Try.ntmps33
  go_wp2
  go_ret
  exact ⟨rfl, rfl⟩
set_option maxHeartbeats 400000 in
theorem width_10 (w : World) : Calls Try.prog 41 #[.int .i64 10] w fun e w' => e = .returned (.int .i64 4) ∧ w' = w := by
  go_enter Try.func41, Try.ntmps41
  go_wp2
  go_ret
  exact ⟨rfl, rfl⟩
set_option maxHeartbeats 400000 in
theorem signed_10 (w : World) : Calls Try.prog 33 #[.int .i64 10] w fun e w' => e = .returned (.bool true) ∧ w' = w := by
  go_enter Try.func33, Try.ntmps33
  go_wp2
  go_ret
  exact ⟨rfl, rfl⟩
set_option maxHeartbeats 400000 in
theorem width_11 (w : World) : Calls Try.prog 41 #[.int .i64 11] w fun e w' => e = .returned (.int .i64 4) ∧ w' = w := by
  go_enter Try.func41, Try.ntmps41
  go_wp2
  go_ret
  exact ⟨rfl, rfl⟩
set_option maxHeartbeats 400000 in
theorem signed_11 (w : World) : Calls Try.prog 33 #[.int .i64 11] w fun e w' => e = .returned (.bool false) ∧ w' = w := by
  go_enter Try.func33, Try.ntmps33
  go_wp2
  go_ret
  exact ⟨rfl, rfl⟩
set_option maxHeartbeats 400000 in
theorem width_12 (w : World) : Calls Try.prog 41 #[.int .i64 12] w fun e w' => e = .returned (.int .i64 4) ∧ w' = w := by
  go_enter Try.func41, Try.ntmps41
  go_wp2
  go_ret
  exact ⟨rfl, rfl⟩
set_option maxHeartbeats 400000 in
theorem signed_12 (w : World) : Calls Try.prog 33 #[.int .i64 12] w fun e w' => e = .returned (.bool true) ∧ w' = w := by
  go_enter Try.func33, Try.ntmps33
  go_wp2
  go_ret
  exact ⟨rfl, rfl⟩
theorem width_c (k : Int) (w : World) (h : Whole k) : Calls Try.prog 41 #[.int .i64 k] w fun e w' => e = .returned (.int .i64 (widthOf k)) ∧ w' = w := by
  rcases whole_cases h with rfl | rfl | rfl | rfl | rfl | rfl | rfl | rfl | rfl | rfl | rfl
  · exact width_2 w
  · exact width_3 w
  · exact width_4 w
  · exact width_5 w
  · exact width_6 w
  · exact width_7 w
  · exact width_8 w
  · exact width_9 w
  · exact width_10 w
  · exact width_11 w
  · exact width_12 w
theorem signed_c (k : Int) (w : World) (h : Whole k) : Calls Try.prog 33 #[.int .i64 k] w fun e w' => e = .returned (.bool (signOf k)) ∧ w' = w := by
  rcases whole_cases h with rfl | rfl | rfl | rfl | rfl | rfl | rfl | rfl | rfl | rfl | rfl
  · exact signed_2 w
  · exact signed_3 w
  · exact signed_4 w
  · exact signed_5 w
  · exact signed_6 w
  · exact signed_7 w
  · exact signed_8 w
  · exact signed_9 w
  · exact signed_10 w
  · exact signed_11 w
  · exact signed_12 w
/-- A kind that is none of an integer has some width, and what comes of it does not matter. -/
theorem width_other (k : Int) (w : World) : Calls Try.prog 41 #[.int .i64 k] w fun e w' => (∃ x : Int, e = .returned (.int .i64 x) ∧ 0 ≤ x ∧ x ≤ 4) ∧ w' = w := by
  by_cases h : Whole k
  · refine (width_c k w h).mono ?_
    rintro e w' ⟨rfl, rfl⟩
    refine ⟨⟨_, rfl, by omega, ?_⟩, rfl⟩
    unfold widthOf
    split
    · decide
    · split
      · decide
      · split <;> decide
  · by_cases h13 : k = 13
    · subst h13
      go_enter Try.func41, Try.ntmps41
      go_wp2
      go_ret
      exact ⟨⟨_, rfl, by decide, by decide⟩, rfl⟩
    · have g : ∀ j : Int, 2 ≤ j → j ≤ 13 → (k == j) = false := by
        intro j h1 h2; unfold Whole at h; simp; omega
      have g2 := g 2 (by decide) (by decide); have g3 := g 3 (by decide) (by decide); have g4 := g 4 (by decide) (by decide); have g5 := g 5 (by decide) (by decide); have g6 := g 6 (by decide) (by decide); have g7 := g 7 (by decide) (by decide)
      have g8 := g 8 (by decide) (by decide); have g9 := g 9 (by decide) (by decide); have g10 := g 10 (by decide) (by decide); have g11 := g 11 (by decide) (by decide); have g12 := g 12 (by decide) (by decide); have g13 := g 13 (by decide) (by decide)
      clear g h h13
      go_enter Try.func41, Try.ntmps41
      go_wp2
      go_ret
      exact ⟨⟨_, rfl, by decide, by decide⟩, rfl⟩
/-- What a _Bool has. -/
def boolB (X : BitVec 32) : BitVec 32 := if X = 0 then 0 else 1
set_option maxHeartbeats 400000 in
theorem convert_2 (X : BitVec 32) (w : World) : Calls Try.prog 32 #[.int .i64 2, .int .u32 X.toNat] w fun e w' => e = .returned (.int .u32 (boolB X).toNat) ∧ w' = w := by
  unfold boolB
  by_cases h : X = 0
  · rw [if_pos h]
    have h1 : ((X.toNat : Int) == 0) = true := by subst h; rfl
    have h2 : ((X.toNat : Int) != 0) = false := by subst h; rfl
    clear h
    generalize X.toNat = x at *
    go_enter Try.func32, Try.ntmps32
    go_wp2
    go_ret
    exact ⟨rfl, rfl⟩
  · rw [if_neg h]
    have hx : X.toNat ≠ 0 := fun g => h (BitVec.eq_of_toNat_eq (by simpa using g))
    have h1 : ((X.toNat : Int) == 0) = false := by simp; omega
    have h2 : ((X.toNat : Int) != 0) = true := by simp; omega
    clear h hx
    generalize X.toNat = x at *
    go_enter Try.func32, Try.ntmps32
    go_wp2
    go_ret
    exact ⟨rfl, rfl⟩
/-- How many bits a unit of that kind has. -/
def roomOf (k : Int) : Int := 8 * widthOf k
theorem room_bd (k : Int) : 0 ≤ roomOf k ∧ roomOf k ≤ 32 := by
  unfold roomOf widthOf
  split
  · decide
  · split
    · decide
    · split <;> decide
theorem room_no {k : Int} (h : ¬ Whole k) : roomOf k = 0 := by
  unfold Whole at h
  unfold roomOf widthOf
  rw [if_neg (by omega), if_neg (by omega), if_neg (by omega)]; rfl
set_option maxHeartbeats 400000 in
theorem kindBits_c (k : Int) (w : World) : Calls Try.prog 43 #[.int .i64 k] w fun e w' => e = .returned (.int .i64 (roomOf k)) ∧ w' = w := by
  by_cases h : Whole k
  · have c := width_c k w h
    have hb := room_bd k
    obtain ⟨h1, h2⟩ := h
    unfold roomOf at hb ⊢
    generalize widthOf k = n at *
    go_enter Try.func43, Try.ntmps43
    go_wp2_with fail
    refine c.mono ?_; rintro e w' ⟨rfl, rfl⟩
    clear c
    go_wp2
    go_ret
    exact ⟨one_i64 (by simp), rfl⟩
  · rw [room_no h]
    unfold Whole at h
    by_cases g : k < 2
    · clear h
      go_enter Try.func43, Try.ntmps43
      go_wp2
      go_ret
      exact ⟨rfl, rfl⟩
    · have g2 : 12 < k := by omega
      clear h
      go_enter Try.func43, Try.ntmps43
      go_wp2
      go_ret
      exact ⟨rfl, rfl⟩
def mostOf (k : Int) : Int := if k = 2 then 1 else roomOf k
theorem most_bd (k : Int) : 0 ≤ mostOf k ∧ mostOf k ≤ 32 := by
  unfold mostOf
  split
  · decide
  · exact room_bd k
set_option maxHeartbeats 400000 in
theorem mostBits_c (k : Int) (w : World) : Calls Try.prog 31 #[.int .i64 k] w fun e w' => e = .returned (.int .i64 (mostOf k)) ∧ w' = w := by
  unfold mostOf
  by_cases h : k = 2
  · rw [if_pos h]
    subst h
    go_enter Try.func31, Try.ntmps31
    go_wp2
    go_ret
    exact ⟨rfl, rfl⟩
  · rw [if_neg h]
    have g : (k == 2) = false := by simpa using h
    have c := kindBits_c k w
    clear h
    generalize roomOf k = r at *
    go_enter Try.func31, Try.ntmps31
    go_wp2_with fail
    refine c.mono ?_; rintro e w' ⟨rfl, rfl⟩
    go_wp2
    go_ret
    exact ⟨rfl, rfl⟩
/-- What Value answers. -/
def valueB (k : Int) (n : Nat) (X : BitVec 32) : BitVec 32 := if k = 2 then boolB X else takeB X 0 n (signOf k)
theorem whole_of_most {k n : Int} (h : FOK 0 n (mostOf k)) : Whole k := by
  by_cases g : Whole k
  · exact g
  · exfalso
    have e : mostOf k = 0 := by
      unfold mostOf
      rw [if_neg (by unfold Whole at g; omega), room_no g]
    obtain ⟨_, h2, h3⟩ := h
    omega
set_option maxHeartbeats 1000000 in
theorem Value_no (k n : Int) (X : BitVec 32) (w : World) (h : ¬ FOK 0 n (mostOf k)) :
    Calls Try.prog 15 #[.int .i64 k, .int .i64 n, .int .u32 X.toNat] w fun e w' => e = .returned (.tuple #[.int .u32 0, .int .i64 80]) ∧ w' = w := by
  have c1 := mostBits_c k w
  have c2 := fits_no 0 n (mostOf k) w (by decide) (most_bd k).1 (most_bd k).2 h
  clear h
  generalize mostOf k = m at *
  go_enter Try.func15, Try.ntmps15
  go_wp2_with fail
  refine c1.mono ?_; rintro e w' ⟨rfl, rfl⟩
  clear c1
  go_wp2_with fail
  refine c2.mono ?_; rintro e w' ⟨rfl, rfl⟩
  clear c2
  go_wp2
  go_ret2
  exact ⟨rfl, rfl⟩
set_option maxHeartbeats 1000000 in
theorem Value_yes (k : Int) (n : Nat) (X : BitVec 32) (w : World) (h : FOK 0 n (mostOf k)) :
    Calls Try.prog 15 #[.int .i64 k, .int .i64 n, .int .u32 X.toNat] w fun e w' => e = .returned (.tuple #[.int .u32 (valueB k n X).toNat, .int .i64 0]) ∧ w' = w := by
  have hW := whole_of_most h
  have hm := most_bd k
  have c1 := mostBits_c k w
  have c2 := fits_yes 0 n (mostOf k) w hm.1 hm.2 h
  obtain ⟨h0, h1, h2⟩ := h
  unfold valueB
  by_cases g : k = 2
  · rw [if_pos g]
    subst g
    have c3 := convert_2 X w
    clear h0 h1 h2 hm hW
    generalize mostOf 2 = m at *
    generalize boolB X = Y at *
    go_enter Try.func15, Try.ntmps15
    go_wp2_with fail
    refine c1.mono ?_; rintro e w' ⟨rfl, rfl⟩
    clear c1
    go_wp2_with fail
    refine c2.mono ?_; rintro e w' ⟨rfl, rfl⟩
    clear c2
    go_wp2_with fail
    refine c3.mono ?_; rintro e w' ⟨rfl, rfl⟩
    clear c3
    go_wp2
    go_ret2
    exact ⟨rfl, rfl⟩
  · rw [if_neg g]
    have c3 := signed_c k w hW
    have c4 := take_c X 0 n (signOf k) w (by omega) (by omega)
    have g2 : (k == 2) = false := by simpa using g
    clear h0 h1 h2 hm hW g
    generalize mostOf k = m at *
    generalize signOf k = s at *
    generalize takeB X 0 n s = Y at *
    go_enter Try.func15, Try.ntmps15
    go_wp2_with fail
    refine c1.mono ?_; rintro e w' ⟨rfl, rfl⟩
    clear c1
    go_wp2_with fail
    refine c2.mono ?_; rintro e w' ⟨rfl, rfl⟩
    clear c2
    go_wp2_with fail
    refine c3.mono ?_; rintro e w' ⟨rfl, rfl⟩
    clear c3
    go_wp2_with fail
    refine c4.mono ?_; rintro e w' ⟨rfl, rfl⟩
    clear c4
    go_wp2
    go_ret2
    exact ⟨rfl, rfl⟩
end Go.Proofs.Ytmdgnjadfdnibaa
