/-
  What the program's functions mask, take, lay, fits, Mask, Get and Put answer, for every field and every number; they leave the world as it was.
-/
import Derived.Test.YtmdgnjadfdnibaaFdB
import Derived.OwnWalk
namespace Go.Proofs.Ytmdgnjadfdnibaa
open Go.RowKit
set_option linter.unusedVariables false
theorem one_u32 {x y : Int} (h : x = y) : Ending.returned (.int .u32 x) = .returned (.int .u32 y) := by rw [h]

set_option maxHeartbeats 1000000 in
theorem mask_c (b n : Nat) (w : World) (h1 : 1 ≤ n) (h2 : b + n ≤ 32) :
    Calls Try.prog 25 #[.int .i64 b, .int .i64 n] w fun e w' => e = .returned (.int .u32 (maskB b n).toNat) ∧ w' = w := by
  have g0 : (0 : Int) ≤ 32 - n := by omega
  have g1 : (32 : Int) - n ≤ 32 := by omega
  have g2 : (0 : Int) ≤ b := by omega
  have g3 : (b : Int) ≤ 32 := by omega
  go_enter Try.func25, Try.ntmps25
  go_wp2
  go_ret
  refine ⟨one_u32 ?_, rfl⟩
  rw [show (4294967295 : Int) = ((BitVec.allOnes 32).toNat : Int) by decide, shr_int, shl_int]; rfl

set_option maxHeartbeats 1000000 in
theorem take_u (V : BitVec 32) (b n : Nat) (w : World) (h1 : 1 ≤ n) (h2 : b + n ≤ 32) :
    Calls Try.prog 27 #[.int .u32 V.toNat, .int .i64 b, .int .i64 n, .bool false] w fun e w' => e = .returned (.int .u32 (takeB V b n false).toNat) ∧ w' = w := by
  have g0 : (0 : Int) ≤ 32 - n := by omega
  have g1 : (32 : Int) - n ≤ 32 := by omega
  have g2 : (0 : Int) ≤ 32 - n - b := by omega
  have g3 : (32 : Int) - n - b ≤ 32 := by omega
  go_enter Try.func27, Try.ntmps27
  go_wp2
  go_ret
  refine ⟨one_u32 ?_, rfl⟩
  rw [shl_int, shr_int]; rfl
set_option maxHeartbeats 1000000 in
theorem take_s (V : BitVec 32) (b n : Nat) (w : World) (h1 : 1 ≤ n) (h2 : b + n ≤ 32) :
    Calls Try.prog 27 #[.int .u32 V.toNat, .int .i64 b, .int .i64 n, .bool true] w fun e w' => e = .returned (.int .u32 (takeB V b n true).toNat) ∧ w' = w := by
  have g0 : (0 : Int) ≤ 32 - n := by omega
  have g1 : (32 : Int) - n ≤ 32 := by omega
  have g2 : (0 : Int) ≤ 32 - n - b := by omega
  have g3 : (32 : Int) - n - b ≤ 32 := by omega
  go_enter Try.func27, Try.ntmps27
  go_wp2
  go_ret
  refine ⟨one_u32 ?_, rfl⟩
  rw [shl_int, sshr_int]; rfl
set_option maxHeartbeats 1000000 in
theorem lay_c (V X : BitVec 32) (b n : Nat) (w : World) (h1 : 1 ≤ n) (h2 : b + n ≤ 32) :
    Calls Try.prog 29 #[.int .u32 V.toNat, .int .i64 b, .int .i64 n, .int .u32 X.toNat] w fun e w' => e = .returned (.int .u32 (layB V b n X).toNat) ∧ w' = w := by
  have g2 : (0 : Int) ≤ b := by omega
  have g3 : (b : Int) ≤ 32 := by omega
  have hc := mask_c b n w h1 h2
  go_enter Try.func29, Try.ntmps29
  go_wp2_with fail
  refine hc.mono ?_; rintro e w' ⟨rfl, rfl⟩
  go_wp2
  go_ret
  refine ⟨one_u32 ?_, rfl⟩
  rw [andNot_int, shl_int, and_int, or_int]; rfl
theorem take_c (V : BitVec 32) (b n : Nat) (s : Bool) (w : World) (h1 : 1 ≤ n) (h2 : b + n ≤ 32) :
    Calls Try.prog 27 #[.int .u32 V.toNat, .int .i64 b, .int .i64 n, .bool s] w fun e w' => e = .returned (.int .u32 (takeB V b n s).toNat) ∧ w' = w := by
  cases s
  · exact take_u V b n w h1 h2
  · exact take_s V b n w h1 h2
/-- A field lies within so many bits. -/
def FOK (b n r : Int) : Prop := 0 ≤ b ∧ 1 ≤ n ∧ b + n ≤ r
set_option maxHeartbeats 1000000 in
theorem fits_yes (b n r : Int) (w : World) (hr0 : 0 ≤ r) (hr1 : r ≤ 32) (h : FOK b n r) :
    Calls Try.prog 24 #[.int .i64 b, .int .i64 n, .int .i64 r] w fun e w' => e = .returned (.bool true) ∧ w' = w := by
  obtain ⟨g1, g2, g3⟩ := h
  have g4 : n ≤ r - b := by omega
  have g5 : -9223372036854775808 ≤ r - b := by omega
  have g6 : r - b < 9223372036854775808 := by omega
  go_enter Try.func24, Try.ntmps24
  go_wp2
  go_ret
  exact ⟨rfl, rfl⟩
set_option maxHeartbeats 1000000 in
theorem fits_no (b n r : Int) (w : World) (b1 : b < 9223372036854775808) (hr0 : 0 ≤ r) (hr1 : r ≤ 32) (h : ¬ FOK b n r) :
    Calls Try.prog 24 #[.int .i64 b, .int .i64 n, .int .i64 r] w fun e w' => e = .returned (.bool false) ∧ w' = w := by
  unfold FOK at h
  by_cases g1 : 0 ≤ b
  · by_cases g2 : 1 ≤ n
    · have g4 : ¬ n ≤ r - b := by omega
      have g5 : -9223372036854775808 ≤ r - b := by omega
      have g6 : r - b < 9223372036854775808 := by omega
      clear h
      go_enter Try.func24, Try.ntmps24
      go_wp2
      go_ret
      exact ⟨rfl, rfl⟩
    · clear h
      go_enter Try.func24, Try.ntmps24
      go_wp2
      go_ret
      exact ⟨rfl, rfl⟩
  · clear h
    go_enter Try.func24, Try.ntmps24
    go_wp2
    go_ret
    exact ⟨rfl, rfl⟩
theorem fok_nat {b n r : Int} (hr : r ≤ 32) (h : FOK b n r) : ∃ B N : Nat, b = B ∧ n = N ∧ 1 ≤ N ∧ B + N ≤ 32 := by
  obtain ⟨h1, h2, h3⟩ := h
  exact ⟨b.toNat, n.toNat, by omega, by omega, by omega, by omega⟩
theorem fok_of (b n : Nat) (h1 : 1 ≤ n) (h2 : b + n ≤ 32) : FOK b n 32 := ⟨by omega, by omega, by omega⟩

set_option maxHeartbeats 1000000 in
theorem Mask_yes (b n : Nat) (w : World) (h1 : 1 ≤ n) (h2 : b + n ≤ 32) :
    Calls Try.prog 7 #[.int .i64 b, .int .i64 n] w fun e w' => e = .returned (.tuple #[.int .u32 (maskB b n).toNat, .int .i64 0]) ∧ w' = w := by
  have c1 := fits_yes b n 32 w (by decide) (by decide) (fok_of b n h1 h2)
  have c2 := mask_c b n w h1 h2
  clear h1 h2
  go_enter Try.func7, Try.ntmps7
  go_wp2_with fail
  refine c1.mono ?_; rintro e w' ⟨rfl, rfl⟩
  clear c1
  go_wp2_with fail
  refine c2.mono ?_; rintro e w' ⟨rfl, rfl⟩
  go_wp2
  go_ret2
  exact ⟨rfl, rfl⟩
set_option maxHeartbeats 1000000 in
theorem Mask_no (b n : Int) (w : World) (b1 : b < 9223372036854775808) (h : ¬ FOK b n 32) :
    Calls Try.prog 7 #[.int .i64 b, .int .i64 n] w fun e w' => e = .returned (.tuple #[.int .u32 0, .int .i64 80]) ∧ w' = w := by
  have c1 := fits_no b n 32 w b1 (by decide) (by decide) h
  clear h
  go_enter Try.func7, Try.ntmps7
  go_wp2_with fail
  refine c1.mono ?_; rintro e w' ⟨rfl, rfl⟩
  go_wp2
  go_ret2
  exact ⟨rfl, rfl⟩
/-- All of a field's bits are known. -/
def knows (K : BitVec 32) (b n : Nat) : Prop := K &&& maskB b n = maskB b n
set_option maxHeartbeats 1000000 in
theorem Get_yes (V K : BitVec 32) (b n : Nat) (s : Bool) (w : World) (h1 : 1 ≤ n) (h2 : b + n ≤ 32) (h : knows K b n) :
    Calls Try.prog 9 #[.int .u32 V.toNat, .int .u32 K.toNat, .int .i64 b, .int .i64 n, .bool s] w fun e w' => e = .returned (.tuple #[.int .u32 (takeB V b n s).toNat, .bool true, .int .i64 0]) ∧ w' = w := by
  have c1 := Mask_yes b n w h1 h2
  have c2 := take_c V b n s w h1 h2
  have t : (bits .and .u32 (K.toNat : Int) ((maskB b n).toNat : Int) != ((maskB b n).toNat : Int)) = false := by
    rw [and_int, h]; simp
  clear h h1 h2
  generalize maskB b n = M at *
  generalize takeB V b n s = T at *
  go_enter Try.func9, Try.ntmps9
  go_wp2_with fail
  refine c1.mono ?_; rintro e w' ⟨rfl, rfl⟩
  clear c1
  go_wp2_with fail
  refine c2.mono ?_; rintro e w' ⟨rfl, rfl⟩
  go_wp2
  go_ret3
  exact ⟨rfl, rfl⟩
set_option maxHeartbeats 1000000 in
theorem Get_unknown (V K : BitVec 32) (b n : Nat) (s : Bool) (w : World) (h1 : 1 ≤ n) (h2 : b + n ≤ 32) (h : ¬ knows K b n) :
    Calls Try.prog 9 #[.int .u32 V.toNat, .int .u32 K.toNat, .int .i64 b, .int .i64 n, .bool s] w fun e w' => e = .returned (.tuple #[.int .u32 0, .bool false, .int .i64 0]) ∧ w' = w := by
  have c1 := Mask_yes b n w h1 h2
  have t : (bits .and .u32 (K.toNat : Int) ((maskB b n).toNat : Int) != ((maskB b n).toNat : Int)) = true := by
    rw [and_int]; simp only [bne_iff_ne, ne_eq]
    intro e; apply h; unfold knows; apply BitVec.eq_of_toNat_eq; omega
  clear h h1 h2
  generalize maskB b n = M at *
  go_enter Try.func9, Try.ntmps9
  go_wp2_with fail
  refine c1.mono ?_; rintro e w' ⟨rfl, rfl⟩
  clear c1
  go_wp2
  go_ret3
  exact ⟨rfl, rfl⟩
set_option maxHeartbeats 1000000 in
theorem Get_no (V K : BitVec 32) (b n : Int) (s : Bool) (w : World) (b1 : b < 9223372036854775808) (h : ¬ FOK b n 32) :
    Calls Try.prog 9 #[.int .u32 V.toNat, .int .u32 K.toNat, .int .i64 b, .int .i64 n, .bool s] w fun e w' => e = .returned (.tuple #[.int .u32 0, .bool false, .int .i64 80]) ∧ w' = w := by
  have c1 := Mask_no b n w b1 h
  clear h
  go_enter Try.func9, Try.ntmps9
  go_wp2_with fail
  refine c1.mono ?_; rintro e w' ⟨rfl, rfl⟩
  clear c1
  go_wp2
  go_ret3
  exact ⟨rfl, rfl⟩
set_option maxHeartbeats 1000000 in
theorem Put_yes (V K X : BitVec 32) (b n : Nat) (w : World) (h1 : 1 ≤ n) (h2 : b + n ≤ 32) :
    Calls Try.prog 11 #[.int .u32 V.toNat, .int .u32 K.toNat, .int .i64 b, .int .i64 n, .int .u32 X.toNat] w fun e w' => e = .returned (.tuple #[.int .u32 (layB V b n X).toNat, .int .u32 (K ||| maskB b n).toNat, .int .i64 0]) ∧ w' = w := by
  have c1 := Mask_yes b n w h1 h2
  have c2 := lay_c V X b n w h1 h2
  rw [← or_int]
  clear h1 h2
  generalize maskB b n = M at *
  generalize layB V b n X = T at *
  go_enter Try.func11, Try.ntmps11
  go_wp2_with fail
  refine c1.mono ?_; rintro e w' ⟨rfl, rfl⟩
  clear c1
  go_wp2_with fail
  refine c2.mono ?_; rintro e w' ⟨rfl, rfl⟩
  go_wp2
  go_ret3
  exact ⟨rfl, rfl⟩
set_option maxHeartbeats 1000000 in
theorem Put_no (V K X : BitVec 32) (b n : Int) (w : World) (b1 : b < 9223372036854775808) (h : ¬ FOK b n 32) :
    Calls Try.prog 11 #[.int .u32 V.toNat, .int .u32 K.toNat, .int .i64 b, .int .i64 n, .int .u32 X.toNat] w fun e w' => e = .returned (.tuple #[.int .u32 0, .int .u32 0, .int .i64 80]) ∧ w' = w := by
  have c1 := Mask_no b n w b1 h
  clear h
  go_enter Try.func11, Try.ntmps11
  go_wp2_with fail
  refine c1.mono ?_; rintro e w' ⟨rfl, rfl⟩
  clear c1
  go_wp2
  go_ret3
  exact ⟨rfl, rfl⟩
end Go.Proofs.Ytmdgnjadfdnibaa
