/-
  What the document's own function Bin (package mortiseref01) answers at each of its nineteen operations, for every two numbers of 32 bits, in the same words as the program's; it leaves the world as it was.
-/
import Derived.Test.YtigiahcfcglacaaWHeads
import Derived.Laws.BitsAllLaws
import Derived.Laws.Bits64
import Derived.Laws.Shifts
namespace Go.Proofs.Ytigiahcfcglacaa.W
open Go.RowKit
set_option linter.unusedVariables false

theorem refint_any (a : Int) (w : World) (a0 : 0 ≤ a) (a1 : a < 4294967296) : Calls Try.prog 21 #[.int .u32 a] w fun e w' => e = .returned (.int .i64 (wrap32 a)) ∧ w' = w := by
  by_cases h : 2147483648 ≤ a
  · go_enter Try.func21, Try.ntmps21
    go_wp2
    go_ret
    exact ⟨one_result (by unfold wrap32; omega), rfl⟩
  · go_enter Try.func21, Try.ntmps21
    go_wp2
    go_ret
    exact ⟨one_result (by unfold wrap32; omega), rfl⟩
theorem low_bits (n : Int) : bits .and .u64 (n % 18446744073709551616) 4294967295 = n % 4294967296 := by
  rw [u64_and _ _ (by omega) (by omega) (by decide) (by decide)]
  have h : (n % 18446744073709551616).toNat &&& (4294967295 : Int).toNat = (n % 18446744073709551616).toNat % 2 ^ 32 := Nat.and_two_pow_sub_one_eq_mod _ 32
  rw [h]
  omega
theorem refof_any (n : Int) (w : World) : Calls Try.prog 80 #[.int .i64 n] w fun e w' => e = .returned (.int .u32 (n % 4294967296)) ∧ w' = w := by
  go_enter Try.func80, Try.ntmps80
  go_wp2
  go_ret
  refine ⟨one_result ?_, rfl⟩
  rw [IntKind.wrap_u64, low_bits]
  omega
/-- Both answers of a division towards 0; its two operations may go in either order. -/
theorem quot_any (x y : Int) (w : World) (hy : ¬ y = 0) : Calls Try.prog 79 #[.int .i64 x, .int .i64 y] w fun e w' => e = .returned (.tuple #[.int .i64 (wrap64 (x.tdiv y)), .int .i64 (x.tmod y)]) ∧ ∃ n, w' = w.drewN n := by
  have hy2 : (y == 0) = false := by simpa using hy
  go_enter Try.func79, Try.ntmps79
  go_wp2
  go_quiet (fail)
  go_wp2
  go_ret2
  exact ⟨rfl, _, rfl⟩
theorem wrap64_small (s : Int) (h1 : -2147483648 ≤ s) (h2 : s ≤ 4294967296) : wrap64 s = s := by unfold wrap64; omega
theorem wrap32_bd (a : Int) : -2147483648 ≤ wrap32 a ∧ wrap32 a < 2147483648 := by unfold wrap32; omega
theorem flag_yes (w : World) : Calls Try.prog 81 #[.bool true] w fun e w' => e = .returned (.int .u32 1) ∧ w' = w := by
  go_enter Try.func81, Try.ntmps81
  go_wp2
  go_ret
  exact ⟨rfl, rfl⟩
theorem flag_no (w : World) : Calls Try.prog 81 #[.bool false] w fun e w' => e = .returned (.int .u32 0) ∧ w' = w := by
  go_enter Try.func81, Try.ntmps81
  go_wp2
  go_ret
  exact ⟨rfl, rfl⟩
theorem xor_hi (y : Nat) (hy : y < 2 ^ 31) : 2 ^ 31 ^^^ y = 2 ^ 31 + y := by
  rw [← nat_join 31 (2 ^ 31) y (by decide) hy]
  apply Nat.eq_of_testBit_eq
  intro i
  simp only [Nat.testBit_xor, Nat.testBit_or, Nat.testBit_two_pow]
  by_cases h : 31 = i
  · subst h
    rw [Nat.testBit_lt_two_pow hy]
    simp
  · simp [h]
/-- To turn the highest bit over is to add half the range. -/
theorem turned (a : Int) (a0 : 0 ≤ a) (a1 : a < 4294967296) : bits .xor .u32 a 2147483648 = wrap32 a + 2147483648 := by
  rw [u32_xor a _ a0 a1 (by decide) (by decide)]
  have e : ((2147483648 : Int).toNat) = 2 ^ 31 := by decide
  rw [e]
  by_cases h : a < 2147483648
  · rw [Nat.xor_comm, xor_hi a.toNat (by omega)]
    unfold wrap32
    omega
  · have h2 : a.toNat = 2 ^ 31 ^^^ (a.toNat - 2 ^ 31) := by rw [xor_hi _ (by omega)]; omega
    rw [h2, Nat.xor_comm (2 ^ 31), Nat.xor_assoc, Nat.xor_self, Nat.xor_zero]
    unfold wrap32
    omega

set_option maxRecDepth 100000 in
set_option maxHeartbeats 1000000 in
theorem ref_add (a b : Int) (w : World) (a0 : 0 ≤ a) (a1 : a < 4294967296) (b0 : 0 ≤ b) (b1 : b < 4294967296) :
    Calls Try.prog 67 #[.int .i64 1, .int .u32 a, .int .u32 b] w fun e w' => e = .returned (.tuple #[.int .u32 ((a + b) % 4294967296), .bool true]) ∧ w' = w := by
  go_enter Try.func67, Try.ntmps67
  go_wp2_with (first | (go_at_call 21; refine (refint_any _ _ (by assumption) (by assumption)).mono ?_; rintro e w' ⟨rfl, rfl⟩) | (go_at_call 80; refine (refof_any _ _).mono ?_; rintro e w' ⟨rfl, rfl⟩) | go_in)
  go_ret2
  exact ⟨two_results (by simp), rfl⟩

set_option maxRecDepth 100000 in
set_option maxHeartbeats 1000000 in
theorem ref_sub (a b : Int) (w : World) (a0 : 0 ≤ a) (a1 : a < 4294967296) (b0 : 0 ≤ b) (b1 : b < 4294967296) :
    Calls Try.prog 67 #[.int .i64 2, .int .u32 a, .int .u32 b] w fun e w' => e = .returned (.tuple #[.int .u32 ((a + -b) % 4294967296), .bool true]) ∧ w' = w := by
  go_enter Try.func67, Try.ntmps67
  go_wp2_with (first | (go_at_call 21; refine (refint_any _ _ (by assumption) (by assumption)).mono ?_; rintro e w' ⟨rfl, rfl⟩) | (go_at_call 80; refine (refof_any _ _).mono ?_; rintro e w' ⟨rfl, rfl⟩) | go_in)
  go_ret2
  exact ⟨two_results (by omega), rfl⟩

set_option maxRecDepth 100000 in
set_option maxHeartbeats 1000000 in
theorem ref_mul (a b : Int) (w : World) (a0 : 0 ≤ a) (a1 : a < 4294967296) (b0 : 0 ≤ b) (b1 : b < 4294967296) :
    Calls Try.prog 67 #[.int .i64 3, .int .u32 a, .int .u32 b] w fun e w' => e = .returned (.tuple #[.int .u32 (a * b % 4294967296), .bool true]) ∧ w' = w := by
  go_enter Try.func67, Try.ntmps67
  go_wp2_with (first | (go_at_call 21; refine (refint_any _ _ (by assumption) (by assumption)).mono ?_; rintro e w' ⟨rfl, rfl⟩) | (go_at_call 80; refine (refof_any _ _).mono ?_; rintro e w' ⟨rfl, rfl⟩) | go_in)
  go_ret2
  exact ⟨two_results (by simp), rfl⟩

set_option maxRecDepth 100000 in
set_option maxHeartbeats 1000000 in
theorem ref_divs (a b : Int) (w : World) (a0 : 0 ≤ a) (a1 : a < 4294967296) (b0 : 0 < b) (b1 : b < 4294967296) :
    Calls Try.prog 67 #[.int .i64 4, .int .u32 a, .int .u32 b] w fun e w' => e = .returned (.tuple #[.int .u32 (wrap64 ((wrap64 (wrap32 a)).tdiv (wrap64 (wrap32 b))) % 4294967296), .bool true]) ∧ ∃ n, w' = w.drewN n := by
  have hd : ¬ wrap32 b = 0 := by unfold wrap32; omega
  have q0 : ¬ b = 0 := by omega
  have q1 : (b == 0) = false := by simpa using q0
  go_enter Try.func67, Try.ntmps67
  go_wp2_with fail
  refine (refint_any a _ a0 a1).mono ?_; rintro e w' ⟨rfl, rfl⟩
  go_wp2_with fail
  refine (refint_any b _ (Int.le_of_lt b0) b1).mono ?_; rintro e w' ⟨rfl, rfl⟩
  go_wp2_with fail
  refine (quot_any _ _ _ hd).mono ?_; rintro e w' ⟨rfl, n, rfl⟩
  go_wp2_with fail
  refine (refof_any _ _).mono ?_; rintro e w' ⟨rfl, rfl⟩
  go_wp2_with fail
  go_ret2
  refine ⟨two_results ?_, n, rfl⟩
  have ha := wrap32_bd a
  have hb := wrap32_bd b
  simp only [wrap64_small (wrap32 a) (by omega) (by omega), wrap64_small (wrap32 b) (by omega) (by omega)]

set_option maxRecDepth 100000 in
set_option maxHeartbeats 1000000 in
theorem ref_divu (a b : Int) (w : World) (a0 : 0 ≤ a) (a1 : a < 4294967296) (b0 : 0 < b) (b1 : b < 4294967296) :
    Calls Try.prog 67 #[.int .i64 5, .int .u32 a, .int .u32 b] w fun e w' => e = .returned (.tuple #[.int .u32 (a / b), .bool true]) ∧ ∃ n, w' = w.drewN n := by
  have q0 : ¬ b = 0 := by omega
  have q1 : (b == 0) = false := by simpa using q0
  go_enter Try.func67, Try.ntmps67
  go_wp2_with fail
  refine (quot_any _ _ _ q0).mono ?_; rintro e w' ⟨rfl, n, rfl⟩
  go_wp2_with fail
  refine (refof_any _ _).mono ?_; rintro e w' ⟨rfl, rfl⟩
  go_wp2_with fail
  go_ret2
  refine ⟨two_results ?_, n, rfl⟩
  rw [Int.tdiv_eq_ediv_of_nonneg a0]
  have h1 := Int.ediv_nonneg a0 (Int.le_of_lt b0)
  have h2 := Int.ediv_le_self b a0
  rw [wrap64_small _ (by omega) (by omega)]
  omega

set_option maxRecDepth 100000 in
set_option maxHeartbeats 1000000 in
theorem ref_rems (a b : Int) (w : World) (a0 : 0 ≤ a) (a1 : a < 4294967296) (b0 : 0 < b) (b1 : b < 4294967296) :
    Calls Try.prog 67 #[.int .i64 6, .int .u32 a, .int .u32 b] w fun e w' => e = .returned (.tuple #[.int .u32 ((wrap64 (wrap32 a)).tmod (wrap64 (wrap32 b)) % 4294967296), .bool true]) ∧ ∃ n, w' = w.drewN n := by
  have hd : ¬ wrap32 b = 0 := by unfold wrap32; omega
  have q0 : ¬ b = 0 := by omega
  have q1 : (b == 0) = false := by simpa using q0
  go_enter Try.func67, Try.ntmps67
  go_wp2_with fail
  refine (refint_any a _ a0 a1).mono ?_; rintro e w' ⟨rfl, rfl⟩
  go_wp2_with fail
  refine (refint_any b _ (Int.le_of_lt b0) b1).mono ?_; rintro e w' ⟨rfl, rfl⟩
  go_wp2_with fail
  refine (quot_any _ _ _ hd).mono ?_; rintro e w' ⟨rfl, n, rfl⟩
  go_wp2_with fail
  refine (refof_any _ _).mono ?_; rintro e w' ⟨rfl, rfl⟩
  go_wp2_with fail
  go_ret2
  refine ⟨two_results ?_, n, rfl⟩
  have ha := wrap32_bd a
  have hb := wrap32_bd b
  simp only [wrap64_small (wrap32 a) (by omega) (by omega), wrap64_small (wrap32 b) (by omega) (by omega)]

set_option maxRecDepth 100000 in
set_option maxHeartbeats 1000000 in
theorem ref_remu (a b : Int) (w : World) (a0 : 0 ≤ a) (a1 : a < 4294967296) (b0 : 0 < b) (b1 : b < 4294967296) :
    Calls Try.prog 67 #[.int .i64 7, .int .u32 a, .int .u32 b] w fun e w' => e = .returned (.tuple #[.int .u32 (a % b), .bool true]) ∧ ∃ n, w' = w.drewN n := by
  have q0 : ¬ b = 0 := by omega
  have q1 : (b == 0) = false := by simpa using q0
  go_enter Try.func67, Try.ntmps67
  go_wp2_with fail
  refine (quot_any _ _ _ q0).mono ?_; rintro e w' ⟨rfl, n, rfl⟩
  go_wp2_with fail
  refine (refof_any _ _).mono ?_; rintro e w' ⟨rfl, rfl⟩
  go_wp2_with fail
  go_ret2
  refine ⟨two_results ?_, n, rfl⟩
  have h3 := Int.emod_nonneg a (Int.ne_of_gt b0)
  have h4 := Int.emod_lt_of_pos a b0
  omega

set_option maxRecDepth 100000 in
set_option maxHeartbeats 1000000 in
theorem ref_and (a b : Int) (w : World) (a0 : 0 ≤ a) (a1 : a < 4294967296) (b0 : 0 ≤ b) (b1 : b < 4294967296) :
    Calls Try.prog 67 #[.int .i64 8, .int .u32 a, .int .u32 b] w fun e w' => e = .returned (.tuple #[.int .u32 (bits .and .u32 a b), .bool true]) ∧ w' = w := by
  go_enter Try.func67, Try.ntmps67
  go_wp2_with (first | (go_at_call 21; refine (refint_any _ _ (by assumption) (by assumption)).mono ?_; rintro e w' ⟨rfl, rfl⟩) | (go_at_call 80; refine (refof_any _ _).mono ?_; rintro e w' ⟨rfl, rfl⟩) | go_in)
  go_ret2
  exact ⟨two_results (by simp), rfl⟩

set_option maxRecDepth 100000 in
set_option maxHeartbeats 1000000 in
theorem ref_or (a b : Int) (w : World) (a0 : 0 ≤ a) (a1 : a < 4294967296) (b0 : 0 ≤ b) (b1 : b < 4294967296) :
    Calls Try.prog 67 #[.int .i64 9, .int .u32 a, .int .u32 b] w fun e w' => e = .returned (.tuple #[.int .u32 (bits .or .u32 a b), .bool true]) ∧ w' = w := by
  go_enter Try.func67, Try.ntmps67
  go_wp2_with (first | (go_at_call 21; refine (refint_any _ _ (by assumption) (by assumption)).mono ?_; rintro e w' ⟨rfl, rfl⟩) | (go_at_call 80; refine (refof_any _ _).mono ?_; rintro e w' ⟨rfl, rfl⟩) | go_in)
  go_ret2
  exact ⟨two_results (by simp), rfl⟩

set_option maxRecDepth 100000 in
set_option maxHeartbeats 1000000 in
theorem ref_xor (a b : Int) (w : World) (a0 : 0 ≤ a) (a1 : a < 4294967296) (b0 : 0 ≤ b) (b1 : b < 4294967296) :
    Calls Try.prog 67 #[.int .i64 10, .int .u32 a, .int .u32 b] w fun e w' => e = .returned (.tuple #[.int .u32 (bits .xor .u32 a b), .bool true]) ∧ w' = w := by
  go_enter Try.func67, Try.ntmps67
  go_wp2_with (first | (go_at_call 21; refine (refint_any _ _ (by assumption) (by assumption)).mono ?_; rintro e w' ⟨rfl, rfl⟩) | (go_at_call 80; refine (refof_any _ _).mono ?_; rintro e w' ⟨rfl, rfl⟩) | go_in)
  go_ret2
  exact ⟨two_results (by simp), rfl⟩

set_option maxRecDepth 100000 in
set_option maxHeartbeats 1000000 in
theorem ref_shl (a b : Int) (w : World) (a0 : 0 ≤ a) (a1 : a < 4294967296) (b0 : 0 ≤ b) (b1 : b < 4294967296) :
    Calls Try.prog 67 #[.int .i64 11, .int .u32 a, .int .u32 b] w fun e w' => e = .returned (.tuple #[.int .u32 (a * 2 ^ (b % 32).toNat % 4294967296), .bool true]) ∧ w' = w := by
  have hs0 : 0 ≤ b % 32 := by omega
  have hs1 : b % 32 ≤ 32 := by omega
  go_enter Try.func67, Try.ntmps67
  go_wp2_with (first | (go_at_call 21; refine (refint_any _ _ (by assumption) (by assumption)).mono ?_; rintro e w' ⟨rfl, rfl⟩) | (go_at_call 80; refine (refof_any _ _).mono ?_; rintro e w' ⟨rfl, rfl⟩) | go_in)
  go_ret2
  exact ⟨two_results (by simp), rfl⟩

set_option maxRecDepth 100000 in
set_option maxHeartbeats 1000000 in
theorem ref_shrs (a b : Int) (w : World) (a0 : 0 ≤ a) (a1 : a < 4294967296) (b0 : 0 ≤ b) (b1 : b < 4294967296) :
    Calls Try.prog 67 #[.int .i64 12, .int .u32 a, .int .u32 b] w fun e w' => e = .returned (.tuple #[.int .u32 (wrap32 a / 2 ^ (b % 32).toNat % 4294967296), .bool true]) ∧ w' = w := by
  have hs0 : 0 ≤ b % 32 := by omega
  have hs1 : b % 32 ≤ 32 := by omega
  go_enter Try.func67, Try.ntmps67
  go_wp2_with (first | (go_at_call 21; refine (refint_any _ _ (by assumption) (by assumption)).mono ?_; rintro e w' ⟨rfl, rfl⟩) | (go_at_call 80; refine (refof_any _ _).mono ?_; rintro e w' ⟨rfl, rfl⟩) | go_in)
  go_ret2
  exact ⟨two_results (by simp), rfl⟩

set_option maxRecDepth 100000 in
set_option maxHeartbeats 1000000 in
theorem ref_shru (a b : Int) (w : World) (a0 : 0 ≤ a) (a1 : a < 4294967296) (b0 : 0 ≤ b) (b1 : b < 4294967296) :
    Calls Try.prog 67 #[.int .i64 13, .int .u32 a, .int .u32 b] w fun e w' => e = .returned (.tuple #[.int .u32 (a / 2 ^ (b % 32).toNat), .bool true]) ∧ w' = w := by
  have hs0 : 0 ≤ b % 32 := by omega
  have hs1 : b % 32 ≤ 32 := by omega
  go_enter Try.func67, Try.ntmps67
  go_wp2_with (first | (go_at_call 21; refine (refint_any _ _ (by assumption) (by assumption)).mono ?_; rintro e w' ⟨rfl, rfl⟩) | (go_at_call 80; refine (refof_any _ _).mono ?_; rintro e w' ⟨rfl, rfl⟩) | go_in)
  go_ret2
  exact ⟨two_results (by simp), rfl⟩

set_option maxRecDepth 100000 in
set_option maxHeartbeats 1000000 in
theorem ref_eq (a b : Int) (w : World) (a0 : 0 ≤ a) (a1 : a < 4294967296) (b0 : 0 ≤ b) (b1 : b < 4294967296) :
    Calls Try.prog 67 #[.int .i64 14, .int .u32 a, .int .u32 b] w fun e w' => e = .returned (.tuple #[.int .u32 (if a = b then 1 else 0), .bool true]) ∧ w' = w := by
  by_cases h : a = b
  · rw [if_pos h]
    have hq : (a == b) = true := by simpa using h
    go_enter Try.func67, Try.ntmps67
    go_wp2_with (first | (go_at_call 21; refine (refint_any _ _ (by assumption) (by assumption)).mono ?_; rintro e w' ⟨rfl, rfl⟩) | (go_at_call 80; refine (refof_any _ _).mono ?_; rintro e w' ⟨rfl, rfl⟩) | go_in)
    go_ret2
    exact ⟨two_results (by simp), rfl⟩
  · rw [if_neg h]
    have hq : (a == b) = false := by simpa using h
    go_enter Try.func67, Try.ntmps67
    go_wp2_with (first | (go_at_call 21; refine (refint_any _ _ (by assumption) (by assumption)).mono ?_; rintro e w' ⟨rfl, rfl⟩) | (go_at_call 80; refine (refof_any _ _).mono ?_; rintro e w' ⟨rfl, rfl⟩) | go_in)
    go_ret2
    exact ⟨two_results (by simp), rfl⟩

set_option maxRecDepth 100000 in
set_option maxHeartbeats 1000000 in
theorem ref_ne (a b : Int) (w : World) (a0 : 0 ≤ a) (a1 : a < 4294967296) (b0 : 0 ≤ b) (b1 : b < 4294967296) :
    Calls Try.prog 67 #[.int .i64 15, .int .u32 a, .int .u32 b] w fun e w' => e = .returned (.tuple #[.int .u32 (if a = b then 0 else 1), .bool true]) ∧ w' = w := by
  by_cases h : a = b
  · rw [if_pos h]
    have hq : (a == b) = true := by simpa using h
    go_enter Try.func67, Try.ntmps67
    go_wp2_with (first | (go_at_call 21; refine (refint_any _ _ (by assumption) (by assumption)).mono ?_; rintro e w' ⟨rfl, rfl⟩) | (go_at_call 80; refine (refof_any _ _).mono ?_; rintro e w' ⟨rfl, rfl⟩) | go_in)
    go_ret2
    exact ⟨two_results (by simp), rfl⟩
  · rw [if_neg h]
    have hq : (a == b) = false := by simpa using h
    go_enter Try.func67, Try.ntmps67
    go_wp2_with (first | (go_at_call 21; refine (refint_any _ _ (by assumption) (by assumption)).mono ?_; rintro e w' ⟨rfl, rfl⟩) | (go_at_call 80; refine (refof_any _ _).mono ?_; rintro e w' ⟨rfl, rfl⟩) | go_in)
    go_ret2
    exact ⟨two_results (by simp), rfl⟩

set_option maxRecDepth 100000 in
set_option maxHeartbeats 1000000 in
theorem ref_lts (a b : Int) (w : World) (a0 : 0 ≤ a) (a1 : a < 4294967296) (b0 : 0 ≤ b) (b1 : b < 4294967296) :
    Calls Try.prog 67 #[.int .i64 16, .int .u32 a, .int .u32 b] w fun e w' => e = .returned (.tuple #[.int .u32 (if bits .xor .u32 a 2147483648 < bits .xor .u32 b 2147483648 then 1 else 0), .bool true]) ∧ w' = w := by
  rw [turned a a0 a1, turned b b0 b1]
  have hc : (wrap32 a + 2147483648 < wrap32 b + 2147483648) = (wrap32 a < wrap32 b) := by simp
  simp only [hc]
  by_cases h : wrap32 a < wrap32 b
  · rw [if_pos h]
    go_enter Try.func67, Try.ntmps67
    go_wp2_with (first | (go_at_call 21; refine (refint_any _ _ (by assumption) (by assumption)).mono ?_; rintro e w' ⟨rfl, rfl⟩) | (go_at_call 80; refine (refof_any _ _).mono ?_; rintro e w' ⟨rfl, rfl⟩) | go_in)
    go_ret2
    exact ⟨two_results (by simp), rfl⟩
  · rw [if_neg h]
    go_enter Try.func67, Try.ntmps67
    go_wp2_with (first | (go_at_call 21; refine (refint_any _ _ (by assumption) (by assumption)).mono ?_; rintro e w' ⟨rfl, rfl⟩) | (go_at_call 80; refine (refof_any _ _).mono ?_; rintro e w' ⟨rfl, rfl⟩) | go_in)
    go_ret2
    exact ⟨two_results (by simp), rfl⟩

set_option maxRecDepth 100000 in
set_option maxHeartbeats 1000000 in
theorem ref_ltu (a b : Int) (w : World) (a0 : 0 ≤ a) (a1 : a < 4294967296) (b0 : 0 ≤ b) (b1 : b < 4294967296) :
    Calls Try.prog 67 #[.int .i64 17, .int .u32 a, .int .u32 b] w fun e w' => e = .returned (.tuple #[.int .u32 (if a < b then 1 else 0), .bool true]) ∧ w' = w := by
  by_cases h : a < b
  · rw [if_pos h]
    go_enter Try.func67, Try.ntmps67
    go_wp2_with (first | (go_at_call 21; refine (refint_any _ _ (by assumption) (by assumption)).mono ?_; rintro e w' ⟨rfl, rfl⟩) | (go_at_call 80; refine (refof_any _ _).mono ?_; rintro e w' ⟨rfl, rfl⟩) | go_in)
    go_ret2
    exact ⟨two_results (by simp), rfl⟩
  · rw [if_neg h]
    go_enter Try.func67, Try.ntmps67
    go_wp2_with (first | (go_at_call 21; refine (refint_any _ _ (by assumption) (by assumption)).mono ?_; rintro e w' ⟨rfl, rfl⟩) | (go_at_call 80; refine (refof_any _ _).mono ?_; rintro e w' ⟨rfl, rfl⟩) | go_in)
    go_ret2
    exact ⟨two_results (by simp), rfl⟩

set_option maxRecDepth 100000 in
set_option maxHeartbeats 1000000 in
theorem ref_les (a b : Int) (w : World) (a0 : 0 ≤ a) (a1 : a < 4294967296) (b0 : 0 ≤ b) (b1 : b < 4294967296) :
    Calls Try.prog 67 #[.int .i64 18, .int .u32 a, .int .u32 b] w fun e w' => e = .returned (.tuple #[.int .u32 (if bits .xor .u32 a 2147483648 ≤ bits .xor .u32 b 2147483648 then 1 else 0), .bool true]) ∧ w' = w := by
  rw [turned a a0 a1, turned b b0 b1]
  have hc : (wrap32 a + 2147483648 ≤ wrap32 b + 2147483648) = (wrap32 a ≤ wrap32 b) := by simp
  simp only [hc]
  by_cases h : wrap32 a ≤ wrap32 b
  · rw [if_pos h]
    go_enter Try.func67, Try.ntmps67
    go_wp2_with (first | (go_at_call 21; refine (refint_any _ _ (by assumption) (by assumption)).mono ?_; rintro e w' ⟨rfl, rfl⟩) | (go_at_call 80; refine (refof_any _ _).mono ?_; rintro e w' ⟨rfl, rfl⟩) | go_in)
    go_ret2
    exact ⟨two_results (by simp), rfl⟩
  · rw [if_neg h]
    go_enter Try.func67, Try.ntmps67
    go_wp2_with (first | (go_at_call 21; refine (refint_any _ _ (by assumption) (by assumption)).mono ?_; rintro e w' ⟨rfl, rfl⟩) | (go_at_call 80; refine (refof_any _ _).mono ?_; rintro e w' ⟨rfl, rfl⟩) | go_in)
    go_ret2
    exact ⟨two_results (by simp), rfl⟩

set_option maxRecDepth 100000 in
set_option maxHeartbeats 1000000 in
theorem ref_leu (a b : Int) (w : World) (a0 : 0 ≤ a) (a1 : a < 4294967296) (b0 : 0 ≤ b) (b1 : b < 4294967296) :
    Calls Try.prog 67 #[.int .i64 19, .int .u32 a, .int .u32 b] w fun e w' => e = .returned (.tuple #[.int .u32 (if a ≤ b then 1 else 0), .bool true]) ∧ w' = w := by
  by_cases h : a ≤ b
  · rw [if_pos h]
    go_enter Try.func67, Try.ntmps67
    go_wp2_with (first | (go_at_call 21; refine (refint_any _ _ (by assumption) (by assumption)).mono ?_; rintro e w' ⟨rfl, rfl⟩) | (go_at_call 80; refine (refof_any _ _).mono ?_; rintro e w' ⟨rfl, rfl⟩) | go_in)
    go_ret2
    exact ⟨two_results (by simp), rfl⟩
  · rw [if_neg h]
    go_enter Try.func67, Try.ntmps67
    go_wp2_with (first | (go_at_call 21; refine (refint_any _ _ (by assumption) (by assumption)).mono ?_; rintro e w' ⟨rfl, rfl⟩) | (go_at_call 80; refine (refof_any _ _).mono ?_; rintro e w' ⟨rfl, rfl⟩) | go_in)
    go_ret2
    exact ⟨two_results (by simp), rfl⟩
end Go.Proofs.Ytigiahcfcglacaa.W
