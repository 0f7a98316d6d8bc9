/-
  What the program's function Bin of package word answers at each of its nineteen operations, for every two numbers of 32 bits (where a division's second number is not 0), and that it then leaves the world as it was.
-/
import Derived.Test.YtigiahcfcglacaaProg
import Derived.WalkKit
import Derived.WalkSpells
import Derived.WalkLawsBesides
namespace Go.Proofs.Ytigiahcfcglacaa.W
open Go.RowKit
set_option linter.unusedVariables false
theorem signed_ne (b : Int) (b0 : 0 < b) (b1 : b < 4294967296) : ¬ wrap64 (wrap32 b) = 0 := by
  unfold wrap64 wrap32; omega
theorem two_results {k : IntKind} {x y : Int} {c : Bool} (h : x = y) : Ending.returned (.tuple #[.int k x, .bool c]) = .returned (.tuple #[.int k y, .bool c]) := by rw [h]

set_option maxHeartbeats 400000 in
theorem bin_add (a b : Int) (w : World) (a0 : 0 ≤ a) (a1 : a < 4294967296) (b0 : 0 ≤ b) (b1 : b < 4294967296) :
    Calls Try.prog 52 #[.int .i64 1, .int .u32 a, .int .u32 b] w fun e w' => e = .returned (.tuple #[.int .u32 ((a + b) % 4294967296), .bool true]) ∧ w' = w := by
  go_enter Try.func52, Try.ntmps52
  go_wp2
  go_ret2
  exact ⟨two_results (by simp), rfl⟩

set_option maxHeartbeats 400000 in
theorem bin_sub (a b : Int) (w : World) (a0 : 0 ≤ a) (a1 : a < 4294967296) (b0 : 0 ≤ b) (b1 : b < 4294967296) :
    Calls Try.prog 52 #[.int .i64 2, .int .u32 a, .int .u32 b] w fun e w' => e = .returned (.tuple #[.int .u32 ((a + -b) % 4294967296), .bool true]) ∧ w' = w := by
  go_enter Try.func52, Try.ntmps52
  go_wp2
  go_ret2
  exact ⟨two_results (by simp), rfl⟩

set_option maxHeartbeats 400000 in
theorem bin_mul (a b : Int) (w : World) (a0 : 0 ≤ a) (a1 : a < 4294967296) (b0 : 0 ≤ b) (b1 : b < 4294967296) :
    Calls Try.prog 52 #[.int .i64 3, .int .u32 a, .int .u32 b] w fun e w' => e = .returned (.tuple #[.int .u32 (a * b % 4294967296), .bool true]) ∧ w' = w := by
  go_enter Try.func52, Try.ntmps52
  go_wp2
  go_ret2
  exact ⟨two_results (by simp), rfl⟩

set_option maxHeartbeats 400000 in
theorem bin_divs (a b : Int) (w : World) (a0 : 0 ≤ a) (a1 : a < 4294967296) (b0 : 0 < b) (b1 : b < 4294967296) :
    Calls Try.prog 52 #[.int .i64 4, .int .u32 a, .int .u32 b] w fun e w' => e = .returned (.tuple #[.int .u32 (wrap64 ((wrap64 (wrap32 a)).tdiv (wrap64 (wrap32 b))) % 4294967296), .bool true]) ∧ w' = w := by
  have hd := signed_ne b b0 b1
  go_enter Try.func52, Try.ntmps52
  go_wp2
  go_ret2
  exact ⟨two_results (by simp), rfl⟩

set_option maxHeartbeats 400000 in
theorem bin_divu (a b : Int) (w : World) (a0 : 0 ≤ a) (a1 : a < 4294967296) (b0 : 0 < b) (b1 : b < 4294967296) :
    Calls Try.prog 52 #[.int .i64 5, .int .u32 a, .int .u32 b] w fun e w' => e = .returned (.tuple #[.int .u32 (a / b), .bool true]) ∧ w' = w := by
  go_enter Try.func52, Try.ntmps52
  go_wp2
  go_ret2
  exact ⟨two_results (by simp), rfl⟩

set_option maxHeartbeats 400000 in
theorem bin_rems (a b : Int) (w : World) (a0 : 0 ≤ a) (a1 : a < 4294967296) (b0 : 0 < b) (b1 : b < 4294967296) :
    Calls Try.prog 52 #[.int .i64 6, .int .u32 a, .int .u32 b] w fun e w' => e = .returned (.tuple #[.int .u32 ((wrap64 (wrap32 a)).tmod (wrap64 (wrap32 b)) % 4294967296), .bool true]) ∧ w' = w := by
  have hd := signed_ne b b0 b1
  go_enter Try.func52, Try.ntmps52
  go_wp2
  go_ret2
  exact ⟨two_results (by simp), rfl⟩

set_option maxHeartbeats 400000 in
theorem bin_remu (a b : Int) (w : World) (a0 : 0 ≤ a) (a1 : a < 4294967296) (b0 : 0 < b) (b1 : b < 4294967296) :
    Calls Try.prog 52 #[.int .i64 7, .int .u32 a, .int .u32 b] w fun e w' => e = .returned (.tuple #[.int .u32 (a % b), .bool true]) ∧ w' = w := by
  go_enter Try.func52, Try.ntmps52
  go_wp2
  go_ret2
  exact ⟨two_results (by simp), rfl⟩

set_option maxHeartbeats 400000 in
theorem bin_and (a b : Int) (w : World) (a0 : 0 ≤ a) (a1 : a < 4294967296) (b0 : 0 ≤ b) (b1 : b < 4294967296) :
    Calls Try.prog 52 #[.int .i64 8, .int .u32 a, .int .u32 b] w fun e w' => e = .returned (.tuple #[.int .u32 (bits .and .u32 a b), .bool true]) ∧ w' = w := by
  go_enter Try.func52, Try.ntmps52
  go_wp2
  go_ret2
  exact ⟨two_results (by simp), rfl⟩

set_option maxHeartbeats 400000 in
theorem bin_or (a b : Int) (w : World) (a0 : 0 ≤ a) (a1 : a < 4294967296) (b0 : 0 ≤ b) (b1 : b < 4294967296) :
    Calls Try.prog 52 #[.int .i64 9, .int .u32 a, .int .u32 b] w fun e w' => e = .returned (.tuple #[.int .u32 (bits .or .u32 a b), .bool true]) ∧ w' = w := by
  go_enter Try.func52, Try.ntmps52
  go_wp2
  go_ret2
  exact ⟨two_results (by simp), rfl⟩

set_option maxHeartbeats 400000 in
theorem bin_xor (a b : Int) (w : World) (a0 : 0 ≤ a) (a1 : a < 4294967296) (b0 : 0 ≤ b) (b1 : b < 4294967296) :
    Calls Try.prog 52 #[.int .i64 10, .int .u32 a, .int .u32 b] w fun e w' => e = .returned (.tuple #[.int .u32 (bits .xor .u32 a b), .bool true]) ∧ w' = w := by
  go_enter Try.func52, Try.ntmps52
  go_wp2
  go_ret2
  exact ⟨two_results (by simp), rfl⟩

set_option maxHeartbeats 400000 in
theorem bin_shl (a b : Int) (w : World) (a0 : 0 ≤ a) (a1 : a < 4294967296) (b0 : 0 ≤ b) (b1 : b < 4294967296) :
    Calls Try.prog 52 #[.int .i64 11, .int .u32 a, .int .u32 b] w fun e w' => e = .returned (.tuple #[.int .u32 (a * 2 ^ (b % 32).toNat % 4294967296), .bool true]) ∧ w' = w := by
  have hs0 : 0 ≤ b % 32 := by omega
  have hs1 : b % 32 ≤ 32 := by omega
  go_enter Try.func52, Try.ntmps52
  go_wp2
  go_ret2
  exact ⟨two_results (by simp), rfl⟩

set_option maxHeartbeats 400000 in
theorem bin_shrs (a b : Int) (w : World) (a0 : 0 ≤ a) (a1 : a < 4294967296) (b0 : 0 ≤ b) (b1 : b < 4294967296) :
    Calls Try.prog 52 #[.int .i64 12, .int .u32 a, .int .u32 b] w fun e w' => e = .returned (.tuple #[.int .u32 (wrap32 a / 2 ^ (b % 32).toNat % 4294967296), .bool true]) ∧ w' = w := by
  have hs0 : 0 ≤ b % 32 := by omega
  have hs1 : b % 32 ≤ 32 := by omega
  go_enter Try.func52, Try.ntmps52
  go_wp2
  go_ret2
  exact ⟨two_results (by simp), rfl⟩

set_option maxHeartbeats 400000 in
theorem bin_shru (a b : Int) (w : World) (a0 : 0 ≤ a) (a1 : a < 4294967296) (b0 : 0 ≤ b) (b1 : b < 4294967296) :
    Calls Try.prog 52 #[.int .i64 13, .int .u32 a, .int .u32 b] w fun e w' => e = .returned (.tuple #[.int .u32 (a / 2 ^ (b % 32).toNat), .bool true]) ∧ w' = w := by
  have hs0 : 0 ≤ b % 32 := by omega
  have hs1 : b % 32 ≤ 32 := by omega
  go_enter Try.func52, Try.ntmps52
  go_wp2
  go_ret2
  exact ⟨two_results (by simp), rfl⟩

set_option maxHeartbeats 400000 in
theorem bin_eq (a b : Int) (w : World) (a0 : 0 ≤ a) (a1 : a < 4294967296) (b0 : 0 ≤ b) (b1 : b < 4294967296) :
    Calls Try.prog 52 #[.int .i64 14, .int .u32 a, .int .u32 b] w fun e w' => e = .returned (.tuple #[.int .u32 (if a = b then 1 else 0), .bool true]) ∧ w' = w := by
  by_cases h : a = b
  · rw [if_pos h]
    have hq : (a == b) = true := by simpa using h
    go_enter Try.func52, Try.ntmps52
    go_wp2
    go_ret2
    exact ⟨two_results (by simp), rfl⟩
  · rw [if_neg h]
    have hq : (a == b) = false := by simpa using h
    go_enter Try.func52, Try.ntmps52
    go_wp2
    go_ret2
    exact ⟨two_results (by simp), rfl⟩

set_option maxHeartbeats 400000 in
theorem bin_ne (a b : Int) (w : World) (a0 : 0 ≤ a) (a1 : a < 4294967296) (b0 : 0 ≤ b) (b1 : b < 4294967296) :
    Calls Try.prog 52 #[.int .i64 15, .int .u32 a, .int .u32 b] w fun e w' => e = .returned (.tuple #[.int .u32 (if a = b then 0 else 1), .bool true]) ∧ w' = w := by
  by_cases h : a = b
  · rw [if_pos h]
    have hq : (a == b) = true := by simpa using h
    go_enter Try.func52, Try.ntmps52
    go_wp2
    go_ret2
    exact ⟨two_results (by simp), rfl⟩
  · rw [if_neg h]
    have hq : (a == b) = false := by simpa using h
    go_enter Try.func52, Try.ntmps52
    go_wp2
    go_ret2
    exact ⟨two_results (by simp), rfl⟩

set_option maxHeartbeats 400000 in
theorem bin_lts (a b : Int) (w : World) (a0 : 0 ≤ a) (a1 : a < 4294967296) (b0 : 0 ≤ b) (b1 : b < 4294967296) :
    Calls Try.prog 52 #[.int .i64 16, .int .u32 a, .int .u32 b] w fun e w' => e = .returned (.tuple #[.int .u32 (if bits .xor .u32 a 2147483648 < bits .xor .u32 b 2147483648 then 1 else 0), .bool true]) ∧ w' = w := by
  by_cases h : bits .xor .u32 a 2147483648 < bits .xor .u32 b 2147483648
  · rw [if_pos h]
    go_enter Try.func52, Try.ntmps52
    go_wp2
    go_ret2
    exact ⟨two_results (by simp), rfl⟩
  · rw [if_neg h]
    go_enter Try.func52, Try.ntmps52
    go_wp2
    go_ret2
    exact ⟨two_results (by simp), rfl⟩

set_option maxHeartbeats 400000 in
theorem bin_ltu (a b : Int) (w : World) (a0 : 0 ≤ a) (a1 : a < 4294967296) (b0 : 0 ≤ b) (b1 : b < 4294967296) :
    Calls Try.prog 52 #[.int .i64 17, .int .u32 a, .int .u32 b] w fun e w' => e = .returned (.tuple #[.int .u32 (if a < b then 1 else 0), .bool true]) ∧ w' = w := by
  by_cases h : a < b
  · rw [if_pos h]
    go_enter Try.func52, Try.ntmps52
    go_wp2
    go_ret2
    exact ⟨two_results (by simp), rfl⟩
  · rw [if_neg h]
    go_enter Try.func52, Try.ntmps52
    go_wp2
    go_ret2
    exact ⟨two_results (by simp), rfl⟩

set_option maxHeartbeats 400000 in
theorem bin_les (a b : Int) (w : World) (a0 : 0 ≤ a) (a1 : a < 4294967296) (b0 : 0 ≤ b) (b1 : b < 4294967296) :
    Calls Try.prog 52 #[.int .i64 18, .int .u32 a, .int .u32 b] w fun e w' => e = .returned (.tuple #[.int .u32 (if bits .xor .u32 a 2147483648 ≤ bits .xor .u32 b 2147483648 then 1 else 0), .bool true]) ∧ w' = w := by
  by_cases h : bits .xor .u32 a 2147483648 ≤ bits .xor .u32 b 2147483648
  · rw [if_pos h]
    go_enter Try.func52, Try.ntmps52
    go_wp2
    go_ret2
    exact ⟨two_results (by simp), rfl⟩
  · rw [if_neg h]
    go_enter Try.func52, Try.ntmps52
    go_wp2
    go_ret2
    exact ⟨two_results (by simp), rfl⟩

set_option maxHeartbeats 400000 in
theorem bin_leu (a b : Int) (w : World) (a0 : 0 ≤ a) (a1 : a < 4294967296) (b0 : 0 ≤ b) (b1 : b < 4294967296) :
    Calls Try.prog 52 #[.int .i64 19, .int .u32 a, .int .u32 b] w fun e w' => e = .returned (.tuple #[.int .u32 (if a ≤ b then 1 else 0), .bool true]) ∧ w' = w := by
  by_cases h : a ≤ b
  · rw [if_pos h]
    go_enter Try.func52, Try.ntmps52
    go_wp2
    go_ret2
    exact ⟨two_results (by simp), rfl⟩
  · rw [if_neg h]
    go_enter Try.func52, Try.ntmps52
    go_wp2
    go_ret2
    exact ⟨two_results (by simp), rfl⟩

set_option maxHeartbeats 400000 in
theorem bin_divs_zero (a : Int) (w : World) :
    Calls Try.prog 52 #[.int .i64 4, .int .u32 a, .int .u32 0] w fun e w' => e = .returned (.tuple #[.int .u32 0, .bool false]) ∧ w' = w := by
  go_enter Try.func52, Try.ntmps52
  go_wp2
  go_ret2
  exact ⟨rfl, rfl⟩

set_option maxHeartbeats 400000 in
theorem bin_divu_zero (a : Int) (w : World) :
    Calls Try.prog 52 #[.int .i64 5, .int .u32 a, .int .u32 0] w fun e w' => e = .returned (.tuple #[.int .u32 0, .bool false]) ∧ w' = w := by
  go_enter Try.func52, Try.ntmps52
  go_wp2
  go_ret2
  exact ⟨rfl, rfl⟩

set_option maxHeartbeats 400000 in
theorem bin_rems_zero (a : Int) (w : World) :
    Calls Try.prog 52 #[.int .i64 6, .int .u32 a, .int .u32 0] w fun e w' => e = .returned (.tuple #[.int .u32 0, .bool false]) ∧ w' = w := by
  go_enter Try.func52, Try.ntmps52
  go_wp2
  go_ret2
  exact ⟨rfl, rfl⟩

set_option maxHeartbeats 400000 in
theorem bin_remu_zero (a : Int) (w : World) :
    Calls Try.prog 52 #[.int .i64 7, .int .u32 a, .int .u32 0] w fun e w' => e = .returned (.tuple #[.int .u32 0, .bool false]) ∧ w' = w := by
  go_enter Try.func52, Try.ntmps52
  go_wp2
  go_ret2
  exact ⟨rfl, rfl⟩
end Go.Proofs.Ytigiahcfcglacaa.W
