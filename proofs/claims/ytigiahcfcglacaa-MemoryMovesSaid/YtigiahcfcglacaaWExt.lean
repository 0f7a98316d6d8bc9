/-
  What the program's function extend and the document's function extended answer: the lowest bytes of a number, filled up above with copies of the sign or with noughts; both leave the world as it was.
-/
import Derived.Test.YtigiahcfcglacaaWRef
namespace Go.Proofs.Ytigiahcfcglacaa.W
open Go.RowKit
set_option linter.unusedVariables false

/-- The lowest byte, the lowest two bytes, with their sign. -/
def low8 (v : Int) : Int := if v % 256 < 128 then v % 256 else v % 256 + 4294967040
def low16 (v : Int) : Int := if v % 65536 < 32768 then v % 65536 else v % 65536 + 4294901760
theorem wrap8 (v : Int) : IntKind.i8.wrap v % 4294967296 = low8 v := by
  have e : IntKind.i8.wrap v = if 128 ≤ v % 256 then v % 256 - 256 else v % 256 := by simp [IntKind.wrap, IntKind.bits, IntKind.signed]
  rw [e]
  unfold low8
  by_cases h : v % 256 < 128
  · rw [if_pos h, if_neg (by omega)]; omega
  · rw [if_neg h, if_pos (by omega)]; omega
theorem wrap16 (v : Int) : IntKind.i16.wrap v % 4294967296 = low16 v := by
  have e : IntKind.i16.wrap v = if 32768 ≤ v % 65536 then v % 65536 - 65536 else v % 65536 := by simp [IntKind.wrap, IntKind.bits, IntKind.signed]
  rw [e]
  unfold low16
  by_cases h : v % 65536 < 32768
  · rw [if_pos h, if_neg (by omega)]; omega
  · rw [if_neg h, if_pos (by omega)]; omega
theorem mask8 (v : Int) (v0 : 0 ≤ v) (v1 : v < 4294967296) : bits .and .u32 v 255 = v % 256 := by
  rw [u32_and v _ v0 v1 (by decide) (by decide)]
  have h : v.toNat &&& (255 : Int).toNat = v.toNat % 2 ^ 8 := Nat.and_two_pow_sub_one_eq_mod _ 8
  rw [h]; omega
theorem mask16 (v : Int) (v0 : 0 ≤ v) (v1 : v < 4294967296) : bits .and .u32 v 65535 = v % 65536 := by
  rw [u32_and v _ v0 v1 (by decide) (by decide)]
  have h : v.toNat &&& (65535 : Int).toNat = v.toNat % 2 ^ 16 := Nat.and_two_pow_sub_one_eq_mod _ 16
  rw [h]; omega
theorem fill8 (v : Int) (v0 : 0 ≤ v) (v1 : v < 256) : bits .or .u32 v 4294967040 = v + 4294967040 := by
  rw [u32_or v _ v0 (by omega) (by decide) (by decide), Nat.or_comm, nat_join 8 _ _ (by decide) (by omega)]
  have : (4294967040 : Int).toNat = 4294967040 := by decide
  omega
theorem fill16 (v : Int) (v0 : 0 ≤ v) (v1 : v < 65536) : bits .or .u32 v 4294901760 = v + 4294901760 := by
  rw [u32_or v _ v0 (by omega) (by decide) (by decide), Nat.or_comm, nat_join 16 _ _ (by decide) (by omega)]
  have : (4294901760 : Int).toNat = 4294901760 := by decide
  omega

set_option maxHeartbeats 400000 in
theorem extend_1s (v : Int) (w : World) (v0 : 0 ≤ v) (v1 : v < 4294967296) : Calls Try.prog 84 #[.int .u32 v, .int .i64 1, .bool true] w fun e w' => e = .returned (.int .u32 (low8 v)) ∧ w' = w := by
  go_enter Try.func84, Try.ntmps84
  go_wp2
  go_ret
  exact ⟨one_result (wrap8 v), rfl⟩
set_option maxHeartbeats 400000 in
theorem extend_1u (v : Int) (w : World) (v0 : 0 ≤ v) (v1 : v < 4294967296) : Calls Try.prog 84 #[.int .u32 v, .int .i64 1, .bool false] w fun e w' => e = .returned (.int .u32 (v % 256)) ∧ w' = w := by
  go_enter Try.func84, Try.ntmps84
  go_wp2
  go_ret
  exact ⟨rfl, rfl⟩
set_option maxHeartbeats 400000 in
theorem extend_2s (v : Int) (w : World) (v0 : 0 ≤ v) (v1 : v < 4294967296) : Calls Try.prog 84 #[.int .u32 v, .int .i64 2, .bool true] w fun e w' => e = .returned (.int .u32 (low16 v)) ∧ w' = w := by
  go_enter Try.func84, Try.ntmps84
  go_wp2
  go_ret
  exact ⟨one_result (wrap16 v), rfl⟩
set_option maxHeartbeats 400000 in
theorem extend_2u (v : Int) (w : World) (v0 : 0 ≤ v) (v1 : v < 4294967296) : Calls Try.prog 84 #[.int .u32 v, .int .i64 2, .bool false] w fun e w' => e = .returned (.int .u32 (v % 65536)) ∧ w' = w := by
  go_enter Try.func84, Try.ntmps84
  go_wp2
  go_ret
  exact ⟨one_result (by rw [IntKind.wrap_u16]; omega), rfl⟩
set_option maxHeartbeats 400000 in
theorem extend_all (v k : Int) (s : Bool) (w : World) (h1 : (k == 1) = false) (h2 : (k == 2) = false) : Calls Try.prog 84 #[.int .u32 v, .int .i64 k, .bool s] w fun e w' => e = .returned (.int .u32 v) ∧ w' = w := by
  go_enter Try.func84, Try.ntmps84
  go_wp2
  go_ret
  exact ⟨rfl, rfl⟩
set_option maxHeartbeats 400000 in
theorem extended_1s (v : Int) (w : World) (v0 : 0 ≤ v) (v1 : v < 4294967296) : Calls Try.prog 77 #[.int .u32 v, .int .i64 1, .bool true] w fun e w' => e = .returned (.int .u32 (low8 v)) ∧ w' = w := by
  have hm := mask8 v v0 v1
  have hf := fill8 (v % 256) (by omega) (by omega)
  by_cases h : v % 256 < 128
  · have hq : (v % 256 / 128 == 1) = false := by simp; omega
    have hl : low8 v = v % 256 := if_pos h
    rw [hl]
    clear hl hf
    go_enter Try.func77, Try.ntmps77
    go_wp2
    go_ret
    exact ⟨rfl, rfl⟩
  · have hq : (v % 256 / 128 == 1) = true := by simp; omega
    have hl : low8 v = v % 256 + 4294967040 := if_neg h
    rw [hl]
    clear hl
    go_enter Try.func77, Try.ntmps77
    go_wp2
    go_ret
    exact ⟨one_result (by simp), rfl⟩
set_option maxHeartbeats 400000 in
theorem extended_1u (v : Int) (w : World) (v0 : 0 ≤ v) (v1 : v < 4294967296) : Calls Try.prog 77 #[.int .u32 v, .int .i64 1, .bool false] w fun e w' => e = .returned (.int .u32 (v % 256)) ∧ w' = w := by
  have hm := mask8 v v0 v1
  go_enter Try.func77, Try.ntmps77
  go_wp2
  go_ret
  exact ⟨one_result (by simp), rfl⟩
set_option maxHeartbeats 400000 in
theorem extended_2s (v : Int) (w : World) (v0 : 0 ≤ v) (v1 : v < 4294967296) : Calls Try.prog 77 #[.int .u32 v, .int .i64 2, .bool true] w fun e w' => e = .returned (.int .u32 (low16 v)) ∧ w' = w := by
  have hm := mask16 v v0 v1
  have hf := fill16 (v % 65536) (by omega) (by omega)
  by_cases h : v % 65536 < 32768
  · have hq : (v % 65536 / 32768 == 1) = false := by simp; omega
    have hl : low16 v = v % 65536 := if_pos h
    rw [hl]
    clear hl hf
    go_enter Try.func77, Try.ntmps77
    go_wp2
    go_ret
    exact ⟨rfl, rfl⟩
  · have hq : (v % 65536 / 32768 == 1) = true := by simp; omega
    have hl : low16 v = v % 65536 + 4294901760 := if_neg h
    rw [hl]
    clear hl
    go_enter Try.func77, Try.ntmps77
    go_wp2
    go_ret
    exact ⟨one_result (by simp), rfl⟩
set_option maxHeartbeats 400000 in
theorem extended_2u (v : Int) (w : World) (v0 : 0 ≤ v) (v1 : v < 4294967296) : Calls Try.prog 77 #[.int .u32 v, .int .i64 2, .bool false] w fun e w' => e = .returned (.int .u32 (v % 65536)) ∧ w' = w := by
  have hm := mask16 v v0 v1
  go_enter Try.func77, Try.ntmps77
  go_wp2
  go_ret
  exact ⟨one_result (by simp), rfl⟩
set_option maxHeartbeats 400000 in
theorem extended_all (v k : Int) (s : Bool) (w : World) (h1 : (k == 1) = false) (h2 : (k == 2) = false) : Calls Try.prog 77 #[.int .u32 v, .int .i64 k, .bool s] w fun e w' => e = .returned (.int .u32 v) ∧ w' = w := by
  have h3 : (k != 1) = true := by simp [bne, h1]
  have h4 : (k != 2) = true := by simp [bne, h2]
  go_enter Try.func77, Try.ntmps77
  go_wp2
  go_ret
  exact ⟨rfl, rfl⟩
end Go.Proofs.Ytigiahcfcglacaa.W
