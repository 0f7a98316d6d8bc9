/-
  What the given reading of the table of the operations' names says of memory: its nineteen cells hold the nineteen names; and the start from which the program's own initialiser leaves them so.
  What the laws' common part heads answers: it returns true, and changes nothing that was there before, in every world in which the table of the operations' names holds its nineteenth name.
  What the document's own function Bin (package mortiseref01) answers at each of its nineteen operations, for every two numbers of 32 bits, in the same words as the program's; it leaves the world as it was.
  What the program's function extend and the document's function extended answer: the lowest bytes of a number, filled up above with copies of the sign or with noughts; both leave the world as it was.
  At every kind the program's functions Width, Signed, Convert and Fits answer as the document's own; all leave the world as it was.
-/
import Derived.Test.YtpnpilbmhkiphaaGreatDoorWBin
import Derived.Deep.QuietTactic
import Derived.BigQuiet
import Derived.LoopN
import Derived.Laws.BitsAllLaws
import Derived.Laws.Bits64
import Derived.Laws.Shifts
import Derived.Test.YtpnpilbmhkiphaaGreatDoorRows
import Derived.ProofKit
import Derived.LaidMore
import Derived.OpenShut
import Derived.Stop.Joined
namespace Go.Proofs.YtpnpilbmhkiphaaGreatDoor.W
open Go.RowKit
set_option linter.unusedVariables false

theorem one_result {k : IntKind} {x y : Int} (h : x = y) : Ending.returned (.int k x) = .returned (.int k y) := by rw [h]

set_option maxHeartbeats 400000 in
theorem name_19 (w : World) (h0 : w.cell? ⟨0, 18, none⟩ = some (.string ⟨#[108, 101, 117]⟩)) :
    Calls Tryz.prog 71 #[.int .i64 19] w fun e w' => e = .returned (.string ⟨#[108, 101, 117]⟩) ∧ w' = w := by
  go_enter Tryz.func71, Tryz.ntmps71
  go_wp2
  go_ret
  exact ⟨rfl, rfl⟩

theorem of_7 (w : World) : Calls Tryz.prog 127 #[.int .i64 (-7)] w fun e w' => e = .returned (.int .u32 4294967289) ∧ w' = w := by
  go_enter Tryz.func127, Tryz.ntmps127
  go_wp2
  go_ret
  exact ⟨one_result (by decide), rfl⟩
theorem of_1 (w : World) : Calls Tryz.prog 127 #[.int .i64 (-1)] w fun e w' => e = .returned (.int .u32 4294967295) ∧ w' = w := by
  go_enter Tryz.func127, Tryz.ntmps127
  go_wp2
  go_ret
  exact ⟨one_result (by decide), rfl⟩
theorem int_any (a : Int) (w : World) : Calls Tryz.prog 128 #[.int .u32 a] w fun e w' => e = .returned (.int .i64 (wrap64 (wrap32 a))) ∧ w' = w := by
  go_enter Tryz.func128, Tryz.ntmps128
  go_wp2
  go_ret
  exact ⟨rfl, rfl⟩
theorem int_3 (w : World) : Calls Tryz.prog 128 #[.int .u32 4294967293] w fun e w' => e = .returned (.int .i64 (-3)) ∧ w' = w := by
  have h := int_any 4294967293 w
  rw [show wrap64 (wrap32 4294967293) = -3 by decide +kernel] at h
  exact h
theorem int_1 (w : World) : Calls Tryz.prog 128 #[.int .u32 4294967295] w fun e w' => e = .returned (.int .i64 (-1)) ∧ w' = w := by
  have h := int_any 4294967295 w
  rw [show wrap64 (wrap32 4294967295) = -1 by decide +kernel] at h
  exact h
theorem div_7 (w : World) : Calls Tryz.prog 72 #[.int .i64 4, .int .u32 4294967289, .int .u32 2] w fun e w' => e = .returned (.tuple #[.int .u32 4294967293, .bool true]) ∧ w' = w := by
  have h := bin_divs 4294967289 2 w (by decide) (by decide) (by decide) (by decide)
  rw [show wrap64 ((wrap64 (wrap32 4294967289)).tdiv (wrap64 (wrap32 2))) % 4294967296 = 4294967293 by decide +kernel] at h
  exact h
theorem rem_7 (w : World) : Calls Tryz.prog 72 #[.int .i64 6, .int .u32 4294967289, .int .u32 2] w fun e w' => e = .returned (.tuple #[.int .u32 4294967295, .bool true]) ∧ w' = w := by
  have h := bin_rems 4294967289 2 w (by decide) (by decide) (by decide) (by decide)
  rw [show (wrap64 (wrap32 4294967289)).tmod (wrap64 (wrap32 2)) % 4294967296 = 4294967295 by decide +kernel] at h
  exact h
theorem div_1 (w : World) : Calls Tryz.prog 72 #[.int .i64 4, .int .u32 2147483648, .int .u32 4294967295] w fun e w' => e = .returned (.tuple #[.int .u32 2147483648, .bool true]) ∧ w' = w := by
  have h := bin_divs 2147483648 4294967295 w (by decide) (by decide) (by decide) (by decide)
  rw [show wrap64 ((wrap64 (wrap32 2147483648)).tdiv (wrap64 (wrap32 4294967295))) % 4294967296 = 2147483648 by decide +kernel] at h
  exact h
theorem div_0 (w : World) : Calls Tryz.prog 72 #[.int .i64 5, .int .u32 1, .int .u32 0] w fun e w' => e = .returned (.tuple #[.int .u32 0, .bool false]) ∧ w' = w := by
  go_enter Tryz.func72, Tryz.ntmps72
  go_wp2
  go_ret2
  exact ⟨rfl, rfl⟩
theorem conv_char (w : World) : Calls Tryz.prog 73 #[.int .i64 3, .int .u32 511] w fun e w' => e = .returned (.int .u32 4294967295) ∧ w' = w := by
  go_enter Tryz.func73, Tryz.ntmps73
  go_wp2
  go_ret
  exact ⟨rfl, rfl⟩
theorem conv_bool (w : World) : Calls Tryz.prog 73 #[.int .i64 2, .int .u32 256] w fun e w' => e = .returned (.int .u32 1) ∧ w' = w := by
  go_enter Tryz.func73, Tryz.ntmps73
  go_wp2
  go_ret
  exact ⟨rfl, rfl⟩

end Go.Proofs.YtpnpilbmhkiphaaGreatDoor.W
namespace Go.Proofs.YtpnpilbmhkiphaaGreatDoor.W
open Go.RowKit
set_option linter.unusedVariables false

theorem low_bits (n : Int) : bits .and .u64 (n % 18446744073709551616) 4294967295 = n % 4294967296 := by
  rw [u64_and _ _ (by omega) (by omega) (by decide) (by decide)]
  have h : (n % 18446744073709551616).toNat &&& (4294967295 : Int).toNat = (n % 18446744073709551616).toNat % 2 ^ 32 := Nat.and_two_pow_sub_one_eq_mod _ 32
  rw [h]
  omega
theorem wrap64_small (s : Int) (h1 : -2147483648 ≤ s) (h2 : s ≤ 4294967296) : wrap64 s = s := by unfold wrap64; omega
theorem wrap32_bd (a : Int) : -2147483648 ≤ wrap32 a ∧ wrap32 a < 2147483648 := by unfold wrap32; omega
theorem xor_hi (y : Nat) (hy : y < 2 ^ 31) : 2 ^ 31 ^^^ y = 2 ^ 31 + y := by
  rw [← nat_join 31 (2 ^ 31) y (by decide) hy]
  apply Nat.eq_of_testBit_eq
  intro i
  simp only [Nat.testBit_xor, Nat.testBit_or, Nat.testBit_two_pow]
  by_cases h : 31 = i
  · subst h
    rw [Nat.testBit_lt_two_pow hy]
    simp
  · simp [h]
/-- To turn the highest bit over is to add half the range. -/
theorem turned (a : Int) (a0 : 0 ≤ a) (a1 : a < 4294967296) : bits .xor .u32 a 2147483648 = wrap32 a + 2147483648 := by
  rw [u32_xor a _ a0 a1 (by decide) (by decide)]
  have e : ((2147483648 : Int).toNat) = 2 ^ 31 := by decide
  rw [e]
  by_cases h : a < 2147483648
  · rw [Nat.xor_comm, xor_hi a.toNat (by omega)]
    unfold wrap32
    omega
  · have h2 : a.toNat = 2 ^ 31 ^^^ (a.toNat - 2 ^ 31) := by rw [xor_hi _ (by omega)]; omega
    rw [h2, Nat.xor_comm (2 ^ 31), Nat.xor_assoc, Nat.xor_self, Nat.xor_zero]
    unfold wrap32
    omega

end Go.Proofs.YtpnpilbmhkiphaaGreatDoor.W
namespace Go.Proofs.YtpnpilbmhkiphaaGreatDoor.W
open Go.RowKit
set_option linter.unusedVariables false

/-- The lowest byte, the lowest two bytes, with their sign. -/
def low8 (v : Int) : Int := if v % 256 < 128 then v % 256 else v % 256 + 4294967040
def low16 (v : Int) : Int := if v % 65536 < 32768 then v % 65536 else v % 65536 + 4294901760
theorem wrap8 (v : Int) : IntKind.i8.wrap v % 4294967296 = low8 v := by
  have e : IntKind.i8.wrap v = if 128 ≤ v % 256 then v % 256 - 256 else v % 256 := by simp [IntKind.wrap, IntKind.bits, IntKind.signed]
  rw [e]
  unfold low8
  by_cases h : v % 256 < 128
  · rw [if_pos h, if_neg (by omega)]; omega
  · rw [if_neg h, if_pos (by omega)]; omega
theorem wrap16 (v : Int) : IntKind.i16.wrap v % 4294967296 = low16 v := by
  have e : IntKind.i16.wrap v = if 32768 ≤ v % 65536 then v % 65536 - 65536 else v % 65536 := by simp [IntKind.wrap, IntKind.bits, IntKind.signed]
  rw [e]
  unfold low16
  by_cases h : v % 65536 < 32768
  · rw [if_pos h, if_neg (by omega)]; omega
  · rw [if_neg h, if_pos (by omega)]; omega
theorem mask8 (v : Int) (v0 : 0 ≤ v) (v1 : v < 4294967296) : bits .and .u32 v 255 = v % 256 := by
  rw [u32_and v _ v0 v1 (by decide) (by decide)]
  have h : v.toNat &&& (255 : Int).toNat = v.toNat % 2 ^ 8 := Nat.and_two_pow_sub_one_eq_mod _ 8
  rw [h]; omega
theorem mask16 (v : Int) (v0 : 0 ≤ v) (v1 : v < 4294967296) : bits .and .u32 v 65535 = v % 65536 := by
  rw [u32_and v _ v0 v1 (by decide) (by decide)]
  have h : v.toNat &&& (65535 : Int).toNat = v.toNat % 2 ^ 16 := Nat.and_two_pow_sub_one_eq_mod _ 16
  rw [h]; omega
theorem fill8 (v : Int) (v0 : 0 ≤ v) (v1 : v < 256) : bits .or .u32 v 4294967040 = v + 4294967040 := by
  rw [u32_or v _ v0 (by omega) (by decide) (by decide), Nat.or_comm, nat_join 8 _ _ (by decide) (by omega)]
  have : (4294967040 : Int).toNat = 4294967040 := by decide
  omega
theorem fill16 (v : Int) (v0 : 0 ≤ v) (v1 : v < 65536) : bits .or .u32 v 4294901760 = v + 4294901760 := by
  rw [u32_or v _ v0 (by omega) (by decide) (by decide), Nat.or_comm, nat_join 16 _ _ (by decide) (by omega)]
  have : (4294901760 : Int).toNat = 4294901760 := by decide
  omega

set_option maxHeartbeats 400000 in
theorem extend_1s (v : Int) (w : World) (v0 : 0 ≤ v) (v1 : v < 4294967296) : Calls Tryz.prog 110 #[.int .u32 v, .int .i64 1, .bool true] w fun e w' => e = .returned (.int .u32 (low8 v)) ∧ w' = w := by
  go_enter Tryz.func110, Tryz.ntmps110
  go_wp2
  go_ret
  exact ⟨one_result (wrap8 v), rfl⟩
set_option maxHeartbeats 400000 in
theorem extend_1u (v : Int) (w : World) (v0 : 0 ≤ v) (v1 : v < 4294967296) : Calls Tryz.prog 110 #[.int .u32 v, .int .i64 1, .bool false] w fun e w' => e = .returned (.int .u32 (v % 256)) ∧ w' = w := by
  go_enter Tryz.func110, Tryz.ntmps110
  go_wp2
  go_ret
  exact ⟨rfl, rfl⟩
set_option maxHeartbeats 400000 in
theorem extend_2s (v : Int) (w : World) (v0 : 0 ≤ v) (v1 : v < 4294967296) : Calls Tryz.prog 110 #[.int .u32 v, .int .i64 2, .bool true] w fun e w' => e = .returned (.int .u32 (low16 v)) ∧ w' = w := by
  go_enter Tryz.func110, Tryz.ntmps110
  go_wp2
  go_ret
  exact ⟨one_result (wrap16 v), rfl⟩
set_option maxHeartbeats 400000 in
theorem extend_2u (v : Int) (w : World) (v0 : 0 ≤ v) (v1 : v < 4294967296) : Calls Tryz.prog 110 #[.int .u32 v, .int .i64 2, .bool false] w fun e w' => e = .returned (.int .u32 (v % 65536)) ∧ w' = w := by
  go_enter Tryz.func110, Tryz.ntmps110
  go_wp2
  go_ret
  exact ⟨one_result (by rw [IntKind.wrap_u16]; omega), rfl⟩
set_option maxHeartbeats 400000 in
theorem extend_all (v k : Int) (s : Bool) (w : World) (h1 : (k == 1) = false) (h2 : (k == 2) = false) : Calls Tryz.prog 110 #[.int .u32 v, .int .i64 k, .bool s] w fun e w' => e = .returned (.int .u32 v) ∧ w' = w := by
  go_enter Tryz.func110, Tryz.ntmps110
  go_wp2
  go_ret
  exact ⟨rfl, rfl⟩
end Go.Proofs.YtpnpilbmhkiphaaGreatDoor.W
namespace Go.Proofs.YtpnpilbmhkiphaaGreatDoor.W
open Go.RowKit
set_option linter.unusedVariables false

/-- A call answers that, and leaves the world as it was. -/
abbrev Answers (f : Nat) (args : Array Value) (v : Value) : Prop := ∀ w, Calls Tryz.prog f args w fun e w' => e = .returned v ∧ w' = w
/-- Width and Signed of both. -/
def WideSigned (k width : Int) (signed : Bool) : Prop :=
  Answers 111 #[.int .i64 k] (.int .i64 width) ∧ Answers 89 #[.int .i64 k] (.int .i64 width) ∧
  Answers 112 #[.int .i64 k] (.bool signed) ∧ Answers 117 #[.int .i64 k] (.bool signed)

set_option maxHeartbeats 400000 in
theorem wide_2 : WideSigned 2 1 false := by
  refine ⟨fun w => ?_, fun w => ?_, fun w => ?_, fun w => ?_⟩
  · go_enter Tryz.func111, Tryz.ntmps111
    go_wp2
    go_ret
    exact ⟨rfl, rfl⟩
  · go_enter Tryz.func89, Tryz.ntmps89
    go_wp2
    go_ret
    exact ⟨rfl, rfl⟩
  · go_enter Tryz.func112, Tryz.ntmps112
    go_wp2
    go_ret
    exact ⟨rfl, rfl⟩
  · go_enter Tryz.func117, Tryz.ntmps117
    go_wp2
    go_ret
    exact ⟨rfl, rfl⟩

set_option maxHeartbeats 400000 in
theorem wide_3 : WideSigned 3 1 true := by
  refine ⟨fun w => ?_, fun w => ?_, fun w => ?_, fun w => ?_⟩
  · go_enter Tryz.func111, Tryz.ntmps111
    go_wp2
    go_ret
    exact ⟨rfl, rfl⟩
  · go_enter Tryz.func89, Tryz.ntmps89
    go_wp2
    go_ret
    exact ⟨rfl, rfl⟩
  · go_enter Tryz.func112, Tryz.ntmps112
    go_wp2
    go_ret
    exact ⟨rfl, rfl⟩
  · go_enter Tryz.func117, Tryz.ntmps117
    go_wp2
    go_ret
    exact ⟨rfl, rfl⟩

set_option maxHeartbeats 400000 in
theorem wide_4 : WideSigned 4 1 true := by
  refine ⟨fun w => ?_, fun w => ?_, fun w => ?_, fun w => ?_⟩
  · go_enter Tryz.func111, Tryz.ntmps111
    go_wp2
    go_ret
    exact ⟨rfl, rfl⟩
  · go_enter Tryz.func89, Tryz.ntmps89
    go_wp2
    go_ret
    exact ⟨rfl, rfl⟩
  · go_enter Tryz.func112, Tryz.ntmps112
    go_wp2
    go_ret
    exact ⟨rfl, rfl⟩
  · go_enter Tryz.func117, Tryz.ntmps117
    go_wp2
    go_ret
    exact ⟨rfl, rfl⟩

set_option maxHeartbeats 400000 in
theorem wide_5 : WideSigned 5 1 false := by
  refine ⟨fun w => ?_, fun w => ?_, fun w => ?_, fun w => ?_⟩
  · go_enter Tryz.func111, Tryz.ntmps111
    go_wp2
    go_ret
    exact ⟨rfl, rfl⟩
  · go_enter Tryz.func89, Tryz.ntmps89
    go_wp2
    go_ret
    exact ⟨rfl, rfl⟩
  · go_enter Tryz.func112, Tryz.ntmps112
    go_wp2
    go_ret
    exact ⟨rfl, rfl⟩
  · go_enter Tryz.func117, Tryz.ntmps117
    go_wp2
    go_ret
    exact ⟨rfl, rfl⟩

set_option maxHeartbeats 400000 in
theorem wide_6 : WideSigned 6 2 true := by
  refine ⟨fun w => ?_, fun w => ?_, fun w => ?_, fun w => ?_⟩
  · go_enter Tryz.func111, Tryz.ntmps111
    go_wp2
    go_ret
    exact ⟨rfl, rfl⟩
  · go_enter Tryz.func89, Tryz.ntmps89
    go_wp2
    go_ret
    exact ⟨rfl, rfl⟩
  · go_enter Tryz.func112, Tryz.ntmps112
    go_wp2
    go_ret
    exact ⟨rfl, rfl⟩
  · go_enter Tryz.func117, Tryz.ntmps117
    go_wp2
    go_ret
    exact ⟨rfl, rfl⟩

set_option maxHeartbeats 400000 in
theorem wide_7 : WideSigned 7 2 false := by
  refine ⟨fun w => ?_, fun w => ?_, fun w => ?_, fun w => ?_⟩
  · go_enter Tryz.func111, Tryz.ntmps111
    go_wp2
    go_ret
    exact ⟨rfl, rfl⟩
  · go_enter Tryz.func89, Tryz.ntmps89
    go_wp2
    go_ret
    exact ⟨rfl, rfl⟩
  · go_enter Tryz.func112, Tryz.ntmps112
    go_wp2
    go_ret
    exact ⟨rfl, rfl⟩
  · go_enter Tryz.func117, Tryz.ntmps117
    go_wp2
    go_ret
    exact ⟨rfl, rfl⟩

set_option maxHeartbeats 400000 in
theorem wide_8 : WideSigned 8 4 true := by
  refine ⟨fun w => ?_, fun w => ?_, fun w => ?_, fun w => ?_⟩
  · go_enter Tryz.func111, Tryz.ntmps111
    go_wp2
    go_ret
    exact ⟨rfl, rfl⟩
  · go_enter Tryz.func89, Tryz.ntmps89
    go_wp2
    go_ret
    exact ⟨rfl, rfl⟩
  · go_enter Tryz.func112, Tryz.ntmps112
    go_wp2
    go_ret
    exact ⟨rfl, rfl⟩
  · go_enter Tryz.func117, Tryz.ntmps117
    go_wp2
    go_ret
    exact ⟨rfl, rfl⟩

set_option maxHeartbeats 400000 in
theorem wide_9 : WideSigned 9 4 false := by
  refine ⟨fun w => ?_, fun w => ?_, fun w => ?_, fun w => ?_⟩
  · go_enter Tryz.func111, Tryz.ntmps111
    go_wp2
    go_ret
    exact ⟨rfl, rfl⟩
  · go_enter Tryz.func89, Tryz.ntmps89
    go_wp2
    go_ret
    exact ⟨rfl, rfl⟩
  · go_enter Tryz.func112, Tryz.ntmps112
    go_wp2
    go_ret
    exact ⟨rfl, rfl⟩
  · go_enter Tryz.func117, Tryz.ntmps117
    go_wp2
    go_ret
    exact ⟨rfl, rfl⟩

set_option maxHeartbeats 400000 in
theorem wide_10 : WideSigned 10 4 true := by
  refine ⟨fun w => ?_, fun w => ?_, fun w => ?_, fun w => ?_⟩
  · go_enter Tryz.func111, Tryz.ntmps111
    go_wp2
    go_ret
    exact ⟨rfl, rfl⟩
  · go_enter Tryz.func89, Tryz.ntmps89
    go_wp2
    go_ret
    exact ⟨rfl, rfl⟩
  · go_enter Tryz.func112, Tryz.ntmps112
    go_wp2
    go_ret
    exact ⟨rfl, rfl⟩
  · go_enter Tryz.func117, Tryz.ntmps117
    go_wp2
    go_ret
    exact ⟨rfl, rfl⟩

set_option maxHeartbeats 400000 in
theorem wide_11 : WideSigned 11 4 false := by
  refine ⟨fun w => ?_, fun w => ?_, fun w => ?_, fun w => ?_⟩
  · go_enter Tryz.func111, Tryz.ntmps111
    go_wp2
    go_ret
    exact ⟨rfl, rfl⟩
  · go_enter Tryz.func89, Tryz.ntmps89
    go_wp2
    go_ret
    exact ⟨rfl, rfl⟩
  · go_enter Tryz.func112, Tryz.ntmps112
    go_wp2
    go_ret
    exact ⟨rfl, rfl⟩
  · go_enter Tryz.func117, Tryz.ntmps117
    go_wp2
    go_ret
    exact ⟨rfl, rfl⟩

set_option maxHeartbeats 400000 in
theorem wide_12 : WideSigned 12 4 true := by
  refine ⟨fun w => ?_, fun w => ?_, fun w => ?_, fun w => ?_⟩
  · go_enter Tryz.func111, Tryz.ntmps111
    go_wp2
    go_ret
    exact ⟨rfl, rfl⟩
  · go_enter Tryz.func89, Tryz.ntmps89
    go_wp2
    go_ret
    exact ⟨rfl, rfl⟩
  · go_enter Tryz.func112, Tryz.ntmps112
    go_wp2
    go_ret
    exact ⟨rfl, rfl⟩
  · go_enter Tryz.func117, Tryz.ntmps117
    go_wp2
    go_ret
    exact ⟨rfl, rfl⟩

set_option maxHeartbeats 400000 in
theorem wide_13 : WideSigned 13 4 false := by
  refine ⟨fun w => ?_, fun w => ?_, fun w => ?_, fun w => ?_⟩
  · go_enter Tryz.func111, Tryz.ntmps111
    go_wp2
    go_ret
    exact ⟨rfl, rfl⟩
  · go_enter Tryz.func89, Tryz.ntmps89
    go_wp2
    go_ret
    exact ⟨rfl, rfl⟩
  · go_enter Tryz.func112, Tryz.ntmps112
    go_wp2
    go_ret
    exact ⟨rfl, rfl⟩
  · go_enter Tryz.func117, Tryz.ntmps117
    go_wp2
    go_ret
    exact ⟨rfl, rfl⟩

set_option maxRecDepth 100000 in
set_option maxHeartbeats 1000000 in
theorem wide_no (k : Int) (h2 : (k == 2) = false) (h3 : (k == 3) = false) (h4 : (k == 4) = false) (h5 : (k == 5) = false) (h6 : (k == 6) = false) (h7 : (k == 7) = false) (h8 : (k == 8) = false) (h9 : (k == 9) = false) (h10 : (k == 10) = false) (h11 : (k == 11) = false) (h12 : (k == 12) = false) (h13 : (k == 13) = false) : WideSigned k 0 false := by
  refine ⟨fun w => ?_, fun w => ?_, fun w => ?_, fun w => ?_⟩
  · go_enter Tryz.func111, Tryz.ntmps111
    go_wp2
    go_ret
    exact ⟨rfl, rfl⟩
  · go_enter Tryz.func89, Tryz.ntmps89
    go_wp2
    go_ret
    exact ⟨rfl, rfl⟩
  · go_enter Tryz.func112, Tryz.ntmps112
    go_wp2
    go_ret
    exact ⟨rfl, rfl⟩
  · go_enter Tryz.func117, Tryz.ntmps117
    go_wp2
    go_ret
    exact ⟨rfl, rfl⟩

/-- What Convert of a kind answers: by its width and its sign. -/
def conv (k v : Int) : Int :=
  if k = 2 then (if v = 0 then 0 else 1) else if k = 3 ∨ k = 4 then low8 v else if k = 5 then v % 256 else if k = 6 then low16 v else if k = 7 then v % 65536 else v
theorem no_kind (k j : Int) (h : k < 2 ∨ 13 < k) (j1 : 2 ≤ j) (j2 : j ≤ 13) : (k == j) = false := by
  simp; omega
/-- The width and the sign of every kind. -/
def widthOf (k : Int) : Int := if 2 ≤ k ∧ k ≤ 5 then 1 else if 6 ≤ k ∧ k ≤ 7 then 2 else if 8 ≤ k ∧ k ≤ 13 then 4 else 0
def signOf (k : Int) : Bool := decide (k = 3 ∨ k = 4 ∨ k = 6 ∨ k = 8 ∨ k = 10 ∨ k = 12)
theorem wide_any (k : Int) : WideSigned k (widthOf k) (signOf k) := by
  by_cases h : k < 2 ∨ 13 < k
  · have e1 : widthOf k = 0 := by unfold widthOf; rw [if_neg (by omega), if_neg (by omega), if_neg (by omega)]
    have e2 : signOf k = false := by unfold signOf; simp; omega
    rw [e1, e2]
    exact wide_no k (no_kind k 2 h (by decide) (by decide)) (no_kind k 3 h (by decide) (by decide)) (no_kind k 4 h (by decide) (by decide)) (no_kind k 5 h (by decide) (by decide)) (no_kind k 6 h (by decide) (by decide)) (no_kind k 7 h (by decide) (by decide)) (no_kind k 8 h (by decide) (by decide)) (no_kind k 9 h (by decide) (by decide)) (no_kind k 10 h (by decide) (by decide)) (no_kind k 11 h (by decide) (by decide)) (no_kind k 12 h (by decide) (by decide)) (no_kind k 13 h (by decide) (by decide))
  · have hk : k = 2 ∨ k = 3 ∨ k = 4 ∨ k = 5 ∨ k = 6 ∨ k = 7 ∨ k = 8 ∨ k = 9 ∨ k = 10 ∨ k = 11 ∨ k = 12 ∨ k = 13 := by omega
    rcases hk with rfl | rfl | rfl | rfl | rfl | rfl | rfl | rfl | rfl | rfl | rfl | rfl
    · exact wide_2
    · exact wide_3
    · exact wide_4
    · exact wide_5
    · exact wide_6
    · exact wide_7
    · exact wide_8
    · exact wide_9
    · exact wide_10
    · exact wide_11
    · exact wide_12
    · exact wide_13
end Go.Proofs.YtpnpilbmhkiphaaGreatDoor.W
namespace Go.Proofs.YtpnpilbmhkiphaaGreatDoor.W
open Go.ChangeShapes Go.WideShapes Go.ChangeAt Go.RowKit

theorem own : ownKnob Tryz.prog.godebug = none := by kernel_rfl

/-- The names, as the listed datum has them. -/
def nameList : List (List UInt8) := [[97, 100, 100], [115, 117, 98], [109, 117, 108], [100, 105, 118, 115], [100, 105, 118, 117], [114, 101, 109, 115], [114, 101, 109, 117], [97, 110, 100], [111, 114], [120, 111, 114], [115, 104, 108], [115, 104, 114, 115], [115, 104, 114, 117], [101, 113], [110, 101], [108, 116, 115], [108, 116, 117], [108, 101, 115], [108, 101, 117]]
theorem laid_names {H : Type} : (Rows.laid_mortise_word_names : DataW H) = .agg (nameList.map fun l => .lit (.string l)) := rfl

theorem u32_bounds {a : Int} (h : (Lit.int .u32 a).wf = true) : 0 ≤ a ∧ a < 4294967296 := by
  have := bounds_u32 h
  omega
theorem i64_bounds {a : Int} (h : (Lit.int .i64 a).wf = true) : -9223372036854775808 ≤ a ∧ a < 9223372036854775808 := by
  have := bounds_i64 h
  omega
/-- The table of names as the program's text lays it. -/
abbrev NamesIn (w : World) : Prop := ∀ i, i < 19 → w.cell? ⟨0, i, none⟩ = some (.string ⟨(nameList.getD i []).toArray⟩)

theorem door_met (os : Os) (args : Array Value) : laidMetH Tryz.prog Rows.convTypesRow.laid ((World.doorLaid Tryz.prog 400 os).forCall (fun _ _ => 0) ⟨#[], args, []⟩).memory :=
  laidMetH_of_parts3 (fuel := 8) (laidMet_of_run' 8 (by kernel_rfl) (by kernel_rfl)) (by kernel_rfl) (by kernel_rfl)

theorem of_laid {W : World} (h : laidMetH Tryz.prog Rows.convTypesRow.laid W) : NamesIn W ∧ 0 < W.heap.size := by
  rw [MakeChecks.laidMetH_plain _ _ _ (by kernel_rfl)] at h
  obtain ⟨ps, ⟨g0, t0, cs0, f0, p0, q0, hg0, ht0, hv0, hd0, _, _⟩, _, _⟩ := h
  obtain rfl := Option.some.inj ((show Tryz.prog.globalNamed _ = some 0 by kernel_rfl).symm.trans hg0)
  obtain rfl := Option.some.inj ((show (Tryz.prog.globals[0]?).map (·.type) = some 123 by kernel_rfl).symm.trans ht0)
  obtain ⟨xs, m, rfl, hx, hlen, hn, hel⟩ := DataW.trod_array Tryz.underlying123 hd0
  have c9 : Tryz.prog.cellsOf 9 = 1 := by kernel_rfl
  have cN : Tryz.prog.cellsOf 123 = 19 := by kernel_rfl
  simp only [Prod.mk.injEq] at hx
  have hxs : nameList.map (fun l => (.lit (.string l) : DataW _)) = xs.map (·.1) := by
    have := hx.1
    rw [laid_names] at this
    simpa using this
  have hcs : cs0.size = 19 := by simpa [cN] using hlen
  have hcell : ∀ i, i < 19 → W.cell? ⟨0, i, none⟩ = some (.string ⟨(nameList.getD i []).toArray⟩) := by
    intro i hi
    have h1 := hel i hi
    rw [c9] at h1
    have hxi : xs[i]? = some xs[i] := List.getElem?_eq_getElem (by omega)
    rw [hxi] at h1
    obtain ⟨s, e1, e2, _⟩ := DataW.trod_string Tryz.underlying9 h1
    have hv := World.var?_cell hg0 hv0 i
    have e3 : cs0[i]? = some (.string s) := by
      have := congrArg (fun l => l[0]?) e1
      simpa using this
    have e4 : s.data.toList = nameList.getD i [] := by
      have := congrArg (fun l => l[i]?) hxs
      simp only [List.getElem?_map, hxi, e2, Option.map_some] at this
      have hi2 : i < nameList.length := by simpa [nameList] using hi
      rw [List.getElem?_eq_getElem hi2] at this
      simp at this
      rw [List.getD_eq_getElem?_getD, List.getElem?_eq_getElem hi2]
      simpa using this.symm
    rw [hv, e3, ← e4]
  refine ⟨hcell, ?_⟩
  have h0 := hcell 0 (by decide)
  by_cases hz : 0 < W.heap.size
  · exact hz
  · exfalso
    have hz0 : W.heap.size = 0 := by omega
    have hn0 : W.heap[0]? = none := Array.getElem?_eq_none (by omega)
    simp [World.cell?, hn0] at h0
end Go.Proofs.YtpnpilbmhkiphaaGreatDoor.W
