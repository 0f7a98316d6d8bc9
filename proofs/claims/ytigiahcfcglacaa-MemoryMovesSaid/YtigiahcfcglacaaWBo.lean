/-
  At every number of an operation and every two numbers of 32 bits the program's function Bin answers as the document's own; the document's Name is empty just where there is no such operation.
-/
import Derived.Test.YtigiahcfcglacaaWRef
import Derived.Below
namespace Go.Proofs.Ytigiahcfcglacaa.W
open Go.RowKit
set_option linter.unusedVariables false

/-- Both functions of that name answer the same at these arguments. -/
def BothBin (op a b v : Int) (c : Bool) : Prop :=
  (∀ w, Calls Try.prog 52 #[.int .i64 op, .int .u32 a, .int .u32 b] w fun e w' => e = .returned (.tuple #[.int .u32 v, .bool c]) ∧ w' = w) ∧
  (∀ w, Calls Try.prog 67 #[.int .i64 op, .int .u32 a, .int .u32 b] w fun e w' => e = .returned (.tuple #[.int .u32 v, .bool c]) ∧ ∃ n, w' = w.drewN n)
theorem still {e x : Ending} {w w' : World} (h : e = x ∧ w' = w) : e = x ∧ ∃ n, w' = w.drewN n := ⟨h.1, 0, h.2⟩

set_option maxHeartbeats 400000 in
theorem refname_1 (w : World) : Calls Try.prog 66 #[.int .i64 1] w fun e w' => e = .returned (.string ⟨#[97, 100, 100]⟩) ∧ Below w.heap.size w w' := by
  go_enter Try.func66, Try.ntmps66
  go_wp2
  go_ret
  exact ⟨rfl, (Below.refl _ _).alloc (Nat.le_refl _) _⟩

set_option maxHeartbeats 400000 in
theorem refname_2 (w : World) : Calls Try.prog 66 #[.int .i64 2] w fun e w' => e = .returned (.string ⟨#[115, 117, 98]⟩) ∧ Below w.heap.size w w' := by
  go_enter Try.func66, Try.ntmps66
  go_wp2
  go_ret
  exact ⟨rfl, (Below.refl _ _).alloc (Nat.le_refl _) _⟩

set_option maxHeartbeats 400000 in
theorem refname_3 (w : World) : Calls Try.prog 66 #[.int .i64 3] w fun e w' => e = .returned (.string ⟨#[109, 117, 108]⟩) ∧ Below w.heap.size w w' := by
  go_enter Try.func66, Try.ntmps66
  go_wp2
  go_ret
  exact ⟨rfl, (Below.refl _ _).alloc (Nat.le_refl _) _⟩

set_option maxHeartbeats 400000 in
theorem refname_4 (w : World) : Calls Try.prog 66 #[.int .i64 4] w fun e w' => e = .returned (.string ⟨#[100, 105, 118, 115]⟩) ∧ Below w.heap.size w w' := by
  go_enter Try.func66, Try.ntmps66
  go_wp2
  go_ret
  exact ⟨rfl, (Below.refl _ _).alloc (Nat.le_refl _) _⟩

set_option maxHeartbeats 400000 in
theorem refname_5 (w : World) : Calls Try.prog 66 #[.int .i64 5] w fun e w' => e = .returned (.string ⟨#[100, 105, 118, 117]⟩) ∧ Below w.heap.size w w' := by
  go_enter Try.func66, Try.ntmps66
  go_wp2
  go_ret
  exact ⟨rfl, (Below.refl _ _).alloc (Nat.le_refl _) _⟩

set_option maxHeartbeats 400000 in
theorem refname_6 (w : World) : Calls Try.prog 66 #[.int .i64 6] w fun e w' => e = .returned (.string ⟨#[114, 101, 109, 115]⟩) ∧ Below w.heap.size w w' := by
  go_enter Try.func66, Try.ntmps66
  go_wp2
  go_ret
  exact ⟨rfl, (Below.refl _ _).alloc (Nat.le_refl _) _⟩

set_option maxHeartbeats 400000 in
theorem refname_7 (w : World) : Calls Try.prog 66 #[.int .i64 7] w fun e w' => e = .returned (.string ⟨#[114, 101, 109, 117]⟩) ∧ Below w.heap.size w w' := by
  go_enter Try.func66, Try.ntmps66
  go_wp2
  go_ret
  exact ⟨rfl, (Below.refl _ _).alloc (Nat.le_refl _) _⟩

set_option maxHeartbeats 400000 in
theorem refname_8 (w : World) : Calls Try.prog 66 #[.int .i64 8] w fun e w' => e = .returned (.string ⟨#[97, 110, 100]⟩) ∧ Below w.heap.size w w' := by
  go_enter Try.func66, Try.ntmps66
  go_wp2
  go_ret
  exact ⟨rfl, (Below.refl _ _).alloc (Nat.le_refl _) _⟩

set_option maxHeartbeats 400000 in
theorem refname_9 (w : World) : Calls Try.prog 66 #[.int .i64 9] w fun e w' => e = .returned (.string ⟨#[111, 114]⟩) ∧ Below w.heap.size w w' := by
  go_enter Try.func66, Try.ntmps66
  go_wp2
  go_ret
  exact ⟨rfl, (Below.refl _ _).alloc (Nat.le_refl _) _⟩

set_option maxHeartbeats 400000 in
theorem refname_10 (w : World) : Calls Try.prog 66 #[.int .i64 10] w fun e w' => e = .returned (.string ⟨#[120, 111, 114]⟩) ∧ Below w.heap.size w w' := by
  go_enter Try.func66, Try.ntmps66
  go_wp2
  go_ret
  exact ⟨rfl, (Below.refl _ _).alloc (Nat.le_refl _) _⟩

set_option maxHeartbeats 400000 in
theorem refname_11 (w : World) : Calls Try.prog 66 #[.int .i64 11] w fun e w' => e = .returned (.string ⟨#[115, 104, 108]⟩) ∧ Below w.heap.size w w' := by
  go_enter Try.func66, Try.ntmps66
  go_wp2
  go_ret
  exact ⟨rfl, (Below.refl _ _).alloc (Nat.le_refl _) _⟩

set_option maxHeartbeats 400000 in
theorem refname_12 (w : World) : Calls Try.prog 66 #[.int .i64 12] w fun e w' => e = .returned (.string ⟨#[115, 104, 114, 115]⟩) ∧ Below w.heap.size w w' := by
  go_enter Try.func66, Try.ntmps66
  go_wp2
  go_ret
  exact ⟨rfl, (Below.refl _ _).alloc (Nat.le_refl _) _⟩

set_option maxHeartbeats 400000 in
theorem refname_13 (w : World) : Calls Try.prog 66 #[.int .i64 13] w fun e w' => e = .returned (.string ⟨#[115, 104, 114, 117]⟩) ∧ Below w.heap.size w w' := by
  go_enter Try.func66, Try.ntmps66
  go_wp2
  go_ret
  exact ⟨rfl, (Below.refl _ _).alloc (Nat.le_refl _) _⟩

set_option maxHeartbeats 400000 in
theorem refname_14 (w : World) : Calls Try.prog 66 #[.int .i64 14] w fun e w' => e = .returned (.string ⟨#[101, 113]⟩) ∧ Below w.heap.size w w' := by
  go_enter Try.func66, Try.ntmps66
  go_wp2
  go_ret
  exact ⟨rfl, (Below.refl _ _).alloc (Nat.le_refl _) _⟩

set_option maxHeartbeats 400000 in
theorem refname_15 (w : World) : Calls Try.prog 66 #[.int .i64 15] w fun e w' => e = .returned (.string ⟨#[110, 101]⟩) ∧ Below w.heap.size w w' := by
  go_enter Try.func66, Try.ntmps66
  go_wp2
  go_ret
  exact ⟨rfl, (Below.refl _ _).alloc (Nat.le_refl _) _⟩

set_option maxHeartbeats 400000 in
theorem refname_16 (w : World) : Calls Try.prog 66 #[.int .i64 16] w fun e w' => e = .returned (.string ⟨#[108, 116, 115]⟩) ∧ Below w.heap.size w w' := by
  go_enter Try.func66, Try.ntmps66
  go_wp2
  go_ret
  exact ⟨rfl, (Below.refl _ _).alloc (Nat.le_refl _) _⟩

set_option maxHeartbeats 400000 in
theorem refname_17 (w : World) : Calls Try.prog 66 #[.int .i64 17] w fun e w' => e = .returned (.string ⟨#[108, 116, 117]⟩) ∧ Below w.heap.size w w' := by
  go_enter Try.func66, Try.ntmps66
  go_wp2
  go_ret
  exact ⟨rfl, (Below.refl _ _).alloc (Nat.le_refl _) _⟩

set_option maxHeartbeats 400000 in
theorem refname_18 (w : World) : Calls Try.prog 66 #[.int .i64 18] w fun e w' => e = .returned (.string ⟨#[108, 101, 115]⟩) ∧ Below w.heap.size w w' := by
  go_enter Try.func66, Try.ntmps66
  go_wp2
  go_ret
  exact ⟨rfl, (Below.refl _ _).alloc (Nat.le_refl _) _⟩

set_option maxHeartbeats 400000 in
theorem refname_19 (w : World) : Calls Try.prog 66 #[.int .i64 19] w fun e w' => e = .returned (.string ⟨#[108, 101, 117]⟩) ∧ Below w.heap.size w w' := by
  go_enter Try.func66, Try.ntmps66
  go_wp2
  go_ret
  exact ⟨rfl, (Below.refl _ _).alloc (Nat.le_refl _) _⟩

set_option maxHeartbeats 400000 in
theorem refname_no (op : Int) (h : op < 1 ∨ 19 < op) (w : World) : Calls Try.prog 66 #[.int .i64 op] w fun e w' => e = .returned (.string ⟨#[]⟩) ∧ w' = w := by
  rcases h with h | h
  · go_enter Try.func66, Try.ntmps66
    go_wp2
    go_ret
    exact ⟨rfl, rfl⟩
  · have h2 : ¬ op < 1 := by omega
    go_enter Try.func66, Try.ntmps66
    go_wp2
    go_ret
    exact ⟨rfl, rfl⟩
theorem refname_yes (op : Int) (h1 : 1 ≤ op) (h2 : op ≤ 19) : ∃ s : ByteArray, (s == ⟨#[]⟩) = false ∧ ∀ w, Calls Try.prog 66 #[.int .i64 op] w fun e w' => e = .returned (.string s) ∧ Below w.heap.size w w' := by
  have hk : op = 1 ∨ op = 2 ∨ op = 3 ∨ op = 4 ∨ op = 5 ∨ op = 6 ∨ op = 7 ∨ op = 8 ∨ op = 9 ∨ op = 10 ∨ op = 11 ∨ op = 12 ∨ op = 13 ∨ op = 14 ∨ op = 15 ∨ op = 16 ∨ op = 17 ∨ op = 18 ∨ op = 19 := by omega
  rcases hk with rfl | rfl | rfl | rfl | rfl | rfl | rfl | rfl | rfl | rfl | rfl | rfl | rfl | rfl | rfl | rfl | rfl | rfl | rfl
  · exact ⟨_, by decide +kernel, fun w => refname_1 w⟩
  · exact ⟨_, by decide +kernel, fun w => refname_2 w⟩
  · exact ⟨_, by decide +kernel, fun w => refname_3 w⟩
  · exact ⟨_, by decide +kernel, fun w => refname_4 w⟩
  · exact ⟨_, by decide +kernel, fun w => refname_5 w⟩
  · exact ⟨_, by decide +kernel, fun w => refname_6 w⟩
  · exact ⟨_, by decide +kernel, fun w => refname_7 w⟩
  · exact ⟨_, by decide +kernel, fun w => refname_8 w⟩
  · exact ⟨_, by decide +kernel, fun w => refname_9 w⟩
  · exact ⟨_, by decide +kernel, fun w => refname_10 w⟩
  · exact ⟨_, by decide +kernel, fun w => refname_11 w⟩
  · exact ⟨_, by decide +kernel, fun w => refname_12 w⟩
  · exact ⟨_, by decide +kernel, fun w => refname_13 w⟩
  · exact ⟨_, by decide +kernel, fun w => refname_14 w⟩
  · exact ⟨_, by decide +kernel, fun w => refname_15 w⟩
  · exact ⟨_, by decide +kernel, fun w => refname_16 w⟩
  · exact ⟨_, by decide +kernel, fun w => refname_17 w⟩
  · exact ⟨_, by decide +kernel, fun w => refname_18 w⟩
  · exact ⟨_, by decide +kernel, fun w => refname_19 w⟩

set_option maxRecDepth 100000 in
set_option maxHeartbeats 400000 in
theorem ref_divs_zero (a : Int) (w : World) :
    Calls Try.prog 67 #[.int .i64 4, .int .u32 a, .int .u32 0] w fun e w' => e = .returned (.tuple #[.int .u32 0, .bool false]) ∧ w' = w := by
  go_enter Try.func67, Try.ntmps67
  go_wp2
  go_ret2
  exact ⟨rfl, rfl⟩

set_option maxRecDepth 100000 in
set_option maxHeartbeats 400000 in
theorem ref_divu_zero (a : Int) (w : World) :
    Calls Try.prog 67 #[.int .i64 5, .int .u32 a, .int .u32 0] w fun e w' => e = .returned (.tuple #[.int .u32 0, .bool false]) ∧ w' = w := by
  go_enter Try.func67, Try.ntmps67
  go_wp2
  go_ret2
  exact ⟨rfl, rfl⟩

set_option maxRecDepth 100000 in
set_option maxHeartbeats 400000 in
theorem ref_rems_zero (a : Int) (w : World) :
    Calls Try.prog 67 #[.int .i64 6, .int .u32 a, .int .u32 0] w fun e w' => e = .returned (.tuple #[.int .u32 0, .bool false]) ∧ w' = w := by
  go_enter Try.func67, Try.ntmps67
  go_wp2
  go_ret2
  exact ⟨rfl, rfl⟩

set_option maxRecDepth 100000 in
set_option maxHeartbeats 400000 in
theorem ref_remu_zero (a : Int) (w : World) :
    Calls Try.prog 67 #[.int .i64 7, .int .u32 a, .int .u32 0] w fun e w' => e = .returned (.tuple #[.int .u32 0, .bool false]) ∧ w' = w := by
  go_enter Try.func67, Try.ntmps67
  go_wp2
  go_ret2
  exact ⟨rfl, rfl⟩

theorem both_divs (a b : Int) (a0 : 0 ≤ a) (a1 : a < 4294967296) (b0 : 0 ≤ b) (b1 : b < 4294967296) : ∃ v c, BothBin 4 a b v c := by
  by_cases h : b = 0
  · subst h
    exact ⟨_, _, ⟨fun w => bin_divs_zero a w, fun w => (ref_divs_zero a w).mono fun e w' h => still h⟩⟩
  · exact ⟨_, _, ⟨fun w => bin_divs a b w a0 a1 (by omega) b1, fun w => ref_divs a b w a0 a1 (by omega) b1⟩⟩
theorem both_divu (a b : Int) (a0 : 0 ≤ a) (a1 : a < 4294967296) (b0 : 0 ≤ b) (b1 : b < 4294967296) : ∃ v c, BothBin 5 a b v c := by
  by_cases h : b = 0
  · subst h
    exact ⟨_, _, ⟨fun w => bin_divu_zero a w, fun w => (ref_divu_zero a w).mono fun e w' h => still h⟩⟩
  · exact ⟨_, _, ⟨fun w => bin_divu a b w a0 a1 (by omega) b1, fun w => ref_divu a b w a0 a1 (by omega) b1⟩⟩
theorem both_rems (a b : Int) (a0 : 0 ≤ a) (a1 : a < 4294967296) (b0 : 0 ≤ b) (b1 : b < 4294967296) : ∃ v c, BothBin 6 a b v c := by
  by_cases h : b = 0
  · subst h
    exact ⟨_, _, ⟨fun w => bin_rems_zero a w, fun w => (ref_rems_zero a w).mono fun e w' h => still h⟩⟩
  · exact ⟨_, _, ⟨fun w => bin_rems a b w a0 a1 (by omega) b1, fun w => ref_rems a b w a0 a1 (by omega) b1⟩⟩
theorem both_remu (a b : Int) (a0 : 0 ≤ a) (a1 : a < 4294967296) (b0 : 0 ≤ b) (b1 : b < 4294967296) : ∃ v c, BothBin 7 a b v c := by
  by_cases h : b = 0
  · subst h
    exact ⟨_, _, ⟨fun w => bin_remu_zero a w, fun w => (ref_remu_zero a w).mono fun e w' h => still h⟩⟩
  · exact ⟨_, _, ⟨fun w => bin_remu a b w a0 a1 (by omega) b1, fun w => ref_remu a b w a0 a1 (by omega) b1⟩⟩
theorem both_any (op a b : Int) (o1 : 1 ≤ op) (o2 : op ≤ 19) (a0 : 0 ≤ a) (a1 : a < 4294967296) (b0 : 0 ≤ b) (b1 : b < 4294967296) : ∃ v c, BothBin op a b v c := by
  have hk : op = 1 ∨ op = 2 ∨ op = 3 ∨ op = 4 ∨ op = 5 ∨ op = 6 ∨ op = 7 ∨ op = 8 ∨ op = 9 ∨ op = 10 ∨ op = 11 ∨ op = 12 ∨ op = 13 ∨ op = 14 ∨ op = 15 ∨ op = 16 ∨ op = 17 ∨ op = 18 ∨ op = 19 := by omega
  rcases hk with rfl | rfl | rfl | rfl | rfl | rfl | rfl | rfl | rfl | rfl | rfl | rfl | rfl | rfl | rfl | rfl | rfl | rfl | rfl
  · exact ⟨_, _, ⟨fun w => bin_add a b w a0 a1 b0 b1, fun w => (ref_add a b w a0 a1 b0 b1).mono fun e w' h => still h⟩⟩
  · exact ⟨_, _, ⟨fun w => bin_sub a b w a0 a1 b0 b1, fun w => (ref_sub a b w a0 a1 b0 b1).mono fun e w' h => still h⟩⟩
  · exact ⟨_, _, ⟨fun w => bin_mul a b w a0 a1 b0 b1, fun w => (ref_mul a b w a0 a1 b0 b1).mono fun e w' h => still h⟩⟩
  · exact both_divs a b a0 a1 b0 b1
  · exact both_divu a b a0 a1 b0 b1
  · exact both_rems a b a0 a1 b0 b1
  · exact both_remu a b a0 a1 b0 b1
  · exact ⟨_, _, ⟨fun w => bin_and a b w a0 a1 b0 b1, fun w => (ref_and a b w a0 a1 b0 b1).mono fun e w' h => still h⟩⟩
  · exact ⟨_, _, ⟨fun w => bin_or a b w a0 a1 b0 b1, fun w => (ref_or a b w a0 a1 b0 b1).mono fun e w' h => still h⟩⟩
  · exact ⟨_, _, ⟨fun w => bin_xor a b w a0 a1 b0 b1, fun w => (ref_xor a b w a0 a1 b0 b1).mono fun e w' h => still h⟩⟩
  · exact ⟨_, _, ⟨fun w => bin_shl a b w a0 a1 b0 b1, fun w => (ref_shl a b w a0 a1 b0 b1).mono fun e w' h => still h⟩⟩
  · exact ⟨_, _, ⟨fun w => bin_shrs a b w a0 a1 b0 b1, fun w => (ref_shrs a b w a0 a1 b0 b1).mono fun e w' h => still h⟩⟩
  · exact ⟨_, _, ⟨fun w => bin_shru a b w a0 a1 b0 b1, fun w => (ref_shru a b w a0 a1 b0 b1).mono fun e w' h => still h⟩⟩
  · exact ⟨_, _, ⟨fun w => bin_eq a b w a0 a1 b0 b1, fun w => (ref_eq a b w a0 a1 b0 b1).mono fun e w' h => still h⟩⟩
  · exact ⟨_, _, ⟨fun w => bin_ne a b w a0 a1 b0 b1, fun w => (ref_ne a b w a0 a1 b0 b1).mono fun e w' h => still h⟩⟩
  · exact ⟨_, _, ⟨fun w => bin_lts a b w a0 a1 b0 b1, fun w => (ref_lts a b w a0 a1 b0 b1).mono fun e w' h => still h⟩⟩
  · exact ⟨_, _, ⟨fun w => bin_ltu a b w a0 a1 b0 b1, fun w => (ref_ltu a b w a0 a1 b0 b1).mono fun e w' h => still h⟩⟩
  · exact ⟨_, _, ⟨fun w => bin_les a b w a0 a1 b0 b1, fun w => (ref_les a b w a0 a1 b0 b1).mono fun e w' h => still h⟩⟩
  · exact ⟨_, _, ⟨fun w => bin_leu a b w a0 a1 b0 b1, fun w => (ref_leu a b w a0 a1 b0 b1).mono fun e w' h => still h⟩⟩
end Go.Proofs.Ytigiahcfcglacaa.W
