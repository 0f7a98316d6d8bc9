/-
  At every number of an operation and every two numbers of 32 bits the program's functions Bin and Name answer as the document's own.
-/
import Derived.Test.YtpnpilbmhkiphaaDoorWFrame
import Derived.Test.YtpnpilbmhkiphaaDoorWRef
import Derived.Below
namespace Go.Proofs.YtpnpilbmhkiphaaDoor.W
open Go.ChangeShapes Go.WideShapes Go.ChangeAt Go.RowKit
set_option linter.unusedVariables false

/-- Both functions of that name answer the same at these arguments. -/
def BothBin (op a b : Int) : Prop := ∃ (v : Int) (c : Bool),
  (∀ w, Calls Tryd.prog 7 #[.int .i64 op, .int .u32 a, .int .u32 b] w fun e w' => e = .returned (.tuple #[.int .u32 v, .bool c]) ∧ w' = w) ∧
  (∀ w, Calls Tryd.prog 35 #[.int .i64 op, .int .u32 a, .int .u32 b] w fun e w' => e = .returned (.tuple #[.int .u32 v, .bool c]) ∧ ∃ n, w' = w.drewN n)
def BothName (op : Int) : Prop := ∃ s : ByteArray,
  (∀ w, NamesIn w → Calls Tryd.prog 17 #[.int .i64 op] w fun e w' => e = .returned (.string s) ∧ w' = w) ∧
  (∀ w, Calls Tryd.prog 34 #[.int .i64 op] w fun e w' => e = .returned (.string s) ∧ Below w.heap.size w w')
theorem still {e x : Ending} {w w' : World} (h : e = x ∧ w' = w) : e = x ∧ ∃ n, w' = w.drewN n := ⟨h.1, 0, h.2⟩

set_option maxHeartbeats 400000 in
theorem name_both_1 : BothName 1 := by
  refine ⟨⟨#[97, 100, 100]⟩, fun w hN => ?_, fun w => ?_⟩
  · have hn : w.cell? ⟨0, 0, none⟩ = some (.string ⟨#[97, 100, 100]⟩) := hN 0 (by decide)
    clear hN
    go_enter Tryd.func17, Tryd.ntmps17
    go_wp2
    go_ret
    exact ⟨rfl, rfl⟩
  · go_enter Tryd.func34, Tryd.ntmps34
    go_wp2
    go_ret
    exact ⟨rfl, (Below.refl _ _).alloc (Nat.le_refl _) _⟩

set_option maxHeartbeats 400000 in
theorem name_both_2 : BothName 2 := by
  refine ⟨⟨#[115, 117, 98]⟩, fun w hN => ?_, fun w => ?_⟩
  · have hn : w.cell? ⟨0, 1, none⟩ = some (.string ⟨#[115, 117, 98]⟩) := hN 1 (by decide)
    clear hN
    go_enter Tryd.func17, Tryd.ntmps17
    go_wp2
    go_ret
    exact ⟨rfl, rfl⟩
  · go_enter Tryd.func34, Tryd.ntmps34
    go_wp2
    go_ret
    exact ⟨rfl, (Below.refl _ _).alloc (Nat.le_refl _) _⟩

set_option maxHeartbeats 400000 in
theorem name_both_3 : BothName 3 := by
  refine ⟨⟨#[109, 117, 108]⟩, fun w hN => ?_, fun w => ?_⟩
  · have hn : w.cell? ⟨0, 2, none⟩ = some (.string ⟨#[109, 117, 108]⟩) := hN 2 (by decide)
    clear hN
    go_enter Tryd.func17, Tryd.ntmps17
    go_wp2
    go_ret
    exact ⟨rfl, rfl⟩
  · go_enter Tryd.func34, Tryd.ntmps34
    go_wp2
    go_ret
    exact ⟨rfl, (Below.refl _ _).alloc (Nat.le_refl _) _⟩

set_option maxHeartbeats 400000 in
theorem name_both_4 : BothName 4 := by
  refine ⟨⟨#[100, 105, 118, 115]⟩, fun w hN => ?_, fun w => ?_⟩
  · have hn : w.cell? ⟨0, 3, none⟩ = some (.string ⟨#[100, 105, 118, 115]⟩) := hN 3 (by decide)
    clear hN
    go_enter Tryd.func17, Tryd.ntmps17
    go_wp2
    go_ret
    exact ⟨rfl, rfl⟩
  · go_enter Tryd.func34, Tryd.ntmps34
    go_wp2
    go_ret
    exact ⟨rfl, (Below.refl _ _).alloc (Nat.le_refl _) _⟩

set_option maxHeartbeats 400000 in
theorem name_both_5 : BothName 5 := by
  refine ⟨⟨#[100, 105, 118, 117]⟩, fun w hN => ?_, fun w => ?_⟩
  · have hn : w.cell? ⟨0, 4, none⟩ = some (.string ⟨#[100, 105, 118, 117]⟩) := hN 4 (by decide)
    clear hN
    go_enter Tryd.func17, Tryd.ntmps17
    go_wp2
    go_ret
    exact ⟨rfl, rfl⟩
  · go_enter Tryd.func34, Tryd.ntmps34
    go_wp2
    go_ret
    exact ⟨rfl, (Below.refl _ _).alloc (Nat.le_refl _) _⟩

set_option maxHeartbeats 400000 in
theorem name_both_6 : BothName 6 := by
  refine ⟨⟨#[114, 101, 109, 115]⟩, fun w hN => ?_, fun w => ?_⟩
  · have hn : w.cell? ⟨0, 5, none⟩ = some (.string ⟨#[114, 101, 109, 115]⟩) := hN 5 (by decide)
    clear hN
    go_enter Tryd.func17, Tryd.ntmps17
    go_wp2
    go_ret
    exact ⟨rfl, rfl⟩
  · go_enter Tryd.func34, Tryd.ntmps34
    go_wp2
    go_ret
    exact ⟨rfl, (Below.refl _ _).alloc (Nat.le_refl _) _⟩

set_option maxHeartbeats 400000 in
theorem name_both_7 : BothName 7 := by
  refine ⟨⟨#[114, 101, 109, 117]⟩, fun w hN => ?_, fun w => ?_⟩
  · have hn : w.cell? ⟨0, 6, none⟩ = some (.string ⟨#[114, 101, 109, 117]⟩) := hN 6 (by decide)
    clear hN
    go_enter Tryd.func17, Tryd.ntmps17
    go_wp2
    go_ret
    exact ⟨rfl, rfl⟩
  · go_enter Tryd.func34, Tryd.ntmps34
    go_wp2
    go_ret
    exact ⟨rfl, (Below.refl _ _).alloc (Nat.le_refl _) _⟩

set_option maxHeartbeats 400000 in
theorem name_both_8 : BothName 8 := by
  refine ⟨⟨#[97, 110, 100]⟩, fun w hN => ?_, fun w => ?_⟩
  · have hn : w.cell? ⟨0, 7, none⟩ = some (.string ⟨#[97, 110, 100]⟩) := hN 7 (by decide)
    clear hN
    go_enter Tryd.func17, Tryd.ntmps17
    go_wp2
    go_ret
    exact ⟨rfl, rfl⟩
  · go_enter Tryd.func34, Tryd.ntmps34
    go_wp2
    go_ret
    exact ⟨rfl, (Below.refl _ _).alloc (Nat.le_refl _) _⟩

set_option maxHeartbeats 400000 in
theorem name_both_9 : BothName 9 := by
  refine ⟨⟨#[111, 114]⟩, fun w hN => ?_, fun w => ?_⟩
  · have hn : w.cell? ⟨0, 8, none⟩ = some (.string ⟨#[111, 114]⟩) := hN 8 (by decide)
    clear hN
    go_enter Tryd.func17, Tryd.ntmps17
    go_wp2
    go_ret
    exact ⟨rfl, rfl⟩
  · go_enter Tryd.func34, Tryd.ntmps34
    go_wp2
    go_ret
    exact ⟨rfl, (Below.refl _ _).alloc (Nat.le_refl _) _⟩

set_option maxHeartbeats 400000 in
theorem name_both_10 : BothName 10 := by
  refine ⟨⟨#[120, 111, 114]⟩, fun w hN => ?_, fun w => ?_⟩
  · have hn : w.cell? ⟨0, 9, none⟩ = some (.string ⟨#[120, 111, 114]⟩) := hN 9 (by decide)
    clear hN
    go_enter Tryd.func17, Tryd.ntmps17
    go_wp2
    go_ret
    exact ⟨rfl, rfl⟩
  · go_enter Tryd.func34, Tryd.ntmps34
    go_wp2
    go_ret
    exact ⟨rfl, (Below.refl _ _).alloc (Nat.le_refl _) _⟩

set_option maxHeartbeats 400000 in
theorem name_both_11 : BothName 11 := by
  refine ⟨⟨#[115, 104, 108]⟩, fun w hN => ?_, fun w => ?_⟩
  · have hn : w.cell? ⟨0, 10, none⟩ = some (.string ⟨#[115, 104, 108]⟩) := hN 10 (by decide)
    clear hN
    go_enter Tryd.func17, Tryd.ntmps17
    go_wp2
    go_ret
    exact ⟨rfl, rfl⟩
  · go_enter Tryd.func34, Tryd.ntmps34
    go_wp2
    go_ret
    exact ⟨rfl, (Below.refl _ _).alloc (Nat.le_refl _) _⟩

set_option maxHeartbeats 400000 in
theorem name_both_12 : BothName 12 := by
  refine ⟨⟨#[115, 104, 114, 115]⟩, fun w hN => ?_, fun w => ?_⟩
  · have hn : w.cell? ⟨0, 11, none⟩ = some (.string ⟨#[115, 104, 114, 115]⟩) := hN 11 (by decide)
    clear hN
    go_enter Tryd.func17, Tryd.ntmps17
    go_wp2
    go_ret
    exact ⟨rfl, rfl⟩
  · go_enter Tryd.func34, Tryd.ntmps34
    go_wp2
    go_ret
    exact ⟨rfl, (Below.refl _ _).alloc (Nat.le_refl _) _⟩

set_option maxHeartbeats 400000 in
theorem name_both_13 : BothName 13 := by
  refine ⟨⟨#[115, 104, 114, 117]⟩, fun w hN => ?_, fun w => ?_⟩
  · have hn : w.cell? ⟨0, 12, none⟩ = some (.string ⟨#[115, 104, 114, 117]⟩) := hN 12 (by decide)
    clear hN
    go_enter Tryd.func17, Tryd.ntmps17
    go_wp2
    go_ret
    exact ⟨rfl, rfl⟩
  · go_enter Tryd.func34, Tryd.ntmps34
    go_wp2
    go_ret
    exact ⟨rfl, (Below.refl _ _).alloc (Nat.le_refl _) _⟩

set_option maxHeartbeats 400000 in
theorem name_both_14 : BothName 14 := by
  refine ⟨⟨#[101, 113]⟩, fun w hN => ?_, fun w => ?_⟩
  · have hn : w.cell? ⟨0, 13, none⟩ = some (.string ⟨#[101, 113]⟩) := hN 13 (by decide)
    clear hN
    go_enter Tryd.func17, Tryd.ntmps17
    go_wp2
    go_ret
    exact ⟨rfl, rfl⟩
  · go_enter Tryd.func34, Tryd.ntmps34
    go_wp2
    go_ret
    exact ⟨rfl, (Below.refl _ _).alloc (Nat.le_refl _) _⟩

set_option maxHeartbeats 400000 in
theorem name_both_15 : BothName 15 := by
  refine ⟨⟨#[110, 101]⟩, fun w hN => ?_, fun w => ?_⟩
  · have hn : w.cell? ⟨0, 14, none⟩ = some (.string ⟨#[110, 101]⟩) := hN 14 (by decide)
    clear hN
    go_enter Tryd.func17, Tryd.ntmps17
    go_wp2
    go_ret
    exact ⟨rfl, rfl⟩
  · go_enter Tryd.func34, Tryd.ntmps34
    go_wp2
    go_ret
    exact ⟨rfl, (Below.refl _ _).alloc (Nat.le_refl _) _⟩

set_option maxHeartbeats 400000 in
theorem name_both_16 : BothName 16 := by
  refine ⟨⟨#[108, 116, 115]⟩, fun w hN => ?_, fun w => ?_⟩
  · have hn : w.cell? ⟨0, 15, none⟩ = some (.string ⟨#[108, 116, 115]⟩) := hN 15 (by decide)
    clear hN
    go_enter Tryd.func17, Tryd.ntmps17
    go_wp2
    go_ret
    exact ⟨rfl, rfl⟩
  · go_enter Tryd.func34, Tryd.ntmps34
    go_wp2
    go_ret
    exact ⟨rfl, (Below.refl _ _).alloc (Nat.le_refl _) _⟩

set_option maxHeartbeats 400000 in
theorem name_both_17 : BothName 17 := by
  refine ⟨⟨#[108, 116, 117]⟩, fun w hN => ?_, fun w => ?_⟩
  · have hn : w.cell? ⟨0, 16, none⟩ = some (.string ⟨#[108, 116, 117]⟩) := hN 16 (by decide)
    clear hN
    go_enter Tryd.func17, Tryd.ntmps17
    go_wp2
    go_ret
    exact ⟨rfl, rfl⟩
  · go_enter Tryd.func34, Tryd.ntmps34
    go_wp2
    go_ret
    exact ⟨rfl, (Below.refl _ _).alloc (Nat.le_refl _) _⟩

set_option maxHeartbeats 400000 in
theorem name_both_18 : BothName 18 := by
  refine ⟨⟨#[108, 101, 115]⟩, fun w hN => ?_, fun w => ?_⟩
  · have hn : w.cell? ⟨0, 17, none⟩ = some (.string ⟨#[108, 101, 115]⟩) := hN 17 (by decide)
    clear hN
    go_enter Tryd.func17, Tryd.ntmps17
    go_wp2
    go_ret
    exact ⟨rfl, rfl⟩
  · go_enter Tryd.func34, Tryd.ntmps34
    go_wp2
    go_ret
    exact ⟨rfl, (Below.refl _ _).alloc (Nat.le_refl _) _⟩

set_option maxHeartbeats 400000 in
theorem name_both_19 : BothName 19 := by
  refine ⟨⟨#[108, 101, 117]⟩, fun w hN => ?_, fun w => ?_⟩
  · have hn : w.cell? ⟨0, 18, none⟩ = some (.string ⟨#[108, 101, 117]⟩) := hN 18 (by decide)
    clear hN
    go_enter Tryd.func17, Tryd.ntmps17
    go_wp2
    go_ret
    exact ⟨rfl, rfl⟩
  · go_enter Tryd.func34, Tryd.ntmps34
    go_wp2
    go_ret
    exact ⟨rfl, (Below.refl _ _).alloc (Nat.le_refl _) _⟩

set_option maxHeartbeats 400000 in
theorem name_both_no (op : Int) (h : op < 1 ∨ 19 < op) : BothName op := by
  refine ⟨⟨#[]⟩, fun w hN => ?_, fun w => ?_⟩
  · clear hN
    rcases h with h | h
    · go_enter Tryd.func17, Tryd.ntmps17
      go_wp2
      go_ret
      exact ⟨rfl, rfl⟩
    · have h2 : ¬ op < 1 := by omega
      go_enter Tryd.func17, Tryd.ntmps17
      go_wp2
      go_ret
      exact ⟨rfl, rfl⟩
  · rcases h with h | h
    · go_enter Tryd.func34, Tryd.ntmps34
      go_wp2
      go_ret
      exact ⟨rfl, Below.refl _ _⟩
    · have h2 : ¬ op < 1 := by omega
      go_enter Tryd.func34, Tryd.ntmps34
      go_wp2
      go_ret
      exact ⟨rfl, Below.refl _ _⟩

set_option maxRecDepth 100000 in
set_option maxHeartbeats 400000 in
theorem ref_divs_zero (a : Int) (w : World) :
    Calls Tryd.prog 35 #[.int .i64 4, .int .u32 a, .int .u32 0] w fun e w' => e = .returned (.tuple #[.int .u32 0, .bool false]) ∧ w' = w := by
  go_enter Tryd.func35, Tryd.ntmps35
  go_wp2
  go_ret2
  exact ⟨rfl, rfl⟩

set_option maxRecDepth 100000 in
set_option maxHeartbeats 400000 in
theorem ref_divu_zero (a : Int) (w : World) :
    Calls Tryd.prog 35 #[.int .i64 5, .int .u32 a, .int .u32 0] w fun e w' => e = .returned (.tuple #[.int .u32 0, .bool false]) ∧ w' = w := by
  go_enter Tryd.func35, Tryd.ntmps35
  go_wp2
  go_ret2
  exact ⟨rfl, rfl⟩

set_option maxRecDepth 100000 in
set_option maxHeartbeats 400000 in
theorem ref_rems_zero (a : Int) (w : World) :
    Calls Tryd.prog 35 #[.int .i64 6, .int .u32 a, .int .u32 0] w fun e w' => e = .returned (.tuple #[.int .u32 0, .bool false]) ∧ w' = w := by
  go_enter Tryd.func35, Tryd.ntmps35
  go_wp2
  go_ret2
  exact ⟨rfl, rfl⟩

set_option maxRecDepth 100000 in
set_option maxHeartbeats 400000 in
theorem ref_remu_zero (a : Int) (w : World) :
    Calls Tryd.prog 35 #[.int .i64 7, .int .u32 a, .int .u32 0] w fun e w' => e = .returned (.tuple #[.int .u32 0, .bool false]) ∧ w' = w := by
  go_enter Tryd.func35, Tryd.ntmps35
  go_wp2
  go_ret2
  exact ⟨rfl, rfl⟩

set_option maxRecDepth 100000 in
set_option maxHeartbeats 1000000 in
theorem bin_no (op a b : Int) (h1 : (op == 1) = false) (h2 : (op == 2) = false) (h3 : (op == 3) = false) (h4 : (op == 4) = false) (h5 : (op == 5) = false) (h6 : (op == 6) = false) (h7 : (op == 7) = false) (h8 : (op == 8) = false) (h9 : (op == 9) = false) (h10 : (op == 10) = false) (h11 : (op == 11) = false) (h12 : (op == 12) = false) (h13 : (op == 13) = false) (h14 : (op == 14) = false) (h15 : (op == 15) = false) (h16 : (op == 16) = false) (h17 : (op == 17) = false) (h18 : (op == 18) = false) (h19 : (op == 19) = false) (w : World) (a0 : 0 ≤ a) (a1 : a < 4294967296) (b0 : 0 ≤ b) (b1 : b < 4294967296) :
    Calls Tryd.prog 7 #[.int .i64 op, .int .u32 a, .int .u32 b] w fun e w' => e = .returned (.tuple #[.int .u32 0, .bool false]) ∧ w' = w := by
  go_enter Tryd.func7, Tryd.ntmps7
  go_wp2
  go_ret2
  exact ⟨rfl, rfl⟩
set_option maxRecDepth 100000 in
set_option maxHeartbeats 1000000 in
theorem ref_no (op a b : Int) (h1 : (op == 1) = false) (h2 : (op == 2) = false) (h3 : (op == 3) = false) (h4 : (op == 4) = false) (h5 : (op == 5) = false) (h6 : (op == 6) = false) (h7 : (op == 7) = false) (h8 : (op == 8) = false) (h9 : (op == 9) = false) (h10 : (op == 10) = false) (h11 : (op == 11) = false) (h12 : (op == 12) = false) (h13 : (op == 13) = false) (h14 : (op == 14) = false) (h15 : (op == 15) = false) (h16 : (op == 16) = false) (h17 : (op == 17) = false) (h18 : (op == 18) = false) (h19 : (op == 19) = false) (w : World) (a0 : 0 ≤ a) (a1 : a < 4294967296) (b0 : 0 ≤ b) (b1 : b < 4294967296) :
    Calls Tryd.prog 35 #[.int .i64 op, .int .u32 a, .int .u32 b] w fun e w' => e = .returned (.tuple #[.int .u32 0, .bool false]) ∧ w' = w := by
  go_enter Tryd.func35, Tryd.ntmps35
  go_wp2
  go_ret2
  exact ⟨rfl, rfl⟩
theorem not_op (op k : Int) (h : op < 1 ∨ 19 < op) (k1 : 1 ≤ k) (k2 : k ≤ 19) : (op == k) = false := by
  simp; omega

theorem both_divs (a b : Int) (a0 : 0 ≤ a) (a1 : a < 4294967296) (b0 : 0 ≤ b) (b1 : b < 4294967296) : BothBin 4 a b := by
  by_cases h : b = 0
  · subst h
    exact ⟨_, _, fun w => bin_divs_zero a w, fun w => (ref_divs_zero a w).mono fun e w' h => still h⟩
  · exact ⟨_, _, fun w => bin_divs a b w a0 a1 (by omega) b1, fun w => ref_divs a b w a0 a1 (by omega) b1⟩

theorem both_divu (a b : Int) (a0 : 0 ≤ a) (a1 : a < 4294967296) (b0 : 0 ≤ b) (b1 : b < 4294967296) : BothBin 5 a b := by
  by_cases h : b = 0
  · subst h
    exact ⟨_, _, fun w => bin_divu_zero a w, fun w => (ref_divu_zero a w).mono fun e w' h => still h⟩
  · exact ⟨_, _, fun w => bin_divu a b w a0 a1 (by omega) b1, fun w => ref_divu a b w a0 a1 (by omega) b1⟩

theorem both_rems (a b : Int) (a0 : 0 ≤ a) (a1 : a < 4294967296) (b0 : 0 ≤ b) (b1 : b < 4294967296) : BothBin 6 a b := by
  by_cases h : b = 0
  · subst h
    exact ⟨_, _, fun w => bin_rems_zero a w, fun w => (ref_rems_zero a w).mono fun e w' h => still h⟩
  · exact ⟨_, _, fun w => bin_rems a b w a0 a1 (by omega) b1, fun w => ref_rems a b w a0 a1 (by omega) b1⟩

theorem both_remu (a b : Int) (a0 : 0 ≤ a) (a1 : a < 4294967296) (b0 : 0 ≤ b) (b1 : b < 4294967296) : BothBin 7 a b := by
  by_cases h : b = 0
  · subst h
    exact ⟨_, _, fun w => bin_remu_zero a w, fun w => (ref_remu_zero a w).mono fun e w' h => still h⟩
  · exact ⟨_, _, fun w => bin_remu a b w a0 a1 (by omega) b1, fun w => ref_remu a b w a0 a1 (by omega) b1⟩

theorem both_any (op a b : Int) (a0 : 0 ≤ a) (a1 : a < 4294967296) (b0 : 0 ≤ b) (b1 : b < 4294967296) : BothBin op a b ∧ BothName op := by
  by_cases h : op < 1 ∨ 19 < op
  · refine ⟨⟨0, false, fun w => bin_no op a b (not_op op 1 h (by decide) (by decide)) (not_op op 2 h (by decide) (by decide)) (not_op op 3 h (by decide) (by decide)) (not_op op 4 h (by decide) (by decide)) (not_op op 5 h (by decide) (by decide)) (not_op op 6 h (by decide) (by decide)) (not_op op 7 h (by decide) (by decide)) (not_op op 8 h (by decide) (by decide)) (not_op op 9 h (by decide) (by decide)) (not_op op 10 h (by decide) (by decide)) (not_op op 11 h (by decide) (by decide)) (not_op op 12 h (by decide) (by decide)) (not_op op 13 h (by decide) (by decide)) (not_op op 14 h (by decide) (by decide)) (not_op op 15 h (by decide) (by decide)) (not_op op 16 h (by decide) (by decide)) (not_op op 17 h (by decide) (by decide)) (not_op op 18 h (by decide) (by decide)) (not_op op 19 h (by decide) (by decide)) w a0 a1 b0 b1, fun w => (ref_no op a b (not_op op 1 h (by decide) (by decide)) (not_op op 2 h (by decide) (by decide)) (not_op op 3 h (by decide) (by decide)) (not_op op 4 h (by decide) (by decide)) (not_op op 5 h (by decide) (by decide)) (not_op op 6 h (by decide) (by decide)) (not_op op 7 h (by decide) (by decide)) (not_op op 8 h (by decide) (by decide)) (not_op op 9 h (by decide) (by decide)) (not_op op 10 h (by decide) (by decide)) (not_op op 11 h (by decide) (by decide)) (not_op op 12 h (by decide) (by decide)) (not_op op 13 h (by decide) (by decide)) (not_op op 14 h (by decide) (by decide)) (not_op op 15 h (by decide) (by decide)) (not_op op 16 h (by decide) (by decide)) (not_op op 17 h (by decide) (by decide)) (not_op op 18 h (by decide) (by decide)) (not_op op 19 h (by decide) (by decide)) w a0 a1 b0 b1).mono fun e w' h => still h⟩, name_both_no op h⟩
  · have hk : op = 1 ∨ op = 2 ∨ op = 3 ∨ op = 4 ∨ op = 5 ∨ op = 6 ∨ op = 7 ∨ op = 8 ∨ op = 9 ∨ op = 10 ∨ op = 11 ∨ op = 12 ∨ op = 13 ∨ op = 14 ∨ op = 15 ∨ op = 16 ∨ op = 17 ∨ op = 18 ∨ op = 19 := by omega
    rcases hk with rfl | rfl | rfl | rfl | rfl | rfl | rfl | rfl | rfl | rfl | rfl | rfl | rfl | rfl | rfl | rfl | rfl | rfl | rfl
    · exact ⟨⟨_, _, fun w => bin_add a b w a0 a1 b0 b1, fun w => (ref_add a b w a0 a1 b0 b1).mono fun e w' h => still h⟩, name_both_1⟩
    · exact ⟨⟨_, _, fun w => bin_sub a b w a0 a1 b0 b1, fun w => (ref_sub a b w a0 a1 b0 b1).mono fun e w' h => still h⟩, name_both_2⟩
    · exact ⟨⟨_, _, fun w => bin_mul a b w a0 a1 b0 b1, fun w => (ref_mul a b w a0 a1 b0 b1).mono fun e w' h => still h⟩, name_both_3⟩
    · exact ⟨both_divs a b a0 a1 b0 b1, name_both_4⟩
    · exact ⟨both_divu a b a0 a1 b0 b1, name_both_5⟩
    · exact ⟨both_rems a b a0 a1 b0 b1, name_both_6⟩
    · exact ⟨both_remu a b a0 a1 b0 b1, name_both_7⟩
    · exact ⟨⟨_, _, fun w => bin_and a b w a0 a1 b0 b1, fun w => (ref_and a b w a0 a1 b0 b1).mono fun e w' h => still h⟩, name_both_8⟩
    · exact ⟨⟨_, _, fun w => bin_or a b w a0 a1 b0 b1, fun w => (ref_or a b w a0 a1 b0 b1).mono fun e w' h => still h⟩, name_both_9⟩
    · exact ⟨⟨_, _, fun w => bin_xor a b w a0 a1 b0 b1, fun w => (ref_xor a b w a0 a1 b0 b1).mono fun e w' h => still h⟩, name_both_10⟩
    · exact ⟨⟨_, _, fun w => bin_shl a b w a0 a1 b0 b1, fun w => (ref_shl a b w a0 a1 b0 b1).mono fun e w' h => still h⟩, name_both_11⟩
    · exact ⟨⟨_, _, fun w => bin_shrs a b w a0 a1 b0 b1, fun w => (ref_shrs a b w a0 a1 b0 b1).mono fun e w' h => still h⟩, name_both_12⟩
    · exact ⟨⟨_, _, fun w => bin_shru a b w a0 a1 b0 b1, fun w => (ref_shru a b w a0 a1 b0 b1).mono fun e w' h => still h⟩, name_both_13⟩
    · exact ⟨⟨_, _, fun w => bin_eq a b w a0 a1 b0 b1, fun w => (ref_eq a b w a0 a1 b0 b1).mono fun e w' h => still h⟩, name_both_14⟩
    · exact ⟨⟨_, _, fun w => bin_ne a b w a0 a1 b0 b1, fun w => (ref_ne a b w a0 a1 b0 b1).mono fun e w' h => still h⟩, name_both_15⟩
    · exact ⟨⟨_, _, fun w => bin_lts a b w a0 a1 b0 b1, fun w => (ref_lts a b w a0 a1 b0 b1).mono fun e w' h => still h⟩, name_both_16⟩
    · exact ⟨⟨_, _, fun w => bin_ltu a b w a0 a1 b0 b1, fun w => (ref_ltu a b w a0 a1 b0 b1).mono fun e w' h => still h⟩, name_both_17⟩
    · exact ⟨⟨_, _, fun w => bin_les a b w a0 a1 b0 b1, fun w => (ref_les a b w a0 a1 b0 b1).mono fun e w' h => still h⟩, name_both_18⟩
    · exact ⟨⟨_, _, fun w => bin_leu a b w a0 a1 b0 b1, fun w => (ref_leu a b w a0 a1 b0 b1).mono fun e w' h => still h⟩, name_both_19⟩
end Go.Proofs.YtpnpilbmhkiphaaDoor.W
