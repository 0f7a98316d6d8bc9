/-
  What the functions Value of both packages answer at one, two and four bytes that lie in memory; they leave the world as it was (the document's own may draw).
-/
import Derived.Test.YtigiahcfcglacaaWExt
namespace Go.Proofs.Ytigiahcfcglacaa.W
open Go.RowKit
set_option linter.unusedVariables false

/-- A call answers that, and leaves the world as it was. -/
abbrev Answers (f : Nat) (args : Array Value) (v : Value) : Prop := ∀ w, Calls Try.prog f args w fun e w' => e = .returned v ∧ w' = w
/-- The lowest bytes of a number with or without its sign, at every width. -/
def ext (width : Int) (s : Bool) (v : Int) : Int :=
  if width = 1 then (if s then low8 v else v % 256) else if width = 2 then (if s then low16 v else v % 65536) else v
theorem extend_any (v width : Int) (s : Bool) (v0 : 0 ≤ v) (v1 : v < 4294967296) :
    Answers 84 #[.int .u32 v, .int .i64 width, .bool s] (.int .u32 (ext width s v)) ∧ Answers 77 #[.int .u32 v, .int .i64 width, .bool s] (.int .u32 (ext width s v)) := by
  unfold ext
  by_cases h1 : width = 1
  · subst h1
    rw [if_pos rfl]
    cases s
    · exact ⟨fun w => extend_1u v w v0 v1, fun w => extended_1u v w v0 v1⟩
    · exact ⟨fun w => extend_1s v w v0 v1, fun w => extended_1s v w v0 v1⟩
  rw [if_neg h1]
  by_cases h2 : width = 2
  · subst h2
    rw [if_pos rfl]
    cases s
    · exact ⟨fun w => extend_2u v w v0 v1, fun w => extended_2u v w v0 v1⟩
    · exact ⟨fun w => extend_2s v w v0 v1, fun w => extended_2s v w v0 v1⟩
  rw [if_neg h2]
  exact ⟨fun w => extend_all v _ _ w (by simpa using h1) (by simpa using h2), fun w => extended_all v _ _ w (by simpa using h1) (by simpa using h2)⟩

theorem or_zero (x : Int) (x0 : 0 ≤ x) (x1 : x < 4294967296) : bits .or .u32 0 x = x := by
  rw [u32_or 0 x (by decide) (by decide) x0 x1]
  have : (0 : Int).toNat ||| x.toNat = x.toNat := by simp
  omega
theorem or_join (n : Nat) (a y : Int) (a0 : 0 ≤ a) (a1 : a < 2 ^ n) (y0 : 0 ≤ y) (y1 : y % 2 ^ n = 0) (y2 : y < 4294967296) (hn : (2 : Int) ^ n ≤ 4294967296) : bits .or .u32 a y = a + y := by
  rw [u32_or a y a0 (by omega) y0 y2, Nat.or_comm]
  have e : (2 : Int) ^ n = ((2 ^ n : Nat) : Int) := by simp
  have y3 : y.toNat % 2 ^ n = 0 := by
    obtain ⟨m, rfl⟩ := Int.eq_ofNat_of_zero_le y0
    rw [e] at y1
    have y4 : ((m % 2 ^ n : Nat) : Int) = 0 := by rw [Int.natCast_emod]; exact y1
    rw [Int.toNat_natCast]
    omega
  rw [nat_join n y.toNat a.toNat y3 (by rw [e] at a1; omega)]
  omega
theorem join_2 (x0 x1 : Int) (a0 : 0 ≤ x0 ∧ x0 < 256) (a1 : 0 ≤ x1 ∧ x1 < 256) : bits .or .u32 (bits .or .u32 0 x0) (x1 * 256) = x0 + 256 * x1 := by
  rw [or_zero x0 a0.1 (by omega), or_join 8 x0 (x1 * 256) a0.1 (by omega) (by omega) (by omega) (by omega) (by decide)]
  omega
theorem join_4 (x0 x1 x2 x3 : Int) (a0 : 0 ≤ x0 ∧ x0 < 256) (a1 : 0 ≤ x1 ∧ x1 < 256) (a2 : 0 ≤ x2 ∧ x2 < 256) (a3 : 0 ≤ x3 ∧ x3 < 256) :
    bits .or .u32 (bits .or .u32 (bits .or .u32 (bits .or .u32 0 x0) (x1 * 256)) (x2 * 65536)) (x3 * 16777216) = x0 + 256 * x1 + 65536 * x2 + 16777216 * x3 := by
  rw [join_2 x0 x1 a0 a1, or_join 16 _ (x2 * 65536) (by omega) (by omega) (by omega) (by omega) (by omega) (by decide), or_join 24 _ (x3 * 16777216) (by omega) (by omega) (by omega) (by omega) (by omega) (by decide)]
  omega

set_option maxHeartbeats 1000000 in
theorem value_1 (b off cap : Nat) (s : Bool) (x0 : Int) (w : World) (h0 : w.cell? ⟨b, off, none⟩ = some (.int .u8 x0)) (a0 : 0 ≤ x0 ∧ x0 < 256) :
    Calls Try.prog 73 #[.slice (some ⟨b, off, none⟩) 1 cap, .bool s] w fun e w' => e = .returned (.tuple #[.int .u32 (ext 1 s x0), .int .i64 0]) ∧ w' = w := by
  go_enter Try.func73, Try.ntmps73
  go_wp2
  refine wp_loop_rounds 2 ?_
  rw [rounds_succ]
  go_wp2
  rw [rounds_succ]
  go_wp2_with fail
  rw [or_zero x0 a0.1 (by omega)]
  refine ((extend_any _ 1 s (by omega) (by omega)).1 _).mono ?_; rintro e w' ⟨rfl, rfl⟩
  go_wp2_with fail
  go_ret2
  exact ⟨rfl, rfl⟩

set_option maxHeartbeats 1000000 in
theorem value_2 (b off cap : Nat) (s : Bool) (x0 x1 : Int) (w : World) (h0 : w.cell? ⟨b, off, none⟩ = some (.int .u8 x0)) (h1 : w.cell? ⟨b, off + 1, none⟩ = some (.int .u8 x1)) (a0 : 0 ≤ x0 ∧ x0 < 256) (a1 : 0 ≤ x1 ∧ x1 < 256) :
    Calls Try.prog 73 #[.slice (some ⟨b, off, none⟩) 2 cap, .bool s] w fun e w' => e = .returned (.tuple #[.int .u32 (ext 2 s (x0 + 256 * x1)), .int .i64 0]) ∧ w' = w := by
  go_enter Try.func73, Try.ntmps73
  go_wp2
  refine wp_loop_rounds 3 ?_
  rw [rounds_succ]
  go_wp2
  rw [rounds_succ]
  go_wp2
  rw [rounds_succ]
  go_wp2_with fail
  rw [join_2 x0 x1 a0 a1]
  refine ((extend_any _ 2 s (by omega) (by omega)).1 _).mono ?_; rintro e w' ⟨rfl, rfl⟩
  go_wp2_with fail
  go_ret2
  exact ⟨rfl, rfl⟩

set_option maxHeartbeats 1000000 in
theorem value_4 (b off cap : Nat) (s : Bool) (x0 x1 x2 x3 : Int) (w : World) (h0 : w.cell? ⟨b, off, none⟩ = some (.int .u8 x0)) (h1 : w.cell? ⟨b, off + 1, none⟩ = some (.int .u8 x1)) (h2 : w.cell? ⟨b, off + 2, none⟩ = some (.int .u8 x2)) (h3 : w.cell? ⟨b, off + 3, none⟩ = some (.int .u8 x3)) (a0 : 0 ≤ x0 ∧ x0 < 256) (a1 : 0 ≤ x1 ∧ x1 < 256) (a2 : 0 ≤ x2 ∧ x2 < 256) (a3 : 0 ≤ x3 ∧ x3 < 256) :
    Calls Try.prog 73 #[.slice (some ⟨b, off, none⟩) 4 cap, .bool s] w fun e w' => e = .returned (.tuple #[.int .u32 (ext 4 s (x0 + 256 * x1 + 65536 * x2 + 16777216 * x3)), .int .i64 0]) ∧ w' = w := by
  go_enter Try.func73, Try.ntmps73
  go_wp2
  refine wp_loop_rounds 5 ?_
  rw [rounds_succ]
  go_wp2
  rw [rounds_succ]
  go_wp2
  rw [rounds_succ]
  go_wp2
  rw [rounds_succ]
  go_wp2
  rw [rounds_succ]
  go_wp2_with fail
  rw [join_4 x0 x1 x2 x3 a0 a1 a2 a3]
  refine ((extend_any _ 4 s (by omega) (by omega)).1 _).mono ?_; rintro e w' ⟨rfl, rfl⟩
  go_wp2_with fail
  go_ret2
  exact ⟨rfl, rfl⟩

set_option maxHeartbeats 1000000 in
theorem refvalue_1 (b off cap : Nat) (s : Bool) (x0 : Int) (w : World) (h0 : w.cell? ⟨b, off, none⟩ = some (.int .u8 x0)) (a0 : 0 ≤ x0 ∧ x0 < 256) :
    Calls Try.prog 63 #[.slice (some ⟨b, off, none⟩) 1 cap, .bool s] w fun e w' => e = .returned (.tuple #[.int .u32 (ext 1 s x0), .int .i64 0]) ∧ w' = w := by
  go_enter Try.func63, Try.ntmps63
  go_wp2
  refine wp_loop_rounds 2 ?_
  rw [rounds_succ]
  go_wp2
  rw [rounds_succ]
  go_wp2_with fail
  rw [or_zero x0 a0.1 (by omega)]
  refine ((extend_any _ 1 s (by omega) (by omega)).2 _).mono ?_; rintro e w' ⟨rfl, rfl⟩
  go_wp2_with fail
  go_ret2
  exact ⟨rfl, rfl⟩

set_option maxHeartbeats 1000000 in
theorem refvalue_2 (b off cap : Nat) (s : Bool) (x0 x1 : Int) (w : World) (h0 : w.cell? ⟨b, off, none⟩ = some (.int .u8 x0)) (h1 : w.cell? ⟨b, off + 1, none⟩ = some (.int .u8 x1)) (a0 : 0 ≤ x0 ∧ x0 < 256) (a1 : 0 ≤ x1 ∧ x1 < 256) :
    Calls Try.prog 63 #[.slice (some ⟨b, off, none⟩) 2 cap, .bool s] w fun e w' => e = .returned (.tuple #[.int .u32 (ext 2 s (x0 + 256 * x1)), .int .i64 0]) ∧ w' = w := by
  go_enter Try.func63, Try.ntmps63
  go_wp2
  refine wp_loop_rounds 3 ?_
  rw [rounds_succ]
  go_wp2
  rw [rounds_succ]
  go_wp2
  rw [rounds_succ]
  go_wp2_with fail
  rw [join_2 x0 x1 a0 a1]
  refine ((extend_any _ 2 s (by omega) (by omega)).2 _).mono ?_; rintro e w' ⟨rfl, rfl⟩
  go_wp2_with fail
  go_ret2
  exact ⟨rfl, rfl⟩

set_option maxHeartbeats 1000000 in
theorem refvalue_4 (b off cap : Nat) (s : Bool) (x0 x1 x2 x3 : Int) (w : World) (h0 : w.cell? ⟨b, off, none⟩ = some (.int .u8 x0)) (h1 : w.cell? ⟨b, off + 1, none⟩ = some (.int .u8 x1)) (h2 : w.cell? ⟨b, off + 2, none⟩ = some (.int .u8 x2)) (h3 : w.cell? ⟨b, off + 3, none⟩ = some (.int .u8 x3)) (a0 : 0 ≤ x0 ∧ x0 < 256) (a1 : 0 ≤ x1 ∧ x1 < 256) (a2 : 0 ≤ x2 ∧ x2 < 256) (a3 : 0 ≤ x3 ∧ x3 < 256) :
    Calls Try.prog 63 #[.slice (some ⟨b, off, none⟩) 4 cap, .bool s] w fun e w' => e = .returned (.tuple #[.int .u32 (ext 4 s (x0 + 256 * x1 + 65536 * x2 + 16777216 * x3)), .int .i64 0]) ∧ w' = w := by
  go_enter Try.func63, Try.ntmps63
  go_wp2
  refine wp_loop_rounds 5 ?_
  rw [rounds_succ]
  go_wp2
  rw [rounds_succ]
  go_wp2
  rw [rounds_succ]
  go_wp2
  rw [rounds_succ]
  go_wp2
  rw [rounds_succ]
  go_wp2_with fail
  rw [join_4 x0 x1 x2 x3 a0 a1 a2 a3]
  refine ((extend_any _ 4 s (by omega) (by omega)).2 _).mono ?_; rintro e w' ⟨rfl, rfl⟩
  go_wp2_with fail
  go_ret2
  exact ⟨rfl, rfl⟩

set_option maxHeartbeats 1000000 in
theorem bytes_1 (c : Int) (w : World) (c0 : 0 ≤ c) (c1 : c < 4294967296) :
    Calls Try.prog 72 #[.int .u32 c, .int .i64 1] w fun e w' => e = .returned (.slice (some ⟨w.heap.size, 0, none⟩) 1 1) ∧ w' = w.alloc (.cells #[.int .u8 (c % 256)] 5) := by
  have hmk : ∀ w, (Instr.makeSlice 112 (.int .i64 1) (.int .i64 1)).run Try.prog w = .ok (.slice (some ⟨w.heap.size, 0, none⟩) 1 1) (w.alloc (.cells #[.int .u8 0] 5)) := fun _ => by kernel_rfl
  go_enter Try.func72, Try.ntmps72
  go_wp2
  refine wp_loop_rounds 2 ?_
  rw [rounds_succ]
  go_wp2
  rw [rounds_succ]
  go_wp2
  go_ret
  exact ⟨rfl, rfl⟩

set_option maxHeartbeats 1000000 in
theorem bytes_2 (c : Int) (w : World) (c0 : 0 ≤ c) (c1 : c < 4294967296) :
    Calls Try.prog 72 #[.int .u32 c, .int .i64 2] w fun e w' => e = .returned (.slice (some ⟨w.heap.size, 0, none⟩) 2 2) ∧ w' = w.alloc (.cells #[.int .u8 (c % 256), .int .u8 (c / 256 % 256)] 5) := by
  have hmk : ∀ w, (Instr.makeSlice 112 (.int .i64 2) (.int .i64 2)).run Try.prog w = .ok (.slice (some ⟨w.heap.size, 0, none⟩) 2 2) (w.alloc (.cells #[.int .u8 0, .int .u8 0] 5)) := fun _ => by kernel_rfl
  go_enter Try.func72, Try.ntmps72
  go_wp2
  refine wp_loop_rounds 3 ?_
  rw [rounds_succ]
  go_wp2
  rw [rounds_succ]
  go_wp2
  rw [rounds_succ]
  go_wp2
  go_ret
  exact ⟨rfl, rfl⟩

set_option maxHeartbeats 1000000 in
theorem bytes_4 (c : Int) (w : World) (c0 : 0 ≤ c) (c1 : c < 4294967296) :
    Calls Try.prog 72 #[.int .u32 c, .int .i64 4] w fun e w' => e = .returned (.slice (some ⟨w.heap.size, 0, none⟩) 4 4) ∧ w' = w.alloc (.cells #[.int .u8 (c % 256), .int .u8 (c / 256 % 256), .int .u8 (c / 65536 % 256), .int .u8 (c / 16777216)] 5) := by
  have hmk : ∀ w, (Instr.makeSlice 112 (.int .i64 4) (.int .i64 4)).run Try.prog w = .ok (.slice (some ⟨w.heap.size, 0, none⟩) 4 4) (w.alloc (.cells #[.int .u8 0, .int .u8 0, .int .u8 0, .int .u8 0] 5)) := fun _ => by kernel_rfl
  go_enter Try.func72, Try.ntmps72
  go_wp2
  refine wp_loop_rounds 5 ?_
  rw [rounds_succ]
  go_wp2
  rw [rounds_succ]
  go_wp2
  rw [rounds_succ]
  go_wp2
  rw [rounds_succ]
  go_wp2
  rw [rounds_succ]
  go_wp2
  go_ret
  exact ⟨rfl, rfl⟩
end Go.Proofs.Ytigiahcfcglacaa.W
