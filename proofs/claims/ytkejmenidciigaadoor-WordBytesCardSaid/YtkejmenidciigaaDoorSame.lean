/-
  What the document's function Same answers at two slices that hold the same bytes: true; and what both functions Value answer at every slice: the same. They leave memory as it was.
-/
import Derived.Test.YtkejmenidciigaaDoorBytes1
namespace Go.Proofs.YtkejmenidciigaaDoor
open Go.RowKit
set_option linter.unusedVariables false

/-- A slice at that address holds these bytes. -/
def Row (w : World) (a : Option Addr) (zs : List Int) : Prop :=
  zs.length ≤ 140737488351232 ∧ (∀ z ∈ zs, 0 ≤ z ∧ z < 256) ∧ (zs = [] ∨ ∃ b off : Nat, a = some ⟨b, off, none⟩ ∧ ∀ i, i < zs.length → w.cell? ⟨b, off + i, none⟩ = some (.int .u8 (zs.getD i 0)))
theorem Row.later {w w' : World} {a : Option Addr} {zs : List Int} (h : Row w a zs) (hb : Below w.heap.size w w') : Row w' a zs := by
  obtain ⟨h1, h2, h3⟩ := h
  refine ⟨h1, h2, ?_⟩
  rcases h3 with h3 | ⟨b, off, rfl, hc⟩
  · exact .inl h3
  · refine .inr ⟨b, off, rfl, fun i hi => ?_⟩
    have hci := hc i hi
    exact (hb.cell (p := ⟨b, off + i, none⟩) (World.block_lt_of_cell? w _ hci)).trans hci
theorem drew_cell (w : World) (n : Nat) (a : Addr) : (w.drewN n).cell? a = w.cell? a := rfl
theorem getD_bd {zs : List Int} (h : ∀ z ∈ zs, 0 ≤ z ∧ z < 256) (i : Nat) : 0 ≤ zs.getD i 0 ∧ zs.getD i 0 < 256 := by
  by_cases hi : i < zs.length
  · rw [List.getD_eq_getElem?_getD, List.getElem?_eq_getElem hi]
    exact h _ (List.getElem_mem hi)
  · rw [List.getD_eq_getElem?_getD, List.getElem?_eq_none (by omega)]
    decide

set_option maxHeartbeats 1000000 in
theorem same_empty (a1 a2 : Option Addr) (c1 c2 : Nat) (w : World) :
    Calls Tryd.prog 28 #[.slice a1 0 c1, .slice a2 0 c2] w fun e w' => e = .returned (.bool true) ∧ ∃ n, w' = w.drewN n := by
  go_enter Tryd.func28, Tryd.ntmps28
  go_wp2
  refine wp_loop_rounds 1 ?_
  rw [rounds_succ]
  go_wp2
  go_ret
  exact ⟨rfl, 0, rfl⟩
set_option maxHeartbeats 1000000 in
theorem same_row (b1 o1 b2 o2 c1 c2 len : Nat) (zs : List Int) (w : World) (hl : len = zs.length) (hm : len ≤ 140737488351232)
    (h1 : ∀ i, i < len → w.cell? ⟨b1, o1 + i, none⟩ = some (.int .u8 (zs.getD i 0))) (h2 : ∀ i, i < len → w.cell? ⟨b2, o2 + i, none⟩ = some (.int .u8 (zs.getD i 0))) :
    Calls Tryd.prog 28 #[.slice (some ⟨b1, o1, none⟩) len c1, .slice (some ⟨b2, o2, none⟩) len c2] w fun e w' => e = .returned (.bool true) ∧ ∃ n, w' = w.drewN n := by
  clear hl
  have H1 : Hid _ := h1; have H2 : Hid _ := h2; clear h1 h2
  go_enter Tryd.func28, Tryd.ntmps28
  go_wp2
  go_loopw [5] (fun i wr => ∃ k : Nat, k ≤ len ∧ i = .int .i64 k ∧ ∃ n, wr = w.drewN n) (fun i _ => len - (intOf i).toNat)
  case atStart => exact ⟨0, Nat.zero_le _, rfl, 0, rfl⟩
  case round =>
    obtain ⟨k, hk, rfl, n, rfl⟩ := hrel
    by_cases hlt : k < len
    · have g1 := H1.out k hlt
      have g2 := H2.out k hlt
      generalize zs.getD k 0 = z at *
      go_wp2
      go_quiet (fail)
      go_wp2
      go_roundw
      case rel => exact ⟨k + 1, by omega, by go_num, _, rfl⟩
      case measure => simp [intOf]; omega
    · go_wp2
      go_ret
      exact ⟨rfl, n, rfl⟩
theorem same_any (a1 a2 : Option Addr) (c1 c2 : Nat) (zs : List Int) (w : World) (h1 : Row w a1 zs) (h2 : Row w a2 zs) :
    Calls Tryd.prog 28 #[.slice a1 zs.length c1, .slice a2 zs.length c2] w fun e w' => e = .returned (.bool true) ∧ ∃ n, w' = w.drewN n := by
  obtain ⟨hm, _, h1⟩ := h1
  obtain ⟨_, _, h2⟩ := h2
  by_cases hz : zs = []
  · subst hz
    exact same_empty a1 a2 c1 c2 w
  rcases h1 with h1 | ⟨b1, o1, rfl, h1⟩
  · exact absurd h1 hz
  rcases h2 with h2 | ⟨b2, o2, rfl, h2⟩
  · exact absurd h2 hz
  exact same_row b1 o1 b2 o2 c1 c2 zs.length zs w rfl hm h1 h2

set_option maxHeartbeats 1000000 in
theorem value_bad (a : Option Addr) (len cap : Nat) (s : Bool) (w : World) (hm : len ≤ 140737488351232) (h1 : ((len : Int) == 1) = false) (h2 : ((len : Int) == 2) = false) (h4 : ((len : Int) == 4) = false) :
    Calls Tryd.prog 26 #[.slice a len cap, .bool s] w fun e w' => e = .returned (.tuple #[.int .u32 0, .int .i64 2]) ∧ w' = w := by
  go_enter Tryd.func26, Tryd.ntmps26
  go_wp2
  go_ret2
  exact ⟨rfl, rfl⟩
set_option maxHeartbeats 1000000 in
theorem refvalue_bad (a : Option Addr) (len cap : Nat) (s : Bool) (w : World) (hm : len ≤ 140737488351232) (h1 : ((len : Int) == 1) = false) (h2 : ((len : Int) == 2) = false) (h4 : ((len : Int) == 4) = false) :
    Calls Tryd.prog 27 #[.slice a len cap, .bool s] w fun e w' => e = .returned (.tuple #[.int .u32 0, .int .i64 2]) ∧ w' = w := by
  have g1 : ((len : Int) != 1) = true := by simp [bne, h1]
  have g2 : ((len : Int) != 2) = true := by simp [bne, h2]
  have g4 : ((len : Int) != 4) = true := by simp [bne, h4]
  go_enter Tryd.func27, Tryd.ntmps27
  go_wp2
  go_ret2
  exact ⟨rfl, rfl⟩

/-- Both functions Value answer the same at slices that hold these bytes. -/
theorem value_both (zs : List Int) (s : Bool) : ∃ u e : Int,
    (∀ (w : World) (a : Option Addr) (cap : Nat), Row w a zs → Calls Tryd.prog 26 #[.slice a zs.length cap, .bool s] w fun r w' => r = .returned (.tuple #[.int .u32 u, .int .i64 e]) ∧ w' = w) ∧
    (∀ (w : World) (a : Option Addr) (cap : Nat), Row w a zs → Calls Tryd.prog 27 #[.slice a zs.length cap, .bool s] w fun r w' => r = .returned (.tuple #[.int .u32 u, .int .i64 e]) ∧ w' = w) := by
  match zs with
  | [x0] =>
    refine ⟨ext 1 s x0, 0, fun w a cap h => ?_, fun w a cap h => ?_⟩ <;>
    · obtain ⟨_, hb, h⟩ := h
      rcases h with h | ⟨b, off, rfl, hc⟩
      · cases h
      first | exact value_1 b off cap s x0 w (hc 0 (by simp)) (hb x0 (by simp)) | exact refvalue_1 b off cap s x0 w (hc 0 (by simp)) (hb x0 (by simp))
  | [x0, x1] =>
    refine ⟨ext 2 s (x0 + 256 * x1), 0, fun w a cap h => ?_, fun w a cap h => ?_⟩ <;>
    · obtain ⟨_, hb, h⟩ := h
      rcases h with h | ⟨b, off, rfl, hc⟩
      · cases h
      first | exact value_2 b off cap s x0 x1 w (hc 0 (by simp)) (hc 1 (by simp)) (hb x0 (by simp)) (hb x1 (by simp)) | exact refvalue_2 b off cap s x0 x1 w (hc 0 (by simp)) (hc 1 (by simp)) (hb x0 (by simp)) (hb x1 (by simp))
  | [x0, x1, x2, x3] =>
    refine ⟨ext 4 s (x0 + 256 * x1 + 65536 * x2 + 16777216 * x3), 0, fun w a cap h => ?_, fun w a cap h => ?_⟩ <;>
    · obtain ⟨_, hb, h⟩ := h
      rcases h with h | ⟨b, off, rfl, hc⟩
      · cases h
      first | exact value_4 b off cap s x0 x1 x2 x3 w (hc 0 (by simp)) (hc 1 (by simp)) (hc 2 (by simp)) (hc 3 (by simp)) (hb x0 (by simp)) (hb x1 (by simp)) (hb x2 (by simp)) (hb x3 (by simp)) | exact refvalue_4 b off cap s x0 x1 x2 x3 w (hc 0 (by simp)) (hc 1 (by simp)) (hc 2 (by simp)) (hc 3 (by simp)) (hb x0 (by simp)) (hb x1 (by simp)) (hb x2 (by simp)) (hb x3 (by simp))
  | [] => exact ⟨0, 2, fun w a cap h => value_bad a 0 cap s w (by decide) (by decide) (by decide) (by decide), fun w a cap h => refvalue_bad a 0 cap s w (by decide) (by decide) (by decide) (by decide)⟩
  | [x0, x1, x2] => exact ⟨0, 2, fun w a cap h => value_bad a 3 cap s w (by decide) (by decide) (by decide) (by decide), fun w a cap h => refvalue_bad a 3 cap s w (by decide) (by decide) (by decide) (by decide)⟩
  | x0 :: x1 :: x2 :: x3 :: x4 :: r =>
    have k : ∀ n : Int, n ≤ 4 → (((x0 :: x1 :: x2 :: x3 :: x4 :: r).length : Int) == n) = false := by
      intro n hn
      simp
      omega
    exact ⟨0, 2, fun w a cap h => value_bad a _ cap s w h.1 (k 1 (by decide)) (k 2 (by decide)) (k 4 (by decide)), fun w a cap h => refvalue_bad a _ cap s w h.1 (k 1 (by decide)) (k 2 (by decide)) (k 4 (by decide))⟩
end Go.Proofs.YtkejmenidciigaaDoor
