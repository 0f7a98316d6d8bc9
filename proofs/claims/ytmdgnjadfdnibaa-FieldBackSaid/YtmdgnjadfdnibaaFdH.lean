/-
  The given answer's function Bytes at two slices that hold the same bytes: true; and the laws' common part heads: it returns true, and changes nothing that was there.
-/
import Derived.Test.YtmdgnjadfdnibaaFdX
namespace Go.Proofs.Ytmdgnjadfdnibaa
open Go.RowKit
set_option linter.unusedVariables false
set_option maxHeartbeats 1000000 in
theorem bytes_empty (a1 a2 : Option Addr) (c1 c2 : Nat) (w : World) :
    Calls Try.prog 21 #[.slice a1 0 c1, .slice a2 0 c2] w fun e w' => e = .returned (.bool true) ∧ ∃ n, w' = w.drewN n := by
  go_enter Try.func21, Try.ntmps21
  go_wp2
  refine wp_loop_rounds 1 ?_
  rw [rounds_succ]
  go_wp2
  go_ret
  exact ⟨rfl, 0, rfl⟩
set_option maxHeartbeats 1000000 in
theorem bytes_row (b1 o1 b2 o2 c1 c2 len : Nat) (zs : List Int) (w : World) (hm : len ≤ 140737488351232)
    (h1 : ∀ i, i < len → w.cell? ⟨b1, o1 + i, none⟩ = some (.int .u8 (zs.getD i 0))) (h2 : ∀ i, i < len → w.cell? ⟨b2, o2 + i, none⟩ = some (.int .u8 (zs.getD i 0))) :
    Calls Try.prog 21 #[.slice (some ⟨b1, o1, none⟩) len c1, .slice (some ⟨b2, o2, none⟩) len c2] w fun e w' => e = .returned (.bool true) ∧ ∃ n, w' = w.drewN n := by
  have H1 : Hid _ := h1; have H2 : Hid _ := h2; clear h1 h2
  go_enter Try.func21, Try.ntmps21
  go_wp2
  go_loopw [5] (fun i wr => ∃ k : Nat, k ≤ len ∧ i = .int .i64 k ∧ ∃ n, wr = w.drewN n) (fun i _ => len - (intOf i).toNat)
  case atStart => exact ⟨0, Nat.zero_le _, rfl, 0, rfl⟩
  case round =>
    obtain ⟨k, hk, rfl, n, rfl⟩ := hrel
    by_cases hlt : k < len
    · have g1 := H1.out k hlt
      have g2 := H2.out k hlt
      generalize zs.getD k 0 = z at *
      go_wp2
      go_quiet (fail)
      go_wp2
      go_roundw
      case rel => exact ⟨k + 1, by omega, by go_num, _, rfl⟩
      case measure => simp [intOf]; omega
    · go_wp2
      go_ret
      exact ⟨rfl, n, rfl⟩
theorem bytes_c (a1 a2 : Option Addr) (c1 c2 : Nat) (zs : List Int) (w : World) (h1 : Row w a1 zs) (h2 : Row w a2 zs) :
    Calls Try.prog 21 #[.slice a1 zs.length c1, .slice a2 zs.length c2] w fun e w' => e = .returned (.bool true) ∧ ∃ n, w' = w.drewN n := by
  obtain ⟨hm, _, h1⟩ := h1
  obtain ⟨_, _, h2⟩ := h2
  by_cases hz : zs = []
  · subst hz
    exact bytes_empty a1 a2 c1 c2 w
  rcases h1 with h1 | ⟨b1, o1, rfl, h1⟩
  · exact absurd h1 hz
  rcases h2 with h2 | ⟨b2, o2, rfl, h2⟩
  · exact absurd h2 hz
  exact bytes_row b1 o1 b2 o2 c1 c2 zs.length zs w hm h1 h2
theorem row4 (w : World) (g : Nat) (x0 x1 x2 x3 : Int) (h : w.heap[g]? = some (.cells #[.int .u8 x0, .int .u8 x1, .int .u8 x2, .int .u8 x3] 5 (0, 0))) (hb : ∀ z ∈ [x0, x1, x2, x3], 0 ≤ z ∧ z < 256) : Row w (some ⟨g, 0, none⟩) [x0, x1, x2, x3] := by
  refine ⟨by simp, hb, .inr ⟨g, 0, rfl, fun i hi => ?_⟩⟩
  rw [cell_of h, Nat.zero_add]
  match i, hi with
  | 0, _ => rfl
  | 1, _ => rfl
  | 2, _ => rfl
  | 3, _ => rfl
theorem hd_mask (w : World) : Calls Try.prog 7 #[.int .i64 3, .int .i64 5] w fun e w' => e = .returned (.tuple #[.int .u32 248, .int .i64 0]) ∧ w' = w := by
  have c := Mask_yes 3 5 w (by decide) (by decide)
  rw [show maskB 3 5 = 248#32 by decide +kernel] at c
  exact c
theorem hd_get (w : World) : Calls Try.prog 9 #[.int .u32 43981, .int .u32 4294967295, .int .i64 4, .int .i64 8, .bool true] w fun e w' => e = .returned (.tuple #[.int .u32 4294967228, .bool true, .int .i64 0]) ∧ w' = w := by
  have c := Get_yes 43981#32 4294967295#32 4 8 true w (by decide) (by decide) (by unfold knows; decide +kernel)
  rw [show takeB 43981#32 4 8 true = 4294967228#32 by decide +kernel] at c
  exact c
theorem hd_un (w : World) : Calls Try.prog 9 #[.int .u32 43981, .int .u32 240, .int .i64 4, .int .i64 8, .bool true] w fun e w' => e = .returned (.tuple #[.int .u32 0, .bool false, .int .i64 0]) ∧ w' = w :=
  Get_unknown 43981#32 240#32 4 8 true w (by decide) (by decide) (by unfold knows; decide +kernel)
theorem hd_put (w : World) : Calls Try.prog 11 #[.int .u32 0, .int .u32 0, .int .i64 4, .int .i64 4, .int .u32 18] w fun e w' => e = .returned (.tuple #[.int .u32 32, .int .u32 240, .int .i64 0]) ∧ w' = w := by
  have c := Put_yes 0#32 0#32 18#32 4 4 w (by decide) (by decide)
  rw [show layB 0#32 4 4 18#32 = 32#32 by decide +kernel, show 0#32 ||| maskB 4 4 = 240#32 by decide +kernel] at c
  exact c
theorem hd_val (w : World) : Calls Try.prog 15 #[.int .i64 8, .int .i64 3, .int .u32 5] w fun e w' => e = .returned (.tuple #[.int .u32 4294967293, .int .i64 0]) ∧ w' = w := by
  have c := Value_yes 8 3 5#32 w ⟨by decide, by decide, by decide⟩
  rw [show valueB 8 3 5#32 = 4294967293#32 by decide +kernel] at c
  exact c
theorem hd_valno (w : World) : Calls Try.prog 15 #[.int .i64 2, .int .i64 2, .int .u32 0] w fun e w' => e = .returned (.tuple #[.int .u32 0, .int .i64 80]) ∧ w' = w :=
  Value_no 2 2 0#32 w (by intro h; have := h.2.2; revert this; decide)
theorem hd_lies : Lies ((0 : Nat) : Int) ((6 : Nat) : Int) ((4 : Nat) : Int) 8 := ⟨by decide, by decide, by decide, by decide⟩
theorem hd_touch (w : World) : Calls Try.prog 22 #[placeV 0 0 0 6 4, .int .i64 8] w fun e w' => e = .returned (.tuple #[.int .i64 0, .int .i64 2, .int .i64 0]) ∧ Below w.heap.size w w' :=
  Touched_yes 0 0 8 0 6 4 w hd_lies (by decide)
theorem hd_write (g : Nat) (w : World) (h : w.heap[g]? = some (.cells #[.int .u8 0, .int .u8 0, .int .u8 0, .int .u8 0] 5 (0, 0))) :
    Calls Try.prog 19 #[.slice (some ⟨g, 0, none⟩) 4 4, placeV 0 0 0 6 4, .int .i64 8, .int .u32 15] w fun e w' => ∃ a' cap', e = .returned (.tuple #[.slice a' 4 cap', .int .i64 0]) ∧ Row w' a' [192, 3, 0, 0] ∧ Below w.heap.size w w' := by
  have c := Write_yes (some ⟨g, 0, none⟩) 4 [0, 0, 0, 0] 0 0 8 0 6 4 15#32 w (row4 w g 0 0 0 0 h (by decide)) hd_lies (by decide)
  rw [show setB [0, 0, 0, 0] 0 (layB (unitB [0, 0, 0, 0] 0 (widthOf 8)) 6 4 (putB 8 15#32)) (widthOf 8) = [192, 3, 0, 0] by decide +kernel] at c
  exact c
set_option maxHeartbeats 400000 in
theorem num_c (x : Int) (w : World) : Calls Try.prog 13 #[.int .i64 x] w fun e w' => e = .returned (.int .i64 x) ∧ w' = w := by
  go_enter Try.func13, Try.ntmps13
  go_wp2
  go_ret
  exact ⟨rfl, rfl⟩
set_option maxHeartbeats 8000000 in
theorem heads_c (w : World) : Calls Try.prog 14 #[] w fun e w' => e = .returned (.bool true) ∧ Below w.heap.size w w' := by
  go_enter Try.func14, Try.ntmps14
  go_wp2_with fail
  refine (hd_mask _).mono ?_; rintro e w' ⟨rfl, rfl⟩
  go_wp2_with fail
  refine (hd_get _).mono ?_; rintro e w' ⟨rfl, rfl⟩
  go_wp2_with fail
  refine (hd_un _).mono ?_; rintro e w' ⟨rfl, rfl⟩
  go_wp2_with fail
  refine (hd_put _).mono ?_; rintro e w' ⟨rfl, rfl⟩
  go_wp2_with fail
  refine (hd_val _).mono ?_; rintro e w' ⟨rfl, rfl⟩
  go_wp2_with fail
  refine (hd_write _ _ (heap_r0 _ _)).mono ?_; rintro e w1 ⟨a1, cap1, rfl, hr1, hb1⟩
  have HR : Hid (Row w1 a1 [192, 3, 0, 0]) := hr1
  have HB := boxed_below hb1
  clear hr1 hb1
  go_wp2_with fail
  refine (hd_touch _).mono ?_; rintro e w2 ⟨rfl, hb2⟩
  have HR2 : Hid (Row w2 a1 [192, 3, 0, 0]) := HR.out.later hb2
  have HB2 : Hid (Below w'.heap.size w' w2) := HB.out.trans (hb2.mono HB.out.size)
  clear hb2 HR HB
  go_wp2_with fail
  refine (hd_valno _).mono ?_; rintro e w' ⟨rfl, hw⟩; rw [hw]; clear hw w'
  go_wp2_with (first | (go_at_call 13; refine (num_c _ _).mono ?_; rintro e w' ⟨rfl, hw⟩; rw [hw]; clear hw w') | (go_at_call 21; refine (bytes_c a1 _ cap1 4 [192, 3, 0, 0] _ (HR2.out.later ((Below.refl _ _).alloc (Nat.le_refl _) _)) (row4 _ _ _ _ _ _ (heap_r0 _ _) (by decide))).mono ?_; rintro e w' ⟨rfl, nb, hw⟩; rw [hw]; clear hw w'))
  go_ret
  exact ⟨rfl, below_drewN (HB2.out.alloc HB2.out.size _) _⟩
end Go.Proofs.Ytmdgnjadfdnibaa
