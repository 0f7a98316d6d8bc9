/-
  What both functions Bytes answer at every number and width: slices in new memory that hold the same bytes.
-/
import Derived.Test.YtkejmenidciigaaDoorSame
import Derived.OwnWalk
namespace Go.Proofs.YtkejmenidciigaaDoor
open Go.RowKit
set_option linter.unusedVariables false

theorem info_u8 : (Tryd.prog.info? 5).map (fun i => (i.zero, i.size, i.bytes)) = some (some (.int .u8 0), 1, 1) := by kernel_rfl
/-- The lowest bytes of a number, the lowest first. -/
def lows (c : Int) (k : Nat) : List Int := (List.range k).map fun i => c / 2 ^ (8 * i) % 256
theorem lows_succ (c : Int) (k : Nat) : lows c (k + 1) = lows c k ++ [c / 2 ^ (8 * k) % 256] := by simp [lows, List.range_succ]
theorem lows_length (c : Int) (k : Nat) : (lows c k).length = k := by simp [lows]


set_option maxHeartbeats 1000000 in
theorem refbytes_row_1 (c : Int) (w : World) (c0 : 0 ≤ c) (c1 : c < 4294967296) :
    Calls Tryd.prog 30 #[.int .u32 c, .int .i64 1] w fun e w' => ∃ v, e = .returned v ∧ w'.ownsRow w.heap.size 5 1 v 1 ((lows c 1).map (Value.int .u8)) ∧ Below w.heap.size w w' := by
  obtain ⟨i0, hi, hz0, hz1, hz2⟩ := info_parts info_u8
  generalize hB : w.heap.size = B
  have HB : Hid _ := hB
  clear hB
  go_enter Tryd.func30, Tryd.ntmps30
  go_wp2
  go_loopw [5, 6] (fun v i wr => ∃ k : Nat, k ≤ 1 ∧ i = .int .i64 k ∧ wr.ownsRow B 5 1 v k ((lows c k).map (Value.int .u8)) ∧ Below B w wr ∧ B ≤ wr.heap.size) (fun _ i _ => 1 - (intOf i).toNat)
  case atStart => exact ⟨0, Nat.zero_le _, rfl, World.ownsRow_nil _ _ _ _, Below.refl _ _, Nat.le_of_eq HB.out.symm⟩
  case round =>
    obtain ⟨k, hk, rfl, hown, hbel, hsz⟩ := hrel
    by_cases hlt : k < 1
    · go_wp2_with (at_builtin; go_must (refine wpList_append_own _ rfl (.tmp 22) (.tmp 29) 38 rfl B 5 i0 (.int .u8 0) 1 1 Tryd.underlying38 hi hz0 hz1 hz2 rfl (by decide) _ _ _ rfl (hown.alloc _) ⟨wr.heap.size, 0, none⟩ 1 1 [.int .u8 _] rfl rfl (cell_one_new _ _ _) ?c2 ?c3 ?c4 ?c5 ?_))
      case c2 => intro u hu; simp at hu; subst hu; rfl
      case c3 => unfold maxLen; omega
      case c4 => omega
      case c5 => simp; omega
      intro v' w1 hown' hgrow _
      have R : Hid (w1.ownsRow B 5 1 v' (k + 1) ((lows c (k + 1)).map (Value.int .u8)) ∧ Below B w w1 ∧ B ≤ w1.heap.size) := by
        refine ⟨?_, (hbel.alloc hsz _).grown hgrow (by simp; omega) (fun j hj => (hown.lt j hj).1), ?_⟩
        · rw [lows_succ, List.map_append]; exact hown'
        · have := hgrow.size; simp at this; omega
      clear hown' hgrow hown hbel hsz
      go_wp2
      go_roundw
      case rel => exact ⟨k + 1, by omega, by go_num, R.out.1, R.out.2.1, R.out.2.2⟩
      case measure => simp [intOf]; omega
    · have hkk : k = 1 := by omega
      subst hkk
      clear hlt hk
      go_wp2
      go_ret
      exact ⟨_, rfl, hown, hbel⟩

set_option maxHeartbeats 1000000 in
theorem refbytes_row_2 (c : Int) (w : World) (c0 : 0 ≤ c) (c1 : c < 4294967296) :
    Calls Tryd.prog 30 #[.int .u32 c, .int .i64 2] w fun e w' => ∃ v, e = .returned v ∧ w'.ownsRow w.heap.size 5 1 v 2 ((lows c 2).map (Value.int .u8)) ∧ Below w.heap.size w w' := by
  obtain ⟨i0, hi, hz0, hz1, hz2⟩ := info_parts info_u8
  generalize hB : w.heap.size = B
  have HB : Hid _ := hB
  clear hB
  go_enter Tryd.func30, Tryd.ntmps30
  go_wp2
  go_loopw [5, 6] (fun v i wr => ∃ k : Nat, k ≤ 2 ∧ i = .int .i64 k ∧ wr.ownsRow B 5 1 v k ((lows c k).map (Value.int .u8)) ∧ Below B w wr ∧ B ≤ wr.heap.size) (fun _ i _ => 2 - (intOf i).toNat)
  case atStart => exact ⟨0, Nat.zero_le _, rfl, World.ownsRow_nil _ _ _ _, Below.refl _ _, Nat.le_of_eq HB.out.symm⟩
  case round =>
    obtain ⟨k, hk, rfl, hown, hbel, hsz⟩ := hrel
    by_cases hlt : k < 2
    · go_wp2_with (at_builtin; go_must (refine wpList_append_own _ rfl (.tmp 22) (.tmp 29) 38 rfl B 5 i0 (.int .u8 0) 1 1 Tryd.underlying38 hi hz0 hz1 hz2 rfl (by decide) _ _ _ rfl (hown.alloc _) ⟨wr.heap.size, 0, none⟩ 1 1 [.int .u8 _] rfl rfl (cell_one_new _ _ _) ?c2 ?c3 ?c4 ?c5 ?_))
      case c2 => intro u hu; simp at hu; subst hu; rfl
      case c3 => unfold maxLen; omega
      case c4 => omega
      case c5 => simp; omega
      intro v' w1 hown' hgrow _
      have R : Hid (w1.ownsRow B 5 1 v' (k + 1) ((lows c (k + 1)).map (Value.int .u8)) ∧ Below B w w1 ∧ B ≤ w1.heap.size) := by
        refine ⟨?_, (hbel.alloc hsz _).grown hgrow (by simp; omega) (fun j hj => (hown.lt j hj).1), ?_⟩
        · rw [lows_succ, List.map_append]; exact hown'
        · have := hgrow.size; simp at this; omega
      clear hown' hgrow hown hbel hsz
      go_wp2
      go_roundw
      case rel => exact ⟨k + 1, by omega, by go_num, R.out.1, R.out.2.1, R.out.2.2⟩
      case measure => simp [intOf]; omega
    · have hkk : k = 2 := by omega
      subst hkk
      clear hlt hk
      go_wp2
      go_ret
      exact ⟨_, rfl, hown, hbel⟩

set_option maxHeartbeats 1000000 in
theorem refbytes_row_4 (c : Int) (w : World) (c0 : 0 ≤ c) (c1 : c < 4294967296) :
    Calls Tryd.prog 30 #[.int .u32 c, .int .i64 4] w fun e w' => ∃ v, e = .returned v ∧ w'.ownsRow w.heap.size 5 1 v 4 ((lows c 4).map (Value.int .u8)) ∧ Below w.heap.size w w' := by
  obtain ⟨i0, hi, hz0, hz1, hz2⟩ := info_parts info_u8
  generalize hB : w.heap.size = B
  have HB : Hid _ := hB
  clear hB
  go_enter Tryd.func30, Tryd.ntmps30
  go_wp2
  go_loopw [5, 6] (fun v i wr => ∃ k : Nat, k ≤ 4 ∧ i = .int .i64 k ∧ wr.ownsRow B 5 1 v k ((lows c k).map (Value.int .u8)) ∧ Below B w wr ∧ B ≤ wr.heap.size) (fun _ i _ => 4 - (intOf i).toNat)
  case atStart => exact ⟨0, Nat.zero_le _, rfl, World.ownsRow_nil _ _ _ _, Below.refl _ _, Nat.le_of_eq HB.out.symm⟩
  case round =>
    obtain ⟨k, hk, rfl, hown, hbel, hsz⟩ := hrel
    by_cases hlt : k < 4
    · go_wp2_with (at_builtin; go_must (refine wpList_append_own _ rfl (.tmp 22) (.tmp 29) 38 rfl B 5 i0 (.int .u8 0) 1 1 Tryd.underlying38 hi hz0 hz1 hz2 rfl (by decide) _ _ _ rfl (hown.alloc _) ⟨wr.heap.size, 0, none⟩ 1 1 [.int .u8 _] rfl rfl (cell_one_new _ _ _) ?c2 ?c3 ?c4 ?c5 ?_))
      case c2 => intro u hu; simp at hu; subst hu; rfl
      case c3 => unfold maxLen; omega
      case c4 => omega
      case c5 => simp; omega
      intro v' w1 hown' hgrow _
      have R : Hid (w1.ownsRow B 5 1 v' (k + 1) ((lows c (k + 1)).map (Value.int .u8)) ∧ Below B w w1 ∧ B ≤ w1.heap.size) := by
        refine ⟨?_, (hbel.alloc hsz _).grown hgrow (by simp; omega) (fun j hj => (hown.lt j hj).1), ?_⟩
        · rw [lows_succ, List.map_append]; exact hown'
        · have := hgrow.size; simp at this; omega
      clear hown' hgrow hown hbel hsz
      go_wp2
      go_roundw
      case rel => exact ⟨k + 1, by omega, by go_num, R.out.1, R.out.2.1, R.out.2.2⟩
      case measure => simp [intOf]; omega
    · have hkk : k = 4 := by omega
      subst hkk
      clear hlt hk
      go_wp2
      go_ret
      exact ⟨_, rfl, hown, hbel⟩

set_option maxHeartbeats 1000000 in
theorem bytes_bad (c k : Int) (w : World) (h1 : (k == 1) = false) (h2 : (k == 2) = false) (h4 : (k == 4) = false) :
    Calls Tryd.prog 29 #[.int .u32 c, .int .i64 k] w fun e w' => e = .returned (.slice none 0 0) ∧ w' = w := by
  go_enter Tryd.func29, Tryd.ntmps29
  go_wp2
  go_ret
  exact ⟨rfl, rfl⟩
set_option maxHeartbeats 1000000 in
theorem refbytes_bad (c k : Int) (w : World) (h1 : (k == 1) = false) (h2 : (k == 2) = false) (h4 : (k == 4) = false) :
    Calls Tryd.prog 30 #[.int .u32 c, .int .i64 k] w fun e w' => e = .returned (.slice none 0 0) ∧ w' = w := by
  have g1 : (k != 1) = true := by simp [bne, h1]
  have g2 : (k != 2) = true := by simp [bne, h2]
  have g4 : (k != 4) = true := by simp [bne, h4]
  go_enter Tryd.func30, Tryd.ntmps30
  go_wp2
  go_ret
  exact ⟨rfl, rfl⟩

theorem lows_bd (c : Int) (k : Nat) : ∀ z ∈ lows c k, 0 ≤ z ∧ z < 256 := by
  intro z hz
  simp only [lows, List.mem_map] at hz
  obtain ⟨i, _, rfl⟩ := hz
  omega
/-- What a call makes of its own, as a row of bytes. -/
theorem row_of_owned {w : World} {B n : Nat} {v : Value} {zs : List Int} (hl : zs.length = n) (hm : n ≤ 140737488351232) (hz : ∀ z ∈ zs, 0 ≤ z ∧ z < 256) (h : w.ownsRow B 5 1 v n (zs.map (Value.int .u8))) :
    ∃ a cap, v = .slice a zs.length cap ∧ Row w a zs := by
  have h0 := h
  obtain ⟨_, hcase⟩ := h
  rcases hcase with ⟨rfl, h1⟩ | ⟨g, cap, cur, rfl, _⟩
  · have e : zs = [] := List.length_eq_zero_iff.1 (by omega)
    subst e
    exact ⟨none, 0, rfl, by simp, by simp, .inl rfl⟩
  · refine ⟨some ⟨g, 0, none⟩, cap, by rw [hl], by omega, hz, .inr ⟨g, 0, rfl, fun i hi => ?_⟩⟩
    rw [Nat.zero_add, h0.cellAt i (by omega)]
    simp [List.getD, List.getElem?_eq_getElem hi]
theorem row_new (w : World) (zs : List Int) (hm : zs.length ≤ 4) (hz : ∀ z ∈ zs, 0 ≤ z ∧ z < 256) : Row (w.alloc (.cells (zs.map (Value.int .u8)).toArray 5)) (some ⟨w.heap.size, 0, none⟩) zs := by
  refine ⟨by omega, hz, .inr ⟨_, _, rfl, fun i hi => ?_⟩⟩
  rw [Nat.zero_add, World.cell?_alloc_at _ _ _ _ rfl]
  simp [List.getD, List.getElem?_eq_getElem hi]
/-- Both functions Bytes make slices of the same bytes. -/
def BothBytes (c k : Int) : Prop := ∃ zs : List Int,
  (∀ w, Calls Tryd.prog 29 #[.int .u32 c, .int .i64 k] w fun e w' => ∃ a cap, e = .returned (.slice a zs.length cap) ∧ Row w' a zs ∧ Below w.heap.size w w') ∧
  (∀ w, Calls Tryd.prog 30 #[.int .u32 c, .int .i64 k] w fun e w' => ∃ a cap, e = .returned (.slice a zs.length cap) ∧ Row w' a zs ∧ Below w.heap.size w w')
theorem lows_1 (c : Int) (c0 : 0 ≤ c) (c1 : c < 4294967296) : lows c 1 = [c % 256] := by
  simp [lows, List.range_succ]
theorem both_bytes_1 (c : Int) (c0 : 0 ≤ c) (c1 : c < 4294967296) : BothBytes c 1 := by
  refine ⟨lows c 1, fun w => ?_, fun w => ?_⟩
  · refine (bytes_1 c w c0 c1).mono ?_
    rintro e w' ⟨rfl, rfl⟩
    refine ⟨_, _, by rw [lows_length], ?_, (Below.refl _ _).alloc (Nat.le_refl _) _⟩
    have h := row_new w (lows c 1) (by rw [lows_length]; decide) (lows_bd c 1)
    rw [lows_1 c c0 c1] at h ⊢
    exact h
  · refine (refbytes_row_1 c w c0 c1).mono ?_
    rintro e w' ⟨v, rfl, hown, hbel⟩
    obtain ⟨a, cap, rfl, hr⟩ := row_of_owned (lows_length c 1) (by decide) (lows_bd c 1) hown
    exact ⟨a, cap, rfl, hr, hbel⟩
theorem lows_2 (c : Int) (c0 : 0 ≤ c) (c1 : c < 4294967296) : lows c 2 = [c % 256, c / 256 % 256] := by
  simp [lows, List.range_succ]
theorem both_bytes_2 (c : Int) (c0 : 0 ≤ c) (c1 : c < 4294967296) : BothBytes c 2 := by
  refine ⟨lows c 2, fun w => ?_, fun w => ?_⟩
  · refine (bytes_2 c w c0 c1).mono ?_
    rintro e w' ⟨rfl, rfl⟩
    refine ⟨_, _, by rw [lows_length], ?_, (Below.refl _ _).alloc (Nat.le_refl _) _⟩
    have h := row_new w (lows c 2) (by rw [lows_length]; decide) (lows_bd c 2)
    rw [lows_2 c c0 c1] at h ⊢
    exact h
  · refine (refbytes_row_2 c w c0 c1).mono ?_
    rintro e w' ⟨v, rfl, hown, hbel⟩
    obtain ⟨a, cap, rfl, hr⟩ := row_of_owned (lows_length c 2) (by decide) (lows_bd c 2) hown
    exact ⟨a, cap, rfl, hr, hbel⟩
theorem lows_4 (c : Int) (c0 : 0 ≤ c) (c1 : c < 4294967296) : lows c 4 = [c % 256, c / 256 % 256, c / 65536 % 256, c / 16777216] := by
  simp [lows, List.range_succ]
  omega
theorem both_bytes_4 (c : Int) (c0 : 0 ≤ c) (c1 : c < 4294967296) : BothBytes c 4 := by
  refine ⟨lows c 4, fun w => ?_, fun w => ?_⟩
  · refine (bytes_4 c w c0 c1).mono ?_
    rintro e w' ⟨rfl, rfl⟩
    refine ⟨_, _, by rw [lows_length], ?_, (Below.refl _ _).alloc (Nat.le_refl _) _⟩
    have h := row_new w (lows c 4) (by rw [lows_length]; decide) (lows_bd c 4)
    rw [lows_4 c c0 c1] at h ⊢
    exact h
  · refine (refbytes_row_4 c w c0 c1).mono ?_
    rintro e w' ⟨v, rfl, hown, hbel⟩
    obtain ⟨a, cap, rfl, hr⟩ := row_of_owned (lows_length c 4) (by decide) (lows_bd c 4) hown
    exact ⟨a, cap, rfl, hr, hbel⟩
theorem both_bytes (c k : Int) (c0 : 0 ≤ c) (c1 : c < 4294967296) : BothBytes c k := by
  by_cases h1 : k = 1
  · subst h1; exact both_bytes_1 c c0 c1
  by_cases h2 : k = 2
  · subst h2; exact both_bytes_2 c c0 c1
  by_cases h4 : k = 4
  · subst h4; exact both_bytes_4 c c0 c1
  refine ⟨[], fun w => ?_, fun w => ?_⟩
  · refine (bytes_bad c k w (by simpa using h1) (by simpa using h2) (by simpa using h4)).mono ?_
    rintro e w' ⟨rfl, rfl⟩
    exact ⟨_, _, rfl, ⟨by simp, by simp, .inl rfl⟩, Below.refl _ _⟩
  · refine (refbytes_bad c k w (by simpa using h1) (by simpa using h2) (by simpa using h4)).mono ?_
    rintro e w' ⟨rfl, rfl⟩
    exact ⟨_, _, rfl, ⟨by simp, by simp, .inl rfl⟩, Below.refl _ _⟩
end Go.Proofs.YtkejmenidciigaaDoor
