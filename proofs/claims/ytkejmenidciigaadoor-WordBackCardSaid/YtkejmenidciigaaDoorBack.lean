/-
  The law WordBack returns true at every kind's number and every number of 32 bits, and each argument reads afterwards as before. No condition beyond the given statement's own (the table of names holds what the program's text lays into it).
-/
import Derived.Test.YtkejmenidciigaaDoorFrame
import Derived.Test.YtkejmenidciigaaDoorFits
import Derived.Test.YtkejmenidciigaaDoorBytes1
import Derived.Test.YtkejmenidciigaaDoorTie
import Derived.Test.YtkejmenidciigaaDoorCards
import Derived.SevenTiedAt
namespace Go.Proofs.YtkejmenidciigaaDoor
open Go.ChangeShapes Go.WideShapes Go.ChangeAt Go.RowKit
set_option linter.unusedVariables false

theorem of_every (n : Int) (w : World) : Calls Tryd.prog 19 #[.int .i64 n] w fun e w' => e = .returned (.int .u32 (n % 4294967296)) ∧ w' = w := by
  go_enter Tryd.func19, Tryd.ntmps19
  go_wp2
  go_ret
  exact ⟨rfl, rfl⟩
theorem int_every (a : Int) (w : World) : Calls Tryd.prog 10 #[.int .u32 a] w fun e w' => e = .returned (.int .i64 (wrap32 a)) ∧ w' = w := by
  have h := int_any a w
  have hb := wrap32_bd a
  rw [wrap64_small (wrap32 a) (by omega) (by omega)] at h
  exact h

theorem low8_bd (v : Int) : 0 ≤ low8 v ∧ low8 v < 4294967296 ∧ (low8 v < 128 ∨ 4294967168 ≤ low8 v) ∧ low8 v % 256 = v % 256 := by
  unfold low8
  by_cases h : v % 256 < 128
  · rw [if_pos h]; omega
  · rw [if_neg h]; omega
theorem low16_bd (v : Int) : 0 ≤ low16 v ∧ low16 v < 4294967296 ∧ (low16 v < 32768 ∨ 4294934528 ≤ low16 v) ∧ low16 v % 65536 = v % 65536 := by
  unfold low16
  by_cases h : v % 65536 < 32768
  · rw [if_pos h]; omega
  · rw [if_neg h]; omega
theorem low8_of (c d : Int) (h : c < 128 ∧ 0 ≤ c ∨ 4294967168 ≤ c ∧ c < 4294967296) (hd : d % 256 = c % 256) : low8 d = c := by
  unfold low8
  by_cases g : d % 256 < 128
  · rw [if_pos g]; omega
  · rw [if_neg g]; omega
theorem low16_of (c d : Int) (h : c < 32768 ∧ 0 ≤ c ∨ 4294934528 ≤ c ∧ c < 4294967296) (hd : d % 65536 = c % 65536) : low16 d = c := by
  unfold low16
  by_cases g : d % 65536 < 32768
  · rw [if_pos g]; omega
  · rw [if_neg g]; omega

/-- The bytes of a number, put together again. -/
def again (width c : Int) : Int := if width = 1 then c % 256 else if width = 2 then c % 256 + 256 * (c / 256 % 256) else c % 256 + 256 * (c / 256 % 256) + 65536 * (c / 65536 % 256) + 16777216 * (c / 16777216)

/-- The number that the law asks Fits about. -/
def whole (k c : Int) : Int := if signOf k then wrap32 c else c

/-- All that the law asks, in plain numbers. -/
theorem back_plain (k v : Int) (v0 : 0 ≤ v) (v1 : v < 4294967296) (hk : 2 ≤ k ∧ k ≤ 13) :
    conv k (conv k v) = conv k v ∧ (0 ≤ conv k v ∧ conv k v < 4294967296) ∧ fits k (whole k (conv k v)) = true ∧ ext (widthOf k) (signOf k) (again (widthOf k) (conv k v)) = conv k v := by
  have h8 := low8_bd v
  have h16 := low16_bd v
  have hk : k = 2 ∨ k = 3 ∨ k = 4 ∨ k = 5 ∨ k = 6 ∨ k = 7 ∨ k = 8 ∨ k = 9 ∨ k = 10 ∨ k = 11 ∨ k = 12 ∨ k = 13 := by omega
  rcases hk with rfl | rfl | rfl | rfl | rfl | rfl | rfl | rfl | rfl | rfl | rfl | rfl
  · have e : conv 2 v = if v = 0 then 0 else 1 := rfl
    rw [e]
    by_cases h : v = 0
    · rw [if_pos h]; decide +kernel
    · rw [if_neg h]; decide +kernel
  · have e : ∀ x, conv 3 x = low8 x := fun x => rfl
    rw [e, e]
    have e2 : low8 (low8 v) = low8 v := low8_of _ _ (by omega) rfl
    refine ⟨e2, by omega, ?_, ?_⟩
    · show decide (-128 ≤ wrap32 (low8 v) ∧ wrap32 (low8 v) ≤ 127) = true
      unfold wrap32; simp; omega
    · show low8 (low8 v % 256) = low8 v
      exact low8_of _ _ (by omega) (by omega)
  · have e : ∀ x, conv 4 x = low8 x := fun x => rfl
    rw [e, e]
    have e2 : low8 (low8 v) = low8 v := low8_of _ _ (by omega) rfl
    refine ⟨e2, by omega, ?_, ?_⟩
    · show decide (-128 ≤ wrap32 (low8 v) ∧ wrap32 (low8 v) ≤ 127) = true
      unfold wrap32; simp; omega
    · show low8 (low8 v % 256) = low8 v
      exact low8_of _ _ (by omega) (by omega)
  · have e : ∀ x, conv 5 x = x % 256 := fun x => rfl
    rw [e, e]
    refine ⟨by omega, by omega, ?_, ?_⟩
    · show decide (0 ≤ v % 256 ∧ v % 256 ≤ 255) = true
      simp; omega
    · show v % 256 % 256 % 256 = v % 256
      omega
  · have e : ∀ x, conv 6 x = low16 x := fun x => rfl
    rw [e, e]
    have e2 : low16 (low16 v) = low16 v := low16_of _ _ (by omega) rfl
    refine ⟨e2, by omega, ?_, ?_⟩
    · show decide (-32768 ≤ wrap32 (low16 v) ∧ wrap32 (low16 v) ≤ 32767) = true
      unfold wrap32; simp; omega
    · show low16 (low16 v % 256 + 256 * (low16 v / 256 % 256)) = low16 v
      exact low16_of _ _ (by omega) (by omega)
  · have e : ∀ x, conv 7 x = x % 65536 := fun x => rfl
    rw [e, e]
    refine ⟨by omega, by omega, ?_, ?_⟩
    · show decide (0 ≤ v % 65536 ∧ v % 65536 ≤ 65535) = true
      simp; omega
    · show (v % 65536 % 256 + 256 * (v % 65536 / 256 % 256)) % 65536 = v % 65536
      omega
  · have e : ∀ x, conv 8 x = x := fun x => rfl
    rw [e, e]
    refine ⟨rfl, by omega, ?_, ?_⟩
    · show decide (-2147483648 ≤ wrap32 v ∧ wrap32 v ≤ 2147483647) = true
      unfold wrap32; simp; omega
    · show v % 256 + 256 * (v / 256 % 256) + 65536 * (v / 65536 % 256) + 16777216 * (v / 16777216) = v
      omega
  · have e : ∀ x, conv 9 x = x := fun x => rfl
    rw [e, e]
    refine ⟨rfl, by omega, ?_, ?_⟩
    · show decide (0 ≤ v ∧ v ≤ 4294967295) = true
      simp; omega
    · show v % 256 + 256 * (v / 256 % 256) + 65536 * (v / 65536 % 256) + 16777216 * (v / 16777216) = v
      omega
  · have e : ∀ x, conv 10 x = x := fun x => rfl
    rw [e, e]
    refine ⟨rfl, by omega, ?_, ?_⟩
    · show decide (-2147483648 ≤ wrap32 v ∧ wrap32 v ≤ 2147483647) = true
      unfold wrap32; simp; omega
    · show v % 256 + 256 * (v / 256 % 256) + 65536 * (v / 65536 % 256) + 16777216 * (v / 16777216) = v
      omega
  · have e : ∀ x, conv 11 x = x := fun x => rfl
    rw [e, e]
    refine ⟨rfl, by omega, ?_, ?_⟩
    · show decide (0 ≤ v ∧ v ≤ 4294967295) = true
      simp; omega
    · show v % 256 + 256 * (v / 256 % 256) + 65536 * (v / 65536 % 256) + 16777216 * (v / 16777216) = v
      omega
  · have e : ∀ x, conv 12 x = x := fun x => rfl
    rw [e, e]
    refine ⟨rfl, by omega, ?_, ?_⟩
    · show decide (-2147483648 ≤ wrap32 v ∧ wrap32 v ≤ 2147483647) = true
      unfold wrap32; simp; omega
    · show v % 256 + 256 * (v / 256 % 256) + 65536 * (v / 65536 % 256) + 16777216 * (v / 16777216) = v
      omega
  · have e : ∀ x, conv 13 x = x := fun x => rfl
    rw [e, e]
    refine ⟨rfl, by omega, ?_, ?_⟩
    · show decide (0 ≤ v ∧ v ≤ 4294967295) = true
      simp; omega
    · show v % 256 + 256 * (v / 256 % 256) + 65536 * (v / 65536 % 256) + 16777216 * (v / 16777216) = v
      omega
theorem conv_no (k v : Int) (h : k < 2 ∨ 13 < k) : conv k v = v := by
  unfold conv
  rw [if_neg (by omega), if_neg (by omega), if_neg (by omega), if_neg (by omega), if_neg (by omega)]

/-- The bytes of a number are written into new memory, and read there again. -/
def Trip (width c : Int) (s : Bool) : Prop := ∀ w, Calls Tryd.prog 29 #[.int .u32 c, .int .i64 width] w fun e w' => ∃ v, e = .returned v ∧ Below w.heap.size w w' ∧
  Calls Tryd.prog 26 #[v, .bool s] w' fun e2 w2 => e2 = .returned (.tuple #[.int .u32 (ext width s (again width c)), .int .i64 0]) ∧ w2 = w'
theorem trip_any (width c : Int) (s : Bool) (c0 : 0 ≤ c) (c1 : c < 4294967296) (h : width = 1 ∨ width = 2 ∨ width = 4) : Trip width c s := by
  intro w
  rcases h with rfl | rfl | rfl
  · refine (bytes_1 c w c0 c1).mono ?_
    rintro e w' ⟨rfl, rfl⟩
    exact ⟨_, rfl, (Below.refl _ _).alloc (Nat.le_refl _) _, value_1 _ 0 1 s (c % 256) _ (by simp [go_sem]) (by omega)⟩
  · refine (bytes_2 c w c0 c1).mono ?_
    rintro e w' ⟨rfl, rfl⟩
    exact ⟨_, rfl, (Below.refl _ _).alloc (Nat.le_refl _) _, value_2 _ 0 2 s _ _ _ (by simp [go_sem]) (by simp [go_sem]) (by omega) (by omega)⟩
  · refine (bytes_4 c w c0 c1).mono ?_
    rintro e w' ⟨rfl, rfl⟩
    exact ⟨_, rfl, (Below.refl _ _).alloc (Nat.le_refl _) _, value_4 _ 0 4 s _ _ _ _ _ (by simp [go_sem]) (by simp [go_sem]) (by simp [go_sem]) (by simp [go_sem]) (by omega) (by omega) (by omega) (by omega)⟩

set_option maxRecDepth 100000 in
set_option maxHeartbeats 1000000 in
theorem back_none (k v : Int) (w : World) (h : k < 2 ∨ 13 < k) (v0 : 0 ≤ v) (v1 : v < 4294967296) (hn : w.cell? ⟨0, 18, none⟩ = some (.string ⟨#[108, 101, 117]⟩)) (hz : 0 < w.heap.size) :
    Calls Tryd.prog 8 #[.int .i64 k, .int .u32 v] w fun e w' => e = .returned (.bool true) ∧ Below w.heap.size w w' := by
  obtain ⟨e0, f0⟩ := convert_any k v v0 v1
  rw [conv_no k v h] at e0
  obtain ⟨a0, b0, c0, d0⟩ := wide_any k
  have e1 : widthOf k = 0 := by unfold widthOf; rw [if_neg (by omega), if_neg (by omega), if_neg (by omega)]
  rw [e1] at a0
  have A : Hid _ := a0; have E : Hid _ := e0
  clear a0 b0 c0 d0 e0 f0 e1 h
  go_enter Tryd.func8, Tryd.ntmps8
  go_wp2_with fail
  refine (E.out _).mono ?_; rintro e w' ⟨rfl, rfl⟩
  go_wp2_with fail
  refine (E.out _).mono ?_; rintro e w' ⟨rfl, rfl⟩
  go_wp2_with fail
  refine (A.out _).mono ?_; rintro e w' ⟨rfl, rfl⟩
  go_wp2_with fail
  refine (heads_any _ hn hz).mono ?_; rintro e w1 ⟨rfl, hb⟩
  go_wp2_with fail
  go_ret
  exact ⟨rfl, hb⟩

set_option maxRecDepth 100000 in
set_option maxHeartbeats 1000000 in
theorem back_some (k v : Int) (w : World) (h : 2 ≤ k ∧ k ≤ 13) (v0 : 0 ≤ v) (v1 : v < 4294967296) (hn : w.cell? ⟨0, 18, none⟩ = some (.string ⟨#[108, 101, 117]⟩)) (hz : 0 < w.heap.size) :
    Calls Tryd.prog 8 #[.int .i64 k, .int .u32 v] w fun e w' => e = .returned (.bool true) ∧ Below w.heap.size w w' := by
  obtain ⟨p1, ⟨p2, p3⟩, p4, p5⟩ := back_plain k v v0 v1 h
  obtain ⟨e0, _⟩ := convert_any k v v0 v1
  obtain ⟨a0, _, s0, _⟩ := wide_any k
  have hw : widthOf k = 1 ∨ widthOf k = 2 ∨ widthOf k = 4 := by
    unfold widthOf
    by_cases h1 : 2 ≤ k ∧ k ≤ 5
    · rw [if_pos h1]; decide
    · rw [if_neg h1]
      by_cases h2 : 6 ≤ k ∧ k ≤ 7
      · rw [if_pos h2]; decide
      · rw [if_neg h2, if_pos (by omega)]; decide
  have t0 := trip_any (widthOf k) (conv k v) (signOf k) p2 p3 hw
  unfold Trip at t0
  rw [p5] at t0
  have hw0 : (widthOf k == 0) = false := by rcases hw with h | h | h <;> rw [h] <;> rfl
  generalize conv k v = c at *
  have q0 := (convert_any k c p2 p3).1
  rw [p1] at q0
  have hwb := wrap32_bd c
  have hwm : wrap32 c % 4294967296 = c := by unfold wrap32; omega
  have f0 := (fits_any k (whole k c) (by unfold whole; split <;> omega) (by unfold whole; split <;> omega)).1
  rw [p4] at f0
  have hs : whole k c = if signOf k then wrap32 c else c := rfl
  rw [hs] at f0
  clear hs p1 p4 p5 hw
  generalize widthOf k = W at *
  generalize signOf k = S at *
  have A : Hid _ := a0; have E : Hid _ := e0; have G : Hid _ := q0; have S0 : Hid _ := s0; have T : Hid _ := t0; have F : Hid _ := f0; have M : Hid _ := hwm
  clear a0 e0 q0 s0 t0 f0 hwm
  cases S
  · go_enter Tryd.func8, Tryd.ntmps8
    go_wp2_with fail
    refine (E.out _).mono ?_; rintro e w' ⟨rfl, rfl⟩
    go_wp2_with fail
    refine (G.out _).mono ?_; rintro e w' ⟨rfl, rfl⟩
    go_wp2_with fail
    refine (A.out _).mono ?_; rintro e w' ⟨rfl, rfl⟩
    go_wp2_with fail
    refine (int_every c _).mono ?_; rintro e w' ⟨rfl, rfl⟩
    go_wp2_with fail
    refine (S0.out _).mono ?_; rintro e w' ⟨rfl, rfl⟩
    go_wp2_with fail
    refine (T.out _).mono ?_; rintro e w1 ⟨b, rfl, hb, V0⟩
    have V : Hid _ := V0
    have hn1 : w1.cell? ⟨0, 18, none⟩ = some (.string ⟨#[108, 101, 117]⟩) := (hb.cell (p := ⟨0, 18, none⟩) hz).trans hn
    have hz1 : 0 < w1.heap.size := Nat.lt_of_lt_of_le hz hb.size
    have HB : Hid _ := hb
    clear V0 hb hn hz
    go_wp2_with fail
    refine (S0.out _).mono ?_; rintro e w' ⟨rfl, rfl⟩
    go_wp2_with fail
    refine Calls.mono V.out ?_; rintro e w' ⟨rfl, rfl⟩
    go_wp2_with fail
    refine (F.out _).mono ?_; rintro e w' ⟨rfl, rfl⟩
    go_wp2_with fail
    refine (of_every _ _).mono ?_; rintro e w' ⟨rfl, rfl⟩
    have hc : (c % 4294967296 == c) = true := by simp; omega
    go_wp2_with fail
    refine (heads_any _ hn1 hz1).mono ?_; rintro e w2 ⟨rfl, hb2⟩
    go_wp2_with fail
    go_ret
    exact ⟨rfl, HB.out.trans (hb2.mono HB.out.size)⟩
  · go_enter Tryd.func8, Tryd.ntmps8
    go_wp2_with fail
    refine (E.out _).mono ?_; rintro e w' ⟨rfl, rfl⟩
    go_wp2_with fail
    refine (G.out _).mono ?_; rintro e w' ⟨rfl, rfl⟩
    go_wp2_with fail
    refine (A.out _).mono ?_; rintro e w' ⟨rfl, rfl⟩
    go_wp2_with fail
    refine (int_every c _).mono ?_; rintro e w' ⟨rfl, rfl⟩
    go_wp2_with fail
    refine (S0.out _).mono ?_; rintro e w' ⟨rfl, rfl⟩
    go_wp2_with fail
    refine (T.out _).mono ?_; rintro e w1 ⟨b, rfl, hb, V0⟩
    have V : Hid _ := V0
    have hn1 : w1.cell? ⟨0, 18, none⟩ = some (.string ⟨#[108, 101, 117]⟩) := (hb.cell (p := ⟨0, 18, none⟩) hz).trans hn
    have hz1 : 0 < w1.heap.size := Nat.lt_of_lt_of_le hz hb.size
    have HB : Hid _ := hb
    clear V0 hb hn hz
    go_wp2_with fail
    refine (S0.out _).mono ?_; rintro e w' ⟨rfl, rfl⟩
    go_wp2_with fail
    refine Calls.mono V.out ?_; rintro e w' ⟨rfl, rfl⟩
    go_wp2_with fail
    refine (F.out _).mono ?_; rintro e w' ⟨rfl, rfl⟩
    go_wp2_with fail
    refine (of_every _ _).mono ?_; rintro e w' ⟨rfl, rfl⟩
    have hc : (wrap32 c % 4294967296 == c) = true := by rw [M.out]; simp
    go_wp2_with fail
    refine (heads_any _ hn1 hz1).mono ?_; rintro e w2 ⟨rfl, hb2⟩
    go_wp2_with fail
    go_ret
    exact ⟨rfl, HB.out.trans (hb2.mono HB.out.size)⟩
theorem back_walk (k v : Int) (w : World) (k0 : -9223372036854775808 ≤ k) (k1 : k < 9223372036854775808) (v0 : 0 ≤ v) (v1 : v < 4294967296) (hN : NamesIn w) (hz : 0 < w.heap.size) :
    Calls Tryd.prog 8 #[.int .i64 k, .int .u32 v] w fun e w' => e = .returned (.bool true) ∧ Below w.heap.size w w' := by
  by_cases h : k < 2 ∨ 13 < k
  · exact back_none k v w h v0 v1 (hN 18 (by decide)) hz
  · exact back_some k v w (by omega) v0 v1 (hN 18 (by decide)) hz

set_option maxRecDepth 100000 in
theorem back_lifted (os : Os) (started : os.Started) (H : Type) (enc : TypeId × Value → H) :
    ReturnsInHanded {} Tryd.checked os 8 .any (fun w args => (Rows.wordBackSpec.pre enc Tryd.prog Tryd.f8 [] false w args ∧ laidMetH Tryd.prog Rows.wordBackRow.laid w) ∧ sizedMet enc Tryd.prog Tryd.f8 (OpenSpec.ofChange Rows.wordBackSpec) false w args)
      (Rows.wordBackSpec.post enc Tryd.prog Tryd.f8 false true false false) := by
  refine returnsInHanded_of_change_and (C := Tryd.checked) (X := fun w _ => laidMetH Tryd.prog Rows.wordBackRow.laid w) (fun _ _ _ hh h => h.of_heap hh) own started (by kernel_rfl) Tryd.func8
    (ChangeSpec.witness_shaped (enc := enc) (C := Tryd.checked) (os := os) (X := fun w _ => laidMetH Tryd.prog Rows.wordBackRow.laid w) false (World.doorLaid Tryd.prog 400 os) #[.int .i64 0, .int .u32 0] 8 rfl (World.shaped_of_RefB (by kernel_rfl) (by kernel_rfl)) (by kernel_rfl) (by kernel_rfl) (by kernel_rfl) (door_met os _)) ?_
  intro W base args ds gs before hval0 hW _ _ hL _
  have hval : ∀ (j : Nat) t v, Tryd.f8.params[j]? = some t → args[j]? = some v → Value.okWide Tryd.prog W .any base t v := hval0
  have hW' := hW
  obtain ⟨p, q, hA0, hV, rfl, hfz, hnd⟩ := hW
  have hA : DataW.TrodAll enc Tryd.prog W 0 (fun _ => true) true Tryd.f8.params.toList args.toList ds p := hA0
  rw [Tryd.params8] at hA hval
  obtain ⟨v0, vs0, d0, ds0, p0, q0, hargs, rfl, rfl, h0, r0⟩ := trodAll_cons hA
  obtain ⟨v1, vs1, d1, ds1, p1, q1, rfl, rfl, rfl, h1, r1⟩ := trodAll_cons r0
  obtain ⟨rfl, rfl, rfl⟩ := trodAll_nil r1
  obtain rfl : args = #[v0, v1] := by cases args; simp_all
  obtain ⟨rfl, rfl⟩ := trodVars_none hV
  obtain ⟨a0, rfl, rfl, rfl, w0⟩ := open_int Tryd.underlying3 (hval 0 3 v0 rfl rfl) h0
  obtain ⟨a1, rfl, rfl, rfl, w1⟩ := open_int Tryd.underlying22 (hval 1 22 v1 rfl rfl) h1
  clear hA0 hval0
  obtain ⟨hn, hz⟩ := of_laid hL
  refine (back_walk a0 a1 W (i64_bounds w0).1 (i64_bounds w0).2 (u32_bounds w1).1 (u32_bounds w1).2 hn hz).mono fun e W' ⟨he, bel⟩ => ?_
  subst he
  exact ⟨_, rfl, _, _, _, [], _, [], hW', trodAll_mk1 (shut_bool Tryd.underlying4 _), (trodAll_cons_mk (shut_int Tryd.underlying3 w0) (trodAll_cons_mk (shut_int Tryd.underlying22 w1) trodAll_mk0)), rfl, bel.frame _, fun h => by cases h⟩

theorem back_row : Rows.WordBackSaid :=
  OpenClaim.holds_of_wide 8 Tryd.f8 rfl rfl rfl rfl rfl rfl rfl ⟨rfl, rfl, rfl, rfl, rfl⟩ rfl rfl rfl rfl rfl (by kernel_rfl) Tryd.func8 (by kernel_rfl)
    (of_decide_eq_true (by kernel_rfl)) (by unfold Func.isWrapper; first | (rw [if_pos (by decide +kernel)]; kernel_rfl) | (rw [if_neg (by decide +kernel)]; exact ⟨rfl, rfl⟩))
    (fun os started H enc _ => back_lifted os started H enc)

theorem back_holds : Rows.WordBackCardSaid :=
  Claim7.holds_tied_plain_at .later [] [.data] true Rows.wordBackCard.stood.harness false
    back_row (fun _ h => by cases h) (by kernel_rfl) (fun _ h => by cases h) wordBack_row_tie rfl ⟨rfl, rfl⟩ (by kernel_rfl) rfl
    (fun f fn hf hfn => by
      obtain rfl : f = 8 := Option.some.inj ((show Tryd.prog.funcNamed Rows.wordBackRow.func = some 8 by kernel_rfl).symm.trans hf) |>.symm
      obtain rfl : fn = Tryd.f8 := (Option.some.inj (Tryd.func8.symm.trans hfn)).symm
      exact ⟨by kernel_rfl, fun j t ht => by
        rw [Tryd.params8] at ht
        have hm : t ∈ [3, 22] := by simpa using Array.mem_of_getElem? ht
        have hall : ([3, 22].all fun u => !Tryd.prog.wantsStandIn u) = true := by kernel_rfl
        exact (show Tryd.prog.wantsStandIn t = false by simpa using List.all_eq_true.1 hall t hm)⟩)
    (by kernel_rfl)
#print axioms back_holds
end Go.Proofs.YtkejmenidciigaaDoor
