/-
  The law WordDivides returns true at every three numbers of 32 bits, and each argument reads afterwards as before. No condition beyond the given statement's own (the table of names holds what the program's text lays into it).
-/
import Derived.Test.YtkejmenidciigabDoorFrame
import Derived.Test.YtkejmenidciigabDoorTie
import Derived.Test.YtkejmenidciigabDoorCards
import Derived.Laws.BitsAllLaws
import Derived.Below
import Derived.SevenTiedAt
namespace Go.Proofs.YtkejmenidciigabDoor
open Go.ChangeShapes Go.WideShapes Go.ChangeAt Go.RowKit

theorem wrap64_small (s : Int) (h1 : -2147483648 ≤ s) (h2 : s ≤ 2147483648) : wrap64 s = s := by unfold wrap64; omega
theorem wrap32_bd (a : Int) : -2147483648 ≤ wrap32 a ∧ wrap32 a < 2147483648 := by unfold wrap32; omega
theorem wrap32_mod (a : Int) : wrap32 a % 4294967296 = a % 4294967296 := by unfold wrap32; omega

/-- Division towards 0, taken in 32 bits: quotient times b and the remainder are a. -/
theorem divs_ex (a b : Int) (a0 : 0 ≤ a) (a1 : a < 4294967296) (b0 : 0 < b) (b1 : b < 4294967296) :
    ∃ q r : Int, (0 ≤ q ∧ q < 4294967296 ∧ 0 ≤ r ∧ r < 4294967296) ∧ (q * b + r) % 4294967296 = a ∧
      (∀ w, Calls Tryd.prog 4 #[.int .i64 4, .int .u32 a, .int .u32 b] w fun e w' => e = .returned (.tuple #[.int .u32 q, .bool true]) ∧ w' = w) ∧
      (∀ w, Calls Tryd.prog 4 #[.int .i64 6, .int .u32 a, .int .u32 b] w fun e w' => e = .returned (.tuple #[.int .u32 r, .bool true]) ∧ w' = w) := by
  refine ⟨_, _, ?_, ?_, fun w => bin_divs a b w a0 a1 b0 b1, fun w => bin_rems a b w a0 a1 b0 b1⟩
  · omega
  · have ha := wrap32_bd a
    have hb := wrap32_bd b
    have ma := wrap32_mod a
    have mb := wrap32_mod b
    rw [wrap64_small (wrap32 a) (by omega) (by omega), wrap64_small (wrap32 b) (by omega) (by omega)]
    generalize wrap32 a = x at *
    generalize wrap32 b = y at *
    have hy : y ≠ 0 := by omega
    have hq : -2147483648 ≤ x.tdiv y ∧ x.tdiv y ≤ 2147483648 := by
      have h1 : (x.tdiv y).natAbs ≤ x.natAbs := by rw [Int.natAbs_tdiv]; exact Nat.div_le_self _ _
      omega
    rw [wrap64_small _ hq.1 hq.2]
    have he := Int.mul_tdiv_add_tmod x y
    generalize x.tdiv y = q at *
    generalize x.tmod y = r at *
    rw [Int.add_emod, Int.emod_emod_of_dvd _ (Int.dvd_refl _), Int.mul_emod, Int.emod_emod_of_dvd _ (Int.dvd_refl _), ← mb, ← Int.mul_emod, ← Int.add_emod, Int.mul_comm q y, he, ma]
    omega
theorem divu_ex (a b : Int) (a0 : 0 ≤ a) (a1 : a < 4294967296) (b0 : 0 < b) (b1 : b < 4294967296) :
    ∃ q r : Int, (0 ≤ q ∧ q < 4294967296 ∧ 0 ≤ r ∧ r < b) ∧ (q * b + r) % 4294967296 = a ∧
      (∀ w, Calls Tryd.prog 4 #[.int .i64 5, .int .u32 a, .int .u32 b] w fun e w' => e = .returned (.tuple #[.int .u32 q, .bool true]) ∧ w' = w) ∧
      (∀ w, Calls Tryd.prog 4 #[.int .i64 7, .int .u32 a, .int .u32 b] w fun e w' => e = .returned (.tuple #[.int .u32 r, .bool true]) ∧ w' = w) := by
  refine ⟨_, _, ?_, ?_, fun w => bin_divu a b w a0 a1 b0 b1, fun w => bin_remu a b w a0 a1 b0 b1⟩
  · have h1 := Int.ediv_nonneg a0 (Int.le_of_lt b0)
    have h2 := Int.ediv_le_self b a0
    have h3 := Int.emod_nonneg a (Int.ne_of_gt b0)
    have h4 := Int.emod_lt_of_pos a b0
    omega
  · have := Int.mul_ediv_add_emod a b
    rw [Int.mul_comm, this]
    omega
theorem order_ex (a b : Int) (a0 : 0 ≤ a) (a1 : a < 4294967296) (b0 : 0 ≤ b) (b1 : b < 4294967296) :
    ∃ l m : Int, (0 ≤ l ∧ l ≤ 1 ∧ 0 ≤ m ∧ m ≤ 1) ∧ l + m = 1 ∧
      (∀ w, Calls Tryd.prog 4 #[.int .i64 16, .int .u32 a, .int .u32 b] w fun e w' => e = .returned (.tuple #[.int .u32 l, .bool true]) ∧ w' = w) ∧
      (∀ w, Calls Tryd.prog 4 #[.int .i64 18, .int .u32 b, .int .u32 a] w fun e w' => e = .returned (.tuple #[.int .u32 m, .bool true]) ∧ w' = w) := by
  refine ⟨_, _, ?_, ?_, fun w => bin_lts a b w a0 a1 b0 b1, fun w => bin_les b a w b0 b1 a0 a1⟩
  · generalize bits .xor .u32 a 2147483648 = x
    generalize bits .xor .u32 b 2147483648 = y
    by_cases h : x < y
    · rw [if_pos h, if_neg (by omega)]; omega
    · rw [if_neg h, if_pos (by omega)]; omega
  · generalize bits .xor .u32 a 2147483648 = x
    generalize bits .xor .u32 b 2147483648 = y
    by_cases h : x < y
    · rw [if_pos h, if_neg (by omega)]; rfl
    · rw [if_neg h, if_pos (by omega)]; rfl
theorem equal_ex (a b : Int) (a0 : 0 ≤ a) (a1 : a < 4294967296) (b0 : 0 ≤ b) (b1 : b < 4294967296) :
    ∃ l m : Int, (0 ≤ l ∧ l ≤ 1 ∧ 0 ≤ m ∧ m ≤ 1) ∧ l + m = 1 ∧
      (∀ w, Calls Tryd.prog 4 #[.int .i64 14, .int .u32 a, .int .u32 b] w fun e w' => e = .returned (.tuple #[.int .u32 l, .bool true]) ∧ w' = w) ∧
      (∀ w, Calls Tryd.prog 4 #[.int .i64 15, .int .u32 a, .int .u32 b] w fun e w' => e = .returned (.tuple #[.int .u32 m, .bool true]) ∧ w' = w) := by
  refine ⟨_, _, ?_, ?_, fun w => bin_eq a b w a0 a1 b0 b1, fun w => bin_ne a b w a0 a1 b0 b1⟩
  · by_cases h : a = b
    · rw [if_pos h, if_pos h]; omega
    · rw [if_neg h, if_neg h]; omega
  · by_cases h : a = b
    · rw [if_pos h, if_pos h]; rfl
    · rw [if_neg h, if_neg h]; rfl

theorem sum_ex (a b : Int) (a0 : 0 ≤ a) (a1 : a < 4294967296) (b0 : 0 ≤ b) (b1 : b < 4294967296) :
    ∃ x : Int, (0 ≤ x ∧ x < 4294967296) ∧
      (∀ w, Calls Tryd.prog 4 #[.int .i64 1, .int .u32 a, .int .u32 b] w fun e w' => e = .returned (.tuple #[.int .u32 x, .bool true]) ∧ w' = w) ∧
      (∀ w, Calls Tryd.prog 4 #[.int .i64 1, .int .u32 b, .int .u32 a] w fun e w' => e = .returned (.tuple #[.int .u32 x, .bool true]) ∧ w' = w) ∧
      (∀ w, Calls Tryd.prog 4 #[.int .i64 2, .int .u32 x, .int .u32 b] w fun e w' => e = .returned (.tuple #[.int .u32 a, .bool true]) ∧ w' = w) := by
  refine ⟨(a + b) % 4294967296, by omega, fun w => bin_add a b w a0 a1 b0 b1, fun w => ?_, fun w => ?_⟩
  · have h := bin_add b a w b0 b1 a0 a1
    rw [Int.add_comm b a] at h
    exact h
  · have h := bin_sub ((a + b) % 4294967296) b w (by omega) (by omega) b0 b1
    rw [show ((a + b) % 4294967296 + -b) % 4294967296 = a by omega] at h
    exact h
theorem product_ex (a c : Int) (a0 : 0 ≤ a) (a1 : a < 4294967296) (c0 : 0 ≤ c) (c1 : c < 4294967296) :
    ∃ p : Int,
      (∀ w, Calls Tryd.prog 4 #[.int .i64 3, .int .u32 a, .int .u32 c] w fun e w' => e = .returned (.tuple #[.int .u32 p, .bool true]) ∧ w' = w) ∧
      (∀ w, Calls Tryd.prog 4 #[.int .i64 3, .int .u32 c, .int .u32 a] w fun e w' => e = .returned (.tuple #[.int .u32 p, .bool true]) ∧ w' = w) := by
  refine ⟨a * c % 4294967296, fun w => bin_mul a c w a0 a1 c0 c1, fun w => ?_⟩
  have h := bin_mul c a w c0 c1 a0 a1
  rw [Int.mul_comm c a] at h
  exact h

set_option maxRecDepth 100000 in
set_option maxHeartbeats 2000000 in
theorem divides_zero (a c : Int) (w : World) (a0 : 0 ≤ a) (a1 : a < 4294967296) (c0 : 0 ≤ c) (c1 : c < 4294967296)
    (hn : w.cell? ⟨0, 18, none⟩ = some (.string ⟨#[108, 101, 117]⟩)) (hz : 0 < w.heap.size) :
    Calls Tryd.prog 3 #[.int .u32 a, .int .u32 0, .int .u32 c] w fun e w' => e = .returned (.bool true) ∧ Below w.heap.size w w' := by
  obtain ⟨l, m, hlm, slm, L0, M0⟩ := order_ex a 0 a0 a1 (by decide) (by decide)
  obtain ⟨p, q, hpq, spq, P0, Q0⟩ := equal_ex a 0 a0 a1 (by decide) (by decide)
  obtain ⟨x, hx, X0, Y0, Z0⟩ := sum_ex a 0 a0 a1 (by decide) (by decide)
  obtain ⟨t, T0, U0⟩ := product_ex a c a0 a1 c0 c1
  have L : Hid _ := L0; have M : Hid _ := M0; have P : Hid _ := P0; have Q : Hid _ := Q0; clear L0 M0 P0 Q0
  have X : Hid _ := X0; have Y : Hid _ := Y0; have Z : Hid _ := Z0; have T : Hid _ := T0; have U : Hid _ := U0; clear X0 Y0 Z0 T0 U0
  have t1 : (l + m == 1) = true := by rw [slm]; rfl
  have t2 : (p + q == 1) = true := by rw [spq]; rfl
  clear slm spq
  go_enter Tryd.func3, Tryd.ntmps3
  go_wp2_with fail
  refine (bin_divs_zero a _).mono ?_; rintro e w' ⟨rfl, rfl⟩
  go_wp2_with fail
  refine (bin_rems_zero a _).mono ?_; rintro e w' ⟨rfl, rfl⟩
  go_wp2_with fail
  refine (bin_divu_zero a _).mono ?_; rintro e w' ⟨rfl, rfl⟩
  go_wp2_with fail
  refine (bin_remu_zero a _).mono ?_; rintro e w' ⟨rfl, rfl⟩
  go_wp2_with fail
  refine (X.out _).mono ?_; rintro e w' ⟨rfl, rfl⟩
  go_wp2_with fail
  refine (Y.out _).mono ?_; rintro e w' ⟨rfl, rfl⟩
  go_wp2_with fail
  refine (Z.out _).mono ?_; rintro e w' ⟨rfl, rfl⟩
  go_wp2_with fail
  refine (T.out _).mono ?_; rintro e w' ⟨rfl, rfl⟩
  go_wp2_with fail
  refine (U.out _).mono ?_; rintro e w' ⟨rfl, rfl⟩
  go_wp2_with fail
  refine (L.out _).mono ?_; rintro e w' ⟨rfl, rfl⟩
  go_wp2_with fail
  refine (M.out _).mono ?_; rintro e w' ⟨rfl, rfl⟩
  go_wp2_with fail
  refine (P.out _).mono ?_; rintro e w' ⟨rfl, rfl⟩
  go_wp2_with fail
  refine (Q.out _).mono ?_; rintro e w' ⟨rfl, rfl⟩
  go_wp2_with fail
  refine (heads_any _ hn hz).mono ?_; rintro e w1 ⟨rfl, hb⟩
  go_wp2_with fail
  go_ret
  exact ⟨rfl, hb⟩

set_option maxRecDepth 100000 in
set_option maxHeartbeats 2000000 in
theorem divides_some (a b c : Int) (w : World) (a0 : 0 ≤ a) (a1 : a < 4294967296) (b0 : 0 < b) (b1 : b < 4294967296) (c0 : 0 ≤ c) (c1 : c < 4294967296)
    (hn : w.cell? ⟨0, 18, none⟩ = some (.string ⟨#[108, 101, 117]⟩)) (hz : 0 < w.heap.size) :
    Calls Tryd.prog 3 #[.int .u32 a, .int .u32 b, .int .u32 c] w fun e w' => e = .returned (.bool true) ∧ Below w.heap.size w w' := by
  obtain ⟨q, r, hqr, sqr, D0, R0⟩ := divs_ex a b a0 a1 b0 b1
  obtain ⟨u, v, huv, suv, E0, V0⟩ := divu_ex a b a0 a1 b0 b1
  obtain ⟨l, m, hlm, slm, L0, M0⟩ := order_ex a b a0 a1 (Int.le_of_lt b0) b1
  obtain ⟨p, n, hpq, spq, P0, Q0⟩ := equal_ex a b a0 a1 (Int.le_of_lt b0) b1
  obtain ⟨x, hx, X0, Y0, Z0⟩ := sum_ex a b a0 a1 (Int.le_of_lt b0) b1
  obtain ⟨t, T0, U0⟩ := product_ex a c a0 a1 c0 c1
  have L : Hid _ := L0; have M : Hid _ := M0; have P : Hid _ := P0; have Q : Hid _ := Q0; clear L0 M0 P0 Q0
  have X : Hid _ := X0; have Y : Hid _ := Y0; have Z : Hid _ := Z0; have T : Hid _ := T0; have U : Hid _ := U0; clear X0 Y0 Z0 T0 U0
  have D : Hid _ := D0; have R : Hid _ := R0; have E : Hid _ := E0; have V : Hid _ := V0; clear D0 R0 E0 V0
  have t1 : (l + m == 1) = true := by rw [slm]; rfl
  have t2 : (p + n == 1) = true := by rw [spq]; rfl
  have t3 : ((q * b + r) % 4294967296 != a) = false := by rw [sqr]; simp
  have t4 : ((u * b + v) % 4294967296 != a) = false := by rw [suv]; simp
  have t5 : (b != 0) = true := by simp; omega
  have t6 : ¬ b ≤ v := by omega
  clear slm spq sqr suv
  go_enter Tryd.func3, Tryd.ntmps3
  go_wp2_with fail
  refine (D.out _).mono ?_; rintro e w' ⟨rfl, rfl⟩
  go_wp2_with fail
  refine (R.out _).mono ?_; rintro e w' ⟨rfl, rfl⟩
  go_wp2_with fail
  refine (E.out _).mono ?_; rintro e w' ⟨rfl, rfl⟩
  go_wp2_with fail
  refine (V.out _).mono ?_; rintro e w' ⟨rfl, rfl⟩
  go_wp2_with fail
  refine (X.out _).mono ?_; rintro e w' ⟨rfl, rfl⟩
  go_wp2_with fail
  refine (Y.out _).mono ?_; rintro e w' ⟨rfl, rfl⟩
  go_wp2_with fail
  refine (Z.out _).mono ?_; rintro e w' ⟨rfl, rfl⟩
  go_wp2_with fail
  refine (T.out _).mono ?_; rintro e w' ⟨rfl, rfl⟩
  go_wp2_with fail
  refine (U.out _).mono ?_; rintro e w' ⟨rfl, rfl⟩
  go_wp2_with fail
  refine (L.out _).mono ?_; rintro e w' ⟨rfl, rfl⟩
  go_wp2_with fail
  refine (M.out _).mono ?_; rintro e w' ⟨rfl, rfl⟩
  go_wp2_with fail
  refine (P.out _).mono ?_; rintro e w' ⟨rfl, rfl⟩
  go_wp2_with fail
  refine (Q.out _).mono ?_; rintro e w' ⟨rfl, rfl⟩
  go_wp2_with fail
  refine (heads_any _ hn hz).mono ?_; rintro e w1 ⟨rfl, hb⟩
  go_wp2_with fail
  go_ret
  exact ⟨rfl, hb⟩

theorem divides_walk (a b c : Int) (w : World) (a0 : 0 ≤ a) (a1 : a < 4294967296) (b0 : 0 ≤ b) (b1 : b < 4294967296) (c0 : 0 ≤ c) (c1 : c < 4294967296) (hN : NamesIn w) (hz : 0 < w.heap.size) :
    Calls Tryd.prog 3 #[.int .u32 a, .int .u32 b, .int .u32 c] w fun e w' => e = .returned (.bool true) ∧ Below w.heap.size w w' := by
  by_cases h : b = 0
  · subst h
    exact divides_zero a c w a0 a1 c0 c1 (hN 18 (by decide)) hz
  · exact divides_some a b c w a0 a1 (by omega) b1 c0 c1 (hN 18 (by decide)) hz

set_option maxRecDepth 100000 in
theorem divides_lifted (os : Os) (started : os.Started) (H : Type) (enc : TypeId × Value → H) :
    ReturnsInHanded {} Tryd.checked os 3 .any (fun w args => (Rows.wordDividesSpec.pre enc Tryd.prog Tryd.f3 [] false w args ∧ laidMetH Tryd.prog Rows.wordDividesRow.laid w) ∧ sizedMet enc Tryd.prog Tryd.f3 (OpenSpec.ofChange Rows.wordDividesSpec) false w args)
      (Rows.wordDividesSpec.post enc Tryd.prog Tryd.f3 false true false false) := by
  refine returnsInHanded_of_change_and (C := Tryd.checked) (X := fun w _ => laidMetH Tryd.prog Rows.wordDividesRow.laid w) (fun _ _ _ hh h => h.of_heap hh) own started (by kernel_rfl) Tryd.func3
    (ChangeSpec.witness_shaped (enc := enc) (C := Tryd.checked) (os := os) (X := fun w _ => laidMetH Tryd.prog Rows.wordDividesRow.laid w) false (World.doorLaid Tryd.prog 400 os) #[.int .u32 0, .int .u32 0, .int .u32 0] 8 rfl (World.shaped_of_RefB (by kernel_rfl) (by kernel_rfl)) (by kernel_rfl) (by kernel_rfl) (by kernel_rfl) (door_met os _)) ?_
  intro W base args ds gs before hval0 hW _ _ hL _
  have hval : ∀ (j : Nat) t v, Tryd.f3.params[j]? = some t → args[j]? = some v → Value.okWide Tryd.prog W .any base t v := hval0
  have hW' := hW
  obtain ⟨p, q, hA0, hV, rfl, hfz, hnd⟩ := hW
  have hA : DataW.TrodAll enc Tryd.prog W 0 (fun _ => true) true Tryd.f3.params.toList args.toList ds p := hA0
  rw [Tryd.params3] at hA hval
  obtain ⟨v0, vs0, d0, ds0, p0, q0, hargs, rfl, rfl, h0, r0⟩ := trodAll_cons hA
  obtain ⟨v1, vs1, d1, ds1, p1, q1, rfl, rfl, rfl, h1, r1⟩ := trodAll_cons r0
  obtain ⟨v2, vs2, d2, ds2, p2, q2, rfl, rfl, rfl, h2, r2⟩ := trodAll_cons r1
  obtain ⟨rfl, rfl, rfl⟩ := trodAll_nil r2
  obtain rfl : args = #[v0, v1, v2] := by cases args; simp_all
  obtain ⟨rfl, rfl⟩ := trodVars_none hV
  obtain ⟨a0, rfl, rfl, rfl, w0⟩ := open_int Tryd.underlying22 (hval 0 22 v0 rfl rfl) h0
  obtain ⟨a1, rfl, rfl, rfl, w1⟩ := open_int Tryd.underlying22 (hval 1 22 v1 rfl rfl) h1
  obtain ⟨a2, rfl, rfl, rfl, w2⟩ := open_int Tryd.underlying22 (hval 2 22 v2 rfl rfl) h2
  clear hA0 hval0
  obtain ⟨hn, hz⟩ := of_laid hL
  refine (divides_walk a0 a1 a2 W (u32_bounds w0).1 (u32_bounds w0).2 (u32_bounds w1).1 (u32_bounds w1).2 (u32_bounds w2).1 (u32_bounds w2).2 hn hz).mono fun e W' ⟨he, bel⟩ => ?_
  subst he
  exact ⟨_, rfl, _, _, _, [], _, [], hW', trodAll_mk1 (shut_bool Tryd.underlying4 _), (trodAll_cons_mk (shut_int Tryd.underlying22 w0) (trodAll_cons_mk (shut_int Tryd.underlying22 w1) (trodAll_cons_mk (shut_int Tryd.underlying22 w2) trodAll_mk0))), rfl, bel.frame _, fun h => by cases h⟩

theorem divides_row : Rows.WordDividesSaid :=
  OpenClaim.holds_of_wide 3 Tryd.f3 rfl rfl rfl rfl rfl rfl rfl ⟨rfl, rfl, rfl, rfl, rfl⟩ rfl rfl rfl rfl rfl (by kernel_rfl) Tryd.func3 (by kernel_rfl)
    (of_decide_eq_true (by kernel_rfl)) (by unfold Func.isWrapper; first | (rw [if_pos (by decide +kernel)]; kernel_rfl) | (rw [if_neg (by decide +kernel)]; exact ⟨rfl, rfl⟩))
    (fun os started H enc _ => divides_lifted os started H enc)

theorem divides_holds : Rows.WordDividesCardSaid :=
  Claim7.holds_tied_plain_at .later [] [.data] true Rows.wordDividesCard.stood.harness false
    divides_row (fun _ h => by cases h) (by kernel_rfl) (fun _ h => by cases h) wordDivides_row_tie rfl ⟨rfl, rfl⟩ (by kernel_rfl) rfl
    (fun f fn hf hfn => by
      obtain rfl : f = 3 := Option.some.inj ((show Tryd.prog.funcNamed Rows.wordDividesRow.func = some 3 by kernel_rfl).symm.trans hf) |>.symm
      obtain rfl : fn = Tryd.f3 := (Option.some.inj (Tryd.func3.symm.trans hfn)).symm
      exact ⟨by kernel_rfl, fun j t ht => by
        rw [Tryd.params3] at ht
        have hm : t ∈ [22, 22, 22] := by simpa using Array.mem_of_getElem? ht
        have hall : ([22, 22, 22].all fun u => !Tryd.prog.wantsStandIn u) = true := by kernel_rfl
        exact (show Tryd.prog.wantsStandIn t = false by simpa using List.all_eq_true.1 hall t hm)⟩)
    (by kernel_rfl)
#print axioms divides_holds
end Go.Proofs.YtkejmenidciigabDoor
