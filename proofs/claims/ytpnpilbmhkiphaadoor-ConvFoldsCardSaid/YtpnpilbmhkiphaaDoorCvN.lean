/-
  Constants reckoned: conv's Fold and the given answer's.
-/
import Derived.Test.YtpnpilbmhkiphaaDoorWBoth
import Derived.Test.YtpnpilbmhkiphaaDoorCvK
namespace Go.Proofs.YtpnpilbmhkiphaaDoor
open Go.RowKit Go.Maps
set_option linter.unusedVariables false
set_option maxRecDepth 100000

section
open W
theorem div_bd {a b : Int} (a0 : 0 ≤ a) (a1 : a < 4294967296) (b0 : 0 < b) : 0 ≤ a / b ∧ a / b < 4294967296 := by
  have h1 := Int.ediv_nonneg a0 (Int.le_of_lt b0)
  have h2 := Int.ediv_le_self b a0
  omega
theorem two_pos (n : Nat) : (0 : Int) < 2 ^ n := Int.pow_pos (by decide)
theorem and_bd {a b : Int} (a0 : 0 ≤ a) (a1 : a < 4294967296) (b0 : 0 ≤ b) (b1 : b < 4294967296) : 0 ≤ bits .and .u32 a b ∧ bits .and .u32 a b < 4294967296 := by
  rw [u32_and a b a0 a1 b0 b1]
  have : a.toNat &&& b.toNat < 2 ^ 32 := Nat.and_lt_two_pow _ (by omega)
  omega
theorem or_bd {a b : Int} (a0 : 0 ≤ a) (a1 : a < 4294967296) (b0 : 0 ≤ b) (b1 : b < 4294967296) : 0 ≤ bits .or .u32 a b ∧ bits .or .u32 a b < 4294967296 := by
  rw [u32_or a b a0 a1 b0 b1]
  have : a.toNat ||| b.toNat < 2 ^ 32 := Nat.or_lt_two_pow (by omega) (by omega)
  omega
theorem xor_bd {a b : Int} (a0 : 0 ≤ a) (a1 : a < 4294967296) (b0 : 0 ≤ b) (b1 : b < 4294967296) : 0 ≤ bits .xor .u32 a b ∧ bits .xor .u32 a b < 4294967296 := by
  rw [u32_xor a b a0 a1 b0 b1]
  have : a.toNat ^^^ b.toNat < 2 ^ 32 := Nat.xor_lt_two_pow (by omega) (by omega)
  omega
def BothBd (op a b : Int) : Prop := ∃ (v : Int) (c : Bool),
  (∀ w, Calls Tryd.prog 7 #[.int .i64 op, .int .u32 a, .int .u32 b] w fun e w' => e = .returned (.tuple #[.int .u32 v, .bool c]) ∧ w' = w) ∧
  (∀ w, Calls Tryd.prog 35 #[.int .i64 op, .int .u32 a, .int .u32 b] w fun e w' => e = .returned (.tuple #[.int .u32 v, .bool c]) ∧ ∃ n, w' = w.drewN n) ∧ 0 ≤ v ∧ v < 4294967296
theorem both_bd (op a b : Int) (a0 : 0 ≤ a) (a1 : a < 4294967296) (b0 : 0 ≤ b) (b1 : b < 4294967296) : BothBd op a b := by
  by_cases h : op < 1 ∨ 19 < op
  · exact ⟨0, false, fun w => bin_no op a b (not_op op 1 h (by decide) (by decide)) (not_op op 2 h (by decide) (by decide)) (not_op op 3 h (by decide) (by decide)) (not_op op 4 h (by decide) (by decide)) (not_op op 5 h (by decide) (by decide)) (not_op op 6 h (by decide) (by decide)) (not_op op 7 h (by decide) (by decide)) (not_op op 8 h (by decide) (by decide)) (not_op op 9 h (by decide) (by decide)) (not_op op 10 h (by decide) (by decide)) (not_op op 11 h (by decide) (by decide)) (not_op op 12 h (by decide) (by decide)) (not_op op 13 h (by decide) (by decide)) (not_op op 14 h (by decide) (by decide)) (not_op op 15 h (by decide) (by decide)) (not_op op 16 h (by decide) (by decide)) (not_op op 17 h (by decide) (by decide)) (not_op op 18 h (by decide) (by decide)) (not_op op 19 h (by decide) (by decide)) w a0 a1 b0 b1, fun w => (ref_no op a b (not_op op 1 h (by decide) (by decide)) (not_op op 2 h (by decide) (by decide)) (not_op op 3 h (by decide) (by decide)) (not_op op 4 h (by decide) (by decide)) (not_op op 5 h (by decide) (by decide)) (not_op op 6 h (by decide) (by decide)) (not_op op 7 h (by decide) (by decide)) (not_op op 8 h (by decide) (by decide)) (not_op op 9 h (by decide) (by decide)) (not_op op 10 h (by decide) (by decide)) (not_op op 11 h (by decide) (by decide)) (not_op op 12 h (by decide) (by decide)) (not_op op 13 h (by decide) (by decide)) (not_op op 14 h (by decide) (by decide)) (not_op op 15 h (by decide) (by decide)) (not_op op 16 h (by decide) (by decide)) (not_op op 17 h (by decide) (by decide)) (not_op op 18 h (by decide) (by decide)) (not_op op 19 h (by decide) (by decide)) w a0 a1 b0 b1).mono fun e w' h => still h, by decide, by decide⟩
  · have hk : op = 1 ∨ op = 2 ∨ op = 3 ∨ op = 4 ∨ op = 5 ∨ op = 6 ∨ op = 7 ∨ op = 8 ∨ op = 9 ∨ op = 10 ∨ op = 11 ∨ op = 12 ∨ op = 13 ∨ op = 14 ∨ op = 15 ∨ op = 16 ∨ op = 17 ∨ op = 18 ∨ op = 19 := by omega
    rcases hk with rfl | rfl | rfl | rfl | rfl | rfl | rfl | rfl | rfl | rfl | rfl | rfl | rfl | rfl | rfl | rfl | rfl | rfl | rfl
    · exact ⟨_, _, fun w => bin_add a b w a0 a1 b0 b1, fun w => (ref_add a b w a0 a1 b0 b1).mono fun e w' h => still h, ⟨Int.emod_nonneg _ (by decide), Int.emod_lt_of_pos _ (by decide)⟩⟩
    · exact ⟨_, _, fun w => bin_sub a b w a0 a1 b0 b1, fun w => (ref_sub a b w a0 a1 b0 b1).mono fun e w' h => still h, ⟨Int.emod_nonneg _ (by decide), Int.emod_lt_of_pos _ (by decide)⟩⟩
    · exact ⟨_, _, fun w => bin_mul a b w a0 a1 b0 b1, fun w => (ref_mul a b w a0 a1 b0 b1).mono fun e w' h => still h, ⟨Int.emod_nonneg _ (by decide), Int.emod_lt_of_pos _ (by decide)⟩⟩
    · by_cases hz : b = 0
      · subst hz
        exact ⟨_, _, fun w => bin_divs_zero a w, fun w => (ref_divs_zero a w).mono fun e w' h => still h, by decide, by decide⟩
      · exact ⟨_, _, fun w => bin_divs a b w a0 a1 (by omega) b1, fun w => ref_divs a b w a0 a1 (by omega) b1, ⟨Int.emod_nonneg _ (by decide), Int.emod_lt_of_pos _ (by decide)⟩⟩
    · by_cases hz : b = 0
      · subst hz
        exact ⟨_, _, fun w => bin_divu_zero a w, fun w => (ref_divu_zero a w).mono fun e w' h => still h, by decide, by decide⟩
      · exact ⟨_, _, fun w => bin_divu a b w a0 a1 (by omega) b1, fun w => ref_divu a b w a0 a1 (by omega) b1, div_bd a0 a1 (by omega)⟩
    · by_cases hz : b = 0
      · subst hz
        exact ⟨_, _, fun w => bin_rems_zero a w, fun w => (ref_rems_zero a w).mono fun e w' h => still h, by decide, by decide⟩
      · exact ⟨_, _, fun w => bin_rems a b w a0 a1 (by omega) b1, fun w => ref_rems a b w a0 a1 (by omega) b1, ⟨Int.emod_nonneg _ (by decide), Int.emod_lt_of_pos _ (by decide)⟩⟩
    · by_cases hz : b = 0
      · subst hz
        exact ⟨_, _, fun w => bin_remu_zero a w, fun w => (ref_remu_zero a w).mono fun e w' h => still h, by decide, by decide⟩
      · exact ⟨_, _, fun w => bin_remu a b w a0 a1 (by omega) b1, fun w => ref_remu a b w a0 a1 (by omega) b1, ⟨Int.emod_nonneg _ (by omega), Int.lt_trans (Int.emod_lt_of_pos _ (by omega)) b1⟩⟩
    · exact ⟨_, _, fun w => bin_and a b w a0 a1 b0 b1, fun w => (ref_and a b w a0 a1 b0 b1).mono fun e w' h => still h, and_bd a0 a1 b0 b1⟩
    · exact ⟨_, _, fun w => bin_or a b w a0 a1 b0 b1, fun w => (ref_or a b w a0 a1 b0 b1).mono fun e w' h => still h, or_bd a0 a1 b0 b1⟩
    · exact ⟨_, _, fun w => bin_xor a b w a0 a1 b0 b1, fun w => (ref_xor a b w a0 a1 b0 b1).mono fun e w' h => still h, xor_bd a0 a1 b0 b1⟩
    · exact ⟨_, _, fun w => bin_shl a b w a0 a1 b0 b1, fun w => (ref_shl a b w a0 a1 b0 b1).mono fun e w' h => still h, ⟨Int.emod_nonneg _ (by decide), Int.emod_lt_of_pos _ (by decide)⟩⟩
    · exact ⟨_, _, fun w => bin_shrs a b w a0 a1 b0 b1, fun w => (ref_shrs a b w a0 a1 b0 b1).mono fun e w' h => still h, ⟨Int.emod_nonneg _ (by decide), Int.emod_lt_of_pos _ (by decide)⟩⟩
    · exact ⟨_, _, fun w => bin_shru a b w a0 a1 b0 b1, fun w => (ref_shru a b w a0 a1 b0 b1).mono fun e w' h => still h, div_bd a0 a1 (two_pos _)⟩
    · exact ⟨_, _, fun w => bin_eq a b w a0 a1 b0 b1, fun w => (ref_eq a b w a0 a1 b0 b1).mono fun e w' h => still h, by split <;> omega⟩
    · exact ⟨_, _, fun w => bin_ne a b w a0 a1 b0 b1, fun w => (ref_ne a b w a0 a1 b0 b1).mono fun e w' h => still h, by split <;> omega⟩
    · exact ⟨_, _, fun w => bin_lts a b w a0 a1 b0 b1, fun w => (ref_lts a b w a0 a1 b0 b1).mono fun e w' h => still h, by split <;> omega⟩
    · exact ⟨_, _, fun w => bin_ltu a b w a0 a1 b0 b1, fun w => (ref_ltu a b w a0 a1 b0 b1).mono fun e w' h => still h, by split <;> omega⟩
    · exact ⟨_, _, fun w => bin_les a b w a0 a1 b0 b1, fun w => (ref_les a b w a0 a1 b0 b1).mono fun e w' h => still h, by split <;> omega⟩
    · exact ⟨_, _, fun w => bin_leu a b w a0 a1 b0 b1, fun w => (ref_leu a b w a0 a1 b0 b1).mono fun e w' h => still h, by split <;> omega⟩
end
section
variable {w : World}
def foldV (z : Bool) (c : Bool) (x : Int) : Array Value := if z then #[.int .u32 0, .int .i64 70] else if c then #[.int .u32 x, .int .i64 0] else #[.int .u32 0, .int .i64 71]
set_option maxHeartbeats 2000000 in
theorem cFold_c {k op a b v : Int} {c : Bool} {s : ByteArray} {W0 : World} (hN : Calls Tryd.prog 17 #[.int .i64 op] W0 fun e w' => e = .returned (.string s) ∧ w' = W0) (hB : ∀ w, Calls Tryd.prog 7 #[.int .i64 op, .int .u32 a, .int .u32 b] w fun e w' => e = .returned (.tuple #[.int .u32 v, .bool c]) ∧ w' = w) (hv0 : 0 ≤ v) (hv1 : v < 4294967296) :
    Calls Tryd.prog 6 #[.int .i64 k, .int .i64 op, .int .u32 a, .int .u32 b] W0 fun e w' => e = .returned (.tuple (foldV (!intK k || decide (s = ⟨#[]⟩)) c (W.conv k v))) ∧ Below W0.heap.size W0 w' := by
  have c1 := fun Y => cInt_c k Y
  have cC := fun Y => (W.convert_any k v hv0 hv1).1 Y
  generalize W.conv k v = x at *
  have n1 := not_t
  have n2 := not_f
  have HN : Hid (Calls Tryd.prog 17 #[.int .i64 op] W0 fun e w' => e = .returned (.string s) ∧ w' = W0) := hN
  have HBn : Hid (∀ w, Calls Tryd.prog 7 #[.int .i64 op, .int .u32 a, .int .u32 b] w fun e w' => e = .returned (.tuple #[.int .u32 v, .bool c]) ∧ w' = w) := hB
  clear hN hB
  cases hi : intK k with
  | false =>
    rw [hi] at c1
    rw [show foldV (!false || decide (s = ⟨#[]⟩)) c x = #[.int .u32 0, .int .i64 70] by simp [foldV]]
    go_enter Tryd.func6, Tryd.ntmps6
    go_wp2_with fail
    refine (c1 _).mono ?_
    rintro e w' ⟨rfl, hw⟩
    rw [hw]
    clear hw w'
    go_wp2
    go_ret2
    exact ⟨rfl, Below.refl _ _⟩
  | true =>
    rw [hi] at c1
    by_cases hs : s = ⟨#[]⟩
    · subst hs
      rw [show foldV (!true || decide ((⟨#[]⟩ : ByteArray) = ⟨#[]⟩)) c x = #[.int .u32 0, .int .i64 70] by simp [foldV]]
      go_enter Tryd.func6, Tryd.ntmps6
      go_wp2_with fail
      refine (c1 _).mono ?_
      rintro e w' ⟨rfl, hw⟩
      rw [hw]
      clear hw w'
      go_wp2_with fail
      refine (HN.out).mono ?_
      rintro e w1 ⟨rfl, hb1⟩
      rw [hb1]
      clear hb1 w1
      go_wp2
      go_ret2
      exact ⟨rfl, Below.refl _ _⟩
    · have hs1 : (s.toList == []) = false := by
        rw [ByteArray.toList_eq]
        cases hq : (s.data.toList == []) with
        | false => rfl
        | true => exact absurd (ByteArray.ext (Array.ext' (by simpa using hq))) hs
      have hs2 : decide (s.toList = []) = false := by simpa using hs1
      rw [show foldV (!true || decide (s = ⟨#[]⟩)) c x = if c then #[.int .u32 x, .int .i64 0] else #[.int .u32 0, .int .i64 71] by simp [foldV, hs]]
      cases c with
      | false =>
        rw [if_neg (by simp)]
        go_enter Tryd.func6, Tryd.ntmps6
        go_wp2_with fail
        refine (c1 _).mono ?_
        rintro e w' ⟨rfl, hw⟩
        rw [hw]
        clear hw w'
        go_wp2_with fail
        refine (HN.out).mono ?_
        rintro e w1 ⟨rfl, hb1⟩
        rw [hb1]
        clear hb1 w1
        go_wp2_with fail
        refine (HBn.out _).mono ?_
        rintro e w2 ⟨rfl, hb2⟩
        rw [hb2]
        clear hb2 w2
        go_wp2
        go_ret2
        exact ⟨rfl, Below.refl _ _⟩
      | true =>
        rw [if_pos rfl]
        go_enter Tryd.func6, Tryd.ntmps6
        go_wp2_with fail
        refine (c1 _).mono ?_
        rintro e w' ⟨rfl, hw⟩
        rw [hw]
        clear hw w'
        go_wp2_with fail
        refine (HN.out).mono ?_
        rintro e w1 ⟨rfl, hb1⟩
        rw [hb1]
        clear hb1 w1
        go_wp2_with fail
        refine (HBn.out _).mono ?_
        rintro e w2 ⟨rfl, hb2⟩
        rw [hb2]
        clear hb2 w2
        go_wp2_with fail
        refine (cC _).mono ?_
        rintro e w' ⟨rfl, hw⟩
        rw [hw]
        clear hw w'
        go_wp2
        go_ret2
        exact ⟨rfl, Below.refl _ _⟩
set_option maxHeartbeats 2000000 in
theorem rFold_c {k op a b v : Int} {c : Bool} {s : ByteArray} {W0 : World} (hN : Calls Tryd.prog 34 #[.int .i64 op] W0 fun e w' => e = .returned (.string s) ∧ Below W0.heap.size W0 w') (hB : ∀ w, Calls Tryd.prog 35 #[.int .i64 op, .int .u32 a, .int .u32 b] w fun e w' => e = .returned (.tuple #[.int .u32 v, .bool c]) ∧ ∃ n, w' = w.drewN n) (hv0 : 0 ≤ v) (hv1 : v < 4294967296) :
    Calls Tryd.prog 12 #[.int .i64 k, .int .i64 op, .int .u32 a, .int .u32 b] W0 fun e w' => e = .returned (.tuple (foldV (!intK k || decide (s = ⟨#[]⟩)) c (W.conv k v))) ∧ Below W0.heap.size W0 w' := by
  have c1 := fun Y => rInt_c k Y
  have cC := fun Y => (W.convert_any k v hv0 hv1).2 Y
  generalize W.conv k v = x at *
  have n1 := not_t
  have n2 := not_f
  have HN : Hid (Calls Tryd.prog 34 #[.int .i64 op] W0 fun e w' => e = .returned (.string s) ∧ Below W0.heap.size W0 w') := hN
  have HBn : Hid (∀ w, Calls Tryd.prog 35 #[.int .i64 op, .int .u32 a, .int .u32 b] w fun e w' => e = .returned (.tuple #[.int .u32 v, .bool c]) ∧ ∃ n, w' = w.drewN n) := hB
  clear hN hB
  cases hi : intK k with
  | false =>
    rw [hi] at c1
    rw [show foldV (!false || decide (s = ⟨#[]⟩)) c x = #[.int .u32 0, .int .i64 70] by simp [foldV]]
    go_enter Tryd.func12, Tryd.ntmps12
    go_wp2_with fail
    refine (c1 _).mono ?_
    rintro e w' ⟨rfl, hw⟩
    rw [hw]
    clear hw w'
    go_wp2
    go_ret2
    exact ⟨rfl, Below.refl _ _⟩
  | true =>
    rw [hi] at c1
    by_cases hs : s = ⟨#[]⟩
    · subst hs
      rw [show foldV (!true || decide ((⟨#[]⟩ : ByteArray) = ⟨#[]⟩)) c x = #[.int .u32 0, .int .i64 70] by simp [foldV]]
      go_enter Tryd.func12, Tryd.ntmps12
      go_wp2_with fail
      refine (c1 _).mono ?_
      rintro e w' ⟨rfl, hw⟩
      rw [hw]
      clear hw w'
      go_wp2_with fail
      refine (HN.out).mono ?_
      rintro e w1 ⟨rfl, hb1⟩
      have HB1 : Hid (Below W0.heap.size W0 w1) := hb1
      clear hb1
      go_wp2
      go_ret2
      exact ⟨rfl, HB1.out⟩
    · have hs1 : (s.toList == []) = false := by
        rw [ByteArray.toList_eq]
        cases hq : (s.data.toList == []) with
        | false => rfl
        | true => exact absurd (ByteArray.ext (Array.ext' (by simpa using hq))) hs
      have hs2 : decide (s.toList = []) = false := by simpa using hs1
      rw [show foldV (!true || decide (s = ⟨#[]⟩)) c x = if c then #[.int .u32 x, .int .i64 0] else #[.int .u32 0, .int .i64 71] by simp [foldV, hs]]
      cases c with
      | false =>
        rw [if_neg (by simp)]
        go_enter Tryd.func12, Tryd.ntmps12
        go_wp2_with fail
        refine (c1 _).mono ?_
        rintro e w' ⟨rfl, hw⟩
        rw [hw]
        clear hw w'
        go_wp2_with fail
        refine (HN.out).mono ?_
        rintro e w1 ⟨rfl, hb1⟩
        have HB1 : Hid (Below W0.heap.size W0 w1) := hb1
        clear hb1
        go_wp2_with fail
        refine (HBn.out _).mono ?_
        rintro e w2 ⟨rfl, hb2⟩
        obtain ⟨n, hw2⟩ := hb2
        have HB2 : Hid (Below W0.heap.size W0 (w1.drewN n)) := HB1.out.trans (below_drewN _ w1 n)
        rw [hw2]
        clear hw2 w2
        go_wp2
        go_ret2
        exact ⟨rfl, HB2.out⟩
      | true =>
        rw [if_pos rfl]
        go_enter Tryd.func12, Tryd.ntmps12
        go_wp2_with fail
        refine (c1 _).mono ?_
        rintro e w' ⟨rfl, hw⟩
        rw [hw]
        clear hw w'
        go_wp2_with fail
        refine (HN.out).mono ?_
        rintro e w1 ⟨rfl, hb1⟩
        have HB1 : Hid (Below W0.heap.size W0 w1) := hb1
        clear hb1
        go_wp2_with fail
        refine (HBn.out _).mono ?_
        rintro e w2 ⟨rfl, hb2⟩
        obtain ⟨n, hw2⟩ := hb2
        have HB2 : Hid (Below W0.heap.size W0 (w1.drewN n)) := HB1.out.trans (below_drewN _ w1 n)
        rw [hw2]
        clear hw2 w2
        go_wp2_with fail
        refine (cC _).mono ?_
        rintro e w' ⟨rfl, hw⟩
        rw [hw]
        clear hw w'
        go_wp2
        go_ret2
        exact ⟨rfl, HB2.out⟩
end
end Go.Proofs.YtpnpilbmhkiphaaDoor
