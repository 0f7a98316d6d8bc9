/-
  What the given answer's functions fits, one, Mask, extend, Get and Put answer, for every field and every number; they leave the world as it was.
-/
import Derived.Test.YtmdgnjadfdnibaaFdU
import Derived.LoopN
namespace Go.Proofs.Ytmdgnjadfdnibaa
open Go.RowKit
set_option linter.unusedVariables false
set_option maxHeartbeats 1000000 in
theorem rfits_yes (b n : Int) (w : World) (h : FOK b n 32) :
    Calls Try.prog 26 #[.int .i64 b, .int .i64 n] w fun e w' => e = .returned (.bool true) ∧ w' = w := by
  obtain ⟨g1, g2, g3⟩ := h
  have g4 : b ≤ 31 := by omega
  have g5 : n ≤ 32 := by omega
  go_enter Try.func26, Try.ntmps26
  go_wp2
  go_ret
  exact ⟨rfl, rfl⟩
set_option maxHeartbeats 2000000 in
theorem rfits_no (b n : Int) (w : World) (h : ¬ FOK b n 32) :
    Calls Try.prog 26 #[.int .i64 b, .int .i64 n] w fun e w' => e = .returned (.bool false) ∧ w' = w := by
  unfold FOK at h
  by_cases g1 : 0 ≤ b
  · by_cases g2 : b ≤ 31
    · by_cases g3 : 1 ≤ n
      · by_cases g4 : n ≤ 32
        · have g5 : ¬ b + n ≤ 32 := by omega
          clear h
          go_enter Try.func26, Try.ntmps26
          go_wp2
          go_ret
          exact ⟨rfl, rfl⟩
        · clear h
          go_enter Try.func26, Try.ntmps26
          go_wp2
          go_ret
          exact ⟨rfl, rfl⟩
      · clear h
        go_enter Try.func26, Try.ntmps26
        go_wp2
        go_ret
        exact ⟨rfl, rfl⟩
    · clear h
      go_enter Try.func26, Try.ntmps26
      go_wp2
      go_ret
      exact ⟨rfl, rfl⟩
  · clear h
    go_enter Try.func26, Try.ntmps26
    go_wp2
    go_ret
    exact ⟨rfl, rfl⟩
set_option maxHeartbeats 1000000 in
theorem one_c (V : BitVec 32) (i : Nat) (w : World) (hi : i < 32) :
    Calls Try.prog 30 #[.int .u32 V.toNat, .int .i64 i] w fun e w' => e = .returned (.int .u32 (bitB (V.getLsbD i)).toNat) ∧ w' = w := by
  rw [← one_int V i hi]
  go_enter Try.func30, Try.ntmps30
  go_wp2
  go_ret
  exact ⟨one_u32 (by simp), rfl⟩
set_option maxHeartbeats 1000000 in
theorem rMask_yes (b n : Nat) (w : World) (h1 : 1 ≤ n) (h2 : b + n ≤ 32) :
    Calls Try.prog 8 #[.int .i64 b, .int .i64 n] w fun e w' => e = .returned (.tuple #[.int .u32 (maskB b n).toNat, .int .i64 0]) ∧ w' = w := by
  have c1 := rfits_yes b n w (fok_of b n h1 h2)
  have hz : ((0 : Nat) : Int) = ((buildB (fun i => decide (b ≤ i)) b).toNat : Int) := by
    rw [buildB_none _ b (by omega) (by intro i hi; simp; omega)]; rfl
  have HM : Hid (buildB (fun i => decide (b ≤ i)) (b + n) = maskB b n) := build_mask b n h1 h2
  go_enter Try.func8, Try.ntmps8
  go_wp2_with fail
  refine c1.mono ?_; rintro e w' ⟨rfl, rfl⟩
  clear c1
  go_wp2
  go_loop [6, 7] (fun m i => ∃ k : Nat, b ≤ k ∧ k ≤ b + n ∧ i = .int .i64 k ∧ m = .int .u32 (buildB (fun i => decide (b ≤ i)) k).toNat) (fun _ i => b + n - (intOf i).toNat)
  case atStart => exact ⟨b, Nat.le_refl _, by omega, rfl, by rw [← hz]; rfl⟩
  case round =>
    clear hz
    obtain ⟨k, hk1, hk2, rfl, rfl⟩ := hrel
    by_cases hlt : k < b + n
    · have hstep := build_step (buildB (fun i => decide (b ≤ i)) k) true k
      have e1 : (bitB true).toNat = 1 := rfl
      have e2 : buildB (fun i => decide (b ≤ i)) k ||| (bitB true <<< k) = buildB (fun i => decide (b ≤ i)) (k + 1) := by
        show _ = buildB (fun i => decide (b ≤ i)) k ||| (bitB (decide (b ≤ k)) <<< k)
        simp [hk1]
      rw [e1, e2, show ((1 : Nat) : Int) = 1 from rfl, Int.one_mul] at hstep
      have HS : Hid _ := hstep
      clear hstep e1 e2
      go_wp2
      go_round
      case rel =>
        refine ⟨k + 1, by omega, by omega, by go_num, ?_⟩
        rw [HS.out]
      case measure => simp [intOf]; omega
    · have hkk : k = b + n := by omega
      subst hkk
      go_wp2
      go_ret2
      exact ⟨by rw [HM.out]; rfl, rfl⟩
set_option maxHeartbeats 1000000 in
theorem rMask_no (b n : Int) (w : World) (h : ¬ FOK b n 32) :
    Calls Try.prog 8 #[.int .i64 b, .int .i64 n] w fun e w' => e = .returned (.tuple #[.int .u32 0, .int .i64 80]) ∧ w' = w := by
  have c1 := rfits_no b n w h
  clear h
  go_enter Try.func8, Try.ntmps8
  go_wp2_with fail
  refine c1.mono ?_; rintro e w' ⟨rfl, rfl⟩
  clear c1
  go_wp2
  go_ret2
  exact ⟨rfl, rfl⟩
set_option maxHeartbeats 2000000 in
theorem extend8_c (V : BitVec 32) (n : Nat) (s : Bool) (w : World) (h1 : 1 ≤ n) (h2 : n ≤ 32) :
    Calls Try.prog 28 #[.int .u32 V.toNat, .int .i64 n, .bool s] w fun e w' => e = .returned (.int .u32 (buildB (extF V n s) 32).toNat) ∧ w' = w := by
  go_enter Try.func28, Try.ntmps28
  go_wp2
  go_loop [7, 8] (fun m i => ∃ k : Nat, k ≤ 32 ∧ i = .int .i64 k ∧ m = .int .u32 (buildB (extF V n s) k).toNat) (fun _ i => 32 - (intOf i).toNat)
  case atStart => exact ⟨0, by omega, rfl, rfl⟩
  case round =>
    obtain ⟨k, hk2, rfl, rfl⟩ := hrel
    by_cases hlt : k < 32
    · have HS : Hid _ := build_step (buildB (extF V n s) k) (extF V n s k) k
      have HE : Hid (buildB (extF V n s) k ||| (bitB (extF V n s k) <<< k) = buildB (extF V n s) (k + 1)) := rfl
      by_cases hn : k < n
      · have HF : Hid (extF V n s k = V.getLsbD k) := if_pos hn
        have c := one_c V k w hlt
        rw [← HF.out] at c
        go_wp2_with fail
        refine c.mono ?_; rintro e w' ⟨rfl, hw⟩; rw [hw]; clear hw w'
        clear c
        go_wp2
        go_round
        case rel =>
          refine ⟨k + 1, by omega, by go_num, ?_⟩
          rw [HS.out, HE.out]
        case measure => simp [intOf]; omega
      · rcases s with _ | _
        · have HF : Hid (extF V n false k = false) := by unfold extF; rw [if_neg hn]; rfl
          go_wp2
          go_round
          case rel =>
            refine ⟨k + 1, by omega, by go_num, ?_⟩
            have e := HS.out
            rw [HE.out, HF.out] at e
            rw [← e]
            simp [bitB]
          case measure => simp [intOf]; omega
        · have HF : Hid (extF V n true k = V.getLsbD (n - 1)) := by unfold extF; rw [if_neg hn]; rfl
          have c := one_c V (n - 1) w (by omega)
          rw [show ((n - 1 : Nat) : Int) = (n : Int) - 1 by omega, ← HF.out] at c
          go_wp2_with fail
          refine c.mono ?_; rintro e w' ⟨rfl, hw⟩; rw [hw]; clear hw w'
          clear c
          go_wp2
          go_round
          case rel =>
            refine ⟨k + 1, by omega, by go_num, ?_⟩
            rw [HS.out, HE.out]
          case measure => simp [intOf]; omega
    · have hkk : k = 32 := by omega
      subst hkk
      go_wp2
      go_ret
      exact ⟨rfl, rfl⟩
set_option maxHeartbeats 1000000 in
theorem rGet_yes (V K : BitVec 32) (b n : Nat) (s : Bool) (w : World) (h1 : 1 ≤ n) (h2 : b + n ≤ 32) (h : knows K b n) :
    Calls Try.prog 10 #[.int .u32 V.toNat, .int .u32 K.toNat, .int .i64 b, .int .i64 n, .bool s] w fun e w' => e = .returned (.tuple #[.int .u32 (takeB V b n s).toNat, .bool true, .int .i64 0]) ∧ w' = w := by
  have c1 := rMask_yes b n w h1 h2
  have c2 := extend8_c (V >>> b) n s w h1 (by omega)
  rw [build_ext V b n s h1 h2, ← shr_int] at c2
  have t : (bits .and .u32 (K.toNat : Int) ((maskB b n).toNat : Int) != ((maskB b n).toNat : Int)) = false := by
    rw [and_int, h]; simp
  have g : (b : Int) ≤ 32 := by omega
  clear h h1 h2
  generalize maskB b n = M at *
  generalize takeB V b n s = T at *
  go_enter Try.func10, Try.ntmps10
  go_wp2_with fail
  refine c1.mono ?_; rintro e w' ⟨rfl, rfl⟩
  clear c1
  go_wp2_with fail
  refine c2.mono ?_; rintro e w' ⟨rfl, rfl⟩
  go_wp2
  go_ret3
  exact ⟨rfl, rfl⟩
set_option maxHeartbeats 1000000 in
theorem rGet_unknown (V K : BitVec 32) (b n : Nat) (s : Bool) (w : World) (h1 : 1 ≤ n) (h2 : b + n ≤ 32) (h : ¬ knows K b n) :
    Calls Try.prog 10 #[.int .u32 V.toNat, .int .u32 K.toNat, .int .i64 b, .int .i64 n, .bool s] w fun e w' => e = .returned (.tuple #[.int .u32 0, .bool false, .int .i64 0]) ∧ w' = w := by
  have c1 := rMask_yes b n w h1 h2
  have t : (bits .and .u32 (K.toNat : Int) ((maskB b n).toNat : Int) != ((maskB b n).toNat : Int)) = true := by
    rw [and_int]; simp only [bne_iff_ne, ne_eq]
    intro e; apply h; unfold knows; apply BitVec.eq_of_toNat_eq; omega
  clear h h1 h2
  generalize maskB b n = M at *
  go_enter Try.func10, Try.ntmps10
  go_wp2_with fail
  refine c1.mono ?_; rintro e w' ⟨rfl, rfl⟩
  clear c1
  go_wp2
  go_ret3
  exact ⟨rfl, rfl⟩
set_option maxHeartbeats 1000000 in
theorem rGet_no (V K : BitVec 32) (b n : Int) (s : Bool) (w : World) (h : ¬ FOK b n 32) :
    Calls Try.prog 10 #[.int .u32 V.toNat, .int .u32 K.toNat, .int .i64 b, .int .i64 n, .bool s] w fun e w' => e = .returned (.tuple #[.int .u32 0, .bool false, .int .i64 80]) ∧ w' = w := by
  have c1 := rMask_no b n w h
  clear h
  go_enter Try.func10, Try.ntmps10
  go_wp2_with fail
  refine c1.mono ?_; rintro e w' ⟨rfl, rfl⟩
  clear c1
  go_wp2
  go_ret3
  exact ⟨rfl, rfl⟩
set_option maxHeartbeats 2000000 in
theorem rPut_yes (V K X : BitVec 32) (b n : Nat) (w : World) (h1 : 1 ≤ n) (h2 : b + n ≤ 32) :
    Calls Try.prog 12 #[.int .u32 V.toNat, .int .u32 K.toNat, .int .i64 b, .int .i64 n, .int .u32 X.toNat] w fun e w' => e = .returned (.tuple #[.int .u32 (layB V b n X).toNat, .int .u32 (K ||| maskB b n).toNat, .int .i64 0]) ∧ w' = w := by
  have c1 := rMask_yes b n w h1 h2
  have HB : Hid _ := build_put V X b n h1 h2
  rw [← or_int]
  generalize maskB b n = M at *
  go_enter Try.func12, Try.ntmps12
  go_wp2_with fail
  refine c1.mono ?_; rintro e w' ⟨rfl, hw⟩; rw [hw]; clear hw w'
  clear c1
  go_wp2
  go_loop [15, 16] (fun m i => ∃ k : Nat, k ≤ 32 ∧ i = .int .i64 k ∧ m = .int .u32 (buildB (putF V X b n) k).toNat) (fun _ i => 32 - (intOf i).toNat)
  case atStart => exact ⟨0, by omega, rfl, rfl⟩
  case round =>
    obtain ⟨k, hk2, rfl, rfl⟩ := hrel
    by_cases hlt : k < 32
    · have HS : Hid _ := build_step (buildB (putF V X b n) k) (putF V X b n k) k
      have HE : Hid (buildB (putF V X b n) k ||| (bitB (putF V X b n k) <<< k) = buildB (putF V X b n) (k + 1)) := rfl
      have c := one_c V k w hlt
      by_cases hb : b ≤ k
      · by_cases hn : k < b + n
        · have HF : Hid (putF V X b n k = X.getLsbD (k - b)) := if_pos ⟨hb, hn⟩
          have c2 := one_c X (k - b) w (by omega)
          rw [show ((k - b : Nat) : Int) = (k : Int) - b by omega, ← HF.out] at c2
          generalize V.getLsbD k = C0 at c
          go_wp2_with fail
          refine c.mono ?_; rintro e w' ⟨rfl, hw⟩; rw [hw]; clear hw w'
          clear c
          go_wp2_with fail
          refine c2.mono ?_; rintro e w' ⟨rfl, hw⟩; rw [hw]; clear hw w'
          clear c2
          go_wp2
          go_round
          case rel =>
            refine ⟨k + 1, by omega, by go_num, ?_⟩
            rw [HS.out, HE.out]
          case measure => simp [intOf]; omega
        · have HF : Hid (putF V X b n k = V.getLsbD k) := if_neg (by omega)
          rw [← HF.out] at c
          go_wp2_with fail
          refine c.mono ?_; rintro e w' ⟨rfl, hw⟩; rw [hw]; clear hw w'
          clear c
          go_wp2
          go_round
          case rel =>
            refine ⟨k + 1, by omega, by go_num, ?_⟩
            rw [HS.out, HE.out]
          case measure => simp [intOf]; omega
      · have HF : Hid (putF V X b n k = V.getLsbD k) := if_neg (by omega)
        rw [← HF.out] at c
        go_wp2_with fail
        refine c.mono ?_; rintro e w' ⟨rfl, hw⟩; rw [hw]; clear hw w'
        clear c
        go_wp2
        go_round
        case rel =>
          refine ⟨k + 1, by omega, by go_num, ?_⟩
          rw [HS.out, HE.out]
        case measure => simp [intOf]; omega
    · have hkk : k = 32 := by omega
      subst hkk
      go_wp2
      go_ret3
      exact ⟨by rw [HB.out]; rfl, rfl⟩
set_option maxHeartbeats 1000000 in
theorem rPut_no (V K X : BitVec 32) (b n : Int) (w : World) (h : ¬ FOK b n 32) :
    Calls Try.prog 12 #[.int .u32 V.toNat, .int .u32 K.toNat, .int .i64 b, .int .i64 n, .int .u32 X.toNat] w fun e w' => e = .returned (.tuple #[.int .u32 0, .int .u32 0, .int .i64 80]) ∧ w' = w := by
  have c1 := rMask_no b n w h
  clear h
  go_enter Try.func12, Try.ntmps12
  go_wp2_with fail
  refine c1.mono ?_; rintro e w' ⟨rfl, rfl⟩
  clear c1
  go_wp2
  go_ret3
  exact ⟨rfl, rfl⟩
end Go.Proofs.Ytmdgnjadfdnibaa
