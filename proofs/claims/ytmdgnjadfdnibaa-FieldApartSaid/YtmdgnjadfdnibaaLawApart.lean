/-
  The law FieldApart returns true at every unit, known bits, two fields and two numbers, and each argument reads afterwards as before. No condition beyond the given statement's own.
-/
import Derived.Test.YtmdgnjadfdnibaaRows
import Derived.Test.YtmdgnjadfdnibaaFdH
import Derived.ProofKit
import Derived.OpenShut
namespace Go.Proofs.Ytmdgnjadfdnibaa.fieldApart
open Go.ChangeShapes Go.WideShapes Go.ChangeAt Go.RowKit
set_option linter.unusedVariables false
theorem own : ownKnob Try.prog.godebug = none := by kernel_rfl

theorem bv_of (a : Int) (h : (Lit.int .u32 a).wf = true) : ∃ A : BitVec 32, a = (A.toNat : Int) := by
  have := bounds_u32 h
  refine ⟨BitVec.ofNat 32 a.toNat, ?_⟩
  rw [BitVec.toNat_ofNat]
  omega
/-- Fields whose masks share no bit lie apart. -/
theorem apart_of (b n o m : Nat) (h1 : 1 ≤ n) (h2 : b + n ≤ 32) (g1 : 1 ≤ m) (g2 : o + m ≤ 32) (h : maskB b n &&& maskB o m = 0) : b + n ≤ o ∨ o + m ≤ b := by
  by_cases q : b + n ≤ o ∨ o + m ≤ b
  · exact q
  · exfalso
    have hi : max b o < 32 := by omega
    have e := congrArg (fun A => BitVec.getLsbD A (max b o)) h
    simp only [BitVec.getLsbD_and, maskB_bit b n _ h1 h2 hi, maskB_bit o m _ g1 g2 hi] at e
    have e1 : decide (b ≤ max b o ∧ max b o < b + n) = true := by simp only [decide_eq_true_eq]; omega
    have e2 : decide (o ≤ max b o ∧ max b o < o + m) = true := by simp only [decide_eq_true_eq]; omega
    rw [e1, e2] at e
    simp at e
theorem lay_lay (V X Y : BitVec 32) (b n o m : Nat) (h1 : 1 ≤ n) (h2 : b + n ≤ 32) (g1 : 1 ≤ m) (g2 : o + m ≤ 32) (h : b + n ≤ o ∨ o + m ≤ b) :
    layB (layB V b n X) o m Y = layB (layB V o m Y) b n X := by
  apply bv_ext
  intro i hi
  rw [layB_bit _ _ o m i g1 g2 hi, layB_bit _ _ b n i h1 h2 hi, layB_bit _ _ b n i h1 h2 hi, layB_bit _ _ o m i g1 g2 hi]
  by_cases p : o ≤ i ∧ i < o + m
  · rw [if_pos p, if_neg (by omega), if_pos p]
  · rw [if_neg p, if_neg p]
theorem take_lay (V X : BitVec 32) (b n : Nat) (s : Bool) (h1 : 1 ≤ n) (h2 : b + n ≤ 32) : takeB (layB V b n X) b n s = takeB X 0 n s := by
  apply bv_ext
  intro i hi
  rw [takeB_bit _ b n i s h1 h2 hi, takeB_bit _ 0 n i s h1 (by omega) hi]
  by_cases p : i < n
  · rw [if_pos p, if_pos p, layB_bit _ _ b n _ h1 h2 (by omega), if_pos (by omega)]
    congr 1; omega
  · rw [if_neg p, if_neg p, layB_bit _ _ b n _ h1 h2 (by omega), if_pos (by omega)]
    congr 2; omega
theorem knows_or (K M : BitVec 32) (b n : Nat) : knows (K ||| maskB b n ||| M) b n := by
  unfold knows
  apply bv_ext
  intro i hi
  simp only [BitVec.getLsbD_and, BitVec.getLsbD_or]
  cases (maskB b n).getLsbD i <;> simp
set_option maxRecDepth 20000 in
set_option maxHeartbeats 4000000 in
theorem walk_yes (V K X Y : BitVec 32) (b n o m : Nat) (w : World) (h1 : 1 ≤ n) (h2 : b + n ≤ 32) (g1 : 1 ≤ m) (g2 : o + m ≤ 32) (h : maskB b n &&& maskB o m = 0) :
    Calls Try.prog 6 #[.int .u32 V.toNat, .int .u32 K.toNat, .int .i64 b, .int .i64 n, .int .u32 X.toNat, .int .i64 o, .int .i64 m, .int .u32 Y.toNat] w fun e w' => e = .returned (.bool true) ∧ Below w.heap.size w w' := by
  have hq := apart_of b n o m h1 h2 g1 g2 h
  have ht : (bits .and .u32 ((maskB b n).toNat : Int) ((maskB o m).toNat : Int) != 0) = false := by rw [and_int, h]; rfl
  have c1 := Mask_yes b n w h1 h2
  have c2 := Mask_yes o m w g1 g2
  have p1 := Put_yes V K X b n w h1 h2
  have p2 := Put_yes (layB V b n X) (K ||| maskB b n) Y o m w g1 g2
  have p3 := Put_yes V K Y o m w g1 g2
  have p4 := Put_yes (layB V o m Y) (K ||| maskB o m) X b n w h1 h2
  rw [← lay_lay V X Y b n o m h1 h2 g1 g2 hq, show K ||| maskB o m ||| maskB b n = K ||| maskB b n ||| maskB o m by rw [BitVec.or_assoc, BitVec.or_assoc, BitVec.or_comm (maskB o m)]] at p4
  have e1 : ∀ s, takeB (layB (layB V b n X) o m Y) b n s = takeB X 0 n s := fun s => by
    rw [lay_lay V X Y b n o m h1 h2 g1 g2 hq, take_lay _ X b n s h1 h2]
  have k1 := Get_yes (layB (layB V b n X) o m Y) (K ||| maskB b n ||| maskB o m) b n false w h1 h2 (knows_or _ _ _ _)
  have k2 := Get_yes (layB (layB V b n X) o m Y) (K ||| maskB b n ||| maskB o m) b n true w h1 h2 (knows_or _ _ _ _)
  have v1 := Value_yes 9 n X w ⟨by decide, by omega, by show (0 : Int) + n ≤ 32; omega⟩
  have v2 := Value_yes 8 n X w ⟨by decide, by omega, by show (0 : Int) + n ≤ 32; omega⟩
  rw [show valueB 9 n X = takeB X 0 n false from rfl] at v1
  rw [show valueB 8 n X = takeB X 0 n true from rfl] at v2
  rw [e1] at k1 k2
  clear e1 hq h h1 h2 g1 g2
  generalize layB (layB V b n X) o m Y = C at *
  generalize layB V b n X = A at *
  generalize layB V o m Y = D at *
  generalize K ||| maskB b n ||| maskB o m = L at *
  generalize K ||| maskB b n = K1 at *
  generalize K ||| maskB o m = K2 at *
  generalize takeB X 0 n false = F at *
  generalize takeB X 0 n true = T at *
  generalize maskB b n = M1 at *
  generalize maskB o m = M2 at *
  go_enter Try.func6, Try.ntmps6
  go_wp2_with fail
  refine c1.mono ?_; rintro r w' ⟨rfl, hw⟩; rw [hw]; clear hw w' c1
  go_wp2_with fail
  refine c2.mono ?_; rintro r w' ⟨rfl, hw⟩; rw [hw]; clear hw w' c2
  go_wp2_with fail
  refine (num_c _ _).mono ?_; rintro r w' ⟨rfl, hw⟩; rw [hw]; clear hw w'
  go_wp2_with fail
  refine (num_c _ _).mono ?_; rintro r w' ⟨rfl, hw⟩; rw [hw]; clear hw w'
  go_wp2_with fail
  refine p1.mono ?_; rintro r w' ⟨rfl, hw⟩; rw [hw]; clear hw w' p1
  go_wp2_with fail
  refine p2.mono ?_; rintro r w' ⟨rfl, hw⟩; rw [hw]; clear hw w' p2
  go_wp2_with fail
  refine p3.mono ?_; rintro r w' ⟨rfl, hw⟩; rw [hw]; clear hw w' p3
  go_wp2_with fail
  refine p4.mono ?_; rintro r w' ⟨rfl, hw⟩; rw [hw]; clear hw w' p4
  iterate 4
    go_wp2_with fail
    refine (num_c _ _).mono ?_; rintro r w' ⟨rfl, hw⟩; rw [hw]; clear hw w'
  go_wp2_with fail
  refine k1.mono ?_; rintro r w' ⟨rfl, hw⟩; rw [hw]; clear hw w' k1
  go_wp2_with fail
  refine v1.mono ?_; rintro r w' ⟨rfl, hw⟩; rw [hw]; clear hw w' v1
  go_wp2_with fail
  refine v2.mono ?_; rintro r w' ⟨rfl, hw⟩; rw [hw]; clear hw w' v2
  go_wp2_with fail
  refine k2.mono ?_; rintro r w' ⟨rfl, hw⟩; rw [hw]; clear hw w' k2
  iterate 4
    go_wp2_with fail
    refine (num_c _ _).mono ?_; rintro r w' ⟨rfl, hw⟩; rw [hw]; clear hw w'
  go_wp2_with fail
  refine (heads_c _).mono ?_; rintro r w1 ⟨rfl, hb⟩
  have HB : Hid (Below _ _ w1) := hb
  clear hb
  go_wp2
  go_ret
  exact ⟨rfl, HB.out⟩
set_option maxRecDepth 20000 in
set_option maxHeartbeats 4000000 in
theorem walk_shared (V K X Y : BitVec 32) (b n o m : Nat) (w : World) (h1 : 1 ≤ n) (h2 : b + n ≤ 32) (g1 : 1 ≤ m) (g2 : o + m ≤ 32) (h : ¬ maskB b n &&& maskB o m = 0) :
    Calls Try.prog 6 #[.int .u32 V.toNat, .int .u32 K.toNat, .int .i64 b, .int .i64 n, .int .u32 X.toNat, .int .i64 o, .int .i64 m, .int .u32 Y.toNat] w fun e w' => e = .returned (.bool true) ∧ Below w.heap.size w w' := by
  have ht : (bits .and .u32 ((maskB b n).toNat : Int) ((maskB o m).toNat : Int) != 0) = true := by
    rw [and_int]
    simp only [bne_iff_ne, ne_eq]
    intro e
    apply h
    apply BitVec.eq_of_toNat_eq
    show _ = 0
    omega
  have c1 := Mask_yes b n w h1 h2
  have c2 := Mask_yes o m w g1 g2
  clear h h1 h2 g1 g2
  generalize maskB b n = M1 at *
  generalize maskB o m = M2 at *
  go_enter Try.func6, Try.ntmps6
  go_wp2_with fail
  refine c1.mono ?_; rintro r w' ⟨rfl, hw⟩; rw [hw]; clear hw w' c1
  go_wp2_with fail
  refine c2.mono ?_; rintro r w' ⟨rfl, hw⟩; rw [hw]; clear hw w' c2
  go_wp2_with fail
  refine (num_c _ _).mono ?_; rintro r w' ⟨rfl, hw⟩; rw [hw]; clear hw w'
  go_wp2_with fail
  refine (num_c _ _).mono ?_; rintro r w' ⟨rfl, hw⟩; rw [hw]; clear hw w'
  go_wp2_with fail
  refine (heads_c _).mono ?_; rintro r w1 ⟨rfl, hb⟩
  have HB : Hid (Below _ _ w1) := hb
  clear hb
  go_wp2
  go_ret
  exact ⟨rfl, HB.out⟩
set_option maxRecDepth 20000 in
set_option maxHeartbeats 4000000 in
theorem walk_none (v k x y b n o m : Int) (w : World) (M1 M2 e f : Int)
    (c1 : Calls Try.prog 7 #[.int .i64 b, .int .i64 n] w fun r w' => r = .returned (.tuple #[.int .u32 M1, .int .i64 e]) ∧ w' = w)
    (c2 : Calls Try.prog 7 #[.int .i64 o, .int .i64 m] w fun r w' => r = .returned (.tuple #[.int .u32 M2, .int .i64 f]) ∧ w' = w) (h : (e != 0) = true ∨ ((e != 0) = false ∧ (f != 0) = true)) :
    Calls Try.prog 6 #[.int .u32 v, .int .u32 k, .int .i64 b, .int .i64 n, .int .u32 x, .int .i64 o, .int .i64 m, .int .u32 y] w fun e w' => e = .returned (.bool true) ∧ Below w.heap.size w w' := by
  rcases h with h | ⟨h, g⟩
  · go_enter Try.func6, Try.ntmps6
    go_wp2_with fail
    refine c1.mono ?_; rintro r w' ⟨rfl, hw⟩; rw [hw]; clear hw w' c1
    go_wp2_with fail
    refine c2.mono ?_; rintro r w' ⟨rfl, hw⟩; rw [hw]; clear hw w' c2
    go_wp2_with fail
    refine (num_c _ _).mono ?_; rintro r w' ⟨rfl, hw⟩; rw [hw]; clear hw w'
    go_wp2_with fail
    refine (heads_c _).mono ?_; rintro r w1 ⟨rfl, hb⟩
    have HB : Hid (Below _ _ w1) := hb
    clear hb
    go_wp2
    go_ret
    exact ⟨rfl, HB.out⟩
  · go_enter Try.func6, Try.ntmps6
    go_wp2_with fail
    refine c1.mono ?_; rintro r w' ⟨rfl, hw⟩; rw [hw]; clear hw w' c1
    go_wp2_with fail
    refine c2.mono ?_; rintro r w' ⟨rfl, hw⟩; rw [hw]; clear hw w' c2
    go_wp2_with fail
    refine (num_c _ _).mono ?_; rintro r w' ⟨rfl, hw⟩; rw [hw]; clear hw w'
    go_wp2_with fail
    refine (num_c _ _).mono ?_; rintro r w' ⟨rfl, hw⟩; rw [hw]; clear hw w'
    go_wp2_with fail
    refine (heads_c _).mono ?_; rintro r w1 ⟨rfl, hb⟩
    have HB : Hid (Below _ _ w1) := hb
    clear hb
    go_wp2
    go_ret
    exact ⟨rfl, HB.out⟩
theorem walk (a0 : Int) (a1 : Int) (a2 : Int) (a3 : Int) (a4 : Int) (a5 : Int) (a6 : Int) (a7 : Int) (w0 : (Lit.int .u32 a0).wf = true) (w1 : (Lit.int .u32 a1).wf = true) (w2 : (Lit.int .i64 a2).wf = true) (w3 : (Lit.int .i64 a3).wf = true) (w4 : (Lit.int .u32 a4).wf = true) (w5 : (Lit.int .i64 a5).wf = true) (w6 : (Lit.int .i64 a6).wf = true) (w7 : (Lit.int .u32 a7).wf = true) (w : World) :
    Calls Try.prog 6 #[.int .u32 a0, .int .u32 a1, .int .i64 a2, .int .i64 a3, .int .u32 a4, .int .i64 a5, .int .i64 a6, .int .u32 a7] w fun e w' => e = .returned (.bool true) ∧ Below w.heap.size w w' := by
  obtain ⟨V, rfl⟩ := bv_of a0 w0
  obtain ⟨K, rfl⟩ := bv_of a1 w1
  obtain ⟨X, rfl⟩ := bv_of a4 w4
  obtain ⟨Y, rfl⟩ := bv_of a7 w7
  have hb2 := bounds_i64 w2
  have hb5 := bounds_i64 w5
  by_cases h : FOK a2 a3 32
  · obtain ⟨b, n, rfl, rfl, h1, h2⟩ := fok_nat (by decide) h
    by_cases g : FOK a5 a6 32
    · obtain ⟨o, m, rfl, rfl, g1, g2⟩ := fok_nat (by decide) g
      by_cases q : maskB b n &&& maskB o m = 0
      · exact walk_yes V K X Y b n o m w h1 h2 g1 g2 q
      · exact walk_shared V K X Y b n o m w h1 h2 g1 g2 q
    · exact walk_none _ _ _ _ _ _ _ _ w _ _ _ _ (Mask_yes b n w h1 h2) (Mask_no a5 a6 w (by omega) g) (.inr ⟨rfl, rfl⟩)
  · by_cases g : FOK a5 a6 32
    · obtain ⟨o, m, rfl, rfl, g1, g2⟩ := fok_nat (by decide) g
      exact walk_none _ _ _ _ _ _ _ _ w _ _ _ _ (Mask_no a2 a3 w (by omega) h) (Mask_yes o m w g1 g2) (.inl rfl)
    · exact walk_none _ _ _ _ _ _ _ _ w _ _ _ _ (Mask_no a2 a3 w (by omega) h) (Mask_no a5 a6 w (by omega) g) (.inl rfl)

set_option maxRecDepth 100000 in
theorem lifted (os : Os) (started : os.Started) (H : Type) (enc : TypeId × Value → H) :
    ReturnsInHanded {} Try.checked os 6 .any (Rows.fieldApartSpec.pre6 enc Try.prog Try.f6 Rows.fieldApartRow.domain false) (Rows.fieldApartSpec.post enc Try.prog Try.f6 false true false false) := by
  refine returnsInHanded_of_change (C := Try.checked) own started (by kernel_rfl) Try.func6
    (ChangeSpec.witness6 (enc := enc) (C := Try.checked) false ⟨#[], #[.int .u32 0, .int .u32 0, .int .i64 0, .int .i64 0, .int .u32 0, .int .i64 0, .int .i64 0, .int .u32 0], []⟩ 8 (by kernel_rfl) (by kernel_rfl) (by kernel_rfl) (by kernel_rfl)) ?_
  intro W base args ds gs before hval0 hW hcnd _
  have hval : ∀ (j : Nat) t v, Try.f6.params[j]? = some t → args[j]? = some v → Value.okWide Try.prog W .any base t v := hval0
  have hW' := hW
  obtain ⟨p, q, hA0, hV, rfl, hfz, hnd⟩ := hW
  have hA : DataW.TrodAll enc Try.prog W 0 (fun _ => true) true Try.f6.params.toList args.toList ds p := hA0
  rw [Try.params6] at hA hval
  obtain ⟨v0, vs0, d0, ds0, p0, q0, hargs, rfl, rfl, h0, r0⟩ := trodAll_cons hA
  obtain ⟨v1, vs1, d1, ds1, p1, q1, rfl, rfl, rfl, h1, r1⟩ := trodAll_cons r0
  obtain ⟨v2, vs2, d2, ds2, p2, q2, rfl, rfl, rfl, h2, r2⟩ := trodAll_cons r1
  obtain ⟨v3, vs3, d3, ds3, p3, q3, rfl, rfl, rfl, h3, r3⟩ := trodAll_cons r2
  obtain ⟨v4, vs4, d4, ds4, p4, q4, rfl, rfl, rfl, h4, r4⟩ := trodAll_cons r3
  obtain ⟨v5, vs5, d5, ds5, p5, q5, rfl, rfl, rfl, h5, r5⟩ := trodAll_cons r4
  obtain ⟨v6, vs6, d6, ds6, p6, q6, rfl, rfl, rfl, h6, r6⟩ := trodAll_cons r5
  obtain ⟨v7, vs7, d7, ds7, p7, q7, rfl, rfl, rfl, h7, r7⟩ := trodAll_cons r6
  obtain ⟨rfl, rfl, rfl⟩ := trodAll_nil r7
  obtain rfl : args = #[v0, v1, v2, v3, v4, v5, v6, v7] := by cases args; simp_all
  obtain ⟨rfl, rfl⟩ := trodVars_none hV
  obtain ⟨a0, rfl, rfl, rfl, w0⟩ := open_int Try.underlying22 (hval 0 22 v0 rfl rfl) h0
  obtain ⟨a1, rfl, rfl, rfl, w1⟩ := open_int Try.underlying22 (hval 1 22 v1 rfl rfl) h1
  obtain ⟨a2, rfl, rfl, rfl, w2⟩ := open_int Try.underlying3 (hval 2 3 v2 rfl rfl) h2
  obtain ⟨a3, rfl, rfl, rfl, w3⟩ := open_int Try.underlying3 (hval 3 3 v3 rfl rfl) h3
  obtain ⟨a4, rfl, rfl, rfl, w4⟩ := open_int Try.underlying22 (hval 4 22 v4 rfl rfl) h4
  obtain ⟨a5, rfl, rfl, rfl, w5⟩ := open_int Try.underlying3 (hval 5 3 v5 rfl rfl) h5
  obtain ⟨a6, rfl, rfl, rfl, w6⟩ := open_int Try.underlying3 (hval 6 3 v6 rfl rfl) h6
  obtain ⟨a7, rfl, rfl, rfl, w7⟩ := open_int Try.underlying22 (hval 7 22 v7 rfl rfl) h7
  clear hA0 hval0
  simp only [List.append_nil] at hW'
  refine (walk a0 a1 a2 a3 a4 a5 a6 a7 w0 w1 w2 w3 w4 w5 w6 w7 W).mono fun e W' ⟨he, hg⟩ => ?_
  subst he
  exact ⟨_, rfl, _, _, _, [], _, [], hW', trodAll_mk1 (shut_bool Try.underlying4 _), (trodAll_cons_mk (shut_int Try.underlying22 w0) (trodAll_cons_mk (shut_int Try.underlying22 w1) (trodAll_cons_mk (shut_int Try.underlying3 w2) (trodAll_cons_mk (shut_int Try.underlying3 w3) (trodAll_cons_mk (shut_int Try.underlying22 w4) (trodAll_cons_mk (shut_int Try.underlying3 w5) (trodAll_cons_mk (shut_int Try.underlying3 w6) (trodAll_cons_mk (shut_int Try.underlying22 w7) trodAll_mk0)))))))), rfl, hg.frame _, fun h => by cases h⟩

theorem over : Rows.fieldApartRow.holds Try.pinned (OpenSpec.ofChange Rows.fieldApartSpec) :=
  OpenClaim.holds_of_wide 6 Try.f6 rfl rfl rfl rfl rfl rfl rfl ⟨rfl, rfl, rfl, rfl, rfl⟩ rfl rfl rfl rfl rfl (by kernel_rfl) Try.func6 (by kernel_rfl)
    (of_decide_eq_true (by kernel_rfl)) (by unfold Func.isWrapper; first | (rw [if_pos (by decide +kernel)]; kernel_rfl) | (rw [if_neg (by decide +kernel)]; exact ⟨rfl, rfl⟩))
    (fun os started H enc _ => lifted os started H enc)

theorem proved : Rows.FieldApartSaid :=
  over
end Go.Proofs.Ytmdgnjadfdnibaa.fieldApart
namespace Go.Proofs.Ytmdgnjadfdnibaa
theorem fieldApart_holds : Rows.FieldApartSaid := fieldApart.proved
#print axioms fieldApart_holds
end Go.Proofs.Ytmdgnjadfdnibaa
