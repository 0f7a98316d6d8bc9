/-
  The law FieldUnits returns true at every unit, known bits, field and number, and each argument reads afterwards as before. No condition beyond the given statement's own.
-/
import Derived.Test.YtmdgnjadfdnibaaRows
import Derived.Test.YtmdgnjadfdnibaaFdR
import Derived.Test.YtmdgnjadfdnibaaFdH
import Derived.ProofKit
import Derived.OpenShut
namespace Go.Proofs.Ytmdgnjadfdnibaa.fieldUnits
open Go.ChangeShapes Go.WideShapes Go.ChangeAt Go.RowKit
set_option linter.unusedVariables false
theorem own : ownKnob Try.prog.godebug = none := by kernel_rfl

theorem bv_of (a : Int) (h : (Lit.int .u32 a).wf = true) : ∃ A : BitVec 32, a = (A.toNat : Int) := by
  have := bounds_u32 h
  refine ⟨BitVec.ofNat 32 a.toNat, ?_⟩
  rw [BitVec.toNat_ofNat]
  omega
set_option maxHeartbeats 4000000 in
theorem walk_of (V K X : BitVec 32) (b n : Int) (w : World) (M e : Int) (G : Int) (ok : Bool) (f : Int) (P Q h : Int)
    (c1 : ∀ w, Calls Try.prog 7 #[.int .i64 b, .int .i64 n] w fun r w' => r = .returned (.tuple #[.int .u32 M, .int .i64 e]) ∧ w' = w)
    (c2 : ∀ w, Calls Try.prog 8 #[.int .i64 b, .int .i64 n] w fun r w' => r = .returned (.tuple #[.int .u32 M, .int .i64 e]) ∧ w' = w)
    (c3 : ∀ w s, s = (bits .and .u32 (X.toNat : Int) 1 == 1) → Calls Try.prog 9 #[.int .u32 V.toNat, .int .u32 K.toNat, .int .i64 b, .int .i64 n, .bool s] w fun r w' => r = .returned (.tuple #[.int .u32 G, .bool ok, .int .i64 f]) ∧ w' = w)
    (c4 : ∀ w s, s = (bits .and .u32 (X.toNat : Int) 1 == 1) → Calls Try.prog 10 #[.int .u32 V.toNat, .int .u32 K.toNat, .int .i64 b, .int .i64 n, .bool s] w fun r w' => r = .returned (.tuple #[.int .u32 G, .bool ok, .int .i64 f]) ∧ w' = w)
    (c5 : ∀ w, Calls Try.prog 11 #[.int .u32 V.toNat, .int .u32 K.toNat, .int .i64 b, .int .i64 n, .int .u32 X.toNat] w fun r w' => r = .returned (.tuple #[.int .u32 P, .int .u32 Q, .int .i64 h]) ∧ w' = w)
    (c6 : ∀ w, Calls Try.prog 12 #[.int .u32 V.toNat, .int .u32 K.toNat, .int .i64 b, .int .i64 n, .int .u32 X.toNat] w fun r w' => r = .returned (.tuple #[.int .u32 P, .int .u32 Q, .int .i64 h]) ∧ w' = w) :
    Calls Try.prog 3 #[.int .u32 V.toNat, .int .u32 K.toNat, .int .i64 b, .int .i64 n, .int .u32 X.toNat] w fun e w' => e = .returned (.bool true) ∧ Below w.heap.size w w' := by
  go_enter Try.func3, Try.ntmps3
  go_wp2_with fail
  refine (c1 _).mono ?_; rintro r w' ⟨rfl, hw⟩; rw [hw]; clear hw w' c1
  go_wp2_with fail
  refine (c2 _).mono ?_; rintro r w' ⟨rfl, hw⟩; rw [hw]; clear hw w' c2
  go_wp2_with fail
  refine (c3 _ _ rfl).mono ?_; rintro r w' ⟨rfl, hw⟩; rw [hw]; clear hw w' c3
  go_wp2_with fail
  refine (c4 _ _ rfl).mono ?_; rintro r w' ⟨rfl, hw⟩; rw [hw]; clear hw w' c4
  go_wp2_with fail
  refine (c5 _).mono ?_; rintro r w' ⟨rfl, hw⟩; rw [hw]; clear hw w' c5
  go_wp2_with fail
  refine (c6 _).mono ?_; rintro r w' ⟨rfl, hw⟩; rw [hw]; clear hw w' c6
  go_wp2_with (first | (go_at_call 13; refine (num_c _ _).mono ?_; rintro e w' ⟨rfl, hw⟩; rw [hw]; clear hw w') | (go_at_call 14; refine (heads_c _).mono ?_; rintro r w1 ⟨rfl, hb⟩; have HB : Hid (Below _ _ w1) := hb; clear hb))
  go_ret
  exact ⟨rfl, HB.out⟩
theorem walk (a0 : Int) (a1 : Int) (a2 : Int) (a3 : Int) (a4 : Int) (w0 : (Lit.int .u32 a0).wf = true) (w1 : (Lit.int .u32 a1).wf = true) (w2 : (Lit.int .i64 a2).wf = true) (w3 : (Lit.int .i64 a3).wf = true) (w4 : (Lit.int .u32 a4).wf = true) (w : World) :
    Calls Try.prog 3 #[.int .u32 a0, .int .u32 a1, .int .i64 a2, .int .i64 a3, .int .u32 a4] w fun e w' => e = .returned (.bool true) ∧ Below w.heap.size w w' := by
  obtain ⟨V, rfl⟩ := bv_of a0 w0
  obtain ⟨K, rfl⟩ := bv_of a1 w1
  obtain ⟨X, rfl⟩ := bv_of a4 w4
  have hb2 := bounds_i64 w2
  by_cases h : FOK a2 a3 32
  · obtain ⟨b, n, rfl, rfl, h1, h2⟩ := fok_nat (by decide) h
    by_cases g : knows K b n
    · exact walk_of V K X b n w _ _ _ _ _ _ _ _ (fun w => Mask_yes b n w h1 h2) (fun w => rMask_yes b n w h1 h2) (fun w s hs => by rw [hs]; exact Get_yes V K b n _ w h1 h2 g) (fun w s hs => by rw [hs]; exact rGet_yes V K b n _ w h1 h2 g) (fun w => Put_yes V K X b n w h1 h2) (fun w => rPut_yes V K X b n w h1 h2)
    · exact walk_of V K X b n w _ _ _ _ _ _ _ _ (fun w => Mask_yes b n w h1 h2) (fun w => rMask_yes b n w h1 h2) (fun w s hs => by rw [hs]; exact Get_unknown V K b n _ w h1 h2 g) (fun w s hs => by rw [hs]; exact rGet_unknown V K b n _ w h1 h2 g) (fun w => Put_yes V K X b n w h1 h2) (fun w => rPut_yes V K X b n w h1 h2)
  · exact walk_of V K X a2 a3 w _ _ _ _ _ _ _ _ (fun w => Mask_no a2 a3 w (by omega) h) (fun w => rMask_no a2 a3 w h) (fun w s hs => by rw [hs]; exact Get_no V K a2 a3 _ w (by omega) h) (fun w s hs => by rw [hs]; exact rGet_no V K a2 a3 _ w h) (fun w => Put_no V K X a2 a3 w (by omega) h) (fun w => rPut_no V K X a2 a3 w h)

set_option maxRecDepth 100000 in
theorem lifted (os : Os) (started : os.Started) (H : Type) (enc : TypeId × Value → H) :
    ReturnsInHanded {} Try.checked os 3 .any (Rows.fieldUnitsSpec.pre6 enc Try.prog Try.f3 Rows.fieldUnitsRow.domain false) (Rows.fieldUnitsSpec.post enc Try.prog Try.f3 false true false false) := by
  refine returnsInHanded_of_change (C := Try.checked) own started (by kernel_rfl) Try.func3
    (ChangeSpec.witness6 (enc := enc) (C := Try.checked) false ⟨#[], #[.int .u32 0, .int .u32 0, .int .i64 0, .int .i64 0, .int .u32 0], []⟩ 8 (by kernel_rfl) (by kernel_rfl) (by kernel_rfl) (by kernel_rfl)) ?_
  intro W base args ds gs before hval0 hW hcnd _
  have hval : ∀ (j : Nat) t v, Try.f3.params[j]? = some t → args[j]? = some v → Value.okWide Try.prog W .any base t v := hval0
  have hW' := hW
  obtain ⟨p, q, hA0, hV, rfl, hfz, hnd⟩ := hW
  have hA : DataW.TrodAll enc Try.prog W 0 (fun _ => true) true Try.f3.params.toList args.toList ds p := hA0
  rw [Try.params3] at hA hval
  obtain ⟨v0, vs0, d0, ds0, p0, q0, hargs, rfl, rfl, h0, r0⟩ := trodAll_cons hA
  obtain ⟨v1, vs1, d1, ds1, p1, q1, rfl, rfl, rfl, h1, r1⟩ := trodAll_cons r0
  obtain ⟨v2, vs2, d2, ds2, p2, q2, rfl, rfl, rfl, h2, r2⟩ := trodAll_cons r1
  obtain ⟨v3, vs3, d3, ds3, p3, q3, rfl, rfl, rfl, h3, r3⟩ := trodAll_cons r2
  obtain ⟨v4, vs4, d4, ds4, p4, q4, rfl, rfl, rfl, h4, r4⟩ := trodAll_cons r3
  obtain ⟨rfl, rfl, rfl⟩ := trodAll_nil r4
  obtain rfl : args = #[v0, v1, v2, v3, v4] := by cases args; simp_all
  obtain ⟨rfl, rfl⟩ := trodVars_none hV
  obtain ⟨a0, rfl, rfl, rfl, w0⟩ := open_int Try.underlying22 (hval 0 22 v0 rfl rfl) h0
  obtain ⟨a1, rfl, rfl, rfl, w1⟩ := open_int Try.underlying22 (hval 1 22 v1 rfl rfl) h1
  obtain ⟨a2, rfl, rfl, rfl, w2⟩ := open_int Try.underlying3 (hval 2 3 v2 rfl rfl) h2
  obtain ⟨a3, rfl, rfl, rfl, w3⟩ := open_int Try.underlying3 (hval 3 3 v3 rfl rfl) h3
  obtain ⟨a4, rfl, rfl, rfl, w4⟩ := open_int Try.underlying22 (hval 4 22 v4 rfl rfl) h4
  clear hA0 hval0
  simp only [List.append_nil] at hW'
  refine (walk a0 a1 a2 a3 a4 w0 w1 w2 w3 w4 W).mono fun e W' ⟨he, hg⟩ => ?_
  subst he
  exact ⟨_, rfl, _, _, _, [], _, [], hW', trodAll_mk1 (shut_bool Try.underlying4 _), (trodAll_cons_mk (shut_int Try.underlying22 w0) (trodAll_cons_mk (shut_int Try.underlying22 w1) (trodAll_cons_mk (shut_int Try.underlying3 w2) (trodAll_cons_mk (shut_int Try.underlying3 w3) (trodAll_cons_mk (shut_int Try.underlying22 w4) trodAll_mk0))))), rfl, hg.frame _, fun h => by cases h⟩

theorem over : Rows.fieldUnitsRow.holds Try.pinned (OpenSpec.ofChange Rows.fieldUnitsSpec) :=
  OpenClaim.holds_of_wide 3 Try.f3 rfl rfl rfl rfl rfl rfl rfl ⟨rfl, rfl, rfl, rfl, rfl⟩ rfl rfl rfl rfl rfl (by kernel_rfl) Try.func3 (by kernel_rfl)
    (of_decide_eq_true (by kernel_rfl)) (by unfold Func.isWrapper; first | (rw [if_pos (by decide +kernel)]; kernel_rfl) | (rw [if_neg (by decide +kernel)]; exact ⟨rfl, rfl⟩))
    (fun os started H enc _ => lifted os started H enc)

theorem proved : Rows.FieldUnitsSaid :=
  over
end Go.Proofs.Ytmdgnjadfdnibaa.fieldUnits
namespace Go.Proofs.Ytmdgnjadfdnibaa
theorem fieldUnits_holds : Rows.FieldUnitsSaid := fieldUnits.proved
#print axioms fieldUnits_holds
end Go.Proofs.Ytmdgnjadfdnibaa
