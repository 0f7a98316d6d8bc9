/-
  The law ConvEven's own walk.
-/
import Derived.Test.YtpnpilbmhkiphaaGreatDoorGHeads
import Derived.Test.YtpnpilbmhkiphaaGreatDoorGAsg
import Derived.Test.YtpnpilbmhkiphaaGreatDoorGDuo
namespace Go.Proofs.YtpnpilbmhkiphaaGreatDoor
open Go.RowKit Go.Maps
set_option linter.unusedVariables false
set_option maxRecDepth 100000

def scalK (k : Int) : Bool := decide (1 < k) && decide (k ≤ 13)
section
variable {w : World} {b rb : Nat} {v rv : Value} {rs rs2 : List (Rw × Value)}
theorem rScalar_c (h : RT w b v rs) (id : Int) :
    Calls Tryz.prog 23 #[.pointer (some ⟨b, 0, none⟩), .int .i64 id] w fun e w' => e = .returned (.bool (scalK (kindP rs id))) ∧ w' = w := by
  have c := rKind_c h id
  generalize kindP rs id = k at *
  go_enter Tryz.func23, Tryz.ntmps23
  go_wp2_with (go_at_call 20; refine c.mono ?_; rintro e w' ⟨rfl, rfl⟩)
  all_goals go_ret
  all_goals refine ⟨bool_ret ?_, rfl⟩
  all_goals (rw [Bool.eq_iff_iff]; simp [scalK] <;> omega)
theorem common_sym (a b : Int) : commonP a b = commonP b a := by
  unfold commonP
  rw [Int.max_comm, Int.min_comm]
theorem usual_sym (a b : Int) : usualP a b = usualP b a := common_sym _ _
theorem common_four {a b : Int} (ha : four a) (hb : four b) : four (commonP a b) := by
  rcases ha with rfl | rfl | rfl | rfl <;> rcases hb with rfl | rfl | rfl | rfl <;> (unfold four; decide)
theorem usual_four {a b : Int} (ha : intK a = true) (hb : intK b = true) : four (usualP a b) := common_four (prom_four ha) (prom_four hb)
theorem usual_self {a : Int} (ha : intK a = true) : usualP a a = promP a (-1) := by
  unfold usualP
  rcases prom_four ha with h | h | h | h <;> rw [h] <;> decide
theorem assign_cast {i1 k1 e1 : Int} {d1 : Bool} {i2 k2 e2 : Int} (h : assignP i1 k1 e1 d1 i2 k2 e2 = true) : castP k1 k2 = true ∨ recK k1 = true := by
  unfold assignP relP at h
  simp only [Bool.or_eq_true, Bool.and_eq_true] at h
  rcases h with (h | h) | h
  · left; unfold castP; simp [h.1, h.2]
  · left; unfold castP; simp only [h.1.1, h.1.2]; simp
  · right; unfold recK; simpa using h.1.2
theorem assign_self {i k e : Int} {d : Bool} (h : scalK k = true) : assignP i k e d i k e = true := by
  have hk : 1 < k ∧ k ≤ 13 := by simpa [scalK] using h
  unfold assignP relP
  by_cases h13 : k = 13
  · subst h13; simp
  · have : intK k = true := by simp [intK]; omega
    simp [this]
set_option maxHeartbeats 16000000 in
theorem convEven_c {v : Value} {rs : List (Rw × Value)} (h : RowIn w v rs) (hl : rs.length * 72 ≤ 140737488355328) (hO : ∀ p ∈ rs, Okay p.1) (x y : Int) (hN : W.NamesIn w) (hz : 0 < w.heap.size) :
    Calls Tryz.prog 4 #[v, .int .i64 x, .int .i64 y] w fun e w' => e = .returned (.bool true) ∧ Below w.heap.size w w' := by
  have cB := both_c h hl hO
  have HN : Hid (W.NamesIn w) := hN
  have HH : Hid (∀ Y, Below w.heap.size w Y → Calls Tryz.prog 6 #[] Y fun e w' => e = .returned (.bool true) ∧ Below Y.heap.size Y w') := fun Y hY => cHeads_c Y (names_b hN hz hY) (Nat.lt_of_lt_of_le hz hY.size)
  have nt := not_t
  have nf := not_f
  clear h hl hO hN
  go_enter Tryz.func4, Tryz.ntmps4
  go_wp2_with fail
  refine cB.mono ?_
  rintro e w1 ⟨rfl | ⟨b, mb, tv, trs, rb, rv, rrs, rfl, hD⟩, hb1⟩
  · have H1 : Hid (Below w.heap.size w w1) := hb1
    clear hb1 cB
    go_wp2_with fail
    refine (HH.out _ H1.out).mono ?_
    rintro e w2 ⟨rfl, hb2⟩
    have H2 : Hid (Below w.heap.size w w2) := H1.out.trans (hb2.mono H1.out.size)
    clear hb2
    go_wp2
    go_ret
    exact ⟨rfl, H2.out⟩
  have H1 : Hid (Below w.heap.size w w1) := hb1
  have HD : Hid (Duo w.heap.size w1 b mb tv trs rb rv rrs) := hD
  have hl2 := hD.len2
  have cHx := fun Y (hY : Below w1.heap.size w1 Y) => rHas_c (hD.below hY).rt x
  have cHy := fun Y (hY : Below w1.heap.size w1 Y) => rHas_c (hD.below hY).rt y
  rw [hl2] at cHx cHy
  clear hb1 cB hD
  cases hx : hasP trs.length x with
  | false =>
    rw [hx] at cHx
    go_wp2_with fail
    refine (cHx _ (Below.refl _ _)).mono ?_
    rintro e w' ⟨rfl, hw⟩
    rw [hw]
    clear hw w' cHx cHy
    go_wp2_with fail
    refine (HH.out _ H1.out).mono ?_
    rintro e w2 ⟨rfl, hb2⟩
    have H2 : Hid (Below w.heap.size w w2) := H1.out.trans (hb2.mono H1.out.size)
    clear hb2
    go_wp2
    go_ret
    exact ⟨rfl, H2.out⟩
  | true =>
  rw [hx] at cHx
  cases hy : hasP trs.length y with
  | false =>
    rw [hy] at cHy
    go_wp2_with fail
    refine (cHx _ (Below.refl _ _)).mono ?_
    rintro e w' ⟨rfl, hw⟩
    rw [hw]
    clear hw w' cHx
    go_wp2_with fail
    refine (cHy _ (Below.refl _ _)).mono ?_
    rintro e w' ⟨rfl, hw⟩
    rw [hw]
    clear hw w' cHy
    go_wp2_with fail
    refine (HH.out _ H1.out).mono ?_
    rintro e w2 ⟨rfl, hb2⟩
    have H2 : Hid (Below w.heap.size w w2) := H1.out.trans (hb2.mono H1.out.size)
    clear hb2
    go_wp2
    go_ret
    exact ⟨rfl, H2.out⟩
  | true =>
  rw [hy] at cHy
  obtain ⟨i, rfl⟩ : ∃ i : Nat, x = i := ⟨x.toNat, by simp [hasP] at hx; omega⟩
  obtain ⟨j, rfl⟩ : ∃ j : Nat, y = j := ⟨y.toNat, by simp [hasP] at hy; omega⟩
  obtain ⟨p, hp⟩ : ∃ p, trs[i]? = some p := ⟨_, List.getElem?_eq_getElem (by simp [hasP] at hx; omega)⟩
  obtain ⟨q, hq⟩ : ∃ q, trs[j]? = some q := ⟨_, List.getElem?_eq_getElem (by simp [hasP] at hy; omega)⟩
  have cKx := fun Y (hY : Below w1.heap.size w1 Y) => rKind_c (HD.out.below hY).rt i
  have cKy := fun Y (hY : Below w1.heap.size w1 Y) => rKind_c (HD.out.below hY).rt j
  have cIx := fun Y (hY : Below w1.heap.size w1 Y) => rInteger_c (HD.out.below hY).rt i
  have cIy := fun Y (hY : Below w1.heap.size w1 Y) => rInteger_c (HD.out.below hY).rt j
  have cSx := fun Y (hY : Below w1.heap.size w1 Y) => rScalar_c (HD.out.below hY).rt i
  have cRx := fun Y (hY : Below w1.heap.size w1 Y) => rRecord_c (HD.out.below hY).rt i
  rw [kindP_fst HD.out.same, kindP_some hp] at cKx cIx cSx cRx
  rw [kindP_fst HD.out.same, kindP_some hq] at cKy cIy
  have HAA : Hid (∀ Y, Below w1.heap.size w1 Y → Calls Tryz.prog 13 #[.pointer (some ⟨b, 0, none⟩), .int .i64 i, .int .i64 i] Y fun e w' => e = .returned (.int .i64 (if assignP i p.1.kind p.1.elem p.1.done i p.1.kind p.1.elem then 0 else 70)) ∧ Below Y.heap.size Y w') := fun Y hY =>
    assign_of (w := Y) (pair_of (w := Y) (fun Z hZ => operandOf_c ((HD.out.below hY).tab.keptB hZ) HD.out.small hp) (fun Z hZ => operandOf_c ((HD.out.below hY).tab.keptB hZ) HD.out.small hp))
  have HAB : Hid (∀ Y, Below w1.heap.size w1 Y → Calls Tryz.prog 13 #[.pointer (some ⟨b, 0, none⟩), .int .i64 i, .int .i64 j] Y fun e w' => e = .returned (.int .i64 (if assignP i p.1.kind p.1.elem p.1.done j q.1.kind q.1.elem then 0 else 70)) ∧ Below Y.heap.size Y w') := fun Y hY =>
    assign_of (w := Y) (pair_of (w := Y) (fun Z hZ => operandOf_c ((HD.out.below hY).tab.keptB hZ) HD.out.small hp) (fun Z hZ => operandOf_c ((HD.out.below hY).tab.keptB hZ) HD.out.small hq))
  have HCB : Hid (∀ Y, Below w1.heap.size w1 Y → Calls Tryz.prog 15 #[.pointer (some ⟨b, 0, none⟩), .int .i64 i, .int .i64 j] Y fun e w' => e = .returned (.int .i64 (if castP p.1.kind q.1.kind then 0 else 70)) ∧ Below Y.heap.size Y w') := fun Y hY =>
    cast_of (w := Y) (pair_of (w := Y) (fun Z hZ => operandOf_c ((HD.out.below hY).tab.keptB hZ) HD.out.small hp) (fun Z hZ => operandOf_c ((HD.out.below hY).tab.keptB hZ) HD.out.small hq))
  have hbi : intK p.1.kind = true → intK q.1.kind = true → assignP i p.1.kind p.1.elem p.1.done j q.1.kind q.1.elem = true := fun h1 h2 => by simp [assignP, h1, h2]
  have hbn : intK p.1.kind = true → intK q.1.kind = false → assignP i p.1.kind p.1.elem p.1.done j q.1.kind q.1.elem = false := fun h1 h2 => by
    have : 2 ≤ p.1.kind ∧ p.1.kind ≤ 12 := by simpa [intK] using h1
    have e1 : (p.1.kind == 13) = false := beq_eq_false_iff_ne.2 (by omega)
    have e2 : (p.1.kind == 15) = false := beq_eq_false_iff_ne.2 (by omega)
    have e3 : (p.1.kind == 16) = false := beq_eq_false_iff_ne.2 (by omega)
    simp [assignP, relP, h2, e1, e2, e3]
  have hself := @assign_self i p.1.kind p.1.elem p.1.done
  have hcast := @assign_cast i p.1.kind p.1.elem p.1.done j q.1.kind q.1.elem
  have cU1 := fun Y => cUsual_c p.1.kind q.1.kind Y
  have cU2 := fun Y => cUsual_c q.1.kind p.1.kind Y
  have cU3 := fun Y => cUsual_c p.1.kind p.1.kind Y
  have cP3 := fun Y => cPromote_c p.1.kind (-1) Y
  generalize hAA : assignP i p.1.kind p.1.elem p.1.done i p.1.kind p.1.elem = sa at *
  generalize hAB : assignP i p.1.kind p.1.elem p.1.done j q.1.kind q.1.elem = sb at *
  generalize p.1.kind = ka at *
  generalize q.1.kind = kb at *
  clear hp hq hx hy hAA hAB HD hl2
  go_wp2_with fail
  refine (cHx _ (Below.refl _ _)).mono ?_
  rintro e w' ⟨rfl, hw⟩
  rw [hw]
  clear hw w' cHx
  go_wp2_with fail
  refine (cHy _ (Below.refl _ _)).mono ?_
  rintro e w' ⟨rfl, hw⟩
  rw [hw]
  clear hw w' cHy
  cases hi : intK ka with
  | true =>
    have hsc : scalK ka = true := by
      have : 2 ≤ ka ∧ ka ≤ 12 := by simpa [intK] using hi
      simp [scalK]; omega
    obtain rfl : sa = true := hself hsc
    have hs3 := usual_self hi
    rw [usual_yes hi hi, show commonP (promP ka (-1)) (promP ka (-1)) = promP ka (-1) from hs3] at cU3
    rw [hi] at cIx
    rw [hsc] at cSx
    cases hj : intK kb with
    | true =>
      have h4 := usual_four hi hj
      have hsy := usual_sym kb ka
      rw [usual_yes hi hj] at cU1
      rw [usual_yes hj hi, show commonP (promP kb (-1)) (promP ka (-1)) = commonP (promP ka (-1)) (promP kb (-1)) from hsy] at cU2
      rw [hj] at cIy
      have h4' : four (commonP (promP ka (-1)) (promP kb (-1))) := h4
      generalize commonP (promP ka (-1)) (promP kb (-1)) = u at *
      generalize promP ka (-1) = pr at *
      obtain rfl : sb = true := hbi hi hj
      have hcs : castP ka kb = true := by simp [castP, hi, hj]
      rw [hcs] at HCB
      have HCB' : Hid (∀ Y, Below w1.heap.size w1 Y → Calls Tryz.prog 15 #[.pointer (some ⟨b, 0, none⟩), .int .i64 i, .int .i64 j] Y fun e w' => e = .returned (.int .i64 0) ∧ Below Y.heap.size Y w') := HCB.out
      have HAA' : Hid (∀ Y, Below w1.heap.size w1 Y → Calls Tryz.prog 13 #[.pointer (some ⟨b, 0, none⟩), .int .i64 i, .int .i64 i] Y fun e w' => e = .returned (.int .i64 0) ∧ Below Y.heap.size Y w') := HAA.out
      have HAB' : Hid (∀ Y, Below w1.heap.size w1 Y → Calls Tryz.prog 13 #[.pointer (some ⟨b, 0, none⟩), .int .i64 i, .int .i64 j] Y fun e w' => e = .returned (.int .i64 0) ∧ Below Y.heap.size Y w') := HAB.out
      clear HAA HAB HCB hself hcast hbi hbn hsc hs3 hcs h4 hsy hi hj
      rcases h4' with rfl | rfl | rfl | rfl
      all_goals
        go_wp2_with fail
        refine (cKx _ (Below.refl _ _)).mono ?_
        rintro e w' ⟨rfl, hw⟩
        rw [hw]
        clear hw w'
        go_wp2_with fail
        refine (cKy _ (Below.refl _ _)).mono ?_
        rintro e w' ⟨rfl, hw⟩
        rw [hw]
        clear hw w'
        go_wp2_with fail
        refine (cU1 _).mono ?_
        rintro e w' ⟨rfl, hw⟩
        rw [hw]
        clear hw w'
        go_wp2_with fail
        refine (cKy _ (Below.refl _ _)).mono ?_
        rintro e w' ⟨rfl, hw⟩
        rw [hw]
        clear hw w'
        go_wp2_with fail
        refine (cKx _ (Below.refl _ _)).mono ?_
        rintro e w' ⟨rfl, hw⟩
        rw [hw]
        clear hw w'
        go_wp2_with fail
        refine (cU2 _).mono ?_
        rintro e w' ⟨rfl, hw⟩
        rw [hw]
        clear hw w'
        go_wp2_with fail
        refine (cIx _ (Below.refl _ _)).mono ?_
        rintro e w' ⟨rfl, hw⟩
        rw [hw]
        clear hw w'
        go_wp2_with fail
        refine (cIy _ (Below.refl _ _)).mono ?_
        rintro e w' ⟨rfl, hw⟩
        rw [hw]
        clear hw w'
        go_wp2_with fail
        refine (cIx _ (Below.refl _ _)).mono ?_
        rintro e w' ⟨rfl, hw⟩
        rw [hw]
        clear hw w'
        go_wp2_with fail
        refine (cKx _ (Below.refl _ _)).mono ?_
        rintro e w' ⟨rfl, hw⟩
        rw [hw]
        clear hw w'
        go_wp2_with fail
        refine (cKx _ (Below.refl _ _)).mono ?_
        rintro e w' ⟨rfl, hw⟩
        rw [hw]
        clear hw w'
        go_wp2_with fail
        refine (cU3 _).mono ?_
        rintro e w' ⟨rfl, hw⟩
        rw [hw]
        clear hw w'
        go_wp2_with fail
        refine (cKx _ (Below.refl _ _)).mono ?_
        rintro e w' ⟨rfl, hw⟩
        rw [hw]
        clear hw w'
        go_wp2_with fail
        refine (cP3 _).mono ?_
        rintro e w' ⟨rfl, hw⟩
        rw [hw]
        clear hw w'
        go_wp2_with fail
        refine (cSx _ (Below.refl _ _)).mono ?_
        rintro e w' ⟨rfl, hw⟩
        rw [hw]
        clear hw w'
        go_wp2_with fail
        refine (HAA'.out _ (Below.refl _ _)).mono ?_
        rintro e w2 ⟨rfl, hb⟩
        have Hw2 : Hid (Below w1.heap.size w1 w2) := hb
        clear hb
        go_wp2_with fail
        refine (HAB'.out _ Hw2.out).mono ?_
        rintro e w3 ⟨rfl, hb⟩
        have Hw3 : Hid (Below w1.heap.size w1 w3) := Hw2.out.trans (hb.mono Hw2.out.size)
        clear hb
        go_wp2_with fail
        refine (HCB'.out _ Hw3.out).mono ?_
        rintro e w4 ⟨rfl, hb⟩
        have Hw4 : Hid (Below w1.heap.size w1 w4) := Hw3.out.trans (hb.mono Hw3.out.size)
        clear hb
        have HF : Hid (Below w.heap.size w w4) := H1.out.trans (Hw4.out.mono H1.out.size)
        go_wp2_with fail
        refine (HH.out _ HF.out).mono ?_
        rintro e w9 ⟨rfl, hb9⟩
        have H9 : Hid (Below w.heap.size w w9) := HF.out.trans (hb9.mono HF.out.size)
        clear hb9
        go_wp2
        go_ret
        exact ⟨rfl, H9.out⟩
    | false =>
      rw [usual_no ka kb (by simp [hj])] at cU1
      rw [usual_no kb ka (by simp [hj])] at cU2
      rw [hj] at cIy
      generalize promP ka (-1) = pr at *
      obtain rfl : sb = false := hbn hi hj
      have HAA' : Hid (∀ Y, Below w1.heap.size w1 Y → Calls Tryz.prog 13 #[.pointer (some ⟨b, 0, none⟩), .int .i64 i, .int .i64 i] Y fun e w' => e = .returned (.int .i64 0) ∧ Below Y.heap.size Y w') := HAA.out
      have HAB' : Hid (∀ Y, Below w1.heap.size w1 Y → Calls Tryz.prog 13 #[.pointer (some ⟨b, 0, none⟩), .int .i64 i, .int .i64 j] Y fun e w' => e = .returned (.int .i64 70) ∧ Below Y.heap.size Y w') := HAB.out
      clear HAA HAB HCB hself hcast hbi hbn hsc hs3 hi hj
      go_wp2_with fail
      refine (cKx _ (Below.refl _ _)).mono ?_
      rintro e w' ⟨rfl, hw⟩
      rw [hw]
      clear hw w'
      go_wp2_with fail
      refine (cKy _ (Below.refl _ _)).mono ?_
      rintro e w' ⟨rfl, hw⟩
      rw [hw]
      clear hw w'
      go_wp2_with fail
      refine (cU1 _).mono ?_
      rintro e w' ⟨rfl, hw⟩
      rw [hw]
      clear hw w'
      go_wp2_with fail
      refine (cKy _ (Below.refl _ _)).mono ?_
      rintro e w' ⟨rfl, hw⟩
      rw [hw]
      clear hw w'
      go_wp2_with fail
      refine (cKx _ (Below.refl _ _)).mono ?_
      rintro e w' ⟨rfl, hw⟩
      rw [hw]
      clear hw w'
      go_wp2_with fail
      refine (cU2 _).mono ?_
      rintro e w' ⟨rfl, hw⟩
      rw [hw]
      clear hw w'
      go_wp2_with fail
      refine (cIx _ (Below.refl _ _)).mono ?_
      rintro e w' ⟨rfl, hw⟩
      rw [hw]
      clear hw w'
      go_wp2_with fail
      refine (cIy _ (Below.refl _ _)).mono ?_
      rintro e w' ⟨rfl, hw⟩
      rw [hw]
      clear hw w'
      go_wp2_with fail
      refine (cIx _ (Below.refl _ _)).mono ?_
      rintro e w' ⟨rfl, hw⟩
      rw [hw]
      clear hw w'
      go_wp2_with fail
      refine (cKx _ (Below.refl _ _)).mono ?_
      rintro e w' ⟨rfl, hw⟩
      rw [hw]
      clear hw w'
      go_wp2_with fail
      refine (cKx _ (Below.refl _ _)).mono ?_
      rintro e w' ⟨rfl, hw⟩
      rw [hw]
      clear hw w'
      go_wp2_with fail
      refine (cU3 _).mono ?_
      rintro e w' ⟨rfl, hw⟩
      rw [hw]
      clear hw w'
      go_wp2_with fail
      refine (cKx _ (Below.refl _ _)).mono ?_
      rintro e w' ⟨rfl, hw⟩
      rw [hw]
      clear hw w'
      go_wp2_with fail
      refine (cP3 _).mono ?_
      rintro e w' ⟨rfl, hw⟩
      rw [hw]
      clear hw w'
      go_wp2_with fail
      refine (cSx _ (Below.refl _ _)).mono ?_
      rintro e w' ⟨rfl, hw⟩
      rw [hw]
      clear hw w'
      go_wp2_with fail
      refine (HAA'.out _ (Below.refl _ _)).mono ?_
      rintro e w2 ⟨rfl, hb⟩
      have Hw2 : Hid (Below w1.heap.size w1 w2) := hb
      clear hb
      go_wp2_with fail
      refine (HAB'.out _ Hw2.out).mono ?_
      rintro e w3 ⟨rfl, hb⟩
      have Hw3 : Hid (Below w1.heap.size w1 w3) := Hw2.out.trans (hb.mono Hw2.out.size)
      clear hb
      have HF : Hid (Below w.heap.size w w3) := H1.out.trans (Hw3.out.mono H1.out.size)
      go_wp2_with fail
      refine (HH.out _ HF.out).mono ?_
      rintro e w9 ⟨rfl, hb9⟩
      have H9 : Hid (Below w.heap.size w w9) := HF.out.trans (hb9.mono HF.out.size)
      clear hb9
      go_wp2
      go_ret
      exact ⟨rfl, H9.out⟩
  | false =>
    rw [usual_no ka kb (by simp [hi])] at cU1
    rw [usual_no kb ka (by simp [hi])] at cU2
    rw [hi] at cIx
    clear cU3 cP3 hbi hbn cIy
    cases hsc : scalK ka with
    | true =>
      rw [hsc] at cSx
      obtain rfl : sa = true := hself hsc
      have HAA' : Hid (∀ Y, Below w1.heap.size w1 Y → Calls Tryz.prog 13 #[.pointer (some ⟨b, 0, none⟩), .int .i64 i, .int .i64 i] Y fun e w' => e = .returned (.int .i64 0) ∧ Below Y.heap.size Y w') := HAA.out
      clear HAA hself hsc hi
      cases sb with
      | false =>
        have HAB' : Hid (∀ Y, Below w1.heap.size w1 Y → Calls Tryz.prog 13 #[.pointer (some ⟨b, 0, none⟩), .int .i64 i, .int .i64 j] Y fun e w' => e = .returned (.int .i64 70) ∧ Below Y.heap.size Y w') := HAB.out
        clear HAB HCB hcast
        go_wp2_with fail
        refine (cKx _ (Below.refl _ _)).mono ?_
        rintro e w' ⟨rfl, hw⟩
        rw [hw]
        clear hw w'
        go_wp2_with fail
        refine (cKy _ (Below.refl _ _)).mono ?_
        rintro e w' ⟨rfl, hw⟩
        rw [hw]
        clear hw w'
        go_wp2_with fail
        refine (cU1 _).mono ?_
        rintro e w' ⟨rfl, hw⟩
        rw [hw]
        clear hw w'
        go_wp2_with fail
        refine (cKy _ (Below.refl _ _)).mono ?_
        rintro e w' ⟨rfl, hw⟩
        rw [hw]
        clear hw w'
        go_wp2_with fail
        refine (cKx _ (Below.refl _ _)).mono ?_
        rintro e w' ⟨rfl, hw⟩
        rw [hw]
        clear hw w'
        go_wp2_with fail
        refine (cU2 _).mono ?_
        rintro e w' ⟨rfl, hw⟩
        rw [hw]
        clear hw w'
        go_wp2_with fail
        refine (cIx _ (Below.refl _ _)).mono ?_
        rintro e w' ⟨rfl, hw⟩
        rw [hw]
        clear hw w'
        go_wp2_with fail
        refine (cIx _ (Below.refl _ _)).mono ?_
        rintro e w' ⟨rfl, hw⟩
        rw [hw]
        clear hw w'
        go_wp2_with fail
        refine (cSx _ (Below.refl _ _)).mono ?_
        rintro e w' ⟨rfl, hw⟩
        rw [hw]
        clear hw w'
        go_wp2_with fail
        refine (HAA'.out _ (Below.refl _ _)).mono ?_
        rintro e w2 ⟨rfl, hb⟩
        have Hw2 : Hid (Below w1.heap.size w1 w2) := hb
        clear hb
        go_wp2_with fail
        refine (HAB'.out _ Hw2.out).mono ?_
        rintro e w3 ⟨rfl, hb⟩
        have Hw3 : Hid (Below w1.heap.size w1 w3) := Hw2.out.trans (hb.mono Hw2.out.size)
        clear hb
        have HF : Hid (Below w.heap.size w w3) := H1.out.trans (Hw3.out.mono H1.out.size)
        go_wp2_with fail
        refine (HH.out _ HF.out).mono ?_
        rintro e w9 ⟨rfl, hb9⟩
        have H9 : Hid (Below w.heap.size w w9) := HF.out.trans (hb9.mono HF.out.size)
        clear hb9
        go_wp2
        go_ret
        exact ⟨rfl, H9.out⟩
      | true =>
        have HAB' : Hid (∀ Y, Below w1.heap.size w1 Y → Calls Tryz.prog 13 #[.pointer (some ⟨b, 0, none⟩), .int .i64 i, .int .i64 j] Y fun e w' => e = .returned (.int .i64 0) ∧ Below Y.heap.size Y w') := HAB.out
        have hcr := hcast rfl
        clear HAB hcast
        cases hcs : castP ka kb with
        | true =>
          rw [hcs] at HCB
          have HCB' : Hid (∀ Y, Below w1.heap.size w1 Y → Calls Tryz.prog 15 #[.pointer (some ⟨b, 0, none⟩), .int .i64 i, .int .i64 j] Y fun e w' => e = .returned (.int .i64 0) ∧ Below Y.heap.size Y w') := HCB.out
          clear HCB hcr hcs
          go_wp2_with fail
          refine (cKx _ (Below.refl _ _)).mono ?_
          rintro e w' ⟨rfl, hw⟩
          rw [hw]
          clear hw w'
          go_wp2_with fail
          refine (cKy _ (Below.refl _ _)).mono ?_
          rintro e w' ⟨rfl, hw⟩
          rw [hw]
          clear hw w'
          go_wp2_with fail
          refine (cU1 _).mono ?_
          rintro e w' ⟨rfl, hw⟩
          rw [hw]
          clear hw w'
          go_wp2_with fail
          refine (cKy _ (Below.refl _ _)).mono ?_
          rintro e w' ⟨rfl, hw⟩
          rw [hw]
          clear hw w'
          go_wp2_with fail
          refine (cKx _ (Below.refl _ _)).mono ?_
          rintro e w' ⟨rfl, hw⟩
          rw [hw]
          clear hw w'
          go_wp2_with fail
          refine (cU2 _).mono ?_
          rintro e w' ⟨rfl, hw⟩
          rw [hw]
          clear hw w'
          go_wp2_with fail
          refine (cIx _ (Below.refl _ _)).mono ?_
          rintro e w' ⟨rfl, hw⟩
          rw [hw]
          clear hw w'
          go_wp2_with fail
          refine (cIx _ (Below.refl _ _)).mono ?_
          rintro e w' ⟨rfl, hw⟩
          rw [hw]
          clear hw w'
          go_wp2_with fail
          refine (cSx _ (Below.refl _ _)).mono ?_
          rintro e w' ⟨rfl, hw⟩
          rw [hw]
          clear hw w'
          go_wp2_with fail
          refine (HAA'.out _ (Below.refl _ _)).mono ?_
          rintro e w2 ⟨rfl, hb⟩
          have Hw2 : Hid (Below w1.heap.size w1 w2) := hb
          clear hb
          go_wp2_with fail
          refine (HAB'.out _ Hw2.out).mono ?_
          rintro e w3 ⟨rfl, hb⟩
          have Hw3 : Hid (Below w1.heap.size w1 w3) := Hw2.out.trans (hb.mono Hw2.out.size)
          clear hb
          go_wp2_with fail
          refine (HCB'.out _ Hw3.out).mono ?_
          rintro e w4 ⟨rfl, hb⟩
          have Hw4 : Hid (Below w1.heap.size w1 w4) := Hw3.out.trans (hb.mono Hw3.out.size)
          clear hb
          have HF : Hid (Below w.heap.size w w4) := H1.out.trans (Hw4.out.mono H1.out.size)
          go_wp2_with fail
          refine (HH.out _ HF.out).mono ?_
          rintro e w9 ⟨rfl, hb9⟩
          have H9 : Hid (Below w.heap.size w w9) := HF.out.trans (hb9.mono HF.out.size)
          clear hb9
          go_wp2
          go_ret
          exact ⟨rfl, H9.out⟩
        | false =>
          rw [hcs] at HCB
          have hrc : recK ka = true := hcr.resolve_left (by simp [hcs])
          rw [hrc] at cRx
          have HCB' : Hid (∀ Y, Below w1.heap.size w1 Y → Calls Tryz.prog 15 #[.pointer (some ⟨b, 0, none⟩), .int .i64 i, .int .i64 j] Y fun e w' => e = .returned (.int .i64 70) ∧ Below Y.heap.size Y w') := HCB.out
          clear HCB hcr hcs hrc
          go_wp2_with fail
          refine (cKx _ (Below.refl _ _)).mono ?_
          rintro e w' ⟨rfl, hw⟩
          rw [hw]
          clear hw w'
          go_wp2_with fail
          refine (cKy _ (Below.refl _ _)).mono ?_
          rintro e w' ⟨rfl, hw⟩
          rw [hw]
          clear hw w'
          go_wp2_with fail
          refine (cU1 _).mono ?_
          rintro e w' ⟨rfl, hw⟩
          rw [hw]
          clear hw w'
          go_wp2_with fail
          refine (cKy _ (Below.refl _ _)).mono ?_
          rintro e w' ⟨rfl, hw⟩
          rw [hw]
          clear hw w'
          go_wp2_with fail
          refine (cKx _ (Below.refl _ _)).mono ?_
          rintro e w' ⟨rfl, hw⟩
          rw [hw]
          clear hw w'
          go_wp2_with fail
          refine (cU2 _).mono ?_
          rintro e w' ⟨rfl, hw⟩
          rw [hw]
          clear hw w'
          go_wp2_with fail
          refine (cIx _ (Below.refl _ _)).mono ?_
          rintro e w' ⟨rfl, hw⟩
          rw [hw]
          clear hw w'
          go_wp2_with fail
          refine (cIx _ (Below.refl _ _)).mono ?_
          rintro e w' ⟨rfl, hw⟩
          rw [hw]
          clear hw w'
          go_wp2_with fail
          refine (cSx _ (Below.refl _ _)).mono ?_
          rintro e w' ⟨rfl, hw⟩
          rw [hw]
          clear hw w'
          go_wp2_with fail
          refine (HAA'.out _ (Below.refl _ _)).mono ?_
          rintro e w2 ⟨rfl, hb⟩
          have Hw2 : Hid (Below w1.heap.size w1 w2) := hb
          clear hb
          go_wp2_with fail
          refine (HAB'.out _ Hw2.out).mono ?_
          rintro e w3 ⟨rfl, hb⟩
          have Hw3 : Hid (Below w1.heap.size w1 w3) := Hw2.out.trans (hb.mono Hw2.out.size)
          clear hb
          go_wp2_with fail
          refine (HCB'.out _ Hw3.out).mono ?_
          rintro e w4 ⟨rfl, hb⟩
          have Hw4 : Hid (Below w1.heap.size w1 w4) := Hw3.out.trans (hb.mono Hw3.out.size)
          clear hb
          go_wp2_with fail
          refine (cRx _ Hw4.out).mono ?_
          rintro e w' ⟨rfl, hw⟩
          rw [hw]
          clear hw w'
          have HF : Hid (Below w.heap.size w w4) := H1.out.trans (Hw4.out.mono H1.out.size)
          go_wp2_with fail
          refine (HH.out _ HF.out).mono ?_
          rintro e w9 ⟨rfl, hb9⟩
          have H9 : Hid (Below w.heap.size w w9) := HF.out.trans (hb9.mono HF.out.size)
          clear hb9
          go_wp2
          go_ret
          exact ⟨rfl, H9.out⟩
    | false =>
      rw [hsc] at cSx
      clear HAA hself hsc hi
      cases sb with
      | false =>
        have HAB' : Hid (∀ Y, Below w1.heap.size w1 Y → Calls Tryz.prog 13 #[.pointer (some ⟨b, 0, none⟩), .int .i64 i, .int .i64 j] Y fun e w' => e = .returned (.int .i64 70) ∧ Below Y.heap.size Y w') := HAB.out
        clear HAB HCB hcast
        go_wp2_with fail
        refine (cKx _ (Below.refl _ _)).mono ?_
        rintro e w' ⟨rfl, hw⟩
        rw [hw]
        clear hw w'
        go_wp2_with fail
        refine (cKy _ (Below.refl _ _)).mono ?_
        rintro e w' ⟨rfl, hw⟩
        rw [hw]
        clear hw w'
        go_wp2_with fail
        refine (cU1 _).mono ?_
        rintro e w' ⟨rfl, hw⟩
        rw [hw]
        clear hw w'
        go_wp2_with fail
        refine (cKy _ (Below.refl _ _)).mono ?_
        rintro e w' ⟨rfl, hw⟩
        rw [hw]
        clear hw w'
        go_wp2_with fail
        refine (cKx _ (Below.refl _ _)).mono ?_
        rintro e w' ⟨rfl, hw⟩
        rw [hw]
        clear hw w'
        go_wp2_with fail
        refine (cU2 _).mono ?_
        rintro e w' ⟨rfl, hw⟩
        rw [hw]
        clear hw w'
        go_wp2_with fail
        refine (cIx _ (Below.refl _ _)).mono ?_
        rintro e w' ⟨rfl, hw⟩
        rw [hw]
        clear hw w'
        go_wp2_with fail
        refine (cIx _ (Below.refl _ _)).mono ?_
        rintro e w' ⟨rfl, hw⟩
        rw [hw]
        clear hw w'
        go_wp2_with fail
        refine (cSx _ (Below.refl _ _)).mono ?_
        rintro e w' ⟨rfl, hw⟩
        rw [hw]
        clear hw w'
        go_wp2_with fail
        refine (HAB'.out _ (Below.refl _ _)).mono ?_
        rintro e w3 ⟨rfl, hb⟩
        have Hw3 : Hid (Below w1.heap.size w1 w3) := hb
        clear hb
        have HF : Hid (Below w.heap.size w w3) := H1.out.trans (Hw3.out.mono H1.out.size)
        go_wp2_with fail
        refine (HH.out _ HF.out).mono ?_
        rintro e w9 ⟨rfl, hb9⟩
        have H9 : Hid (Below w.heap.size w w9) := HF.out.trans (hb9.mono HF.out.size)
        clear hb9
        go_wp2
        go_ret
        exact ⟨rfl, H9.out⟩
      | true =>
        have HAB' : Hid (∀ Y, Below w1.heap.size w1 Y → Calls Tryz.prog 13 #[.pointer (some ⟨b, 0, none⟩), .int .i64 i, .int .i64 j] Y fun e w' => e = .returned (.int .i64 0) ∧ Below Y.heap.size Y w') := HAB.out
        have hcr := hcast rfl
        clear HAB hcast
        cases hcs : castP ka kb with
        | true =>
          rw [hcs] at HCB
          have HCB' : Hid (∀ Y, Below w1.heap.size w1 Y → Calls Tryz.prog 15 #[.pointer (some ⟨b, 0, none⟩), .int .i64 i, .int .i64 j] Y fun e w' => e = .returned (.int .i64 0) ∧ Below Y.heap.size Y w') := HCB.out
          clear HCB hcr hcs
          go_wp2_with fail
          refine (cKx _ (Below.refl _ _)).mono ?_
          rintro e w' ⟨rfl, hw⟩
          rw [hw]
          clear hw w'
          go_wp2_with fail
          refine (cKy _ (Below.refl _ _)).mono ?_
          rintro e w' ⟨rfl, hw⟩
          rw [hw]
          clear hw w'
          go_wp2_with fail
          refine (cU1 _).mono ?_
          rintro e w' ⟨rfl, hw⟩
          rw [hw]
          clear hw w'
          go_wp2_with fail
          refine (cKy _ (Below.refl _ _)).mono ?_
          rintro e w' ⟨rfl, hw⟩
          rw [hw]
          clear hw w'
          go_wp2_with fail
          refine (cKx _ (Below.refl _ _)).mono ?_
          rintro e w' ⟨rfl, hw⟩
          rw [hw]
          clear hw w'
          go_wp2_with fail
          refine (cU2 _).mono ?_
          rintro e w' ⟨rfl, hw⟩
          rw [hw]
          clear hw w'
          go_wp2_with fail
          refine (cIx _ (Below.refl _ _)).mono ?_
          rintro e w' ⟨rfl, hw⟩
          rw [hw]
          clear hw w'
          go_wp2_with fail
          refine (cIx _ (Below.refl _ _)).mono ?_
          rintro e w' ⟨rfl, hw⟩
          rw [hw]
          clear hw w'
          go_wp2_with fail
          refine (cSx _ (Below.refl _ _)).mono ?_
          rintro e w' ⟨rfl, hw⟩
          rw [hw]
          clear hw w'
          go_wp2_with fail
          refine (HAB'.out _ (Below.refl _ _)).mono ?_
          rintro e w3 ⟨rfl, hb⟩
          have Hw3 : Hid (Below w1.heap.size w1 w3) := hb
          clear hb
          go_wp2_with fail
          refine (HCB'.out _ Hw3.out).mono ?_
          rintro e w4 ⟨rfl, hb⟩
          have Hw4 : Hid (Below w1.heap.size w1 w4) := Hw3.out.trans (hb.mono Hw3.out.size)
          clear hb
          have HF : Hid (Below w.heap.size w w4) := H1.out.trans (Hw4.out.mono H1.out.size)
          go_wp2_with fail
          refine (HH.out _ HF.out).mono ?_
          rintro e w9 ⟨rfl, hb9⟩
          have H9 : Hid (Below w.heap.size w w9) := HF.out.trans (hb9.mono HF.out.size)
          clear hb9
          go_wp2
          go_ret
          exact ⟨rfl, H9.out⟩
        | false =>
          rw [hcs] at HCB
          have hrc : recK ka = true := hcr.resolve_left (by simp [hcs])
          rw [hrc] at cRx
          have HCB' : Hid (∀ Y, Below w1.heap.size w1 Y → Calls Tryz.prog 15 #[.pointer (some ⟨b, 0, none⟩), .int .i64 i, .int .i64 j] Y fun e w' => e = .returned (.int .i64 70) ∧ Below Y.heap.size Y w') := HCB.out
          clear HCB hcr hcs hrc
          go_wp2_with fail
          refine (cKx _ (Below.refl _ _)).mono ?_
          rintro e w' ⟨rfl, hw⟩
          rw [hw]
          clear hw w'
          go_wp2_with fail
          refine (cKy _ (Below.refl _ _)).mono ?_
          rintro e w' ⟨rfl, hw⟩
          rw [hw]
          clear hw w'
          go_wp2_with fail
          refine (cU1 _).mono ?_
          rintro e w' ⟨rfl, hw⟩
          rw [hw]
          clear hw w'
          go_wp2_with fail
          refine (cKy _ (Below.refl _ _)).mono ?_
          rintro e w' ⟨rfl, hw⟩
          rw [hw]
          clear hw w'
          go_wp2_with fail
          refine (cKx _ (Below.refl _ _)).mono ?_
          rintro e w' ⟨rfl, hw⟩
          rw [hw]
          clear hw w'
          go_wp2_with fail
          refine (cU2 _).mono ?_
          rintro e w' ⟨rfl, hw⟩
          rw [hw]
          clear hw w'
          go_wp2_with fail
          refine (cIx _ (Below.refl _ _)).mono ?_
          rintro e w' ⟨rfl, hw⟩
          rw [hw]
          clear hw w'
          go_wp2_with fail
          refine (cIx _ (Below.refl _ _)).mono ?_
          rintro e w' ⟨rfl, hw⟩
          rw [hw]
          clear hw w'
          go_wp2_with fail
          refine (cSx _ (Below.refl _ _)).mono ?_
          rintro e w' ⟨rfl, hw⟩
          rw [hw]
          clear hw w'
          go_wp2_with fail
          refine (HAB'.out _ (Below.refl _ _)).mono ?_
          rintro e w3 ⟨rfl, hb⟩
          have Hw3 : Hid (Below w1.heap.size w1 w3) := hb
          clear hb
          go_wp2_with fail
          refine (HCB'.out _ Hw3.out).mono ?_
          rintro e w4 ⟨rfl, hb⟩
          have Hw4 : Hid (Below w1.heap.size w1 w4) := Hw3.out.trans (hb.mono Hw3.out.size)
          clear hb
          go_wp2_with fail
          refine (cRx _ Hw4.out).mono ?_
          rintro e w' ⟨rfl, hw⟩
          rw [hw]
          clear hw w'
          have HF : Hid (Below w.heap.size w w4) := H1.out.trans (Hw4.out.mono H1.out.size)
          go_wp2_with fail
          refine (HH.out _ HF.out).mono ?_
          rintro e w9 ⟨rfl, hb9⟩
          have H9 : Hid (Below w.heap.size w w9) := HF.out.trans (hb9.mono HF.out.size)
          clear hb9
          go_wp2
          go_ret
          exact ⟨rfl, H9.out⟩
end
end Go.Proofs.YtpnpilbmhkiphaaGreatDoor
