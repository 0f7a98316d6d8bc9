/-
  What mortiseref02's Join answers: the same text as package token's.
-/
import Derived.Test.YtjbmpdcgmphhoaaGreatDoorRefWri
import Derived.Test.YtjbmpdcgmphhoaaGreatDoorSameS
import Derived.Test.YtjbmpdcgmphhoaaGreatDoorLen
import Derived.Lib.AppendStr
namespace Go.Proofs.YtjbmpdcgmphhoaaGreatDoor
open Go.RowKit
set_option linter.unusedVariables false

theorem joinText_two (t u : Tk) (r : List Tk) : joinText (t :: u :: r) = tkText t ++ 32 :: joinText (u :: r) := by simp [joinText, List.intercalate]
theorem joinText_snoc : ∀ (l : List Tk) (t : Tk), joinText (l ++ [t]) = if l = [] then tkText t else joinText l ++ 32 :: tkText t
  | [], t => by simp [joinText, List.intercalate]
  | [u], t => by simp [joinText, List.intercalate]
  | u :: v :: r, t => by
    have ih := joinText_snoc (v :: r) t
    rw [if_neg (by simp)] at ih ⊢
    show joinText (u :: v :: (r ++ [t])) = _
    rw [joinText_two, joinText_two]
    have : v :: (r ++ [t]) = (v :: r) ++ [t] := rfl
    rw [this, ih]; simp

theorem text_len {t : Tk} (h : tkCan t = true) (hs : t.text.length ≤ 1048576) : (tkText t).length ≤ 4194404 := by
  have := tkText_len t h; omega
theorem joinText_bound : ∀ l : List Tk, (∀ t ∈ l, (tkText t).length ≤ 4194404) → (joinText l).length ≤ l.length * 4194405
  | [], _ => by simp [joinText]
  | [t], h => by have := h t List.mem_cons_self; simp [joinText, List.intercalate]; omega
  | t :: u :: r, h => by
    have h1 := h t List.mem_cons_self
    have ih := joinText_bound (u :: r) (fun x hx => h x (List.mem_cons_of_mem _ hx))
    rw [joinText_two]
    simp only [List.length_append, List.length_cons] at ih ⊢
    have : (r.length + 1 + 1) * 4194405 = (r.length + 1) * 4194405 + 4194405 := by rw [Nat.add_mul, Nat.one_mul]
    omega

theorem strCells_vals (T : List UInt8) : Lib.strCells ⟨T.toArray⟩ = byteVals T := by
  simp [Lib.strCells, byteVals]

set_option maxRecDepth 100000 in
set_option maxHeartbeats 8000000 in
theorem rjoin_r (va : Value) (xs : List RTok) (w : World) (h : TokIn w va xs) (hT : Tabs w) (hN : xs.length ≤ 1048576) (hs : ∀ x ∈ xs, x.s.size ≤ 1048576) (hn : ∀ x ∈ xs, -9223372036854775808 ≤ x.n ∧ x.n ≤ 9223372036854775807) :
    Calls Tryz.prog 12 #[va] w fun e w' => e = .returned (joinVal (xs.map RTok.tk)) ∧ Below w.heap.size w w' := by
  obtain ⟨i0, hi0, hz0, hz1, hz2⟩ := info_parts info_u8
  have hlen : ∃ a cap, va = .slice a xs.length cap ∧ (∀ k x, xs[k]? = some x → ∃ g o, a = some ⟨g, o, none⟩ ∧ w.rangeAt g (o + k * 6) x.cells ∧ xs.length ≤ cap ∧ g < w.heap.size) := by
    rcases h with ⟨a, cap, rfl, rfl⟩ | ⟨g, o, cap, rfl, h2, h3, h4⟩
    · exact ⟨a, cap, rfl, fun k x h => by simp at h⟩
    · exact ⟨_, cap, rfl, fun k x h => ⟨g, o, rfl, h2 k x h, h4, h3⟩⟩
  obtain ⟨aa, capa, rfl, hra⟩ := hlen
  have HRA : Hid _ := hra
  clear h hra
  obtain ⟨V, hV⟩ : ∃ V, V = joinVal (xs.map RTok.tk) := ⟨_, rfl⟩
  rw [← hV]
  have HV : Hid _ := hV
  clear hV
  generalize hB : w.heap.size = B
  have HBs : Hid _ := hB
  clear hB
  go_enter Tryz.func12, Tryz.ntmps12
  go_wp2
  go_loopw [4, 5] (fun v i wr => ∃ (k : Nat), k ≤ xs.length ∧ i = .int .i64 k ∧ Hid (wr.ownsRow B 5 1 v (joinText ((xs.take k).map RTok.tk)).length (byteVals (joinText ((xs.take k).map RTok.tk)))) ∧ Hid (Below B w wr) ∧ B ≤ wr.heap.size ∧ Hid (joinable (xs.map RTok.tk) = joinable ((xs.drop k).map RTok.tk)) ∧ (joinText ((xs.take k).map RTok.tk)).length ≤ k * 4194405) (fun _ i _ => xs.length - (intOf i).toNat)
  case atStart => exact ⟨0, Nat.zero_le _, rfl, World.ownsRow_nil _ _ _ _, Below.refl _ _, Nat.le_of_eq HBs.out.symm, rfl, by simp [joinText]⟩
  case round =>
    obtain ⟨k, hk, rfl, HOWN, HBEL, hsz, HJ, hjl⟩ := hrel
    by_cases hlt : k < xs.length
    · obtain ⟨x, hx⟩ : ∃ x, xs[k]? = some x := ⟨xs[k], List.getElem?_eq_getElem hlt⟩
      have hmem : x ∈ xs := List.mem_of_getElem? hx
      obtain ⟨ga, oa, rfl, ra, hca, hga⟩ := HRA.out k x hx
      rw [HBs.out] at hga
      have ra' : wr.rangeAt ga (oa + k * 6) x.cells := fun i u hu => by rw [HBEL.out.cell (p := ⟨ga, oa + k * 6 + i, none⟩) hga]; exact ra i u hu
      have hsx := hs x hmem
      have hnx := hn x hmem
      have hdk : xs.drop k = x :: xs.drop (k + 1) := by
        rw [List.drop_eq_getElem_cons hlt]
        congr 1
        have := List.getElem?_eq_getElem hlt
        rw [hx] at this; exact (Option.some.inj this).symm
      have hJ' := HJ.out
      rw [hdk, List.map_cons] at hJ'
      have htk : (xs.take (k + 1)).map RTok.tk = (xs.take k).map RTok.tk ++ [x.tk] := by
        rw [List.take_add_one, hx]; simp
      have hsn := joinText_snoc ((xs.take k).map RTok.tk) x.tk
      rw [← htk] at hsn
      have htx : tkText x.tk = writeP x.k x.n x.s.data.toList := rfl
      have hcan : tkCan x.tk = canBeP x.k x.n x.s.data.toList := rfl
      have hnil : (xs.take k).map RTok.tk = [] ↔ k = 0 := by
        constructor
        · intro h
          have := congrArg List.length h
          simp at this
          rcases this with h | h
          · exact h
          · subst h; simp at hlt
        · intro h; subst h; simp
      obtain ⟨a0, a1, a2, a3, a4, a5⟩ := tok_range ra'
      have cW := write_r x.k x.n x.a x.b x.c x.s wr hsx (hT.below (by rw [HBs.out]; exact HBEL.out)) hnx.1 hnx.2
      clear HJ ra ra'
      obtain ⟨xk, xs', xn, xa, xb, xc⟩ := x
      simp only at hsx hnx htx hcan a0 a1 a2 a3 a4 a5 cW
      rcases hcb : canBeP xk xn xs'.data.toList with _ | _
      · have hjf : joinable (xs.map RTok.tk) = false := by
          rw [hJ']
          rw [hcb] at hcan
          rcases (xs.drop (k + 1)).map RTok.tk with _ | ⟨u, r⟩
          · simp [joinable, hcan]
          · simp [joinable, hcan]
        have hVb : V = .tuple #[.string ⟨#[]⟩, .int .i64 2] := by rw [HV.out]; unfold joinVal; rw [hjf]; rfl
        subst hVb
        rw [writeVal_bad hcb] at cW
        clear hJ' hdk hsn htk hjf hcan htx
        go_wp2_with (go_at_call 10; refine cW.mono ?_; rintro e w1 ⟨rfl, hb1⟩)
        go_ret2
        exact ⟨rfl, HBEL.out.trans (hb1.mono hsz)⟩
      rw [writeVal_good hcb] at cW
      rw [hcb] at hcan
      have htl := text_len hcan (by simpa [RTok.tk] using hsx)
      rw [htx] at htl hsn
      by_cases hbad : xk = 0 ∧ k < xs.length - 1
      · have hjf : joinable (xs.map RTok.tk) = false := by
          rw [hJ']
          rcases hr : (xs.drop (k + 1)).map RTok.tk with _ | ⟨u, r⟩
          · have := congrArg List.length hr
            simp at this; omega
          · simp [joinable, RTok.tk, hbad.1]
        have hVb : V = .tuple #[.string ⟨#[]⟩, .int .i64 2] := by rw [HV.out]; unfold joinVal; rw [hjf]; rfl
        subst hVb
        obtain ⟨hk0, hkl⟩ := hbad
        subst hk0
        have hkl' : decide ((k : Int) < (xs.length : Int) - 1) = true := by simp; omega
        clear hJ' hdk hsn htk hjf hcan htx
        go_wp2_with (go_at_call 10; refine cW.mono ?_; rintro e w1 ⟨rfl, hb1⟩; have q0 := (hb1.cell (p := ⟨ga, oa + k * 6, none⟩) (Nat.lt_of_lt_of_le hga hsz)).trans a0)
        go_ret2
        exact ⟨rfl, HBEL.out.trans (hb1.mono hsz)⟩
      · have HJN : Hid (joinable (xs.map RTok.tk) = joinable ((xs.drop (k + 1)).map RTok.tk)) := by
          show _ = _
          rw [hJ']
          rcases hr : (xs.drop (k + 1)).map RTok.tk with _ | ⟨u, r⟩
          · simp [joinable, hcan]
          · have hl := congrArg List.length hr
            simp at hl
            have : xk ≠ 0 := fun e => hbad ⟨e, by omega⟩
            have hc' : tkCan { kind := xk, text := xs'.data.toList, num := xn } = true := hcan
            simp [joinable, hc', RTok.tk, this]
        generalize hTT : writeP xk xn xs'.data.toList = TT at *
        have HSN : Hid _ := hsn
        have hts : (ByteArray.mk TT.toArray).size = TT.length := by show TT.toArray.size = _; simp
        have gbad : (xk == 0) = false ∨ (xk == 0) = true ∧ decide ((k : Int) < (xs.length : Int) - 1) = false := by
          by_cases e : xk = 0
          · right; refine ⟨by simpa using e, ?_⟩; simp; omega
          · left; simpa using e
        have HNL : Hid _ := hnil
        clear hJ' hdk hsn htk hcan htx hbad hTT hcb hnil
        generalize hJJ : joinText ((xs.take k).map RTok.tk) = J at *
        have HJJ : Hid _ := hJJ
        clear hJJ
        have hkmul : k * 4194405 ≤ 1048576 * 4194405 := Nat.mul_le_mul_right _ (by omega)
        have hJb : J.length ≤ 5000000000000 := by omega
        have HJL : Hid _ := hjl
        clear hkmul hjl
        by_cases hk0 : k = 0
        · have hst : joinText ((xs.take (k + 1)).map RTok.tk) = TT := by rw [HSN.out, if_pos (HNL.out.2 hk0)]
          have hJ0 : J = [] := by
            have h1 : (xs.take k).map RTok.tk = [] := HNL.out.2 hk0
            rw [← HJJ.out, h1]; rfl
          have HST : Hid _ := hst
          have gk : ¬ ((0 : Int) < k) := by omega
          clear hst hk0
          subst hJ0
          rcases gbad with gb | ⟨gb, gb2⟩
          all_goals
            go_wp2_with (first | (go_at_call 10; refine cW.mono ?_; rintro e w1 ⟨rfl, hb1⟩; have q0 := (hb1.cell (p := ⟨ga, oa + k * 6, none⟩) (Nat.lt_of_lt_of_le hga hsz)).trans a0; have HO1 : Hid (w1.ownsRow B 5 1 _ _ _) := own_below HOWN.out hb1; have HB1 : Hid (Below B w w1) := HBEL.out.trans (hb1.mono hsz); have hsz1 : B ≤ w1.heap.size := Nat.le_trans hsz hb1.size; clear hb1) | (at_builtin; go_must (refine Lib.wpList_append_own_string _ rfl (.tmp 44) (.tmp 45) 58 9 rfl B 5 i0 Tryz.underlying58 Tryz.underlying9 hi0 hz0 hz1 hz2 _ _ _ rfl HO1.out ⟨TT.toArray⟩ rfl ?c3 ?c4 ?c5 ?_)))
            case c3 => unfold maxLen; simp; omega
            case c4 => simp; omega
            case c5 => exact hsz1
            intro v' w2 hown' hgrow _
            have RR : Hid (w2.ownsRow B 5 1 v' (joinText ((xs.take (k + 1)).map RTok.tk)).length (byteVals (joinText ((xs.take (k + 1)).map RTok.tk))) ∧ Below B w w2 ∧ B ≤ w2.heap.size) := by
              refine ⟨?_, HB1.out.grown hgrow (by omega) (fun j hj => (HO1.out.lt j hj).1), ?_⟩
              · rw [HST.out]
                rw [strCells_vals] at hown'
                simpa [byteVals] using hown'
              · have := hgrow.size; omega
            clear hown' hgrow
            go_wp2
            go_roundw
            case rel => exact ⟨k + 1, by omega, by go_num, RR.out.1, RR.out.2.1, RR.out.2.2, HJN, by rw [HST.out]; have := HJL.out; omega⟩
            case measure => simp [intOf]; omega
        · have hst : joinText ((xs.take (k + 1)).map RTok.tk) = J ++ 32 :: TT := by rw [HSN.out, if_neg (fun e => hk0 (HNL.out.1 e))]
          have HST : Hid _ := hst
          have gk : (0 : Int) < k := by omega
          clear hst
          rcases gbad with gb | ⟨gb, gb2⟩
          all_goals
            go_wp2_with (first | (go_at_call 10; refine cW.mono ?_; rintro e w1 ⟨rfl, hb1⟩; have q0 := (hb1.cell (p := ⟨ga, oa + k * 6, none⟩) (Nat.lt_of_lt_of_le hga hsz)).trans a0; have HO1 : Hid (w1.ownsRow B 5 1 _ _ _) := own_below HOWN.out hb1; have HB1 : Hid (Below B w w1) := HBEL.out.trans (hb1.mono hsz); have hsz1 : B ≤ w1.heap.size := Nat.le_trans hsz hb1.size; clear hb1) | (at_builtin; go_must (refine wpList_append_own _ rfl (.tmp 41) (.tmp 42) 58 rfl B 5 i0 (.int .u8 0) 1 1 Tryz.underlying58 hi0 hz0 hz1 hz2 rfl (by decide) _ _ _ rfl (HO1.out.alloc _) ⟨_, 0, none⟩ 1 1 [.int .u8 32] rfl rfl (cells_at_new _ _ _) ?d2 ?d3 ?d4 ?d5 ?_)))
            case d2 => intro u hu; simp at hu; subst hu; rfl
            case d3 => unfold maxLen; omega
            case d4 => omega
            case d5 => simp; omega
            intro v' w2 hown' hgrow _
            have HO2 : Hid (w2.ownsRow B 5 1 v' (J ++ [32]).length (byteVals (J ++ [32]))) := by
              show World.ownsRow _ _ _ _ _ _ _
              rw [byteVals_append, List.length_append]; exact hown'
            have HB2 : Hid (Below B w w2 ∧ B ≤ w2.heap.size) := by
              refine ⟨(HB1.out.alloc hsz1 _).grown hgrow (by simp; omega) (fun j hj => (HO1.out.lt j hj).1), ?_⟩
              have := hgrow.size; simp at this; omega
            clear hown' hgrow
            go_wp2_with (at_builtin; go_must (refine Lib.wpList_append_own_string _ rfl (.tmp 44) (.tmp 45) 58 9 rfl B 5 i0 Tryz.underlying58 Tryz.underlying9 hi0 hz0 hz1 hz2 _ _ _ rfl HO2.out ⟨TT.toArray⟩ rfl ?c3 ?c4 ?c5 ?_))
            case c3 => unfold maxLen; simp; omega
            case c4 => simp; omega
            case c5 => exact HB2.out.2
            intro v3 w3 hown3 hgrow3 _
            have RR : Hid (w3.ownsRow B 5 1 v3 (joinText ((xs.take (k + 1)).map RTok.tk)).length (byteVals (joinText ((xs.take (k + 1)).map RTok.tk))) ∧ Below B w w3 ∧ B ≤ w3.heap.size) := by
              refine ⟨?_, HB2.out.1.grown hgrow3 HB2.out.2 (fun j hj => (HO2.out.lt j hj).1), ?_⟩
              · rw [HST.out]
                rw [strCells_vals] at hown3
                have e : J ++ 32 :: TT = (J ++ [32]) ++ TT := by simp
                rw [e, byteVals_app, List.length_append, List.length_append]; exact hown3
              · have := hgrow3.size; have := HB2.out.2; omega
            clear hown3 hgrow3
            go_wp2
            go_roundw
            case rel => exact ⟨k + 1, by omega, by go_num, RR.out.1, RR.out.2.1, RR.out.2.2, HJN, by rw [HST.out, List.length_append, List.length_cons]; have := HJL.out; omega⟩
            case measure => simp [intOf]; omega
    · have hke : k = xs.length := by omega
      subst hke
      have hjt : joinable (xs.map RTok.tk) = true := by rw [HJ.out, List.drop_length]; rfl
      have hVb : V = .tuple #[.string ⟨(joinText (xs.map RTok.tk)).toArray⟩, .int .i64 0] := by rw [HV.out]; unfold joinVal; rw [hjt]; rfl
      have hown := HOWN.out
      rw [List.take_length] at hown
      have hconv := convert_own hown
      subst hVb
      clear hjl
      go_wp2
      go_ret2
      exact ⟨rfl, HBEL.out⟩
end Go.Proofs.YtjbmpdcgmphhoaaGreatDoor
