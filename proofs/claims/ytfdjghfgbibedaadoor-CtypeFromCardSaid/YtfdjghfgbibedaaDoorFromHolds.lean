/-
  Rows become a table, or are refused, as the document has it (mortiselaw03.CtypeFrom): for every row of rows the law answers true. No condition beside the row's own (the listed tables are as their text lays them).
-/
import Derived.Test.YtfdjghfgbibedaaDoorFrame2
import Derived.Test.YtfdjghfgbibedaaDoorRowOpen
import Derived.Test.YtfdjghfgbibedaaDoorLawFrom
namespace Go.Proofs.YtfdjghfgbibedaaDoor
open Go.ChangeShapes Go.WideShapes Go.ChangeAt Go.RowKit Go.ChangeMaps
set_option linter.unusedVariables false

set_option maxRecDepth 100000 in
theorem from_lifted (os : Os) (started : os.Started) (H : Type) (enc : TypeId × Value → H) :
    ReturnsInHanded {} Tryd.checked os 4 .any (fun w args => (Rows.ctypeFromSpec.pre enc Tryd.prog Tryd.f4 [] false w args ∧ laidMetH Tryd.prog Rows.ctypeFromRow.laid w) ∧ sizedMet enc Tryd.prog Tryd.f4 (OpenSpec.ofChange Rows.ctypeFromSpec) false w args)
      (Rows.ctypeFromSpec.post enc Tryd.prog Tryd.f4 false true false false) := by
  refine lift_law_sized (C := Tryd.checked) (X := fun w _ => laidMetH Tryd.prog Rows.ctypeFromRow.laid w) (fun _ _ _ hh h => h.of_heap hh) ownK started (by kernel_rfl) Tryd.func4
    (ChangeSpec.witness_shaped (enc := enc) (C := Tryd.checked) (os := os) (X := fun w _ => laidMetH Tryd.prog Rows.ctypeFromRow.laid w) false (World.laidAll Tryd.prog os Rows.ctypeFromRow.laid) #[.slice none 0 0] 8 (World.laidAll_os _ _ _)
      (World.shaped_of_ZipB (by kernel_rfl) (by kernel_rfl)) (by kernel_rfl) (by kernel_rfl) (by kernel_rfl)
      (by rw [MakeChecks.laidMetH_plain _ _ _ (by kernel_rfl)]; exact laidMet_laidAll _ (by kernel_rfl) (by kernel_rfl))) ?_
  intro W base args ds gs before hval0 hW hsz0 hL hsh
  have hval : ∀ (j : Nat) t v, Tryd.f4.params[j]? = some t → args[j]? = some v → Value.okWide Tryd.prog W .any base t v := hval0
  have hW' := hW
  obtain ⟨p, q, hA0, hV, rfl, hfz, hnd⟩ := hW
  have hA : DataW.TrodAll enc Tryd.prog W 0 (fun _ => true) true Tryd.f4.params.toList args.toList ds p := hA0
  rw [Tryd.params4] at hA hval
  have hsz : (DataW.weightsEach Tryd.prog (Tryd.f4.params.toList ++ Rows.ctypeFromSpec.plain.varTypes Tryd.prog) (ds ++ gs)).all (· ≤ reachBytes) = true := hsz0
  rw [Tryd.params4] at hsz
  clear hA0 hval0 hsz0
  obtain ⟨v0, d0, rfl, rfl, h0⟩ := trodAll_one hA
  obtain ⟨rfl, rfl⟩ := trodVars_none hV
  obtain ⟨a0, len0, cap0, rfl⟩ := okWide_slice Tryd.underlying22 (hval 0 22 v0 rfl rfl)
  have lt0 : ∀ x ∈ p, x.block < W.heap.size := by obtain ⟨n, hn⟩ := h0; exact DataW.trod_lt n _ _ _ hn
  have hI : ∃ rs : List (Rw × Value), RowIn W (.slice a0 len0 cap0) rs ∧ rs.length * 72 ≤ 140737488355328 ∧ ∀ p ∈ rs, Okay p.1 := by
    obtain ⟨fuel, hf⟩ := h0
    obtain ⟨v, rs, hcs, hin, hd⟩ := open_rows hf
    simp [Value.cells] at hcs
    subst hcs
    refine ⟨rs, hin, ?_⟩
    rcases hd with ⟨_, rfl⟩ | ⟨ds, rest, hx, hlen, hfit⟩
    · exact ⟨by simp, fun p hp => (by cases hp)⟩
    · simp only at hx
      subst hx
      have hw : ((DataW.slice ds rest).weights Tryd.prog 22).all (· ≤ reachBytes) = true := by
        rw [List.all_eq_true] at hsz ⊢
        intro x hx
        exact hsz x (List.mem_append_left _ hx)
      obtain ⟨z1, z2⟩ := rows_sized hw
      refine ⟨by rw [← hlen]; simp [reachBytes] at z1; omega, fun p hp => ?_⟩
      obtain ⟨i, hi⟩ := List.mem_iff_getElem?.1 hp
      obtain ⟨d, hd1, hd2⟩ := hfit i p hi
      exact okay_of hd2 (z2 d (List.mem_of_getElem? hd1) _ hd2.data)
  obtain ⟨rs, hin, hl72, hok⟩ := hI
  have hL' : laidMetH Tryd.prog Rows.ctypeNobodyRow.laid W := hL
  refine (ctypeFrom_c hin hl72 hok (tabs_of hL') (names_of hL')).mono fun e W' ⟨he, bel⟩ => ?_
  subst he
  exact ⟨_, rfl, _, _, _, [], _, [], hW', trodAll_mk1 (shut_bool Tryd.underlying4 _), trodAll_mk1 (Below.trod laidOut (by kernel_rfl) (of_decide_eq_true (by kernel_rfl)) h0 bel lt0), rfl, bel.frame _, fun h => by cases h⟩

theorem from_row : Rows.CtypeFromSaid :=
  OpenClaim.holds_of_wide 4 Tryd.f4 rfl rfl rfl rfl rfl rfl rfl ⟨rfl, rfl, rfl, rfl, rfl⟩ rfl rfl rfl rfl rfl (by kernel_rfl) Tryd.func4 (by kernel_rfl)
    (of_decide_eq_true (by kernel_rfl)) (by unfold Func.isWrapper; first | (rw [if_pos (by decide +kernel)]; kernel_rfl) | (rw [if_neg (by decide +kernel)]; exact ⟨rfl, rfl⟩))
    (fun os started H enc _ => from_lifted os started H enc)

theorem from_holds : Rows.CtypeFromCardSaid :=
  Claim7.holds_tied_plain_at .later [] [.data, .data, .data, .data] true Rows.ctypeFromCard.stood.harness true
    from_row (fun _ h => by cases h) (by kernel_rfl) (fun _ h => by cases h) ctypeFrom_row_tie rfl ⟨rfl, rfl⟩ (by kernel_rfl) rfl
    (fun f fn hf hfn => by
      obtain rfl : f = 4 := Option.some.inj ((show Tryd.prog.funcNamed Rows.ctypeFromRow.func = some 4 by kernel_rfl).symm.trans hf) |>.symm
      obtain rfl : fn = Tryd.f4 := (Option.some.inj (Tryd.func4.symm.trans hfn)).symm
      exact ⟨by kernel_rfl, fun j t ht => by
        rw [Tryd.params4] at ht
        have hm : t ∈ [22] := by simpa using Array.mem_of_getElem? ht
        have hall : ([22].all fun u => !Tryd.prog.wantsStandIn u) = true := by kernel_rfl
        exact (show Tryd.prog.wantsStandIn t = false by simpa using List.all_eq_true.1 hall t hm)⟩)
    (by kernel_rfl)
#print axioms from_holds
end Go.Proofs.YtfdjghfgbibedaaDoor
