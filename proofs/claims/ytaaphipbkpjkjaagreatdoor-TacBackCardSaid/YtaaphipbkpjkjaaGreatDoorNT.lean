/-
  What package tac's Print writes its Parse reads as the same program (mortiselaw13.TacBack): for every program the law answers true. No condition beside the row's own (the listed tables are as their text lays them).
  Programs that came in: their rows are small enough to be copied.
-/
import Derived.Test.YtaaphipbkpjkjaaGreatDoorNS
import Derived.Test.YtaaphipbkpjkjaaGreatDoorNQ
import Derived.Test.YtaaphipbkpjkjaaGreatDoorTfF
import Derived.Test.YtaaphipbkpjkjaaGreatDoorPE
namespace Go.Proofs.YtaaphipbkpjkjaaGreatDoor
open Go.ChangeShapes Go.WideShapes Go.ChangeAt Go.RowKit
set_option linter.unusedVariables false
set_option linter.unusedSimpArgs false
set_option maxRecDepth 100000
section
variable {H : Type} {enc : TypeId × Value → H} {w : World} {base : Nat} {spare : Nat → Bool} {held : Bool}
theorem func_cp {q : Fg} {d : DataW H} (hE : FgE w q d) (h : (d.weights Tryz.prog 32).all (· ≤ reachBytes) = true) : FgOK w q ∧ q.sls.length * 16 ≤ 140737488355328 ∧ q.code.length * 112 ≤ 140737488355328 ∧ ∀ i ∈ q.code, i.x.args.length * 16 ≤ 140737488355328 := by
  have hok := (func_sized hE h).ok
  obtain ⟨sd, cd, rfl, hs, hc⟩ := hE.dat
  have hu := Tryz.underlying32
  have h1 := all_part (d := sd) (e := 29) (fun x hx => by
    simp only [DataW.weights, hu]
    simp only [DataW.weightsEach, List.map_cons, List.mem_append, List.map_nil]
    simp [hx]) h
  have h2 := all_part (d := cd) (e := 30) (fun x hx => by
    simp only [DataW.weights, hu]
    simp only [DataW.weightsEach, List.map_cons, List.mem_append, List.map_nil]
    simp [hx]) h
  have s1 := (slE_sized Tryz.underlying29 by_slot hs h1).1
  obtain ⟨s2, s3⟩ := code_sized hc h2
  simp only [reachBytes] at s1 s2
  exact ⟨hok, by omega, by omega, fun i hi => by have := (s3 i hi).sz; omega⟩
theorem obj_cp {q : Og} {d : DataW H} (hE : OgE w q d) (h : (d.weights Tryz.prog 72).all (· ≤ reachBytes) = true) : OgOK w q ∧ q.bs.length * 1 ≤ 140737488355328 ∧ q.rls.length * 24 ≤ 140737488355328 := by
  have hok := obj_sized hE h
  obtain ⟨bd, rd, rfl, hb, hr⟩ := hE.dat
  have hu := Tryz.underlying72
  have hu2 := Tryz.underlying70
  have h1 := all_part (d := bd) (e := 67) (fun x hx => by
    simp only [DataW.weights, hu]
    simp only [DataW.weightsEach, List.map_cons, List.mem_append, List.map_nil]
    simp only [DataW.weights, hu2]
    simp only [DataW.weightsEach, List.map_cons, List.mem_append, List.map_nil]
    simp [hx]) h
  have h2 := all_part (d := rd) (e := 68) (fun x hx => by
    simp only [DataW.weights, hu]
    simp only [DataW.weightsEach, List.map_cons, List.mem_append, List.map_nil]
    simp only [DataW.weights, hu2]
    simp only [DataW.weightsEach, List.map_cons, List.mem_append, List.map_nil]
    simp [hx]) h
  have s1 := (slE_sized Tryz.underlying67 by_byte hb h1).1
  have s2 := (slE_sized Tryz.underlying68 by_rel hr h2).1
  simp only [reachBytes] at s1 s2
  exact ⟨hok, by omega, by omega⟩
theorem cp_arg {W0 : World} {cs : Array Value} {d : DataW H} {ps : List MemPlace} (h : DataW.Trod enc Tryz.prog W0 base spare held 25 (.agg cs) d ps) (hcs : (Value.agg cs).cells = cs) (hw : (d.weights Tryz.prog 25).all (· ≤ reachBytes) = true) :
    ∃ (x : Pg) (a : Pw), Value.agg cs = pgV x a ∧ CpIn W0 x a := by
  obtain ⟨n, hn⟩ := h
  obtain ⟨y, a, e, hO, hF, hm, od, fd, hx, ho, hf⟩ := open_prog hn
  simp only at hx
  subst hx
  have hu := Tryz.underlying25
  have h1 := all_part (d := od) (e := 22) (fun x hx => by
    simp only [DataW.weights, hu]
    simp only [DataW.weightsEach, List.map_cons, List.mem_append, List.map_nil]
    simp [hx]) hw
  have h2 := all_part (d := fd) (e := 23) (fun x hx => by
    simp only [DataW.weights, hu]
    simp only [DataW.weightsEach, List.map_cons, List.mem_append, List.map_nil]
    simp [hx]) hw
  obtain ⟨s1, s2⟩ := slE_sized Tryz.underlying22 by_obj ho h1
  obtain ⟨s3, s4⟩ := slE_sized Tryz.underlying23 by_func hf h2
  simp only [reachBytes] at s1 s3
  have hG : ∀ q ∈ y.fns, FgOK W0 q ∧ q.sls.length * 16 ≤ 140737488355328 ∧ q.code.length * 112 ≤ 140737488355328 ∧ ∀ i ∈ q.code, i.x.args.length * 16 ≤ 140737488355328 := fun q hq => by obtain ⟨d, hE, hd⟩ := s4 q hq; exact func_cp hE hd
  have hK : ∀ q ∈ y.obs, OgOK W0 q ∧ q.bs.length * 1 ≤ 140737488355328 ∧ q.rls.length * 24 ≤ 140737488355328 := fun q hq => by obtain ⟨d, hE, hd⟩ := s2 q hq; exact obj_cp hE hd
  refine ⟨y, a, ?_, ⟨⟨hO, by omega, fun q hq => (hK q hq).1, hF, by omega, fun q hq => (hG q hq).1⟩, Nat.le_trans s1 (by decide), Nat.le_trans s3 (by decide), fun q hq => (hK q hq).2, fun q hq => (hG q hq).2⟩⟩
  rw [hcs] at e
  show Value.agg cs = Value.agg _
  congr 1
  exact Array.ext' e
end
end Go.Proofs.YtaaphipbkpjkjaaGreatDoor
namespace Go.Proofs.YtaaphipbkpjkjaaGreatDoor
open Go.ChangeShapes Go.WideShapes Go.ChangeAt Go.RowKit Go.ChangeMaps
set_option linter.unusedVariables false

set_option maxRecDepth 100000 in
theorem back_lifted (os : Os) (started : os.Started) (H : Type) (enc : TypeId × Value → H) :
    ReturnsInHanded {} Tryz.checked os 8 .any (fun w args => (Rows.tacBackSpec.pre enc Tryz.prog Tryz.f8 [] false w args ∧ laidMetH Tryz.prog Rows.tacBackRow.laid w) ∧ sizedMet enc Tryz.prog Tryz.f8 (OpenSpec.ofChange Rows.tacBackSpec) false w args)
      (Rows.tacBackSpec.post enc Tryz.prog Tryz.f8 false true false false) := by
  refine lift_law_sized (C := Tryz.checked) (X := fun w _ => laidMetH Tryz.prog Rows.tacBackRow.laid w) (fun _ _ _ hh h => h.of_heap hh) ownK started (by kernel_rfl) Tryz.func8
    (ChangeSpec.witness_shaped (enc := enc) (C := Tryz.checked) (os := os) (X := fun w _ => laidMetH Tryz.prog Rows.tacBackRow.laid w) false (World.laidAll Tryz.prog os Rows.tacBackRow.laid) #[.agg #[.slice none 0 0, .slice none 0 0, .int .i64 0]] 8 (World.laidAll_os _ _ _)
      (World.shaped_of_ZipB (by kernel_rfl) (by kernel_rfl)) (by kernel_rfl) (by kernel_rfl) (by kernel_rfl)
      (by rw [MakeChecks.laidMetH_plain _ _ _ (by kernel_rfl)]; exact laidMet_laidAll _ (by kernel_rfl) (by kernel_rfl))) ?_
  intro W base args ds gs before hval0 hW hsz0 hL hsh
  have hval : ∀ (j : Nat) t v, Tryz.f8.params[j]? = some t → args[j]? = some v → Value.okWide Tryz.prog W .any base t v := hval0
  have hW' := hW
  obtain ⟨p, q, hA0, hV, rfl, hfz, hnd⟩ := hW
  have hA : DataW.TrodAll enc Tryz.prog W 0 (fun _ => true) true Tryz.f8.params.toList args.toList ds p := hA0
  rw [Tryz.params8] at hA hval
  have hsz : (DataW.weightsEach Tryz.prog (Tryz.f8.params.toList ++ Rows.tacBackSpec.plain.varTypes Tryz.prog) (ds ++ gs)).all (· ≤ reachBytes) = true := hsz0
  rw [Tryz.params8] at hsz
  clear hA0 hval0 hsz0
  obtain ⟨v0, d0, rfl, rfl, h0⟩ := trodAll_one hA
  obtain ⟨rfl, rfl⟩ := trodVars_none hV
  obtain ⟨cs, rfl, hcs⟩ := okWide_struct Tryz.underlying25 (hval 0 25 v0 rfl rfl)
  have lt0 : ∀ x ∈ p, x.block < W.heap.size := by obtain ⟨n, hn⟩ := h0; exact DataW.trod_lt n _ _ _ hn
  have hw0 : (d0.weights Tryz.prog 25).all (· ≤ reachBytes) = true := by
    rw [List.all_eq_true] at hsz ⊢
    exact fun x hx => hsz x (List.mem_append_left _ hx)
  obtain ⟨x, a, he, hG⟩ := cp_arg h0 rfl hw0
  have hL' : laidMetH Tryz.prog Rows.tacNextsRow.laid W := hL
  rw [he]
  refine (tacBack_c hG.ok (prW_of hL') (maxLen_cell W hsh) (size_of hL')).mono fun e W' ⟨he', bel⟩ => ?_
  subst he'
  rw [← he]
  exact ⟨_, rfl, _, _, _, [], _, [], hW', trodAll_mk1 (shut_bool Tryz.underlying4 _), trodAll_mk1 (Below.trod laidOut (by kernel_rfl) (of_decide_eq_true (by kernel_rfl)) h0 bel lt0), rfl, bel.frame _, fun h => by cases h⟩

theorem back_row : Rows.TacBackSaid :=
  OpenClaim.holds_of_wide 8 Tryz.f8 rfl rfl rfl rfl rfl rfl rfl ⟨rfl, rfl, rfl, rfl, rfl⟩ rfl rfl rfl rfl rfl (by kernel_rfl) Tryz.func8 (by kernel_rfl)
    (of_decide_eq_true (by kernel_rfl)) (by unfold Func.isWrapper; first | (rw [if_pos (by decide +kernel)]; kernel_rfl) | (rw [if_neg (by decide +kernel)]; exact ⟨rfl, rfl⟩))
    (fun os started H enc _ => back_lifted os started H enc)

theorem back_holds : Rows.TacBackCardSaid :=
  Claim7.holds_tied_plain_at .later [] [.data, .data, .data, .data, .data, .sentinel, .sentinel, .data, .pinned] true Rows.tacBackCard.stood.harness true
    back_row (fun _ h => by cases h) (by kernel_rfl) (fun _ h => by cases h) tacBack_row_tie rfl ⟨rfl, rfl⟩ (by kernel_rfl) rfl
    (fun f fn hf hfn => by
      obtain rfl : f = 8 := Option.some.inj ((show Tryz.prog.funcNamed Rows.tacBackRow.func = some 8 by kernel_rfl).symm.trans hf) |>.symm
      obtain rfl : fn = Tryz.f8 := (Option.some.inj (Tryz.func8.symm.trans hfn)).symm
      exact ⟨by kernel_rfl, fun j t ht => by
        rw [Tryz.params8] at ht
        have hm : t ∈ [25] := by simpa using Array.mem_of_getElem? ht
        have hall : ([25].all fun u => !Tryz.prog.wantsStandIn u) = true := by kernel_rfl
        exact (show Tryz.prog.wantsStandIn t = false by simpa using List.all_eq_true.1 hall t hm)⟩)
    (by kernel_rfl)
#print axioms back_holds
end Go.Proofs.YtaaphipbkpjkjaaGreatDoor
