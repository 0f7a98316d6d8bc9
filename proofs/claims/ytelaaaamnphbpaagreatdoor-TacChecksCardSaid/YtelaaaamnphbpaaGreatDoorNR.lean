/-
  Package tac's Check answers as the document's (mortiselaw13.TacChecks): for every program the law answers true. No condition beside the row's own (the listed tables are as their text lays them).
  The law that package tac's Check answers as the document's, at every program that came in.
  Programs that came in: their rows are small enough to be copied.
-/
import Derived.Test.YtelaaaamnphbpaaGreatDoorThN
import Derived.Test.YtelaaaamnphbpaaGreatDoorTiB
import Derived.Test.YtelaaaamnphbpaaGreatDoorTiC
import Derived.Test.YtelaaaamnphbpaaGreatDoorNQ
import Derived.Test.YtelaaaamnphbpaaGreatDoorTcJ
import Derived.Test.YtelaaaamnphbpaaGreatDoorNS
import Derived.Test.YtelaaaamnphbpaaGreatDoorTfF
namespace Go.Proofs.YtelaaaamnphbpaaGreatDoor
open Go.RowKit Go.Maps
set_option linter.unusedVariables false
set_option linter.unusedSimpArgs false
set_option maxRecDepth 100000
section
variable {w : World}
set_option maxHeartbeats 16000000 in
theorem tacChecks_c {x : Pg} {a : Pw} (hC : CpIn w x a) (hP : PrW w) (hM : MaxIn w) (hg : 10 ≤ w.heap.size) :
    Calls Tryz.prog 4 #[pgV x a] w fun e w' => e = .returned (.bool true) ∧ Below w.heap.size w w' := by
  have b1 := below1 w (.cells #[.slice a.op x.obs.length a.oc, .slice a.fp x.fns.length a.fc, .int .i64 x.mn] TPg)
  have N1 : Hid ((w.alloc (.cells #[.slice a.op x.obs.length a.oc, .slice a.fp x.fns.length a.fc, .int .i64 x.mn] TPg)).heap[w.heap.size]? = some (.cells #[.slice a.op x.obs.length a.oc, .slice a.fp x.fns.length a.fc, .int .i64 x.mn] TPg (0, 0))) := heap_r0 w _
  have HB1 : Hid (Below w.heap.size w (w.alloc (.cells #[.slice a.op x.obs.length a.oc, .slice a.fp x.fns.length a.fc, .int .i64 x.mn] TPg))) := b1
  have cC := rCopyAll_c (hC.below b1)
  have HX : Hid (∀ Y, Below w.heap.size w Y → PgOK Y x a) := fun Y hY => hC.ok.below hY
  have HPR : Hid (∀ Y, Below w.heap.size w Y → PrW Y ∧ MaxIn Y ∧ 10 ≤ Y.heap.size) := fun Y hY => ⟨hP.below hY, hM.below hY, Nat.le_trans hg hY.size⟩
  have c0 := (Lib.cell_of_heap N1.out 0).trans rfl
  have c1 := (Lib.cell_of_heap N1.out 1).trans rfl
  have c2 := (Lib.cell_of_heap N1.out 2).trans rfl
  unfold pgV at cC ⊢
  clear b1 hC hP hM hg
  go_enter Tryz.func4, Tryz.ntmps4
  go_upto_region 1 with (fail)
  refine (?_ : Code.wp _ _ _ _ (w.alloc (.cells #[.slice a.op x.obs.length a.oc, .slice a.fp x.fns.length a.fc, .int .i64 x.mn] TPg)))
  generalize w.alloc (.cells #[.slice a.op x.obs.length a.oc, .slice a.fp x.fns.length a.fc, .int .i64 x.mn] TPg) = W1 at *
  go_upto_region 2 with (first
    | (go_at_call 14; refine cC.mono ?_; rintro e w2 ⟨y, b, rfl, heq, hown, hb2⟩; unfold pgV; have hold := heap_r0 w2 (.cells #[.slice none 0 0, .slice none 0 0, .int .i64 0] TPg); have HEQ : Hid (PgEq x y) := heq; have HOWN : Hid (PgOwn W1.heap.size w2 y b) := hown; have HB2 : Hid (Below W1.heap.size W1 w2) := hb2; clear cC heq hown hb2)
    | ((with_reducible apply step_store hold); rfl; rfl; kernel_rfl; rfl; kernel_rfl; rw [World.setRow_alloc_new])
    | fail)
  refine (?_ : Code.wp _ _ _ _ (w2.alloc (.cells #[.slice b.op y.obs.length b.oc, .slice b.fp y.fns.length b.fc, .int .i64 y.mn] TPg)))
  have b3 := below1 w2 (.cells #[.slice b.op y.obs.length b.oc, .slice b.fp y.fns.length b.fc, .int .i64 y.mn] TPg)
  have N3 : Hid ((w2.alloc (.cells #[.slice b.op y.obs.length b.oc, .slice b.fp y.fns.length b.fc, .int .i64 y.mn] TPg)).heap[w2.heap.size]? = some (.cells #[.slice b.op y.obs.length b.oc, .slice b.fp y.fns.length b.fc, .int .i64 y.mn] TPg (0, 0))) := heap_r0 w2 _
  have HB3 : Hid (Below W1.heap.size W1 (w2.alloc (.cells #[.slice b.op y.obs.length b.oc, .slice b.fp y.fns.length b.fc, .int .i64 y.mn] TPg))) := HB2.out.trans (b3.mono HB2.out.size)
  have HY : Hid (∀ Y, SH (w2.alloc (.cells #[.slice b.op y.obs.length b.oc, .slice b.fp y.fns.length b.fc, .int .i64 y.mn] TPg)) Y → PgOK Y y b) := fun Y hY => ((HOWN.out.ok HEQ.out (HX.out W1 HB1.out)).below b3).below hY
  clear b3 hold HB2 HOWN
  generalize w2.alloc (.cells #[.slice b.op y.obs.length b.oc, .slice b.fp y.fns.length b.fc, .int .i64 y.mn] TPg) = W3 at *
  generalize w2.heap.size = ob at *
  have HBW : Hid (∀ Y, SH W3 Y → Below w.heap.size w Y) := fun Y h => HB1.out.trans ((HB3.out.trans (Below.mono h HB3.out.size)).mono HB1.out.size)
  have HB13 : Hid (Below W1.heap.size W1 W3) := HB3.out
  obtain ⟨R, hR⟩ : ∃ R : Int, R = if checkB x then 0 else 130 := ⟨_, rfl⟩
  have HSM : Hid (checkB y = checkB x) := checkB_same HEQ.out
  have hrr : (R == R) = true := by simp
  have k1 : ∀ Z : SAT W3, Calls Tryz.prog 9 #[.agg #[.slice b.op y.obs.length b.oc, .slice b.fp y.fns.length b.fc, .int .i64 y.mn]] Z.val fun e w' => e = .returned (.int .i64 R) ∧ ∃ Z' : SAT W3, w' = Z'.val := fun Z => by
    have p := HPR.out Z.val (HBW.out Z.val Z.ok)
    have c := check_c (HY.out Z.val Z.ok) p.1.forms p.1.names p.1.pos
    rw [HSM.out, ← hR] at c
    exact c.mono fun e w' ⟨he, hb⟩ => ⟨he, ⟨w', SH.below Z.ok hb⟩, rfl⟩
  have k2 : ∀ Z : SAT W3, Calls Tryz.prog 15 #[.agg #[.slice a.op x.obs.length a.oc, .slice a.fp x.fns.length a.fc, .int .i64 x.mn]] Z.val fun e w' => e = .returned (.int .i64 R) ∧ ∃ Z' : SAT W3, w' = Z'.val := fun Z => by
    have p := HPR.out Z.val (HBW.out Z.val Z.ok)
    have c := rCheck_c (HX.out Z.val (HBW.out Z.val Z.ok)) p.1.names
    rw [← hR] at c
    exact c.mono fun e w' ⟨he, hb⟩ => ⟨he, ⟨w', SH.below Z.ok hb⟩, rfl⟩
  have k3 : ∀ Z : SAT W3, Calls Tryz.prog 16 #[.agg #[.slice b.op y.obs.length b.oc, .slice b.fp y.fns.length b.fc, .int .i64 y.mn], .agg #[.slice a.op x.obs.length a.oc, .slice a.fp x.fns.length a.fc, .int .i64 x.mn]] Z.val fun e w' => e = .returned (.bool true) ∧ ∃ Z' : SAT W3, w' = Z'.val := fun Z =>
    (rProgA_c (HY.out Z.val Z.ok) (HX.out Z.val (HBW.out Z.val Z.ok)) HEQ.out.symm).mono fun e w' ⟨he, hb⟩ => ⟨he, ⟨w', SH.below Z.ok hb⟩, rfl⟩
  have k4 : ∀ Z : SAT W3, Calls Tryz.prog 10 #[] Z.val fun e w' => e = .returned (.bool true) ∧ ∃ Z' : SAT W3, w' = Z'.val := fun Z => by
    have p := HPR.out Z.val (HBW.out Z.val Z.ok)
    exact (heads_c p.1 p.2.1 p.2.2).mono fun e w' ⟨he, hb⟩ => ⟨he, ⟨w', SH.below Z.ok hb⟩, rfl⟩
  have F0 : ∀ Z : SAT W3, Z.val.cell? ⟨w.heap.size, 0, none⟩ = some (.slice a.op x.obs.length a.oc) := fun Z => (Lib.cell_of_heap (blk_b N1.out (HB13.out.trans (Below.mono Z.ok HB13.out.size))) 0).trans rfl
  have F1 : ∀ Z : SAT W3, Z.val.cell? ⟨w.heap.size, 1, none⟩ = some (.slice a.fp x.fns.length a.fc) := fun Z => (Lib.cell_of_heap (blk_b N1.out (HB13.out.trans (Below.mono Z.ok HB13.out.size))) 1).trans rfl
  have F2 : ∀ Z : SAT W3, Z.val.cell? ⟨w.heap.size, 2, none⟩ = some (.int .i64 x.mn) := fun Z => (Lib.cell_of_heap (blk_b N1.out (HB13.out.trans (Below.mono Z.ok HB13.out.size))) 2).trans rfl
  have G0 : ∀ Z : SAT W3, Z.val.cell? ⟨ob, 0, none⟩ = some (.slice b.op y.obs.length b.oc) := fun Z => (Lib.cell_of_heap (blk_b N3.out Z.ok) 0).trans rfl
  have G1 : ∀ Z : SAT W3, Z.val.cell? ⟨ob, 1, none⟩ = some (.slice b.fp y.fns.length b.fc) := fun Z => (Lib.cell_of_heap (blk_b N3.out Z.ok) 1).trans rfl
  have G2 : ∀ Z : SAT W3, Z.val.cell? ⟨ob, 2, none⟩ = some (.int .i64 y.mn) := fun Z => (Lib.cell_of_heap (blk_b N3.out Z.ok) 2).trans rfl
  have HS0 : Hid (SH W3 W3.drew) := SH.drew (Below.refl _ _)
  clear c0 c1 c2 hR
  refine wp_region_sub (W := W3) (by kernel_rfl) (by kernel_rfl) HS0.out ?_
  repeat (go_big_quiet_step (first | (with_reducible exact k1 _) | (with_reducible exact k2 _) | (with_reducible exact k3 _) | (with_reducible exact k4 _)))
  refine wpQuiet_nil ?_
  intro wq hq
  obtain ⟨⟨Zq, hZ⟩, hq2⟩ := hq
  have HBQ : Hid (Below w.heap.size w wq) := by rw [hq2]; exact HBW.out Zq hZ
  clear hq2
  go_wp2
  go_ret
  exact ⟨rfl, HBQ.out⟩
end
end Go.Proofs.YtelaaaamnphbpaaGreatDoor
namespace Go.Proofs.YtelaaaamnphbpaaGreatDoor
open Go.ChangeShapes Go.WideShapes Go.ChangeAt Go.RowKit
set_option linter.unusedVariables false
set_option linter.unusedSimpArgs false
set_option maxRecDepth 100000
section
variable {H : Type} {enc : TypeId × Value → H} {w : World} {base : Nat} {spare : Nat → Bool} {held : Bool}
theorem func_cp {q : Fg} {d : DataW H} (hE : FgE w q d) (h : (d.weights Tryz.prog 32).all (· ≤ reachBytes) = true) : FgOK w q ∧ q.sls.length * 16 ≤ 140737488355328 ∧ q.code.length * 112 ≤ 140737488355328 ∧ ∀ i ∈ q.code, i.x.args.length * 16 ≤ 140737488355328 := by
  have hok := (func_sized hE h).ok
  obtain ⟨sd, cd, rfl, hs, hc⟩ := hE.dat
  have hu := Tryz.underlying32
  have h1 := all_part (d := sd) (e := 29) (fun x hx => by
    simp only [DataW.weights, hu]
    simp only [DataW.weightsEach, List.map_cons, List.mem_append, List.map_nil]
    simp [hx]) h
  have h2 := all_part (d := cd) (e := 30) (fun x hx => by
    simp only [DataW.weights, hu]
    simp only [DataW.weightsEach, List.map_cons, List.mem_append, List.map_nil]
    simp [hx]) h
  have s1 := (slE_sized Tryz.underlying29 by_slot hs h1).1
  obtain ⟨s2, s3⟩ := code_sized hc h2
  simp only [reachBytes] at s1 s2
  exact ⟨hok, by omega, by omega, fun i hi => by have := (s3 i hi).sz; omega⟩
theorem obj_cp {q : Og} {d : DataW H} (hE : OgE w q d) (h : (d.weights Tryz.prog 72).all (· ≤ reachBytes) = true) : OgOK w q ∧ q.bs.length * 1 ≤ 140737488355328 ∧ q.rls.length * 24 ≤ 140737488355328 := by
  have hok := obj_sized hE h
  obtain ⟨bd, rd, rfl, hb, hr⟩ := hE.dat
  have hu := Tryz.underlying72
  have hu2 := Tryz.underlying70
  have h1 := all_part (d := bd) (e := 67) (fun x hx => by
    simp only [DataW.weights, hu]
    simp only [DataW.weightsEach, List.map_cons, List.mem_append, List.map_nil]
    simp only [DataW.weights, hu2]
    simp only [DataW.weightsEach, List.map_cons, List.mem_append, List.map_nil]
    simp [hx]) h
  have h2 := all_part (d := rd) (e := 68) (fun x hx => by
    simp only [DataW.weights, hu]
    simp only [DataW.weightsEach, List.map_cons, List.mem_append, List.map_nil]
    simp only [DataW.weights, hu2]
    simp only [DataW.weightsEach, List.map_cons, List.mem_append, List.map_nil]
    simp [hx]) h
  have s1 := (slE_sized Tryz.underlying67 by_byte hb h1).1
  have s2 := (slE_sized Tryz.underlying68 by_rel hr h2).1
  simp only [reachBytes] at s1 s2
  exact ⟨hok, by omega, by omega⟩
theorem cp_arg {W0 : World} {cs : Array Value} {d : DataW H} {ps : List MemPlace} (h : DataW.Trod enc Tryz.prog W0 base spare held 25 (.agg cs) d ps) (hcs : (Value.agg cs).cells = cs) (hw : (d.weights Tryz.prog 25).all (· ≤ reachBytes) = true) :
    ∃ (x : Pg) (a : Pw), Value.agg cs = pgV x a ∧ CpIn W0 x a := by
  obtain ⟨n, hn⟩ := h
  obtain ⟨y, a, e, hO, hF, hm, od, fd, hx, ho, hf⟩ := open_prog hn
  simp only at hx
  subst hx
  have hu := Tryz.underlying25
  have h1 := all_part (d := od) (e := 22) (fun x hx => by
    simp only [DataW.weights, hu]
    simp only [DataW.weightsEach, List.map_cons, List.mem_append, List.map_nil]
    simp [hx]) hw
  have h2 := all_part (d := fd) (e := 23) (fun x hx => by
    simp only [DataW.weights, hu]
    simp only [DataW.weightsEach, List.map_cons, List.mem_append, List.map_nil]
    simp [hx]) hw
  obtain ⟨s1, s2⟩ := slE_sized Tryz.underlying22 by_obj ho h1
  obtain ⟨s3, s4⟩ := slE_sized Tryz.underlying23 by_func hf h2
  simp only [reachBytes] at s1 s3
  have hG : ∀ q ∈ y.fns, FgOK W0 q ∧ q.sls.length * 16 ≤ 140737488355328 ∧ q.code.length * 112 ≤ 140737488355328 ∧ ∀ i ∈ q.code, i.x.args.length * 16 ≤ 140737488355328 := fun q hq => by obtain ⟨d, hE, hd⟩ := s4 q hq; exact func_cp hE hd
  have hK : ∀ q ∈ y.obs, OgOK W0 q ∧ q.bs.length * 1 ≤ 140737488355328 ∧ q.rls.length * 24 ≤ 140737488355328 := fun q hq => by obtain ⟨d, hE, hd⟩ := s2 q hq; exact obj_cp hE hd
  refine ⟨y, a, ?_, ⟨⟨hO, by omega, fun q hq => (hK q hq).1, hF, by omega, fun q hq => (hG q hq).1⟩, Nat.le_trans s1 (by decide), Nat.le_trans s3 (by decide), fun q hq => (hK q hq).2, fun q hq => (hG q hq).2⟩⟩
  rw [hcs] at e
  show Value.agg cs = Value.agg _
  congr 1
  exact Array.ext' e
end
end Go.Proofs.YtelaaaamnphbpaaGreatDoor
namespace Go.Proofs.YtelaaaamnphbpaaGreatDoor
open Go.ChangeShapes Go.WideShapes Go.ChangeAt Go.RowKit Go.ChangeMaps
set_option linter.unusedVariables false

set_option maxRecDepth 100000 in
theorem checks_lifted (os : Os) (started : os.Started) (H : Type) (enc : TypeId × Value → H) :
    ReturnsInHanded {} Tryz.checked os 4 .any (fun w args => (Rows.tacChecksSpec.pre enc Tryz.prog Tryz.f4 [] false w args ∧ laidMetH Tryz.prog Rows.tacChecksRow.laid w) ∧ sizedMet enc Tryz.prog Tryz.f4 (OpenSpec.ofChange Rows.tacChecksSpec) false w args)
      (Rows.tacChecksSpec.post enc Tryz.prog Tryz.f4 false true false false) := by
  refine lift_law_sized (C := Tryz.checked) (X := fun w _ => laidMetH Tryz.prog Rows.tacChecksRow.laid w) (fun _ _ _ hh h => h.of_heap hh) ownK started (by kernel_rfl) Tryz.func4
    (ChangeSpec.witness_shaped (enc := enc) (C := Tryz.checked) (os := os) (X := fun w _ => laidMetH Tryz.prog Rows.tacChecksRow.laid w) false (World.laidAll Tryz.prog os Rows.tacChecksRow.laid) #[.agg #[.slice none 0 0, .slice none 0 0, .int .i64 0]] 8 (World.laidAll_os _ _ _)
      (World.shaped_of_ZipB (by kernel_rfl) (by kernel_rfl)) (by kernel_rfl) (by kernel_rfl) (by kernel_rfl)
      (by rw [MakeChecks.laidMetH_plain _ _ _ (by kernel_rfl)]; exact laidMet_laidAll _ (by kernel_rfl) (by kernel_rfl))) ?_
  intro W base args ds gs before hval0 hW hsz0 hL hsh
  have hval : ∀ (j : Nat) t v, Tryz.f4.params[j]? = some t → args[j]? = some v → Value.okWide Tryz.prog W .any base t v := hval0
  have hW' := hW
  obtain ⟨p, q, hA0, hV, rfl, hfz, hnd⟩ := hW
  have hA : DataW.TrodAll enc Tryz.prog W 0 (fun _ => true) true Tryz.f4.params.toList args.toList ds p := hA0
  rw [Tryz.params4] at hA hval
  have hsz : (DataW.weightsEach Tryz.prog (Tryz.f4.params.toList ++ Rows.tacChecksSpec.plain.varTypes Tryz.prog) (ds ++ gs)).all (· ≤ reachBytes) = true := hsz0
  rw [Tryz.params4] at hsz
  clear hA0 hval0 hsz0
  obtain ⟨v0, d0, rfl, rfl, h0⟩ := trodAll_one hA
  obtain ⟨rfl, rfl⟩ := trodVars_none hV
  obtain ⟨cs, rfl, hcs⟩ := okWide_struct Tryz.underlying25 (hval 0 25 v0 rfl rfl)
  have lt0 : ∀ x ∈ p, x.block < W.heap.size := by obtain ⟨n, hn⟩ := h0; exact DataW.trod_lt n _ _ _ hn
  have hw0 : (d0.weights Tryz.prog 25).all (· ≤ reachBytes) = true := by
    rw [List.all_eq_true] at hsz ⊢
    exact fun x hx => hsz x (List.mem_append_left _ hx)
  obtain ⟨x, a, he, hG⟩ := cp_arg h0 rfl hw0
  have hL' : laidMetH Tryz.prog Rows.tacNextsRow.laid W := hL
  rw [he]
  refine (tacChecks_c hG (prW_of hL') (maxLen_cell W hsh) (size_of hL')).mono fun e W' ⟨he', bel⟩ => ?_
  subst he'
  rw [← he]
  exact ⟨_, rfl, _, _, _, [], _, [], hW', trodAll_mk1 (shut_bool Tryz.underlying4 _), trodAll_mk1 (Below.trod laidOut (by kernel_rfl) (of_decide_eq_true (by kernel_rfl)) h0 bel lt0), rfl, bel.frame _, fun h => by cases h⟩

theorem checks_row : Rows.TacChecksSaid :=
  OpenClaim.holds_of_wide 4 Tryz.f4 rfl rfl rfl rfl rfl rfl rfl ⟨rfl, rfl, rfl, rfl, rfl⟩ rfl rfl rfl rfl rfl (by kernel_rfl) Tryz.func4 (by kernel_rfl)
    (of_decide_eq_true (by kernel_rfl)) (by unfold Func.isWrapper; first | (rw [if_pos (by decide +kernel)]; kernel_rfl) | (rw [if_neg (by decide +kernel)]; exact ⟨rfl, rfl⟩))
    (fun os started H enc _ => checks_lifted os started H enc)

theorem checks_holds : Rows.TacChecksCardSaid :=
  Claim7.holds_tied_plain_at .later [] [.data, .data, .data, .data, .data, .sentinel, .sentinel, .data, .pinned] true Rows.tacChecksCard.stood.harness true
    checks_row (fun _ h => by cases h) (by kernel_rfl) (fun _ h => by cases h) tacChecks_row_tie rfl ⟨rfl, rfl⟩ (by kernel_rfl) rfl
    (fun f fn hf hfn => by
      obtain rfl : f = 4 := Option.some.inj ((show Tryz.prog.funcNamed Rows.tacChecksRow.func = some 4 by kernel_rfl).symm.trans hf) |>.symm
      obtain rfl : fn = Tryz.f4 := (Option.some.inj (Tryz.func4.symm.trans hfn)).symm
      exact ⟨by kernel_rfl, fun j t ht => by
        rw [Tryz.params4] at ht
        have hm : t ∈ [25] := by simpa using Array.mem_of_getElem? ht
        have hall : ([25].all fun u => !Tryz.prog.wantsStandIn u) = true := by kernel_rfl
        exact (show Tryz.prog.wantsStandIn t = false by simpa using List.all_eq_true.1 hall t hm)⟩)
    (by kernel_rfl)
#print axioms checks_holds
end Go.Proofs.YtelaaaamnphbpaaGreatDoor
