/- The given answer's function. -/
import Derived.Test.YtelaaaamnphbpaaGreatDoorKK
import Derived.Test.YtelaaaamnphbpaaGreatDoorNP
import Derived.Test.YtelaaaamnphbpaaGreatDoorKI
import Derived.Deep.RegionHeld3
namespace Go.Proofs.YtelaaaamnphbpaaGreatDoor
set_option maxHeartbeats 16000000
open Go.RowKit Go.Maps
set_option linter.unusedVariables false
set_option linter.unusedSimpArgs false
set_option maxRecDepth 100000
def namesB (l : List Fg) (i : Nat) (q : Fg) : Bool := (l.take i).all fun r => !(r.f.nm.toList == q.f.nm.toList)
def rfunB (x : Pg) (i : Nat) (q : Fg) : Bool := namesB x.fns i q && fun1 (x.obs.map Og.o) (x.fns.map Fg.f) q
def firstB (q : Fg) : Bool := tagP q.f.nm.data.toList && (withinP q.f.pr 0 8 && (decide (q.f.pr ≤ q.f.tp) && (decide (q.f.tp ≤ 4096) && (decide (q.sls.length ≤ 256) && withinP (q.code.length : Int) 1 16384))))
theorem rfunB_eq (x : Pg) (i : Nat) (q : Fg) : rfunB x i q = (firstB q && (namesB x.fns i q && ((q.sls.all fun s => roomB s.size s.align) && ((q.code.all fun z => rightB q.f.tp q.f.gv q.code.length q.sls (x.obs.map Og.o) (x.fns.map Fg.f) z.x) && lastB q.code)))) := by
 unfold rfunB firstB fun1 frameB codeB
 rw [show withinP q.f.tp q.f.pr 4096 = (decide (q.f.pr ≤ q.f.tp) && decide (q.f.tp ≤ 4096)) from rfl]
 generalize tagP q.f.nm.data.toList = b1
 generalize withinP q.f.pr 0 8 = b2
 generalize decide (q.f.pr ≤ q.f.tp) = b3
 generalize decide (q.f.tp ≤ 4096) = b4
 generalize decide (q.sls.length ≤ 256) = b5
 generalize withinP (q.code.length : Int) 1 16384 = b6
 generalize namesB x.fns i q = b7
 generalize (q.sls.all fun s => roomB s.size s.align) = b8
 generalize lastB q.code = b9
 generalize (q.code.all fun z => rightB q.f.tp q.f.gv q.code.length q.sls (x.obs.map Og.o) (x.fns.map Fg.f) z.x) = b10
 cases b1 <;> cases b2 <;> cases b3 <;> cases b4 <;> cases b5 <;> cases b6 <;> simp [Bool.and_comm, Bool.and_left_comm]
section
variable {w : World}
theorem rFunction_c {x : Pg} {a : Pw} (hP : PgOK w x a) (hN : NamesIn w) {i : Nat} {q : Fg} (hi : x.fns[i]? = some q) :
 Calls Tryz.prog 35 #[pgV x a, .int .i64 i] w fun e w' => e = .returned (.bool (rfunB x i q)) ∧ Below w.heap.size w w' := by
 rw [rfunB_eq]
 have HP : Hid (∀ Y, Below w.heap.size w Y → PgOK Y x a) := fun Y hY => hP.below hY
 have HNI : Hid (∀ Y, Below w.heap.size w Y → NamesIn Y) := fun Y hY => hN.below hY
 have HQ : Hid (∀ Y, Below w.heap.size w Y → FgOK Y q) := fun Y hY => (hP.fi q (List.mem_of_getElem? hi)).below hY
 obtain ⟨obs, fns, mn⟩ := x
 obtain ⟨aop, aoc, afp, afc⟩ := a
 obtain ⟨⟨nm, pr, tp, gv, sp, sn, sc, cp, cn, cc⟩, sls, code⟩ := q
 obtain rfl : sn = sls.length := (HQ.out w (Below.refl _ _)).sn
 obtain rfl : cn = code.length := (HQ.out w (Below.refl _ _)).cn
 unfold pgV
 simp only at hi ⊢
 have hfm := hP.fm
 have hsm := (HQ.out w (Below.refl _ _)).sm
 have hcm := (HQ.out w (Below.refl _ _)).cm
 have hnmx := (HQ.out w (Below.refl _ _)).nm
 simp only at hfm hsm hcm hnmx
 have hil : i < fns.length := (List.getElem?_eq_some_iff.1 hi).1
 obtain ⟨T0, hT0⟩ : ∃ T, T = firstB ⟨⟨nm, pr, tp, gv, sp, sls.length, sc, cp, code.length, cc⟩, sls, code⟩ := ⟨_, rfl⟩
 obtain ⟨NB, hNB⟩ : ∃ T, T = namesB fns i ⟨⟨nm, pr, tp, gv, sp, sls.length, sc, cp, code.length, cc⟩, sls, code⟩ := ⟨_, rfl⟩
 obtain ⟨SA, hSA⟩ : ∃ T, T = (sls.all fun s => roomB s.size s.align) := ⟨_, rfl⟩
 obtain ⟨CA, hCA⟩ : ∃ T, T = (code.all fun z => rightB tp gv code.length sls (obs.map Og.o) (fns.map Fg.f) z.x) := ⟨_, rfl⟩
 obtain ⟨LB, hLB⟩ : ∃ T, T = lastB code := ⟨_, rfl⟩
 rw [← hT0, ← hNB, ← hSA, ← hCA, ← hLB]
 obtain ⟨R, hR⟩ : ∃ R, R = (T0 && (NB && (SA && (CA && LB)))) := ⟨_, rfl⟩
 rw [← hR]
 have HR : Hid (R = _) := hR
 have HT0 : Hid (T0 = (tagP nm.data.toList && (withinP pr 0 8 && (decide (pr ≤ tp) && (decide (tp ≤ 4096) && (decide (sls.length ≤ 256) && withinP (code.length : Int) 1 16384)))))) := hT0
 have HNB : Hid (NB = ((fns.take i).all fun r => !(r.f.nm.toList == nm.toList))) := hNB
 have HSA : Hid (SA = _) := hSA
 have HCA : Hid (CA = _) := hCA
 have HLB : Hid (LB = _) := hLB
 have b1 := below1 w (.cells #[.slice aop obs.length aoc, .slice afp fns.length afc, .int .i64 mn] TPg)
 have N1 : Hid ((w.alloc (.cells #[.slice aop obs.length aoc, .slice afp fns.length afc, .int .i64 mn] TPg)).heap[w.heap.size]? = some (.cells #[.slice aop obs.length aoc, .slice afp fns.length afc, .int .i64 mn] TPg (0, 0))) := heap_r0 w _
 have HB : Hid (Below w.heap.size w (w.alloc (.cells #[.slice aop obs.length aoc, .slice afp fns.length afc, .int .i64 mn] TPg))) := b1
 have CT : Hid (∀ Y, Calls Tryz.prog 56 #[.string nm] Y fun e w' => e = .returned (.bool (tagP nm.data.toList)) ∧ w' = Y) := fun Y => refTag_c nm Y (by unfold maxLen at hnmx; omega)
 have CWP : Hid (∀ Y, Calls Tryz.prog 33 #[.int .i64 pr, .int .i64 0, .int .i64 8] Y fun e w' => e = .returned (.bool (withinP pr 0 8)) ∧ w' = Y) := fun Y => rwithin_c pr 0 8 Y
 have CWC : Hid (∀ Y, Calls Tryz.prog 33 #[.int .i64 code.length, .int .i64 1, .int .i64 16384] Y fun e w' => e = .returned (.bool (withinP (code.length : Int) 1 16384)) ∧ w' = Y) := fun Y => rwithin_c _ 1 16384 Y
 have nt := not_t
 have nf := not_f
 obtain ⟨g, o, hpe, hg, hc⟩ := (HP.out _ b1).fr.2 i _ hi
 simp only at hpe
 have hcap := (HP.out _ b1).fr.1.1
 simp only at hcap
 subst hpe
 have a0 := hc 0 (by omega)
 have a1 := hc 1 (by omega)
 have a2 := hc 2 (by omega)
 have a3 := hc 3 (by omega)
 have a4 := hc 4 (by omega)
 have a5 := hc 5 (by omega)
 simp only [fgC, fnC, List.getElem?_cons_zero, List.getElem?_cons_succ, Nat.add_zero] at a0 a1 a2 a3 a4 a5
 have c1 := (Lib.cell_of_heap N1.out 1).trans rfl
 clear hR hT0 hNB hSA hCA hLB hP hN hc hi b1
 go_enter Tryz.func35, Tryz.ntmps35
 go_upto_region 1 with (fail)
 refine (?_ : Code.wp _ _ _ _ (w.alloc (.cells #[.slice aop obs.length aoc, .slice (some ⟨g, o, none⟩) fns.length afc, .int .i64 mn] TPg)))
 generalize w.alloc (.cells #[.slice aop obs.length aoc, .slice (some ⟨g, o, none⟩) fns.length afc, .int .i64 mn] TPg) = W1 at *
 have hold := heap_r0 W1 (.cells #[.string ⟨#[]⟩, .int .i64 0, .int .i64 0, .bool false, .slice none 0 0, .slice none 0 0] TFn)
 have b5 := below1 W1 (.cells #[.string nm, .int .i64 pr, .int .i64 tp, .bool gv, .slice sp sls.length sc, .slice cp code.length cc] TFn)
 have N2 : Hid ((W1.alloc (.cells #[.string nm, .int .i64 pr, .int .i64 tp, .bool gv, .slice sp sls.length sc, .slice cp code.length cc] TFn)).heap[W1.heap.size]? = some (.cells #[.string nm, .int .i64 pr, .int .i64 tp, .bool gv, .slice sp sls.length sc, .slice cp code.length cc] TFn (0, 0))) := heap_r0 W1 _
 have NP : Hid ((W1.alloc (.cells #[.string nm, .int .i64 pr, .int .i64 tp, .bool gv, .slice sp sls.length sc, .slice cp code.length cc] TFn)).heap[w.heap.size]? = some (.cells #[.slice aop obs.length aoc, .slice (some ⟨g, o, none⟩) fns.length afc, .int .i64 mn] TPg (0, 0))) := blk_b N1.out b5
 have HB2 : Hid (Below w.heap.size w (W1.alloc (.cells #[.string nm, .int .i64 pr, .int .i64 tp, .bool gv, .slice sp sls.length sc, .slice cp code.length cc] TFn))) := HB.out.trans (b5.mono HB.out.size)
 clear b5 hg N1
 go_upto_region 2 with (first | ((with_reducible apply step_store hold); rfl; rfl; kernel_rfl; rfl; kernel_rfl; rw [World.setRow_alloc_new]) | fail)
 refine (?_ : Code.wp _ _ _ _ (W1.alloc (.cells #[.string nm, .int .i64 pr, .int .i64 tp, .bool gv, .slice sp sls.length sc, .slice cp code.length cc] TFn)))
 generalize W1.alloc (.cells #[.string nm, .int .i64 pr, .int .i64 tp, .bool gv, .slice sp sls.length sc, .slice cp code.length cc] TFn) = W2 at *
 generalize W1.heap.size = gf at *
 clear a0 a1 a2 a3 a4 a5 hold c1 HB
 have f0 := (Lib.cell_of_heap N2.out 0).trans rfl
 have f1 := (Lib.cell_of_heap N2.out 1).trans rfl
 have f2 := (Lib.cell_of_heap N2.out 2).trans rfl
 have f4 := (Lib.cell_of_heap N2.out 4).trans rfl
 have f5 := (Lib.cell_of_heap N2.out 5).trans rfl
 obtain ⟨F0, hF0⟩ : ∃ F, F = !T0 := ⟨_, rfl⟩
 have HF0 : Hid (F0 = !T0) := hF0
 clear hF0
 go_cut [49] from 15 to 49 (fun s wx => s = .bool F0 ∧ wx = W2)
 case first =>
  cases q1 : tagP nm.data.toList with
  | false =>
   have : T0 = false := by rw [HT0.out, q1]; rfl
   subst this
   go_wp2_with (first | (go_at_call 56; refine (CT.out _).mono ?_; rintro e w2 ⟨rfl, hw2⟩; rw [hw2, q1]; clear hw2 w2) | fail)
   go_meet
   exact ⟨by rw [HF0.out]; rfl, rfl⟩
  | true =>
   cases q2 : withinP pr 0 8 with
   | false =>
    have : T0 = false := by rw [HT0.out, q1, q2]; rfl
    subst this
    go_wp2_with (first | (go_at_call 56; refine (CT.out _).mono ?_; rintro e w2 ⟨rfl, hw2⟩; rw [hw2, q1]; clear hw2 w2) | (go_at_call 33; refine (CWP.out _).mono ?_; rintro e w2 ⟨rfl, hw2⟩; rw [hw2, q2]; clear hw2 w2) | fail)
    go_meet
    exact ⟨by rw [HF0.out]; rfl, rfl⟩
   | true =>
    by_cases h3 : tp < pr
    ·have d3 : decide (tp < pr) = true := by simpa using h3
     have : T0 = false := by rw [HT0.out, q1, q2, show decide (pr ≤ tp) = false by simp; omega]; rfl
     subst this
     go_wp2_with (first | (go_at_call 56; refine (CT.out _).mono ?_; rintro e w2 ⟨rfl, hw2⟩; rw [hw2, q1]; clear hw2 w2) | (go_at_call 33; refine (CWP.out _).mono ?_; rintro e w2 ⟨rfl, hw2⟩; rw [hw2, q2]; clear hw2 w2) | fail)
     go_meet
     exact ⟨by rw [HF0.out]; rfl, rfl⟩
    ·have d3 : decide (tp < pr) = false := by simpa using h3
     by_cases h4 : 4096 < tp
     ·have d4 : decide (4096 < tp) = true := by simpa using h4
      have : T0 = false := by rw [HT0.out, q1, q2, show decide (tp ≤ 4096) = false by simp; omega]; simp
      subst this
      go_wp2_with (first | (go_at_call 56; refine (CT.out _).mono ?_; rintro e w2 ⟨rfl, hw2⟩; rw [hw2, q1]; clear hw2 w2) | (go_at_call 33; refine (CWP.out _).mono ?_; rintro e w2 ⟨rfl, hw2⟩; rw [hw2, q2]; clear hw2 w2) | fail)
      go_meet
      exact ⟨by rw [HF0.out]; rfl, rfl⟩
     ·have d4 : decide (4096 < tp) = false := by simpa using h4
      by_cases h5 : 256 < sls.length
      ·have d5 : decide (256 < (sls.length : Int)) = true := by simp; omega
       have : T0 = false := by rw [HT0.out, q1, q2, show decide (sls.length ≤ 256) = false by simp; omega]; simp
       subst this
       go_wp2_with (first | (go_at_call 56; refine (CT.out _).mono ?_; rintro e w2 ⟨rfl, hw2⟩; rw [hw2, q1]; clear hw2 w2) | (go_at_call 33; refine (CWP.out _).mono ?_; rintro e w2 ⟨rfl, hw2⟩; rw [hw2, q2]; clear hw2 w2) | fail)
       go_meet
       exact ⟨by rw [HF0.out]; rfl, rfl⟩
      ·have d5 : decide (256 < (sls.length : Int)) = false := by simp; omega
       have hT : T0 = withinP (code.length : Int) 1 16384 := by rw [HT0.out, q1, q2, show decide (pr ≤ tp) = true by simp; omega, show decide (tp ≤ 4096) = true by simp; omega, show decide (sls.length ≤ 256) = true by simp; omega]; rfl
       have MK : Hid True := trivial
       rw [← hT] at CWC
       clear hT HT0
       cases T0 with
       | false =>
        go_wp2_with (first | (go_at_call 56; refine (CT.out _).mono ?_; rintro e w2 ⟨rfl, hw2⟩; rw [hw2, q1]; clear hw2 w2) | (have hx := MK; clear hx; go_at_call 33; refine (CWP.out _).mono ?_; rintro e w2 ⟨rfl, hw2⟩; rw [hw2, q2]; clear hw2 w2 MK) | (go_at_call 33; refine (CWC.out _).mono ?_; rintro e w2 ⟨rfl, hw2⟩; rw [hw2]; clear hw2 w2) | fail)
        go_meet
        exact ⟨by rw [HF0.out]; rfl, rfl⟩
       | true =>
        go_wp2_with (first | (go_at_call 56; refine (CT.out _).mono ?_; rintro e w2 ⟨rfl, hw2⟩; rw [hw2, q1]; clear hw2 w2) | (have hx := MK; clear hx; go_at_call 33; refine (CWP.out _).mono ?_; rintro e w2 ⟨rfl, hw2⟩; rw [hw2, q2]; clear hw2 w2 MK) | (go_at_call 33; refine (CWC.out _).mono ?_; rintro e w2 ⟨rfl, hw2⟩; rw [hw2]; clear hw2 w2) | fail)
        go_meet
        exact ⟨by rw [HF0.out]; rfl, rfl⟩
 case rest =>
  obtain ⟨rfl, rfl⟩ := hcut
  rename World => W2
  clear CT CWP CWC f1 f2 f4 f5
  cases F0 with
  | true =>
   obtain rfl : T0 = false := by have h := HF0.out; revert h; cases T0 <;> simp
   have HV : Hid (R = false) := by show R = _; rw [HR.out]; rfl
   go_wp2
   go_ret
   exact ⟨by rw [HV.out]; rfl, HB2.out⟩
  | false =>
   obtain rfl : T0 = true := by have h := HF0.out; revert h; cases T0 <;> simp
   have HR1 : Hid (R = (NB && (SA && (CA && LB)))) := by show R = _; rw [HR.out]; rfl
   have ht := HT0.out.symm
   rw [Bool.and_eq_true, Bool.and_eq_true, Bool.and_eq_true, Bool.and_eq_true, Bool.and_eq_true] at ht
   have hpr : 0 ≤ pr := by have h := ht.2.1; unfold withinP at h; simp at h; exact h.1
   have htp0 : 0 ≤ tp := by have h := ht.2.2.1; simp at h; omega
   have htp1 : tp ≤ 4096 := by have h := ht.2.2.2.1; simpa using h
   have hc1 : 1 ≤ code.length := by have h := ht.2.2.2.2.2; unfold withinP at h; simp at h; omega
   have HBW : Hid (Below W2.heap.size W2 W2) := Below.refl _ _
   clear HT0 HR ht hpr
   go_upto_region 5 with (fail)
   go_loopw [6] (fun kv wr => ∃ k : Nat, kv = .int .i64 k ∧ k ≤ i ∧ Hid (((fns.take k).all fun r => !(r.f.nm.toList == nm.toList)) = true) ∧ Hid (Below W2.heap.size W2 wr)) (fun kv _ => i - (intOf kv).toNat)
   case atStart => exact ⟨0, rfl, Nat.zero_le _, rfl, HBW⟩
   case round =>
    obtain ⟨k, rfl, hk, HAL, HRW⟩ := hrel
    have HBR : Hid (Below w.heap.size w wr) := HB2.out.trans (HRW.out.mono HB2.out.size)
    by_cases hlt : k < i
    ·obtain ⟨r, hs⟩ : ∃ s, fns[k]? = some s := ⟨_, List.getElem?_eq_getElem (by omega)⟩
     obtain ⟨g', o', he, hg', hc⟩ := (HP.out wr HBR.out).fr.2 k r hs
     simp only at he
     injection he with he
     injection he with e1 e2
     subst e1 e2
     have r0 := hc 0 (by omega)
     simp only [fgC, fnC, List.getElem?_cons_zero, Nat.add_zero] at r0
     have p1 := (Lib.cell_of_heap (blk_b NP.out HRW.out) 1).trans rfl
     have f0 := (Lib.cell_of_heap (blk_b N2.out HRW.out) 0).trans rfl
     have hkl : k < fns.length := by omega
     have HAT := all_take (p := fun r : Fg => !(r.f.nm.toList == nm.toList)) hs
     have HATH : Hid (((fns.take (k + 1)).all fun r => !(r.f.nm.toList == nm.toList)) = !(r.f.nm.toList == nm.toList)) := by show _ = _; rw [HAT, HAL.out, Bool.true_and]
     have HMEM : Hid ((r.f.nm.toList == nm.toList) = true → R = false) := fun hf => by
      have : NB = false := by
       rw [HNB.out, List.all_eq_false]
       exact ⟨r, List.mem_of_getElem? (show (fns.take i)[k]? = some r by rw [List.getElem?_take, if_pos hlt, hs]), by simp only [hf]; decide⟩
      rw [HR1.out, this]; rfl
     generalize r.f.nm = rnm at *
     clear hc hg' hs HAT
     cases hn : (rnm.toList == nm.toList) with
     | true =>
      have HV : Hid (R = false) := HMEM.out hn
      clear HMEM HATH
      go_upto_region 7 with (fail)
      go_quiet (fail)
      go_wp2
      go_ret
      exact ⟨by rw [HV.out]; rfl, HBR.out.trans (below_drewN _ wr nq)⟩
     | false =>
      have HN2 : Hid (((fns.take (k + 1)).all fun r => !(r.f.nm.toList == nm.toList)) = true) := by show _ = _; rw [HATH.out, hn]; rfl
      clear HMEM HATH
      go_upto_region 7 with (fail)
      go_quiet (fail)
      go_wp2
      exact ⟨⟨k + 1, by go_num, by omega, HN2, HRW.out.trans (below_drewN _ wr nq)⟩, by simp [intOf]; omega⟩
    ·obtain rfl : k = i := by omega
     have HR2 : Hid (R = (SA && (CA && LB))) := by show R = _; rw [HR1.out, HNB.out, HAL.out]; rfl
     have f4 := (Lib.cell_of_heap (blk_b N2.out HRW.out) 4).trans rfl
     clear HAL HNB HR1
     go_upto_region 10 with (fail)
     generalize wr = W3 at *
     go_loopw [7] (fun kv wx => ∃ k : Nat, kv = .int .i64 k ∧ k ≤ sls.length ∧ Hid (((sls.take k).all fun s => roomB s.size s.align) = true) ∧ wx = W3) (fun kv _ => sls.length - (intOf kv).toNat)
     case atStart => exact ⟨0, rfl, Nat.zero_le _, rfl, rfl⟩
     case round =>
      obtain ⟨k2, rfl, hk2, HAL2, hwx⟩ := hrel
      subst hwx
      rename World => W3
      by_cases hlt2 : k2 < sls.length
      ·obtain ⟨s, hs⟩ : ∃ s, sls[k2]? = some s := ⟨_, List.getElem?_eq_getElem hlt2⟩
       have hrow := (HQ.out W3 HBR.out).sl
       simp only at hrow
       obtain ⟨gs, os, he, hgs, hcs⟩ := hrow.2 k2 s hs
       have hcaps := hrow.1.1
       subst he
       have s0 := hcs 0 (by omega)
       have s1 := hcs 1 (by omega)
       simp only [slC, List.getElem?_cons_zero, List.getElem?_cons_succ, Nat.add_zero] at s0 s1
       have HAT := all_take (p := fun s : Slt => roomB s.size s.align) hs
       have HATH : Hid (((sls.take (k2 + 1)).all fun s => roomB s.size s.align) = roomB s.size s.align) := by show _ = _; rw [HAT, HAL2.out, Bool.true_and]
       have HMEM : Hid (roomB s.size s.align = false → R = false) := fun hf => by
        have : SA = false := by
         rw [HSA.out, List.all_eq_false]; exact ⟨s, List.mem_of_getElem? hs, by simp [hf]⟩
        rw [HR2.out, this]; rfl
       have CWS : Hid (∀ Y, Calls Tryz.prog 33 #[.int .i64 s.size, .int .i64 1, .int .i64 16384] Y fun e w' => e = .returned (.bool (withinP s.size 1 16384)) ∧ w' = Y) := fun Y => rwithin_c _ 1 16384 Y
       have CPS : Hid (∀ Y, Calls Tryz.prog 57 #[.int .i64 s.align] Y fun e w' => e = .returned (.bool (widthB s.align)) ∧ w' = Y) := fun Y => power_c s.align Y
       unfold roomB at HATH HMEM
       generalize withinP s.size 1 16384 = B1 at *
       generalize widthB s.align = B2 at *
       clear hcs hgs hs HAT hrow
       cases B1 with
       | false =>
        have HV : Hid (R = false) := HMEM.out rfl
        clear HMEM HATH
        go_wp2_with (first | (go_at_call 33; refine (CWS.out _).mono ?_; rintro e w2 ⟨rfl, hw2⟩; rw [hw2]; clear hw2 w2) | fail)
        go_ret
        exact ⟨by rw [HV.out]; rfl, HBR.out⟩
       | true =>
        cases B2 with
        | false =>
         have HV : Hid (R = false) := HMEM.out rfl
         clear HMEM HATH
         go_wp2_with (first | (go_at_call 33; refine (CWS.out _).mono ?_; rintro e w2 ⟨rfl, hw2⟩; rw [hw2]; clear hw2 w2) | (go_at_call 57; refine (CPS.out _).mono ?_; rintro e w2 ⟨rfl, hw2⟩; rw [hw2]; clear hw2 w2) | fail)
         go_ret
         exact ⟨by rw [HV.out]; rfl, HBR.out⟩
        | true =>
         have HATT : Hid (((sls.take (k2 + 1)).all fun s => roomB s.size s.align) = true) := HATH.out
         clear HMEM HATH
         go_wp2_with (first | (go_at_call 33; refine (CWS.out _).mono ?_; rintro e w2 ⟨rfl, hw2⟩; rw [hw2]; clear hw2 w2) | (go_at_call 57; refine (CPS.out _).mono ?_; rintro e w2 ⟨rfl, hw2⟩; rw [hw2]; clear hw2 w2) | fail)
         exact ⟨⟨k2 + 1, by go_num, by omega, HATT, by first | rfl | trivial⟩, by simp [intOf]; omega⟩
      ·obtain rfl : k2 = sls.length := by omega
       have HR3 : Hid (R = (CA && LB)) := by
        have h := HAL2.out
        rw [List.take_length] at h
        show R = _; rw [HR2.out, HSA.out, h]; rfl
       clear HAL2 HSA HR2
       go_upto_region 15 with (fail)
       clear f4
       go_loopw [8] (fun kv wr => ∃ k : Nat, kv = .int .i64 k ∧ k ≤ code.length ∧ Hid (((code.take k).all fun z => rightB tp gv code.length sls (obs.map Og.o) (fns.map Fg.f) z.x) = true) ∧ Hid (Below W2.heap.size W2 wr)) (fun kv _ => code.length - (intOf kv).toNat)
       case atStart => exact ⟨0, rfl, Nat.zero_le _, rfl, HRW⟩
       case round =>
        obtain ⟨k3, rfl, hk3, HAL3, HRW3⟩ := hrel
        have HBR3 : Hid (Below w.heap.size w wr) := HB2.out.trans (HRW3.out.mono HB2.out.size)
        have f5 := (Lib.cell_of_heap (blk_b N2.out HRW3.out) 5).trans rfl
        have hrow3 := (HQ.out wr HBR3.out).cr
        simp only at hrow3
        have hcap3 := hrow3.1.1
        by_cases hlt3 : k3 < code.length
        ·obtain ⟨z, hs⟩ : ∃ s, code[k3]? = some s := ⟨_, List.getElem?_eq_getElem hlt3⟩
         obtain ⟨gz, oz, he, hgz, hcz⟩ := hrow3.2 k3 z hs
         subst he
         have p0 : ∀ Y, SH wr Y → Y.cell? ⟨w.heap.size, 0, none⟩ = some (.slice aop obs.length aoc) := fun Y h => (Lib.cell_of_heap (blk_b NP.out (HRW3.out.trans (Below.mono h HRW3.out.size))) 0).trans rfl
         have p1 : ∀ Y, SH wr Y → Y.cell? ⟨w.heap.size, 1, none⟩ = some (.slice (some ⟨g, o, none⟩) fns.length afc) := fun Y h => (Lib.cell_of_heap (blk_b NP.out (HRW3.out.trans (Below.mono h HRW3.out.size))) 1).trans rfl
         have p2 : ∀ Y, SH wr Y → Y.cell? ⟨w.heap.size, 2, none⟩ = some (.int .i64 mn) := fun Y h => (Lib.cell_of_heap (blk_b NP.out (HRW3.out.trans (Below.mono h HRW3.out.size))) 2).trans rfl
         obtain ⟨m0, m1, m2, m3, m4, m5⟩ := sh6 (blk_b N2.out HRW3.out)
         obtain ⟨z0, z1, z2, z3, z4, z5, z6, z7, z8, z9, z10, z11⟩ := shrow12 z.x z.xp z.xc hgz hcz
         have HAT := all_take (p := fun z : Iw => rightB tp gv code.length sls (obs.map Og.o) (fns.map Fg.f) z.x) hs
         have HATH : Hid (((code.take (k3 + 1)).all fun z => rightB tp gv code.length sls (obs.map Og.o) (fns.map Fg.f) z.x) = rightB tp gv code.length sls (obs.map Og.o) (fns.map Fg.f) z.x) := by show _ = _; rw [HAT, HAL3.out, Bool.true_and]
         have HMEM : Hid (rightB tp gv code.length sls (obs.map Og.o) (fns.map Fg.f) z.x = false → R = false) := fun hf => by
          have : CA = false := by
           rw [HCA.out, List.all_eq_false]; exact ⟨z, List.mem_of_getElem? hs, by simp [hf]⟩
          rw [HR3.out, this]; rfl
         have CR : Hid (∀ Y, SH wr Y → Calls Tryz.prog 58 #[.agg #[.slice aop obs.length aoc, .slice (some ⟨g, o, none⟩) fns.length afc, .int .i64 mn], .agg #[.string nm, .int .i64 pr, .int .i64 tp, .bool gv, .slice sp sls.length sc, .slice (some ⟨gz, oz, none⟩) code.length cc], .agg #[.int .i64 z.x.op, .int .i64 z.x.bin, .int .i64 z.x.d, .int .i64 z.x.a.kind, .int .u32 z.x.a.n, .int .i64 z.x.b.kind, .int .u32 z.x.b.n, .int .i64 z.x.n, .int .i64 z.x.off, .int .i64 z.x.width, .bool z.x.sg, .slice z.xp z.x.args.length z.xc]] Y fun e w' => e = .returned (.bool (rightB tp gv code.length sls (obs.map Og.o) (fns.map Fg.f) z.x)) ∧ Below Y.heap.size Y w') := fun Y h => by
          have hY := HBR3.out.trans (Below.mono h HBR3.out.size)
          have p := HP.out Y hY
          have q := HQ.out Y hY
          have r := rRight_c (w := Y) (h := ⟨aop, obs.length, aoc, some ⟨g, o, none⟩, fns.length, afc, mn, nm, pr, tp, gv, sp, sls.length, sc, some ⟨gz, oz, none⟩, code.length, cc⟩) (sls := sls) (obs := obs.map Og.o) (fns := fns.map Fg.f)
           ⟨htp0, by show tp ≤ _; omega, by show code.length ≤ _; exact hcm, q.sl, rfl, hsm, RowV.map (C := obC) (f := Og.o) p.ob, by simp, by simpa using p.om, RowV.map (C := fnC) (f := Fg.f) p.fr, by simp, by simpa using hfm, HNI.out Y hY⟩ z.x (q.ci z (List.mem_of_getElem? hs))
          exact r
         have HSH : SH wr wr := Below.refl _ _
         generalize rightB tp gv code.length sls (obs.map Og.o) (fns.map Fg.f) z.x = RB at *
         clear hcz hs HAT hrow3 hgz
         go_upto_region 17 with (fail)
         cases RB with
         | false =>
          have HV : Hid (R = false) := HMEM.out rfl
          clear HMEM HATH
          go_region_held3 (fun Y => SH wr Y) (with_reducible first | assumption | (refine SH.drew ?_; assumption) | (refine SH.below ?_ (by assumption); assumption)) (first
           | (go_at_call 58; refine (CR.out _ ?_).mono ?_; (with_reducible first | assumption | (refine SH.drew ?_; assumption)); rintro e y1 ⟨rfl, hy1⟩))
          all_goals go_wp2_with fail
          all_goals go_ret
          all_goals exact ⟨by rw [HV.out]; rfl, HBR3.out.trans (Below.mono (SH.below (SH.drew HSH) hy1) HBR3.out.size)⟩
         | true =>
          have HATT : Hid (((code.take (k3 + 1)).all fun z => rightB tp gv code.length sls (obs.map Og.o) (fns.map Fg.f) z.x) = true) := HATH.out
          clear HMEM HATH
          go_region_held3 (fun Y => SH wr Y) (with_reducible first | assumption | (refine SH.drew ?_; assumption) | (refine SH.below ?_ (by assumption); assumption)) (first
           | (go_at_call 58; refine (CR.out _ ?_).mono ?_; (with_reducible first | assumption | (refine SH.drew ?_; assumption)); rintro e y1 ⟨rfl, hy1⟩))
          all_goals go_wp2_with fail
          all_goals exact ⟨⟨k3 + 1, by go_num, by omega, HATT, HRW3.out.trans (Below.mono (SH.below (SH.drew HSH) hy1) HRW3.out.size)⟩, by simp [intOf]; omega⟩
        ·obtain rfl : k3 = code.length := by omega
         have HR4 : Hid (R = LB) := by
          have h := HAL3.out
          rw [List.take_length] at h
          show R = _; rw [HR3.out, HCA.out, h]; rfl
         obtain ⟨m, hm⟩ : ∃ m, m = code.length - 1 := ⟨_, rfl⟩
         have hml : m < code.length := by omega
         obtain ⟨z, hz⟩ : ∃ z, code[m]? = some z := ⟨_, List.getElem?_eq_getElem hml⟩
         have HLE : Hid (LB = endsB z.x.op) := by show LB = _; rw [HLB.out]; unfold lastB; rw [← hm, hz]
         have hwm : IntKind.i64.wrap ((code.length : Int) - 1) = (m : Int) := by rw [wrap_idI (by omega) (by omega)]; omega
         obtain ⟨gz, oz, he, hgz, hcz⟩ := hrow3.2 m z hz
         subst he
         have z0 := hcz 0 (by omega)
         simp only [iwC, inCells, List.getElem?_cons_zero, Nat.add_zero] at z0
         generalize z.x.op = lop at *
         clear hcz hz hm HAL3 HR3 HCA HLB hrow3 hgz
         unfold endsB at HLE
         cases h9 : (lop == 9) with
         | true =>
          have HV : Hid (R = true) := by show R = _; rw [HR4.out, HLE.out, h9]; rfl
          go_wp2
          go_ret
          exact ⟨by rw [HV.out]; rfl, HBR3.out⟩
         | false =>
          cases h10 : (lop == 10) with
          | true =>
           have HV : Hid (R = true) := by show R = _; rw [HR4.out, HLE.out, h9, h10]; rfl
           go_wp2
           go_ret
           exact ⟨by rw [HV.out]; rfl, HBR3.out⟩
          | false =>
           cases h14 : (lop == 14) with
           | true =>
            have HV : Hid (R = true) := by show R = _; rw [HR4.out, HLE.out, h9, h10, h14]; rfl
            go_wp2
            go_ret
            exact ⟨by rw [HV.out]; rfl, HBR3.out⟩
           | false =>
            have HV : Hid (R = false) := by show R = _; rw [HR4.out, HLE.out, h9, h10, h14]; rfl
            go_wp2
            go_ret
            exact ⟨by rw [HV.out]; rfl, HBR3.out⟩
end
end Go.Proofs.YtelaaaamnphbpaaGreatDoor