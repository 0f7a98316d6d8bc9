/- The given answer's Check. -/
import Derived.Test.YtelaaaamnphbpaaGreatDoorThL
import Derived.Test.YtelaaaamnphbpaaGreatDoorThM
namespace Go.Proofs.YtelaaaamnphbpaaGreatDoor
set_option maxHeartbeats 16000000
open Go.RowKit Go.Maps
set_option linter.unusedVariables false
set_option linter.unusedSimpArgs false
set_option maxRecDepth 100000
def seenOf (l : List Fg) : List (List UInt8) := (l.map fun q => q.f.nm.data.toList).reverse
theorem names_seen (l : List Fg) (k : Nat) (q : Fg) : namesB l k q = !(seenOf (l.take k)).contains q.f.nm.data.toList := by
 unfold namesB seenOf
 rw [Bool.eq_iff_iff]
 simp only [List.all_eq_true, Bool.not_eq_true', beq_eq_false_iff_ne, ne_eq, Go.ByteArray.toList_eq, List.contains_eq_mem, decide_eq_false_iff_not, List.mem_reverse, List.mem_map, not_exists, not_and]
theorem funL_step (x : Pg) {k : Nat} {q : Fg} (hs : x.fns[k]? = some q) : funL (x.obs.map Og.o) (x.fns.map Fg.f) (seenOf (x.fns.take k)) (x.fns.drop k) = (rfunB x k q && funL (x.obs.map Og.o) (x.fns.map Fg.f) (seenOf (x.fns.take (k + 1))) (x.fns.drop (k + 1))) := by
 have hlt : k < x.fns.length := (List.getElem?_eq_some_iff.1 hs).1
 have hd : x.fns.drop k = q :: x.fns.drop (k + 1) := by
  rw [List.drop_eq_getElem_cons hlt]
  congr 1
  rw [List.getElem?_eq_getElem hlt] at hs
  exact Option.some.inj hs
 have ht : seenOf (x.fns.take (k + 1)) = q.f.nm.data.toList :: seenOf (x.fns.take k) := by
  unfold seenOf
  rw [List.take_add_one, hs]
  simp
 rw [hd, ht]
 unfold rfunB
 rw [names_seen]
 show (!(seenOf (x.fns.take k)).contains q.f.nm.data.toList && (fun1 (x.obs.map Og.o) (x.fns.map Fg.f) q && funL (x.obs.map Og.o) (x.fns.map Fg.f) (q.f.nm.data.toList :: seenOf (x.fns.take k)) (x.fns.drop (k + 1)))) = _
 rw [Bool.and_assoc]
theorem checkB_eq (x : Pg) : checkB x = ((decide (x.obs.length ≤ 256) && (withinP (x.fns.length : Int) 1 64 && (withinP x.mn 0 ((x.fns.length : Int) - 1) && prF (x.fns.map Fg.f) x.mn == 0))) && ((x.obs.all (obj1 (x.obs.map Og.o))) && funL (x.obs.map Og.o) (x.fns.map Fg.f) (seenOf (x.fns.take 0)) (x.fns.drop 0))) := by
 have e : seenOf (x.fns.take 0) = [] := rfl
 rw [e, List.drop_zero]
 unfold checkB objB funsB mainB
 rw [List.length_map]
 generalize decide (x.obs.length ≤ 256) = b1
 generalize withinP (x.fns.length : Int) 1 64 = b2
 generalize withinP x.mn 0 ((x.fns.length : Int) - 1) = b3
 generalize (prF (x.fns.map Fg.f) x.mn == 0) = b4
 generalize x.obs.all (obj1 (x.obs.map Og.o)) = b5
 generalize funL (x.obs.map Og.o) (x.fns.map Fg.f) [] x.fns = b6
 cases b1 <;> cases b2 <;> cases b3 <;> cases b4 <;> cases b5 <;> cases b6 <;> rfl
section
variable {w : World}
theorem rCheck_c {x : Pg} {a : Pw} (hP : PgOK w x a) (hN : NamesIn w) :
 Calls Tryz.prog 15 #[pgV x a] w fun e w' => e = .returned (.int .i64 (if checkB x then 0 else 130)) ∧ Below w.heap.size w w' := by
 rw [checkB_eq]
 have HP : Hid (∀ Y, Below w.heap.size w Y → PgOK Y x a) := fun Y hY => hP.below hY
 have HST : Hid (∀ (k : Nat) (q : Fg), x.fns[k]? = some q → funL (x.obs.map Og.o) (x.fns.map Fg.f) (seenOf (x.fns.take k)) (x.fns.drop k) = (rfunB x k q && funL (x.obs.map Og.o) (x.fns.map Fg.f) (seenOf (x.fns.take (k + 1))) (x.fns.drop (k + 1)))) := fun k q h => funL_step x h
 have CFn : Hid (∀ (k : Nat) (q : Fg), x.fns[k]? = some q → ∀ Y, Below w.heap.size w Y → Calls Tryz.prog 35 #[pgV x a, .int .i64 k] Y fun e w' => e = .returned (.bool (rfunB x k q)) ∧ Below Y.heap.size Y w') := fun k q h Y hY => rFunction_c (hP.below hY) (hN.below hY) h
 obtain ⟨RF, hRF⟩ : ∃ F, F = rfunB x := ⟨_, rfl⟩
 rw [← hRF] at HST CFn
 clear hRF
 obtain ⟨obs, fns, mn⟩ := x
 obtain ⟨aop, aoc, afp, afc⟩ := a
 unfold pgV at CFn ⊢
 simp only at HST CFn ⊢
 have hom := hP.om
 have hfm := hP.fm
 simp only at hom hfm
 obtain ⟨FL, hFL⟩ : ∃ F, F = fun k => funL (obs.map Og.o) (fns.map Fg.f) (seenOf (fns.take k)) (fns.drop k) := ⟨_, rfl⟩
 have HFE : Hid (FL fns.length = true) := by
  show FL fns.length = true
  rw [hFL]
  show funL _ _ _ (fns.drop fns.length) = true
  rw [List.drop_length]; rfl
 have HFL : Hid (∀ (k : Nat) (q : Fg), fns[k]? = some q → FL k = (RF k q && FL (k + 1))) := by rw [hFL]; exact HST.out
 obtain ⟨OA, hOA⟩ : ∃ T, T = (obs.all (obj1 (obs.map Og.o))) := ⟨_, rfl⟩
 obtain ⟨T0, hT0⟩ : ∃ T, T = (decide (obs.length ≤ 256) && (withinP (fns.length : Int) 1 64 && (withinP mn 0 ((fns.length : Int) - 1) && prF (fns.map Fg.f) mn == 0))) := ⟨_, rfl⟩
 have hF0 : funL (obs.map Og.o) (fns.map Fg.f) (seenOf (fns.take 0)) (fns.drop 0) = FL 0 := by rw [hFL]
 rw [← hOA, ← hT0, hF0]
 obtain ⟨R, hR⟩ : ∃ R : Int, R = if (T0 && (OA && FL 0)) = true then 0 else 130 := ⟨_, rfl⟩
 rw [← hR]
 have HR : Hid (R = _) := hR
 have HT0 : Hid (T0 = _) := hT0
 have HOA : Hid (OA = _) := hOA
 have b1 := below1 w (.cells #[.slice aop obs.length aoc, .slice afp fns.length afc, .int .i64 mn] TPg)
 have NP : Hid ((w.alloc (.cells #[.slice aop obs.length aoc, .slice afp fns.length afc, .int .i64 mn] TPg)).heap[w.heap.size]? = some (.cells #[.slice aop obs.length aoc, .slice afp fns.length afc, .int .i64 mn] TPg (0, 0))) := heap_r0 w _
 have HB : Hid (Below w.heap.size w (w.alloc (.cells #[.slice aop obs.length aoc, .slice afp fns.length afc, .int .i64 mn] TPg))) := b1
 have CW1 : Hid (∀ Y, Calls Tryz.prog 33 #[.int .i64 fns.length, .int .i64 1, .int .i64 64] Y fun e w' => e = .returned (.bool (withinP (fns.length : Int) 1 64)) ∧ w' = Y) := fun Y => rwithin_c _ 1 64 Y
 have CW2 : Hid (∀ Y, Calls Tryz.prog 33 #[.int .i64 mn, .int .i64 0, .int .i64 ((fns.length : Int) - 1)] Y fun e w' => e = .returned (.bool (withinP mn 0 ((fns.length : Int) - 1))) ∧ w' = Y) := fun Y => rwithin_c _ 0 _ Y
 have nt := not_t
 have nf := not_f
 have hwl : IntKind.i64.wrap ((fns.length : Int) - 1) = (fns.length : Int) - 1 := wrap_idI (by omega) (by omega)
 clear hR hT0 hOA hFL hF0 HST hP hN b1
 go_enter Tryz.func15, Tryz.ntmps15
 go_upto_region 1 with (fail)
 refine (?_ : Code.wp _ _ _ _ (w.alloc (.cells #[.slice aop obs.length aoc, .slice afp fns.length afc, .int .i64 mn] TPg)))
 generalize w.alloc (.cells #[.slice aop obs.length aoc, .slice afp fns.length afc, .int .i64 mn] TPg) = W1 at *
 have p0 := (Lib.cell_of_heap NP.out 0).trans rfl
 have p1 := (Lib.cell_of_heap NP.out 1).trans rfl
 have p2 := (Lib.cell_of_heap NP.out 2).trans rfl
 obtain ⟨F0, hF0⟩ : ∃ F, F = !T0 := ⟨_, rfl⟩
 have HF0 : Hid (F0 = !T0) := hF0
 clear hF0
 have MK : Hid True := trivial
 go_cut [35] from 5 to 35 (fun s wx => s = .bool F0 ∧ wx = W1)
 case first =>
  by_cases h1 : 256 < obs.length
  ·have d1 : decide (256 < (obs.length : Int)) = true := by simp; omega
   have : T0 = false := by rw [HT0.out, show decide (obs.length ≤ 256) = false by simp; omega]; rfl
   subst this
   go_wp2
   go_meet
   exact ⟨by rw [HF0.out]; rfl, rfl⟩
  ·have d1 : decide (256 < (obs.length : Int)) = false := by simp; omega
   have e1 : decide (obs.length ≤ 256) = true := by simp; omega
   cases q1 : withinP (fns.length : Int) 1 64 with
   | false =>
    have : T0 = false := by rw [HT0.out, q1]; simp
    subst this
    go_wp2_with (first | (have hx := MK; clear hx; go_at_call 33; refine (CW1.out _).mono ?_; rintro e w2 ⟨rfl, hw2⟩; rw [hw2, q1]; clear hw2 w2 MK) | fail)
    go_meet
    exact ⟨by rw [HF0.out]; rfl, rfl⟩
   | true =>
    cases q2 : withinP mn 0 ((fns.length : Int) - 1) with
    | false =>
     have : T0 = false := by rw [HT0.out, q2]; simp
     subst this
     go_wp2_with (first | (have hx := MK; clear hx; go_at_call 33; refine (CW1.out _).mono ?_; rintro e w2 ⟨rfl, hw2⟩; rw [hw2, q1]; clear hw2 w2 MK) | (go_at_call 33; refine (CW2.out _).mono ?_; rintro e w2 ⟨rfl, hw2⟩; rw [hw2, q2]; clear hw2 w2) | fail)
     go_meet
     exact ⟨by rw [HF0.out]; rfl, rfl⟩
    | true =>
     have hm : 0 ≤ mn ∧ mn ≤ (fns.length : Int) - 1 := by unfold withinP at q2; simpa using q2
     obtain ⟨m, rfl⟩ : ∃ n : Nat, mn = n := ⟨mn.toNat, by omega⟩
     have hml : m < fns.length := by omega
     obtain ⟨q, hq⟩ : ∃ f, fns[m]? = some f := ⟨_, List.getElem?_eq_getElem hml⟩
     obtain ⟨g, o, hpe, hg, hc⟩ := (HP.out W1 HB.out).fr.2 m q hq
     have hcap := (HP.out W1 HB.out).fr.1.1
     simp only at hpe hcap
     subst hpe
     have am := hc 1 (by omega)
     simp only [fgC, fnC, List.getElem?_cons_zero, List.getElem?_cons_succ] at am
     have HPR : Hid (prF (fns.map Fg.f) (m : Int) = q.f.pr) := by show _ = _; unfold prF; rw [Int.toNat_natCast, List.getElem?_map, hq]; rfl
     cases h4 : (q.f.pr == 0) with
     | false =>
      have hne : (q.f.pr != 0) = true := by simpa using h4
      have : T0 = false := by rw [HT0.out, HPR.out, h4]; simp
      subst this
      clear hc hq h4 hm hg HPR HT0
      go_wp2_with (first | (have hx := MK; clear hx; go_at_call 33; refine (CW1.out _).mono ?_; rintro e w2 ⟨rfl, hw2⟩; rw [hw2, q1]; clear hw2 w2 MK) | (go_at_call 33; refine (CW2.out _).mono ?_; rintro e w2 ⟨rfl, hw2⟩; rw [hw2, q2]; clear hw2 w2) | fail)
      go_meet
      exact ⟨by rw [HF0.out]; rfl, rfl⟩
     | true =>
      have hne : (q.f.pr != 0) = false := by simpa using h4
      have : T0 = true := by rw [HT0.out, HPR.out, h4, q1, q2, e1]; rfl
      subst this
      clear hc hq h4 hm hg HPR HT0
      go_wp2_with (first | (have hx := MK; clear hx; go_at_call 33; refine (CW1.out _).mono ?_; rintro e w2 ⟨rfl, hw2⟩; rw [hw2, q1]; clear hw2 w2 MK) | (go_at_call 33; refine (CW2.out _).mono ?_; rintro e w2 ⟨rfl, hw2⟩; rw [hw2, q2]; clear hw2 w2) | fail)
      go_meet
      exact ⟨by rw [HF0.out]; rfl, rfl⟩
 case rest =>
  obtain ⟨rfl, rfl⟩ := hcut
  rename World => W1
  cases F0 with
  | true =>
   obtain rfl : T0 = false := by have h := HF0.out; revert h; cases T0 <;> simp
   have HV : Hid (R = 130) := by show R = _; rw [HR.out]; rfl
   go_wp2
   go_ret
   exact ⟨by rw [HV.out]; rfl, HB.out⟩
  | false =>
   obtain rfl : T0 = true := by have h := HF0.out; revert h; cases T0 <;> simp
   have ht := HT0.out.symm
   rw [Bool.and_eq_true] at ht
   have h256 : obs.length ≤ 256 := by simpa using ht.1
   have h64 : fns.length ≤ 64 := by
    have h := ht.2
    rw [Bool.and_eq_true] at h
    have h := h.1
    unfold withinP at h
    simp at h
    omega
   have HR1 : Hid (R = if (OA && FL 0) = true then 0 else 130) := by show R = _; rw [HR.out, Bool.true_and]
   have HBW : Hid (Below W1.heap.size W1 W1) := Below.refl _ _
   clear HT0 HR ht CW1 CW2 hwl p1 p2
   go_upto_region 4 with (fail)
   clear p0
   go_loopw [3] (fun kv wr => ∃ k : Nat, kv = .int .i64 k ∧ k ≤ obs.length ∧ Hid ((obs.take k).all (obj1 (obs.map Og.o)) = true) ∧ Hid (Below W1.heap.size W1 wr)) (fun kv _ => obs.length - (intOf kv).toNat)
   case atStart => exact ⟨0, rfl, Nat.zero_le _, rfl, HBW⟩
   case round =>
    obtain ⟨k, rfl, hk, HAL, HRW⟩ := hrel
    have HBR : Hid (Below w.heap.size w wr) := HB.out.trans (HRW.out.mono HB.out.size)
    have p0 := (Lib.cell_of_heap (blk_b NP.out HRW.out) 0).trans rfl
    by_cases hlt : k < obs.length
    ·obtain ⟨q, hs⟩ : ∃ s, obs[k]? = some s := ⟨_, List.getElem?_eq_getElem hlt⟩
     obtain ⟨g, o, he, hg, hc⟩ := (HP.out wr HBR.out).ob.2 k q hs
     have hcap := (HP.out wr HBR.out).ob.1.1
     simp only at he hcap
     subst he
     have u0 : ∀ Y, SH wr Y → Y.cell? ⟨w.heap.size, 0, none⟩ = some (.slice (some ⟨g, o, none⟩) obs.length aoc) := fun Y h => (Lib.cell_of_heap (blk_b NP.out (HRW.out.trans (Below.mono h HRW.out.size))) 0).trans rfl
     have u1 : ∀ Y, SH wr Y → Y.cell? ⟨w.heap.size, 1, none⟩ = some (.slice afp fns.length afc) := fun Y h => (Lib.cell_of_heap (blk_b NP.out (HRW.out.trans (Below.mono h HRW.out.size))) 1).trans rfl
     have u2 : ∀ Y, SH wr Y → Y.cell? ⟨w.heap.size, 2, none⟩ = some (.int .i64 mn) := fun Y h => (Lib.cell_of_heap (blk_b NP.out (HRW.out.trans (Below.mono h HRW.out.size))) 2).trans rfl
     have z0 : ∀ Y, SH wr Y → Y.cell? ⟨g, o + k * 5, none⟩ = some (.string q.o.nm) := fun Y h => (Below.cell h (p := ⟨g, _, none⟩) hg).trans (hc 0 (by omega))
     have z1 : ∀ Y, SH wr Y → Y.cell? ⟨g, o + k * 5 + 1, none⟩ = some (.int .i64 q.o.size) := fun Y h => (Below.cell h (p := ⟨g, _, none⟩) hg).trans (hc 1 (by omega))
     have z2 : ∀ Y, SH wr Y → Y.cell? ⟨g, o + k * 5 + 2, none⟩ = some (.int .i64 q.o.align) := fun Y h => (Below.cell h (p := ⟨g, _, none⟩) hg).trans (hc 2 (by omega))
     have z3 : ∀ Y, SH wr Y → Y.cell? ⟨g, o + k * 5 + 3, none⟩ = some (.slice q.o.bp q.o.bn q.o.bc) := fun Y h => (Below.cell h (p := ⟨g, _, none⟩) hg).trans (hc 3 (by omega))
     have z4 : ∀ Y, SH wr Y → Y.cell? ⟨g, o + k * 5 + 4, none⟩ = some (.slice q.o.rp q.o.rn q.o.rc) := fun Y h => (Below.cell h (p := ⟨g, _, none⟩) hg).trans (hc 4 (by omega))
     have HAT := all_take (p := obj1 (obs.map Og.o)) hs
     have HATH : Hid ((obs.take (k + 1)).all (obj1 (obs.map Og.o)) = obj1 (obs.map Og.o) q) := by show _ = _; rw [HAT, HAL.out, Bool.true_and]
     have HMEM : Hid (obj1 (obs.map Og.o) q = false → R = 130) := fun hf => by
      have : OA = false := by
       rw [HOA.out, List.all_eq_false]; exact ⟨q, List.mem_of_getElem? hs, by simp [hf]⟩
      rw [HR1.out, this]; rfl
     have CO : Hid (∀ Y, SH wr Y → Calls Tryz.prog 34 #[.agg #[.slice (some ⟨g, o, none⟩) obs.length aoc, .slice afp fns.length afc, .int .i64 mn], .agg #[.string q.o.nm, .int .i64 q.o.size, .int .i64 q.o.align, .slice q.o.bp q.o.bn q.o.bc, .slice q.o.rp q.o.rn q.o.rc]] Y fun e w' => e = .returned (.bool (obj1 (obs.map Og.o) q)) ∧ Below Y.heap.size Y w') := fun Y h => by
      have hY := HBR.out.trans (Below.mono h HBR.out.size)
      have p := HP.out Y hY
      have r := rObject_c (w := Y) (obs := obs.map Og.o) (RowV.map (C := obC) (f := Og.o) p.ob) (by simpa using hom) (fp := afp) (fn := fns.length) (fc := afc) (mn := mn) (p.oi q (List.mem_of_getElem? hs))
      rw [List.length_map] at r
      exact r
     have HSH : SH wr wr := Below.refl _ _
     generalize obj1 (obs.map Og.o) q = RB at *
     clear hc hs HAT hg
     go_upto_region 6 with (fail)
     clear p0
     cases RB with
     | false =>
      have HV : Hid (R = 130) := HMEM.out rfl
      clear HMEM HATH
      go_region_held3 (fun Y => SH wr Y) (with_reducible first | assumption | (refine SH.drew ?_; assumption) | (refine SH.below ?_ (by assumption); assumption)) (first
       | (go_at_call 34; refine (CO.out _ ?_).mono ?_; (with_reducible first | assumption | (refine SH.drew ?_; assumption)); rintro e y1 ⟨rfl, hy1⟩))
      all_goals go_wp2_with fail
      all_goals go_ret
      all_goals exact ⟨by rw [HV.out]; rfl, HBR.out.trans (Below.mono (SH.below (SH.drew HSH) hy1) HBR.out.size)⟩
     | true =>
      have HATT : Hid ((obs.take (k + 1)).all (obj1 (obs.map Og.o)) = true) := HATH.out
      clear HMEM HATH
      go_region_held3 (fun Y => SH wr Y) (with_reducible first | assumption | (refine SH.drew ?_; assumption) | (refine SH.below ?_ (by assumption); assumption)) (first
       | (go_at_call 34; refine (CO.out _ ?_).mono ?_; (with_reducible first | assumption | (refine SH.drew ?_; assumption)); rintro e y1 ⟨rfl, hy1⟩))
      all_goals go_wp2_with fail
      all_goals exact ⟨⟨k + 1, by go_num, by omega, HATT, HRW.out.trans (Below.mono (SH.below (SH.drew HSH) hy1) HRW.out.size)⟩, by simp [intOf]; omega⟩
    ·obtain rfl : k = obs.length := by omega
     have HR2 : Hid (R = if FL 0 = true then 0 else 130) := by
      have h := HAL.out
      rw [List.take_length] at h
      show R = _
      rw [HR1.out, HOA.out, h, Bool.true_and]
     clear HAL HOA HR1
     go_upto_region 9 with (fail)
     clear p0
     go_loopw [4] (fun kv wr => ∃ k : Nat, kv = .int .i64 k ∧ k ≤ fns.length ∧ Hid (R = if FL k = true then 0 else 130) ∧ Hid (Below W1.heap.size W1 wr)) (fun kv _ => fns.length - (intOf kv).toNat)
     case atStart => exact ⟨0, rfl, Nat.zero_le _, HR2, HRW⟩
     case round =>
      obtain ⟨k2, rfl, hk2, HRk, HRW2⟩ := hrel
      have HBR2 : Hid (Below w.heap.size w wr) := HB.out.trans (HRW2.out.mono HB.out.size)
      have p0 := (Lib.cell_of_heap (blk_b NP.out HRW2.out) 0).trans rfl
      have p1 := (Lib.cell_of_heap (blk_b NP.out HRW2.out) 1).trans rfl
      have p2 := (Lib.cell_of_heap (blk_b NP.out HRW2.out) 2).trans rfl
      by_cases hlt2 : k2 < fns.length
      ·obtain ⟨q, hs⟩ : ∃ s, fns[k2]? = some s := ⟨_, List.getElem?_eq_getElem hlt2⟩
       have cF := CFn.out k2 q hs wr HBR2.out
       have HSTP : Hid (FL k2 = (RF k2 q && FL (k2 + 1))) := HFL.out k2 q hs
       generalize RF k2 q = RB at *
       clear hs
       cases RB with
       | false =>
        have HV : Hid (R = 130) := by show R = _; rw [HRk.out, HSTP.out]; rfl
        clear HSTP
        go_wp2_with (first | (go_at_call 35; refine cF.mono ?_; rintro e w3 ⟨rfl, hb3⟩; have HB3 : Hid (Below w.heap.size w w3) := HBR2.out.trans (hb3.mono HBR2.out.size); clear hb3 cF) | fail)
        go_ret
        exact ⟨by rw [HV.out]; rfl, HB3.out⟩
       | true =>
        have HN : Hid (R = if FL (k2 + 1) = true then 0 else 130) := by show R = _; rw [HRk.out, HSTP.out, Bool.true_and]
        clear HSTP
        go_wp2_with (first | (go_at_call 35; refine cF.mono ?_; rintro e w3 ⟨rfl, hb3⟩; have HB3 : Hid (Below W1.heap.size W1 w3) := HRW2.out.trans (hb3.mono HRW2.out.size); clear hb3 cF) | fail)
        exact ⟨⟨k2 + 1, by go_num, by omega, HN, HB3⟩, by simp [intOf]; omega⟩
      ·obtain rfl : k2 = fns.length := by omega
       have HV : Hid (R = 0) := by show R = _; rw [HRk.out, HFE.out]; rfl
       go_wp2
       go_ret
       exact ⟨by rw [HV.out]; rfl, HBR2.out⟩
end
end Go.Proofs.YtelaaaamnphbpaaGreatDoor