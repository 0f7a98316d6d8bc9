/- The given answer's object. -/
import Derived.Test.YtelaaaamnphbpaaGreatDoorKJ
import Derived.Test.YtelaaaamnphbpaaGreatDoorKL
import Derived.Test.YtelaaaamnphbpaaGreatDoorKI
namespace Go.Proofs.YtelaaaamnphbpaaGreatDoor
set_option maxHeartbeats 16000000
open Go.RowKit Go.Maps
set_option linter.unusedVariables false
set_option linter.unusedSimpArgs false
set_option maxRecDepth 100000
theorem fillN_zero (l : List UInt8) : ∀ n, fillN l n = 0 ↔ ∀ i, i < n → (l.getD i 0).toNat = 0
 | 0 => by simp [fillN]
 | n + 1 => by
  unfold fillN
  split
  ·rename_i h
   rw [fillN_zero l n]
   constructor
   ·intro H i hi
    rcases Nat.lt_or_ge i n with h2 | h2
    ·exact H i h2
    ·obtain rfl : i = n := by omega
     exact h
   ·exact fun H i hi => H i (by omega)
  ·rename_i h
   constructor
   ·intro e; omega
   ·intro H; exact absurd (H n (by omega)) h
theorem rel3_iff {bs : List UInt8} {r : Rl} {f : Nat} (hf : r.off = f) : rel3 bs r = true ↔ ∀ i, i < 4 → (bs.getD (f + i) 0).toNat = 0 := by
 unfold rel3
 rw [hf, Int.toNat_natCast, beq_iff_eq, fillN_zero]
 have e : ∀ i, i < 4 → ((bs.drop f).take 4).getD i 0 = bs.getD (f + i) 0 := fun i hi => by
  rw [List.getD_eq_getElem?_getD, List.getD_eq_getElem?_getD, List.getElem?_take, if_pos hi, List.getElem?_drop]
 constructor
 ·intro H i hi
  rw [← e i hi]; exact H i hi
 ·intro H i hi
  rw [e i hi]; exact H i hi
section
variable {w : World}
theorem rObject_c {op : Option Addr} {oc : Nat} {obs : List Ob} (hob : RowV obC 5 w op oc obs) (hom : obs.length ≤ 9223372036854775806) {fp : Option Addr} {fn fc : Nat} {mn : Int} {q : Og} (hq : OgOK w q) :
 Calls Tryz.prog 34 #[.agg #[.slice op obs.length oc, .slice fp fn fc, .int .i64 mn], .agg (obC q.o).toArray] w fun e w' => e = .returned (.bool (obj1 obs q)) ∧ Below w.heap.size w w' := by
 obtain ⟨⟨nm, size, align, bp, bn, bc, rp, rn, rc⟩, bs, rls⟩ := q
 obtain ⟨hnm, e1, e2, hbm, hrm, hbs, hrl⟩ := hq
 simp only at hnm e1 e2 hbm hrm hbs hrl
 subst e1 e2
 unfold obC
 show Calls Tryz.prog 34 #[.agg #[.slice op obs.length oc, .slice fp fn fc, .int .i64 mn], .agg #[.string nm, .int .i64 size, .int .i64 align, .slice bp bs.length bc, .slice rp rls.length rc]] w fun e w' => _
 have b1 := below1 w (.cells #[.slice op obs.length oc, .slice fp fn fc, .int .i64 mn] TPg)
 have b2 := below1 (w.alloc (.cells #[.slice op obs.length oc, .slice fp fn fc, .int .i64 mn] TPg)) (.cells #[.string nm, .int .i64 size, .int .i64 align, .slice bp bs.length bc, .slice rp rls.length rc] TOb)
 have hzA : (w.alloc (.cells #[.slice op obs.length oc, .slice fp fn fc, .int .i64 mn] TPg)).heap.size = w.heap.size + 1 := by simp
 have NP : Hid (((w.alloc (.cells #[.slice op obs.length oc, .slice fp fn fc, .int .i64 mn] TPg)).alloc (.cells #[.string nm, .int .i64 size, .int .i64 align, .slice bp bs.length bc, .slice rp rls.length rc] TOb)).heap[w.heap.size]? = some (.cells #[.slice op obs.length oc, .slice fp fn fc, .int .i64 mn] TPg (0, 0))) := blk_b (heap_r0 w _) b2
 have NO : Hid (((w.alloc (.cells #[.slice op obs.length oc, .slice fp fn fc, .int .i64 mn] TPg)).alloc (.cells #[.string nm, .int .i64 size, .int .i64 align, .slice bp bs.length bc, .slice rp rls.length rc] TOb)).heap[w.heap.size + 1]? = some (.cells #[.string nm, .int .i64 size, .int .i64 align, .slice bp bs.length bc, .slice rp rls.length rc] TOb (0, 0))) := by
  have := heap_r0 (w.alloc (.cells #[.slice op obs.length oc, .slice fp fn fc, .int .i64 mn] TPg)) (.cells #[.string nm, .int .i64 size, .int .i64 align, .slice bp bs.length bc, .slice rp rls.length rc] TOb)
  rw [hzA] at this
  exact this
 have HB : Hid (Below w.heap.size w ((w.alloc (.cells #[.slice op obs.length oc, .slice fp fn fc, .int .i64 mn] TPg)).alloc (.cells #[.string nm, .int .i64 size, .int .i64 align, .slice bp bs.length bc, .slice rp rls.length rc] TOb))) := b1.trans (b2.mono b1.size)
 have HOB : Hid (∀ Y, Below w.heap.size w Y → RowV obC 5 Y op oc obs) := fun Y hY => hob.below hY
 have HBS : Hid (∀ Y, Below w.heap.size w Y → RowV byC 1 Y bp bc bs) := fun Y hY => hbs.below hY
 have HRL : Hid (∀ Y, Below w.heap.size w Y → RowV rlC 3 Y rp rc rls) := fun Y hY => hrl.below hY
 obtain ⟨R, hR⟩ : ∃ R, R = obj1 obs ⟨⟨nm, size, align, bp, bs.length, bc, rp, rls.length, rc⟩, bs, rls⟩ := ⟨_, rfl⟩
 rw [← hR]
 have HR : Hid (R = (tagP nm.data.toList && (roomB size align && ((bs.length : Int) == size && relB align size obs bs 0 rls)))) := hR
 have CT : Hid (∀ Y, Calls Tryz.prog 56 #[.string nm] Y fun e w' => e = .returned (.bool (tagP nm.data.toList)) ∧ w' = Y) := fun Y => refTag_c nm Y hnm
 have CP : Hid (∀ Y, Calls Tryz.prog 57 #[.int .i64 align] Y fun e w' => e = .returned (.bool (widthB align)) ∧ w' = Y) := fun Y => power_c align Y
 have nt := not_t
 have nf := not_f
 clear b1 b2 hzA hob hbs hrl hR
 go_enter Tryz.func34, Tryz.ntmps34
 go_upto_region 1 with (fail)
 refine (?_ : Code.wp _ _ _ _ ((w.alloc (.cells #[.slice op obs.length oc, .slice fp fn fc, .int .i64 mn] TPg)).alloc (.cells #[.string nm, .int .i64 size, .int .i64 align, .slice bp bs.length bc, .slice rp rls.length rc] TOb)))
 generalize (w.alloc (.cells #[.slice op obs.length oc, .slice fp fn fc, .int .i64 mn] TPg)).alloc (.cells #[.string nm, .int .i64 size, .int .i64 align, .slice bp bs.length bc, .slice rp rls.length rc] TOb) = W1 at *
 have o0 := (Lib.cell_of_heap NO.out 0).trans rfl
 have o1 := (Lib.cell_of_heap NO.out 1).trans rfl
 have o2 := (Lib.cell_of_heap NO.out 2).trans rfl
 have o3 := (Lib.cell_of_heap NO.out 3).trans rfl
 have o4 := (Lib.cell_of_heap NO.out 4).trans rfl
 obtain ⟨T0, hT0⟩ : ∃ T, T = (tagP nm.data.toList && (roomB size align && ((bs.length : Int) == size))) := ⟨_, rfl⟩
 have HT0 : Hid (T0 = _) := hT0
 clear hT0
 go_cut [37] from 9 to 37 (fun s wx => s = .bool (!T0) ∧ wx = W1)
 case first =>
  cases q1 : tagP nm.data.toList with
  | false =>
   have : T0 = false := by rw [HT0.out, q1]; rfl
   subst this
   go_wp2_with (first | (go_at_call 56; refine (CT.out _).mono ?_; rintro e w2 ⟨rfl, hw2⟩; rw [hw2, q1]; clear hw2 w2) | fail)
   go_meet
   exact ⟨rfl, rfl⟩
  | true =>
   by_cases h1 : size < 1
   ·have d1 : decide (size < 1) = true := by simpa using h1
    have : T0 = false := by rw [HT0.out, q1]; unfold roomB withinP; simp; omega
    subst this
    go_wp2_with (first | (go_at_call 56; refine (CT.out _).mono ?_; rintro e w2 ⟨rfl, hw2⟩; rw [hw2, q1]; clear hw2 w2) | fail)
    go_meet
    exact ⟨rfl, rfl⟩
   ·have d1 : decide (size < 1) = false := by simpa using h1
    by_cases h2 : 16384 < size
    ·have d2 : decide (16384 < size) = true := by simpa using h2
     have : T0 = false := by rw [HT0.out, q1]; unfold roomB withinP; simp; omega
     subst this
     go_wp2_with (first | (go_at_call 56; refine (CT.out _).mono ?_; rintro e w2 ⟨rfl, hw2⟩; rw [hw2, q1]; clear hw2 w2) | fail)
     go_meet
     exact ⟨rfl, rfl⟩
    ·have d2 : decide (16384 < size) = false := by simpa using h2
     have hwi : withinP size 1 16384 = true := by unfold withinP; simp; omega
     cases q2 : widthB align with
     | false =>
      have : T0 = false := by rw [HT0.out, q1]; unfold roomB; rw [hwi, q2]; rfl
      subst this
      go_wp2_with (first | (go_at_call 56; refine (CT.out _).mono ?_; rintro e w2 ⟨rfl, hw2⟩; rw [hw2, q1]; clear hw2 w2) | (go_at_call 57; refine (CP.out _).mono ?_; rintro e w2 ⟨rfl, hw2⟩; rw [hw2, q2]; clear hw2 w2) | fail)
      go_meet
      exact ⟨rfl, rfl⟩
     | true =>
      cases q3 : ((bs.length : Int) == size) with
      | false =>
       have d3 : ((bs.length : Int) != size) = true := by simpa using q3
       have : T0 = false := by rw [HT0.out, q1]; unfold roomB; rw [hwi, q2, q3]; rfl
       subst this
       clear q3
       go_wp2_with (first | (go_at_call 56; refine (CT.out _).mono ?_; rintro e w2 ⟨rfl, hw2⟩; rw [hw2, q1]; clear hw2 w2) | (go_at_call 57; refine (CP.out _).mono ?_; rintro e w2 ⟨rfl, hw2⟩; rw [hw2, q2]; clear hw2 w2) | fail)
       go_meet
       exact ⟨rfl, rfl⟩
      | true =>
       have d3 : ((bs.length : Int) != size) = false := by simpa using q3
       have : T0 = true := by rw [HT0.out, q1]; unfold roomB; rw [hwi, q2, q3]; rfl
       subst this
       clear q3
       go_wp2_with (first | (go_at_call 56; refine (CT.out _).mono ?_; rintro e w2 ⟨rfl, hw2⟩; rw [hw2, q1]; clear hw2 w2) | (go_at_call 57; refine (CP.out _).mono ?_; rintro e w2 ⟨rfl, hw2⟩; rw [hw2, q2]; clear hw2 w2) | fail)
       go_meet
       exact ⟨rfl, rfl⟩
 case rest =>
  obtain ⟨rfl, rfl⟩ := hcut
  rename World => W1
  cases T0 with
  | false =>
   have HV : Hid (R = false) := by
    have h := HT0.out.symm
    show R = false
    rw [HR.out, ← Bool.and_assoc, ← Bool.and_assoc]
    rw [← Bool.and_assoc] at h
    rw [h]; rfl
   clear o0 o1 o2 o3 o4
   go_wp2
   go_ret
   exact ⟨by rw [HV.out]; rfl, HB.out⟩
  | true =>
   have h0 := HT0.out.symm
   rw [Bool.and_eq_true, Bool.and_eq_true] at h0
   obtain ⟨e1, e2, e3⟩ := h0
   have hsz : 1 ≤ size ∧ size ≤ 16384 := by unfold roomB withinP at e2; simp at e2; exact e2.1
   obtain ⟨hs1, hs2⟩ := hsz
   have HBL : Hid ((bs.length : Int) = size) := (by simpa using e3 : (bs.length : Int) = size)
   have HR1 : Hid (R = relB align size obs bs (-4 + 4) (rls.drop 0)) := by
    show R = _
    rw [HR.out, e1, e2, e3]; rfl
   clear e1 e2 e3 HT0 HR o0 CT CP
   go_upto_region 5 with (fail)
   go_loopw [5, 6] (fun lv iv wr => ∃ (k : Nat) (la : Int), iv = .int .i64 k ∧ lv = .int .i64 la ∧ (-4 ≤ la ∧ la ≤ 16384) ∧ k ≤ rls.length ∧ Hid (R = relB align size obs bs (la + 4) (rls.drop k)) ∧ Hid (Below W1.heap.size W1 wr)) (fun _ iv _ => rls.length - (intOf iv).toNat)
   case atStart => exact ⟨0, -4, rfl, rfl, by omega, Nat.zero_le _, HR1, Below.refl _ _⟩
   case round =>
    obtain ⟨k, la, rfl, rfl, ⟨hf0, hf1⟩, hk, HRk, HRW⟩ := hrel
    have HBR : Hid (Below w.heap.size w wr) := HB.out.trans (HRW.out.mono HB.out.size)
    have o4 := (Lib.cell_of_heap (blk_b NO.out HRW.out) 4).trans rfl
    by_cases hlt : k < rls.length
    ·obtain ⟨⟨off, glob, add⟩, hr⟩ : ∃ r, rls[k]? = some r := ⟨_, List.getElem?_eq_getElem hlt⟩
     have HD : rls.drop k = ⟨off, glob, add⟩ :: rls.drop (k + 1) := by
      rw [List.drop_eq_getElem_cons hlt]
      congr 1
      rw [List.getElem?_eq_getElem hlt] at hr
      exact Option.some.inj hr
     have HRS : Hid (R = (rel1 align size (la + 4) ⟨off, glob, add⟩ && (rel2 obs ⟨off, glob, add⟩ && (rel3 bs ⟨off, glob, add⟩ && relB align size obs bs (off + 4) (rls.drop (k + 1)))))) := by show R = _; rw [HRk.out, HD]; rfl
     obtain ⟨g, o, rfl, hg, hc⟩ := (HRL.out wr HBR.out).2 k _ hr
     have hcap := (HRL.out w (Below.refl _ _)).1.1
     have a0 := hc 0 (by omega)
     have a1 := hc 1 (by omega)
     have a2 := hc 2 (by omega)
     simp only [rlC, List.getElem?_cons_zero, List.getElem?_cons_succ, Nat.add_zero] at a0 a1 a2
     have hold := heap_r0 wr (.cells #[.int .i64 0, .int .i64 0, .int .i64 0] TRl)
     have N5 : Hid ((wr.alloc (.cells #[.int .i64 off, .int .i64 glob, .int .i64 add] TRl)).heap[wr.heap.size]? = some (.cells #[.int .i64 off, .int .i64 glob, .int .i64 add] TRl (0, 0))) := heap_r0 wr _
     have b5 := below1 wr (.cells #[.int .i64 off, .int .i64 glob, .int .i64 add] TRl)
     have HB5 : Hid (Below W1.heap.size W1 (wr.alloc (.cells #[.int .i64 off, .int .i64 glob, .int .i64 add] TRl))) := HRW.out.trans (b5.mono HRW.out.size)
     clear HD hc hg b5 HRk hr
     go_upto_region 8 with (first | ((with_reducible apply step_store hold); rfl; rfl; kernel_rfl; rfl; kernel_rfl; rw [World.setRow_alloc_new]) | fail)
     refine (?_ : Code.wp _ _ _ _ (wr.alloc (.cells #[.int .i64 off, .int .i64 glob, .int .i64 add] TRl)))
     generalize wr.alloc (.cells #[.int .i64 off, .int .i64 glob, .int .i64 add] TRl) = W5 at *
     have p0 := (Lib.cell_of_heap N5.out 0).trans rfl
     have p1 := (Lib.cell_of_heap N5.out 1).trans rfl
     have p2 := (Lib.cell_of_heap N5.out 2).trans rfl
     have o1 := (Lib.cell_of_heap (blk_b NO.out HB5.out) 1).trans rfl
     have o2 := (Lib.cell_of_heap (blk_b NO.out HB5.out) 2).trans rfl
     have HW5 : Hid (Below w.heap.size w W5) := HB.out.trans (HB5.out.mono HB.out.size)
     clear a0 a1 a2 hold o4
     generalize wr.heap.size = gr at *
     have hws : IntKind.i64.wrap (size - 4) = size - 4 := wrap_idI (by omega) (by omega)
     have hwl : IntKind.i64.wrap (la + 4) = la + 4 := wrap_idI (by omega) (by omega)
     obtain ⟨T1, hT1⟩ : ∃ T, T = rel1 align size (la + 4) ⟨off, glob, add⟩ := ⟨_, rfl⟩
     have HT1 : Hid (T1 = (align == 4 && ((decide (la + 4 ≤ off) && decide (off ≤ size - 4)) && (off.tmod 4 == 0)))) := hT1
     rw [← hT1] at HRS
     clear hT1
     go_cut [80] from 52 to 80 (fun s wx => s = .bool (!T1) ∧ wx = W5)
     case first =>
      by_cases h1 : off < 0
      ·have d1 : decide (off < 0) = true := by simpa using h1
       have : T1 = false := by rw [HT1.out, show decide (la + 4 ≤ off) = false by simp; omega]; simp
       subst this
       go_wp2
       go_meet
       exact ⟨rfl, rfl⟩
      ·have d1 : decide (off < 0) = false := by simpa using h1
       by_cases h2 : size - 4 < off
       ·have d2 : decide (size - 4 < off) = true := by simpa using h2
        have : T1 = false := by rw [HT1.out, show decide (off ≤ size - 4) = false by simp; omega]; simp
        subst this
        go_wp2
        go_meet
        exact ⟨rfl, rfl⟩
       ·have d2 : decide (size - 4 < off) = false := by simpa using h2
        have het : off.tmod 4 = off % 4 := Int.tmod_eq_emod_of_nonneg (by omega)
        have hwt : IntKind.i64.wrap (off % 4) = off % 4 := wrap_idI (by omega) (by omega)
        rw [het] at HT1
        cases h3 : (off % 4 == 0) with
        | false =>
         have d3 : (off % 4 != 0) = true := by simpa using h3
         have : T1 = false := by rw [HT1.out, h3]; simp
         subst this
         clear h3 het
         go_wp2
         go_meet
         exact ⟨rfl, rfl⟩
        | true =>
         have d3 : (off % 4 != 0) = false := by simpa using h3
         cases h4 : (align == 4) with
         | false =>
          have d4 : (align != 4) = true := by simpa using h4
          have : T1 = false := by rw [HT1.out, h4]; simp
          subst this
          clear h3 het h4
          go_wp2
          go_meet
          exact ⟨rfl, rfl⟩
         | true =>
          have d4 : (align != 4) = false := by simpa using h4
          by_cases h5 : off < la + 4
          ·have d5 : decide (off < la + 4) = true := by simpa using h5
           have : T1 = false := by rw [HT1.out, show decide (la + 4 ≤ off) = false by simp; omega]; simp
           subst this
           clear h3 het h4
           go_wp2
           go_meet
           exact ⟨rfl, rfl⟩
          ·have d5 : decide (off < la + 4) = false := by simpa using h5
           have : T1 = true := by rw [HT1.out, h3, h4, show decide (la + 4 ≤ off) = true by simp; omega, show decide (off ≤ size - 4) = true by simp; omega]; rfl
           subst this
           clear h3 het h4
           go_wp2
           go_meet
           exact ⟨rfl, rfl⟩
     case rest =>
      obtain ⟨rfl, rfl⟩ := hcut
      rename World => W5
      cases T1 with
      | false =>
       have HV : Hid (R = false) := by show R = _; rw [HRS.out]; rfl
       clear HRS HT1 o1 o2 p0 p1 p2
       go_wp2
       go_ret
       exact ⟨by rw [HV.out]; rfl, HW5.out⟩
      | true =>
       have hoff : la + 4 ≤ off ∧ off ≤ size - 4 := by have h := HT1.out.symm; simp at h; omega
       have HR2 : Hid (R = (rel2 obs ⟨off, glob, add⟩ && (rel3 bs ⟨off, glob, add⟩ && relB align size obs bs (off + 4) (rls.drop (k + 1))))) := by show R = _; rw [HRS.out]; rfl
       have P0 := (Lib.cell_of_heap (blk_b NP.out HB5.out) 0).trans rfl
       clear HRS HT1 o1 o2 p0 hws hwl
       go_upto_region 10 with (fail)
       by_cases h1 : glob < 0
       ·have d1 : decide (glob < 0) = true := by simpa using h1
        have HV : Hid (R = false) := by show R = _; rw [HR2.out]; unfold rel2 withinP; rw [show decide (0 ≤ (⟨off, glob, add⟩ : Rl).glob) = false by simp; omega]; rfl
        clear HR2
        go_quiet (fail)
        go_wp2
        go_ret
        exact ⟨by rw [HV.out]; rfl, HW5.out.trans (below_drewN _ W5 nq)⟩
       ·have d1 : decide (glob < 0) = false := by simpa using h1
        by_cases h2 : (obs.length : Int) ≤ glob
        ·have d2 : decide ((obs.length : Int) ≤ glob) = true := by simpa using h2
         have HV : Hid (R = false) := by show R = _; rw [HR2.out]; unfold rel2 withinP; rw [show decide ((⟨off, glob, add⟩ : Rl).glob ≤ (obs.length : Int) - 1) = false by simp; omega]; simp
         clear HR2
         go_quiet (fail)
         go_wp2
         go_ret
         exact ⟨by rw [HV.out]; rfl, HW5.out.trans (below_drewN _ W5 nq)⟩
        ·have d2 : decide ((obs.length : Int) ≤ glob) = false := by simpa using h2
         obtain ⟨n, rfl⟩ : ∃ n : Nat, glob = n := ⟨glob.toNat, by omega⟩
         have hnl : n < obs.length := by omega
         obtain ⟨ob, hob⟩ : ∃ ob, obs[n]? = some ob := ⟨_, List.getElem?_eq_getElem hnl⟩
         obtain ⟨ga, oa, hap, hga, hca⟩ := (HOB.out W5 HW5.out).2 n ob hob
         have hcapo := (HOB.out w (Below.refl _ _)).1.1
         subst hap
         have s1 := hca 1 (by omega)
         simp only [obC, List.getElem?_cons_zero, List.getElem?_cons_succ] at s1
         have HR3 : Hid (R = ((decide (0 ≤ add) && decide (add ≤ ob.size)) && (rel3 bs ⟨off, n, add⟩ && relB align size obs bs (off + 4) (rls.drop (k + 1))))) := by
          show R = _
          rw [HR2.out]
          unfold rel2 szO
          simp only [Int.toNat_natCast]
          rw [hob, show withinP (n : Int) 0 ((obs.length : Int) - 1) = true by unfold withinP; simp; omega]
          rfl
         clear HR2 hca hob hga
         by_cases h3 : add < 0
         ·have d3 : decide (add < 0) = true := by simpa using h3
          have HV : Hid (R = false) := by show R = _; rw [HR3.out, show decide (0 ≤ add) = false by simp; omega]; rfl
          clear HR3
          go_quiet (fail)
          go_wp2
          go_ret
          exact ⟨by rw [HV.out]; rfl, HW5.out.trans (below_drewN _ W5 nq)⟩
         ·have d3 : decide (add < 0) = false := by simpa using h3
          by_cases h4 : ob.size < add
          ·have d4 : decide (ob.size < add) = true := by simpa using h4
           have HV : Hid (R = false) := by show R = _; rw [HR3.out, show decide (add ≤ ob.size) = false by simp; omega]; simp
           clear HR3
           go_quiet (fail)
           go_wp2
           go_ret
           exact ⟨by rw [HV.out]; rfl, HW5.out.trans (below_drewN _ W5 nq)⟩
          ·have d4 : decide (ob.size < add) = false := by simpa using h4
           have HR4 : Hid (R = (rel3 bs ⟨off, n, add⟩ && relB align size obs bs (off + 4) (rls.drop (k + 1)))) := by show R = _; rw [HR3.out, show decide (0 ≤ add) = true by simp; omega, show decide (add ≤ ob.size) = true by simp; omega]; rfl
           clear HR3
           go_quiet (fail)
           have B7 : Below w.heap.size w (W5.drewN nq) := HW5.out.trans (below_drewN _ W5 nq)
           have HB7 : Hid (Below W1.heap.size W1 (W5.drewN nq)) := HB5.out.trans (below_drewN _ W5 nq)
           have HW7 : Hid (Below w.heap.size w (W5.drewN nq)) := B7
           have N7 := blk_b N5.out (below_drewN W5.heap.size W5 nq)
           have q0 := (Lib.cell_of_heap N7 0).trans rfl
           have q3 := (Lib.cell_of_heap (blk_b NO.out HB7.out) 3).trans rfl
           clear p1 p2 P0 s1 h1 h2 h3 h4 d1 d2 d3 d4 hnl hcapo N7
           generalize W5.drewN nq = W7 at *
           obtain ⟨f, rfl⟩ : ∃ f : Nat, off = f := ⟨off.toNat, by omega⟩
           have hbn := HBL.out
           have hf4 : f + 4 ≤ bs.length := by omega
           have HROW := HBS.out W7 B7
           obtain ⟨b0, hb0⟩ : ∃ b0, bs[0]? = some b0 := ⟨_, List.getElem?_eq_getElem (by omega)⟩
           obtain ⟨gb, ob', hbp, hgb, _⟩ := HROW.2 0 b0 hb0
           have hcapb := HROW.1.1
           subst hbp
           have HRO : Hid (RowV byC 1 W7 (some ⟨gb, ob', none⟩) bc bs) := HROW
           have HI3 : Hid (rel3 bs ⟨(f : Int), (n : Int), add⟩ = true ↔ ∀ i, i < 4 → (bs.getD (f + i) 0).toNat = 0) := rel3_iff rfl
           clear hb0 hgb B7 HROW
           go_upto_region 13 with (fail)
           go_loopw [8] (fun jv wx => ∃ j : Nat, jv = .int .i64 j ∧ j ≤ 4 ∧ Hid (∀ i, i < j → (bs.getD (f + i) 0).toNat = 0) ∧ wx = W7) (fun jv _ => 4 - (intOf jv).toNat)
           case atStart => exact ⟨0, rfl, by omega, fun i hi => absurd hi (by omega), rfl⟩
           case round =>
            obtain ⟨j, rfl, hj, HJ, rfl⟩ := hrel
            by_cases hj4 : j < 4
            ·obtain ⟨m, hm⟩ : ∃ m, m = f + j := ⟨_, rfl⟩
             have hml : m < bs.length := by omega
             obtain ⟨b, hb⟩ : ∃ b, bs[m]? = some b := ⟨_, List.getElem?_eq_getElem hml⟩
             obtain ⟨g', o', hpe, hg', hc'⟩ := HRO.out.2 m b hb
             injection hpe with hpe
             injection hpe with hpe1 hpe2
             subst hpe1 hpe2
             have cb := hc' 0 (by omega)
             simp only [byC, List.getElem?_cons_zero, Nat.mul_one, Nat.add_zero] at cb
             have hwm : IntKind.i64.wrap ((f : Int) + (j : Int)) = (m : Int) := by rw [wrap_idI (by omega) (by omega)]; omega
             have hgd : bs.getD (f + j) 0 = b := by rw [List.getD_eq_getElem?_getD, ← hm, hb]; rfl
             clear hc' hg' hb hm hbn
             cases hz : ((b.toNat : Int) != 0) with
             | true =>
              have HV : Hid (R = false) := by
               show R = _
               rw [HR4.out]
               have : rel3 bs ⟨(f : Int), (n : Int), add⟩ = false := by
                rw [← Bool.not_eq_true, HI3.out]
                intro H
                have h0 := H j hj4
                rw [hgd] at h0
                rw [h0] at hz
                simp at hz
               rw [this]; rfl
              clear hgd
              go_wp2
              go_ret
              exact ⟨by rw [HV.out]; rfl, HW7.out⟩
             | false =>
              have hz0 : b.toNat = 0 := by simp at hz; simp [hz]
              have HJ2 : Hid (∀ i, i < j + 1 → (bs.getD (f + i) 0).toNat = 0) := fun i hi => by
               rcases Nat.lt_or_ge i j with h | h
               ·exact HJ.out i h
               ·obtain rfl : i = j := by omega
                rw [hgd, hz0]
              clear hgd hz0
              go_wp2
              exact ⟨⟨j + 1, by go_num, by omega, HJ2, by first | rfl | trivial⟩, by simp [intOf]; omega⟩
            ·obtain rfl : j = 4 := by omega
             have HN : Hid (R = relB align size obs bs ((f : Int) + 4) (rls.drop (k + 1))) := by
              show R = _
              rw [HR4.out, HI3.out.2 HJ.out]; rfl
             go_wp2
             exact ⟨⟨k + 1, (f : Int), by go_num, rfl, by omega, by omega, HN, HB7⟩, by simp [intOf]; omega⟩
    ·obtain rfl : k = rls.length := by omega
     have HV : Hid (R = true) := by show R = _; rw [HRk.out, List.drop_length]; rfl
     go_wp2
     go_ret
     exact ⟨by rw [HV.out]; rfl, HBR.out⟩
end
end Go.Proofs.YtelaaaamnphbpaaGreatDoor