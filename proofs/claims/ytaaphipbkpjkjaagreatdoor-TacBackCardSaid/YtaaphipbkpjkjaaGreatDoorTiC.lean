/-
  The given answer's Prog: two programs that are the same.
-/
import Derived.Test.YtaaphipbkpjkjaaGreatDoorNQ
namespace Go.Proofs.YtaaphipbkpjkjaaGreatDoor
open Go.RowKit Go.Maps
set_option linter.unusedVariables false
set_option linter.unusedSimpArgs false
set_option maxRecDepth 100000
section
variable {w : World}
theorem two_new (W : World) (A B : Obj) : ((W.alloc A).alloc B).drew.heap[W.heap.size]? = some A ∧ ((W.alloc A).alloc B).drew.heap[W.heap.size + 1]? = some B ∧ SH W ((W.alloc A).alloc B).drew := by
  refine ⟨blk_b (heap_r0 W A) (Below.drew (below1 (W.alloc A) B)), ?_, SH.drew (SH.alloc (SH.alloc (SH.refl W) A) B)⟩
  have h := heap_r0 (W.alloc A) B
  rw [show (W.alloc A).heap.size = W.heap.size + 1 by simp] at h
  exact h
set_option maxHeartbeats 4000000 in
theorem rSameBy_c {p1 p2 : Option Addr} {c1 c2 : Nat} {l : List UInt8} (h1 : RowV byC 1 w p1 c1 l) (h2 : RowV byC 1 w p2 c2 l) (hl : l.length ≤ 9223372036854775806) :
    Calls Tryz.prog 36 #[.slice p1 l.length c1, .slice p2 l.length c2] w fun e w' => e = .returned (.bool true) ∧ Below w.heap.size w w' := by
  have HK1 : Hid (∀ Y, Below w.heap.size w Y → RowV byC 1 Y p1 c1 l) := fun Y hY => h1.below hY
  have HK2 : Hid (∀ Y, Below w.heap.size w Y → RowV byC 1 Y p2 c2 l) := fun Y hY => h2.below hY
  have nn : ((l.length : Int) != (l.length : Int)) = false := by simp
  clear h1 h2
  go_enter Tryz.func36, Tryz.ntmps36
  go_wp2
  clear nn
  go_loopw [5] (fun iv wr => ∃ k : Nat, iv = .int .i64 k ∧ k ≤ l.length ∧ Hid (Below w.heap.size w wr)) (fun iv _ => l.length - (intOf iv).toNat)
  case atStart => exact ⟨0, rfl, Nat.zero_le _, Below.refl _ _⟩
  case round =>
    obtain ⟨k, rfl, hk, HX⟩ := hrel
    by_cases hlt : k < l.length
    · obtain ⟨b, hb⟩ : ∃ r, l[k]? = some r := ⟨_, List.getElem?_eq_getElem hlt⟩
      obtain ⟨g1, o1, e1, hg1, hc1⟩ := (HK1.out wr HX.out).2 k _ hb
      obtain ⟨g2, o2, e2, hg2, hc2⟩ := (HK2.out wr HX.out).2 k _ hb
      have q1 := (HK1.out wr HX.out).1.1
      have q2 := (HK2.out wr HX.out).1.1
      subst e1 e2
      have z1 := hc1 0 (by omega)
      have z2 := hc2 0 (by omega)
      simp only [byC, List.getElem?_cons_zero, Nat.add_zero, Nat.mul_one] at z1 z2
      have nb : ((b.toNat : Int) != (b.toNat : Int)) = false := by simp
      clear hc1 hc2 hb
      go_upto_region 6 with (fail)
      go_quiet (fail)
      go_wp2
      exact ⟨⟨k + 1, by go_num, by omega, HX.out.trans (below_drewN _ wr nq)⟩, by simp [intOf]; omega⟩
    · have hge : ¬ ((k : Int) < (l.length : Int)) := by omega
      go_wp2
      go_ret
      exact ⟨rfl, HX.out⟩
theorem PgEq.symm {x y : Pg} (h : PgEq x y) : PgEq y x :=
  ⟨h.mn.symm, h.on.symm, h.fn.symm, fun k a b ha hb => ⟨(h.ob k b a hb ha).nm.symm, (h.ob k b a hb ha).sz.symm, (h.ob k b a hb ha).al.symm, (h.ob k b a hb ha).bs.symm, (h.ob k b a hb ha).rl.symm⟩,
    fun k a b ha hb => ⟨(h.fs k b a hb ha).nm.symm, (h.fs k b a hb ha).pr.symm, (h.fs k b a hb ha).tp.symm, (h.fs k b a hb ha).gv.symm, (h.fs k b a hb ha).sl.symm, (h.fs k b a hb ha).co.symm⟩⟩
set_option maxHeartbeats 16000000 in
theorem rProgA_c {x y : Pg} {a b : Pw} (hx : PgOK w x a) (hy : PgOK w y b) (he : PgEq x y) :
    Calls Tryz.prog 16 #[pgV x a, pgV y b] w fun e w' => e = .returned (.bool true) ∧ Below w.heap.size w w' := by
  obtain ⟨lo, lf, mn⟩ := x
  obtain ⟨mo, mf, mn2⟩ := y
  obtain ⟨ap, ac, afp, afc⟩ := a
  obtain ⟨bp, bc, bfp, bfc⟩ := b
  obtain ⟨hmn, hon, hfn, heo, hef⟩ := he
  simp only at hmn hon hfn heo hef
  subst hmn
  unfold pgV
  show Calls Tryz.prog 16 #[.agg #[.slice ap lo.length ac, .slice afp lf.length afc, .int .i64 mn2], .agg #[.slice bp mo.length bc, .slice bfp mf.length bfc, .int .i64 mn2]] w _
  rw [hon, hfn]
  have b1 := below1 w (.cells #[.slice ap lo.length ac, .slice afp lf.length afc, .int .i64 mn2] TPg)
  have b2 := below1 (w.alloc (.cells #[.slice ap lo.length ac, .slice afp lf.length afc, .int .i64 mn2] TPg)) (.cells #[.slice bp lo.length bc, .slice bfp lf.length bfc, .int .i64 mn2] TPg)
  have N1 := blk_b (heap_r0 w (.cells #[.slice ap lo.length ac, .slice afp lf.length afc, .int .i64 mn2] TPg)) b2
  have N2 := heap_r0 (w.alloc (.cells #[.slice ap lo.length ac, .slice afp lf.length afc, .int .i64 mn2] TPg)) (.cells #[.slice bp lo.length bc, .slice bfp lf.length bfc, .int .i64 mn2] TPg)
  have hz : (w.alloc (.cells #[.slice ap lo.length ac, .slice afp lf.length afc, .int .i64 mn2] TPg)).heap.size = w.heap.size + 1 := by simp
  rw [hz] at N2
  have HB : Hid (Below w.heap.size w ((w.alloc (.cells #[.slice ap lo.length ac, .slice afp lf.length afc, .int .i64 mn2] TPg)).alloc (.cells #[.slice bp lo.length bc, .slice bfp lf.length bfc, .int .i64 mn2] TPg))) := b1.trans (b2.mono b1.size)
  have HN1 : Hid (_ = _) := N1
  have HN2 : Hid (_ = _) := N2
  have x0 := (Lib.cell_of_heap N1 0).trans rfl
  have x1 := (Lib.cell_of_heap N1 1).trans rfl
  have x2 := (Lib.cell_of_heap N1 2).trans rfl
  have y0 := (Lib.cell_of_heap N2 0).trans rfl
  have y1 := (Lib.cell_of_heap N2 1).trans rfl
  have y2 := (Lib.cell_of_heap N2 2).trans rfl
  have HKO1 : Hid (∀ Y, Below w.heap.size w Y → RowV ogC 5 Y ap ac lo) := fun Y hY => hx.ob.below hY
  have HKO2 : Hid (∀ Y, Below w.heap.size w Y → RowV ogC 5 Y bp bc mo) := fun Y hY => hy.ob.below hY
  have HKF1 : Hid (∀ Y, Below w.heap.size w Y → RowV fgC 6 Y afp afc lf) := fun Y hY => hx.fr.below hY
  have HKF2 : Hid (∀ Y, Below w.heap.size w Y → RowV fgC 6 Y bfp bfc mf) := fun Y hY => hy.fr.below hY
  have HIO1 : Hid (∀ q ∈ lo, OgOK w q) := hx.oi
  have HIO2 : Hid (∀ q ∈ mo, OgOK w q) := hy.oi
  have HIF1 : Hid (∀ q ∈ lf, FgOK w q) := hx.fi
  have HIF2 : Hid (∀ q ∈ mf, FgOK w q) := hy.fi
  have HEO : Hid (∀ (k : Nat) (a b : Og), lo[k]? = some a → mo[k]? = some b → OgEq a b) := heo
  have HEF : Hid (∀ (k : Nat) (a b : Fg), lf[k]? = some a → mf[k]? = some b → FgEq a b) := hef
  have HLO : Hid (lo.length = mo.length) := hon.symm
  have HLF : Hid (lf.length = mf.length) := hfn.symm
  have hom : lo.length ≤ 9223372036854775806 := hx.om
  have hfm : lf.length ≤ 9223372036854775806 := hx.fm
  have nn1 : (mn2 != mn2) = false := by simp
  have nn2 : ((lo.length : Int) != (lo.length : Int)) = false := by simp
  have nn3 : ((lf.length : Int) != (lf.length : Int)) = false := by simp
  have nt := not_t
  have nf := not_f
  clear b1 b2 N1 N2 hz hx hy heo hef hon hfn
  go_enter Tryz.func16, Tryz.ntmps16
  go_upto_region 1 with (fail)
  refine (?_ : Code.wp _ _ _ _ ((w.alloc (.cells #[.slice ap lo.length ac, .slice afp lf.length afc, .int .i64 mn2] TPg)).alloc (.cells #[.slice bp lo.length bc, .slice bfp lf.length bfc, .int .i64 mn2] TPg)))
  generalize ((w.alloc (.cells #[.slice ap lo.length ac, .slice afp lf.length afc, .int .i64 mn2] TPg)).alloc (.cells #[.slice bp lo.length bc, .slice bfp lf.length bfc, .int .i64 mn2] TPg)) = W1 at *
  go_wp2
  clear nn1 nn2 nn3 x0 x1 x2 y0 y1 y2
  go_loopw [5] (fun iv wr => ∃ k : Nat, iv = .int .i64 k ∧ k ≤ lo.length ∧ Hid (Below W1.heap.size W1 wr)) (fun iv _ => lo.length - (intOf iv).toNat)
  case atStart => exact ⟨0, rfl, Nat.zero_le _, Below.refl _ _⟩
  case round =>
    obtain ⟨k, rfl, hk, HX⟩ := hrel
    have HBX : Hid (Below w.heap.size w wr) := HB.out.trans (HX.out.mono HB.out.size)
    have e1 := (Lib.cell_of_heap (blk_b HN1.out HX.out) 0).trans rfl
    have e2 := (Lib.cell_of_heap (blk_b HN2.out HX.out) 0).trans rfl
    by_cases hlt : k < lo.length
    · obtain ⟨qa, ha⟩ : ∃ r, lo[k]? = some r := ⟨_, List.getElem?_eq_getElem hlt⟩
      obtain ⟨qb, hb⟩ : ∃ r, mo[k]? = some r := ⟨_, List.getElem?_eq_getElem (by have := HLO.out; omega)⟩
      have HEK := HEO.out k qa qb ha hb
      have HOA : Hid (OgOK w qa) := HIO1.out qa (List.mem_of_getElem? ha)
      have HOB : Hid (OgOK w qb) := HIO2.out qb (List.mem_of_getElem? hb)
      obtain ⟨g1, o1, hk1e, hg1, hc1⟩ := (HKO1.out wr HBX.out).2 k _ ha
      obtain ⟨g2, o2, hk2e, hg2, hc2⟩ := (HKO2.out wr HBX.out).2 k _ hb
      subst hk1e hk2e
      have q1 := (HKO1.out wr HBX.out).1.1
      have q2 := (HKO2.out wr HBX.out).1.1
      rw [← HLO.out] at q2
      clear ha hb
      obtain ⟨⟨nm, sz, al, xp, xn, xc, up, un, uc⟩, bs, rls⟩ := qa
      obtain ⟨⟨nm2, sz2, al2, yp, yn, yc, vp, vn, vc⟩, bs2, rls2⟩ := qb
      obtain ⟨k1, k2, k3, k4, k5⟩ := HEK
      simp only at k1 k2 k3 k4 k5
      replace k1 := k1.symm
      replace k2 := k2.symm
      replace k3 := k3.symm
      replace k4 := k4.symm
      replace k5 := k5.symm
      subst k1 k2 k3 k4 k5
      obtain rfl : xn = bs.length := HOA.out.bn
      obtain rfl : un = rls.length := HOA.out.rn
      obtain rfl : yn = bs.length := HOB.out.bn
      obtain rfl : vn = rls.length := HOB.out.rn
      have m0 : ∀ Y, SH wr Y → Y.cell? ⟨g1, o1 + k * 5, none⟩ = some (.string nm) := fun Y h => (Below.cell h (p := ⟨g1, _, none⟩) hg1).trans (hc1 0 (by omega))
      have m1 : ∀ Y, SH wr Y → Y.cell? ⟨g1, o1 + k * 5 + 1, none⟩ = some (.int .i64 sz) := fun Y h => (Below.cell h (p := ⟨g1, _, none⟩) hg1).trans (hc1 1 (by omega))
      have m2 : ∀ Y, SH wr Y → Y.cell? ⟨g1, o1 + k * 5 + 2, none⟩ = some (.int .i64 al) := fun Y h => (Below.cell h (p := ⟨g1, _, none⟩) hg1).trans (hc1 2 (by omega))
      have m3 : ∀ Y, SH wr Y → Y.cell? ⟨g1, o1 + k * 5 + 3, none⟩ = some (.slice xp bs.length xc) := fun Y h => (Below.cell h (p := ⟨g1, _, none⟩) hg1).trans (hc1 3 (by omega))
      have m4 : ∀ Y, SH wr Y → Y.cell? ⟨g1, o1 + k * 5 + 4, none⟩ = some (.slice up rls.length uc) := fun Y h => (Below.cell h (p := ⟨g1, _, none⟩) hg1).trans (hc1 4 (by omega))
      have n0 : ∀ Y, SH wr Y → Y.cell? ⟨g2, o2 + k * 5, none⟩ = some (.string nm) := fun Y h => (Below.cell h (p := ⟨g2, _, none⟩) hg2).trans (hc2 0 (by omega))
      have n1 : ∀ Y, SH wr Y → Y.cell? ⟨g2, o2 + k * 5 + 1, none⟩ = some (.int .i64 sz) := fun Y h => (Below.cell h (p := ⟨g2, _, none⟩) hg2).trans (hc2 1 (by omega))
      have n2 : ∀ Y, SH wr Y → Y.cell? ⟨g2, o2 + k * 5 + 2, none⟩ = some (.int .i64 al) := fun Y h => (Below.cell h (p := ⟨g2, _, none⟩) hg2).trans (hc2 2 (by omega))
      have n3 : ∀ Y, SH wr Y → Y.cell? ⟨g2, o2 + k * 5 + 3, none⟩ = some (.slice yp bs.length yc) := fun Y h => (Below.cell h (p := ⟨g2, _, none⟩) hg2).trans (hc2 3 (by omega))
      have n4 : ∀ Y, SH wr Y → Y.cell? ⟨g2, o2 + k * 5 + 4, none⟩ = some (.slice vp rls.length vc) := fun Y h => (Below.cell h (p := ⟨g2, _, none⟩) hg2).trans (hc2 4 (by omega))
      have E1 : ∀ Y, SH wr Y → Y.cell? ⟨w.heap.size, 0, none⟩ = some (.slice (some ⟨g1, o1, none⟩) lo.length ac) := fun Y h => blk_cell e1 h
      have E2 : ∀ Y, SH wr Y → Y.cell? ⟨w.heap.size + 1, 0, none⟩ = some (.slice (some ⟨g2, o2, none⟩) lo.length bc) := fun Y h => blk_cell e2 h
      clear hc1 hc2
      go_upto_region 6 with (fail)
      go_cut [6, 7] from 40 to 49 (fun s6 s7 wx => ∃ g6 g7, s6 = .pointer (some ⟨g6, 0, none⟩) ∧ s7 = .pointer (some ⟨g7, 0, none⟩) ∧ Hid (wx.heap[g6]? = some (.cells #[.string nm, .int .i64 sz, .int .i64 al, .slice xp bs.length xc, .slice up rls.length uc] TOb (0, 0))) ∧ Hid (wx.heap[g7]? = some (.cells #[.string nm, .int .i64 sz, .int .i64 al, .slice yp bs.length yc, .slice vp rls.length vc] TOb (0, 0))) ∧ Hid (SH wr wx))
      case first =>
        have HSH : SH wr wr := SH.refl wr
        go_region_held3 (fun Y => SH wr Y) (with_reducible first | assumption | (refine SH.drew ?_; assumption) | (refine SH.alloc ?_ _; assumption) | (refine SH.alloc ?_ _; refine SH.alloc ?_ _; assumption) | (refine SH.drew ?_; refine SH.alloc ?_ _; assumption) | (refine SH.drew ?_; refine SH.alloc ?_ _; refine SH.alloc ?_ _; assumption)) (fail)
        all_goals go_wp2_with fail
        all_goals go_meet
        all_goals refine ⟨_, _, rfl, rfl, Lib.hid ?_, Lib.hid ?_, Lib.hid ?_⟩
        all_goals first | exact (two_new wr _ _).1 | exact (two_new wr _ _).2.1 | exact (two_new wr _ _).2.2
      case rest =>
        obtain ⟨g6, g7, rfl, rfl, HN6, HN7, HSH⟩ := hcut
        rename World => wx
        clear m0 m1 m2 m3 m4 n0 n1 n2 n3 n4 e1 e2 E1 E2
        have HBY : Hid (Below w.heap.size w wx) := HBX.out.trans (Below.mono HSH.out HBX.out.size)
        have HX2 : Hid (Below W1.heap.size W1 wx) := HX.out.trans (Below.mono HSH.out HX.out.size)
        have a0 := (Lib.cell_of_heap HN6.out 0).trans rfl
        have a1 := (Lib.cell_of_heap HN6.out 1).trans rfl
        have a2 := (Lib.cell_of_heap HN6.out 2).trans rfl
        have a3 := (Lib.cell_of_heap HN6.out 3).trans rfl
        have a4 := (Lib.cell_of_heap HN6.out 4).trans rfl
        have b0 := (Lib.cell_of_heap HN7.out 0).trans rfl
        have b1 := (Lib.cell_of_heap HN7.out 1).trans rfl
        have b2 := (Lib.cell_of_heap HN7.out 2).trans rfl
        have b3 := (Lib.cell_of_heap HN7.out 3).trans rfl
        have b4 := (Lib.cell_of_heap HN7.out 4).trans rfl
        have nn1 : (!nm.toList == nm.toList) = false := by simp
        have nn2 : (sz != sz) = false := by simp
        have nn3 : (al != al) = false := by simp
        have nn4 : ((rls.length : Int) != (rls.length : Int)) = false := by simp
        have cS := rSameBy_c (HOA.out.br.below HBY.out) (HOB.out.br.below HBY.out) HOA.out.bm
        have hrm : rls.length ≤ 9223372036854775806 := HOA.out.rm
        simp only at cS
        go_upto_region 10 with (first | (go_at_call 36; refine cS.mono ?_; rintro e w3 ⟨rfl, hb3⟩; have HB3 : Hid (Below wx.heap.size wx w3) := hb3; have HN63 : Hid (_ = _) := blk_b HN6.out hb3; have HN73 : Hid (_ = _) := blk_b HN7.out hb3; have a4' := (Lib.cell_of_heap HN63.out 4).trans rfl; have b4' := (Lib.cell_of_heap HN73.out 4).trans rfl; clear hb3 cS) | fail)
        clear a0 a1 a2 a3 a4 b0 b1 b2 b3 b4 nn1 nn2 nn3 nn4 a4' b4'
        go_loopw [8] (fun jv wy => ∃ j : Nat, jv = .int .i64 j ∧ j ≤ rls.length ∧ Hid (Below w3.heap.size w3 wy)) (fun jv _ => rls.length - (intOf jv).toNat)
        case atStart => exact ⟨0, rfl, Nat.zero_le _, Below.refl _ _⟩
        case round =>
          rename World => wy
          obtain ⟨j, rfl, hj, HY⟩ := hrel
          have HWY : Hid (Below wx.heap.size wx wy) := HB3.out.trans (HY.out.mono HB3.out.size)
          have a4 := (Lib.cell_of_heap (blk_b HN6.out HWY.out) 4).trans rfl
          have b4 := (Lib.cell_of_heap (blk_b HN7.out HWY.out) 4).trans rfl
          have HBZ : Hid (Below w.heap.size w wy) := HBY.out.trans (HWY.out.mono HBY.out.size)
          by_cases hjl : j < rls.length
          · obtain ⟨⟨rof, rgl, rad⟩, hr⟩ : ∃ r, rls[j]? = some r := ⟨_, List.getElem?_eq_getElem hjl⟩
            obtain ⟨g3, o3, h3e, hg3, hc3⟩ := (HOA.out.rr.below HBZ.out).2 j _ hr
            obtain ⟨g4, o4, h4e, hg4, hc4⟩ := (HOB.out.rr.below HBZ.out).2 j _ hr
            have w1 := (HOA.out.rr.below HBZ.out).1.1
            have w2 := (HOB.out.rr.below HBZ.out).1.1
            simp only at h3e h4e w1 w2
            subst h3e h4e
            have r0 : wy.cell? ⟨g3, o3 + j * 3, none⟩ = some (.int .i64 rof) := hc3 0 (by omega)
            have r1 : wy.cell? ⟨g3, o3 + j * 3 + 1, none⟩ = some (.int .i64 rgl) := hc3 1 (by omega)
            have r2 : wy.cell? ⟨g3, o3 + j * 3 + 2, none⟩ = some (.int .i64 rad) := hc3 2 (by omega)
            have t0 : wy.cell? ⟨g4, o4 + j * 3, none⟩ = some (.int .i64 rof) := hc4 0 (by omega)
            have t1 : wy.cell? ⟨g4, o4 + j * 3 + 1, none⟩ = some (.int .i64 rgl) := hc4 1 (by omega)
            have t2 : wy.cell? ⟨g4, o4 + j * 3 + 2, none⟩ = some (.int .i64 rad) := hc4 2 (by omega)
            clear hc3 hc4 hr
            go_upto_region 12 with (fail)
            go_quiet (fail)
            go_wp2
            exact ⟨⟨j + 1, by go_num, by omega, HY.out.trans (below_drewN _ wy nq)⟩, by simp [intOf]; omega⟩
          · have hge : ¬ ((j : Int) < (rls.length : Int)) := by omega
            go_wp2
            exact ⟨⟨k + 1, by go_num, by omega, HX2.out.trans (HWY.out.mono HX2.out.size)⟩, by simp [intOf]; omega⟩
    · have hkl : k = lo.length := by omega
      subst hkl
      have hge : ¬ ((lo.length : Int) < (lo.length : Int)) := by omega
      go_wp2
      clear e1 e2
      go_loopw [9] (fun iv wx => ∃ k : Nat, iv = .int .i64 k ∧ k ≤ lf.length ∧ Hid (Below W1.heap.size W1 wx)) (fun iv _ => lf.length - (intOf iv).toNat)
      case atStart => exact ⟨0, rfl, Nat.zero_le _, HX⟩
      case round =>
        clear HX HBX
        rename World => wx
        obtain ⟨k, rfl, hk, HX⟩ := hrel
        have HB9 : Hid (Below w.heap.size w wx) := HB.out.trans (HX.out.mono HB.out.size)
        have e1 := (Lib.cell_of_heap (blk_b HN1.out HX.out) 1).trans rfl
        have e2 := (Lib.cell_of_heap (blk_b HN2.out HX.out) 1).trans rfl
        by_cases hlt : k < lf.length
        · obtain ⟨a, ha⟩ : ∃ r, lf[k]? = some r := ⟨_, List.getElem?_eq_getElem hlt⟩
          obtain ⟨b, hb⟩ : ∃ r, mf[k]? = some r := ⟨_, List.getElem?_eq_getElem (by have := HLF.out; omega)⟩
          obtain ⟨g1, o1, hk1e, hg1, hc1⟩ := (HKF1.out wx HB9.out).2 k _ ha
          obtain ⟨g2, o2, hk2e, hg2, hc2⟩ := (HKF2.out wx HB9.out).2 k _ hb
          subst hk1e hk2e
          have q1 := (HKF1.out wx HB9.out).1.1
          have q2 := (HKF2.out wx HB9.out).1.1
          rw [← HLF.out] at q2
          have E1 : ∀ Y, SH wx Y → Y.cell? ⟨w.heap.size, 1, none⟩ = some (.slice (some ⟨g1, o1, none⟩) lf.length afc) := fun Y h => blk_cell e1 h
          have E2 : ∀ Y, SH wx Y → Y.cell? ⟨w.heap.size + 1, 1, none⟩ = some (.slice (some ⟨g2, o2, none⟩) lf.length bfc) := fun Y h => blk_cell e2 h
          obtain ⟨m1_0, m1_1, m1_2, m1_3, m1_4, m1_5⟩ := shrow6 a.f hg1 hc1
          obtain ⟨m2_0, m2_1, m2_2, m2_3, m2_4, m2_5⟩ := shrow6 b.f hg2 hc2
          have CS : Hid (∀ Y, SH wx Y → Calls Tryz.prog 37 #[.agg #[.string a.f.nm, .int .i64 a.f.pr, .int .i64 a.f.tp, .bool a.f.gv, .slice a.f.sp a.f.sn a.f.sc, .slice a.f.cp a.f.cn a.f.cc], .agg #[.string b.f.nm, .int .i64 b.f.pr, .int .i64 b.f.tp, .bool b.f.gv, .slice b.f.sp b.f.sn b.f.sc, .slice b.f.cp b.f.cn b.f.cc]] Y fun e w' => e = .returned (.bool true) ∧ Below Y.heap.size Y w') := fun Y h => rFuncE_c (HEF.out k a b ha hb) ((HIF1.out _ (List.mem_of_getElem? ha)).below (HB9.out.trans (Below.mono h HB9.out.size))) ((HIF2.out _ (List.mem_of_getElem? hb)).below (HB9.out.trans (Below.mono h HB9.out.size)))
          have nt := not_t
          have HSH : SH wx wx := Below.refl _ _
          clear hc1 hc2 ha hb e1 e2
          go_upto_region 17 with (fail)
          go_region_held3 (fun Y => SH wx Y) (with_reducible first | assumption | (refine SH.drew ?_; assumption) | (refine SH.below ?_ (by assumption); assumption)) (first
            | (go_at_call 37; refine (CS.out _ ?_).mono ?_; (with_reducible first | assumption | (refine SH.drew ?_; assumption)); rintro e y1 ⟨rfl, hy1⟩))
          all_goals go_wp2_with fail
          exact ⟨⟨k + 1, by go_num, by omega, HX.out.trans (Below.mono (SH.below (SH.drew HSH) hy1) HX.out.size)⟩, by simp [intOf]; omega⟩
        · have hge : ¬ ((k : Int) < (lf.length : Int)) := by omega
          go_wp2
          go_ret
          exact ⟨rfl, HB9.out⟩
end
end Go.Proofs.YtaaphipbkpjkjaaGreatDoor
