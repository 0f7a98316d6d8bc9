/- The given answer's Right at every instruction. -/
import Derived.Test.YtelaaaamnphbpaaGreatDoorThF
import Derived.Test.YtelaaaamnphbpaaGreatDoorNI
import Derived.Deep.RegionHeld3
import Derived.Test.YtelaaaamnphbpaaGreatDoorThK
namespace Go.Proofs.YtelaaaamnphbpaaGreatDoor
set_option maxHeartbeats 16000000
open Go.RowKit Go.Maps
set_option linter.unusedVariables false
set_option linter.unusedSimpArgs false
set_option maxRecDepth 100000
section
variable {w : World}
theorem rRight_8 {op : Option Addr} {on oc : Nat} {mn : Int} {fp : Option Addr} {fc : Nat} {nm : ByteArray} {pr tp : Int} {gv : Bool} {sp : Option Addr} {sn sc : Nat} {cp : Option Addr} {cn cc : Nat} (h0 : 0 ≤ tp) (h1 : tp ≤ 9223372036854775807) (hcn : cn ≤ 9223372036854775806) (sls : List Slt) (obs : List Ob) (fns : List Fn) (hr : RowV fnC 6 w fp fc fns) (hfl : fns.length ≤ 9223372036854775806)
 {bin d ak an bk bn xn off wd : Int} {sg : Bool} {args : List Ar} {xp : Option Addr} {xc : Nat} (hx : InOK w ⟨8, bin, d, ⟨ak, an⟩, ⟨bk, bn⟩, xn, off, wd, sg, args⟩ xp xc) :
 Calls Tryz.prog 58 #[.agg #[.slice op on oc, .slice fp fns.length fc, .int .i64 mn], .agg #[.string nm, .int .i64 pr, .int .i64 tp, .bool gv, .slice sp sn sc, .slice cp cn cc], .agg #[.int .i64 8, .int .i64 bin, .int .i64 d, .int .i64 ak, .int .u32 an, .int .i64 bk, .int .u32 bn, .int .i64 xn, .int .i64 off, .int .i64 wd, .bool sg, .slice xp args.length xc]] w fun e w' => e = .returned (.bool (rightB tp gv cn sls obs fns ⟨8, bin, d, ⟨ak, an⟩, ⟨bk, bn⟩, xn, off, wd, sg, args⟩)) ∧ Below w.heap.size w w' := by
 obtain ⟨W1, hW1, hNP, hNF, hNX, hHB⟩ := three_ex w (.cells #[.slice op on oc, .slice fp fns.length fc, .int .i64 mn] TPg) (.cells #[.string nm, .int .i64 pr, .int .i64 tp, .bool gv, .slice sp sn sc, .slice cp cn cc] TFn) (.cells #[.int .i64 8, .int .i64 bin, .int .i64 d, .int .i64 ak, .int .u32 an, .int .i64 bk, .int .u32 bn, .int .i64 xn, .int .i64 off, .int .i64 wd, .bool sg, .slice xp args.length xc] TIn)
 have NP : Hid (_ = _) := hNP
 have NF : Hid (_ = _) := hNF
 have NX : Hid (_ = _) := hNX
 have HB : Hid (Below w.heap.size w _) := hHB
 have HAV : Hid (∀ Y, Below w.heap.size w Y → ArgV Y (.slice xp args.length xc) args) := fun Y hY => hx.ar.below hY
 have hal : args.length ≤ 9223372036854775806 := hx.al
 have CC0 : Hid (∀ Y, Below w.heap.size w Y → Calls Tryz.prog 88 #[.agg #[.slice op on oc, .slice fp fns.length fc, .int .i64 mn], .agg #[.string nm, .int .i64 pr, .int .i64 tp, .bool gv, .slice sp sn sc, .slice cp cn cc], .agg #[.int .i64 8, .int .i64 bin, .int .i64 d, .int .i64 ak, .int .u32 an, .int .i64 bk, .int .u32 bn, .int .i64 xn, .int .i64 off, .int .i64 wd, .bool sg, .slice xp args.length xc]] Y fun e w' => e = .returned (.bool (rcallB tp fns ⟨8, bin, d, ⟨ak, an⟩, ⟨bk, bn⟩, xn, off, wd, sg, args⟩)) ∧ Below Y.heap.size Y w') := fun Y hY => rCall_c (hr.below hY) hfl ⟨nm, pr, tp, gv, sp, sn, sc, cp, cn, cc⟩ h0 h1 (hx.below hY)
 obtain ⟨R, hR⟩ : ∃ R, R = rightB tp gv cn sls obs fns ⟨8, bin, d, ⟨ak, an⟩, ⟨bk, bn⟩, xn, off, wd, sg, args⟩ := ⟨_, rfl⟩
 rw [← hR]
 obtain ⟨SB, hSB⟩ : ∃ b, b = (sameB ⟨8, bin, d, ⟨ak, an⟩, ⟨bk, bn⟩, xn, off, wd, sg, args⟩ ⟨8, 0, d, ⟨0, 0⟩, ⟨0, 0⟩, xn, 0, 0, false, args⟩ && decide (args.length = args.length)) := ⟨_, rfl⟩
 have HR : Hid (R = ((rcallB tp fns ⟨8, bin, d, ⟨ak, an⟩, ⟨bk, bn⟩, xn, off, wd, sg, args⟩) && SB)) := by
  show R = _
  rw [hR, hSB]
  unfold rightB
  rw [bare_same_8]
  rfl
 have CSH : Hid (∀ Y, Calls Tryz.prog 84 #[.agg #[.int .i64 8, .int .i64 bin, .int .i64 d, .int .i64 ak, .int .u32 an, .int .i64 bk, .int .u32 bn, .int .i64 xn, .int .i64 off, .int .i64 wd, .bool sg, .slice xp args.length xc]] Y fun e w' => e = .returned (.agg #[.int .i64 8, .int .i64 0, .int .i64 d, .int .i64 0, .int .u32 0, .int .i64 0, .int .u32 0, .int .i64 xn, .int .i64 0, .int .i64 0, .bool false, .slice xp args.length xc]) ∧ Below Y.heap.size Y w') := fun Y => rShape_8 bin d ak an bk bn xn off wd sg xp args.length xc Y
 have CSM : Hid (∀ Y, Below w.heap.size w Y → Calls Tryz.prog 59 #[.agg #[.int .i64 8, .int .i64 bin, .int .i64 d, .int .i64 ak, .int .u32 an, .int .i64 bk, .int .u32 bn, .int .i64 xn, .int .i64 off, .int .i64 wd, .bool sg, .slice xp args.length xc], .agg #[.int .i64 8, .int .i64 0, .int .i64 d, .int .i64 0, .int .u32 0, .int .i64 0, .int .u32 0, .int .i64 xn, .int .i64 0, .int .i64 0, .bool false, .slice xp args.length xc]] Y fun e w' => e = .returned (.bool SB) ∧ Below Y.heap.size Y w') := fun Y hY => by
  cases hs : SB with
  | false => exact rSameF_c (x := ⟨8, bin, d, ⟨ak, an⟩, ⟨bk, bn⟩, xn, off, wd, sg, args⟩) (y := ⟨8, 0, d, ⟨0, 0⟩, ⟨0, 0⟩, xn, 0, 0, false, args⟩) (p1 := xp) (n1 := args.length) (c1 := xc) (p2 := xp) (n2 := args.length) (c2 := xc) (hSB.symm.trans hs)
  | true =>
   have hq := hSB.symm.trans hs
   simp [sameB, arEq] at hq
   have hA1 := (HAV.out Y hY)
   have := rSameT_c (w := Y) (x := ⟨8, bin, d, ⟨ak, an⟩, ⟨bk, bn⟩, xn, off, wd, sg, args⟩) (p1 := xp) (p2 := xp) (c1 := xc) (c2 := xc) hA1 hA1 hal
   simp only [inCells] at this ⊢
   simp_all
 have nt := not_t
 have nf := not_f
 have hwr : IntKind.i64.wrap ((cn : Int) - 1) = (cn : Int) - 1 := wrap_idI (by omega) (by omega)
 have CCW : Hid (∀ Y, SH W1 Y → Calls Tryz.prog 88 #[.agg #[.slice op on oc, .slice fp fns.length fc, .int .i64 mn], .agg #[.string nm, .int .i64 pr, .int .i64 tp, .bool gv, .slice sp sn sc, .slice cp cn cc], .agg #[.int .i64 8, .int .i64 bin, .int .i64 d, .int .i64 ak, .int .u32 an, .int .i64 bk, .int .u32 bn, .int .i64 xn, .int .i64 off, .int .i64 wd, .bool sg, .slice xp args.length xc]] Y fun e w' => e = .returned (.bool (rcallB tp fns ⟨8, bin, d, ⟨ak, an⟩, ⟨bk, bn⟩, xn, off, wd, sg, args⟩)) ∧ Below Y.heap.size Y w') := fun Y h => CC0.out Y (HB.out.trans (Below.mono h HB.out.size))
 clear CC0 hNP hNF hNX hHB hR hx HAV hal h0 h1 hr
 have HSBE : Hid (SB = _) := hSB
 clear hSB
 generalize rcallB tp fns ⟨8, bin, d, ⟨ak, an⟩, ⟨bk, bn⟩, xn, off, wd, sg, args⟩ = B0 at *
 go_enter Tryz.func58, Tryz.ntmps58
 go_upto_region 1 with (fail)
 refine wp_at hW1 ?_
 clear hW1
 obtain ⟨g0, g1, g2, g3, g4, g5, g6, g7, g8, g9, g10, g11⟩ := sh12 NX.out
 have HSH : SH W1 W1 := Below.refl _ _
 have CS1 : Hid (∀ Y, SH W1 Y → Calls Tryz.prog 59 #[.agg #[.int .i64 8, .int .i64 bin, .int .i64 d, .int .i64 ak, .int .u32 an, .int .i64 bk, .int .u32 bn, .int .i64 xn, .int .i64 off, .int .i64 wd, .bool sg, .slice xp args.length xc], .agg #[.int .i64 8, .int .i64 0, .int .i64 d, .int .i64 0, .int .u32 0, .int .i64 0, .int .u32 0, .int .i64 xn, .int .i64 0, .int .i64 0, .bool false, .slice xp args.length xc]] Y fun e w' => e = .returned (.bool SB) ∧ Below Y.heap.size Y w') := fun Y h => CSM.out Y (HB.out.trans (Below.mono h HB.out.size))
 go_region_held3 (fun Y => SH W1 Y) (with_reducible first | assumption | (refine SH.drew ?_; assumption) | (refine SH.below ?_ (by assumption); assumption)) (first
  | (go_at_call 84; refine (CSH.out _).mono ?_; rintro e y1 ⟨rfl, hy1⟩)
  | (go_at_call 59; refine (CS1.out _ (SH.below (SH.drew HSH) hy1)).mono ?_; rintro e y2 ⟨rfl, hy2⟩))
 have HY : Hid (Below W1.heap.size W1 y2) := SH.below (SH.below (SH.drew HSH) hy1) hy2
 clear hy1 hy2 HSH g0 g1 g2 g3 g4 g5 g6 g7 g8 g9 g10 g11 CS1 CSM CSH
 have HYw : Hid (Below w.heap.size w y2) := HB.out.trans (HY.out.mono HB.out.size)
 obtain ⟨Zy, hZy⟩ : ∃ Z : SAT W1, y2 = Z.val := ⟨⟨y2, HY.out⟩, rfl⟩
 subst hZy
 cases SB with
 | false =>
  go_wp2_with fail
  go_ret
  exact ⟨by rw [HR.out]; simp, HYw.out⟩
 | true =>
  obtain ⟨F0, F1, F2, F3, F4, F5, F6, F7, F8, F9, F10, F11⟩ := sat12 NX.out
  obtain ⟨G0, G1, G2, G3, G4, G5⟩ := sat6 NF.out
  have HZW : Hid (∀ Z : SAT W1, Below w.heap.size w Z.val) := fun Z => HB.out.trans (Below.mono Z.ok HB.out.size)
  have KC0 := sat_calls (W := W1) fun Y h => CCW.out Y h
  have p0 := (Lib.cell_of_heap (blk_b NP.out HY.out) 0).trans rfl
  have p1 := (Lib.cell_of_heap (blk_b NP.out HY.out) 1).trans rfl
  have p2 := (Lib.cell_of_heap (blk_b NP.out HY.out) 2).trans rfl
  have MK0 : Hid True := trivial
  cases B0 with
  | false =>
   go_wp2_with (first
    | (have hx := MK0; clear hx; go_at_call 88; refine (KC0 _).mono ?_; rintro e v0 ⟨rfl, Z0, rfl⟩; clear MK0)
    | fail)
   go_ret
   exact ⟨by rw [HR.out]; rfl, HZW.out Z0⟩
  | true =>
   go_wp2_with (first
    | (have hx := MK0; clear hx; go_at_call 88; refine (KC0 _).mono ?_; rintro e v0 ⟨rfl, Z0, rfl⟩; clear MK0)
    | fail)
   go_ret
   exact ⟨by rw [HR.out]; rfl, HZW.out Z0⟩
end
end Go.Proofs.YtelaaaamnphbpaaGreatDoor
namespace Go.Proofs.YtelaaaamnphbpaaGreatDoor
set_option maxHeartbeats 16000000
open Go.RowKit Go.Maps
set_option linter.unusedVariables false
set_option linter.unusedSimpArgs false
set_option maxRecDepth 100000
section
variable {w : World}
theorem rRight_no {op : Option Addr} {on oc : Nat} {mn : Int} {fp : Option Addr} {fn fc : Nat} {nm : ByteArray} {pr tp : Int} {gv : Bool} {sp : Option Addr} {sn sc : Nat} {cp : Option Addr} {cn cc : Nat} (sls : List Slt) (obs : List Ob) (fns : List Fn)
 {xop bin d ak an bk bn xn off wd : Int} {sg : Bool} {args : List Ar} {xp : Option Addr} {xc : Nat} (hop : xop < 1 ∨ 14 < xop) :
 Calls Tryz.prog 58 #[.agg #[.slice op on oc, .slice fp fn fc, .int .i64 mn], .agg #[.string nm, .int .i64 pr, .int .i64 tp, .bool gv, .slice sp sn sc, .slice cp cn cc], .agg #[.int .i64 xop, .int .i64 bin, .int .i64 d, .int .i64 ak, .int .u32 an, .int .i64 bk, .int .u32 bn, .int .i64 xn, .int .i64 off, .int .i64 wd, .bool sg, .slice xp args.length xc]] w fun e w' => e = .returned (.bool (rightB tp gv cn sls obs fns ⟨xop, bin, d, ⟨ak, an⟩, ⟨bk, bn⟩, xn, off, wd, sg, args⟩)) ∧ Below w.heap.size w w' := by
 have b1 := below1 w (.cells #[.slice op on oc, .slice fp fn fc, .int .i64 mn] TPg)
 have b2 := below1 (w.alloc (.cells #[.slice op on oc, .slice fp fn fc, .int .i64 mn] TPg)) (.cells #[.string nm, .int .i64 pr, .int .i64 tp, .bool gv, .slice sp sn sc, .slice cp cn cc] TFn)
 have b3 := below1 ((w.alloc (.cells #[.slice op on oc, .slice fp fn fc, .int .i64 mn] TPg)).alloc (.cells #[.string nm, .int .i64 pr, .int .i64 tp, .bool gv, .slice sp sn sc, .slice cp cn cc] TFn)) (.cells #[.int .i64 xop, .int .i64 bin, .int .i64 d, .int .i64 ak, .int .u32 an, .int .i64 bk, .int .u32 bn, .int .i64 xn, .int .i64 off, .int .i64 wd, .bool sg, .slice xp args.length xc] TIn)
 have hzA : (w.alloc (.cells #[.slice op on oc, .slice fp fn fc, .int .i64 mn] TPg)).heap.size = w.heap.size + 1 := by simp
 have hzB : ((w.alloc (.cells #[.slice op on oc, .slice fp fn fc, .int .i64 mn] TPg)).alloc (.cells #[.string nm, .int .i64 pr, .int .i64 tp, .bool gv, .slice sp sn sc, .slice cp cn cc] TFn)).heap.size = w.heap.size + 2 := by simp
 have NX : Hid (((((w.alloc (.cells #[.slice op on oc, .slice fp fn fc, .int .i64 mn] TPg)).alloc (.cells #[.string nm, .int .i64 pr, .int .i64 tp, .bool gv, .slice sp sn sc, .slice cp cn cc] TFn)).alloc (.cells #[.int .i64 xop, .int .i64 bin, .int .i64 d, .int .i64 ak, .int .u32 an, .int .i64 bk, .int .u32 bn, .int .i64 xn, .int .i64 off, .int .i64 wd, .bool sg, .slice xp args.length xc] TIn))).heap[w.heap.size + 2]? = some (.cells #[.int .i64 xop, .int .i64 bin, .int .i64 d, .int .i64 ak, .int .u32 an, .int .i64 bk, .int .u32 bn, .int .i64 xn, .int .i64 off, .int .i64 wd, .bool sg, .slice xp args.length xc] TIn (0, 0))) := by
  have := heap_r0 ((w.alloc (.cells #[.slice op on oc, .slice fp fn fc, .int .i64 mn] TPg)).alloc (.cells #[.string nm, .int .i64 pr, .int .i64 tp, .bool gv, .slice sp sn sc, .slice cp cn cc] TFn)) (.cells #[.int .i64 xop, .int .i64 bin, .int .i64 d, .int .i64 ak, .int .u32 an, .int .i64 bk, .int .u32 bn, .int .i64 xn, .int .i64 off, .int .i64 wd, .bool sg, .slice xp args.length xc] TIn)
  rw [hzB] at this
  exact this
 have HB : Hid (Below w.heap.size w ((((w.alloc (.cells #[.slice op on oc, .slice fp fn fc, .int .i64 mn] TPg)).alloc (.cells #[.string nm, .int .i64 pr, .int .i64 tp, .bool gv, .slice sp sn sc, .slice cp cn cc] TFn)).alloc (.cells #[.int .i64 xop, .int .i64 bin, .int .i64 d, .int .i64 ak, .int .u32 an, .int .i64 bk, .int .u32 bn, .int .i64 xn, .int .i64 off, .int .i64 wd, .bool sg, .slice xp args.length xc] TIn)))) := (b1.trans (b2.mono b1.size)).trans (b3.mono (b1.trans (b2.mono b1.size)).size)
 obtain ⟨R, hR⟩ : ∃ R, R = rightB tp gv cn sls obs fns ⟨xop, bin, d, ⟨ak, an⟩, ⟨bk, bn⟩, xn, off, wd, sg, args⟩ := ⟨_, rfl⟩
 rw [← hR]
 have HV : Hid (R = false) := by
  show R = _
  rw [hR]
  unfold rightB holdsB
  simp only
  rw [if_neg (by omega), if_neg (by omega), if_neg (by omega), if_neg (by omega), if_neg (by omega), if_neg (by omega), if_neg (by omega), if_neg (by omega), if_neg (by omega), if_neg (by omega), if_neg (by omega), if_neg (by omega), if_neg (by omega), if_neg (by omega)]
  rfl
 have nt := not_t
 have nf := not_f
 clear b1 b2 b3 hzA hzB hR
 go_enter Tryz.func58, Tryz.ntmps58
 go_upto_region 1 with (fail)
 refine (?_ : Code.wp _ _ _ _ ((((w.alloc (.cells #[.slice op on oc, .slice fp fn fc, .int .i64 mn] TPg)).alloc (.cells #[.string nm, .int .i64 pr, .int .i64 tp, .bool gv, .slice sp sn sc, .slice cp cn cc] TFn)).alloc (.cells #[.int .i64 xop, .int .i64 bin, .int .i64 d, .int .i64 ak, .int .u32 an, .int .i64 bk, .int .u32 bn, .int .i64 xn, .int .i64 off, .int .i64 wd, .bool sg, .slice xp args.length xc] TIn))))
 generalize (((w.alloc (.cells #[.slice op on oc, .slice fp fn fc, .int .i64 mn] TPg)).alloc (.cells #[.string nm, .int .i64 pr, .int .i64 tp, .bool gv, .slice sp sn sc, .slice cp cn cc] TFn)).alloc (.cells #[.int .i64 xop, .int .i64 bin, .int .i64 d, .int .i64 ak, .int .u32 an, .int .i64 bk, .int .u32 bn, .int .i64 xn, .int .i64 off, .int .i64 wd, .bool sg, .slice xp args.length xc] TIn)) = W1 at *
 have x0 := (Lib.cell_of_heap NX.out 0).trans rfl
 by_cases h1 : xop < 1
 ·have d1 : decide (xop < 1) = true := by simpa using h1
  go_quiet (fail)
  go_wp2
  go_ret
  exact ⟨by rw [HV.out]; rfl, HB.out.trans (below_drewN _ W1 nq)⟩
 ·have d1 : decide (xop < 1) = false := by simpa using h1
  have d2 : decide (14 < xop) = true := by simp; omega
  go_quiet (fail)
  go_wp2
  go_ret
  exact ⟨by rw [HV.out]; rfl, HB.out.trans (below_drewN _ W1 nq)⟩
theorem rRight_c {h : Hm} {sls : List Slt} {obs : List Ob} {fns : List Fn} (hH : HomeOK w h sls obs fns) (x : In) {xp : Option Addr} {xc : Nat} (hx : InOK w x xp xc) :
 Calls Tryz.prog 58 #[.agg #[.slice h.op h.on h.oc, .slice h.fp h.fn h.fc, .int .i64 h.mn], .agg #[.string h.nm, .int .i64 h.pr, .int .i64 h.tp, .bool h.gv, .slice h.sp h.sn h.sc, .slice h.cp h.cn h.cc], .agg (inCells x (.slice xp x.args.length xc)).toArray] w fun e w' => e = .returned (.bool (rightB h.tp h.gv h.cn sls obs fns x)) ∧ Below w.heap.size w w' := by
 obtain ⟨op, on, oc, fp, fn, fc, mn, nm, pr, tp, gv, sp, sn, sc, cp, cn, cc⟩ := h
 obtain ⟨xop, bin, d, ⟨ak, an⟩, ⟨bk, bn⟩, xn, off, wd, sg, args⟩ := x
 obtain ⟨t0, t1, hcn, hsl, hsn, hsm, hob, hon, hom, hfr, hfn, hfm, hnm⟩ := hH
 simp only at t0 t1 hcn hsl hsn hsm hob hon hom hfr hfn hfm
 subst hsn hon hfn
 by_cases hop : xop < 1 ∨ 14 < xop
 ·exact rRight_no sls obs fns hop
 ·have hk : xop = 1 ∨ xop = 2 ∨ xop = 3 ∨ xop = 4 ∨ xop = 5 ∨ xop = 6 ∨ xop = 7 ∨ xop = 8 ∨ xop = 9 ∨ xop = 10 ∨ xop = 11 ∨ xop = 12 ∨ xop = 13 ∨ xop = 14 := by omega
  clear hop
  rcases hk with rfl | rfl | rfl | rfl | rfl | rfl | rfl | rfl | rfl | rfl | rfl | rfl | rfl | rfl
  ·exact rRight_1 t0 t1 hcn sls obs fns hx
  ·exact rRight_2 t0 t1 hcn sls obs fns hx
  ·cases hin : withinP xn 0 ((sls.length : Int) - 1) with
   | false => exact rRight_3n t0 t1 hcn sls obs fns hin hsm hx
   | true =>
    have hin2 : 0 ≤ xn ∧ xn ≤ (sls.length : Int) - 1 := by unfold withinP at hin; simpa using hin
    obtain ⟨k, rfl⟩ : ∃ k : Nat, xn = k := ⟨xn.toNat, by omega⟩
    have hk : k < sls.length := by omega
    obtain ⟨s, hs⟩ : ∃ s, sls[k]? = some s := ⟨_, List.getElem?_eq_getElem hk⟩
    obtain ⟨g, ro, hp, hg, hc⟩ := hsl.2 k s hs
    have hcap := hsl.1.1
    subst hp
    have c0 : w.cell? ⟨g, ro + k * 2, none⟩ = some (.int .i64 s.size) := hc 0 (by omega)
    exact rRight_3y t0 t1 hcn sls obs fns hk hsm hcap (sz := s.size) (by unfold szS; rw [Int.toNat_natCast, hs]) (fun Y hY => (hY.cell (p := ⟨g, _, none⟩) hg).trans c0) hx
  ·cases hin : withinP xn 0 ((obs.length : Int) - 1) with
   | false => exact rRight_4n t0 t1 hcn sls obs fns hin hom hx
   | true =>
    have hin2 : 0 ≤ xn ∧ xn ≤ (obs.length : Int) - 1 := by unfold withinP at hin; simpa using hin
    obtain ⟨k, rfl⟩ : ∃ k : Nat, xn = k := ⟨xn.toNat, by omega⟩
    have hk : k < obs.length := by omega
    obtain ⟨s, hs⟩ : ∃ s, obs[k]? = some s := ⟨_, List.getElem?_eq_getElem hk⟩
    obtain ⟨g, ro, hp, hg, hc⟩ := hob.2 k s hs
    have hcap := hob.1.1
    subst hp
    have c0 : w.cell? ⟨g, ro + k * 5 + 1, none⟩ = some (.int .i64 s.size) := hc 1 (by omega)
    exact rRight_4y t0 t1 hcn sls obs fns hk hom hcap (sz := s.size) (by unfold szO; rw [Int.toNat_natCast, hs]) (fun Y hY => (hY.cell (p := ⟨g, _, none⟩) hg).trans c0) hx
  ·exact rRight_5 t0 t1 hcn sls obs fns hx
  ·exact rRight_6 t0 t1 hcn sls obs fns hx
  ·exact rRight_7 t0 t1 hcn sls obs fns hx
  ·exact rRight_8 t0 t1 hcn sls obs fns hfr hfm hx
  ·exact rRight_9 t0 t1 hcn sls obs fns hx
  ·exact rRight_10 t0 t1 hcn sls obs fns hx
  ·exact rRight_11 t0 t1 hcn sls obs fns hx
  ·exact rRight_12 t0 t1 hcn sls obs fns hx
  ·exact rRight_13 t0 t1 hcn sls obs fns hx
  ·exact rRight_14 t0 t1 hcn sls obs fns hx
end
end Go.Proofs.YtelaaaamnphbpaaGreatDoor