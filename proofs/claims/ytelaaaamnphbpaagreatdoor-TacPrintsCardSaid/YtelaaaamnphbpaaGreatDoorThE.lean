/- The given answer's Right, at the instructions that ask of temporaries, operands, places and widths a. -/
import Derived.Test.YtelaaaamnphbpaaGreatDoorThD
import Derived.Deep.RegionHeld3
namespace Go.Proofs.YtelaaaamnphbpaaGreatDoor
set_option maxHeartbeats 16000000
open Go.RowKit Go.Maps
set_option linter.unusedVariables false
set_option linter.unusedSimpArgs false
set_option maxRecDepth 100000
section
variable {w : World}
theorem argV_none' (Y : World) : ArgV Y (.slice none 0 0) [] := ⟨none, 0, rfl, ⟨Nat.le_refl _, fun _ => rfl⟩, fun i a h => by simp at h⟩
theorem within_b {P : Program} {n : FuncId} {args : Array Value} {Y : World} {b : Bool} (h : Calls P n args Y fun e w' => e = .returned (.bool b) ∧ w' = Y) : Calls P n args Y fun e w' => e = .returned (.bool b) ∧ Below Y.heap.size Y w' :=
 h.mono fun e w' ⟨he, hw⟩ => ⟨he, hw ▸ Below.refl _ _⟩
theorem rRight_1 {op : Option Addr} {on oc : Nat} {mn : Int} {fp : Option Addr} {fn fc : Nat} {nm : ByteArray} {pr tp : Int} {gv : Bool} {sp : Option Addr} {sn sc : Nat} {cp : Option Addr} {cn cc : Nat} (h0 : 0 ≤ tp) (h1 : tp ≤ 9223372036854775807) (hcn : cn ≤ 9223372036854775806) (sls : List Slt) (obs : List Ob) (fns : List Fn)
 {bin d ak an bk bn xn off wd : Int} {sg : Bool} {args : List Ar} {xp : Option Addr} {xc : Nat} (hx : InOK w ⟨1, bin, d, ⟨ak, an⟩, ⟨bk, bn⟩, xn, off, wd, sg, args⟩ xp xc) :
 Calls Tryz.prog 58 #[.agg #[.slice op on oc, .slice fp fn fc, .int .i64 mn], .agg #[.string nm, .int .i64 pr, .int .i64 tp, .bool gv, .slice sp sn sc, .slice cp cn cc], .agg #[.int .i64 1, .int .i64 bin, .int .i64 d, .int .i64 ak, .int .u32 an, .int .i64 bk, .int .u32 bn, .int .i64 xn, .int .i64 off, .int .i64 wd, .bool sg, .slice xp args.length xc]] w fun e w' => e = .returned (.bool (rightB tp gv cn sls obs fns ⟨1, bin, d, ⟨ak, an⟩, ⟨bk, bn⟩, xn, off, wd, sg, args⟩)) ∧ Below w.heap.size w w' := by
 obtain ⟨W1, hW1, hNP, hNF, hNX, hHB⟩ := three_ex w (.cells #[.slice op on oc, .slice fp fn fc, .int .i64 mn] TPg) (.cells #[.string nm, .int .i64 pr, .int .i64 tp, .bool gv, .slice sp sn sc, .slice cp cn cc] TFn) (.cells #[.int .i64 1, .int .i64 bin, .int .i64 d, .int .i64 ak, .int .u32 an, .int .i64 bk, .int .u32 bn, .int .i64 xn, .int .i64 off, .int .i64 wd, .bool sg, .slice xp args.length xc] TIn)
 have NP : Hid (_ = _) := hNP
 have NF : Hid (_ = _) := hNF
 have NX : Hid (_ = _) := hNX
 have HB : Hid (Below w.heap.size w _) := hHB
 have HAV : Hid (∀ Y, Below w.heap.size w Y → ArgV Y (.slice xp args.length xc) args) := fun Y hY => hx.ar.below hY
 have hal : args.length ≤ 9223372036854775806 := hx.al
 have CC0 : Hid (∀ Y, Calls Tryz.prog 85 #[.agg #[.string nm, .int .i64 pr, .int .i64 tp, .bool gv, .slice sp sn sc, .slice cp cn cc], .int .i64 d] Y fun e w' => e = .returned (.bool (tempB tp d)) ∧ Below Y.heap.size Y w') := fun Y => rTemp_c ⟨nm, pr, tp, gv, sp, sn, sc, cp, cn, cc⟩ d Y
 have CC1 : Hid (∀ Y, Calls Tryz.prog 86 #[.agg #[.string nm, .int .i64 pr, .int .i64 tp, .bool gv, .slice sp sn sc, .slice cp cn cc], .agg #[.int .i64 ak, .int .u32 an]] Y fun e w' => e = .returned (.bool (operB tp ⟨ak, an⟩)) ∧ Below Y.heap.size Y w') := fun Y => rArg_c ⟨nm, pr, tp, gv, sp, sn, sc, cp, cn, cc⟩ h0 h1 ⟨ak, an⟩ hx.a Y
 obtain ⟨R, hR⟩ : ∃ R, R = rightB tp gv cn sls obs fns ⟨1, bin, d, ⟨ak, an⟩, ⟨bk, bn⟩, xn, off, wd, sg, args⟩ := ⟨_, rfl⟩
 rw [← hR]
 obtain ⟨SB, hSB⟩ : ∃ b, b = (sameB ⟨1, bin, d, ⟨ak, an⟩, ⟨bk, bn⟩, xn, off, wd, sg, args⟩ ⟨1, 0, d, ⟨ak, an⟩, ⟨0, 0⟩, 0, 0, 0, false, []⟩ && decide (args.length = 0)) := ⟨_, rfl⟩
 have HR : Hid (R = ((tempB tp d && (operB tp ⟨ak, an⟩)) && SB)) := by
  show R = _
  rw [hR, hSB]
  unfold rightB
  rw [bare_same_1]
  rfl
 have CSH : Hid (∀ Y, Calls Tryz.prog 84 #[.agg #[.int .i64 1, .int .i64 bin, .int .i64 d, .int .i64 ak, .int .u32 an, .int .i64 bk, .int .u32 bn, .int .i64 xn, .int .i64 off, .int .i64 wd, .bool sg, .slice xp args.length xc]] Y fun e w' => e = .returned (.agg #[.int .i64 1, .int .i64 0, .int .i64 d, .int .i64 ak, .int .u32 an, .int .i64 0, .int .u32 0, .int .i64 0, .int .i64 0, .int .i64 0, .bool false, .slice none 0 0]) ∧ Below Y.heap.size Y w') := fun Y => rShape_1 bin d ak an bk bn xn off wd sg xp args.length xc Y
 have CSM : Hid (∀ Y, Below w.heap.size w Y → Calls Tryz.prog 59 #[.agg #[.int .i64 1, .int .i64 bin, .int .i64 d, .int .i64 ak, .int .u32 an, .int .i64 bk, .int .u32 bn, .int .i64 xn, .int .i64 off, .int .i64 wd, .bool sg, .slice xp args.length xc], .agg #[.int .i64 1, .int .i64 0, .int .i64 d, .int .i64 ak, .int .u32 an, .int .i64 0, .int .u32 0, .int .i64 0, .int .i64 0, .int .i64 0, .bool false, .slice none 0 0]] Y fun e w' => e = .returned (.bool SB) ∧ Below Y.heap.size Y w') := fun Y hY => by
  cases hs : SB with
  | false => exact rSameF_c (x := ⟨1, bin, d, ⟨ak, an⟩, ⟨bk, bn⟩, xn, off, wd, sg, args⟩) (y := ⟨1, 0, d, ⟨ak, an⟩, ⟨0, 0⟩, 0, 0, 0, false, []⟩) (p1 := xp) (n1 := args.length) (c1 := xc) (p2 := none) (n2 := 0) (c2 := 0) (hSB.symm.trans hs)
  | true =>
   have hq := hSB.symm.trans hs
   have hq2 : args = [] ∧ ⟨1, bin, d, ⟨ak, an⟩, ⟨bk, bn⟩, xn, off, wd, sg, args⟩ = (⟨1, 0, d, ⟨ak, an⟩, ⟨0, 0⟩, 0, 0, 0, false, []⟩ : In) := by
    simp [sameB, arEq] at hq
    refine ⟨hq.2, ?_⟩
    simp_all
   obtain ⟨ha, he⟩ := hq2
   have hA1 := (HAV.out Y hY)
   have := rSameT_c (w := Y) (x := ⟨1, bin, d, ⟨ak, an⟩, ⟨bk, bn⟩, xn, off, wd, sg, args⟩) (p1 := xp) (p2 := none) (c1 := xc) (c2 := 0) hA1 (by rw [ha]; exact argV_none' Y) hal
   subst ha
   simp only [In.mk.injEq, Ar.mk.injEq] at he
   simp only [inCells, List.length_nil] at this ⊢
   simp_all
 have nt := not_t
 have nf := not_f
 have hwr : IntKind.i64.wrap ((cn : Int) - 1) = (cn : Int) - 1 := wrap_idI (by omega) (by omega)
 clear hNP hNF hNX hHB hR hx HAV hal h0 h1
 have HSBE : Hid (SB = _) := hSB
 clear hSB
 generalize tempB tp d = B0 at *
 generalize operB tp ⟨ak, an⟩ = B1 at *
 go_enter Tryz.func58, Tryz.ntmps58
 go_upto_region 1 with (fail)
 refine wp_at hW1 ?_
 clear hW1
 obtain ⟨g0, g1, g2, g3, g4, g5, g6, g7, g8, g9, g10, g11⟩ := sh12 NX.out
 have HSH : SH W1 W1 := Below.refl _ _
 have CS1 : Hid (∀ Y, SH W1 Y → Calls Tryz.prog 59 #[.agg #[.int .i64 1, .int .i64 bin, .int .i64 d, .int .i64 ak, .int .u32 an, .int .i64 bk, .int .u32 bn, .int .i64 xn, .int .i64 off, .int .i64 wd, .bool sg, .slice xp args.length xc], .agg #[.int .i64 1, .int .i64 0, .int .i64 d, .int .i64 ak, .int .u32 an, .int .i64 0, .int .u32 0, .int .i64 0, .int .i64 0, .int .i64 0, .bool false, .slice none 0 0]] Y fun e w' => e = .returned (.bool SB) ∧ Below Y.heap.size Y w') := fun Y h => CSM.out Y (HB.out.trans (Below.mono h HB.out.size))
 go_region_held3 (fun Y => SH W1 Y) (with_reducible first | assumption | (refine SH.drew ?_; assumption) | (refine SH.below ?_ (by assumption); assumption)) (first
  | (go_at_call 84; refine (CSH.out _).mono ?_; rintro e y1 ⟨rfl, hy1⟩)
  | (go_at_call 59; refine (CS1.out _ (SH.below (SH.drew HSH) hy1)).mono ?_; rintro e y2 ⟨rfl, hy2⟩))
 have HY : Hid (Below W1.heap.size W1 y2) := SH.below (SH.below (SH.drew HSH) hy1) hy2
 clear hy1 hy2 HSH g0 g1 g2 g3 g4 g5 g6 g7 g8 g9 g10 g11 CS1 CSM CSH
 have HYw : Hid (Below w.heap.size w y2) := HB.out.trans (HY.out.mono HB.out.size)
 obtain ⟨Zy, hZy⟩ : ∃ Z : SAT W1, y2 = Z.val := ⟨⟨y2, HY.out⟩, rfl⟩
 subst hZy
 cases SB with
 | false =>
  go_wp2_with fail
  go_ret
  exact ⟨by rw [HR.out]; simp, HYw.out⟩
 | true =>
  obtain ⟨F0, F1, F2, F3, F4, F5, F6, F7, F8, F9, F10, F11⟩ := sat12 NX.out
  obtain ⟨G0, G1, G2, G3, G4, G5⟩ := sat6 NF.out
  have HZW : Hid (∀ Z : SAT W1, Below w.heap.size w Z.val) := fun Z => HB.out.trans (Below.mono Z.ok HB.out.size)
  have KC0 := sat_calls (W := W1) fun Y h => CC0.out Y
  have KC1 := sat_calls (W := W1) fun Y h => CC1.out Y
  have MK0 : Hid True := trivial
  have MK1 : Hid True := trivial
  cases B0 with
  | false =>
   go_wp2_with (first
    | (have hx := MK0; clear hx; go_at_call 85; refine (KC0 _).mono ?_; rintro e v0 ⟨rfl, Z0, rfl⟩; clear MK0)
    | fail)
   go_ret
   exact ⟨by rw [HR.out]; rfl, HZW.out Z0⟩
  | true =>
   cases B1 with
   | false =>
    go_wp2_with (first
     | (have hx := MK0; clear hx; go_at_call 85; refine (KC0 _).mono ?_; rintro e v0 ⟨rfl, Z0, rfl⟩; clear MK0)
     | (have hx := MK1; clear hx; go_at_call 86; refine (KC1 _).mono ?_; rintro e v1 ⟨rfl, Z1, rfl⟩; clear MK1)
     | fail)
    go_ret
    exact ⟨by rw [HR.out]; rfl, HZW.out Z1⟩
   | true =>
    go_wp2_with (first
     | (have hx := MK0; clear hx; go_at_call 85; refine (KC0 _).mono ?_; rintro e v0 ⟨rfl, Z0, rfl⟩; clear MK0)
     | (have hx := MK1; clear hx; go_at_call 86; refine (KC1 _).mono ?_; rintro e v1 ⟨rfl, Z1, rfl⟩; clear MK1)
     | fail)
    go_ret
    exact ⟨by rw [HR.out]; rfl, HZW.out Z1⟩
theorem rRight_5 {op : Option Addr} {on oc : Nat} {mn : Int} {fp : Option Addr} {fn fc : Nat} {nm : ByteArray} {pr tp : Int} {gv : Bool} {sp : Option Addr} {sn sc : Nat} {cp : Option Addr} {cn cc : Nat} (h0 : 0 ≤ tp) (h1 : tp ≤ 9223372036854775807) (hcn : cn ≤ 9223372036854775806) (sls : List Slt) (obs : List Ob) (fns : List Fn)
 {bin d ak an bk bn xn off wd : Int} {sg : Bool} {args : List Ar} {xp : Option Addr} {xc : Nat} (hx : InOK w ⟨5, bin, d, ⟨ak, an⟩, ⟨bk, bn⟩, xn, off, wd, sg, args⟩ xp xc) :
 Calls Tryz.prog 58 #[.agg #[.slice op on oc, .slice fp fn fc, .int .i64 mn], .agg #[.string nm, .int .i64 pr, .int .i64 tp, .bool gv, .slice sp sn sc, .slice cp cn cc], .agg #[.int .i64 5, .int .i64 bin, .int .i64 d, .int .i64 ak, .int .u32 an, .int .i64 bk, .int .u32 bn, .int .i64 xn, .int .i64 off, .int .i64 wd, .bool sg, .slice xp args.length xc]] w fun e w' => e = .returned (.bool (rightB tp gv cn sls obs fns ⟨5, bin, d, ⟨ak, an⟩, ⟨bk, bn⟩, xn, off, wd, sg, args⟩)) ∧ Below w.heap.size w w' := by
 obtain ⟨W1, hW1, hNP, hNF, hNX, hHB⟩ := three_ex w (.cells #[.slice op on oc, .slice fp fn fc, .int .i64 mn] TPg) (.cells #[.string nm, .int .i64 pr, .int .i64 tp, .bool gv, .slice sp sn sc, .slice cp cn cc] TFn) (.cells #[.int .i64 5, .int .i64 bin, .int .i64 d, .int .i64 ak, .int .u32 an, .int .i64 bk, .int .u32 bn, .int .i64 xn, .int .i64 off, .int .i64 wd, .bool sg, .slice xp args.length xc] TIn)
 have NP : Hid (_ = _) := hNP
 have NF : Hid (_ = _) := hNF
 have NX : Hid (_ = _) := hNX
 have HB : Hid (Below w.heap.size w _) := hHB
 have HAV : Hid (∀ Y, Below w.heap.size w Y → ArgV Y (.slice xp args.length xc) args) := fun Y hY => hx.ar.below hY
 have hal : args.length ≤ 9223372036854775806 := hx.al
 have CC0 : Hid (∀ Y, Calls Tryz.prog 85 #[.agg #[.string nm, .int .i64 pr, .int .i64 tp, .bool gv, .slice sp sn sc, .slice cp cn cc], .int .i64 d] Y fun e w' => e = .returned (.bool (tempB tp d)) ∧ Below Y.heap.size Y w') := fun Y => rTemp_c ⟨nm, pr, tp, gv, sp, sn, sc, cp, cn, cc⟩ d Y
 have CC1 : Hid (∀ Y, Calls Tryz.prog 86 #[.agg #[.string nm, .int .i64 pr, .int .i64 tp, .bool gv, .slice sp sn sc, .slice cp cn cc], .agg #[.int .i64 ak, .int .u32 an]] Y fun e w' => e = .returned (.bool (operB tp ⟨ak, an⟩)) ∧ Below Y.heap.size Y w') := fun Y => rArg_c ⟨nm, pr, tp, gv, sp, sn, sc, cp, cn, cc⟩ h0 h1 ⟨ak, an⟩ hx.a Y
 have CC2 : Hid (∀ Y, Calls Tryz.prog 33 #[.int .i64 off, .int .i64 (-16384), .int .i64 16384] Y fun e w' => e = .returned (.bool (withinP off (-16384) 16384)) ∧ Below Y.heap.size Y w') := fun Y => within_b (rwithin_c off (-16384) 16384 Y)
 have CC3 : Hid (∀ Y, Calls Tryz.prog 57 #[.int .i64 wd] Y fun e w' => e = .returned (.bool (widthB wd)) ∧ Below Y.heap.size Y w') := fun Y => within_b (power_c wd Y)
 obtain ⟨R, hR⟩ : ∃ R, R = rightB tp gv cn sls obs fns ⟨5, bin, d, ⟨ak, an⟩, ⟨bk, bn⟩, xn, off, wd, sg, args⟩ := ⟨_, rfl⟩
 rw [← hR]
 obtain ⟨SB, hSB⟩ : ∃ b, b = (sameB ⟨5, bin, d, ⟨ak, an⟩, ⟨bk, bn⟩, xn, off, wd, sg, args⟩ ⟨5, 0, d, ⟨ak, an⟩, ⟨0, 0⟩, 0, off, wd, sg, []⟩ && decide (args.length = 0)) := ⟨_, rfl⟩
 have HR : Hid (R = ((tempB tp d && (operB tp ⟨ak, an⟩ && ((withinP off (-16384) 16384 && widthB wd) && !(sg && wd == 4)))) && SB)) := by
  show R = _
  rw [hR, hSB]
  unfold rightB
  rw [bare_same_5]
  rfl
 have CSH : Hid (∀ Y, Calls Tryz.prog 84 #[.agg #[.int .i64 5, .int .i64 bin, .int .i64 d, .int .i64 ak, .int .u32 an, .int .i64 bk, .int .u32 bn, .int .i64 xn, .int .i64 off, .int .i64 wd, .bool sg, .slice xp args.length xc]] Y fun e w' => e = .returned (.agg #[.int .i64 5, .int .i64 0, .int .i64 d, .int .i64 ak, .int .u32 an, .int .i64 0, .int .u32 0, .int .i64 0, .int .i64 off, .int .i64 wd, .bool sg, .slice none 0 0]) ∧ Below Y.heap.size Y w') := fun Y => rShape_5 bin d ak an bk bn xn off wd sg xp args.length xc Y
 have CSM : Hid (∀ Y, Below w.heap.size w Y → Calls Tryz.prog 59 #[.agg #[.int .i64 5, .int .i64 bin, .int .i64 d, .int .i64 ak, .int .u32 an, .int .i64 bk, .int .u32 bn, .int .i64 xn, .int .i64 off, .int .i64 wd, .bool sg, .slice xp args.length xc], .agg #[.int .i64 5, .int .i64 0, .int .i64 d, .int .i64 ak, .int .u32 an, .int .i64 0, .int .u32 0, .int .i64 0, .int .i64 off, .int .i64 wd, .bool sg, .slice none 0 0]] Y fun e w' => e = .returned (.bool SB) ∧ Below Y.heap.size Y w') := fun Y hY => by
  cases hs : SB with
  | false => exact rSameF_c (x := ⟨5, bin, d, ⟨ak, an⟩, ⟨bk, bn⟩, xn, off, wd, sg, args⟩) (y := ⟨5, 0, d, ⟨ak, an⟩, ⟨0, 0⟩, 0, off, wd, sg, []⟩) (p1 := xp) (n1 := args.length) (c1 := xc) (p2 := none) (n2 := 0) (c2 := 0) (hSB.symm.trans hs)
  | true =>
   have hq := hSB.symm.trans hs
   have hq2 : args = [] ∧ ⟨5, bin, d, ⟨ak, an⟩, ⟨bk, bn⟩, xn, off, wd, sg, args⟩ = (⟨5, 0, d, ⟨ak, an⟩, ⟨0, 0⟩, 0, off, wd, sg, []⟩ : In) := by
    simp [sameB, arEq] at hq
    refine ⟨hq.2, ?_⟩
    simp_all
   obtain ⟨ha, he⟩ := hq2
   have hA1 := (HAV.out Y hY)
   have := rSameT_c (w := Y) (x := ⟨5, bin, d, ⟨ak, an⟩, ⟨bk, bn⟩, xn, off, wd, sg, args⟩) (p1 := xp) (p2 := none) (c1 := xc) (c2 := 0) hA1 (by rw [ha]; exact argV_none' Y) hal
   subst ha
   simp only [In.mk.injEq, Ar.mk.injEq] at he
   simp only [inCells, List.length_nil] at this ⊢
   simp_all
 have nt := not_t
 have nf := not_f
 have hwr : IntKind.i64.wrap ((cn : Int) - 1) = (cn : Int) - 1 := wrap_idI (by omega) (by omega)
 clear hNP hNF hNX hHB hR hx HAV hal h0 h1
 have HSBE : Hid (SB = _) := hSB
 clear hSB
 generalize tempB tp d = B0 at *
 generalize operB tp ⟨ak, an⟩ = B1 at *
 generalize withinP off (-16384) 16384 = B2 at *
 generalize widthB wd = B3 at *
 go_enter Tryz.func58, Tryz.ntmps58
 go_upto_region 1 with (fail)
 refine wp_at hW1 ?_
 clear hW1
 obtain ⟨g0, g1, g2, g3, g4, g5, g6, g7, g8, g9, g10, g11⟩ := sh12 NX.out
 have HSH : SH W1 W1 := Below.refl _ _
 have CS1 : Hid (∀ Y, SH W1 Y → Calls Tryz.prog 59 #[.agg #[.int .i64 5, .int .i64 bin, .int .i64 d, .int .i64 ak, .int .u32 an, .int .i64 bk, .int .u32 bn, .int .i64 xn, .int .i64 off, .int .i64 wd, .bool sg, .slice xp args.length xc], .agg #[.int .i64 5, .int .i64 0, .int .i64 d, .int .i64 ak, .int .u32 an, .int .i64 0, .int .u32 0, .int .i64 0, .int .i64 off, .int .i64 wd, .bool sg, .slice none 0 0]] Y fun e w' => e = .returned (.bool SB) ∧ Below Y.heap.size Y w') := fun Y h => CSM.out Y (HB.out.trans (Below.mono h HB.out.size))
 go_region_held3 (fun Y => SH W1 Y) (with_reducible first | assumption | (refine SH.drew ?_; assumption) | (refine SH.below ?_ (by assumption); assumption)) (first
  | (go_at_call 84; refine (CSH.out _).mono ?_; rintro e y1 ⟨rfl, hy1⟩)
  | (go_at_call 59; refine (CS1.out _ (SH.below (SH.drew HSH) hy1)).mono ?_; rintro e y2 ⟨rfl, hy2⟩))
 have HY : Hid (Below W1.heap.size W1 y2) := SH.below (SH.below (SH.drew HSH) hy1) hy2
 clear hy1 hy2 HSH g0 g1 g2 g3 g4 g5 g6 g7 g8 g9 g10 g11 CS1 CSM CSH
 have HYw : Hid (Below w.heap.size w y2) := HB.out.trans (HY.out.mono HB.out.size)
 obtain ⟨Zy, hZy⟩ : ∃ Z : SAT W1, y2 = Z.val := ⟨⟨y2, HY.out⟩, rfl⟩
 subst hZy
 cases SB with
 | false =>
  go_wp2_with fail
  go_ret
  exact ⟨by rw [HR.out]; simp, HYw.out⟩
 | true =>
  obtain ⟨F0, F1, F2, F3, F4, F5, F6, F7, F8, F9, F10, F11⟩ := sat12 NX.out
  obtain ⟨G0, G1, G2, G3, G4, G5⟩ := sat6 NF.out
  have HZW : Hid (∀ Z : SAT W1, Below w.heap.size w Z.val) := fun Z => HB.out.trans (Below.mono Z.ok HB.out.size)
  have KC0 := sat_calls (W := W1) fun Y h => CC0.out Y
  have KC1 := sat_calls (W := W1) fun Y h => CC1.out Y
  have KC2 := sat_calls (W := W1) fun Y h => CC2.out Y
  have KC3 := sat_calls (W := W1) fun Y h => CC3.out Y
  have MK0 : Hid True := trivial
  have MK1 : Hid True := trivial
  have MK2 : Hid True := trivial
  have MK3 : Hid True := trivial
  cases B0 with
  | false =>
   go_wp2_with (first
    | (have hx := MK0; clear hx; go_at_call 85; refine (KC0 _).mono ?_; rintro e v0 ⟨rfl, Z0, rfl⟩; clear MK0)
    | fail)
   go_ret
   exact ⟨by rw [HR.out]; rfl, HZW.out Z0⟩
  | true =>
   cases B1 with
   | false =>
    go_wp2_with (first
     | (have hx := MK0; clear hx; go_at_call 85; refine (KC0 _).mono ?_; rintro e v0 ⟨rfl, Z0, rfl⟩; clear MK0)
     | (have hx := MK1; clear hx; go_at_call 86; refine (KC1 _).mono ?_; rintro e v1 ⟨rfl, Z1, rfl⟩; clear MK1)
     | fail)
    go_ret
    exact ⟨by rw [HR.out]; rfl, HZW.out Z1⟩
   | true =>
    cases B2 with
    | false =>
     go_wp2_with (first
      | (have hx := MK0; clear hx; go_at_call 85; refine (KC0 _).mono ?_; rintro e v0 ⟨rfl, Z0, rfl⟩; clear MK0)
      | (have hx := MK1; clear hx; go_at_call 86; refine (KC1 _).mono ?_; rintro e v1 ⟨rfl, Z1, rfl⟩; clear MK1)
      | (have hx := MK2; clear hx; go_at_call 33; refine (KC2 _).mono ?_; rintro e v2 ⟨rfl, Z2, rfl⟩; clear MK2)
      | fail)
     go_ret
     exact ⟨by rw [HR.out]; rfl, HZW.out Z2⟩
    | true =>
     cases B3 with
     | false =>
      go_wp2_with (first
       | (have hx := MK0; clear hx; go_at_call 85; refine (KC0 _).mono ?_; rintro e v0 ⟨rfl, Z0, rfl⟩; clear MK0)
       | (have hx := MK1; clear hx; go_at_call 86; refine (KC1 _).mono ?_; rintro e v1 ⟨rfl, Z1, rfl⟩; clear MK1)
       | (have hx := MK2; clear hx; go_at_call 33; refine (KC2 _).mono ?_; rintro e v2 ⟨rfl, Z2, rfl⟩; clear MK2)
       | (have hx := MK3; clear hx; go_at_call 57; refine (KC3 _).mono ?_; rintro e v3 ⟨rfl, Z3, rfl⟩; clear MK3)
       | fail)
      go_ret
      exact ⟨by rw [HR.out]; rfl, HZW.out Z3⟩
     | true =>
      cases sg with
      | false =>
       go_wp2_with (first
        | (have hx := MK0; clear hx; go_at_call 85; refine (KC0 _).mono ?_; rintro e v0 ⟨rfl, Z0, rfl⟩; clear MK0)
        | (have hx := MK1; clear hx; go_at_call 86; refine (KC1 _).mono ?_; rintro e v1 ⟨rfl, Z1, rfl⟩; clear MK1)
        | (have hx := MK2; clear hx; go_at_call 33; refine (KC2 _).mono ?_; rintro e v2 ⟨rfl, Z2, rfl⟩; clear MK2)
        | (have hx := MK3; clear hx; go_at_call 57; refine (KC3 _).mono ?_; rintro e v3 ⟨rfl, Z3, rfl⟩; clear MK3)
        | fail)
       go_ret
       exact ⟨by rw [HR.out]; rfl, HZW.out Z3⟩
      | true =>
       cases hw4 : (wd == 4) with
       | false =>
        go_wp2_with (first
         | (have hx := MK0; clear hx; go_at_call 85; refine (KC0 _).mono ?_; rintro e v0 ⟨rfl, Z0, rfl⟩; clear MK0)
         | (have hx := MK1; clear hx; go_at_call 86; refine (KC1 _).mono ?_; rintro e v1 ⟨rfl, Z1, rfl⟩; clear MK1)
         | (have hx := MK2; clear hx; go_at_call 33; refine (KC2 _).mono ?_; rintro e v2 ⟨rfl, Z2, rfl⟩; clear MK2)
         | (have hx := MK3; clear hx; go_at_call 57; refine (KC3 _).mono ?_; rintro e v3 ⟨rfl, Z3, rfl⟩; clear MK3)
         | fail)
        go_ret
        exact ⟨by rw [HR.out, hw4]; rfl, HZW.out Z3⟩
       | true =>
        go_wp2_with (first
         | (have hx := MK0; clear hx; go_at_call 85; refine (KC0 _).mono ?_; rintro e v0 ⟨rfl, Z0, rfl⟩; clear MK0)
         | (have hx := MK1; clear hx; go_at_call 86; refine (KC1 _).mono ?_; rintro e v1 ⟨rfl, Z1, rfl⟩; clear MK1)
         | (have hx := MK2; clear hx; go_at_call 33; refine (KC2 _).mono ?_; rintro e v2 ⟨rfl, Z2, rfl⟩; clear MK2)
         | (have hx := MK3; clear hx; go_at_call 57; refine (KC3 _).mono ?_; rintro e v3 ⟨rfl, Z3, rfl⟩; clear MK3)
         | fail)
        go_ret
        exact ⟨by rw [HR.out, hw4]; rfl, HZW.out Z3⟩
theorem rRight_6 {op : Option Addr} {on oc : Nat} {mn : Int} {fp : Option Addr} {fn fc : Nat} {nm : ByteArray} {pr tp : Int} {gv : Bool} {sp : Option Addr} {sn sc : Nat} {cp : Option Addr} {cn cc : Nat} (h0 : 0 ≤ tp) (h1 : tp ≤ 9223372036854775807) (hcn : cn ≤ 9223372036854775806) (sls : List Slt) (obs : List Ob) (fns : List Fn)
 {bin d ak an bk bn xn off wd : Int} {sg : Bool} {args : List Ar} {xp : Option Addr} {xc : Nat} (hx : InOK w ⟨6, bin, d, ⟨ak, an⟩, ⟨bk, bn⟩, xn, off, wd, sg, args⟩ xp xc) :
 Calls Tryz.prog 58 #[.agg #[.slice op on oc, .slice fp fn fc, .int .i64 mn], .agg #[.string nm, .int .i64 pr, .int .i64 tp, .bool gv, .slice sp sn sc, .slice cp cn cc], .agg #[.int .i64 6, .int .i64 bin, .int .i64 d, .int .i64 ak, .int .u32 an, .int .i64 bk, .int .u32 bn, .int .i64 xn, .int .i64 off, .int .i64 wd, .bool sg, .slice xp args.length xc]] w fun e w' => e = .returned (.bool (rightB tp gv cn sls obs fns ⟨6, bin, d, ⟨ak, an⟩, ⟨bk, bn⟩, xn, off, wd, sg, args⟩)) ∧ Below w.heap.size w w' := by
 obtain ⟨W1, hW1, hNP, hNF, hNX, hHB⟩ := three_ex w (.cells #[.slice op on oc, .slice fp fn fc, .int .i64 mn] TPg) (.cells #[.string nm, .int .i64 pr, .int .i64 tp, .bool gv, .slice sp sn sc, .slice cp cn cc] TFn) (.cells #[.int .i64 6, .int .i64 bin, .int .i64 d, .int .i64 ak, .int .u32 an, .int .i64 bk, .int .u32 bn, .int .i64 xn, .int .i64 off, .int .i64 wd, .bool sg, .slice xp args.length xc] TIn)
 have NP : Hid (_ = _) := hNP
 have NF : Hid (_ = _) := hNF
 have NX : Hid (_ = _) := hNX
 have HB : Hid (Below w.heap.size w _) := hHB
 have HAV : Hid (∀ Y, Below w.heap.size w Y → ArgV Y (.slice xp args.length xc) args) := fun Y hY => hx.ar.below hY
 have hal : args.length ≤ 9223372036854775806 := hx.al
 have CC0 : Hid (∀ Y, Calls Tryz.prog 86 #[.agg #[.string nm, .int .i64 pr, .int .i64 tp, .bool gv, .slice sp sn sc, .slice cp cn cc], .agg #[.int .i64 ak, .int .u32 an]] Y fun e w' => e = .returned (.bool (operB tp ⟨ak, an⟩)) ∧ Below Y.heap.size Y w') := fun Y => rArg_c ⟨nm, pr, tp, gv, sp, sn, sc, cp, cn, cc⟩ h0 h1 ⟨ak, an⟩ hx.a Y
 have CC1 : Hid (∀ Y, Calls Tryz.prog 86 #[.agg #[.string nm, .int .i64 pr, .int .i64 tp, .bool gv, .slice sp sn sc, .slice cp cn cc], .agg #[.int .i64 bk, .int .u32 bn]] Y fun e w' => e = .returned (.bool (operB tp ⟨bk, bn⟩)) ∧ Below Y.heap.size Y w') := fun Y => rArg_c ⟨nm, pr, tp, gv, sp, sn, sc, cp, cn, cc⟩ h0 h1 ⟨bk, bn⟩ hx.b Y
 have CC2 : Hid (∀ Y, Calls Tryz.prog 33 #[.int .i64 off, .int .i64 (-16384), .int .i64 16384] Y fun e w' => e = .returned (.bool (withinP off (-16384) 16384)) ∧ Below Y.heap.size Y w') := fun Y => within_b (rwithin_c off (-16384) 16384 Y)
 have CC3 : Hid (∀ Y, Calls Tryz.prog 57 #[.int .i64 wd] Y fun e w' => e = .returned (.bool (widthB wd)) ∧ Below Y.heap.size Y w') := fun Y => within_b (power_c wd Y)
 obtain ⟨R, hR⟩ : ∃ R, R = rightB tp gv cn sls obs fns ⟨6, bin, d, ⟨ak, an⟩, ⟨bk, bn⟩, xn, off, wd, sg, args⟩ := ⟨_, rfl⟩
 rw [← hR]
 obtain ⟨SB, hSB⟩ : ∃ b, b = (sameB ⟨6, bin, d, ⟨ak, an⟩, ⟨bk, bn⟩, xn, off, wd, sg, args⟩ ⟨6, 0, -1, ⟨ak, an⟩, ⟨bk, bn⟩, 0, off, wd, false, []⟩ && decide (args.length = 0)) := ⟨_, rfl⟩
 have HR : Hid (R = ((operB tp ⟨ak, an⟩ && (operB tp ⟨bk, bn⟩ && (withinP off (-16384) 16384 && (widthB wd)))) && SB)) := by
  show R = _
  rw [hR, hSB]
  unfold rightB
  rw [bare_same_6]
  rfl
 have CSH : Hid (∀ Y, Calls Tryz.prog 84 #[.agg #[.int .i64 6, .int .i64 bin, .int .i64 d, .int .i64 ak, .int .u32 an, .int .i64 bk, .int .u32 bn, .int .i64 xn, .int .i64 off, .int .i64 wd, .bool sg, .slice xp args.length xc]] Y fun e w' => e = .returned (.agg #[.int .i64 6, .int .i64 0, .int .i64 (-1), .int .i64 ak, .int .u32 an, .int .i64 bk, .int .u32 bn, .int .i64 0, .int .i64 off, .int .i64 wd, .bool false, .slice none 0 0]) ∧ Below Y.heap.size Y w') := fun Y => rShape_6 bin d ak an bk bn xn off wd sg xp args.length xc Y
 have CSM : Hid (∀ Y, Below w.heap.size w Y → Calls Tryz.prog 59 #[.agg #[.int .i64 6, .int .i64 bin, .int .i64 d, .int .i64 ak, .int .u32 an, .int .i64 bk, .int .u32 bn, .int .i64 xn, .int .i64 off, .int .i64 wd, .bool sg, .slice xp args.length xc], .agg #[.int .i64 6, .int .i64 0, .int .i64 (-1), .int .i64 ak, .int .u32 an, .int .i64 bk, .int .u32 bn, .int .i64 0, .int .i64 off, .int .i64 wd, .bool false, .slice none 0 0]] Y fun e w' => e = .returned (.bool SB) ∧ Below Y.heap.size Y w') := fun Y hY => by
  cases hs : SB with
  | false => exact rSameF_c (x := ⟨6, bin, d, ⟨ak, an⟩, ⟨bk, bn⟩, xn, off, wd, sg, args⟩) (y := ⟨6, 0, -1, ⟨ak, an⟩, ⟨bk, bn⟩, 0, off, wd, false, []⟩) (p1 := xp) (n1 := args.length) (c1 := xc) (p2 := none) (n2 := 0) (c2 := 0) (hSB.symm.trans hs)
  | true =>
   have hq := hSB.symm.trans hs
   have hq2 : args = [] ∧ ⟨6, bin, d, ⟨ak, an⟩, ⟨bk, bn⟩, xn, off, wd, sg, args⟩ = (⟨6, 0, -1, ⟨ak, an⟩, ⟨bk, bn⟩, 0, off, wd, false, []⟩ : In) := by
    simp [sameB, arEq] at hq
    refine ⟨hq.2, ?_⟩
    simp_all
   obtain ⟨ha, he⟩ := hq2
   have hA1 := (HAV.out Y hY)
   have := rSameT_c (w := Y) (x := ⟨6, bin, d, ⟨ak, an⟩, ⟨bk, bn⟩, xn, off, wd, sg, args⟩) (p1 := xp) (p2 := none) (c1 := xc) (c2 := 0) hA1 (by rw [ha]; exact argV_none' Y) hal
   subst ha
   simp only [In.mk.injEq, Ar.mk.injEq] at he
   simp only [inCells, List.length_nil] at this ⊢
   simp_all
 have nt := not_t
 have nf := not_f
 have hwr : IntKind.i64.wrap ((cn : Int) - 1) = (cn : Int) - 1 := wrap_idI (by omega) (by omega)
 clear hNP hNF hNX hHB hR hx HAV hal h0 h1
 have HSBE : Hid (SB = _) := hSB
 clear hSB
 generalize operB tp ⟨ak, an⟩ = B0 at *
 generalize operB tp ⟨bk, bn⟩ = B1 at *
 generalize withinP off (-16384) 16384 = B2 at *
 generalize widthB wd = B3 at *
 go_enter Tryz.func58, Tryz.ntmps58
 go_upto_region 1 with (fail)
 refine wp_at hW1 ?_
 clear hW1
 obtain ⟨g0, g1, g2, g3, g4, g5, g6, g7, g8, g9, g10, g11⟩ := sh12 NX.out
 have HSH : SH W1 W1 := Below.refl _ _
 have CS1 : Hid (∀ Y, SH W1 Y → Calls Tryz.prog 59 #[.agg #[.int .i64 6, .int .i64 bin, .int .i64 d, .int .i64 ak, .int .u32 an, .int .i64 bk, .int .u32 bn, .int .i64 xn, .int .i64 off, .int .i64 wd, .bool sg, .slice xp args.length xc], .agg #[.int .i64 6, .int .i64 0, .int .i64 (-1), .int .i64 ak, .int .u32 an, .int .i64 bk, .int .u32 bn, .int .i64 0, .int .i64 off, .int .i64 wd, .bool false, .slice none 0 0]] Y fun e w' => e = .returned (.bool SB) ∧ Below Y.heap.size Y w') := fun Y h => CSM.out Y (HB.out.trans (Below.mono h HB.out.size))
 go_region_held3 (fun Y => SH W1 Y) (with_reducible first | assumption | (refine SH.drew ?_; assumption) | (refine SH.below ?_ (by assumption); assumption)) (first
  | (go_at_call 84; refine (CSH.out _).mono ?_; rintro e y1 ⟨rfl, hy1⟩)
  | (go_at_call 59; refine (CS1.out _ (SH.below (SH.drew HSH) hy1)).mono ?_; rintro e y2 ⟨rfl, hy2⟩))
 have HY : Hid (Below W1.heap.size W1 y2) := SH.below (SH.below (SH.drew HSH) hy1) hy2
 clear hy1 hy2 HSH g0 g1 g2 g3 g4 g5 g6 g7 g8 g9 g10 g11 CS1 CSM CSH
 have HYw : Hid (Below w.heap.size w y2) := HB.out.trans (HY.out.mono HB.out.size)
 obtain ⟨Zy, hZy⟩ : ∃ Z : SAT W1, y2 = Z.val := ⟨⟨y2, HY.out⟩, rfl⟩
 subst hZy
 cases SB with
 | false =>
  go_wp2_with fail
  go_ret
  exact ⟨by rw [HR.out]; simp, HYw.out⟩
 | true =>
  obtain ⟨F0, F1, F2, F3, F4, F5, F6, F7, F8, F9, F10, F11⟩ := sat12 NX.out
  obtain ⟨G0, G1, G2, G3, G4, G5⟩ := sat6 NF.out
  have HZW : Hid (∀ Z : SAT W1, Below w.heap.size w Z.val) := fun Z => HB.out.trans (Below.mono Z.ok HB.out.size)
  have KC0 := sat_calls (W := W1) fun Y h => CC0.out Y
  have KC1 := sat_calls (W := W1) fun Y h => CC1.out Y
  have KC2 := sat_calls (W := W1) fun Y h => CC2.out Y
  have KC3 := sat_calls (W := W1) fun Y h => CC3.out Y
  have MK0 : Hid True := trivial
  have MK1 : Hid True := trivial
  have MK2 : Hid True := trivial
  have MK3 : Hid True := trivial
  cases B0 with
  | false =>
   go_wp2_with (first
    | (have hx := MK0; clear hx; go_at_call 86; refine (KC0 _).mono ?_; rintro e v0 ⟨rfl, Z0, rfl⟩; clear MK0)
    | fail)
   go_ret
   exact ⟨by rw [HR.out]; rfl, HZW.out Z0⟩
  | true =>
   cases B1 with
   | false =>
    go_wp2_with (first
     | (have hx := MK0; clear hx; go_at_call 86; refine (KC0 _).mono ?_; rintro e v0 ⟨rfl, Z0, rfl⟩; clear MK0)
     | (have hx := MK1; clear hx; go_at_call 86; refine (KC1 _).mono ?_; rintro e v1 ⟨rfl, Z1, rfl⟩; clear MK1)
     | fail)
    go_ret
    exact ⟨by rw [HR.out]; rfl, HZW.out Z1⟩
   | true =>
    cases B2 with
    | false =>
     go_wp2_with (first
      | (have hx := MK0; clear hx; go_at_call 86; refine (KC0 _).mono ?_; rintro e v0 ⟨rfl, Z0, rfl⟩; clear MK0)
      | (have hx := MK1; clear hx; go_at_call 86; refine (KC1 _).mono ?_; rintro e v1 ⟨rfl, Z1, rfl⟩; clear MK1)
      | (have hx := MK2; clear hx; go_at_call 33; refine (KC2 _).mono ?_; rintro e v2 ⟨rfl, Z2, rfl⟩; clear MK2)
      | fail)
     go_ret
     exact ⟨by rw [HR.out]; rfl, HZW.out Z2⟩
    | true =>
     cases B3 with
     | false =>
      go_wp2_with (first
       | (have hx := MK0; clear hx; go_at_call 86; refine (KC0 _).mono ?_; rintro e v0 ⟨rfl, Z0, rfl⟩; clear MK0)
       | (have hx := MK1; clear hx; go_at_call 86; refine (KC1 _).mono ?_; rintro e v1 ⟨rfl, Z1, rfl⟩; clear MK1)
       | (have hx := MK2; clear hx; go_at_call 33; refine (KC2 _).mono ?_; rintro e v2 ⟨rfl, Z2, rfl⟩; clear MK2)
       | (have hx := MK3; clear hx; go_at_call 57; refine (KC3 _).mono ?_; rintro e v3 ⟨rfl, Z3, rfl⟩; clear MK3)
       | fail)
      go_ret
      exact ⟨by rw [HR.out]; rfl, HZW.out Z3⟩
     | true =>
      go_wp2_with (first
       | (have hx := MK0; clear hx; go_at_call 86; refine (KC0 _).mono ?_; rintro e v0 ⟨rfl, Z0, rfl⟩; clear MK0)
       | (have hx := MK1; clear hx; go_at_call 86; refine (KC1 _).mono ?_; rintro e v1 ⟨rfl, Z1, rfl⟩; clear MK1)
       | (have hx := MK2; clear hx; go_at_call 33; refine (KC2 _).mono ?_; rintro e v2 ⟨rfl, Z2, rfl⟩; clear MK2)
       | (have hx := MK3; clear hx; go_at_call 57; refine (KC3 _).mono ?_; rintro e v3 ⟨rfl, Z3, rfl⟩; clear MK3)
       | fail)
      go_ret
      exact ⟨by rw [HR.out]; rfl, HZW.out Z3⟩
theorem rRight_7 {op : Option Addr} {on oc : Nat} {mn : Int} {fp : Option Addr} {fn fc : Nat} {nm : ByteArray} {pr tp : Int} {gv : Bool} {sp : Option Addr} {sn sc : Nat} {cp : Option Addr} {cn cc : Nat} (h0 : 0 ≤ tp) (h1 : tp ≤ 9223372036854775807) (hcn : cn ≤ 9223372036854775806) (sls : List Slt) (obs : List Ob) (fns : List Fn)
 {bin d ak an bk bn xn off wd : Int} {sg : Bool} {args : List Ar} {xp : Option Addr} {xc : Nat} (hx : InOK w ⟨7, bin, d, ⟨ak, an⟩, ⟨bk, bn⟩, xn, off, wd, sg, args⟩ xp xc) :
 Calls Tryz.prog 58 #[.agg #[.slice op on oc, .slice fp fn fc, .int .i64 mn], .agg #[.string nm, .int .i64 pr, .int .i64 tp, .bool gv, .slice sp sn sc, .slice cp cn cc], .agg #[.int .i64 7, .int .i64 bin, .int .i64 d, .int .i64 ak, .int .u32 an, .int .i64 bk, .int .u32 bn, .int .i64 xn, .int .i64 off, .int .i64 wd, .bool sg, .slice xp args.length xc]] w fun e w' => e = .returned (.bool (rightB tp gv cn sls obs fns ⟨7, bin, d, ⟨ak, an⟩, ⟨bk, bn⟩, xn, off, wd, sg, args⟩)) ∧ Below w.heap.size w w' := by
 obtain ⟨W1, hW1, hNP, hNF, hNX, hHB⟩ := three_ex w (.cells #[.slice op on oc, .slice fp fn fc, .int .i64 mn] TPg) (.cells #[.string nm, .int .i64 pr, .int .i64 tp, .bool gv, .slice sp sn sc, .slice cp cn cc] TFn) (.cells #[.int .i64 7, .int .i64 bin, .int .i64 d, .int .i64 ak, .int .u32 an, .int .i64 bk, .int .u32 bn, .int .i64 xn, .int .i64 off, .int .i64 wd, .bool sg, .slice xp args.length xc] TIn)
 have NP : Hid (_ = _) := hNP
 have NF : Hid (_ = _) := hNF
 have NX : Hid (_ = _) := hNX
 have HB : Hid (Below w.heap.size w _) := hHB
 have HAV : Hid (∀ Y, Below w.heap.size w Y → ArgV Y (.slice xp args.length xc) args) := fun Y hY => hx.ar.below hY
 have hal : args.length ≤ 9223372036854775806 := hx.al
 have CC0 : Hid (∀ Y, Calls Tryz.prog 86 #[.agg #[.string nm, .int .i64 pr, .int .i64 tp, .bool gv, .slice sp sn sc, .slice cp cn cc], .agg #[.int .i64 ak, .int .u32 an]] Y fun e w' => e = .returned (.bool (operB tp ⟨ak, an⟩)) ∧ Below Y.heap.size Y w') := fun Y => rArg_c ⟨nm, pr, tp, gv, sp, sn, sc, cp, cn, cc⟩ h0 h1 ⟨ak, an⟩ hx.a Y
 have CC1 : Hid (∀ Y, Calls Tryz.prog 86 #[.agg #[.string nm, .int .i64 pr, .int .i64 tp, .bool gv, .slice sp sn sc, .slice cp cn cc], .agg #[.int .i64 bk, .int .u32 bn]] Y fun e w' => e = .returned (.bool (operB tp ⟨bk, bn⟩)) ∧ Below Y.heap.size Y w') := fun Y => rArg_c ⟨nm, pr, tp, gv, sp, sn, sc, cp, cn, cc⟩ h0 h1 ⟨bk, bn⟩ hx.b Y
 have CC2 : Hid (∀ Y, Calls Tryz.prog 57 #[.int .i64 wd] Y fun e w' => e = .returned (.bool (widthB wd)) ∧ Below Y.heap.size Y w') := fun Y => within_b (power_c wd Y)
 have CC3 : Hid (∀ Y, Calls Tryz.prog 33 #[.int .i64 off, .int .i64 1, .int .i64 16384] Y fun e w' => e = .returned (.bool (withinP off 1 16384)) ∧ Below Y.heap.size Y w') := fun Y => within_b (rwithin_c off 1 16384 Y)
 obtain ⟨R, hR⟩ : ∃ R, R = rightB tp gv cn sls obs fns ⟨7, bin, d, ⟨ak, an⟩, ⟨bk, bn⟩, xn, off, wd, sg, args⟩ := ⟨_, rfl⟩
 rw [← hR]
 obtain ⟨SB, hSB⟩ : ∃ b, b = (sameB ⟨7, bin, d, ⟨ak, an⟩, ⟨bk, bn⟩, xn, off, wd, sg, args⟩ ⟨7, 0, -1, ⟨ak, an⟩, ⟨bk, bn⟩, 0, off, wd, false, []⟩ && decide (args.length = 0)) := ⟨_, rfl⟩
 have HR : Hid (R = ((operB tp ⟨ak, an⟩ && (operB tp ⟨bk, bn⟩ && (widthB wd && (withinP off 1 16384 && (off.tmod wd == 0))))) && SB)) := by
  show R = _
  rw [hR, hSB]
  unfold rightB
  rw [bare_same_7]
  rfl
 have CSH : Hid (∀ Y, Calls Tryz.prog 84 #[.agg #[.int .i64 7, .int .i64 bin, .int .i64 d, .int .i64 ak, .int .u32 an, .int .i64 bk, .int .u32 bn, .int .i64 xn, .int .i64 off, .int .i64 wd, .bool sg, .slice xp args.length xc]] Y fun e w' => e = .returned (.agg #[.int .i64 7, .int .i64 0, .int .i64 (-1), .int .i64 ak, .int .u32 an, .int .i64 bk, .int .u32 bn, .int .i64 0, .int .i64 off, .int .i64 wd, .bool false, .slice none 0 0]) ∧ Below Y.heap.size Y w') := fun Y => rShape_7 bin d ak an bk bn xn off wd sg xp args.length xc Y
 have CSM : Hid (∀ Y, Below w.heap.size w Y → Calls Tryz.prog 59 #[.agg #[.int .i64 7, .int .i64 bin, .int .i64 d, .int .i64 ak, .int .u32 an, .int .i64 bk, .int .u32 bn, .int .i64 xn, .int .i64 off, .int .i64 wd, .bool sg, .slice xp args.length xc], .agg #[.int .i64 7, .int .i64 0, .int .i64 (-1), .int .i64 ak, .int .u32 an, .int .i64 bk, .int .u32 bn, .int .i64 0, .int .i64 off, .int .i64 wd, .bool false, .slice none 0 0]] Y fun e w' => e = .returned (.bool SB) ∧ Below Y.heap.size Y w') := fun Y hY => by
  cases hs : SB with
  | false => exact rSameF_c (x := ⟨7, bin, d, ⟨ak, an⟩, ⟨bk, bn⟩, xn, off, wd, sg, args⟩) (y := ⟨7, 0, -1, ⟨ak, an⟩, ⟨bk, bn⟩, 0, off, wd, false, []⟩) (p1 := xp) (n1 := args.length) (c1 := xc) (p2 := none) (n2 := 0) (c2 := 0) (hSB.symm.trans hs)
  | true =>
   have hq := hSB.symm.trans hs
   have hq2 : args = [] ∧ ⟨7, bin, d, ⟨ak, an⟩, ⟨bk, bn⟩, xn, off, wd, sg, args⟩ = (⟨7, 0, -1, ⟨ak, an⟩, ⟨bk, bn⟩, 0, off, wd, false, []⟩ : In) := by
    simp [sameB, arEq] at hq
    refine ⟨hq.2, ?_⟩
    simp_all
   obtain ⟨ha, he⟩ := hq2
   have hA1 := (HAV.out Y hY)
   have := rSameT_c (w := Y) (x := ⟨7, bin, d, ⟨ak, an⟩, ⟨bk, bn⟩, xn, off, wd, sg, args⟩) (p1 := xp) (p2 := none) (c1 := xc) (c2 := 0) hA1 (by rw [ha]; exact argV_none' Y) hal
   subst ha
   simp only [In.mk.injEq, Ar.mk.injEq] at he
   simp only [inCells, List.length_nil] at this ⊢
   simp_all
 have nt := not_t
 have nf := not_f
 have hwr : IntKind.i64.wrap ((cn : Int) - 1) = (cn : Int) - 1 := wrap_idI (by omega) (by omega)
 clear hNP hNF hNX hHB hR hx HAV hal h0 h1
 have HSBE : Hid (SB = _) := hSB
 clear hSB
 generalize operB tp ⟨ak, an⟩ = B0 at *
 generalize operB tp ⟨bk, bn⟩ = B1 at *
 obtain ⟨B2, hB2⟩ : ∃ b, b = widthB wd := ⟨_, rfl⟩
 rw [← hB2] at CC2 HR
 have HBE2 : Hid (B2 = widthB wd) := hB2
 clear hB2
 obtain ⟨B3, hB3⟩ : ∃ b, b = withinP off 1 16384 := ⟨_, rfl⟩
 rw [← hB3] at CC3 HR
 have HBE3 : Hid (B3 = withinP off 1 16384) := hB3
 clear hB3
 go_enter Tryz.func58, Tryz.ntmps58
 go_upto_region 1 with (fail)
 refine wp_at hW1 ?_
 clear hW1
 obtain ⟨g0, g1, g2, g3, g4, g5, g6, g7, g8, g9, g10, g11⟩ := sh12 NX.out
 have HSH : SH W1 W1 := Below.refl _ _
 have CS1 : Hid (∀ Y, SH W1 Y → Calls Tryz.prog 59 #[.agg #[.int .i64 7, .int .i64 bin, .int .i64 d, .int .i64 ak, .int .u32 an, .int .i64 bk, .int .u32 bn, .int .i64 xn, .int .i64 off, .int .i64 wd, .bool sg, .slice xp args.length xc], .agg #[.int .i64 7, .int .i64 0, .int .i64 (-1), .int .i64 ak, .int .u32 an, .int .i64 bk, .int .u32 bn, .int .i64 0, .int .i64 off, .int .i64 wd, .bool false, .slice none 0 0]] Y fun e w' => e = .returned (.bool SB) ∧ Below Y.heap.size Y w') := fun Y h => CSM.out Y (HB.out.trans (Below.mono h HB.out.size))
 go_region_held3 (fun Y => SH W1 Y) (with_reducible first | assumption | (refine SH.drew ?_; assumption) | (refine SH.below ?_ (by assumption); assumption)) (first
  | (go_at_call 84; refine (CSH.out _).mono ?_; rintro e y1 ⟨rfl, hy1⟩)
  | (go_at_call 59; refine (CS1.out _ (SH.below (SH.drew HSH) hy1)).mono ?_; rintro e y2 ⟨rfl, hy2⟩))
 have HY : Hid (Below W1.heap.size W1 y2) := SH.below (SH.below (SH.drew HSH) hy1) hy2
 clear hy1 hy2 HSH g0 g1 g2 g3 g4 g5 g6 g7 g8 g9 g10 g11 CS1 CSM CSH
 have HYw : Hid (Below w.heap.size w y2) := HB.out.trans (HY.out.mono HB.out.size)
 obtain ⟨Zy, hZy⟩ : ∃ Z : SAT W1, y2 = Z.val := ⟨⟨y2, HY.out⟩, rfl⟩
 subst hZy
 cases SB with
 | false =>
  go_wp2_with fail
  go_ret
  exact ⟨by rw [HR.out]; simp, HYw.out⟩
 | true =>
  obtain ⟨F0, F1, F2, F3, F4, F5, F6, F7, F8, F9, F10, F11⟩ := sat12 NX.out
  obtain ⟨G0, G1, G2, G3, G4, G5⟩ := sat6 NF.out
  have HZW : Hid (∀ Z : SAT W1, Below w.heap.size w Z.val) := fun Z => HB.out.trans (Below.mono Z.ok HB.out.size)
  have KC0 := sat_calls (W := W1) fun Y h => CC0.out Y
  have KC1 := sat_calls (W := W1) fun Y h => CC1.out Y
  have KC2 := sat_calls (W := W1) fun Y h => CC2.out Y
  have KC3 := sat_calls (W := W1) fun Y h => CC3.out Y
  have MK0 : Hid True := trivial
  have MK1 : Hid True := trivial
  have MK2 : Hid True := trivial
  have MK3 : Hid True := trivial
  cases B0 with
  | false =>
   go_wp2_with (first
    | (have hx := MK0; clear hx; go_at_call 86; refine (KC0 _).mono ?_; rintro e v0 ⟨rfl, Z0, rfl⟩; clear MK0)
    | fail)
   go_ret
   exact ⟨by rw [HR.out]; rfl, HZW.out Z0⟩
  | true =>
   cases B1 with
   | false =>
    go_wp2_with (first
     | (have hx := MK0; clear hx; go_at_call 86; refine (KC0 _).mono ?_; rintro e v0 ⟨rfl, Z0, rfl⟩; clear MK0)
     | (have hx := MK1; clear hx; go_at_call 86; refine (KC1 _).mono ?_; rintro e v1 ⟨rfl, Z1, rfl⟩; clear MK1)
     | fail)
    go_ret
    exact ⟨by rw [HR.out]; rfl, HZW.out Z1⟩
   | true =>
    cases B2 with
    | false =>
     go_wp2_with (first
      | (have hx := MK0; clear hx; go_at_call 86; refine (KC0 _).mono ?_; rintro e v0 ⟨rfl, Z0, rfl⟩; clear MK0)
      | (have hx := MK1; clear hx; go_at_call 86; refine (KC1 _).mono ?_; rintro e v1 ⟨rfl, Z1, rfl⟩; clear MK1)
      | (have hx := MK2; clear hx; go_at_call 57; refine (KC2 _).mono ?_; rintro e v2 ⟨rfl, Z2, rfl⟩; clear MK2)
      | fail)
     go_ret
     exact ⟨by rw [HR.out]; rfl, HZW.out Z2⟩
    | true =>
     cases B3 with
     | false =>
      go_wp2_with (first
       | (have hx := MK0; clear hx; go_at_call 86; refine (KC0 _).mono ?_; rintro e v0 ⟨rfl, Z0, rfl⟩; clear MK0)
       | (have hx := MK1; clear hx; go_at_call 86; refine (KC1 _).mono ?_; rintro e v1 ⟨rfl, Z1, rfl⟩; clear MK1)
       | (have hx := MK2; clear hx; go_at_call 57; refine (KC2 _).mono ?_; rintro e v2 ⟨rfl, Z2, rfl⟩; clear MK2)
       | (have hx := MK3; clear hx; go_at_call 33; refine (KC3 _).mono ?_; rintro e v3 ⟨rfl, Z3, rfl⟩; clear MK3)
       | fail)
      go_ret
      exact ⟨by rw [HR.out]; rfl, HZW.out Z3⟩
     | true =>
      have hwd : wd = 1 ∨ wd = 2 ∨ wd = 4 := by have h := HBE2.out; unfold widthB at h; simpa using h.symm
      have hof : 1 ≤ off ∧ off ≤ 16384 := by have h := HBE3.out; unfold withinP at h; simpa using h.symm
      have hof1 := hof.1
      have hof2 := hof.2
      clear hof
      have hw0 : ¬ wd = 0 := by omega
      have HEM : Hid (off.tmod wd = off % wd) := Int.tmod_eq_emod_of_nonneg (by omega)
      cases hm : (off % wd == 0) with
      | false =>
       go_wp2_with (first
        | (have hx := MK0; clear hx; go_at_call 86; refine (KC0 _).mono ?_; rintro e v0 ⟨rfl, Z0, rfl⟩; clear MK0)
        | (have hx := MK1; clear hx; go_at_call 86; refine (KC1 _).mono ?_; rintro e v1 ⟨rfl, Z1, rfl⟩; clear MK1)
        | (have hx := MK2; clear hx; go_at_call 57; refine (KC2 _).mono ?_; rintro e v2 ⟨rfl, Z2, rfl⟩; clear MK2)
        | (have hx := MK3; clear hx; go_at_call 33; refine (KC3 _).mono ?_; rintro e v3 ⟨rfl, Z3, rfl⟩; clear MK3)
        | fail)
       go_ret
       exact ⟨by rw [HR.out, HEM.out, hm]; rfl, HZW.out Z3⟩
      | true =>
       go_wp2_with (first
        | (have hx := MK0; clear hx; go_at_call 86; refine (KC0 _).mono ?_; rintro e v0 ⟨rfl, Z0, rfl⟩; clear MK0)
        | (have hx := MK1; clear hx; go_at_call 86; refine (KC1 _).mono ?_; rintro e v1 ⟨rfl, Z1, rfl⟩; clear MK1)
        | (have hx := MK2; clear hx; go_at_call 57; refine (KC2 _).mono ?_; rintro e v2 ⟨rfl, Z2, rfl⟩; clear MK2)
        | (have hx := MK3; clear hx; go_at_call 33; refine (KC3 _).mono ?_; rintro e v3 ⟨rfl, Z3, rfl⟩; clear MK3)
        | fail)
       go_ret
       exact ⟨by rw [HR.out, HEM.out, hm]; rfl, HZW.out Z3⟩
end
end Go.Proofs.YtelaaaamnphbpaaGreatDoor