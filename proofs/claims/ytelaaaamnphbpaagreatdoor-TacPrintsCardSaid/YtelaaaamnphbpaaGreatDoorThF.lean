/- The given answer's Right, at the instructions that ask of temporaries, operands, places and widths a. -/
import Derived.Test.YtelaaaamnphbpaaGreatDoorThE
import Derived.Test.YtelaaaamnphbpaaGreatDoorNI
import Derived.Deep.RegionHeld3
namespace Go.Proofs.YtelaaaamnphbpaaGreatDoor
set_option maxHeartbeats 16000000
open Go.RowKit Go.Maps
set_option linter.unusedVariables false
set_option linter.unusedSimpArgs false
set_option maxRecDepth 100000
section
variable {w : World}
theorem rRight_9 {op : Option Addr} {on oc : Nat} {mn : Int} {fp : Option Addr} {fn fc : Nat} {nm : ByteArray} {pr tp : Int} {gv : Bool} {sp : Option Addr} {sn sc : Nat} {cp : Option Addr} {cn cc : Nat} (h0 : 0 ≤ tp) (h1 : tp ≤ 9223372036854775807) (hcn : cn ≤ 9223372036854775806) (sls : List Slt) (obs : List Ob) (fns : List Fn)
 {bin d ak an bk bn xn off wd : Int} {sg : Bool} {args : List Ar} {xp : Option Addr} {xc : Nat} (hx : InOK w ⟨9, bin, d, ⟨ak, an⟩, ⟨bk, bn⟩, xn, off, wd, sg, args⟩ xp xc) :
 Calls Tryz.prog 58 #[.agg #[.slice op on oc, .slice fp fn fc, .int .i64 mn], .agg #[.string nm, .int .i64 pr, .int .i64 tp, .bool gv, .slice sp sn sc, .slice cp cn cc], .agg #[.int .i64 9, .int .i64 bin, .int .i64 d, .int .i64 ak, .int .u32 an, .int .i64 bk, .int .u32 bn, .int .i64 xn, .int .i64 off, .int .i64 wd, .bool sg, .slice xp args.length xc]] w fun e w' => e = .returned (.bool (rightB tp gv cn sls obs fns ⟨9, bin, d, ⟨ak, an⟩, ⟨bk, bn⟩, xn, off, wd, sg, args⟩)) ∧ Below w.heap.size w w' := by
 obtain ⟨W1, hW1, hNP, hNF, hNX, hHB⟩ := three_ex w (.cells #[.slice op on oc, .slice fp fn fc, .int .i64 mn] TPg) (.cells #[.string nm, .int .i64 pr, .int .i64 tp, .bool gv, .slice sp sn sc, .slice cp cn cc] TFn) (.cells #[.int .i64 9, .int .i64 bin, .int .i64 d, .int .i64 ak, .int .u32 an, .int .i64 bk, .int .u32 bn, .int .i64 xn, .int .i64 off, .int .i64 wd, .bool sg, .slice xp args.length xc] TIn)
 have NP : Hid (_ = _) := hNP
 have NF : Hid (_ = _) := hNF
 have NX : Hid (_ = _) := hNX
 have HB : Hid (Below w.heap.size w _) := hHB
 have HAV : Hid (∀ Y, Below w.heap.size w Y → ArgV Y (.slice xp args.length xc) args) := fun Y hY => hx.ar.below hY
 have hal : args.length ≤ 9223372036854775806 := hx.al
 have CN9 : Hid (∀ Y, Calls Tryz.prog 89 #[.agg #[.int .i64 ak, .int .u32 an]] Y fun e w' => e = .returned (.bool (ak == 0 && an == 0)) ∧ Below Y.heap.size Y w') := fun Y => rNone_c ⟨ak, an⟩ Y
 have CC0 : Hid (∀ Y, Calls Tryz.prog 86 #[.agg #[.string nm, .int .i64 pr, .int .i64 tp, .bool gv, .slice sp sn sc, .slice cp cn cc], .agg #[.int .i64 ak, .int .u32 an]] Y fun e w' => e = .returned (.bool (operB tp ⟨ak, an⟩)) ∧ Below Y.heap.size Y w') := fun Y => rArg_c ⟨nm, pr, tp, gv, sp, sn, sc, cp, cn, cc⟩ h0 h1 ⟨ak, an⟩ hx.a Y
 obtain ⟨R, hR⟩ : ∃ R, R = rightB tp gv cn sls obs fns ⟨9, bin, d, ⟨ak, an⟩, ⟨bk, bn⟩, xn, off, wd, sg, args⟩ := ⟨_, rfl⟩
 rw [← hR]
 obtain ⟨SB, hSB⟩ : ∃ b, b = (sameB ⟨9, bin, d, ⟨ak, an⟩, ⟨bk, bn⟩, xn, off, wd, sg, args⟩ ⟨9, 0, -1, ⟨ak, an⟩, ⟨0, 0⟩, 0, 0, 0, false, []⟩ && decide (args.length = 0)) := ⟨_, rfl⟩
 have HR : Hid (R = ((if gv then operB tp ⟨ak, an⟩ else (ak == 0 && an == 0)) && SB)) := by
  show R = _
  rw [hR, hSB]
  unfold rightB
  rw [bare_same_9]
  rfl
 have CSH : Hid (∀ Y, Calls Tryz.prog 84 #[.agg #[.int .i64 9, .int .i64 bin, .int .i64 d, .int .i64 ak, .int .u32 an, .int .i64 bk, .int .u32 bn, .int .i64 xn, .int .i64 off, .int .i64 wd, .bool sg, .slice xp args.length xc]] Y fun e w' => e = .returned (.agg #[.int .i64 9, .int .i64 0, .int .i64 (-1), .int .i64 ak, .int .u32 an, .int .i64 0, .int .u32 0, .int .i64 0, .int .i64 0, .int .i64 0, .bool false, .slice none 0 0]) ∧ Below Y.heap.size Y w') := fun Y => rShape_9 bin d ak an bk bn xn off wd sg xp args.length xc Y
 have CSM : Hid (∀ Y, Below w.heap.size w Y → Calls Tryz.prog 59 #[.agg #[.int .i64 9, .int .i64 bin, .int .i64 d, .int .i64 ak, .int .u32 an, .int .i64 bk, .int .u32 bn, .int .i64 xn, .int .i64 off, .int .i64 wd, .bool sg, .slice xp args.length xc], .agg #[.int .i64 9, .int .i64 0, .int .i64 (-1), .int .i64 ak, .int .u32 an, .int .i64 0, .int .u32 0, .int .i64 0, .int .i64 0, .int .i64 0, .bool false, .slice none 0 0]] Y fun e w' => e = .returned (.bool SB) ∧ Below Y.heap.size Y w') := fun Y hY => by
  cases hs : SB with
  | false => exact rSameF_c (x := ⟨9, bin, d, ⟨ak, an⟩, ⟨bk, bn⟩, xn, off, wd, sg, args⟩) (y := ⟨9, 0, -1, ⟨ak, an⟩, ⟨0, 0⟩, 0, 0, 0, false, []⟩) (p1 := xp) (n1 := args.length) (c1 := xc) (p2 := none) (n2 := 0) (c2 := 0) (hSB.symm.trans hs)
  | true =>
   have hq := hSB.symm.trans hs
   have hq2 : args = [] ∧ ⟨9, bin, d, ⟨ak, an⟩, ⟨bk, bn⟩, xn, off, wd, sg, args⟩ = (⟨9, 0, -1, ⟨ak, an⟩, ⟨0, 0⟩, 0, 0, 0, false, []⟩ : In) := by
    simp [sameB, arEq] at hq
    refine ⟨hq.2, ?_⟩
    simp_all
   obtain ⟨ha, he⟩ := hq2
   have hA1 := (HAV.out Y hY)
   have := rSameT_c (w := Y) (x := ⟨9, bin, d, ⟨ak, an⟩, ⟨bk, bn⟩, xn, off, wd, sg, args⟩) (p1 := xp) (p2 := none) (c1 := xc) (c2 := 0) hA1 (by rw [ha]; exact argV_none' Y) hal
   subst ha
   simp only [In.mk.injEq, Ar.mk.injEq] at he
   simp only [inCells, List.length_nil] at this ⊢
   simp_all
 have nt := not_t
 have nf := not_f
 have hwr : IntKind.i64.wrap ((cn : Int) - 1) = (cn : Int) - 1 := wrap_idI (by omega) (by omega)
 clear hNP hNF hNX hHB hR hx HAV hal h0 h1
 have HSBE : Hid (SB = _) := hSB
 clear hSB
 generalize operB tp ⟨ak, an⟩ = B0 at *
 go_enter Tryz.func58, Tryz.ntmps58
 go_upto_region 1 with (fail)
 refine wp_at hW1 ?_
 clear hW1
 obtain ⟨g0, g1, g2, g3, g4, g5, g6, g7, g8, g9, g10, g11⟩ := sh12 NX.out
 have HSH : SH W1 W1 := Below.refl _ _
 have CS1 : Hid (∀ Y, SH W1 Y → Calls Tryz.prog 59 #[.agg #[.int .i64 9, .int .i64 bin, .int .i64 d, .int .i64 ak, .int .u32 an, .int .i64 bk, .int .u32 bn, .int .i64 xn, .int .i64 off, .int .i64 wd, .bool sg, .slice xp args.length xc], .agg #[.int .i64 9, .int .i64 0, .int .i64 (-1), .int .i64 ak, .int .u32 an, .int .i64 0, .int .u32 0, .int .i64 0, .int .i64 0, .int .i64 0, .bool false, .slice none 0 0]] Y fun e w' => e = .returned (.bool SB) ∧ Below Y.heap.size Y w') := fun Y h => CSM.out Y (HB.out.trans (Below.mono h HB.out.size))
 go_region_held3 (fun Y => SH W1 Y) (with_reducible first | assumption | (refine SH.drew ?_; assumption) | (refine SH.below ?_ (by assumption); assumption)) (first
  | (go_at_call 84; refine (CSH.out _).mono ?_; rintro e y1 ⟨rfl, hy1⟩)
  | (go_at_call 59; refine (CS1.out _ (SH.below (SH.drew HSH) hy1)).mono ?_; rintro e y2 ⟨rfl, hy2⟩))
 have HY : Hid (Below W1.heap.size W1 y2) := SH.below (SH.below (SH.drew HSH) hy1) hy2
 clear hy1 hy2 HSH g0 g1 g2 g3 g4 g5 g6 g7 g8 g9 g10 g11 CS1 CSM CSH
 have HYw : Hid (Below w.heap.size w y2) := HB.out.trans (HY.out.mono HB.out.size)
 obtain ⟨Zy, hZy⟩ : ∃ Z : SAT W1, y2 = Z.val := ⟨⟨y2, HY.out⟩, rfl⟩
 subst hZy
 cases SB with
 | false =>
  go_wp2_with fail
  go_ret
  exact ⟨by rw [HR.out]; simp, HYw.out⟩
 | true =>
  obtain ⟨F0, F1, F2, F3, F4, F5, F6, F7, F8, F9, F10, F11⟩ := sat12 NX.out
  obtain ⟨G0, G1, G2, G3, G4, G5⟩ := sat6 NF.out
  have HZW : Hid (∀ Z : SAT W1, Below w.heap.size w Z.val) := fun Z => HB.out.trans (Below.mono Z.ok HB.out.size)
  have KC0 := sat_calls (W := W1) fun Y h => CC0.out Y
  have KN9 := sat_calls (W := W1) fun Y h => CN9.out Y
  have MK0 : Hid True := trivial
  cases gv with
  | true =>
   cases B0 with
   | false =>
    go_wp2_with (first
     | (have hx := MK0; clear hx; go_at_call 86; refine (KC0 _).mono ?_; rintro e v0 ⟨rfl, Z0, rfl⟩; clear MK0)
     | fail)
    go_ret
    exact ⟨by rw [HR.out]; rfl, HZW.out Z0⟩
   | true =>
    go_wp2_with (first
     | (have hx := MK0; clear hx; go_at_call 86; refine (KC0 _).mono ?_; rintro e v0 ⟨rfl, Z0, rfl⟩; clear MK0)
     | fail)
    go_ret
    exact ⟨by rw [HR.out]; rfl, HZW.out Z0⟩
  | false =>
   go_wp2_with (first
    | (go_at_call 89; refine (KN9 _).mono ?_; rintro e v0 ⟨rfl, Z0, rfl⟩)
    | fail)
   go_ret
   exact ⟨by rw [HR.out]; simp, HZW.out Z0⟩
theorem rRight_10 {op : Option Addr} {on oc : Nat} {mn : Int} {fp : Option Addr} {fn fc : Nat} {nm : ByteArray} {pr tp : Int} {gv : Bool} {sp : Option Addr} {sn sc : Nat} {cp : Option Addr} {cn cc : Nat} (h0 : 0 ≤ tp) (h1 : tp ≤ 9223372036854775807) (hcn : cn ≤ 9223372036854775806) (sls : List Slt) (obs : List Ob) (fns : List Fn)
 {bin d ak an bk bn xn off wd : Int} {sg : Bool} {args : List Ar} {xp : Option Addr} {xc : Nat} (hx : InOK w ⟨10, bin, d, ⟨ak, an⟩, ⟨bk, bn⟩, xn, off, wd, sg, args⟩ xp xc) :
 Calls Tryz.prog 58 #[.agg #[.slice op on oc, .slice fp fn fc, .int .i64 mn], .agg #[.string nm, .int .i64 pr, .int .i64 tp, .bool gv, .slice sp sn sc, .slice cp cn cc], .agg #[.int .i64 10, .int .i64 bin, .int .i64 d, .int .i64 ak, .int .u32 an, .int .i64 bk, .int .u32 bn, .int .i64 xn, .int .i64 off, .int .i64 wd, .bool sg, .slice xp args.length xc]] w fun e w' => e = .returned (.bool (rightB tp gv cn sls obs fns ⟨10, bin, d, ⟨ak, an⟩, ⟨bk, bn⟩, xn, off, wd, sg, args⟩)) ∧ Below w.heap.size w w' := by
 obtain ⟨W1, hW1, hNP, hNF, hNX, hHB⟩ := three_ex w (.cells #[.slice op on oc, .slice fp fn fc, .int .i64 mn] TPg) (.cells #[.string nm, .int .i64 pr, .int .i64 tp, .bool gv, .slice sp sn sc, .slice cp cn cc] TFn) (.cells #[.int .i64 10, .int .i64 bin, .int .i64 d, .int .i64 ak, .int .u32 an, .int .i64 bk, .int .u32 bn, .int .i64 xn, .int .i64 off, .int .i64 wd, .bool sg, .slice xp args.length xc] TIn)
 have NP : Hid (_ = _) := hNP
 have NF : Hid (_ = _) := hNF
 have NX : Hid (_ = _) := hNX
 have HB : Hid (Below w.heap.size w _) := hHB
 have HAV : Hid (∀ Y, Below w.heap.size w Y → ArgV Y (.slice xp args.length xc) args) := fun Y hY => hx.ar.below hY
 have hal : args.length ≤ 9223372036854775806 := hx.al
 have CC0 : Hid (∀ Y, Calls Tryz.prog 33 #[.int .i64 xn, .int .i64 0, .int .i64 ((cn : Int) - 1)] Y fun e w' => e = .returned (.bool (tempB cn xn)) ∧ Below Y.heap.size Y w') := fun Y => within_b (rwithin_c xn 0 ((cn : Int) - 1) Y)
 obtain ⟨R, hR⟩ : ∃ R, R = rightB tp gv cn sls obs fns ⟨10, bin, d, ⟨ak, an⟩, ⟨bk, bn⟩, xn, off, wd, sg, args⟩ := ⟨_, rfl⟩
 rw [← hR]
 obtain ⟨SB, hSB⟩ : ∃ b, b = (sameB ⟨10, bin, d, ⟨ak, an⟩, ⟨bk, bn⟩, xn, off, wd, sg, args⟩ ⟨10, 0, -1, ⟨0, 0⟩, ⟨0, 0⟩, xn, 0, 0, false, []⟩ && decide (args.length = 0)) := ⟨_, rfl⟩
 have HR : Hid (R = ((tempB cn xn) && SB)) := by
  show R = _
  rw [hR, hSB]
  unfold rightB
  rw [bare_same_10]
  rfl
 have CSH : Hid (∀ Y, Calls Tryz.prog 84 #[.agg #[.int .i64 10, .int .i64 bin, .int .i64 d, .int .i64 ak, .int .u32 an, .int .i64 bk, .int .u32 bn, .int .i64 xn, .int .i64 off, .int .i64 wd, .bool sg, .slice xp args.length xc]] Y fun e w' => e = .returned (.agg #[.int .i64 10, .int .i64 0, .int .i64 (-1), .int .i64 0, .int .u32 0, .int .i64 0, .int .u32 0, .int .i64 xn, .int .i64 0, .int .i64 0, .bool false, .slice none 0 0]) ∧ Below Y.heap.size Y w') := fun Y => rShape_10 bin d ak an bk bn xn off wd sg xp args.length xc Y
 have CSM : Hid (∀ Y, Below w.heap.size w Y → Calls Tryz.prog 59 #[.agg #[.int .i64 10, .int .i64 bin, .int .i64 d, .int .i64 ak, .int .u32 an, .int .i64 bk, .int .u32 bn, .int .i64 xn, .int .i64 off, .int .i64 wd, .bool sg, .slice xp args.length xc], .agg #[.int .i64 10, .int .i64 0, .int .i64 (-1), .int .i64 0, .int .u32 0, .int .i64 0, .int .u32 0, .int .i64 xn, .int .i64 0, .int .i64 0, .bool false, .slice none 0 0]] Y fun e w' => e = .returned (.bool SB) ∧ Below Y.heap.size Y w') := fun Y hY => by
  cases hs : SB with
  | false => exact rSameF_c (x := ⟨10, bin, d, ⟨ak, an⟩, ⟨bk, bn⟩, xn, off, wd, sg, args⟩) (y := ⟨10, 0, -1, ⟨0, 0⟩, ⟨0, 0⟩, xn, 0, 0, false, []⟩) (p1 := xp) (n1 := args.length) (c1 := xc) (p2 := none) (n2 := 0) (c2 := 0) (hSB.symm.trans hs)
  | true =>
   have hq := hSB.symm.trans hs
   have hq2 : args = [] ∧ ⟨10, bin, d, ⟨ak, an⟩, ⟨bk, bn⟩, xn, off, wd, sg, args⟩ = (⟨10, 0, -1, ⟨0, 0⟩, ⟨0, 0⟩, xn, 0, 0, false, []⟩ : In) := by
    simp [sameB, arEq] at hq
    refine ⟨hq.2, ?_⟩
    simp_all
   obtain ⟨ha, he⟩ := hq2
   have hA1 := (HAV.out Y hY)
   have := rSameT_c (w := Y) (x := ⟨10, bin, d, ⟨ak, an⟩, ⟨bk, bn⟩, xn, off, wd, sg, args⟩) (p1 := xp) (p2 := none) (c1 := xc) (c2 := 0) hA1 (by rw [ha]; exact argV_none' Y) hal
   subst ha
   simp only [In.mk.injEq, Ar.mk.injEq] at he
   simp only [inCells, List.length_nil] at this ⊢
   simp_all
 have nt := not_t
 have nf := not_f
 have hwr : IntKind.i64.wrap ((cn : Int) - 1) = (cn : Int) - 1 := wrap_idI (by omega) (by omega)
 clear hNP hNF hNX hHB hR hx HAV hal h0 h1
 have HSBE : Hid (SB = _) := hSB
 clear hSB
 generalize tempB cn xn = B0 at *
 go_enter Tryz.func58, Tryz.ntmps58
 go_upto_region 1 with (fail)
 refine wp_at hW1 ?_
 clear hW1
 obtain ⟨g0, g1, g2, g3, g4, g5, g6, g7, g8, g9, g10, g11⟩ := sh12 NX.out
 have HSH : SH W1 W1 := Below.refl _ _
 have CS1 : Hid (∀ Y, SH W1 Y → Calls Tryz.prog 59 #[.agg #[.int .i64 10, .int .i64 bin, .int .i64 d, .int .i64 ak, .int .u32 an, .int .i64 bk, .int .u32 bn, .int .i64 xn, .int .i64 off, .int .i64 wd, .bool sg, .slice xp args.length xc], .agg #[.int .i64 10, .int .i64 0, .int .i64 (-1), .int .i64 0, .int .u32 0, .int .i64 0, .int .u32 0, .int .i64 xn, .int .i64 0, .int .i64 0, .bool false, .slice none 0 0]] Y fun e w' => e = .returned (.bool SB) ∧ Below Y.heap.size Y w') := fun Y h => CSM.out Y (HB.out.trans (Below.mono h HB.out.size))
 go_region_held3 (fun Y => SH W1 Y) (with_reducible first | assumption | (refine SH.drew ?_; assumption) | (refine SH.below ?_ (by assumption); assumption)) (first
  | (go_at_call 84; refine (CSH.out _).mono ?_; rintro e y1 ⟨rfl, hy1⟩)
  | (go_at_call 59; refine (CS1.out _ (SH.below (SH.drew HSH) hy1)).mono ?_; rintro e y2 ⟨rfl, hy2⟩))
 have HY : Hid (Below W1.heap.size W1 y2) := SH.below (SH.below (SH.drew HSH) hy1) hy2
 clear hy1 hy2 HSH g0 g1 g2 g3 g4 g5 g6 g7 g8 g9 g10 g11 CS1 CSM CSH
 have HYw : Hid (Below w.heap.size w y2) := HB.out.trans (HY.out.mono HB.out.size)
 obtain ⟨Zy, hZy⟩ : ∃ Z : SAT W1, y2 = Z.val := ⟨⟨y2, HY.out⟩, rfl⟩
 subst hZy
 cases SB with
 | false =>
  go_wp2_with fail
  go_ret
  exact ⟨by rw [HR.out]; simp, HYw.out⟩
 | true =>
  obtain ⟨F0, F1, F2, F3, F4, F5, F6, F7, F8, F9, F10, F11⟩ := sat12 NX.out
  obtain ⟨G0, G1, G2, G3, G4, G5⟩ := sat6 NF.out
  have HZW : Hid (∀ Z : SAT W1, Below w.heap.size w Z.val) := fun Z => HB.out.trans (Below.mono Z.ok HB.out.size)
  have KC0 := sat_calls (W := W1) fun Y h => CC0.out Y
  have MK0 : Hid True := trivial
  cases B0 with
  | false =>
   go_wp2_with (first
    | (have hx := MK0; clear hx; go_at_call 33; refine (KC0 _).mono ?_; rintro e v0 ⟨rfl, Z0, rfl⟩; clear MK0)
    | fail)
   go_ret
   exact ⟨by rw [HR.out]; rfl, HZW.out Z0⟩
  | true =>
   go_wp2_with (first
    | (have hx := MK0; clear hx; go_at_call 33; refine (KC0 _).mono ?_; rintro e v0 ⟨rfl, Z0, rfl⟩; clear MK0)
    | fail)
   go_ret
   exact ⟨by rw [HR.out]; rfl, HZW.out Z0⟩
theorem rRight_11 {op : Option Addr} {on oc : Nat} {mn : Int} {fp : Option Addr} {fn fc : Nat} {nm : ByteArray} {pr tp : Int} {gv : Bool} {sp : Option Addr} {sn sc : Nat} {cp : Option Addr} {cn cc : Nat} (h0 : 0 ≤ tp) (h1 : tp ≤ 9223372036854775807) (hcn : cn ≤ 9223372036854775806) (sls : List Slt) (obs : List Ob) (fns : List Fn)
 {bin d ak an bk bn xn off wd : Int} {sg : Bool} {args : List Ar} {xp : Option Addr} {xc : Nat} (hx : InOK w ⟨11, bin, d, ⟨ak, an⟩, ⟨bk, bn⟩, xn, off, wd, sg, args⟩ xp xc) :
 Calls Tryz.prog 58 #[.agg #[.slice op on oc, .slice fp fn fc, .int .i64 mn], .agg #[.string nm, .int .i64 pr, .int .i64 tp, .bool gv, .slice sp sn sc, .slice cp cn cc], .agg #[.int .i64 11, .int .i64 bin, .int .i64 d, .int .i64 ak, .int .u32 an, .int .i64 bk, .int .u32 bn, .int .i64 xn, .int .i64 off, .int .i64 wd, .bool sg, .slice xp args.length xc]] w fun e w' => e = .returned (.bool (rightB tp gv cn sls obs fns ⟨11, bin, d, ⟨ak, an⟩, ⟨bk, bn⟩, xn, off, wd, sg, args⟩)) ∧ Below w.heap.size w w' := by
 obtain ⟨W1, hW1, hNP, hNF, hNX, hHB⟩ := three_ex w (.cells #[.slice op on oc, .slice fp fn fc, .int .i64 mn] TPg) (.cells #[.string nm, .int .i64 pr, .int .i64 tp, .bool gv, .slice sp sn sc, .slice cp cn cc] TFn) (.cells #[.int .i64 11, .int .i64 bin, .int .i64 d, .int .i64 ak, .int .u32 an, .int .i64 bk, .int .u32 bn, .int .i64 xn, .int .i64 off, .int .i64 wd, .bool sg, .slice xp args.length xc] TIn)
 have NP : Hid (_ = _) := hNP
 have NF : Hid (_ = _) := hNF
 have NX : Hid (_ = _) := hNX
 have HB : Hid (Below w.heap.size w _) := hHB
 have HAV : Hid (∀ Y, Below w.heap.size w Y → ArgV Y (.slice xp args.length xc) args) := fun Y hY => hx.ar.below hY
 have hal : args.length ≤ 9223372036854775806 := hx.al
 have CC0 : Hid (∀ Y, Calls Tryz.prog 33 #[.int .i64 xn, .int .i64 0, .int .i64 ((cn : Int) - 1)] Y fun e w' => e = .returned (.bool (tempB cn xn)) ∧ Below Y.heap.size Y w') := fun Y => within_b (rwithin_c xn 0 ((cn : Int) - 1) Y)
 have CC1 : Hid (∀ Y, Calls Tryz.prog 86 #[.agg #[.string nm, .int .i64 pr, .int .i64 tp, .bool gv, .slice sp sn sc, .slice cp cn cc], .agg #[.int .i64 ak, .int .u32 an]] Y fun e w' => e = .returned (.bool (operB tp ⟨ak, an⟩)) ∧ Below Y.heap.size Y w') := fun Y => rArg_c ⟨nm, pr, tp, gv, sp, sn, sc, cp, cn, cc⟩ h0 h1 ⟨ak, an⟩ hx.a Y
 obtain ⟨R, hR⟩ : ∃ R, R = rightB tp gv cn sls obs fns ⟨11, bin, d, ⟨ak, an⟩, ⟨bk, bn⟩, xn, off, wd, sg, args⟩ := ⟨_, rfl⟩
 rw [← hR]
 obtain ⟨SB, hSB⟩ : ∃ b, b = (sameB ⟨11, bin, d, ⟨ak, an⟩, ⟨bk, bn⟩, xn, off, wd, sg, args⟩ ⟨11, 0, -1, ⟨ak, an⟩, ⟨0, 0⟩, xn, 0, 0, false, []⟩ && decide (args.length = 0)) := ⟨_, rfl⟩
 have HR : Hid (R = ((tempB cn xn && (operB tp ⟨ak, an⟩)) && SB)) := by
  show R = _
  rw [hR, hSB]
  unfold rightB
  rw [bare_same_11]
  rfl
 have CSH : Hid (∀ Y, Calls Tryz.prog 84 #[.agg #[.int .i64 11, .int .i64 bin, .int .i64 d, .int .i64 ak, .int .u32 an, .int .i64 bk, .int .u32 bn, .int .i64 xn, .int .i64 off, .int .i64 wd, .bool sg, .slice xp args.length xc]] Y fun e w' => e = .returned (.agg #[.int .i64 11, .int .i64 0, .int .i64 (-1), .int .i64 ak, .int .u32 an, .int .i64 0, .int .u32 0, .int .i64 xn, .int .i64 0, .int .i64 0, .bool false, .slice none 0 0]) ∧ Below Y.heap.size Y w') := fun Y => rShape_11 bin d ak an bk bn xn off wd sg xp args.length xc Y
 have CSM : Hid (∀ Y, Below w.heap.size w Y → Calls Tryz.prog 59 #[.agg #[.int .i64 11, .int .i64 bin, .int .i64 d, .int .i64 ak, .int .u32 an, .int .i64 bk, .int .u32 bn, .int .i64 xn, .int .i64 off, .int .i64 wd, .bool sg, .slice xp args.length xc], .agg #[.int .i64 11, .int .i64 0, .int .i64 (-1), .int .i64 ak, .int .u32 an, .int .i64 0, .int .u32 0, .int .i64 xn, .int .i64 0, .int .i64 0, .bool false, .slice none 0 0]] Y fun e w' => e = .returned (.bool SB) ∧ Below Y.heap.size Y w') := fun Y hY => by
  cases hs : SB with
  | false => exact rSameF_c (x := ⟨11, bin, d, ⟨ak, an⟩, ⟨bk, bn⟩, xn, off, wd, sg, args⟩) (y := ⟨11, 0, -1, ⟨ak, an⟩, ⟨0, 0⟩, xn, 0, 0, false, []⟩) (p1 := xp) (n1 := args.length) (c1 := xc) (p2 := none) (n2 := 0) (c2 := 0) (hSB.symm.trans hs)
  | true =>
   have hq := hSB.symm.trans hs
   have hq2 : args = [] ∧ ⟨11, bin, d, ⟨ak, an⟩, ⟨bk, bn⟩, xn, off, wd, sg, args⟩ = (⟨11, 0, -1, ⟨ak, an⟩, ⟨0, 0⟩, xn, 0, 0, false, []⟩ : In) := by
    simp [sameB, arEq] at hq
    refine ⟨hq.2, ?_⟩
    simp_all
   obtain ⟨ha, he⟩ := hq2
   have hA1 := (HAV.out Y hY)
   have := rSameT_c (w := Y) (x := ⟨11, bin, d, ⟨ak, an⟩, ⟨bk, bn⟩, xn, off, wd, sg, args⟩) (p1 := xp) (p2 := none) (c1 := xc) (c2 := 0) hA1 (by rw [ha]; exact argV_none' Y) hal
   subst ha
   simp only [In.mk.injEq, Ar.mk.injEq] at he
   simp only [inCells, List.length_nil] at this ⊢
   simp_all
 have nt := not_t
 have nf := not_f
 have hwr : IntKind.i64.wrap ((cn : Int) - 1) = (cn : Int) - 1 := wrap_idI (by omega) (by omega)
 clear hNP hNF hNX hHB hR hx HAV hal h0 h1
 have HSBE : Hid (SB = _) := hSB
 clear hSB
 generalize tempB cn xn = B0 at *
 generalize operB tp ⟨ak, an⟩ = B1 at *
 go_enter Tryz.func58, Tryz.ntmps58
 go_upto_region 1 with (fail)
 refine wp_at hW1 ?_
 clear hW1
 obtain ⟨g0, g1, g2, g3, g4, g5, g6, g7, g8, g9, g10, g11⟩ := sh12 NX.out
 have HSH : SH W1 W1 := Below.refl _ _
 have CS1 : Hid (∀ Y, SH W1 Y → Calls Tryz.prog 59 #[.agg #[.int .i64 11, .int .i64 bin, .int .i64 d, .int .i64 ak, .int .u32 an, .int .i64 bk, .int .u32 bn, .int .i64 xn, .int .i64 off, .int .i64 wd, .bool sg, .slice xp args.length xc], .agg #[.int .i64 11, .int .i64 0, .int .i64 (-1), .int .i64 ak, .int .u32 an, .int .i64 0, .int .u32 0, .int .i64 xn, .int .i64 0, .int .i64 0, .bool false, .slice none 0 0]] Y fun e w' => e = .returned (.bool SB) ∧ Below Y.heap.size Y w') := fun Y h => CSM.out Y (HB.out.trans (Below.mono h HB.out.size))
 go_region_held3 (fun Y => SH W1 Y) (with_reducible first | assumption | (refine SH.drew ?_; assumption) | (refine SH.below ?_ (by assumption); assumption)) (first
  | (go_at_call 84; refine (CSH.out _).mono ?_; rintro e y1 ⟨rfl, hy1⟩)
  | (go_at_call 59; refine (CS1.out _ (SH.below (SH.drew HSH) hy1)).mono ?_; rintro e y2 ⟨rfl, hy2⟩))
 have HY : Hid (Below W1.heap.size W1 y2) := SH.below (SH.below (SH.drew HSH) hy1) hy2
 clear hy1 hy2 HSH g0 g1 g2 g3 g4 g5 g6 g7 g8 g9 g10 g11 CS1 CSM CSH
 have HYw : Hid (Below w.heap.size w y2) := HB.out.trans (HY.out.mono HB.out.size)
 obtain ⟨Zy, hZy⟩ : ∃ Z : SAT W1, y2 = Z.val := ⟨⟨y2, HY.out⟩, rfl⟩
 subst hZy
 cases SB with
 | false =>
  go_wp2_with fail
  go_ret
  exact ⟨by rw [HR.out]; simp, HYw.out⟩
 | true =>
  obtain ⟨F0, F1, F2, F3, F4, F5, F6, F7, F8, F9, F10, F11⟩ := sat12 NX.out
  obtain ⟨G0, G1, G2, G3, G4, G5⟩ := sat6 NF.out
  have HZW : Hid (∀ Z : SAT W1, Below w.heap.size w Z.val) := fun Z => HB.out.trans (Below.mono Z.ok HB.out.size)
  have KC0 := sat_calls (W := W1) fun Y h => CC0.out Y
  have KC1 := sat_calls (W := W1) fun Y h => CC1.out Y
  have MK0 : Hid True := trivial
  have MK1 : Hid True := trivial
  cases B0 with
  | false =>
   go_wp2_with (first
    | (have hx := MK0; clear hx; go_at_call 33; refine (KC0 _).mono ?_; rintro e v0 ⟨rfl, Z0, rfl⟩; clear MK0)
    | fail)
   go_ret
   exact ⟨by rw [HR.out]; rfl, HZW.out Z0⟩
  | true =>
   cases B1 with
   | false =>
    go_wp2_with (first
     | (have hx := MK0; clear hx; go_at_call 33; refine (KC0 _).mono ?_; rintro e v0 ⟨rfl, Z0, rfl⟩; clear MK0)
     | (have hx := MK1; clear hx; go_at_call 86; refine (KC1 _).mono ?_; rintro e v1 ⟨rfl, Z1, rfl⟩; clear MK1)
     | fail)
    go_ret
    exact ⟨by rw [HR.out]; rfl, HZW.out Z1⟩
   | true =>
    go_wp2_with (first
     | (have hx := MK0; clear hx; go_at_call 33; refine (KC0 _).mono ?_; rintro e v0 ⟨rfl, Z0, rfl⟩; clear MK0)
     | (have hx := MK1; clear hx; go_at_call 86; refine (KC1 _).mono ?_; rintro e v1 ⟨rfl, Z1, rfl⟩; clear MK1)
     | fail)
    go_ret
    exact ⟨by rw [HR.out]; rfl, HZW.out Z1⟩
theorem rRight_12 {op : Option Addr} {on oc : Nat} {mn : Int} {fp : Option Addr} {fn fc : Nat} {nm : ByteArray} {pr tp : Int} {gv : Bool} {sp : Option Addr} {sn sc : Nat} {cp : Option Addr} {cn cc : Nat} (h0 : 0 ≤ tp) (h1 : tp ≤ 9223372036854775807) (hcn : cn ≤ 9223372036854775806) (sls : List Slt) (obs : List Ob) (fns : List Fn)
 {bin d ak an bk bn xn off wd : Int} {sg : Bool} {args : List Ar} {xp : Option Addr} {xc : Nat} (hx : InOK w ⟨12, bin, d, ⟨ak, an⟩, ⟨bk, bn⟩, xn, off, wd, sg, args⟩ xp xc) :
 Calls Tryz.prog 58 #[.agg #[.slice op on oc, .slice fp fn fc, .int .i64 mn], .agg #[.string nm, .int .i64 pr, .int .i64 tp, .bool gv, .slice sp sn sc, .slice cp cn cc], .agg #[.int .i64 12, .int .i64 bin, .int .i64 d, .int .i64 ak, .int .u32 an, .int .i64 bk, .int .u32 bn, .int .i64 xn, .int .i64 off, .int .i64 wd, .bool sg, .slice xp args.length xc]] w fun e w' => e = .returned (.bool (rightB tp gv cn sls obs fns ⟨12, bin, d, ⟨ak, an⟩, ⟨bk, bn⟩, xn, off, wd, sg, args⟩)) ∧ Below w.heap.size w w' := by
 obtain ⟨W1, hW1, hNP, hNF, hNX, hHB⟩ := three_ex w (.cells #[.slice op on oc, .slice fp fn fc, .int .i64 mn] TPg) (.cells #[.string nm, .int .i64 pr, .int .i64 tp, .bool gv, .slice sp sn sc, .slice cp cn cc] TFn) (.cells #[.int .i64 12, .int .i64 bin, .int .i64 d, .int .i64 ak, .int .u32 an, .int .i64 bk, .int .u32 bn, .int .i64 xn, .int .i64 off, .int .i64 wd, .bool sg, .slice xp args.length xc] TIn)
 have NP : Hid (_ = _) := hNP
 have NF : Hid (_ = _) := hNF
 have NX : Hid (_ = _) := hNX
 have HB : Hid (Below w.heap.size w _) := hHB
 have HAV : Hid (∀ Y, Below w.heap.size w Y → ArgV Y (.slice xp args.length xc) args) := fun Y hY => hx.ar.below hY
 have hal : args.length ≤ 9223372036854775806 := hx.al
 have CC0 : Hid (∀ Y, Calls Tryz.prog 86 #[.agg #[.string nm, .int .i64 pr, .int .i64 tp, .bool gv, .slice sp sn sc, .slice cp cn cc], .agg #[.int .i64 ak, .int .u32 an]] Y fun e w' => e = .returned (.bool (operB tp ⟨ak, an⟩)) ∧ Below Y.heap.size Y w') := fun Y => rArg_c ⟨nm, pr, tp, gv, sp, sn, sc, cp, cn, cc⟩ h0 h1 ⟨ak, an⟩ hx.a Y
 obtain ⟨R, hR⟩ : ∃ R, R = rightB tp gv cn sls obs fns ⟨12, bin, d, ⟨ak, an⟩, ⟨bk, bn⟩, xn, off, wd, sg, args⟩ := ⟨_, rfl⟩
 rw [← hR]
 obtain ⟨SB, hSB⟩ : ∃ b, b = (sameB ⟨12, bin, d, ⟨ak, an⟩, ⟨bk, bn⟩, xn, off, wd, sg, args⟩ ⟨12, 0, -1, ⟨ak, an⟩, ⟨0, 0⟩, 0, 0, 0, false, []⟩ && decide (args.length = 0)) := ⟨_, rfl⟩
 have HR : Hid (R = ((operB tp ⟨ak, an⟩) && SB)) := by
  show R = _
  rw [hR, hSB]
  unfold rightB
  rw [bare_same_12]
  rfl
 have CSH : Hid (∀ Y, Calls Tryz.prog 84 #[.agg #[.int .i64 12, .int .i64 bin, .int .i64 d, .int .i64 ak, .int .u32 an, .int .i64 bk, .int .u32 bn, .int .i64 xn, .int .i64 off, .int .i64 wd, .bool sg, .slice xp args.length xc]] Y fun e w' => e = .returned (.agg #[.int .i64 12, .int .i64 0, .int .i64 (-1), .int .i64 ak, .int .u32 an, .int .i64 0, .int .u32 0, .int .i64 0, .int .i64 0, .int .i64 0, .bool false, .slice none 0 0]) ∧ Below Y.heap.size Y w') := fun Y => rShape_12 bin d ak an bk bn xn off wd sg xp args.length xc Y
 have CSM : Hid (∀ Y, Below w.heap.size w Y → Calls Tryz.prog 59 #[.agg #[.int .i64 12, .int .i64 bin, .int .i64 d, .int .i64 ak, .int .u32 an, .int .i64 bk, .int .u32 bn, .int .i64 xn, .int .i64 off, .int .i64 wd, .bool sg, .slice xp args.length xc], .agg #[.int .i64 12, .int .i64 0, .int .i64 (-1), .int .i64 ak, .int .u32 an, .int .i64 0, .int .u32 0, .int .i64 0, .int .i64 0, .int .i64 0, .bool false, .slice none 0 0]] Y fun e w' => e = .returned (.bool SB) ∧ Below Y.heap.size Y w') := fun Y hY => by
  cases hs : SB with
  | false => exact rSameF_c (x := ⟨12, bin, d, ⟨ak, an⟩, ⟨bk, bn⟩, xn, off, wd, sg, args⟩) (y := ⟨12, 0, -1, ⟨ak, an⟩, ⟨0, 0⟩, 0, 0, 0, false, []⟩) (p1 := xp) (n1 := args.length) (c1 := xc) (p2 := none) (n2 := 0) (c2 := 0) (hSB.symm.trans hs)
  | true =>
   have hq := hSB.symm.trans hs
   have hq2 : args = [] ∧ ⟨12, bin, d, ⟨ak, an⟩, ⟨bk, bn⟩, xn, off, wd, sg, args⟩ = (⟨12, 0, -1, ⟨ak, an⟩, ⟨0, 0⟩, 0, 0, 0, false, []⟩ : In) := by
    simp [sameB, arEq] at hq
    refine ⟨hq.2, ?_⟩
    simp_all
   obtain ⟨ha, he⟩ := hq2
   have hA1 := (HAV.out Y hY)
   have := rSameT_c (w := Y) (x := ⟨12, bin, d, ⟨ak, an⟩, ⟨bk, bn⟩, xn, off, wd, sg, args⟩) (p1 := xp) (p2 := none) (c1 := xc) (c2 := 0) hA1 (by rw [ha]; exact argV_none' Y) hal
   subst ha
   simp only [In.mk.injEq, Ar.mk.injEq] at he
   simp only [inCells, List.length_nil] at this ⊢
   simp_all
 have nt := not_t
 have nf := not_f
 have hwr : IntKind.i64.wrap ((cn : Int) - 1) = (cn : Int) - 1 := wrap_idI (by omega) (by omega)
 clear hNP hNF hNX hHB hR hx HAV hal h0 h1
 have HSBE : Hid (SB = _) := hSB
 clear hSB
 generalize operB tp ⟨ak, an⟩ = B0 at *
 go_enter Tryz.func58, Tryz.ntmps58
 go_upto_region 1 with (fail)
 refine wp_at hW1 ?_
 clear hW1
 obtain ⟨g0, g1, g2, g3, g4, g5, g6, g7, g8, g9, g10, g11⟩ := sh12 NX.out
 have HSH : SH W1 W1 := Below.refl _ _
 have CS1 : Hid (∀ Y, SH W1 Y → Calls Tryz.prog 59 #[.agg #[.int .i64 12, .int .i64 bin, .int .i64 d, .int .i64 ak, .int .u32 an, .int .i64 bk, .int .u32 bn, .int .i64 xn, .int .i64 off, .int .i64 wd, .bool sg, .slice xp args.length xc], .agg #[.int .i64 12, .int .i64 0, .int .i64 (-1), .int .i64 ak, .int .u32 an, .int .i64 0, .int .u32 0, .int .i64 0, .int .i64 0, .int .i64 0, .bool false, .slice none 0 0]] Y fun e w' => e = .returned (.bool SB) ∧ Below Y.heap.size Y w') := fun Y h => CSM.out Y (HB.out.trans (Below.mono h HB.out.size))
 go_region_held3 (fun Y => SH W1 Y) (with_reducible first | assumption | (refine SH.drew ?_; assumption) | (refine SH.below ?_ (by assumption); assumption)) (first
  | (go_at_call 84; refine (CSH.out _).mono ?_; rintro e y1 ⟨rfl, hy1⟩)
  | (go_at_call 59; refine (CS1.out _ (SH.below (SH.drew HSH) hy1)).mono ?_; rintro e y2 ⟨rfl, hy2⟩))
 have HY : Hid (Below W1.heap.size W1 y2) := SH.below (SH.below (SH.drew HSH) hy1) hy2
 clear hy1 hy2 HSH g0 g1 g2 g3 g4 g5 g6 g7 g8 g9 g10 g11 CS1 CSM CSH
 have HYw : Hid (Below w.heap.size w y2) := HB.out.trans (HY.out.mono HB.out.size)
 obtain ⟨Zy, hZy⟩ : ∃ Z : SAT W1, y2 = Z.val := ⟨⟨y2, HY.out⟩, rfl⟩
 subst hZy
 cases SB with
 | false =>
  go_wp2_with fail
  go_ret
  exact ⟨by rw [HR.out]; simp, HYw.out⟩
 | true =>
  obtain ⟨F0, F1, F2, F3, F4, F5, F6, F7, F8, F9, F10, F11⟩ := sat12 NX.out
  obtain ⟨G0, G1, G2, G3, G4, G5⟩ := sat6 NF.out
  have HZW : Hid (∀ Z : SAT W1, Below w.heap.size w Z.val) := fun Z => HB.out.trans (Below.mono Z.ok HB.out.size)
  have KC0 := sat_calls (W := W1) fun Y h => CC0.out Y
  have MK0 : Hid True := trivial
  cases B0 with
  | false =>
   go_wp2_with (first
    | (have hx := MK0; clear hx; go_at_call 86; refine (KC0 _).mono ?_; rintro e v0 ⟨rfl, Z0, rfl⟩; clear MK0)
    | fail)
   go_ret
   exact ⟨by rw [HR.out]; rfl, HZW.out Z0⟩
  | true =>
   go_wp2_with (first
    | (have hx := MK0; clear hx; go_at_call 86; refine (KC0 _).mono ?_; rintro e v0 ⟨rfl, Z0, rfl⟩; clear MK0)
    | fail)
   go_ret
   exact ⟨by rw [HR.out]; rfl, HZW.out Z0⟩
theorem rRight_13 {op : Option Addr} {on oc : Nat} {mn : Int} {fp : Option Addr} {fn fc : Nat} {nm : ByteArray} {pr tp : Int} {gv : Bool} {sp : Option Addr} {sn sc : Nat} {cp : Option Addr} {cn cc : Nat} (h0 : 0 ≤ tp) (h1 : tp ≤ 9223372036854775807) (hcn : cn ≤ 9223372036854775806) (sls : List Slt) (obs : List Ob) (fns : List Fn)
 {bin d ak an bk bn xn off wd : Int} {sg : Bool} {args : List Ar} {xp : Option Addr} {xc : Nat} (hx : InOK w ⟨13, bin, d, ⟨ak, an⟩, ⟨bk, bn⟩, xn, off, wd, sg, args⟩ xp xc) :
 Calls Tryz.prog 58 #[.agg #[.slice op on oc, .slice fp fn fc, .int .i64 mn], .agg #[.string nm, .int .i64 pr, .int .i64 tp, .bool gv, .slice sp sn sc, .slice cp cn cc], .agg #[.int .i64 13, .int .i64 bin, .int .i64 d, .int .i64 ak, .int .u32 an, .int .i64 bk, .int .u32 bn, .int .i64 xn, .int .i64 off, .int .i64 wd, .bool sg, .slice xp args.length xc]] w fun e w' => e = .returned (.bool (rightB tp gv cn sls obs fns ⟨13, bin, d, ⟨ak, an⟩, ⟨bk, bn⟩, xn, off, wd, sg, args⟩)) ∧ Below w.heap.size w w' := by
 obtain ⟨W1, hW1, hNP, hNF, hNX, hHB⟩ := three_ex w (.cells #[.slice op on oc, .slice fp fn fc, .int .i64 mn] TPg) (.cells #[.string nm, .int .i64 pr, .int .i64 tp, .bool gv, .slice sp sn sc, .slice cp cn cc] TFn) (.cells #[.int .i64 13, .int .i64 bin, .int .i64 d, .int .i64 ak, .int .u32 an, .int .i64 bk, .int .u32 bn, .int .i64 xn, .int .i64 off, .int .i64 wd, .bool sg, .slice xp args.length xc] TIn)
 have NP : Hid (_ = _) := hNP
 have NF : Hid (_ = _) := hNF
 have NX : Hid (_ = _) := hNX
 have HB : Hid (Below w.heap.size w _) := hHB
 have HAV : Hid (∀ Y, Below w.heap.size w Y → ArgV Y (.slice xp args.length xc) args) := fun Y hY => hx.ar.below hY
 have hal : args.length ≤ 9223372036854775806 := hx.al
 have CC0 : Hid (∀ Y, Calls Tryz.prog 85 #[.agg #[.string nm, .int .i64 pr, .int .i64 tp, .bool gv, .slice sp sn sc, .slice cp cn cc], .int .i64 d] Y fun e w' => e = .returned (.bool (tempB tp d)) ∧ Below Y.heap.size Y w') := fun Y => rTemp_c ⟨nm, pr, tp, gv, sp, sn, sc, cp, cn, cc⟩ d Y
 obtain ⟨R, hR⟩ : ∃ R, R = rightB tp gv cn sls obs fns ⟨13, bin, d, ⟨ak, an⟩, ⟨bk, bn⟩, xn, off, wd, sg, args⟩ := ⟨_, rfl⟩
 rw [← hR]
 obtain ⟨SB, hSB⟩ : ∃ b, b = (sameB ⟨13, bin, d, ⟨ak, an⟩, ⟨bk, bn⟩, xn, off, wd, sg, args⟩ ⟨13, 0, d, ⟨0, 0⟩, ⟨0, 0⟩, 0, 0, 0, false, []⟩ && decide (args.length = 0)) := ⟨_, rfl⟩
 have HR : Hid (R = ((tempB tp d) && SB)) := by
  show R = _
  rw [hR, hSB]
  unfold rightB
  rw [bare_same_13]
  rfl
 have CSH : Hid (∀ Y, Calls Tryz.prog 84 #[.agg #[.int .i64 13, .int .i64 bin, .int .i64 d, .int .i64 ak, .int .u32 an, .int .i64 bk, .int .u32 bn, .int .i64 xn, .int .i64 off, .int .i64 wd, .bool sg, .slice xp args.length xc]] Y fun e w' => e = .returned (.agg #[.int .i64 13, .int .i64 0, .int .i64 d, .int .i64 0, .int .u32 0, .int .i64 0, .int .u32 0, .int .i64 0, .int .i64 0, .int .i64 0, .bool false, .slice none 0 0]) ∧ Below Y.heap.size Y w') := fun Y => rShape_13 bin d ak an bk bn xn off wd sg xp args.length xc Y
 have CSM : Hid (∀ Y, Below w.heap.size w Y → Calls Tryz.prog 59 #[.agg #[.int .i64 13, .int .i64 bin, .int .i64 d, .int .i64 ak, .int .u32 an, .int .i64 bk, .int .u32 bn, .int .i64 xn, .int .i64 off, .int .i64 wd, .bool sg, .slice xp args.length xc], .agg #[.int .i64 13, .int .i64 0, .int .i64 d, .int .i64 0, .int .u32 0, .int .i64 0, .int .u32 0, .int .i64 0, .int .i64 0, .int .i64 0, .bool false, .slice none 0 0]] Y fun e w' => e = .returned (.bool SB) ∧ Below Y.heap.size Y w') := fun Y hY => by
  cases hs : SB with
  | false => exact rSameF_c (x := ⟨13, bin, d, ⟨ak, an⟩, ⟨bk, bn⟩, xn, off, wd, sg, args⟩) (y := ⟨13, 0, d, ⟨0, 0⟩, ⟨0, 0⟩, 0, 0, 0, false, []⟩) (p1 := xp) (n1 := args.length) (c1 := xc) (p2 := none) (n2 := 0) (c2 := 0) (hSB.symm.trans hs)
  | true =>
   have hq := hSB.symm.trans hs
   have hq2 : args = [] ∧ ⟨13, bin, d, ⟨ak, an⟩, ⟨bk, bn⟩, xn, off, wd, sg, args⟩ = (⟨13, 0, d, ⟨0, 0⟩, ⟨0, 0⟩, 0, 0, 0, false, []⟩ : In) := by
    simp [sameB, arEq] at hq
    refine ⟨hq.2, ?_⟩
    simp_all
   obtain ⟨ha, he⟩ := hq2
   have hA1 := (HAV.out Y hY)
   have := rSameT_c (w := Y) (x := ⟨13, bin, d, ⟨ak, an⟩, ⟨bk, bn⟩, xn, off, wd, sg, args⟩) (p1 := xp) (p2 := none) (c1 := xc) (c2 := 0) hA1 (by rw [ha]; exact argV_none' Y) hal
   subst ha
   simp only [In.mk.injEq, Ar.mk.injEq] at he
   simp only [inCells, List.length_nil] at this ⊢
   simp_all
 have nt := not_t
 have nf := not_f
 have hwr : IntKind.i64.wrap ((cn : Int) - 1) = (cn : Int) - 1 := wrap_idI (by omega) (by omega)
 clear hNP hNF hNX hHB hR hx HAV hal h0 h1
 have HSBE : Hid (SB = _) := hSB
 clear hSB
 generalize tempB tp d = B0 at *
 go_enter Tryz.func58, Tryz.ntmps58
 go_upto_region 1 with (fail)
 refine wp_at hW1 ?_
 clear hW1
 obtain ⟨g0, g1, g2, g3, g4, g5, g6, g7, g8, g9, g10, g11⟩ := sh12 NX.out
 have HSH : SH W1 W1 := Below.refl _ _
 have CS1 : Hid (∀ Y, SH W1 Y → Calls Tryz.prog 59 #[.agg #[.int .i64 13, .int .i64 bin, .int .i64 d, .int .i64 ak, .int .u32 an, .int .i64 bk, .int .u32 bn, .int .i64 xn, .int .i64 off, .int .i64 wd, .bool sg, .slice xp args.length xc], .agg #[.int .i64 13, .int .i64 0, .int .i64 d, .int .i64 0, .int .u32 0, .int .i64 0, .int .u32 0, .int .i64 0, .int .i64 0, .int .i64 0, .bool false, .slice none 0 0]] Y fun e w' => e = .returned (.bool SB) ∧ Below Y.heap.size Y w') := fun Y h => CSM.out Y (HB.out.trans (Below.mono h HB.out.size))
 go_region_held3 (fun Y => SH W1 Y) (with_reducible first | assumption | (refine SH.drew ?_; assumption) | (refine SH.below ?_ (by assumption); assumption)) (first
  | (go_at_call 84; refine (CSH.out _).mono ?_; rintro e y1 ⟨rfl, hy1⟩)
  | (go_at_call 59; refine (CS1.out _ (SH.below (SH.drew HSH) hy1)).mono ?_; rintro e y2 ⟨rfl, hy2⟩))
 have HY : Hid (Below W1.heap.size W1 y2) := SH.below (SH.below (SH.drew HSH) hy1) hy2
 clear hy1 hy2 HSH g0 g1 g2 g3 g4 g5 g6 g7 g8 g9 g10 g11 CS1 CSM CSH
 have HYw : Hid (Below w.heap.size w y2) := HB.out.trans (HY.out.mono HB.out.size)
 obtain ⟨Zy, hZy⟩ : ∃ Z : SAT W1, y2 = Z.val := ⟨⟨y2, HY.out⟩, rfl⟩
 subst hZy
 cases SB with
 | false =>
  go_wp2_with fail
  go_ret
  exact ⟨by rw [HR.out]; simp, HYw.out⟩
 | true =>
  obtain ⟨F0, F1, F2, F3, F4, F5, F6, F7, F8, F9, F10, F11⟩ := sat12 NX.out
  obtain ⟨G0, G1, G2, G3, G4, G5⟩ := sat6 NF.out
  have HZW : Hid (∀ Z : SAT W1, Below w.heap.size w Z.val) := fun Z => HB.out.trans (Below.mono Z.ok HB.out.size)
  have KC0 := sat_calls (W := W1) fun Y h => CC0.out Y
  have MK0 : Hid True := trivial
  cases B0 with
  | false =>
   go_wp2_with (first
    | (have hx := MK0; clear hx; go_at_call 85; refine (KC0 _).mono ?_; rintro e v0 ⟨rfl, Z0, rfl⟩; clear MK0)
    | fail)
   go_ret
   exact ⟨by rw [HR.out]; rfl, HZW.out Z0⟩
  | true =>
   go_wp2_with (first
    | (have hx := MK0; clear hx; go_at_call 85; refine (KC0 _).mono ?_; rintro e v0 ⟨rfl, Z0, rfl⟩; clear MK0)
    | fail)
   go_ret
   exact ⟨by rw [HR.out]; rfl, HZW.out Z0⟩
theorem rRight_14 {op : Option Addr} {on oc : Nat} {mn : Int} {fp : Option Addr} {fn fc : Nat} {nm : ByteArray} {pr tp : Int} {gv : Bool} {sp : Option Addr} {sn sc : Nat} {cp : Option Addr} {cn cc : Nat} (h0 : 0 ≤ tp) (h1 : tp ≤ 9223372036854775807) (hcn : cn ≤ 9223372036854775806) (sls : List Slt) (obs : List Ob) (fns : List Fn)
 {bin d ak an bk bn xn off wd : Int} {sg : Bool} {args : List Ar} {xp : Option Addr} {xc : Nat} (hx : InOK w ⟨14, bin, d, ⟨ak, an⟩, ⟨bk, bn⟩, xn, off, wd, sg, args⟩ xp xc) :
 Calls Tryz.prog 58 #[.agg #[.slice op on oc, .slice fp fn fc, .int .i64 mn], .agg #[.string nm, .int .i64 pr, .int .i64 tp, .bool gv, .slice sp sn sc, .slice cp cn cc], .agg #[.int .i64 14, .int .i64 bin, .int .i64 d, .int .i64 ak, .int .u32 an, .int .i64 bk, .int .u32 bn, .int .i64 xn, .int .i64 off, .int .i64 wd, .bool sg, .slice xp args.length xc]] w fun e w' => e = .returned (.bool (rightB tp gv cn sls obs fns ⟨14, bin, d, ⟨ak, an⟩, ⟨bk, bn⟩, xn, off, wd, sg, args⟩)) ∧ Below w.heap.size w w' := by
 obtain ⟨W1, hW1, hNP, hNF, hNX, hHB⟩ := three_ex w (.cells #[.slice op on oc, .slice fp fn fc, .int .i64 mn] TPg) (.cells #[.string nm, .int .i64 pr, .int .i64 tp, .bool gv, .slice sp sn sc, .slice cp cn cc] TFn) (.cells #[.int .i64 14, .int .i64 bin, .int .i64 d, .int .i64 ak, .int .u32 an, .int .i64 bk, .int .u32 bn, .int .i64 xn, .int .i64 off, .int .i64 wd, .bool sg, .slice xp args.length xc] TIn)
 have NP : Hid (_ = _) := hNP
 have NF : Hid (_ = _) := hNF
 have NX : Hid (_ = _) := hNX
 have HB : Hid (Below w.heap.size w _) := hHB
 have HAV : Hid (∀ Y, Below w.heap.size w Y → ArgV Y (.slice xp args.length xc) args) := fun Y hY => hx.ar.below hY
 have hal : args.length ≤ 9223372036854775806 := hx.al
 have CC0 : Hid (∀ Y, Calls Tryz.prog 86 #[.agg #[.string nm, .int .i64 pr, .int .i64 tp, .bool gv, .slice sp sn sc, .slice cp cn cc], .agg #[.int .i64 ak, .int .u32 an]] Y fun e w' => e = .returned (.bool (operB tp ⟨ak, an⟩)) ∧ Below Y.heap.size Y w') := fun Y => rArg_c ⟨nm, pr, tp, gv, sp, sn, sc, cp, cn, cc⟩ h0 h1 ⟨ak, an⟩ hx.a Y
 obtain ⟨R, hR⟩ : ∃ R, R = rightB tp gv cn sls obs fns ⟨14, bin, d, ⟨ak, an⟩, ⟨bk, bn⟩, xn, off, wd, sg, args⟩ := ⟨_, rfl⟩
 rw [← hR]
 obtain ⟨SB, hSB⟩ : ∃ b, b = (sameB ⟨14, bin, d, ⟨ak, an⟩, ⟨bk, bn⟩, xn, off, wd, sg, args⟩ ⟨14, 0, -1, ⟨ak, an⟩, ⟨0, 0⟩, 0, 0, 0, false, []⟩ && decide (args.length = 0)) := ⟨_, rfl⟩
 have HR : Hid (R = ((operB tp ⟨ak, an⟩) && SB)) := by
  show R = _
  rw [hR, hSB]
  unfold rightB
  rw [bare_same_14]
  rfl
 have CSH : Hid (∀ Y, Calls Tryz.prog 84 #[.agg #[.int .i64 14, .int .i64 bin, .int .i64 d, .int .i64 ak, .int .u32 an, .int .i64 bk, .int .u32 bn, .int .i64 xn, .int .i64 off, .int .i64 wd, .bool sg, .slice xp args.length xc]] Y fun e w' => e = .returned (.agg #[.int .i64 14, .int .i64 0, .int .i64 (-1), .int .i64 ak, .int .u32 an, .int .i64 0, .int .u32 0, .int .i64 0, .int .i64 0, .int .i64 0, .bool false, .slice none 0 0]) ∧ Below Y.heap.size Y w') := fun Y => rShape_14 bin d ak an bk bn xn off wd sg xp args.length xc Y
 have CSM : Hid (∀ Y, Below w.heap.size w Y → Calls Tryz.prog 59 #[.agg #[.int .i64 14, .int .i64 bin, .int .i64 d, .int .i64 ak, .int .u32 an, .int .i64 bk, .int .u32 bn, .int .i64 xn, .int .i64 off, .int .i64 wd, .bool sg, .slice xp args.length xc], .agg #[.int .i64 14, .int .i64 0, .int .i64 (-1), .int .i64 ak, .int .u32 an, .int .i64 0, .int .u32 0, .int .i64 0, .int .i64 0, .int .i64 0, .bool false, .slice none 0 0]] Y fun e w' => e = .returned (.bool SB) ∧ Below Y.heap.size Y w') := fun Y hY => by
  cases hs : SB with
  | false => exact rSameF_c (x := ⟨14, bin, d, ⟨ak, an⟩, ⟨bk, bn⟩, xn, off, wd, sg, args⟩) (y := ⟨14, 0, -1, ⟨ak, an⟩, ⟨0, 0⟩, 0, 0, 0, false, []⟩) (p1 := xp) (n1 := args.length) (c1 := xc) (p2 := none) (n2 := 0) (c2 := 0) (hSB.symm.trans hs)
  | true =>
   have hq := hSB.symm.trans hs
   have hq2 : args = [] ∧ ⟨14, bin, d, ⟨ak, an⟩, ⟨bk, bn⟩, xn, off, wd, sg, args⟩ = (⟨14, 0, -1, ⟨ak, an⟩, ⟨0, 0⟩, 0, 0, 0, false, []⟩ : In) := by
    simp [sameB, arEq] at hq
    refine ⟨hq.2, ?_⟩
    simp_all
   obtain ⟨ha, he⟩ := hq2
   have hA1 := (HAV.out Y hY)
   have := rSameT_c (w := Y) (x := ⟨14, bin, d, ⟨ak, an⟩, ⟨bk, bn⟩, xn, off, wd, sg, args⟩) (p1 := xp) (p2 := none) (c1 := xc) (c2 := 0) hA1 (by rw [ha]; exact argV_none' Y) hal
   subst ha
   simp only [In.mk.injEq, Ar.mk.injEq] at he
   simp only [inCells, List.length_nil] at this ⊢
   simp_all
 have nt := not_t
 have nf := not_f
 have hwr : IntKind.i64.wrap ((cn : Int) - 1) = (cn : Int) - 1 := wrap_idI (by omega) (by omega)
 clear hNP hNF hNX hHB hR hx HAV hal h0 h1
 have HSBE : Hid (SB = _) := hSB
 clear hSB
 generalize operB tp ⟨ak, an⟩ = B0 at *
 go_enter Tryz.func58, Tryz.ntmps58
 go_upto_region 1 with (fail)
 refine wp_at hW1 ?_
 clear hW1
 obtain ⟨g0, g1, g2, g3, g4, g5, g6, g7, g8, g9, g10, g11⟩ := sh12 NX.out
 have HSH : SH W1 W1 := Below.refl _ _
 have CS1 : Hid (∀ Y, SH W1 Y → Calls Tryz.prog 59 #[.agg #[.int .i64 14, .int .i64 bin, .int .i64 d, .int .i64 ak, .int .u32 an, .int .i64 bk, .int .u32 bn, .int .i64 xn, .int .i64 off, .int .i64 wd, .bool sg, .slice xp args.length xc], .agg #[.int .i64 14, .int .i64 0, .int .i64 (-1), .int .i64 ak, .int .u32 an, .int .i64 0, .int .u32 0, .int .i64 0, .int .i64 0, .int .i64 0, .bool false, .slice none 0 0]] Y fun e w' => e = .returned (.bool SB) ∧ Below Y.heap.size Y w') := fun Y h => CSM.out Y (HB.out.trans (Below.mono h HB.out.size))
 go_region_held3 (fun Y => SH W1 Y) (with_reducible first | assumption | (refine SH.drew ?_; assumption) | (refine SH.below ?_ (by assumption); assumption)) (first
  | (go_at_call 84; refine (CSH.out _).mono ?_; rintro e y1 ⟨rfl, hy1⟩)
  | (go_at_call 59; refine (CS1.out _ (SH.below (SH.drew HSH) hy1)).mono ?_; rintro e y2 ⟨rfl, hy2⟩))
 have HY : Hid (Below W1.heap.size W1 y2) := SH.below (SH.below (SH.drew HSH) hy1) hy2
 clear hy1 hy2 HSH g0 g1 g2 g3 g4 g5 g6 g7 g8 g9 g10 g11 CS1 CSM CSH
 have HYw : Hid (Below w.heap.size w y2) := HB.out.trans (HY.out.mono HB.out.size)
 obtain ⟨Zy, hZy⟩ : ∃ Z : SAT W1, y2 = Z.val := ⟨⟨y2, HY.out⟩, rfl⟩
 subst hZy
 cases SB with
 | false =>
  go_wp2_with fail
  go_ret
  exact ⟨by rw [HR.out]; simp, HYw.out⟩
 | true =>
  obtain ⟨F0, F1, F2, F3, F4, F5, F6, F7, F8, F9, F10, F11⟩ := sat12 NX.out
  obtain ⟨G0, G1, G2, G3, G4, G5⟩ := sat6 NF.out
  have HZW : Hid (∀ Z : SAT W1, Below w.heap.size w Z.val) := fun Z => HB.out.trans (Below.mono Z.ok HB.out.size)
  have KC0 := sat_calls (W := W1) fun Y h => CC0.out Y
  have MK0 : Hid True := trivial
  cases B0 with
  | false =>
   go_wp2_with (first
    | (have hx := MK0; clear hx; go_at_call 86; refine (KC0 _).mono ?_; rintro e v0 ⟨rfl, Z0, rfl⟩; clear MK0)
    | fail)
   go_ret
   exact ⟨by rw [HR.out]; rfl, HZW.out Z0⟩
  | true =>
   go_wp2_with (first
    | (have hx := MK0; clear hx; go_at_call 86; refine (KC0 _).mono ?_; rintro e v0 ⟨rfl, Z0, rfl⟩; clear MK0)
    | fail)
   go_ret
   exact ⟨by rw [HR.out]; rfl, HZW.out Z0⟩
end
end Go.Proofs.YtelaaaamnphbpaaGreatDoor