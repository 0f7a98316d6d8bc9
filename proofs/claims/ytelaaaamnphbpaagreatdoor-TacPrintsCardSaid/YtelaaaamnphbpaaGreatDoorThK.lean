/- The given answer's Right, at the instructions that ask of temporaries, operands, places and widths a. -/
import Derived.Test.YtelaaaamnphbpaaGreatDoorThE
import Derived.Test.YtelaaaamnphbpaaGreatDoorNI
import Derived.Deep.RegionHeld3
namespace Go.Proofs.YtelaaaamnphbpaaGreatDoor
set_option maxHeartbeats 16000000
open Go.RowKit Go.Maps
set_option linter.unusedVariables false
set_option linter.unusedSimpArgs false
set_option maxRecDepth 100000
section
variable {w : World}
theorem rRight_2 {op : Option Addr} {on oc : Nat} {mn : Int} {fp : Option Addr} {fn fc : Nat} {nm : ByteArray} {pr tp : Int} {gv : Bool} {sp : Option Addr} {sn sc : Nat} {cp : Option Addr} {cn cc : Nat} (h0 : 0 ≤ tp) (h1 : tp ≤ 9223372036854775807) (hcn : cn ≤ 9223372036854775806) (sls : List Slt) (obs : List Ob) (fns : List Fn)
 {bin d ak an bk bn xn off wd : Int} {sg : Bool} {args : List Ar} {xp : Option Addr} {xc : Nat} (hx : InOK w ⟨2, bin, d, ⟨ak, an⟩, ⟨bk, bn⟩, xn, off, wd, sg, args⟩ xp xc) :
 Calls Tryz.prog 58 #[.agg #[.slice op on oc, .slice fp fn fc, .int .i64 mn], .agg #[.string nm, .int .i64 pr, .int .i64 tp, .bool gv, .slice sp sn sc, .slice cp cn cc], .agg #[.int .i64 2, .int .i64 bin, .int .i64 d, .int .i64 ak, .int .u32 an, .int .i64 bk, .int .u32 bn, .int .i64 xn, .int .i64 off, .int .i64 wd, .bool sg, .slice xp args.length xc]] w fun e w' => e = .returned (.bool (rightB tp gv cn sls obs fns ⟨2, bin, d, ⟨ak, an⟩, ⟨bk, bn⟩, xn, off, wd, sg, args⟩)) ∧ Below w.heap.size w w' := by
 obtain ⟨W1, hW1, hNP, hNF, hNX, hHB⟩ := three_ex w (.cells #[.slice op on oc, .slice fp fn fc, .int .i64 mn] TPg) (.cells #[.string nm, .int .i64 pr, .int .i64 tp, .bool gv, .slice sp sn sc, .slice cp cn cc] TFn) (.cells #[.int .i64 2, .int .i64 bin, .int .i64 d, .int .i64 ak, .int .u32 an, .int .i64 bk, .int .u32 bn, .int .i64 xn, .int .i64 off, .int .i64 wd, .bool sg, .slice xp args.length xc] TIn)
 have NP : Hid (_ = _) := hNP
 have NF : Hid (_ = _) := hNF
 have NX : Hid (_ = _) := hNX
 have HB : Hid (Below w.heap.size w _) := hHB
 have HAV : Hid (∀ Y, Below w.heap.size w Y → ArgV Y (.slice xp args.length xc) args) := fun Y hY => hx.ar.below hY
 have hal : args.length ≤ 9223372036854775806 := hx.al
 have CC0 : Hid (∀ Y, Calls Tryz.prog 85 #[.agg #[.string nm, .int .i64 pr, .int .i64 tp, .bool gv, .slice sp sn sc, .slice cp cn cc], .int .i64 d] Y fun e w' => e = .returned (.bool (tempB tp d)) ∧ Below Y.heap.size Y w') := fun Y => rTemp_c ⟨nm, pr, tp, gv, sp, sn, sc, cp, cn, cc⟩ d Y
 have CC1 : Hid (∀ Y, Calls Tryz.prog 87 #[.int .i64 bin] Y fun e w' => e = .returned (.string (opName bin)) ∧ Below Y.heap.size Y w') := fun Y => rname_c bin Y
 have hop := opName_ne bin
 have CC2 : Hid (∀ Y, Calls Tryz.prog 86 #[.agg #[.string nm, .int .i64 pr, .int .i64 tp, .bool gv, .slice sp sn sc, .slice cp cn cc], .agg #[.int .i64 ak, .int .u32 an]] Y fun e w' => e = .returned (.bool (operB tp ⟨ak, an⟩)) ∧ Below Y.heap.size Y w') := fun Y => rArg_c ⟨nm, pr, tp, gv, sp, sn, sc, cp, cn, cc⟩ h0 h1 ⟨ak, an⟩ hx.a Y
 have CC3 : Hid (∀ Y, Calls Tryz.prog 86 #[.agg #[.string nm, .int .i64 pr, .int .i64 tp, .bool gv, .slice sp sn sc, .slice cp cn cc], .agg #[.int .i64 bk, .int .u32 bn]] Y fun e w' => e = .returned (.bool (operB tp ⟨bk, bn⟩)) ∧ Below Y.heap.size Y w') := fun Y => rArg_c ⟨nm, pr, tp, gv, sp, sn, sc, cp, cn, cc⟩ h0 h1 ⟨bk, bn⟩ hx.b Y
 obtain ⟨R, hR⟩ : ∃ R, R = rightB tp gv cn sls obs fns ⟨2, bin, d, ⟨ak, an⟩, ⟨bk, bn⟩, xn, off, wd, sg, args⟩ := ⟨_, rfl⟩
 rw [← hR]
 obtain ⟨SB, hSB⟩ : ∃ b, b = (sameB ⟨2, bin, d, ⟨ak, an⟩, ⟨bk, bn⟩, xn, off, wd, sg, args⟩ ⟨2, bin, d, ⟨ak, an⟩, ⟨bk, bn⟩, 0, 0, 0, false, []⟩ && decide (args.length = 0)) := ⟨_, rfl⟩
 have HR : Hid (R = ((tempB tp d && (isOp bin && (operB tp ⟨ak, an⟩ && (operB tp ⟨bk, bn⟩)))) && SB)) := by
  show R = _
  rw [hR, hSB]
  unfold rightB
  rw [bare_same_2]
  rfl
 have CSH : Hid (∀ Y, Calls Tryz.prog 84 #[.agg #[.int .i64 2, .int .i64 bin, .int .i64 d, .int .i64 ak, .int .u32 an, .int .i64 bk, .int .u32 bn, .int .i64 xn, .int .i64 off, .int .i64 wd, .bool sg, .slice xp args.length xc]] Y fun e w' => e = .returned (.agg #[.int .i64 2, .int .i64 bin, .int .i64 d, .int .i64 ak, .int .u32 an, .int .i64 bk, .int .u32 bn, .int .i64 0, .int .i64 0, .int .i64 0, .bool false, .slice none 0 0]) ∧ Below Y.heap.size Y w') := fun Y => rShape_2 bin d ak an bk bn xn off wd sg xp args.length xc Y
 have CSM : Hid (∀ Y, Below w.heap.size w Y → Calls Tryz.prog 59 #[.agg #[.int .i64 2, .int .i64 bin, .int .i64 d, .int .i64 ak, .int .u32 an, .int .i64 bk, .int .u32 bn, .int .i64 xn, .int .i64 off, .int .i64 wd, .bool sg, .slice xp args.length xc], .agg #[.int .i64 2, .int .i64 bin, .int .i64 d, .int .i64 ak, .int .u32 an, .int .i64 bk, .int .u32 bn, .int .i64 0, .int .i64 0, .int .i64 0, .bool false, .slice none 0 0]] Y fun e w' => e = .returned (.bool SB) ∧ Below Y.heap.size Y w') := fun Y hY => by
  cases hs : SB with
  | false => exact rSameF_c (x := ⟨2, bin, d, ⟨ak, an⟩, ⟨bk, bn⟩, xn, off, wd, sg, args⟩) (y := ⟨2, bin, d, ⟨ak, an⟩, ⟨bk, bn⟩, 0, 0, 0, false, []⟩) (p1 := xp) (n1 := args.length) (c1 := xc) (p2 := none) (n2 := 0) (c2 := 0) (hSB.symm.trans hs)
  | true =>
   have hq := hSB.symm.trans hs
   have hq2 : args = [] ∧ ⟨2, bin, d, ⟨ak, an⟩, ⟨bk, bn⟩, xn, off, wd, sg, args⟩ = (⟨2, bin, d, ⟨ak, an⟩, ⟨bk, bn⟩, 0, 0, 0, false, []⟩ : In) := by
    simp [sameB, arEq] at hq
    refine ⟨hq.2, ?_⟩
    simp_all
   obtain ⟨ha, he⟩ := hq2
   have hA1 := (HAV.out Y hY)
   have := rSameT_c (w := Y) (x := ⟨2, bin, d, ⟨ak, an⟩, ⟨bk, bn⟩, xn, off, wd, sg, args⟩) (p1 := xp) (p2 := none) (c1 := xc) (c2 := 0) hA1 (by rw [ha]; exact argV_none' Y) hal
   subst ha
   simp only [In.mk.injEq, Ar.mk.injEq] at he
   simp only [inCells, List.length_nil] at this ⊢
   simp_all
 have nt := not_t
 have nf := not_f
 have hwr : IntKind.i64.wrap ((cn : Int) - 1) = (cn : Int) - 1 := wrap_idI (by omega) (by omega)
 clear hNP hNF hNX hHB hR hx HAV hal h0 h1
 have HSBE : Hid (SB = _) := hSB
 clear hSB
 generalize opName bin = onm at *
 generalize tempB tp d = B0 at *
 generalize isOp bin = B1 at *
 generalize operB tp ⟨ak, an⟩ = B2 at *
 generalize operB tp ⟨bk, bn⟩ = B3 at *
 go_enter Tryz.func58, Tryz.ntmps58
 go_upto_region 1 with (fail)
 refine wp_at hW1 ?_
 clear hW1
 obtain ⟨g0, g1, g2, g3, g4, g5, g6, g7, g8, g9, g10, g11⟩ := sh12 NX.out
 have HSH : SH W1 W1 := Below.refl _ _
 have CS1 : Hid (∀ Y, SH W1 Y → Calls Tryz.prog 59 #[.agg #[.int .i64 2, .int .i64 bin, .int .i64 d, .int .i64 ak, .int .u32 an, .int .i64 bk, .int .u32 bn, .int .i64 xn, .int .i64 off, .int .i64 wd, .bool sg, .slice xp args.length xc], .agg #[.int .i64 2, .int .i64 bin, .int .i64 d, .int .i64 ak, .int .u32 an, .int .i64 bk, .int .u32 bn, .int .i64 0, .int .i64 0, .int .i64 0, .bool false, .slice none 0 0]] Y fun e w' => e = .returned (.bool SB) ∧ Below Y.heap.size Y w') := fun Y h => CSM.out Y (HB.out.trans (Below.mono h HB.out.size))
 go_region_held3 (fun Y => SH W1 Y) (with_reducible first | assumption | (refine SH.drew ?_; assumption) | (refine SH.below ?_ (by assumption); assumption)) (first
  | (go_at_call 84; refine (CSH.out _).mono ?_; rintro e y1 ⟨rfl, hy1⟩)
  | (go_at_call 59; refine (CS1.out _ (SH.below (SH.drew HSH) hy1)).mono ?_; rintro e y2 ⟨rfl, hy2⟩))
 have HY : Hid (Below W1.heap.size W1 y2) := SH.below (SH.below (SH.drew HSH) hy1) hy2
 clear hy1 hy2 HSH g0 g1 g2 g3 g4 g5 g6 g7 g8 g9 g10 g11 CS1 CSM CSH
 have HYw : Hid (Below w.heap.size w y2) := HB.out.trans (HY.out.mono HB.out.size)
 obtain ⟨Zy, hZy⟩ : ∃ Z : SAT W1, y2 = Z.val := ⟨⟨y2, HY.out⟩, rfl⟩
 subst hZy
 cases SB with
 | false =>
  go_wp2_with fail
  go_ret
  exact ⟨by rw [HR.out]; simp, HYw.out⟩
 | true =>
  obtain ⟨F0, F1, F2, F3, F4, F5, F6, F7, F8, F9, F10, F11⟩ := sat12 NX.out
  obtain ⟨G0, G1, G2, G3, G4, G5⟩ := sat6 NF.out
  have HZW : Hid (∀ Z : SAT W1, Below w.heap.size w Z.val) := fun Z => HB.out.trans (Below.mono Z.ok HB.out.size)
  have KC0 := sat_calls (W := W1) fun Y h => CC0.out Y
  have KC1 := sat_calls (W := W1) fun Y h => CC1.out Y
  have KC2 := sat_calls (W := W1) fun Y h => CC2.out Y
  have KC3 := sat_calls (W := W1) fun Y h => CC3.out Y
  have MK0 : Hid True := trivial
  have MK1 : Hid True := trivial
  have MK2 : Hid True := trivial
  have MK3 : Hid True := trivial
  cases B0 with
  | false =>
   go_wp2_with (first
    | (have hx := MK0; clear hx; go_at_call 85; refine (KC0 _).mono ?_; rintro e v0 ⟨rfl, Z0, rfl⟩; clear MK0)
    | fail)
   go_ret
   exact ⟨by rw [HR.out]; rfl, HZW.out Z0⟩
  | true =>
   cases B1 with
   | false =>
    go_wp2_with (first
     | (have hx := MK0; clear hx; go_at_call 85; refine (KC0 _).mono ?_; rintro e v0 ⟨rfl, Z0, rfl⟩; clear MK0)
     | (have hx := MK1; clear hx; go_at_call 87; refine (KC1 _).mono ?_; rintro e v1 ⟨rfl, Z1, rfl⟩; clear MK1)
     | fail)
    go_ret
    exact ⟨by rw [HR.out]; rfl, HZW.out Z1⟩
   | true =>
    cases B2 with
    | false =>
     go_wp2_with (first
      | (have hx := MK0; clear hx; go_at_call 85; refine (KC0 _).mono ?_; rintro e v0 ⟨rfl, Z0, rfl⟩; clear MK0)
      | (have hx := MK1; clear hx; go_at_call 87; refine (KC1 _).mono ?_; rintro e v1 ⟨rfl, Z1, rfl⟩; clear MK1)
      | (have hx := MK2; clear hx; go_at_call 86; refine (KC2 _).mono ?_; rintro e v2 ⟨rfl, Z2, rfl⟩; clear MK2)
      | fail)
     go_ret
     exact ⟨by rw [HR.out]; rfl, HZW.out Z2⟩
    | true =>
     cases B3 with
     | false =>
      go_wp2_with (first
       | (have hx := MK0; clear hx; go_at_call 85; refine (KC0 _).mono ?_; rintro e v0 ⟨rfl, Z0, rfl⟩; clear MK0)
       | (have hx := MK1; clear hx; go_at_call 87; refine (KC1 _).mono ?_; rintro e v1 ⟨rfl, Z1, rfl⟩; clear MK1)
       | (have hx := MK2; clear hx; go_at_call 86; refine (KC2 _).mono ?_; rintro e v2 ⟨rfl, Z2, rfl⟩; clear MK2)
       | (have hx := MK3; clear hx; go_at_call 86; refine (KC3 _).mono ?_; rintro e v3 ⟨rfl, Z3, rfl⟩; clear MK3)
       | fail)
      go_ret
      exact ⟨by rw [HR.out]; rfl, HZW.out Z3⟩
     | true =>
      go_wp2_with (first
       | (have hx := MK0; clear hx; go_at_call 85; refine (KC0 _).mono ?_; rintro e v0 ⟨rfl, Z0, rfl⟩; clear MK0)
       | (have hx := MK1; clear hx; go_at_call 87; refine (KC1 _).mono ?_; rintro e v1 ⟨rfl, Z1, rfl⟩; clear MK1)
       | (have hx := MK2; clear hx; go_at_call 86; refine (KC2 _).mono ?_; rintro e v2 ⟨rfl, Z2, rfl⟩; clear MK2)
       | (have hx := MK3; clear hx; go_at_call 86; refine (KC3 _).mono ?_; rintro e v3 ⟨rfl, Z3, rfl⟩; clear MK3)
       | fail)
      go_ret
      exact ⟨by rw [HR.out]; rfl, HZW.out Z3⟩
theorem rRight_3n {op : Option Addr} {on oc : Nat} {mn : Int} {fp : Option Addr} {fn fc : Nat} {nm : ByteArray} {pr tp : Int} {gv : Bool} {sp : Option Addr} {sc : Nat} {cp : Option Addr} {cn cc : Nat} (h0 : 0 ≤ tp) (h1 : tp ≤ 9223372036854775807) (hcn : cn ≤ 9223372036854775806) (sls : List Slt) (obs : List Ob) (fns : List Fn) {xn : Int} (hin : withinP xn 0 ((sls.length : Int) - 1) = false) (hll : sls.length ≤ 9223372036854775806)
 {bin d ak an bk bn off wd : Int} {sg : Bool} {args : List Ar} {xp : Option Addr} {xc : Nat} (hx : InOK w ⟨3, bin, d, ⟨ak, an⟩, ⟨bk, bn⟩, xn, off, wd, sg, args⟩ xp xc) :
 Calls Tryz.prog 58 #[.agg #[.slice op on oc, .slice fp fn fc, .int .i64 mn], .agg #[.string nm, .int .i64 pr, .int .i64 tp, .bool gv, .slice sp sls.length sc, .slice cp cn cc], .agg #[.int .i64 3, .int .i64 bin, .int .i64 d, .int .i64 ak, .int .u32 an, .int .i64 bk, .int .u32 bn, .int .i64 xn, .int .i64 off, .int .i64 wd, .bool sg, .slice xp args.length xc]] w fun e w' => e = .returned (.bool (rightB tp gv cn sls obs fns ⟨3, bin, d, ⟨ak, an⟩, ⟨bk, bn⟩, xn, off, wd, sg, args⟩)) ∧ Below w.heap.size w w' := by
 obtain ⟨W1, hW1, hNP, hNF, hNX, hHB⟩ := three_ex w (.cells #[.slice op on oc, .slice fp fn fc, .int .i64 mn] TPg) (.cells #[.string nm, .int .i64 pr, .int .i64 tp, .bool gv, .slice sp sls.length sc, .slice cp cn cc] TFn) (.cells #[.int .i64 3, .int .i64 bin, .int .i64 d, .int .i64 ak, .int .u32 an, .int .i64 bk, .int .u32 bn, .int .i64 xn, .int .i64 off, .int .i64 wd, .bool sg, .slice xp args.length xc] TIn)
 have NP : Hid (_ = _) := hNP
 have NF : Hid (_ = _) := hNF
 have NX : Hid (_ = _) := hNX
 have HB : Hid (Below w.heap.size w _) := hHB
 have HAV : Hid (∀ Y, Below w.heap.size w Y → ArgV Y (.slice xp args.length xc) args) := fun Y hY => hx.ar.below hY
 have hal : args.length ≤ 9223372036854775806 := hx.al
 have CC0 : Hid (∀ Y, Calls Tryz.prog 85 #[.agg #[.string nm, .int .i64 pr, .int .i64 tp, .bool gv, .slice sp sls.length sc, .slice cp cn cc], .int .i64 d] Y fun e w' => e = .returned (.bool (tempB tp d)) ∧ Below Y.heap.size Y w') := fun Y => rTemp_c ⟨nm, pr, tp, gv, sp, sls.length, sc, cp, cn, cc⟩ d Y
 obtain ⟨R, hR⟩ : ∃ R, R = rightB tp gv cn sls obs fns ⟨3, bin, d, ⟨ak, an⟩, ⟨bk, bn⟩, xn, off, wd, sg, args⟩ := ⟨_, rfl⟩
 rw [← hR]
 obtain ⟨SB, hSB⟩ : ∃ b, b = (sameB ⟨3, bin, d, ⟨ak, an⟩, ⟨bk, bn⟩, xn, off, wd, sg, args⟩ ⟨3, 0, d, ⟨0, 0⟩, ⟨0, 0⟩, xn, off, 0, false, []⟩ && decide (args.length = 0)) := ⟨_, rfl⟩
 have HR : Hid (R = ((tempB tp d && (withinP xn 0 ((sls.length : Int) - 1) && withinP off 0 (szS sls xn))) && SB)) := by
  show R = _
  rw [hR, hSB]
  unfold rightB
  rw [bare_same_3]
  rfl
 have CSH : Hid (∀ Y, Calls Tryz.prog 84 #[.agg #[.int .i64 3, .int .i64 bin, .int .i64 d, .int .i64 ak, .int .u32 an, .int .i64 bk, .int .u32 bn, .int .i64 xn, .int .i64 off, .int .i64 wd, .bool sg, .slice xp args.length xc]] Y fun e w' => e = .returned (.agg #[.int .i64 3, .int .i64 0, .int .i64 d, .int .i64 0, .int .u32 0, .int .i64 0, .int .u32 0, .int .i64 xn, .int .i64 off, .int .i64 0, .bool false, .slice none 0 0]) ∧ Below Y.heap.size Y w') := fun Y => rShape_3 bin d ak an bk bn xn off wd sg xp args.length xc Y
 have CSM : Hid (∀ Y, Below w.heap.size w Y → Calls Tryz.prog 59 #[.agg #[.int .i64 3, .int .i64 bin, .int .i64 d, .int .i64 ak, .int .u32 an, .int .i64 bk, .int .u32 bn, .int .i64 xn, .int .i64 off, .int .i64 wd, .bool sg, .slice xp args.length xc], .agg #[.int .i64 3, .int .i64 0, .int .i64 d, .int .i64 0, .int .u32 0, .int .i64 0, .int .u32 0, .int .i64 xn, .int .i64 off, .int .i64 0, .bool false, .slice none 0 0]] Y fun e w' => e = .returned (.bool SB) ∧ Below Y.heap.size Y w') := fun Y hY => by
  cases hs : SB with
  | false => exact rSameF_c (x := ⟨3, bin, d, ⟨ak, an⟩, ⟨bk, bn⟩, xn, off, wd, sg, args⟩) (y := ⟨3, 0, d, ⟨0, 0⟩, ⟨0, 0⟩, xn, off, 0, false, []⟩) (p1 := xp) (n1 := args.length) (c1 := xc) (p2 := none) (n2 := 0) (c2 := 0) (hSB.symm.trans hs)
  | true =>
   have hq := hSB.symm.trans hs
   have hq2 : args = [] ∧ ⟨3, bin, d, ⟨ak, an⟩, ⟨bk, bn⟩, xn, off, wd, sg, args⟩ = (⟨3, 0, d, ⟨0, 0⟩, ⟨0, 0⟩, xn, off, 0, false, []⟩ : In) := by
    simp [sameB, arEq] at hq
    refine ⟨hq.2, ?_⟩
    simp_all
   obtain ⟨ha, he⟩ := hq2
   have hA1 := (HAV.out Y hY)
   have := rSameT_c (w := Y) (x := ⟨3, bin, d, ⟨ak, an⟩, ⟨bk, bn⟩, xn, off, wd, sg, args⟩) (p1 := xp) (p2 := none) (c1 := xc) (c2 := 0) hA1 (by rw [ha]; exact argV_none' Y) hal
   subst ha
   simp only [In.mk.injEq, Ar.mk.injEq] at he
   simp only [inCells, List.length_nil] at this ⊢
   simp_all
 have hwl : IntKind.i64.wrap ((sls.length : Int) - 1) = (sls.length : Int) - 1 := wrap_idI (by omega) (by omega)
 have CW1 : Hid (∀ Y, Calls Tryz.prog 33 #[.int .i64 xn, .int .i64 0, .int .i64 ((sls.length : Int) - 1)] Y fun e w' => e = .returned (.bool false) ∧ Below Y.heap.size Y w') := fun Y => by rw [← hin]; exact within_b (rwithin_c xn 0 _ Y)
 rw [hin] at HR
 clear hin
 have nt := not_t
 have nf := not_f
 have hwr : IntKind.i64.wrap ((cn : Int) - 1) = (cn : Int) - 1 := wrap_idI (by omega) (by omega)
 clear hNP hNF hNX hHB hR hx HAV hal h0 h1
 have HSBE : Hid (SB = _) := hSB
 clear hSB
 generalize tempB tp d = B0 at *
 go_enter Tryz.func58, Tryz.ntmps58
 go_upto_region 1 with (fail)
 refine wp_at hW1 ?_
 clear hW1
 obtain ⟨g0, g1, g2, g3, g4, g5, g6, g7, g8, g9, g10, g11⟩ := sh12 NX.out
 have HSH : SH W1 W1 := Below.refl _ _
 have CS1 : Hid (∀ Y, SH W1 Y → Calls Tryz.prog 59 #[.agg #[.int .i64 3, .int .i64 bin, .int .i64 d, .int .i64 ak, .int .u32 an, .int .i64 bk, .int .u32 bn, .int .i64 xn, .int .i64 off, .int .i64 wd, .bool sg, .slice xp args.length xc], .agg #[.int .i64 3, .int .i64 0, .int .i64 d, .int .i64 0, .int .u32 0, .int .i64 0, .int .u32 0, .int .i64 xn, .int .i64 off, .int .i64 0, .bool false, .slice none 0 0]] Y fun e w' => e = .returned (.bool SB) ∧ Below Y.heap.size Y w') := fun Y h => CSM.out Y (HB.out.trans (Below.mono h HB.out.size))
 go_region_held3 (fun Y => SH W1 Y) (with_reducible first | assumption | (refine SH.drew ?_; assumption) | (refine SH.below ?_ (by assumption); assumption)) (first
  | (go_at_call 84; refine (CSH.out _).mono ?_; rintro e y1 ⟨rfl, hy1⟩)
  | (go_at_call 59; refine (CS1.out _ (SH.below (SH.drew HSH) hy1)).mono ?_; rintro e y2 ⟨rfl, hy2⟩))
 have HY : Hid (Below W1.heap.size W1 y2) := SH.below (SH.below (SH.drew HSH) hy1) hy2
 clear hy1 hy2 HSH g0 g1 g2 g3 g4 g5 g6 g7 g8 g9 g10 g11 CS1 CSM CSH
 have HYw : Hid (Below w.heap.size w y2) := HB.out.trans (HY.out.mono HB.out.size)
 cases SB with
 | false =>
  go_wp2_with fail
  go_ret
  exact ⟨by rw [HR.out]; simp, HYw.out⟩
 | true =>
  have x0 := (Lib.cell_of_heap (blk_b NX.out HY.out) 0).trans rfl
  go_upto_region 9 with (fail)
  clear x0
  have HY0 : Hid (SH y2 y2) := Below.refl _ _
  obtain ⟨F0, F1, F2, F3, F4, F5, F6, F7, F8, F9, F10, F11⟩ := sat12 (blk_b NX.out HY.out)
  obtain ⟨G0, G1, G2, G3, G4, G5⟩ := sat6 (blk_b NF.out HY.out)
  clear F0 F1 F3 F4 F5 F6 F9 F10 F11
  have cq0 : ∀ Z : SAT y2, Calls Tryz.prog 85 #[.agg #[.string nm, .int .i64 pr, .int .i64 tp, .bool gv, .slice sp sls.length sc, .slice cp cn cc], .int .i64 d] Z.val fun e w' => e = .returned (.bool B0) ∧ ∃ Z' : SAT y2, w' = Z'.val := fun Z => (CC0.out Z.val).mono fun e w' ⟨he, hb⟩ => ⟨he, ⟨w', SH.below Z.ok hb⟩, rfl⟩
  have cq1 : ∀ Z : SAT y2, Calls Tryz.prog 33 #[.int .i64 xn, .int .i64 0, .int .i64 ((sls.length : Int) - 1)] Z.val fun e w' => e = .returned (.bool false) ∧ ∃ Z' : SAT y2, w' = Z'.val := fun Z => (CW1.out Z.val).mono fun e w' ⟨he, hb⟩ => ⟨he, ⟨w', SH.below Z.ok hb⟩, rfl⟩
  have HS0 : Hid (SH y2 y2.drew) := SH.drew HY0
  cases B0 with
  | false =>
   refine wp_region_sub (W := y2) (by kernel_rfl) (by kernel_rfl) HS0.out ?_
   repeat (go_big_quiet_step (first | (with_reducible exact cq0 _) | (with_reducible exact cq1 _)))
   refine wpQuiet_nil ?_
   intro wq hq
   obtain ⟨⟨Zq, hZ⟩, hq2⟩ := hq
   have HB2 : Hid (Below w.heap.size w wq) := by rw [hq2]; exact HYw.out.trans (hZ.mono HYw.out.size)
   clear hq2
   go_wp2
   go_ret
   exact ⟨by rw [HR.out]; simp, HB2.out⟩
  | true =>
   refine wp_region_sub (W := y2) (by kernel_rfl) (by kernel_rfl) HS0.out ?_
   repeat (go_big_quiet_step (first | (with_reducible exact cq0 _) | (with_reducible exact cq1 _)))
   refine wpQuiet_nil ?_
   intro wq hq
   obtain ⟨⟨Zq, hZ⟩, hq2⟩ := hq
   have HB2 : Hid (Below w.heap.size w wq) := by rw [hq2]; exact HYw.out.trans (hZ.mono HYw.out.size)
   clear hq2
   go_wp2
   go_ret
   exact ⟨by rw [HR.out]; simp, HB2.out⟩
theorem rRight_3y {op : Option Addr} {on oc : Nat} {mn : Int} {fp : Option Addr} {fn fc : Nat} {nm : ByteArray} {pr tp : Int} {gv : Bool} {sc : Nat} {cp : Option Addr} {cn cc : Nat} (h0 : 0 ≤ tp) (h1 : tp ≤ 9223372036854775807) (hcn : cn ≤ 9223372036854775806) (sls : List Slt) (obs : List Ob) (fns : List Fn) {gg ro kk : Nat} {sz : Int} (hkk : kk < sls.length) (hll : sls.length ≤ 9223372036854775806) (hcapl : sls.length ≤ sc) (hszk : szS sls (kk : Int) = sz) (HSZ : Hid (∀ Y, Below w.heap.size w Y → Y.cell? ⟨gg, ro + kk * 2, none⟩ = some (.int .i64 sz)))
 {bin d ak an bk bn off wd : Int} {sg : Bool} {args : List Ar} {xp : Option Addr} {xc : Nat} (hx : InOK w ⟨3, bin, d, ⟨ak, an⟩, ⟨bk, bn⟩, (kk : Int), off, wd, sg, args⟩ xp xc) :
 Calls Tryz.prog 58 #[.agg #[.slice op on oc, .slice fp fn fc, .int .i64 mn], .agg #[.string nm, .int .i64 pr, .int .i64 tp, .bool gv, .slice (some ⟨gg, ro, none⟩) sls.length sc, .slice cp cn cc], .agg #[.int .i64 3, .int .i64 bin, .int .i64 d, .int .i64 ak, .int .u32 an, .int .i64 bk, .int .u32 bn, .int .i64 (kk : Int), .int .i64 off, .int .i64 wd, .bool sg, .slice xp args.length xc]] w fun e w' => e = .returned (.bool (rightB tp gv cn sls obs fns ⟨3, bin, d, ⟨ak, an⟩, ⟨bk, bn⟩, (kk : Int), off, wd, sg, args⟩)) ∧ Below w.heap.size w w' := by
 obtain ⟨W1, hW1, hNP, hNF, hNX, hHB⟩ := three_ex w (.cells #[.slice op on oc, .slice fp fn fc, .int .i64 mn] TPg) (.cells #[.string nm, .int .i64 pr, .int .i64 tp, .bool gv, .slice (some ⟨gg, ro, none⟩) sls.length sc, .slice cp cn cc] TFn) (.cells #[.int .i64 3, .int .i64 bin, .int .i64 d, .int .i64 ak, .int .u32 an, .int .i64 bk, .int .u32 bn, .int .i64 (kk : Int), .int .i64 off, .int .i64 wd, .bool sg, .slice xp args.length xc] TIn)
 have NP : Hid (_ = _) := hNP
 have NF : Hid (_ = _) := hNF
 have NX : Hid (_ = _) := hNX
 have HB : Hid (Below w.heap.size w _) := hHB
 have HAV : Hid (∀ Y, Below w.heap.size w Y → ArgV Y (.slice xp args.length xc) args) := fun Y hY => hx.ar.below hY
 have hal : args.length ≤ 9223372036854775806 := hx.al
 have CC0 : Hid (∀ Y, Calls Tryz.prog 85 #[.agg #[.string nm, .int .i64 pr, .int .i64 tp, .bool gv, .slice (some ⟨gg, ro, none⟩) sls.length sc, .slice cp cn cc], .int .i64 d] Y fun e w' => e = .returned (.bool (tempB tp d)) ∧ Below Y.heap.size Y w') := fun Y => rTemp_c ⟨nm, pr, tp, gv, some ⟨gg, ro, none⟩, sls.length, sc, cp, cn, cc⟩ d Y
 obtain ⟨R, hR⟩ : ∃ R, R = rightB tp gv cn sls obs fns ⟨3, bin, d, ⟨ak, an⟩, ⟨bk, bn⟩, (kk : Int), off, wd, sg, args⟩ := ⟨_, rfl⟩
 rw [← hR]
 obtain ⟨SB, hSB⟩ : ∃ b, b = (sameB ⟨3, bin, d, ⟨ak, an⟩, ⟨bk, bn⟩, (kk : Int), off, wd, sg, args⟩ ⟨3, 0, d, ⟨0, 0⟩, ⟨0, 0⟩, (kk : Int), off, 0, false, []⟩ && decide (args.length = 0)) := ⟨_, rfl⟩
 have HR : Hid (R = ((tempB tp d && (withinP (kk : Int) 0 ((sls.length : Int) - 1) && withinP off 0 (szS sls (kk : Int)))) && SB)) := by
  show R = _
  rw [hR, hSB]
  unfold rightB
  rw [bare_same_3]
  rfl
 have CSH : Hid (∀ Y, Calls Tryz.prog 84 #[.agg #[.int .i64 3, .int .i64 bin, .int .i64 d, .int .i64 ak, .int .u32 an, .int .i64 bk, .int .u32 bn, .int .i64 (kk : Int), .int .i64 off, .int .i64 wd, .bool sg, .slice xp args.length xc]] Y fun e w' => e = .returned (.agg #[.int .i64 3, .int .i64 0, .int .i64 d, .int .i64 0, .int .u32 0, .int .i64 0, .int .u32 0, .int .i64 (kk : Int), .int .i64 off, .int .i64 0, .bool false, .slice none 0 0]) ∧ Below Y.heap.size Y w') := fun Y => rShape_3 bin d ak an bk bn (kk : Int) off wd sg xp args.length xc Y
 have CSM : Hid (∀ Y, Below w.heap.size w Y → Calls Tryz.prog 59 #[.agg #[.int .i64 3, .int .i64 bin, .int .i64 d, .int .i64 ak, .int .u32 an, .int .i64 bk, .int .u32 bn, .int .i64 (kk : Int), .int .i64 off, .int .i64 wd, .bool sg, .slice xp args.length xc], .agg #[.int .i64 3, .int .i64 0, .int .i64 d, .int .i64 0, .int .u32 0, .int .i64 0, .int .u32 0, .int .i64 (kk : Int), .int .i64 off, .int .i64 0, .bool false, .slice none 0 0]] Y fun e w' => e = .returned (.bool SB) ∧ Below Y.heap.size Y w') := fun Y hY => by
  cases hs : SB with
  | false => exact rSameF_c (x := ⟨3, bin, d, ⟨ak, an⟩, ⟨bk, bn⟩, (kk : Int), off, wd, sg, args⟩) (y := ⟨3, 0, d, ⟨0, 0⟩, ⟨0, 0⟩, (kk : Int), off, 0, false, []⟩) (p1 := xp) (n1 := args.length) (c1 := xc) (p2 := none) (n2 := 0) (c2 := 0) (hSB.symm.trans hs)
  | true =>
   have hq := hSB.symm.trans hs
   have hq2 : args = [] ∧ ⟨3, bin, d, ⟨ak, an⟩, ⟨bk, bn⟩, (kk : Int), off, wd, sg, args⟩ = (⟨3, 0, d, ⟨0, 0⟩, ⟨0, 0⟩, (kk : Int), off, 0, false, []⟩ : In) := by
    simp [sameB, arEq] at hq
    refine ⟨hq.2, ?_⟩
    simp_all
   obtain ⟨ha, he⟩ := hq2
   have hA1 := (HAV.out Y hY)
   have := rSameT_c (w := Y) (x := ⟨3, bin, d, ⟨ak, an⟩, ⟨bk, bn⟩, (kk : Int), off, wd, sg, args⟩) (p1 := xp) (p2 := none) (c1 := xc) (c2 := 0) hA1 (by rw [ha]; exact argV_none' Y) hal
   subst ha
   simp only [In.mk.injEq, Ar.mk.injEq] at he
   simp only [inCells, List.length_nil] at this ⊢
   simp_all
 have hwl : IntKind.i64.wrap ((sls.length : Int) - 1) = (sls.length : Int) - 1 := wrap_idI (by omega) (by omega)
 have CW1 : Hid (∀ Y, Calls Tryz.prog 33 #[.int .i64 (kk : Int), .int .i64 0, .int .i64 ((sls.length : Int) - 1)] Y fun e w' => e = .returned (.bool true) ∧ Below Y.heap.size Y w') := fun Y => by rw [← show withinP (kk : Int) 0 ((sls.length : Int) - 1) = true by unfold withinP; simp; omega]; exact within_b (rwithin_c (kk : Int) 0 _ Y)
 have hin2 : withinP (kk : Int) 0 ((sls.length : Int) - 1) = true := by unfold withinP; simp; omega
 rw [hin2, hszk] at HR
 have CW2 : Hid (∀ Y, Calls Tryz.prog 33 #[.int .i64 off, .int .i64 0, .int .i64 sz] Y fun e w' => e = .returned (.bool (withinP off 0 sz)) ∧ Below Y.heap.size Y w') := fun Y => within_b (rwithin_c off 0 sz Y)
 generalize withinP off 0 sz = B1 at *
 clear hin2 hszk
 have nt := not_t
 have nf := not_f
 have hwr : IntKind.i64.wrap ((cn : Int) - 1) = (cn : Int) - 1 := wrap_idI (by omega) (by omega)
 clear hNP hNF hNX hHB hR hx HAV hal h0 h1
 have HSBE : Hid (SB = _) := hSB
 clear hSB
 generalize tempB tp d = B0 at *
 go_enter Tryz.func58, Tryz.ntmps58
 go_upto_region 1 with (fail)
 refine wp_at hW1 ?_
 clear hW1
 obtain ⟨g0, g1, g2, g3, g4, g5, g6, g7, g8, g9, g10, g11⟩ := sh12 NX.out
 have HSH : SH W1 W1 := Below.refl _ _
 have CS1 : Hid (∀ Y, SH W1 Y → Calls Tryz.prog 59 #[.agg #[.int .i64 3, .int .i64 bin, .int .i64 d, .int .i64 ak, .int .u32 an, .int .i64 bk, .int .u32 bn, .int .i64 (kk : Int), .int .i64 off, .int .i64 wd, .bool sg, .slice xp args.length xc], .agg #[.int .i64 3, .int .i64 0, .int .i64 d, .int .i64 0, .int .u32 0, .int .i64 0, .int .u32 0, .int .i64 (kk : Int), .int .i64 off, .int .i64 0, .bool false, .slice none 0 0]] Y fun e w' => e = .returned (.bool SB) ∧ Below Y.heap.size Y w') := fun Y h => CSM.out Y (HB.out.trans (Below.mono h HB.out.size))
 go_region_held3 (fun Y => SH W1 Y) (with_reducible first | assumption | (refine SH.drew ?_; assumption) | (refine SH.below ?_ (by assumption); assumption)) (first
  | (go_at_call 84; refine (CSH.out _).mono ?_; rintro e y1 ⟨rfl, hy1⟩)
  | (go_at_call 59; refine (CS1.out _ (SH.below (SH.drew HSH) hy1)).mono ?_; rintro e y2 ⟨rfl, hy2⟩))
 have HY : Hid (Below W1.heap.size W1 y2) := SH.below (SH.below (SH.drew HSH) hy1) hy2
 clear hy1 hy2 HSH g0 g1 g2 g3 g4 g5 g6 g7 g8 g9 g10 g11 CS1 CSM CSH
 have HYw : Hid (Below w.heap.size w y2) := HB.out.trans (HY.out.mono HB.out.size)
 cases SB with
 | false =>
  go_wp2_with fail
  go_ret
  exact ⟨by rw [HR.out]; simp, HYw.out⟩
 | true =>
  have x0 := (Lib.cell_of_heap (blk_b NX.out HY.out) 0).trans rfl
  go_upto_region 9 with (fail)
  clear x0
  have HY0 : Hid (SH y2 y2) := Below.refl _ _
  obtain ⟨F0, F1, F2, F3, F4, F5, F6, F7, F8, F9, F10, F11⟩ := sat12 (blk_b NX.out HY.out)
  obtain ⟨G0, G1, G2, G3, G4, G5⟩ := sat6 (blk_b NF.out HY.out)
  clear F0 F1 F3 F4 F5 F6 F9 F10 F11
  have cq0 : ∀ Z : SAT y2, Calls Tryz.prog 85 #[.agg #[.string nm, .int .i64 pr, .int .i64 tp, .bool gv, .slice (some ⟨gg, ro, none⟩) sls.length sc, .slice cp cn cc], .int .i64 d] Z.val fun e w' => e = .returned (.bool B0) ∧ ∃ Z' : SAT y2, w' = Z'.val := fun Z => (CC0.out Z.val).mono fun e w' ⟨he, hb⟩ => ⟨he, ⟨w', SH.below Z.ok hb⟩, rfl⟩
  have cq1 : ∀ Z : SAT y2, Calls Tryz.prog 33 #[.int .i64 (kk : Int), .int .i64 0, .int .i64 ((sls.length : Int) - 1)] Z.val fun e w' => e = .returned (.bool true) ∧ ∃ Z' : SAT y2, w' = Z'.val := fun Z => (CW1.out Z.val).mono fun e w' ⟨he, hb⟩ => ⟨he, ⟨w', SH.below Z.ok hb⟩, rfl⟩
  have FS : ∀ Z : SAT y2, Z.val.cell? ⟨gg, ro + kk * 2, none⟩ = some (.int .i64 sz) := fun Z => HSZ.out Z.val (HYw.out.trans (Below.mono Z.ok HYw.out.size))
  have cq2 : ∀ Z : SAT y2, Calls Tryz.prog 33 #[.int .i64 off, .int .i64 0, .int .i64 sz] Z.val fun e w' => e = .returned (.bool B1) ∧ ∃ Z' : SAT y2, w' = Z'.val := fun Z => (CW2.out Z.val).mono fun e w' ⟨he, hb⟩ => ⟨he, ⟨w', SH.below Z.ok hb⟩, rfl⟩
  have HS0 : Hid (SH y2 y2.drew) := SH.drew HY0
  cases B0 with
  | false =>
   refine wp_region_sub (W := y2) (by kernel_rfl) (by kernel_rfl) HS0.out ?_
   repeat (go_big_quiet_step (first | (with_reducible exact cq0 _) | (with_reducible exact cq1 _) | (with_reducible exact cq2 _)))
   refine wpQuiet_nil ?_
   intro wq hq
   obtain ⟨⟨Zq, hZ⟩, hq2⟩ := hq
   have HB2 : Hid (Below w.heap.size w wq) := by rw [hq2]; exact HYw.out.trans (hZ.mono HYw.out.size)
   clear hq2
   go_wp2
   go_ret
   exact ⟨by rw [HR.out]; simp, HB2.out⟩
  | true =>
   refine wp_region_sub (W := y2) (by kernel_rfl) (by kernel_rfl) HS0.out ?_
   repeat (go_big_quiet_step (first | (with_reducible exact cq0 _) | (with_reducible exact cq1 _) | (with_reducible exact cq2 _)))
   refine wpQuiet_nil ?_
   intro wq hq
   obtain ⟨⟨Zq, hZ⟩, hq2⟩ := hq
   have HB2 : Hid (Below w.heap.size w wq) := by rw [hq2]; exact HYw.out.trans (hZ.mono HYw.out.size)
   clear hq2
   go_wp2
   go_ret
   exact ⟨by rw [HR.out]; simp, HB2.out⟩
theorem rRight_4n {op : Option Addr} {oc : Nat} {mn : Int} {fp : Option Addr} {fn fc : Nat} {nm : ByteArray} {pr tp : Int} {gv : Bool} {sp : Option Addr} {sn sc : Nat} {cp : Option Addr} {cn cc : Nat} (h0 : 0 ≤ tp) (h1 : tp ≤ 9223372036854775807) (hcn : cn ≤ 9223372036854775806) (sls : List Slt) (obs : List Ob) (fns : List Fn) {xn : Int} (hin : withinP xn 0 ((obs.length : Int) - 1) = false) (hll : obs.length ≤ 9223372036854775806)
 {bin d ak an bk bn off wd : Int} {sg : Bool} {args : List Ar} {xp : Option Addr} {xc : Nat} (hx : InOK w ⟨4, bin, d, ⟨ak, an⟩, ⟨bk, bn⟩, xn, off, wd, sg, args⟩ xp xc) :
 Calls Tryz.prog 58 #[.agg #[.slice op obs.length oc, .slice fp fn fc, .int .i64 mn], .agg #[.string nm, .int .i64 pr, .int .i64 tp, .bool gv, .slice sp sn sc, .slice cp cn cc], .agg #[.int .i64 4, .int .i64 bin, .int .i64 d, .int .i64 ak, .int .u32 an, .int .i64 bk, .int .u32 bn, .int .i64 xn, .int .i64 off, .int .i64 wd, .bool sg, .slice xp args.length xc]] w fun e w' => e = .returned (.bool (rightB tp gv cn sls obs fns ⟨4, bin, d, ⟨ak, an⟩, ⟨bk, bn⟩, xn, off, wd, sg, args⟩)) ∧ Below w.heap.size w w' := by
 obtain ⟨W1, hW1, hNP, hNF, hNX, hHB⟩ := three_ex w (.cells #[.slice op obs.length oc, .slice fp fn fc, .int .i64 mn] TPg) (.cells #[.string nm, .int .i64 pr, .int .i64 tp, .bool gv, .slice sp sn sc, .slice cp cn cc] TFn) (.cells #[.int .i64 4, .int .i64 bin, .int .i64 d, .int .i64 ak, .int .u32 an, .int .i64 bk, .int .u32 bn, .int .i64 xn, .int .i64 off, .int .i64 wd, .bool sg, .slice xp args.length xc] TIn)
 have NP : Hid (_ = _) := hNP
 have NF : Hid (_ = _) := hNF
 have NX : Hid (_ = _) := hNX
 have HB : Hid (Below w.heap.size w _) := hHB
 have HAV : Hid (∀ Y, Below w.heap.size w Y → ArgV Y (.slice xp args.length xc) args) := fun Y hY => hx.ar.below hY
 have hal : args.length ≤ 9223372036854775806 := hx.al
 have CC0 : Hid (∀ Y, Calls Tryz.prog 85 #[.agg #[.string nm, .int .i64 pr, .int .i64 tp, .bool gv, .slice sp sn sc, .slice cp cn cc], .int .i64 d] Y fun e w' => e = .returned (.bool (tempB tp d)) ∧ Below Y.heap.size Y w') := fun Y => rTemp_c ⟨nm, pr, tp, gv, sp, sn, sc, cp, cn, cc⟩ d Y
 obtain ⟨R, hR⟩ : ∃ R, R = rightB tp gv cn sls obs fns ⟨4, bin, d, ⟨ak, an⟩, ⟨bk, bn⟩, xn, off, wd, sg, args⟩ := ⟨_, rfl⟩
 rw [← hR]
 obtain ⟨SB, hSB⟩ : ∃ b, b = (sameB ⟨4, bin, d, ⟨ak, an⟩, ⟨bk, bn⟩, xn, off, wd, sg, args⟩ ⟨4, 0, d, ⟨0, 0⟩, ⟨0, 0⟩, xn, off, 0, false, []⟩ && decide (args.length = 0)) := ⟨_, rfl⟩
 have HR : Hid (R = ((tempB tp d && (withinP xn 0 ((obs.length : Int) - 1) && withinP off 0 (szO obs xn))) && SB)) := by
  show R = _
  rw [hR, hSB]
  unfold rightB
  rw [bare_same_4]
  rfl
 have CSH : Hid (∀ Y, Calls Tryz.prog 84 #[.agg #[.int .i64 4, .int .i64 bin, .int .i64 d, .int .i64 ak, .int .u32 an, .int .i64 bk, .int .u32 bn, .int .i64 xn, .int .i64 off, .int .i64 wd, .bool sg, .slice xp args.length xc]] Y fun e w' => e = .returned (.agg #[.int .i64 4, .int .i64 0, .int .i64 d, .int .i64 0, .int .u32 0, .int .i64 0, .int .u32 0, .int .i64 xn, .int .i64 off, .int .i64 0, .bool false, .slice none 0 0]) ∧ Below Y.heap.size Y w') := fun Y => rShape_4 bin d ak an bk bn xn off wd sg xp args.length xc Y
 have CSM : Hid (∀ Y, Below w.heap.size w Y → Calls Tryz.prog 59 #[.agg #[.int .i64 4, .int .i64 bin, .int .i64 d, .int .i64 ak, .int .u32 an, .int .i64 bk, .int .u32 bn, .int .i64 xn, .int .i64 off, .int .i64 wd, .bool sg, .slice xp args.length xc], .agg #[.int .i64 4, .int .i64 0, .int .i64 d, .int .i64 0, .int .u32 0, .int .i64 0, .int .u32 0, .int .i64 xn, .int .i64 off, .int .i64 0, .bool false, .slice none 0 0]] Y fun e w' => e = .returned (.bool SB) ∧ Below Y.heap.size Y w') := fun Y hY => by
  cases hs : SB with
  | false => exact rSameF_c (x := ⟨4, bin, d, ⟨ak, an⟩, ⟨bk, bn⟩, xn, off, wd, sg, args⟩) (y := ⟨4, 0, d, ⟨0, 0⟩, ⟨0, 0⟩, xn, off, 0, false, []⟩) (p1 := xp) (n1 := args.length) (c1 := xc) (p2 := none) (n2 := 0) (c2 := 0) (hSB.symm.trans hs)
  | true =>
   have hq := hSB.symm.trans hs
   have hq2 : args = [] ∧ ⟨4, bin, d, ⟨ak, an⟩, ⟨bk, bn⟩, xn, off, wd, sg, args⟩ = (⟨4, 0, d, ⟨0, 0⟩, ⟨0, 0⟩, xn, off, 0, false, []⟩ : In) := by
    simp [sameB, arEq] at hq
    refine ⟨hq.2, ?_⟩
    simp_all
   obtain ⟨ha, he⟩ := hq2
   have hA1 := (HAV.out Y hY)
   have := rSameT_c (w := Y) (x := ⟨4, bin, d, ⟨ak, an⟩, ⟨bk, bn⟩, xn, off, wd, sg, args⟩) (p1 := xp) (p2 := none) (c1 := xc) (c2 := 0) hA1 (by rw [ha]; exact argV_none' Y) hal
   subst ha
   simp only [In.mk.injEq, Ar.mk.injEq] at he
   simp only [inCells, List.length_nil] at this ⊢
   simp_all
 have hwl : IntKind.i64.wrap ((obs.length : Int) - 1) = (obs.length : Int) - 1 := wrap_idI (by omega) (by omega)
 have CW1 : Hid (∀ Y, Calls Tryz.prog 33 #[.int .i64 xn, .int .i64 0, .int .i64 ((obs.length : Int) - 1)] Y fun e w' => e = .returned (.bool false) ∧ Below Y.heap.size Y w') := fun Y => by rw [← hin]; exact within_b (rwithin_c xn 0 _ Y)
 rw [hin] at HR
 clear hin
 have nt := not_t
 have nf := not_f
 have hwr : IntKind.i64.wrap ((cn : Int) - 1) = (cn : Int) - 1 := wrap_idI (by omega) (by omega)
 clear hNP hNF hNX hHB hR hx HAV hal h0 h1
 have HSBE : Hid (SB = _) := hSB
 clear hSB
 generalize tempB tp d = B0 at *
 go_enter Tryz.func58, Tryz.ntmps58
 go_upto_region 1 with (fail)
 refine wp_at hW1 ?_
 clear hW1
 obtain ⟨g0, g1, g2, g3, g4, g5, g6, g7, g8, g9, g10, g11⟩ := sh12 NX.out
 have HSH : SH W1 W1 := Below.refl _ _
 have CS1 : Hid (∀ Y, SH W1 Y → Calls Tryz.prog 59 #[.agg #[.int .i64 4, .int .i64 bin, .int .i64 d, .int .i64 ak, .int .u32 an, .int .i64 bk, .int .u32 bn, .int .i64 xn, .int .i64 off, .int .i64 wd, .bool sg, .slice xp args.length xc], .agg #[.int .i64 4, .int .i64 0, .int .i64 d, .int .i64 0, .int .u32 0, .int .i64 0, .int .u32 0, .int .i64 xn, .int .i64 off, .int .i64 0, .bool false, .slice none 0 0]] Y fun e w' => e = .returned (.bool SB) ∧ Below Y.heap.size Y w') := fun Y h => CSM.out Y (HB.out.trans (Below.mono h HB.out.size))
 go_region_held3 (fun Y => SH W1 Y) (with_reducible first | assumption | (refine SH.drew ?_; assumption) | (refine SH.below ?_ (by assumption); assumption)) (first
  | (go_at_call 84; refine (CSH.out _).mono ?_; rintro e y1 ⟨rfl, hy1⟩)
  | (go_at_call 59; refine (CS1.out _ (SH.below (SH.drew HSH) hy1)).mono ?_; rintro e y2 ⟨rfl, hy2⟩))
 have HY : Hid (Below W1.heap.size W1 y2) := SH.below (SH.below (SH.drew HSH) hy1) hy2
 clear hy1 hy2 HSH g0 g1 g2 g3 g4 g5 g6 g7 g8 g9 g10 g11 CS1 CSM CSH
 have HYw : Hid (Below w.heap.size w y2) := HB.out.trans (HY.out.mono HB.out.size)
 cases SB with
 | false =>
  go_wp2_with fail
  go_ret
  exact ⟨by rw [HR.out]; simp, HYw.out⟩
 | true =>
  have x0 := (Lib.cell_of_heap (blk_b NX.out HY.out) 0).trans rfl
  go_upto_region 11 with (fail)
  clear x0
  have HY0 : Hid (SH y2 y2) := Below.refl _ _
  obtain ⟨F0, F1, F2, F3, F4, F5, F6, F7, F8, F9, F10, F11⟩ := sat12 (blk_b NX.out HY.out)
  obtain ⟨G0, G1, G2, G3, G4, G5⟩ := sat6 (blk_b NF.out HY.out)
  clear F0 F1 F3 F4 F5 F6 F9 F10 F11
  have P0 : ∀ Z : SAT y2, Z.val.cell? ⟨w.heap.size, 0, none⟩ = some (.slice op obs.length oc) := fun Z => (Lib.cell_of_heap (blk_b NP.out (HY.out.trans (Below.mono Z.ok HY.out.size))) 0).trans rfl
  have cq0 : ∀ Z : SAT y2, Calls Tryz.prog 85 #[.agg #[.string nm, .int .i64 pr, .int .i64 tp, .bool gv, .slice sp sn sc, .slice cp cn cc], .int .i64 d] Z.val fun e w' => e = .returned (.bool B0) ∧ ∃ Z' : SAT y2, w' = Z'.val := fun Z => (CC0.out Z.val).mono fun e w' ⟨he, hb⟩ => ⟨he, ⟨w', SH.below Z.ok hb⟩, rfl⟩
  have cq1 : ∀ Z : SAT y2, Calls Tryz.prog 33 #[.int .i64 xn, .int .i64 0, .int .i64 ((obs.length : Int) - 1)] Z.val fun e w' => e = .returned (.bool false) ∧ ∃ Z' : SAT y2, w' = Z'.val := fun Z => (CW1.out Z.val).mono fun e w' ⟨he, hb⟩ => ⟨he, ⟨w', SH.below Z.ok hb⟩, rfl⟩
  have HS0 : Hid (SH y2 y2.drew) := SH.drew HY0
  cases B0 with
  | false =>
   refine wp_region_sub (W := y2) (by kernel_rfl) (by kernel_rfl) HS0.out ?_
   repeat (go_big_quiet_step (first | (with_reducible exact cq0 _) | (with_reducible exact cq1 _)))
   refine wpQuiet_nil ?_
   intro wq hq
   obtain ⟨⟨Zq, hZ⟩, hq2⟩ := hq
   have HB2 : Hid (Below w.heap.size w wq) := by rw [hq2]; exact HYw.out.trans (hZ.mono HYw.out.size)
   clear hq2
   go_wp2
   go_ret
   exact ⟨by rw [HR.out]; simp, HB2.out⟩
  | true =>
   refine wp_region_sub (W := y2) (by kernel_rfl) (by kernel_rfl) HS0.out ?_
   repeat (go_big_quiet_step (first | (with_reducible exact cq0 _) | (with_reducible exact cq1 _)))
   refine wpQuiet_nil ?_
   intro wq hq
   obtain ⟨⟨Zq, hZ⟩, hq2⟩ := hq
   have HB2 : Hid (Below w.heap.size w wq) := by rw [hq2]; exact HYw.out.trans (hZ.mono HYw.out.size)
   clear hq2
   go_wp2
   go_ret
   exact ⟨by rw [HR.out]; simp, HB2.out⟩
theorem rRight_4y {oc : Nat} {mn : Int} {fp : Option Addr} {fn fc : Nat} {nm : ByteArray} {pr tp : Int} {gv : Bool} {sp : Option Addr} {sn sc : Nat} {cp : Option Addr} {cn cc : Nat} (h0 : 0 ≤ tp) (h1 : tp ≤ 9223372036854775807) (hcn : cn ≤ 9223372036854775806) (sls : List Slt) (obs : List Ob) (fns : List Fn) {gg ro kk : Nat} {sz : Int} (hkk : kk < obs.length) (hll : obs.length ≤ 9223372036854775806) (hcapl : obs.length ≤ oc) (hszk : szO obs (kk : Int) = sz) (HSZ : Hid (∀ Y, Below w.heap.size w Y → Y.cell? ⟨gg, ro + kk * 5 + 1, none⟩ = some (.int .i64 sz)))
 {bin d ak an bk bn off wd : Int} {sg : Bool} {args : List Ar} {xp : Option Addr} {xc : Nat} (hx : InOK w ⟨4, bin, d, ⟨ak, an⟩, ⟨bk, bn⟩, (kk : Int), off, wd, sg, args⟩ xp xc) :
 Calls Tryz.prog 58 #[.agg #[.slice (some ⟨gg, ro, none⟩) obs.length oc, .slice fp fn fc, .int .i64 mn], .agg #[.string nm, .int .i64 pr, .int .i64 tp, .bool gv, .slice sp sn sc, .slice cp cn cc], .agg #[.int .i64 4, .int .i64 bin, .int .i64 d, .int .i64 ak, .int .u32 an, .int .i64 bk, .int .u32 bn, .int .i64 (kk : Int), .int .i64 off, .int .i64 wd, .bool sg, .slice xp args.length xc]] w fun e w' => e = .returned (.bool (rightB tp gv cn sls obs fns ⟨4, bin, d, ⟨ak, an⟩, ⟨bk, bn⟩, (kk : Int), off, wd, sg, args⟩)) ∧ Below w.heap.size w w' := by
 obtain ⟨W1, hW1, hNP, hNF, hNX, hHB⟩ := three_ex w (.cells #[.slice (some ⟨gg, ro, none⟩) obs.length oc, .slice fp fn fc, .int .i64 mn] TPg) (.cells #[.string nm, .int .i64 pr, .int .i64 tp, .bool gv, .slice sp sn sc, .slice cp cn cc] TFn) (.cells #[.int .i64 4, .int .i64 bin, .int .i64 d, .int .i64 ak, .int .u32 an, .int .i64 bk, .int .u32 bn, .int .i64 (kk : Int), .int .i64 off, .int .i64 wd, .bool sg, .slice xp args.length xc] TIn)
 have NP : Hid (_ = _) := hNP
 have NF : Hid (_ = _) := hNF
 have NX : Hid (_ = _) := hNX
 have HB : Hid (Below w.heap.size w _) := hHB
 have HAV : Hid (∀ Y, Below w.heap.size w Y → ArgV Y (.slice xp args.length xc) args) := fun Y hY => hx.ar.below hY
 have hal : args.length ≤ 9223372036854775806 := hx.al
 have CC0 : Hid (∀ Y, Calls Tryz.prog 85 #[.agg #[.string nm, .int .i64 pr, .int .i64 tp, .bool gv, .slice sp sn sc, .slice cp cn cc], .int .i64 d] Y fun e w' => e = .returned (.bool (tempB tp d)) ∧ Below Y.heap.size Y w') := fun Y => rTemp_c ⟨nm, pr, tp, gv, sp, sn, sc, cp, cn, cc⟩ d Y
 obtain ⟨R, hR⟩ : ∃ R, R = rightB tp gv cn sls obs fns ⟨4, bin, d, ⟨ak, an⟩, ⟨bk, bn⟩, (kk : Int), off, wd, sg, args⟩ := ⟨_, rfl⟩
 rw [← hR]
 obtain ⟨SB, hSB⟩ : ∃ b, b = (sameB ⟨4, bin, d, ⟨ak, an⟩, ⟨bk, bn⟩, (kk : Int), off, wd, sg, args⟩ ⟨4, 0, d, ⟨0, 0⟩, ⟨0, 0⟩, (kk : Int), off, 0, false, []⟩ && decide (args.length = 0)) := ⟨_, rfl⟩
 have HR : Hid (R = ((tempB tp d && (withinP (kk : Int) 0 ((obs.length : Int) - 1) && withinP off 0 (szO obs (kk : Int)))) && SB)) := by
  show R = _
  rw [hR, hSB]
  unfold rightB
  rw [bare_same_4]
  rfl
 have CSH : Hid (∀ Y, Calls Tryz.prog 84 #[.agg #[.int .i64 4, .int .i64 bin, .int .i64 d, .int .i64 ak, .int .u32 an, .int .i64 bk, .int .u32 bn, .int .i64 (kk : Int), .int .i64 off, .int .i64 wd, .bool sg, .slice xp args.length xc]] Y fun e w' => e = .returned (.agg #[.int .i64 4, .int .i64 0, .int .i64 d, .int .i64 0, .int .u32 0, .int .i64 0, .int .u32 0, .int .i64 (kk : Int), .int .i64 off, .int .i64 0, .bool false, .slice none 0 0]) ∧ Below Y.heap.size Y w') := fun Y => rShape_4 bin d ak an bk bn (kk : Int) off wd sg xp args.length xc Y
 have CSM : Hid (∀ Y, Below w.heap.size w Y → Calls Tryz.prog 59 #[.agg #[.int .i64 4, .int .i64 bin, .int .i64 d, .int .i64 ak, .int .u32 an, .int .i64 bk, .int .u32 bn, .int .i64 (kk : Int), .int .i64 off, .int .i64 wd, .bool sg, .slice xp args.length xc], .agg #[.int .i64 4, .int .i64 0, .int .i64 d, .int .i64 0, .int .u32 0, .int .i64 0, .int .u32 0, .int .i64 (kk : Int), .int .i64 off, .int .i64 0, .bool false, .slice none 0 0]] Y fun e w' => e = .returned (.bool SB) ∧ Below Y.heap.size Y w') := fun Y hY => by
  cases hs : SB with
  | false => exact rSameF_c (x := ⟨4, bin, d, ⟨ak, an⟩, ⟨bk, bn⟩, (kk : Int), off, wd, sg, args⟩) (y := ⟨4, 0, d, ⟨0, 0⟩, ⟨0, 0⟩, (kk : Int), off, 0, false, []⟩) (p1 := xp) (n1 := args.length) (c1 := xc) (p2 := none) (n2 := 0) (c2 := 0) (hSB.symm.trans hs)
  | true =>
   have hq := hSB.symm.trans hs
   have hq2 : args = [] ∧ ⟨4, bin, d, ⟨ak, an⟩, ⟨bk, bn⟩, (kk : Int), off, wd, sg, args⟩ = (⟨4, 0, d, ⟨0, 0⟩, ⟨0, 0⟩, (kk : Int), off, 0, false, []⟩ : In) := by
    simp [sameB, arEq] at hq
    refine ⟨hq.2, ?_⟩
    simp_all
   obtain ⟨ha, he⟩ := hq2
   have hA1 := (HAV.out Y hY)
   have := rSameT_c (w := Y) (x := ⟨4, bin, d, ⟨ak, an⟩, ⟨bk, bn⟩, (kk : Int), off, wd, sg, args⟩) (p1 := xp) (p2 := none) (c1 := xc) (c2 := 0) hA1 (by rw [ha]; exact argV_none' Y) hal
   subst ha
   simp only [In.mk.injEq, Ar.mk.injEq] at he
   simp only [inCells, List.length_nil] at this ⊢
   simp_all
 have hwl : IntKind.i64.wrap ((obs.length : Int) - 1) = (obs.length : Int) - 1 := wrap_idI (by omega) (by omega)
 have CW1 : Hid (∀ Y, Calls Tryz.prog 33 #[.int .i64 (kk : Int), .int .i64 0, .int .i64 ((obs.length : Int) - 1)] Y fun e w' => e = .returned (.bool true) ∧ Below Y.heap.size Y w') := fun Y => by rw [← show withinP (kk : Int) 0 ((obs.length : Int) - 1) = true by unfold withinP; simp; omega]; exact within_b (rwithin_c (kk : Int) 0 _ Y)
 have hin2 : withinP (kk : Int) 0 ((obs.length : Int) - 1) = true := by unfold withinP; simp; omega
 rw [hin2, hszk] at HR
 have CW2 : Hid (∀ Y, Calls Tryz.prog 33 #[.int .i64 off, .int .i64 0, .int .i64 sz] Y fun e w' => e = .returned (.bool (withinP off 0 sz)) ∧ Below Y.heap.size Y w') := fun Y => within_b (rwithin_c off 0 sz Y)
 generalize withinP off 0 sz = B1 at *
 clear hin2 hszk
 have nt := not_t
 have nf := not_f
 have hwr : IntKind.i64.wrap ((cn : Int) - 1) = (cn : Int) - 1 := wrap_idI (by omega) (by omega)
 clear hNP hNF hNX hHB hR hx HAV hal h0 h1
 have HSBE : Hid (SB = _) := hSB
 clear hSB
 generalize tempB tp d = B0 at *
 go_enter Tryz.func58, Tryz.ntmps58
 go_upto_region 1 with (fail)
 refine wp_at hW1 ?_
 clear hW1
 obtain ⟨g0, g1, g2, g3, g4, g5, g6, g7, g8, g9, g10, g11⟩ := sh12 NX.out
 have HSH : SH W1 W1 := Below.refl _ _
 have CS1 : Hid (∀ Y, SH W1 Y → Calls Tryz.prog 59 #[.agg #[.int .i64 4, .int .i64 bin, .int .i64 d, .int .i64 ak, .int .u32 an, .int .i64 bk, .int .u32 bn, .int .i64 (kk : Int), .int .i64 off, .int .i64 wd, .bool sg, .slice xp args.length xc], .agg #[.int .i64 4, .int .i64 0, .int .i64 d, .int .i64 0, .int .u32 0, .int .i64 0, .int .u32 0, .int .i64 (kk : Int), .int .i64 off, .int .i64 0, .bool false, .slice none 0 0]] Y fun e w' => e = .returned (.bool SB) ∧ Below Y.heap.size Y w') := fun Y h => CSM.out Y (HB.out.trans (Below.mono h HB.out.size))
 go_region_held3 (fun Y => SH W1 Y) (with_reducible first | assumption | (refine SH.drew ?_; assumption) | (refine SH.below ?_ (by assumption); assumption)) (first
  | (go_at_call 84; refine (CSH.out _).mono ?_; rintro e y1 ⟨rfl, hy1⟩)
  | (go_at_call 59; refine (CS1.out _ (SH.below (SH.drew HSH) hy1)).mono ?_; rintro e y2 ⟨rfl, hy2⟩))
 have HY : Hid (Below W1.heap.size W1 y2) := SH.below (SH.below (SH.drew HSH) hy1) hy2
 clear hy1 hy2 HSH g0 g1 g2 g3 g4 g5 g6 g7 g8 g9 g10 g11 CS1 CSM CSH
 have HYw : Hid (Below w.heap.size w y2) := HB.out.trans (HY.out.mono HB.out.size)
 cases SB with
 | false =>
  go_wp2_with fail
  go_ret
  exact ⟨by rw [HR.out]; simp, HYw.out⟩
 | true =>
  have x0 := (Lib.cell_of_heap (blk_b NX.out HY.out) 0).trans rfl
  go_upto_region 11 with (fail)
  clear x0
  have HY0 : Hid (SH y2 y2) := Below.refl _ _
  obtain ⟨F0, F1, F2, F3, F4, F5, F6, F7, F8, F9, F10, F11⟩ := sat12 (blk_b NX.out HY.out)
  obtain ⟨G0, G1, G2, G3, G4, G5⟩ := sat6 (blk_b NF.out HY.out)
  clear F0 F1 F3 F4 F5 F6 F9 F10 F11
  have P0 : ∀ Z : SAT y2, Z.val.cell? ⟨w.heap.size, 0, none⟩ = some (.slice (some ⟨gg, ro, none⟩) obs.length oc) := fun Z => (Lib.cell_of_heap (blk_b NP.out (HY.out.trans (Below.mono Z.ok HY.out.size))) 0).trans rfl
  have cq0 : ∀ Z : SAT y2, Calls Tryz.prog 85 #[.agg #[.string nm, .int .i64 pr, .int .i64 tp, .bool gv, .slice sp sn sc, .slice cp cn cc], .int .i64 d] Z.val fun e w' => e = .returned (.bool B0) ∧ ∃ Z' : SAT y2, w' = Z'.val := fun Z => (CC0.out Z.val).mono fun e w' ⟨he, hb⟩ => ⟨he, ⟨w', SH.below Z.ok hb⟩, rfl⟩
  have cq1 : ∀ Z : SAT y2, Calls Tryz.prog 33 #[.int .i64 (kk : Int), .int .i64 0, .int .i64 ((obs.length : Int) - 1)] Z.val fun e w' => e = .returned (.bool true) ∧ ∃ Z' : SAT y2, w' = Z'.val := fun Z => (CW1.out Z.val).mono fun e w' ⟨he, hb⟩ => ⟨he, ⟨w', SH.below Z.ok hb⟩, rfl⟩
  have FS : ∀ Z : SAT y2, Z.val.cell? ⟨gg, ro + kk * 5 + 1, none⟩ = some (.int .i64 sz) := fun Z => HSZ.out Z.val (HYw.out.trans (Below.mono Z.ok HYw.out.size))
  have cq2 : ∀ Z : SAT y2, Calls Tryz.prog 33 #[.int .i64 off, .int .i64 0, .int .i64 sz] Z.val fun e w' => e = .returned (.bool B1) ∧ ∃ Z' : SAT y2, w' = Z'.val := fun Z => (CW2.out Z.val).mono fun e w' ⟨he, hb⟩ => ⟨he, ⟨w', SH.below Z.ok hb⟩, rfl⟩
  have HS0 : Hid (SH y2 y2.drew) := SH.drew HY0
  cases B0 with
  | false =>
   refine wp_region_sub (W := y2) (by kernel_rfl) (by kernel_rfl) HS0.out ?_
   repeat (go_big_quiet_step (first | (with_reducible exact cq0 _) | (with_reducible exact cq1 _) | (with_reducible exact cq2 _)))
   refine wpQuiet_nil ?_
   intro wq hq
   obtain ⟨⟨Zq, hZ⟩, hq2⟩ := hq
   have HB2 : Hid (Below w.heap.size w wq) := by rw [hq2]; exact HYw.out.trans (hZ.mono HYw.out.size)
   clear hq2
   go_wp2
   go_ret
   exact ⟨by rw [HR.out]; simp, HB2.out⟩
  | true =>
   refine wp_region_sub (W := y2) (by kernel_rfl) (by kernel_rfl) HS0.out ?_
   repeat (go_big_quiet_step (first | (with_reducible exact cq0 _) | (with_reducible exact cq1 _) | (with_reducible exact cq2 _)))
   refine wpQuiet_nil ?_
   intro wq hq
   obtain ⟨⟨Zq, hZ⟩, hq2⟩ := hq
   have HB2 : Hid (Below w.heap.size w wq) := by rw [hq2]; exact HYw.out.trans (hZ.mono HYw.out.size)
   clear hq2
   go_wp2
   go_ret
   exact ⟨by rw [HR.out]; simp, HB2.out⟩
end
end Go.Proofs.YtelaaaamnphbpaaGreatDoor