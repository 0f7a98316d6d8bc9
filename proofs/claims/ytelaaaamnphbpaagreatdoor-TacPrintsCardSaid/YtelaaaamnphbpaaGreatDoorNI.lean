/- The given answer's call. -/
import Derived.Test.YtelaaaamnphbpaaGreatDoorKE
import Derived.Below
import Derived.Test.YtelaaaamnphbpaaGreatDoorKL
import Derived.Test.YtelaaaamnphbpaaGreatDoorThB
import Derived.Deep.RegionHeld3
namespace Go.Proofs.YtelaaaamnphbpaaGreatDoor
set_option maxHeartbeats 16000000
open Go.RowKit
set_option linter.unusedVariables false
set_option maxRecDepth 100000
theorem refname_1 (w : World) : Calls Tryz.prog 87 #[.int .i64 1] w fun e w' => e = .returned (.string ⟨#[97, 100, 100]⟩) ∧ Below w.heap.size w w' := by
 go_enter Tryz.func87, Tryz.ntmps87
 go_wp2
 go_ret
 exact ⟨rfl, (Below.refl _ _).alloc (Nat.le_refl _) _⟩
theorem refname_2 (w : World) : Calls Tryz.prog 87 #[.int .i64 2] w fun e w' => e = .returned (.string ⟨#[115, 117, 98]⟩) ∧ Below w.heap.size w w' := by
 go_enter Tryz.func87, Tryz.ntmps87
 go_wp2
 go_ret
 exact ⟨rfl, (Below.refl _ _).alloc (Nat.le_refl _) _⟩
theorem refname_3 (w : World) : Calls Tryz.prog 87 #[.int .i64 3] w fun e w' => e = .returned (.string ⟨#[109, 117, 108]⟩) ∧ Below w.heap.size w w' := by
 go_enter Tryz.func87, Tryz.ntmps87
 go_wp2
 go_ret
 exact ⟨rfl, (Below.refl _ _).alloc (Nat.le_refl _) _⟩
theorem refname_4 (w : World) : Calls Tryz.prog 87 #[.int .i64 4] w fun e w' => e = .returned (.string ⟨#[100, 105, 118, 115]⟩) ∧ Below w.heap.size w w' := by
 go_enter Tryz.func87, Tryz.ntmps87
 go_wp2
 go_ret
 exact ⟨rfl, (Below.refl _ _).alloc (Nat.le_refl _) _⟩
theorem refname_5 (w : World) : Calls Tryz.prog 87 #[.int .i64 5] w fun e w' => e = .returned (.string ⟨#[100, 105, 118, 117]⟩) ∧ Below w.heap.size w w' := by
 go_enter Tryz.func87, Tryz.ntmps87
 go_wp2
 go_ret
 exact ⟨rfl, (Below.refl _ _).alloc (Nat.le_refl _) _⟩
theorem refname_6 (w : World) : Calls Tryz.prog 87 #[.int .i64 6] w fun e w' => e = .returned (.string ⟨#[114, 101, 109, 115]⟩) ∧ Below w.heap.size w w' := by
 go_enter Tryz.func87, Tryz.ntmps87
 go_wp2
 go_ret
 exact ⟨rfl, (Below.refl _ _).alloc (Nat.le_refl _) _⟩
theorem refname_7 (w : World) : Calls Tryz.prog 87 #[.int .i64 7] w fun e w' => e = .returned (.string ⟨#[114, 101, 109, 117]⟩) ∧ Below w.heap.size w w' := by
 go_enter Tryz.func87, Tryz.ntmps87
 go_wp2
 go_ret
 exact ⟨rfl, (Below.refl _ _).alloc (Nat.le_refl _) _⟩
theorem refname_8 (w : World) : Calls Tryz.prog 87 #[.int .i64 8] w fun e w' => e = .returned (.string ⟨#[97, 110, 100]⟩) ∧ Below w.heap.size w w' := by
 go_enter Tryz.func87, Tryz.ntmps87
 go_wp2
 go_ret
 exact ⟨rfl, (Below.refl _ _).alloc (Nat.le_refl _) _⟩
theorem refname_9 (w : World) : Calls Tryz.prog 87 #[.int .i64 9] w fun e w' => e = .returned (.string ⟨#[111, 114]⟩) ∧ Below w.heap.size w w' := by
 go_enter Tryz.func87, Tryz.ntmps87
 go_wp2
 go_ret
 exact ⟨rfl, (Below.refl _ _).alloc (Nat.le_refl _) _⟩
theorem refname_10 (w : World) : Calls Tryz.prog 87 #[.int .i64 10] w fun e w' => e = .returned (.string ⟨#[120, 111, 114]⟩) ∧ Below w.heap.size w w' := by
 go_enter Tryz.func87, Tryz.ntmps87
 go_wp2
 go_ret
 exact ⟨rfl, (Below.refl _ _).alloc (Nat.le_refl _) _⟩
theorem refname_11 (w : World) : Calls Tryz.prog 87 #[.int .i64 11] w fun e w' => e = .returned (.string ⟨#[115, 104, 108]⟩) ∧ Below w.heap.size w w' := by
 go_enter Tryz.func87, Tryz.ntmps87
 go_wp2
 go_ret
 exact ⟨rfl, (Below.refl _ _).alloc (Nat.le_refl _) _⟩
theorem refname_12 (w : World) : Calls Tryz.prog 87 #[.int .i64 12] w fun e w' => e = .returned (.string ⟨#[115, 104, 114, 115]⟩) ∧ Below w.heap.size w w' := by
 go_enter Tryz.func87, Tryz.ntmps87
 go_wp2
 go_ret
 exact ⟨rfl, (Below.refl _ _).alloc (Nat.le_refl _) _⟩
theorem refname_13 (w : World) : Calls Tryz.prog 87 #[.int .i64 13] w fun e w' => e = .returned (.string ⟨#[115, 104, 114, 117]⟩) ∧ Below w.heap.size w w' := by
 go_enter Tryz.func87, Tryz.ntmps87
 go_wp2
 go_ret
 exact ⟨rfl, (Below.refl _ _).alloc (Nat.le_refl _) _⟩
theorem refname_14 (w : World) : Calls Tryz.prog 87 #[.int .i64 14] w fun e w' => e = .returned (.string ⟨#[101, 113]⟩) ∧ Below w.heap.size w w' := by
 go_enter Tryz.func87, Tryz.ntmps87
 go_wp2
 go_ret
 exact ⟨rfl, (Below.refl _ _).alloc (Nat.le_refl _) _⟩
theorem refname_15 (w : World) : Calls Tryz.prog 87 #[.int .i64 15] w fun e w' => e = .returned (.string ⟨#[110, 101]⟩) ∧ Below w.heap.size w w' := by
 go_enter Tryz.func87, Tryz.ntmps87
 go_wp2
 go_ret
 exact ⟨rfl, (Below.refl _ _).alloc (Nat.le_refl _) _⟩
theorem refname_16 (w : World) : Calls Tryz.prog 87 #[.int .i64 16] w fun e w' => e = .returned (.string ⟨#[108, 116, 115]⟩) ∧ Below w.heap.size w w' := by
 go_enter Tryz.func87, Tryz.ntmps87
 go_wp2
 go_ret
 exact ⟨rfl, (Below.refl _ _).alloc (Nat.le_refl _) _⟩
theorem refname_17 (w : World) : Calls Tryz.prog 87 #[.int .i64 17] w fun e w' => e = .returned (.string ⟨#[108, 116, 117]⟩) ∧ Below w.heap.size w w' := by
 go_enter Tryz.func87, Tryz.ntmps87
 go_wp2
 go_ret
 exact ⟨rfl, (Below.refl _ _).alloc (Nat.le_refl _) _⟩
theorem refname_18 (w : World) : Calls Tryz.prog 87 #[.int .i64 18] w fun e w' => e = .returned (.string ⟨#[108, 101, 115]⟩) ∧ Below w.heap.size w w' := by
 go_enter Tryz.func87, Tryz.ntmps87
 go_wp2
 go_ret
 exact ⟨rfl, (Below.refl _ _).alloc (Nat.le_refl _) _⟩
theorem refname_19 (w : World) : Calls Tryz.prog 87 #[.int .i64 19] w fun e w' => e = .returned (.string ⟨#[108, 101, 117]⟩) ∧ Below w.heap.size w w' := by
 go_enter Tryz.func87, Tryz.ntmps87
 go_wp2
 go_ret
 exact ⟨rfl, (Below.refl _ _).alloc (Nat.le_refl _) _⟩
theorem refname_no (op : Int) (h : op < 1 ∨ 19 < op) (w : World) : Calls Tryz.prog 87 #[.int .i64 op] w fun e w' => e = .returned (.string ⟨#[]⟩) ∧ w' = w := by
 rcases h with h | h
 ·go_enter Tryz.func87, Tryz.ntmps87
  go_wp2
  go_ret
  exact ⟨rfl, rfl⟩
 ·have h2 : ¬ op < 1 := by omega
  go_enter Tryz.func87, Tryz.ntmps87
  go_wp2
  go_ret
  exact ⟨rfl, rfl⟩
theorem rname_c (b : Int) (w : World) : Calls Tryz.prog 87 #[.int .i64 b] w fun e w' => e = .returned (.string (opName b)) ∧ Below w.heap.size w w' := by
 by_cases h : 1 ≤ b ∧ b ≤ 19
 ·have hk : b = 1 ∨ b = 2 ∨ b = 3 ∨ b = 4 ∨ b = 5 ∨ b = 6 ∨ b = 7 ∨ b = 8 ∨ b = 9 ∨ b = 10 ∨ b = 11 ∨ b = 12 ∨ b = 13 ∨ b = 14 ∨ b = 15 ∨ b = 16 ∨ b = 17 ∨ b = 18 ∨ b = 19 := by omega
  rcases hk with rfl | rfl | rfl | rfl | rfl | rfl | rfl | rfl | rfl | rfl | rfl | rfl | rfl | rfl | rfl | rfl | rfl | rfl | rfl
  ·rw [show opName 1 = ⟨#[97, 100, 100]⟩ by decide +kernel]; exact refname_1 w
  ·rw [show opName 2 = ⟨#[115, 117, 98]⟩ by decide +kernel]; exact refname_2 w
  ·rw [show opName 3 = ⟨#[109, 117, 108]⟩ by decide +kernel]; exact refname_3 w
  ·rw [show opName 4 = ⟨#[100, 105, 118, 115]⟩ by decide +kernel]; exact refname_4 w
  ·rw [show opName 5 = ⟨#[100, 105, 118, 117]⟩ by decide +kernel]; exact refname_5 w
  ·rw [show opName 6 = ⟨#[114, 101, 109, 115]⟩ by decide +kernel]; exact refname_6 w
  ·rw [show opName 7 = ⟨#[114, 101, 109, 117]⟩ by decide +kernel]; exact refname_7 w
  ·rw [show opName 8 = ⟨#[97, 110, 100]⟩ by decide +kernel]; exact refname_8 w
  ·rw [show opName 9 = ⟨#[111, 114]⟩ by decide +kernel]; exact refname_9 w
  ·rw [show opName 10 = ⟨#[120, 111, 114]⟩ by decide +kernel]; exact refname_10 w
  ·rw [show opName 11 = ⟨#[115, 104, 108]⟩ by decide +kernel]; exact refname_11 w
  ·rw [show opName 12 = ⟨#[115, 104, 114, 115]⟩ by decide +kernel]; exact refname_12 w
  ·rw [show opName 13 = ⟨#[115, 104, 114, 117]⟩ by decide +kernel]; exact refname_13 w
  ·rw [show opName 14 = ⟨#[101, 113]⟩ by decide +kernel]; exact refname_14 w
  ·rw [show opName 15 = ⟨#[110, 101]⟩ by decide +kernel]; exact refname_15 w
  ·rw [show opName 16 = ⟨#[108, 116, 115]⟩ by decide +kernel]; exact refname_16 w
  ·rw [show opName 17 = ⟨#[108, 116, 117]⟩ by decide +kernel]; exact refname_17 w
  ·rw [show opName 18 = ⟨#[108, 101, 115]⟩ by decide +kernel]; exact refname_18 w
  ·rw [show opName 19 = ⟨#[108, 101, 117]⟩ by decide +kernel]; exact refname_19 w
 ·have hn : b < 1 ∨ 19 < b := by omega
  rw [show opName b = ⟨#[]⟩ by unfold opName; rw [if_neg h]]
  exact (refname_no b hn w).mono fun e w' ⟨he, hw⟩ => ⟨he, hw ▸ Below.refl _ _⟩
end Go.Proofs.YtelaaaamnphbpaaGreatDoor
namespace Go.Proofs.YtelaaaamnphbpaaGreatDoor
set_option maxHeartbeats 16000000
open Go.RowKit Go.Maps
set_option linter.unusedVariables false
set_option linter.unusedSimpArgs false
set_option maxRecDepth 100000
def rcallB (tp : Int) (fns : List Fn) (x : In) : Bool := withinP x.n 0 ((fns.length : Int) - 1) && (match fns[x.n.toNat]? with | some f => callB tp f.pr f.gv x | none => false)
section
variable {w : World}
theorem rCall_c {op : Option Addr} {on oc : Nat} {mn : Int} {fp : Option Addr} {fc : Nat} {fns : List Fn} (hr : RowV fnC 6 w fp fc fns) (hl : fns.length ≤ 9223372036854775806) (f : Fn) (h0 : 0 ≤ f.tp) (h1 : f.tp ≤ 9223372036854775807) {x : In} {xp : Option Addr} {xc : Nat} (hx : InOK w x xp xc) :
 Calls Tryz.prog 88 #[.agg #[.slice op on oc, .slice fp fns.length fc, .int .i64 mn], .agg (fnC f).toArray, .agg (inCells x (.slice xp x.args.length xc)).toArray] w fun e w' => e = .returned (.bool (rcallB f.tp fns x)) ∧ Below w.heap.size w w' := by
 obtain ⟨xop, bin, d, ⟨ak, an⟩, ⟨bk, bn⟩, xn, off, wd, sg, args⟩ := x
 obtain ⟨nm, pr, tp, gv, sp, sn, sc, cp, cn, cc⟩ := f
 simp only at h0 h1 hx ⊢
 obtain ⟨W1, hW1, hNP, hNF, hNX, hHB⟩ := three_ex w (.cells #[.slice op on oc, .slice fp fns.length fc, .int .i64 mn] TPg) (.cells #[.string nm, .int .i64 pr, .int .i64 tp, .bool gv, .slice sp sn sc, .slice cp cn cc] TFn) (.cells #[.int .i64 xop, .int .i64 bin, .int .i64 d, .int .i64 ak, .int .u32 an, .int .i64 bk, .int .u32 bn, .int .i64 xn, .int .i64 off, .int .i64 wd, .bool sg, .slice xp args.length xc] TIn)
 have NP : Hid (_ = _) := hNP
 have NF : Hid (_ = _) := hNF
 have NX : Hid (_ = _) := hNX
 have HB : Hid (Below w.heap.size w _) := hHB
 have HRW : Hid (∀ Y, Below w.heap.size w Y → RowV fnC 6 Y fp fc fns) := fun Y hY => hr.below hY
 have HAV : Hid (∀ Y, Below w.heap.size w Y → ArgV Y (.slice xp args.length xc) args) := fun Y hY => hx.ar.below hY
 have HOK : Hid (∀ a ∈ args, ArOK a) := hx.ao
 have hal : args.length ≤ 9223372036854775806 := hx.al
 have CT : Hid (∀ Y, Calls Tryz.prog 85 #[.agg #[.string nm, .int .i64 pr, .int .i64 tp, .bool gv, .slice sp sn sc, .slice cp cn cc], .int .i64 d] Y fun e w' => e = .returned (.bool (tempB tp d)) ∧ Below Y.heap.size Y w') := fun Y => rTemp_c ⟨nm, pr, tp, gv, sp, sn, sc, cp, cn, cc⟩ d Y
 have CA : Hid (∀ a, ArOK a → ∀ Y, Calls Tryz.prog 86 #[.agg #[.string nm, .int .i64 pr, .int .i64 tp, .bool gv, .slice sp sn sc, .slice cp cn cc], arV a] Y fun e w' => e = .returned (.bool (operB tp a)) ∧ Below Y.heap.size Y w') := fun a ha Y => rArg_c ⟨nm, pr, tp, gv, sp, sn, sc, cp, cn, cc⟩ h0 h1 a ha Y
 obtain ⟨R, hR⟩ : ∃ R, R = rcallB tp fns ⟨xop, bin, d, ⟨ak, an⟩, ⟨bk, bn⟩, xn, off, wd, sg, args⟩ := ⟨_, rfl⟩
 rw [← hR]
 have HR : Hid (R = _) := hR
 have nt := not_t
 have nf := not_f
 have CWI : Hid (∀ Y, Calls Tryz.prog 33 #[.int .i64 xn, .int .i64 0, .int .i64 ((fns.length : Int) - 1)] Y fun e w' => e = .returned (.bool (withinP xn 0 ((fns.length : Int) - 1))) ∧ w' = Y) := fun Y => rwithin_c xn 0 _ Y
 have hwr : IntKind.i64.wrap ((fns.length : Int) - 1) = (fns.length : Int) - 1 := wrap_idI (by omega) (by omega)
 unfold fnC inCells
 show Calls Tryz.prog 88 #[.agg #[.slice op on oc, .slice fp fns.length fc, .int .i64 mn], .agg #[.string nm, .int .i64 pr, .int .i64 tp, .bool gv, .slice sp sn sc, .slice cp cn cc], .agg #[.int .i64 xop, .int .i64 bin, .int .i64 d, .int .i64 ak, .int .u32 an, .int .i64 bk, .int .u32 bn, .int .i64 xn, .int .i64 off, .int .i64 wd, .bool sg, .slice xp args.length xc]] w fun e w' => e = .returned (.bool R) ∧ Below w.heap.size w w'
 clear hNP hNF hNX hHB hr hx hR
 go_enter Tryz.func88, Tryz.ntmps88
 go_upto_region 1 with (fail)
 refine wp_at hW1 ?_
 clear hW1
 have p1 := (Lib.cell_of_heap NP.out 1).trans rfl
 have x2 := (Lib.cell_of_heap NX.out 2).trans rfl
 have x7 := (Lib.cell_of_heap NX.out 7).trans rfl
 have f0 := (Lib.cell_of_heap NF.out 0).trans rfl
 have f1 := (Lib.cell_of_heap NF.out 1).trans rfl
 have f2 := (Lib.cell_of_heap NF.out 2).trans rfl
 have f3 := (Lib.cell_of_heap NF.out 3).trans rfl
 have f4 := (Lib.cell_of_heap NF.out 4).trans rfl
 have f5 := (Lib.cell_of_heap NF.out 5).trans rfl
 obtain ⟨T, hT⟩ : ∃ T, T = (withinP xn 0 ((fns.length : Int) - 1) && (d == -1 || tempB tp d)) := ⟨_, rfl⟩
 have HT : Hid (T = _) := hT
 clear hT
 go_cut [28] from 9 to 28 (fun s28 wx => s28 = .bool (!T) ∧ Hid (Below W1.heap.size W1 wx))
 case first =>
  have HB1 : Hid (Below W1.heap.size W1 W1) := Below.refl _ _
  cases q1 : withinP xn 0 ((fns.length : Int) - 1) with
  | false =>
   have hTf : T = false := by rw [HT.out, q1]; rfl
   subst hTf
   go_wp2_with (first | (go_at_call 33; refine (CWI.out _).mono ?_; rintro e w2 ⟨rfl, hw2⟩; rw [hw2, q1]; clear hw2 w2) | fail)
   go_meet
   exact ⟨rfl, HB1⟩
  | true =>
   cases hd : (d == -1) with
   | true =>
    have hd2 : (d != -1) = false := by simpa using hd
    have hTf : T = true := by rw [HT.out, q1, hd]; rfl
    subst hTf
    clear hd
    go_wp2_with (first | (go_at_call 33; refine (CWI.out _).mono ?_; rintro e w2 ⟨rfl, hw2⟩; rw [hw2, q1]; clear hw2 w2) | fail)
    go_meet
    exact ⟨rfl, HB1⟩
   | false =>
    have hd2 : (d != -1) = true := by simpa using hd
    have hTf : T = tempB tp d := by rw [HT.out, q1, hd]; simp
    have HTF : Hid (T = tempB tp d) := hTf
    clear hd hTf
    have cT := CT.out W1
    rw [← HTF.out] at cT
    cases T with
    | false =>
     go_wp2_with (first | (go_at_call 33; refine (CWI.out _).mono ?_; rintro e w2 ⟨rfl, hw2⟩; rw [hw2, q1]; clear hw2 w2) | (go_at_call 85; refine cT.mono ?_; rintro e w3 ⟨rfl, hb3⟩; have HB3 : Hid (Below W1.heap.size W1 w3) := hb3; clear hb3) | fail)
     go_meet
     exact ⟨rfl, HB3⟩
    | true =>
     go_wp2_with (first | (go_at_call 33; refine (CWI.out _).mono ?_; rintro e w2 ⟨rfl, hw2⟩; rw [hw2, q1]; clear hw2 w2) | (go_at_call 85; refine cT.mono ?_; rintro e w3 ⟨rfl, hb3⟩; have HB3 : Hid (Below W1.heap.size W1 w3) := hb3; clear hb3) | fail)
     go_meet
     exact ⟨rfl, HB3⟩
 case rest =>
  obtain ⟨rfl, HBX⟩ := hcut
  rename World => wx
  clear p1 x2 x7 f0 f1 f2 f3 f4 f5
  have HBW : Hid (Below w.heap.size w wx) := HB.out.trans (HBX.out.mono HB.out.size)
  cases T with
  | false =>
   have HV : Hid (R = false) := by
    show R = false
    rw [HR.out]
    unfold rcallB callB
    have h := HT.out
    cases q1 : withinP xn 0 ((fns.length : Int) - 1) with
    | false => rfl
    | true =>
     rw [q1] at h
     simp only [Bool.true_and] at h ⊢
     have h2 : (d == -1 || tempB tp d) = false := h.symm
     rw [Bool.or_eq_false_iff] at h2
     split
     ·rw [h2.1, h2.2]; simp
     ·rfl
   go_wp2
   go_ret
   exact ⟨by rw [HV.out]; rfl, HBW.out⟩
  | true =>
   have hin : withinP xn 0 ((fns.length : Int) - 1) = true ∧ (d == -1 || tempB tp d) = true := by
    have h := HT.out.symm
    rwa [Bool.and_eq_true] at h
   obtain ⟨hin, hdt⟩ := hin
   have hin2 : 0 ≤ xn ∧ xn ≤ (fns.length : Int) - 1 := by unfold withinP at hin; simpa using hin
   obtain ⟨k, rfl⟩ : ∃ k : Nat, xn = k := ⟨xn.toNat, by omega⟩
   have hk : k < fns.length := by omega
   obtain ⟨g, hg⟩ : ∃ g, fns[k]? = some g := ⟨_, List.getElem?_eq_getElem hk⟩
   have HR1 : Hid (R = callB tp g.pr g.gv ⟨xop, bin, d, ⟨ak, an⟩, ⟨bk, bn⟩, (k : Int), off, wd, sg, args⟩) := by
    show R = _
    rw [HR.out]
    unfold rcallB
    simp only [Int.toNat_natCast]
    rw [hin, hg]
    rfl
   obtain ⟨gb, go, hpe, hgb, hgc⟩ := (HRW.out wx HBW.out).2 k g hg
   have hcap := (HRW.out wx HBW.out).1.1
   subst hpe
   obtain ⟨gnm, gpr, gtp, ggv, gsp, gsn, gsc, gcp, gcn, gcc⟩ := g
   have g0 : wx.cell? ⟨gb, go + k * 6, none⟩ = some (.string gnm) := hgc 0 (by omega)
   have g1 : wx.cell? ⟨gb, go + k * 6 + 1, none⟩ = some (.int .i64 gpr) := hgc 1 (by omega)
   have g2 : wx.cell? ⟨gb, go + k * 6 + 2, none⟩ = some (.int .i64 gtp) := hgc 2 (by omega)
   have g3 : wx.cell? ⟨gb, go + k * 6 + 3, none⟩ = some (.bool ggv) := hgc 3 (by omega)
   have g4 : wx.cell? ⟨gb, go + k * 6 + 4, none⟩ = some (.slice gsp gsn gsc) := hgc 4 (by omega)
   have g5 : wx.cell? ⟨gb, go + k * 6 + 5, none⟩ = some (.slice gcp gcn gcc) := hgc 5 (by omega)
   have p1 := (Lib.cell_of_heap (blk_b NP.out HBX.out) 1).trans rfl
   have x7 := (Lib.cell_of_heap (blk_b NX.out HBX.out) 7).trans rfl
   have b4 := below1 wx (.cells #[.string gnm, .int .i64 gpr, .int .i64 gtp, .bool ggv, .slice gsp gsn gsc, .slice gcp gcn gcc] TFn)
   have NG : Hid ((wx.alloc (.cells #[.string gnm, .int .i64 gpr, .int .i64 gtp, .bool ggv, .slice gsp gsn gsc, .slice gcp gcn gcc] TFn)).heap[wx.heap.size]? = some (.cells #[.string gnm, .int .i64 gpr, .int .i64 gtp, .bool ggv, .slice gsp gsn gsc, .slice gcp gcn gcc] TFn (0, 0))) := heap_r0 wx _
   have HB4 : Hid (Below W1.heap.size W1 (wx.alloc (.cells #[.string gnm, .int .i64 gpr, .int .i64 gtp, .bool ggv, .slice gsp gsn gsc, .slice gcp gcn gcc] TFn))) := HBX.out.trans (b4.mono HBX.out.size)
   have hold := heap_r0 wx (.cells #[.string ⟨#[]⟩, .int .i64 0, .int .i64 0, .bool false, .slice none 0 0, .slice none 0 0] TFn)
   clear hgc hg hin hin2 b4 HT
   go_upto_region 4 with (first | ((with_reducible apply step_store hold); rfl; rfl; kernel_rfl; rfl; kernel_rfl; rw [World.setRow_alloc_new]) | fail)
   refine (?_ : Code.wp _ _ _ _ (wx.alloc (.cells #[.string gnm, .int .i64 gpr, .int .i64 gtp, .bool ggv, .slice gsp gsn gsc, .slice gcp gcn gcc] TFn)))
   generalize wx.alloc (.cells #[.string gnm, .int .i64 gpr, .int .i64 gtp, .bool ggv, .slice gsp gsn gsc, .slice gcp gcn gcc] TFn) = W4 at *
   generalize wx.heap.size = gb4 at *
   have x2 := (Lib.cell_of_heap (blk_b NX.out HB4.out) 2).trans rfl
   have x11 := (Lib.cell_of_heap (blk_b NX.out HB4.out) 11).trans rfl
   have n1 := (Lib.cell_of_heap NG.out 1).trans rfl
   have n3 := (Lib.cell_of_heap NG.out 3).trans rfl
   obtain ⟨U, hU⟩ : ∃ U, U = ((d != -1 && !ggv) || ((args.length : Int) != gpr)) := ⟨_, rfl⟩
   have HU : Hid (U = _) := hU
   clear hU g0 g1 g2 g3 g4 g5 p1 x7 hold hcap
   have HDT : Hid ((d == -1 || tempB tp d) = true) := hdt
   clear hdt
   go_cut [50] from 35 to 50 (fun s50 wy => s50 = .bool U ∧ wy = W4)
   case first =>
    cases hd : (d == -1) with
    | true =>
     have hd2 : (d != -1) = false := by simpa using hd
     cases hq : ((args.length : Int) == gpr) with
     | true =>
      have hq2 : ((args.length : Int) != gpr) = false := by simpa using hq
      have : U = false := by rw [HU.out, hd2, hq2]; rfl
      subst this
      clear hd hq
      go_wp2
      go_meet
      exact ⟨rfl, rfl⟩
     | false =>
      have hq2 : ((args.length : Int) != gpr) = true := by simpa using hq
      have : U = true := by rw [HU.out, hd2, hq2]; rfl
      subst this
      clear hd hq
      go_wp2
      go_meet
      exact ⟨rfl, rfl⟩
    | false =>
     have hd2 : (d != -1) = true := by simpa using hd
     cases ggv with
     | false =>
      have : U = true := by rw [HU.out, hd2]; rfl
      subst this
      clear hd
      go_wp2
      go_meet
      exact ⟨rfl, rfl⟩
     | true =>
      cases hq : ((args.length : Int) == gpr) with
      | true =>
       have hq2 : ((args.length : Int) != gpr) = false := by simpa using hq
       have : U = false := by rw [HU.out, hd2, hq2]; rfl
       subst this
       clear hd hq
       go_wp2
       go_meet
       exact ⟨rfl, rfl⟩
      | false =>
       have hq2 : ((args.length : Int) != gpr) = true := by simpa using hq
       have : U = true := by rw [HU.out, hd2, hq2]; rfl
       subst this
       clear hd hq
       go_wp2
       go_meet
       exact ⟨rfl, rfl⟩
   case rest =>
    obtain ⟨rfl, hwy⟩ := hcut
    rw [hwy]
    clear hwy x2 x11 n1 n3
    have HBW4 : Hid (Below w.heap.size w W4) := HB.out.trans (HB4.out.mono HB.out.size)
    cases U with
    | true =>
     have HV : Hid (R = false) := by
      show R = false
      rw [HR1.out]
      unfold callB
      have h := HU.out
      simp only
      cases hq : ((args.length : Int) == gpr) with
      | false => rfl
      | true =>
       have hq2 : ((args.length : Int) != gpr) = false := by simpa using hq
       rw [hq2, Bool.or_false] at h
       have h2 := h.symm
       rw [Bool.and_eq_true] at h2
       have hd : (d == -1) = false := by simpa using h2.1
       have hg : ggv = false := by simpa using h2.2
       rw [hd, hg]
       simp
     go_wp2
     go_ret
     exact ⟨by rw [HV.out]; rfl, HBW4.out⟩
    | false =>
     have HR2 : Hid (R = args.all (operB tp)) := by
      show R = _
      rw [HR1.out]
      unfold callB
      have h := HU.out.symm
      rw [Bool.or_eq_false_iff] at h
      have hq : ((args.length : Int) == gpr) = true := by have := h.2; simpa using this
      simp only
      rw [hq, Bool.true_and]
      have h3 : (d == -1 || (ggv && tempB tp d)) = true := by
       cases hd : (d == -1) with
       | true => rfl
       | false =>
        have hd2 : (d != -1) = true := by simpa using hd
        have hgg := h.1
        rw [hd2, Bool.true_and] at hgg
        have hg : ggv = true := by simpa using hgg
        have ht := HDT.out
        rw [hd, Bool.false_or] at ht
        rw [hg, ht]
        rfl
      rw [h3, Bool.and_true]
     go_wp2
     go_loopw [8] (fun iv wr => ∃ m : Nat, iv = .int .i64 m ∧ m ≤ args.length ∧ Hid ((args.take m).all (operB tp) = true) ∧ Hid (Below W4.heap.size W4 wr)) (fun iv _ => args.length - (intOf iv).toNat)
     case atStart => exact ⟨0, rfl, Nat.zero_le _, rfl, Below.refl _ _⟩
     case round =>
      obtain ⟨m, rfl, hm, HAL, HB5⟩ := hrel
      have HB15 : Hid (Below W1.heap.size W1 wr) := HB4.out.trans (HB5.out.mono HB4.out.size)
      have HBw5 : Hid (Below w.heap.size w wr) := HB.out.trans (HB15.out.mono HB.out.size)
      have NXr := blk_b NX.out HB15.out
      have NFr := blk_b NF.out HB15.out
      by_cases hlt : m < args.length
      ·obtain ⟨a, ha⟩ : ∃ a, args[m]? = some a := ⟨_, List.getElem?_eq_getElem hlt⟩
       obtain ⟨ap, acap, he, hacap, hac⟩ := HAV.out wr HBw5.out
       injection he with e1 e2 e3
       subst e1 e3
       obtain ⟨g6, o6, hpe6, hg6, hc6⟩ := hac m a ha
       have hcp := hacap.1
       subst hpe6
       have A0 : ∀ Y, SH wr Y → Y.cell? ⟨g6, o6 + m * 2, none⟩ = some (.int .i64 a.kind) := fun Y h => (Below.cell h (p := ⟨g6, _, none⟩) hg6).trans (hc6 0 (by omega))
       have A1 : ∀ Y, SH wr Y → Y.cell? ⟨g6, o6 + m * 2 + 1, none⟩ = some (.int .u32 a.n) := fun Y h => (Below.cell h (p := ⟨g6, _, none⟩) hg6).trans (hc6 1 (by omega))
       have F0 : ∀ Y, SH wr Y → Y.cell? ⟨w.heap.size + 1, 0, none⟩ = some (.string nm) := fun Y h => (Lib.cell_of_heap (blk_b NFr h) 0).trans rfl
       have F1 : ∀ Y, SH wr Y → Y.cell? ⟨w.heap.size + 1, 1, none⟩ = some (.int .i64 pr) := fun Y h => (Lib.cell_of_heap (blk_b NFr h) 1).trans rfl
       have F2 : ∀ Y, SH wr Y → Y.cell? ⟨w.heap.size + 1, 2, none⟩ = some (.int .i64 tp) := fun Y h => (Lib.cell_of_heap (blk_b NFr h) 2).trans rfl
       have F3 : ∀ Y, SH wr Y → Y.cell? ⟨w.heap.size + 1, 3, none⟩ = some (.bool gv) := fun Y h => (Lib.cell_of_heap (blk_b NFr h) 3).trans rfl
       have F4 : ∀ Y, SH wr Y → Y.cell? ⟨w.heap.size + 1, 4, none⟩ = some (.slice sp sn sc) := fun Y h => (Lib.cell_of_heap (blk_b NFr h) 4).trans rfl
       have F5 : ∀ Y, SH wr Y → Y.cell? ⟨w.heap.size + 1, 5, none⟩ = some (.slice cp cn cc) := fun Y h => (Lib.cell_of_heap (blk_b NFr h) 5).trans rfl
       have X11 : ∀ Y, SH wr Y → Y.cell? ⟨w.heap.size + 2, 11, none⟩ = some (.slice (some ⟨g6, o6, none⟩) args.length xc) := fun Y h => (Lib.cell_of_heap (blk_b NXr h) 11).trans rfl
       have cA : Hid (∀ Y, SH wr Y → Calls Tryz.prog 86 #[.agg #[.string nm, .int .i64 pr, .int .i64 tp, .bool gv, .slice sp sn sc, .slice cp cn cc], .agg #[.int .i64 a.kind, .int .u32 a.n]] Y fun e w' => e = .returned (.bool (operB tp a)) ∧ Below Y.heap.size Y w') := fun Y _ => CA.out a (HOK.out a (List.mem_of_getElem? ha)) Y
       have HATH : Hid ((args.take (m + 1)).all (operB tp) = operB tp a) := by show _ = _; rw [all_take (p := operB tp) ha, HAL.out, Bool.true_and]
       have HMEM : Hid (operB tp a = false → args.all (operB tp) = false) := fun hf => by
        rw [List.all_eq_false]; exact ⟨a, List.mem_of_getElem? ha, by simp [hf]⟩
       generalize operB tp a = ob at *
       have HSH : SH wr wr := Below.refl _ _
       clear hac hc6 ha e2 NXr NFr
       go_upto_region 9 with (fail)
       go_region_held3 (fun Y => SH wr Y) (with_reducible first | assumption | (refine SH.drew ?_; assumption) | (refine SH.below ?_ (by assumption); assumption)) (first
        | (go_at_call 86; refine (cA.out _ ?_).mono ?_; (with_reducible first | assumption | (refine SH.drew ?_; assumption)); rintro e y1 ⟨rfl, hy1⟩))
       have HBY : Hid (Below W4.heap.size W4 y1) := HB5.out.trans (Below.mono (SH.below (SH.drew HSH) hy1) HB5.out.size)
       cases ob with
       | false =>
        have HV : Hid (R = false) := by show R = false; rw [HR2.out, HMEM.out rfl]
        go_wp2
        go_ret
        exact ⟨by rw [HV.out]; rfl, HBW4.out.trans (HBY.out.mono HBW4.out.size)⟩
       | true =>
        go_wp2
        exact ⟨⟨m + 1, by go_num, by omega, HATH, HBY⟩, by simp [intOf]; omega⟩
      ·obtain rfl : m = args.length := by omega
       have HV : Hid (R = true) := by
        have := HAL.out
        rw [List.take_length] at this
        show R = true
        rw [HR2.out, this]
       have x11 := (Lib.cell_of_heap NXr 11).trans rfl
       have hge : ¬ ((args.length : Int) < (args.length : Int)) := by omega
       go_wp2
       go_ret
       exact ⟨by rw [HV.out]; rfl, HBw5.out⟩
end
end Go.Proofs.YtelaaaamnphbpaaGreatDoor