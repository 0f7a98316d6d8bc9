/- The given answer's line of an instruction. -/
import Derived.Test.YtelaaaamnphbpaaGreatDoorTjA
import Derived.Test.YtelaaaamnphbpaaGreatDoorThD
import Derived.Test.YtelaaaamnphbpaaGreatDoorNI
namespace Go.Proofs.YtelaaaamnphbpaaGreatDoor
set_option maxHeartbeats 8000000
open Go.RowKit Go.Maps
set_option linter.unusedVariables false
set_option linter.unusedSimpArgs false
set_option maxRecDepth 100000
theorem cat1 {a b : ByteArray} {m n : Nat} (ha : a.size ≤ m) (hb : b.size ≤ n) (h : m + n ≤ 1000000000) : (∀ W : World, (Op.stringOp .add a b).run Tryz.prog W = .ok (.string (a ++ b)) W) ∧ (a ++ b).size ≤ m + n :=
 ⟨fun W => run_string_add_sum W a b (by omega), by rw [ByteArray.size_append]; omega⟩
theorem uno_ex (w : World) (A : Obj) : ∃ W, W = w.alloc A ∧ W.heap[w.heap.size]? = some A ∧ Below w.heap.size w W := ⟨_, rfl, heap_r0 w A, below1 w A⟩
def Sm (n : Int) : Prop := -4294967295 ≤ n ∧ n ≤ 4294967295
theorem decS_nat {n : Int} (h : 0 ≤ n) : decS n = natS n.toNat := by
 unfold decS natS Lib.itoa
 rw [if_neg (by omega)]
theorem argT_sz {a : Ar} (ha : ArOK a) : (argT a).size ≤ 100 := by
 have h := natS_size a.n.toNat (by have := ha.1; have := ha.2; omega)
 unfold argT
 split
 ·rw [pre_size]; omega
 ·split
  ·rw [pre_size]; omega
  ·exact Nat.zero_le _
theorem decS_sm {n : Int} (h : Sm n) : (decS n).size ≤ 100 := Nat.le_trans (decS_size n (by have := h.1; omega) (by have := h.2; omega)) (by decide)
theorem tgtW_sm {n : Int} (h : Sm n) : (tgtW n).size ≤ 100 := tgtW_size ⟨by have := h.1; omega, by have := h.2; omega⟩
theorem opTab_sz : ∀ s ∈ opTab, s.size ≤ 100 := by decide +kernel
theorem opName_sz (b : Int) : (opName b).size ≤ 100 := by
 unfold opName
 split
 ·have hl : (b - 1).toNat < opTab.length := by simp [opTab]; omega
  rw [getD_at hl]
  exact opTab_sz _ (List.getElem_mem hl)
 ·exact Nat.zero_le _
section
variable {w : World}
theorem arg1_c (a : Ar) (ha : ArOK a) (w : World) :
 Calls Tryz.prog 96 #[.agg #[.int .i64 a.kind, .int .u32 a.n]] w fun e w' => e = .returned (.string (argT a)) ∧ Below w.heap.size w w' := by
 have hn0 := ha.1
 have hn1 := ha.2
 obtain ⟨ak, an⟩ := a
 simp only at hn0 hn1 ⊢
 have N1 : Hid ((w.alloc (.cells #[.int .i64 ak, .int .u32 an] TAr)).heap[w.heap.size]? = some (.cells #[.int .i64 ak, .int .u32 an] TAr (0, 0))) := heap_r0 w _
 have HB : Hid (Below w.heap.size w (w.alloc (.cells #[.int .i64 ak, .int .u32 an] TAr))) := below1 w _
 have cD : Hid (∀ Y, Calls Tryz.prog 64 #[.int .i64 an] Y fun e w' => e = .returned (.string (natS an.toNat)) ∧ Below Y.heap.size Y w') := fun Y => by rw [← decS_nat hn0]; exact rdec_c an Y (by omega) (by omega)
 have hw : IntKind.i64.wrap an = an := wrap_idI (by omega) (by omega)
 have hz := natS_size an.toNat (by omega)
 have hE : Hid (argT ⟨ak, an⟩ = if ak = 1 then ⟨#[116]⟩ ++ natS an.toNat else if ak = 2 then ⟨#[35]⟩ ++ natS an.toNat else ⟨#[]⟩) := rfl
 generalize natS an.toNat = S at *
 have k1 := fun W => run_string_add_sum (P := Tryz.prog) W ⟨#[116]⟩ S (by show 1 + S.size ≤ _; omega)
 have k2 := fun W => run_string_add_sum (P := Tryz.prog) W ⟨#[35]⟩ S (by show 1 + S.size ≤ _; omega)
 obtain ⟨R, hR⟩ : ∃ R, R = argT ⟨ak, an⟩ := ⟨_, rfl⟩
 have HR : Hid (R = if ak = 1 then ⟨#[116]⟩ ++ S else if ak = 2 then ⟨#[35]⟩ ++ S else ⟨#[]⟩) := hR.trans hE.out
 rw [← hR]
 clear hR hE
 go_enter Tryz.func96, Tryz.ntmps96
 go_upto_region 1 with (fail)
 refine (?_ : Code.wp _ _ _ _ (w.alloc (.cells #[.int .i64 ak, .int .u32 an] TAr)))
 generalize w.alloc (.cells #[.int .i64 ak, .int .u32 an] TAr) = W1 at *
 have c0 := (Lib.cell_of_heap N1.out 0).trans rfl
 have c1 := (Lib.cell_of_heap N1.out 1).trans rfl
 cases h1 : (ak == 1) with
 | true =>
  have e1 : ak = 1 := by simpa using h1
  have HV : Hid (R = ⟨#[116]⟩ ++ S) := HR.out.trans (if_pos e1)
  subst e1
  go_wp2_with (first | (go_at_call 64; refine (cD.out _).mono ?_; rintro e w2 ⟨rfl, hb2⟩; have HB2 : Hid (Below w.heap.size w w2) := HB.out.trans (hb2.mono HB.out.size); clear hb2) | fail)
  go_ret
  exact ⟨by rw [HV.out]; rfl, HB2.out⟩
 | false =>
  have e1 : ¬ ak = 1 := by simpa using h1
  cases h2 : (ak == 2) with
  | true =>
   have e2 : ak = 2 := by simpa using h2
   have HV : Hid (R = ⟨#[35]⟩ ++ S) := HR.out.trans ((if_neg e1).trans (if_pos e2))
   subst e2
   clear e1
   go_wp2_with (first | (go_at_call 64; refine (cD.out _).mono ?_; rintro e w2 ⟨rfl, hb2⟩; have HB2 : Hid (Below w.heap.size w w2) := HB.out.trans (hb2.mono HB.out.size); clear hb2) | fail)
   go_ret
   exact ⟨by rw [HV.out]; rfl, HB2.out⟩
  | false =>
   have e2 : ¬ ak = 2 := by simpa using h2
   have HV : Hid (R = ⟨#[]⟩) := HR.out.trans ((if_neg e1).trans (if_neg e2))
   clear e1 e2
   go_wp2_with fail
   go_ret
   exact ⟨by rw [HV.out]; rfl, HB.out⟩
theorem rd_c (n : Int) (h : Sm n) (w : World) :
 Calls Tryz.prog 95 #[.int .i64 n] w fun e w' => e = .returned (.string (tgtW n)) ∧ Below w.heap.size w w' := by
 have cD : Hid (∀ Y, Calls Tryz.prog 64 #[.int .i64 n] Y fun e w' => e = .returned (.string (decS n)) ∧ Below Y.heap.size Y w') := fun Y => rdec_c n Y h.1 h.2
 have hz := decS_sm h
 have hE : Hid (tgtW n = if n < 0 then ⟨#[45]⟩ else ⟨#[116]⟩ ++ decS n) := rfl
 obtain ⟨R, hR⟩ : ∃ R, R = tgtW n := ⟨_, rfl⟩
 rw [← hR]
 have HR : Hid (R = if n < 0 then ⟨#[45]⟩ else ⟨#[116]⟩ ++ decS n) := hR.trans hE.out
 clear hR hE
 generalize decS n = S at *
 have k1 := fun W => run_string_add_sum (P := Tryz.prog) W ⟨#[116]⟩ S (by show 1 + S.size ≤ _; omega)
 by_cases h0 : n < 0
 ·have d0 : decide (n < 0) = true := by simpa using h0
  have HV : Hid (R = ⟨#[45]⟩) := HR.out.trans (if_pos h0)
  clear h0 h
  go_enter Tryz.func95, Tryz.ntmps95
  go_wp2_with fail
  go_ret
  exact ⟨by rw [HV.out]; rfl, Below.refl _ _⟩
 ·have d0 : decide (n < 0) = false := by simpa using h0
  have HV : Hid (R = ⟨#[116]⟩ ++ S) := HR.out.trans (if_neg h0)
  clear h0 h
  go_enter Tryz.func95, Tryz.ntmps95
  go_wp2_with (first | (go_at_call 64; refine (cD.out _).mono ?_; rintro e w2 ⟨rfl, hb2⟩; have HB2 : Hid (Below w.heap.size w w2) := hb2; clear hb2) | fail)
  go_ret
  exact ⟨by rw [HV.out]; rfl, HB2.out⟩
def callT (s : ByteArray) (l : List Ar) : ByteArray := l.foldl (fun s a => (s ++ ⟨#[32]⟩) ++ argT a) s
theorem callT_take (s : ByteArray) {l : List Ar} {k : Nat} {a : Ar} (h : l[k]? = some a) : callT s (l.take (k + 1)) = (callT s (l.take k) ++ ⟨#[32]⟩) ++ argT a := by
 unfold callT
 rw [take_succ h, List.foldl_append]
 rfl
theorem rLine_1 {bin d ak an bk bn xn off wd : Int} {sg : Bool} {args : List Ar} {xp : Option Addr} {xc : Nat} (hd : Sm d) (ha : ArOK ⟨ak, an⟩) (hb : ArOK ⟨bk, bn⟩) (hN : Sm xn) (hO : Sm off) (hW : Sm wd) (w : World) :
 Calls Tryz.prog 66 #[.agg #[.int .i64 1, .int .i64 bin, .int .i64 d, .int .i64 ak, .int .u32 an, .int .i64 bk, .int .u32 bn, .int .i64 xn, .int .i64 off, .int .i64 wd, .bool sg, .slice xp args.length xc]] w fun e w' => e = .returned (.string (((⟨#[109, 111, 118, 32]⟩ ++ tgtW d) ++ ⟨#[32]⟩) ++ argT ⟨ak, an⟩)) ∧ Below w.heap.size w w' := by
 obtain ⟨W1, hW1, n1, hb1⟩ := uno_ex w (.cells #[.int .i64 1, .int .i64 bin, .int .i64 d, .int .i64 ak, .int .u32 an, .int .i64 bk, .int .u32 bn, .int .i64 xn, .int .i64 off, .int .i64 wd, .bool sg, .slice xp args.length xc] TIn)
 have N1 : Hid (_ = _) := n1
 have HB : Hid (Below w.heap.size w W1) := hb1
 clear n1 hb1
 have Cd : Hid (∀ Y, Calls Tryz.prog 95 #[.int .i64 d] Y fun e w' => e = .returned (.string (tgtW d)) ∧ Below Y.heap.size Y w') := fun Y => rd_c d hd Y
 have zd : (tgtW d).size ≤ 100 := tgtW_sm hd
 have Ca : Hid (∀ Y, Calls Tryz.prog 96 #[.agg #[.int .i64 ak, .int .u32 an]] Y fun e w' => e = .returned (.string (argT ⟨ak, an⟩)) ∧ Below Y.heap.size Y w') := fun Y => arg1_c ⟨ak, an⟩ ha Y
 have za : (argT ⟨ak, an⟩).size ≤ 100 := argT_sz ha
 generalize tgtW d = sD at *
 generalize argT ⟨ak, an⟩ = sA at *
 have y0 : ByteArray.size ⟨#[109, 111, 118, 32]⟩ ≤ 100 := (by decide)
 obtain ⟨k0, y1⟩ := cat1 y0 zd (by decide)
 obtain ⟨k1, y2⟩ := cat1 (b := ⟨#[32]⟩) (n := 100) y1 (by decide) (by decide)
 obtain ⟨k2, y3⟩ := cat1 y2 za (by decide)
 clear hd ha hb hN hO hW y0 y1 y2 y3
 go_enter Tryz.func66, Tryz.ntmps66
 go_upto_region 1 with (fail)
 refine wp_at hW1 ?_
 clear hW1
 have x0 := (Lib.cell_of_heap N1.out 0).trans rfl
 go_upto_region 3 with (fail)
 clear x0
 obtain ⟨F0, F1, F2, F3, F4, F5, F6, F7, F8, F9, F10, F11⟩ := sat12 N1.out
 have Kd := sat_calls (W := W1) fun Y _ => Cd.out Y
 have Ka := sat_calls (W := W1) fun Y _ => Ca.out Y
 have HS0 : Hid (SH W1 W1.drew) := SH.drew (Below.refl _ _)
 refine wp_region_sub (W := W1) (by kernel_rfl) (by kernel_rfl) HS0.out ?_
 repeat (go_big_quiet_step (first | (with_reducible exact Kd _) | (with_reducible exact Ka _)))
 refine wpQuiet_nil ?_
 intro wq hq
 obtain ⟨Zq, rfl⟩ := hq
 have HBQ : Hid (Below w.heap.size w Zq.val) := HB.out.trans (Below.mono Zq.ok HB.out.size)
 go_wp2
 go_ret
 exact ⟨rfl, HBQ.out⟩
theorem rLine_2 {bin d ak an bk bn xn off wd : Int} {sg : Bool} {args : List Ar} {xp : Option Addr} {xc : Nat} (hd : Sm d) (ha : ArOK ⟨ak, an⟩) (hb : ArOK ⟨bk, bn⟩) (hN : Sm xn) (hO : Sm off) (hW : Sm wd) (w : World) :
 Calls Tryz.prog 66 #[.agg #[.int .i64 2, .int .i64 bin, .int .i64 d, .int .i64 ak, .int .u32 an, .int .i64 bk, .int .u32 bn, .int .i64 xn, .int .i64 off, .int .i64 wd, .bool sg, .slice xp args.length xc]] w fun e w' => e = .returned (.string ((((((opName bin ++ ⟨#[32]⟩) ++ tgtW d) ++ ⟨#[32]⟩) ++ argT ⟨ak, an⟩) ++ ⟨#[32]⟩) ++ argT ⟨bk, bn⟩)) ∧ Below w.heap.size w w' := by
 obtain ⟨W1, hW1, n1, hb1⟩ := uno_ex w (.cells #[.int .i64 2, .int .i64 bin, .int .i64 d, .int .i64 ak, .int .u32 an, .int .i64 bk, .int .u32 bn, .int .i64 xn, .int .i64 off, .int .i64 wd, .bool sg, .slice xp args.length xc] TIn)
 have N1 : Hid (_ = _) := n1
 have HB : Hid (Below w.heap.size w W1) := hb1
 clear n1 hb1
 have Cn : Hid (∀ Y, Calls Tryz.prog 87 #[.int .i64 bin] Y fun e w' => e = .returned (.string (opName bin)) ∧ Below Y.heap.size Y w') := fun Y => rname_c bin Y
 have zn : (opName bin).size ≤ 100 := opName_sz bin
 have Cd : Hid (∀ Y, Calls Tryz.prog 95 #[.int .i64 d] Y fun e w' => e = .returned (.string (tgtW d)) ∧ Below Y.heap.size Y w') := fun Y => rd_c d hd Y
 have zd : (tgtW d).size ≤ 100 := tgtW_sm hd
 have Ca : Hid (∀ Y, Calls Tryz.prog 96 #[.agg #[.int .i64 ak, .int .u32 an]] Y fun e w' => e = .returned (.string (argT ⟨ak, an⟩)) ∧ Below Y.heap.size Y w') := fun Y => arg1_c ⟨ak, an⟩ ha Y
 have za : (argT ⟨ak, an⟩).size ≤ 100 := argT_sz ha
 have Cb : Hid (∀ Y, Calls Tryz.prog 96 #[.agg #[.int .i64 bk, .int .u32 bn]] Y fun e w' => e = .returned (.string (argT ⟨bk, bn⟩)) ∧ Below Y.heap.size Y w') := fun Y => arg1_c ⟨bk, bn⟩ hb Y
 have zb : (argT ⟨bk, bn⟩).size ≤ 100 := argT_sz hb
 generalize opName bin = sM at *
 generalize tgtW d = sD at *
 generalize argT ⟨ak, an⟩ = sA at *
 generalize argT ⟨bk, bn⟩ = sB2 at *
 have y0 : ByteArray.size sM ≤ 100 := zn
 obtain ⟨k0, y1⟩ := cat1 (b := ⟨#[32]⟩) (n := 100) y0 (by decide) (by decide)
 obtain ⟨k1, y2⟩ := cat1 y1 zd (by decide)
 obtain ⟨k2, y3⟩ := cat1 (b := ⟨#[32]⟩) (n := 100) y2 (by decide) (by decide)
 obtain ⟨k3, y4⟩ := cat1 y3 za (by decide)
 obtain ⟨k4, y5⟩ := cat1 (b := ⟨#[32]⟩) (n := 100) y4 (by decide) (by decide)
 obtain ⟨k5, y6⟩ := cat1 y5 zb (by decide)
 clear hd ha hb hN hO hW y0 y1 y2 y3 y4 y5 y6
 go_enter Tryz.func66, Tryz.ntmps66
 go_upto_region 1 with (fail)
 refine wp_at hW1 ?_
 clear hW1
 have x0 := (Lib.cell_of_heap N1.out 0).trans rfl
 go_upto_region 5 with (fail)
 clear x0
 obtain ⟨F0, F1, F2, F3, F4, F5, F6, F7, F8, F9, F10, F11⟩ := sat12 N1.out
 have Kn := sat_calls (W := W1) fun Y _ => Cn.out Y
 have Kd := sat_calls (W := W1) fun Y _ => Cd.out Y
 have Ka := sat_calls (W := W1) fun Y _ => Ca.out Y
 have Kb := sat_calls (W := W1) fun Y _ => Cb.out Y
 have HS0 : Hid (SH W1 W1.drew) := SH.drew (Below.refl _ _)
 refine wp_region_sub (W := W1) (by kernel_rfl) (by kernel_rfl) HS0.out ?_
 repeat (go_big_quiet_step (first | (with_reducible exact Kn _) | (with_reducible exact Kd _) | (with_reducible exact Ka _) | (with_reducible exact Kb _)))
 refine wpQuiet_nil ?_
 intro wq hq
 obtain ⟨Zq, rfl⟩ := hq
 have HBQ : Hid (Below w.heap.size w Zq.val) := HB.out.trans (Below.mono Zq.ok HB.out.size)
 go_wp2
 go_ret
 exact ⟨rfl, HBQ.out⟩
theorem rLine_3 {bin d ak an bk bn xn off wd : Int} {sg : Bool} {args : List Ar} {xp : Option Addr} {xc : Nat} (hd : Sm d) (ha : ArOK ⟨ak, an⟩) (hb : ArOK ⟨bk, bn⟩) (hN : Sm xn) (hO : Sm off) (hW : Sm wd) (w : World) :
 Calls Tryz.prog 66 #[.agg #[.int .i64 3, .int .i64 bin, .int .i64 d, .int .i64 ak, .int .u32 an, .int .i64 bk, .int .u32 bn, .int .i64 xn, .int .i64 off, .int .i64 wd, .bool sg, .slice xp args.length xc]] w fun e w' => e = .returned (.string (((((⟨#[97, 100, 100, 114, 32]⟩ ++ tgtW d) ++ ⟨#[32]⟩) ++ decS xn) ++ ⟨#[32]⟩) ++ decS off)) ∧ Below w.heap.size w w' := by
 obtain ⟨W1, hW1, n1, hb1⟩ := uno_ex w (.cells #[.int .i64 3, .int .i64 bin, .int .i64 d, .int .i64 ak, .int .u32 an, .int .i64 bk, .int .u32 bn, .int .i64 xn, .int .i64 off, .int .i64 wd, .bool sg, .slice xp args.length xc] TIn)
 have N1 : Hid (_ = _) := n1
 have HB : Hid (Below w.heap.size w W1) := hb1
 clear n1 hb1
 have Cd : Hid (∀ Y, Calls Tryz.prog 95 #[.int .i64 d] Y fun e w' => e = .returned (.string (tgtW d)) ∧ Below Y.heap.size Y w') := fun Y => rd_c d hd Y
 have zd : (tgtW d).size ≤ 100 := tgtW_sm hd
 have CN : Hid (∀ Y, Calls Tryz.prog 64 #[.int .i64 xn] Y fun e w' => e = .returned (.string (decS xn)) ∧ Below Y.heap.size Y w') := fun Y => rdec_c xn Y hN.1 hN.2
 have zN : (decS xn).size ≤ 100 := decS_sm hN
 have CO : Hid (∀ Y, Calls Tryz.prog 64 #[.int .i64 off] Y fun e w' => e = .returned (.string (decS off)) ∧ Below Y.heap.size Y w') := fun Y => rdec_c off Y hO.1 hO.2
 have zO : (decS off).size ≤ 100 := decS_sm hO
 generalize tgtW d = sD at *
 generalize decS xn = sN at *
 generalize decS off = sO at *
 have y0 : ByteArray.size ⟨#[97, 100, 100, 114, 32]⟩ ≤ 100 := (by decide)
 obtain ⟨k0, y1⟩ := cat1 y0 zd (by decide)
 obtain ⟨k1, y2⟩ := cat1 (b := ⟨#[32]⟩) (n := 100) y1 (by decide) (by decide)
 obtain ⟨k2, y3⟩ := cat1 y2 zN (by decide)
 obtain ⟨k3, y4⟩ := cat1 (b := ⟨#[32]⟩) (n := 100) y3 (by decide) (by decide)
 obtain ⟨k4, y5⟩ := cat1 y4 zO (by decide)
 clear hd ha hb hN hO hW y0 y1 y2 y3 y4 y5
 go_enter Tryz.func66, Tryz.ntmps66
 go_upto_region 1 with (fail)
 refine wp_at hW1 ?_
 clear hW1
 have x0 := (Lib.cell_of_heap N1.out 0).trans rfl
 go_upto_region 7 with (fail)
 clear x0
 obtain ⟨F0, F1, F2, F3, F4, F5, F6, F7, F8, F9, F10, F11⟩ := sat12 N1.out
 have Kd := sat_calls (W := W1) fun Y _ => Cd.out Y
 have KN := sat_calls (W := W1) fun Y _ => CN.out Y
 have KO := sat_calls (W := W1) fun Y _ => CO.out Y
 have HS0 : Hid (SH W1 W1.drew) := SH.drew (Below.refl _ _)
 refine wp_region_sub (W := W1) (by kernel_rfl) (by kernel_rfl) HS0.out ?_
 repeat (go_big_quiet_step (first | (with_reducible exact Kd _) | (with_reducible exact KN _) | (with_reducible exact KO _)))
 refine wpQuiet_nil ?_
 intro wq hq
 obtain ⟨Zq, rfl⟩ := hq
 have HBQ : Hid (Below w.heap.size w Zq.val) := HB.out.trans (Below.mono Zq.ok HB.out.size)
 go_wp2
 go_ret
 exact ⟨rfl, HBQ.out⟩
theorem rLine_4 {bin d ak an bk bn xn off wd : Int} {sg : Bool} {args : List Ar} {xp : Option Addr} {xc : Nat} (hd : Sm d) (ha : ArOK ⟨ak, an⟩) (hb : ArOK ⟨bk, bn⟩) (hN : Sm xn) (hO : Sm off) (hW : Sm wd) (w : World) :
 Calls Tryz.prog 66 #[.agg #[.int .i64 4, .int .i64 bin, .int .i64 d, .int .i64 ak, .int .u32 an, .int .i64 bk, .int .u32 bn, .int .i64 xn, .int .i64 off, .int .i64 wd, .bool sg, .slice xp args.length xc]] w fun e w' => e = .returned (.string (((((⟨#[103, 108, 111, 98, 32]⟩ ++ tgtW d) ++ ⟨#[32]⟩) ++ decS xn) ++ ⟨#[32]⟩) ++ decS off)) ∧ Below w.heap.size w w' := by
 obtain ⟨W1, hW1, n1, hb1⟩ := uno_ex w (.cells #[.int .i64 4, .int .i64 bin, .int .i64 d, .int .i64 ak, .int .u32 an, .int .i64 bk, .int .u32 bn, .int .i64 xn, .int .i64 off, .int .i64 wd, .bool sg, .slice xp args.length xc] TIn)
 have N1 : Hid (_ = _) := n1
 have HB : Hid (Below w.heap.size w W1) := hb1
 clear n1 hb1
 have Cd : Hid (∀ Y, Calls Tryz.prog 95 #[.int .i64 d] Y fun e w' => e = .returned (.string (tgtW d)) ∧ Below Y.heap.size Y w') := fun Y => rd_c d hd Y
 have zd : (tgtW d).size ≤ 100 := tgtW_sm hd
 have CN : Hid (∀ Y, Calls Tryz.prog 64 #[.int .i64 xn] Y fun e w' => e = .returned (.string (decS xn)) ∧ Below Y.heap.size Y w') := fun Y => rdec_c xn Y hN.1 hN.2
 have zN : (decS xn).size ≤ 100 := decS_sm hN
 have CO : Hid (∀ Y, Calls Tryz.prog 64 #[.int .i64 off] Y fun e w' => e = .returned (.string (decS off)) ∧ Below Y.heap.size Y w') := fun Y => rdec_c off Y hO.1 hO.2
 have zO : (decS off).size ≤ 100 := decS_sm hO
 generalize tgtW d = sD at *
 generalize decS xn = sN at *
 generalize decS off = sO at *
 have y0 : ByteArray.size ⟨#[103, 108, 111, 98, 32]⟩ ≤ 100 := (by decide)
 obtain ⟨k0, y1⟩ := cat1 y0 zd (by decide)
 obtain ⟨k1, y2⟩ := cat1 (b := ⟨#[32]⟩) (n := 100) y1 (by decide) (by decide)
 obtain ⟨k2, y3⟩ := cat1 y2 zN (by decide)
 obtain ⟨k3, y4⟩ := cat1 (b := ⟨#[32]⟩) (n := 100) y3 (by decide) (by decide)
 obtain ⟨k4, y5⟩ := cat1 y4 zO (by decide)
 clear hd ha hb hN hO hW y0 y1 y2 y3 y4 y5
 go_enter Tryz.func66, Tryz.ntmps66
 go_upto_region 1 with (fail)
 refine wp_at hW1 ?_
 clear hW1
 have x0 := (Lib.cell_of_heap N1.out 0).trans rfl
 go_upto_region 9 with (fail)
 clear x0
 obtain ⟨F0, F1, F2, F3, F4, F5, F6, F7, F8, F9, F10, F11⟩ := sat12 N1.out
 have Kd := sat_calls (W := W1) fun Y _ => Cd.out Y
 have KN := sat_calls (W := W1) fun Y _ => CN.out Y
 have KO := sat_calls (W := W1) fun Y _ => CO.out Y
 have HS0 : Hid (SH W1 W1.drew) := SH.drew (Below.refl _ _)
 refine wp_region_sub (W := W1) (by kernel_rfl) (by kernel_rfl) HS0.out ?_
 repeat (go_big_quiet_step (first | (with_reducible exact Kd _) | (with_reducible exact KN _) | (with_reducible exact KO _)))
 refine wpQuiet_nil ?_
 intro wq hq
 obtain ⟨Zq, rfl⟩ := hq
 have HBQ : Hid (Below w.heap.size w Zq.val) := HB.out.trans (Below.mono Zq.ok HB.out.size)
 go_wp2
 go_ret
 exact ⟨rfl, HBQ.out⟩
theorem rLine_5 {bin d ak an bk bn xn off wd : Int} {sg : Bool} {args : List Ar} {xp : Option Addr} {xc : Nat} (hd : Sm d) (ha : ArOK ⟨ak, an⟩) (hb : ArOK ⟨bk, bn⟩) (hN : Sm xn) (hO : Sm off) (hW : Sm wd) (w : World) :
 Calls Tryz.prog 66 #[.agg #[.int .i64 5, .int .i64 bin, .int .i64 d, .int .i64 ak, .int .u32 an, .int .i64 bk, .int .u32 bn, .int .i64 xn, .int .i64 off, .int .i64 wd, .bool sg, .slice xp args.length xc]] w fun e w' => e = .returned (.string (if sg then (((((((⟨#[108, 111, 97, 100, 32]⟩ ++ tgtW d) ++ ⟨#[32]⟩) ++ argT ⟨ak, an⟩) ++ ⟨#[32]⟩) ++ decS off) ++ ⟨#[32]⟩) ++ decS wd) ++ ⟨#[32, 115, 105, 103, 110, 101, 100]⟩ else (((((((⟨#[108, 111, 97, 100, 32]⟩ ++ tgtW d) ++ ⟨#[32]⟩) ++ argT ⟨ak, an⟩) ++ ⟨#[32]⟩) ++ decS off) ++ ⟨#[32]⟩) ++ decS wd))) ∧ Below w.heap.size w w' := by
 obtain ⟨W1, hW1, n1, hb1⟩ := uno_ex w (.cells #[.int .i64 5, .int .i64 bin, .int .i64 d, .int .i64 ak, .int .u32 an, .int .i64 bk, .int .u32 bn, .int .i64 xn, .int .i64 off, .int .i64 wd, .bool sg, .slice xp args.length xc] TIn)
 have N1 : Hid (_ = _) := n1
 have HB : Hid (Below w.heap.size w W1) := hb1
 clear n1 hb1
 have Cd : Hid (∀ Y, Calls Tryz.prog 95 #[.int .i64 d] Y fun e w' => e = .returned (.string (tgtW d)) ∧ Below Y.heap.size Y w') := fun Y => rd_c d hd Y
 have zd : (tgtW d).size ≤ 100 := tgtW_sm hd
 have Ca : Hid (∀ Y, Calls Tryz.prog 96 #[.agg #[.int .i64 ak, .int .u32 an]] Y fun e w' => e = .returned (.string (argT ⟨ak, an⟩)) ∧ Below Y.heap.size Y w') := fun Y => arg1_c ⟨ak, an⟩ ha Y
 have za : (argT ⟨ak, an⟩).size ≤ 100 := argT_sz ha
 have CO : Hid (∀ Y, Calls Tryz.prog 64 #[.int .i64 off] Y fun e w' => e = .returned (.string (decS off)) ∧ Below Y.heap.size Y w') := fun Y => rdec_c off Y hO.1 hO.2
 have zO : (decS off).size ≤ 100 := decS_sm hO
 have CW : Hid (∀ Y, Calls Tryz.prog 64 #[.int .i64 wd] Y fun e w' => e = .returned (.string (decS wd)) ∧ Below Y.heap.size Y w') := fun Y => rdec_c wd Y hW.1 hW.2
 have zW : (decS wd).size ≤ 100 := decS_sm hW
 generalize tgtW d = sD at *
 generalize argT ⟨ak, an⟩ = sA at *
 generalize decS off = sO at *
 generalize decS wd = sW at *
 have y0 : ByteArray.size ⟨#[108, 111, 97, 100, 32]⟩ ≤ 100 := (by decide)
 obtain ⟨k0, y1⟩ := cat1 y0 zd (by decide)
 obtain ⟨k1, y2⟩ := cat1 (b := ⟨#[32]⟩) (n := 100) y1 (by decide) (by decide)
 obtain ⟨k2, y3⟩ := cat1 y2 za (by decide)
 obtain ⟨k3, y4⟩ := cat1 (b := ⟨#[32]⟩) (n := 100) y3 (by decide) (by decide)
 obtain ⟨k4, y5⟩ := cat1 y4 zO (by decide)
 obtain ⟨k5, y6⟩ := cat1 (b := ⟨#[32]⟩) (n := 100) y5 (by decide) (by decide)
 obtain ⟨k6, y7⟩ := cat1 y6 zW (by decide)
 have k9 := (cat1 (b := ⟨#[32, 115, 105, 103, 110, 101, 100]⟩) (n := 100) y7 (by decide) (by decide)).1
 clear hd ha hb hN hO hW y0 y1 y2 y3 y4 y5 y6 y7
 go_enter Tryz.func66, Tryz.ntmps66
 go_upto_region 1 with (fail)
 refine wp_at hW1 ?_
 clear hW1
 have x0 := (Lib.cell_of_heap N1.out 0).trans rfl
 go_upto_region 11 with (fail)
 clear x0
 obtain ⟨F0, F1, F2, F3, F4, F5, F6, F7, F8, F9, F10, F11⟩ := sat12 N1.out
 have Kd := sat_calls (W := W1) fun Y _ => Cd.out Y
 have Ka := sat_calls (W := W1) fun Y _ => Ca.out Y
 have KO := sat_calls (W := W1) fun Y _ => CO.out Y
 have KW := sat_calls (W := W1) fun Y _ => CW.out Y
 have HS0 : Hid (SH W1 W1.drew) := SH.drew (Below.refl _ _)
 refine wp_region_sub (W := W1) (by kernel_rfl) (by kernel_rfl) HS0.out ?_
 repeat (go_big_quiet_step (first | (with_reducible exact Kd _) | (with_reducible exact Ka _) | (with_reducible exact KO _) | (with_reducible exact KW _)))
 refine wpQuiet_nil ?_
 intro wq hq
 obtain ⟨Zq, rfl⟩ := hq
 have HBQ : Hid (Below w.heap.size w Zq.val) := HB.out.trans (Below.mono Zq.ok HB.out.size)
 cases sg with
 | false =>
  go_wp2
  go_ret
  exact ⟨rfl, HBQ.out⟩
 | true =>
  go_wp2
  go_ret
  exact ⟨rfl, HBQ.out⟩
theorem rLine_6 {bin d ak an bk bn xn off wd : Int} {sg : Bool} {args : List Ar} {xp : Option Addr} {xc : Nat} (hd : Sm d) (ha : ArOK ⟨ak, an⟩) (hb : ArOK ⟨bk, bn⟩) (hN : Sm xn) (hO : Sm off) (hW : Sm wd) (w : World) :
 Calls Tryz.prog 66 #[.agg #[.int .i64 6, .int .i64 bin, .int .i64 d, .int .i64 ak, .int .u32 an, .int .i64 bk, .int .u32 bn, .int .i64 xn, .int .i64 off, .int .i64 wd, .bool sg, .slice xp args.length xc]] w fun e w' => e = .returned (.string (((((((⟨#[115, 116, 111, 114, 101, 32]⟩ ++ argT ⟨ak, an⟩) ++ ⟨#[32]⟩) ++ decS off) ++ ⟨#[32]⟩) ++ argT ⟨bk, bn⟩) ++ ⟨#[32]⟩) ++ decS wd)) ∧ Below w.heap.size w w' := by
 obtain ⟨W1, hW1, n1, hb1⟩ := uno_ex w (.cells #[.int .i64 6, .int .i64 bin, .int .i64 d, .int .i64 ak, .int .u32 an, .int .i64 bk, .int .u32 bn, .int .i64 xn, .int .i64 off, .int .i64 wd, .bool sg, .slice xp args.length xc] TIn)
 have N1 : Hid (_ = _) := n1
 have HB : Hid (Below w.heap.size w W1) := hb1
 clear n1 hb1
 have Ca : Hid (∀ Y, Calls Tryz.prog 96 #[.agg #[.int .i64 ak, .int .u32 an]] Y fun e w' => e = .returned (.string (argT ⟨ak, an⟩)) ∧ Below Y.heap.size Y w') := fun Y => arg1_c ⟨ak, an⟩ ha Y
 have za : (argT ⟨ak, an⟩).size ≤ 100 := argT_sz ha
 have CO : Hid (∀ Y, Calls Tryz.prog 64 #[.int .i64 off] Y fun e w' => e = .returned (.string (decS off)) ∧ Below Y.heap.size Y w') := fun Y => rdec_c off Y hO.1 hO.2
 have zO : (decS off).size ≤ 100 := decS_sm hO
 have Cb : Hid (∀ Y, Calls Tryz.prog 96 #[.agg #[.int .i64 bk, .int .u32 bn]] Y fun e w' => e = .returned (.string (argT ⟨bk, bn⟩)) ∧ Below Y.heap.size Y w') := fun Y => arg1_c ⟨bk, bn⟩ hb Y
 have zb : (argT ⟨bk, bn⟩).size ≤ 100 := argT_sz hb
 have CW : Hid (∀ Y, Calls Tryz.prog 64 #[.int .i64 wd] Y fun e w' => e = .returned (.string (decS wd)) ∧ Below Y.heap.size Y w') := fun Y => rdec_c wd Y hW.1 hW.2
 have zW : (decS wd).size ≤ 100 := decS_sm hW
 generalize argT ⟨ak, an⟩ = sA at *
 generalize decS off = sO at *
 generalize argT ⟨bk, bn⟩ = sB2 at *
 generalize decS wd = sW at *
 have y0 : ByteArray.size ⟨#[115, 116, 111, 114, 101, 32]⟩ ≤ 100 := (by decide)
 obtain ⟨k0, y1⟩ := cat1 y0 za (by decide)
 obtain ⟨k1, y2⟩ := cat1 (b := ⟨#[32]⟩) (n := 100) y1 (by decide) (by decide)
 obtain ⟨k2, y3⟩ := cat1 y2 zO (by decide)
 obtain ⟨k3, y4⟩ := cat1 (b := ⟨#[32]⟩) (n := 100) y3 (by decide) (by decide)
 obtain ⟨k4, y5⟩ := cat1 y4 zb (by decide)
 obtain ⟨k5, y6⟩ := cat1 (b := ⟨#[32]⟩) (n := 100) y5 (by decide) (by decide)
 obtain ⟨k6, y7⟩ := cat1 y6 zW (by decide)
 clear hd ha hb hN hO hW y0 y1 y2 y3 y4 y5 y6 y7
 go_enter Tryz.func66, Tryz.ntmps66
 go_upto_region 1 with (fail)
 refine wp_at hW1 ?_
 clear hW1
 have x0 := (Lib.cell_of_heap N1.out 0).trans rfl
 go_upto_region 16 with (fail)
 clear x0
 obtain ⟨F0, F1, F2, F3, F4, F5, F6, F7, F8, F9, F10, F11⟩ := sat12 N1.out
 have Ka := sat_calls (W := W1) fun Y _ => Ca.out Y
 have KO := sat_calls (W := W1) fun Y _ => CO.out Y
 have Kb := sat_calls (W := W1) fun Y _ => Cb.out Y
 have KW := sat_calls (W := W1) fun Y _ => CW.out Y
 have HS0 : Hid (SH W1 W1.drew) := SH.drew (Below.refl _ _)
 refine wp_region_sub (W := W1) (by kernel_rfl) (by kernel_rfl) HS0.out ?_
 repeat (go_big_quiet_step (first | (with_reducible exact Ka _) | (with_reducible exact KO _) | (with_reducible exact Kb _) | (with_reducible exact KW _)))
 refine wpQuiet_nil ?_
 intro wq hq
 obtain ⟨Zq, rfl⟩ := hq
 have HBQ : Hid (Below w.heap.size w Zq.val) := HB.out.trans (Below.mono Zq.ok HB.out.size)
 go_wp2
 go_ret
 exact ⟨rfl, HBQ.out⟩
theorem rLine_7 {bin d ak an bk bn xn off wd : Int} {sg : Bool} {args : List Ar} {xp : Option Addr} {xc : Nat} (hd : Sm d) (ha : ArOK ⟨ak, an⟩) (hb : ArOK ⟨bk, bn⟩) (hN : Sm xn) (hO : Sm off) (hW : Sm wd) (w : World) :
 Calls Tryz.prog 66 #[.agg #[.int .i64 7, .int .i64 bin, .int .i64 d, .int .i64 ak, .int .u32 an, .int .i64 bk, .int .u32 bn, .int .i64 xn, .int .i64 off, .int .i64 wd, .bool sg, .slice xp args.length xc]] w fun e w' => e = .returned (.string (((((((⟨#[99, 111, 112, 121, 32]⟩ ++ argT ⟨ak, an⟩) ++ ⟨#[32]⟩) ++ argT ⟨bk, bn⟩) ++ ⟨#[32]⟩) ++ decS off) ++ ⟨#[32]⟩) ++ decS wd)) ∧ Below w.heap.size w w' := by
 obtain ⟨W1, hW1, n1, hb1⟩ := uno_ex w (.cells #[.int .i64 7, .int .i64 bin, .int .i64 d, .int .i64 ak, .int .u32 an, .int .i64 bk, .int .u32 bn, .int .i64 xn, .int .i64 off, .int .i64 wd, .bool sg, .slice xp args.length xc] TIn)
 have N1 : Hid (_ = _) := n1
 have HB : Hid (Below w.heap.size w W1) := hb1
 clear n1 hb1
 have Ca : Hid (∀ Y, Calls Tryz.prog 96 #[.agg #[.int .i64 ak, .int .u32 an]] Y fun e w' => e = .returned (.string (argT ⟨ak, an⟩)) ∧ Below Y.heap.size Y w') := fun Y => arg1_c ⟨ak, an⟩ ha Y
 have za : (argT ⟨ak, an⟩).size ≤ 100 := argT_sz ha
 have Cb : Hid (∀ Y, Calls Tryz.prog 96 #[.agg #[.int .i64 bk, .int .u32 bn]] Y fun e w' => e = .returned (.string (argT ⟨bk, bn⟩)) ∧ Below Y.heap.size Y w') := fun Y => arg1_c ⟨bk, bn⟩ hb Y
 have zb : (argT ⟨bk, bn⟩).size ≤ 100 := argT_sz hb
 have CO : Hid (∀ Y, Calls Tryz.prog 64 #[.int .i64 off] Y fun e w' => e = .returned (.string (decS off)) ∧ Below Y.heap.size Y w') := fun Y => rdec_c off Y hO.1 hO.2
 have zO : (decS off).size ≤ 100 := decS_sm hO
 have CW : Hid (∀ Y, Calls Tryz.prog 64 #[.int .i64 wd] Y fun e w' => e = .returned (.string (decS wd)) ∧ Below Y.heap.size Y w') := fun Y => rdec_c wd Y hW.1 hW.2
 have zW : (decS wd).size ≤ 100 := decS_sm hW
 generalize argT ⟨ak, an⟩ = sA at *
 generalize argT ⟨bk, bn⟩ = sB2 at *
 generalize decS off = sO at *
 generalize decS wd = sW at *
 have y0 : ByteArray.size ⟨#[99, 111, 112, 121, 32]⟩ ≤ 100 := (by decide)
 obtain ⟨k0, y1⟩ := cat1 y0 za (by decide)
 obtain ⟨k1, y2⟩ := cat1 (b := ⟨#[32]⟩) (n := 100) y1 (by decide) (by decide)
 obtain ⟨k2, y3⟩ := cat1 y2 zb (by decide)
 obtain ⟨k3, y4⟩ := cat1 (b := ⟨#[32]⟩) (n := 100) y3 (by decide) (by decide)
 obtain ⟨k4, y5⟩ := cat1 y4 zO (by decide)
 obtain ⟨k5, y6⟩ := cat1 (b := ⟨#[32]⟩) (n := 100) y5 (by decide) (by decide)
 obtain ⟨k6, y7⟩ := cat1 y6 zW (by decide)
 clear hd ha hb hN hO hW y0 y1 y2 y3 y4 y5 y6 y7
 go_enter Tryz.func66, Tryz.ntmps66
 go_upto_region 1 with (fail)
 refine wp_at hW1 ?_
 clear hW1
 have x0 := (Lib.cell_of_heap N1.out 0).trans rfl
 go_upto_region 18 with (fail)
 clear x0
 obtain ⟨F0, F1, F2, F3, F4, F5, F6, F7, F8, F9, F10, F11⟩ := sat12 N1.out
 have Ka := sat_calls (W := W1) fun Y _ => Ca.out Y
 have Kb := sat_calls (W := W1) fun Y _ => Cb.out Y
 have KO := sat_calls (W := W1) fun Y _ => CO.out Y
 have KW := sat_calls (W := W1) fun Y _ => CW.out Y
 have HS0 : Hid (SH W1 W1.drew) := SH.drew (Below.refl _ _)
 refine wp_region_sub (W := W1) (by kernel_rfl) (by kernel_rfl) HS0.out ?_
 repeat (go_big_quiet_step (first | (with_reducible exact Ka _) | (with_reducible exact Kb _) | (with_reducible exact KO _) | (with_reducible exact KW _)))
 refine wpQuiet_nil ?_
 intro wq hq
 obtain ⟨Zq, rfl⟩ := hq
 have HBQ : Hid (Below w.heap.size w Zq.val) := HB.out.trans (Below.mono Zq.ok HB.out.size)
 go_wp2
 go_ret
 exact ⟨rfl, HBQ.out⟩
theorem rLine_8 {bin d ak an bk bn xn off wd : Int} {sg : Bool} {args : List Ar} {xp : Option Addr} {xc : Nat} (hd : Sm d) (ha : ArOK ⟨ak, an⟩) (hb : ArOK ⟨bk, bn⟩) (hN : Sm xn) (hO : Sm off) (hW : Sm wd) (hal : args.length ≤ 1000000) (hao : ∀ a ∈ args, ArOK a) (w : World) (hav : ArgV w (.slice xp args.length xc) args) :
 Calls Tryz.prog 66 #[.agg #[.int .i64 8, .int .i64 bin, .int .i64 d, .int .i64 ak, .int .u32 an, .int .i64 bk, .int .u32 bn, .int .i64 xn, .int .i64 off, .int .i64 wd, .bool sg, .slice xp args.length xc]] w fun e w' => e = .returned (.string (callT (((⟨#[99, 97, 108, 108, 32]⟩ ++ tgtW d) ++ ⟨#[32]⟩) ++ decS xn) args)) ∧ Below w.heap.size w w' := by
 obtain ⟨W1, hW1, n1, hb1⟩ := uno_ex w (.cells #[.int .i64 8, .int .i64 bin, .int .i64 d, .int .i64 ak, .int .u32 an, .int .i64 bk, .int .u32 bn, .int .i64 xn, .int .i64 off, .int .i64 wd, .bool sg, .slice xp args.length xc] TIn)
 have N1 : Hid (_ = _) := n1
 have HB : Hid (Below w.heap.size w W1) := hb1
 clear n1 hb1
 have Cd : Hid (∀ Y, Calls Tryz.prog 95 #[.int .i64 d] Y fun e w' => e = .returned (.string (tgtW d)) ∧ Below Y.heap.size Y w') := fun Y => rd_c d hd Y
 have zd : (tgtW d).size ≤ 100 := tgtW_sm hd
 have CN : Hid (∀ Y, Calls Tryz.prog 64 #[.int .i64 xn] Y fun e w' => e = .returned (.string (decS xn)) ∧ Below Y.heap.size Y w') := fun Y => rdec_c xn Y hN.1 hN.2
 have zN : (decS xn).size ≤ 100 := decS_sm hN
 have HAV : Hid (∀ Y, Below w.heap.size w Y → ArgV Y (.slice xp args.length xc) args) := fun Y hY => hav.below hY
 have HAO : Hid (∀ a ∈ args, ArOK a) := hao
 generalize tgtW d = sD at *
 generalize decS xn = sN at *
 have y0 : ByteArray.size ⟨#[99, 97, 108, 108, 32]⟩ ≤ 100 := (by decide)
 obtain ⟨k0, y1⟩ := cat1 y0 zd (by decide)
 obtain ⟨k1, y2⟩ := cat1 (b := ⟨#[32]⟩) (n := 100) y1 (by decide) (by decide)
 obtain ⟨k2, y3⟩ := cat1 y2 zN (by decide)
 obtain ⟨S0, hS0⟩ : ∃ S, S = (((⟨#[99, 97, 108, 108, 32]⟩ ++ sD) ++ ⟨#[32]⟩) ++ sN) := ⟨_, rfl⟩
 have HS : Hid (S0 = _) := hS0
 have yS : S0.size ≤ 1000 := by rw [hS0]; omega
 rw [← hS0]
 clear hS0
 clear hd ha hb hN hO hW y0 y1 y2 y3 hav hao
 go_enter Tryz.func66, Tryz.ntmps66
 go_upto_region 1 with (fail)
 refine wp_at hW1 ?_
 clear hW1
 have x0 := (Lib.cell_of_heap N1.out 0).trans rfl
 go_upto_region 20 with (fail)
 clear x0
 obtain ⟨F0, F1, F2, F3, F4, F5, F6, F7, F8, F9, F10, F11⟩ := sat12 N1.out
 have Kd := sat_calls (W := W1) fun Y _ => Cd.out Y
 have KN := sat_calls (W := W1) fun Y _ => CN.out Y
 have HS0 : Hid (SH W1 W1.drew) := SH.drew (Below.refl _ _)
 refine wp_region_sub (W := W1) (by kernel_rfl) (by kernel_rfl) HS0.out ?_
 repeat (go_big_quiet_step (first | (with_reducible exact Kd _) | (with_reducible exact KN _)))
 refine wpQuiet_nil ?_
 intro wq hq
 obtain ⟨Zq, rfl⟩ := hq
 have HBQ : Hid (Below w.heap.size w Zq.val) := HB.out.trans (Below.mono Zq.ok HB.out.size)
 clear F0 F1 F2 F3 F4 F5 F6 F7 F8 F9 F10 k0 k1 k2
 rw [← HS.out]
 go_upto_region 22 with (fail)
 go_loopw [4, 5] (fun sv iv wr => ∃ k : Nat, iv = .int .i64 k ∧ k ≤ args.length ∧ sv = .string (callT S0 (args.take k)) ∧ (callT S0 (args.take k)).size ≤ 1000 + 200 * k ∧ Hid (Below W1.heap.size W1 wr)) (fun _ iv _ => args.length - (intOf iv).toNat)
 case atStart => exact ⟨0, rfl, Nat.zero_le _, rfl, by simpa [callT] using yS, Zq.ok⟩
 case round =>
  obtain ⟨k, rfl, hk, rfl, hks, HRW⟩ := hrel
  have HBR : Hid (Below w.heap.size w wr) := HB.out.trans (HRW.out.mono HB.out.size)
  have f11 := (Lib.cell_of_heap (blk_b N1.out HRW.out) 11).trans rfl
  by_cases hlt : k < args.length
  ·obtain ⟨a, ha⟩ : ∃ a, args[k]? = some a := ⟨_, List.getElem?_eq_getElem hlt⟩
   obtain ⟨p', c', hpe, ⟨hcl, _⟩, hcc⟩ := HAV.out wr HBR.out
   injection hpe with e1 e2 e3
   subst e1 e3
   obtain ⟨g, o, hpo, hg, hc⟩ := hcc k a ha
   subst hpo
   have a0 : wr.cell? ⟨g, o + k * 2, none⟩ = some (.int .i64 a.kind) := hc 0 (by omega)
   have a1 : wr.cell? ⟨g, o + k * 2 + 1, none⟩ = some (.int .u32 a.n) := hc 1 (by omega)
   have hao := HAO.out a (List.mem_of_getElem? ha)
   have cA := arg1_c a hao wr
   have hz := argT_sz hao
   have HT : Hid (_ = _) := callT_take S0 ha
   generalize callT S0 (args.take k) = SK at *
   have HTT : Hid (callT S0 (args.take (k + 1)) = (SK ++ ⟨#[32]⟩) ++ argT a) := HT.out
   generalize argT a = sA at *
   have z1 : ByteArray.size (SK ++ ⟨#[32]⟩) = SK.size + 1 := by rw [ByteArray.size_append]; rfl
   have k1 := fun W => run_string_add_sum (P := Tryz.prog) W SK ⟨#[32]⟩ (by show SK.size + 1 ≤ _; omega)
   have k2 := fun W => run_string_add_sum (P := Tryz.prog) W (SK ++ ⟨#[32]⟩) sA (by omega)
   have z2 : ByteArray.size ((SK ++ ⟨#[32]⟩) ++ sA) ≤ 1000 + 200 * (k + 1) := by rw [ByteArray.size_append]; omega
   have Z2 : Hid (_ ≤ _) := z2
   clear z1 z2 hcc hc ha hao HT hg
   go_wp2_with (first | (go_at_call 96; refine cA.mono ?_; rintro e w2 ⟨rfl, hb2⟩; have HB2 : Hid (Below W1.heap.size W1 w2) := HRW.out.trans (hb2.mono HRW.out.size); clear hb2 cA) | fail)
   exact ⟨⟨k + 1, by go_num, by omega, by rw [HTT.out], by rw [HTT.out]; exact Z2.out, HB2⟩, by simp [intOf]; omega⟩
  ·obtain rfl : k = args.length := by omega
   rw [List.take_length] at *
   have hge : ¬ ((args.length : Int) < (args.length : Int)) := by omega
   go_wp2
   go_ret
   exact ⟨rfl, HBR.out⟩
theorem rLine_9 {bin d ak an bk bn xn off wd : Int} {sg : Bool} {args : List Ar} {xp : Option Addr} {xc : Nat} (hd : Sm d) (ha : ArOK ⟨ak, an⟩) (hb : ArOK ⟨bk, bn⟩) (hN : Sm xn) (hO : Sm off) (hW : Sm wd) (w : World) :
 Calls Tryz.prog 66 #[.agg #[.int .i64 9, .int .i64 bin, .int .i64 d, .int .i64 ak, .int .u32 an, .int .i64 bk, .int .u32 bn, .int .i64 xn, .int .i64 off, .int .i64 wd, .bool sg, .slice xp args.length xc]] w fun e w' => e = .returned (.string (if (ak == 0 && an == 0) then ⟨#[114, 101, 116]⟩ else (⟨#[114, 101, 116, 32]⟩ ++ argT ⟨ak, an⟩))) ∧ Below w.heap.size w w' := by
 obtain ⟨W1, hW1, n1, hb1⟩ := uno_ex w (.cells #[.int .i64 9, .int .i64 bin, .int .i64 d, .int .i64 ak, .int .u32 an, .int .i64 bk, .int .u32 bn, .int .i64 xn, .int .i64 off, .int .i64 wd, .bool sg, .slice xp args.length xc] TIn)
 have N1 : Hid (_ = _) := n1
 have HB : Hid (Below w.heap.size w W1) := hb1
 clear n1 hb1
 have Ca : Hid (∀ Y, Calls Tryz.prog 96 #[.agg #[.int .i64 ak, .int .u32 an]] Y fun e w' => e = .returned (.string (argT ⟨ak, an⟩)) ∧ Below Y.heap.size Y w') := fun Y => arg1_c ⟨ak, an⟩ ha Y
 have za : (argT ⟨ak, an⟩).size ≤ 100 := argT_sz ha
 have CX : Hid (∀ Y, Calls Tryz.prog 89 #[.agg #[.int .i64 ak, .int .u32 an]] Y fun e w' => e = .returned (.bool (ak == 0 && an == 0)) ∧ Below Y.heap.size Y w') := fun Y => rNone_c ⟨ak, an⟩ Y
 generalize argT ⟨ak, an⟩ = sA at *
 have y0 : ByteArray.size ⟨#[114, 101, 116, 32]⟩ ≤ 100 := (by decide)
 obtain ⟨k0, y1⟩ := cat1 y0 za (by decide)
 obtain ⟨Q, hQ⟩ : ∃ Q, Q = (ak == 0 && an == 0) := ⟨_, rfl⟩
 rw [← hQ] at CX ⊢
 clear hQ
 obtain ⟨R, hR⟩ : ∃ R, R = (if Q = true then ⟨#[114, 101, 116]⟩ else (⟨#[114, 101, 116, 32]⟩ ++ sA)) := ⟨_, rfl⟩
 rw [← hR]
 have HR : Hid (R = _) := hR
 clear hR
 clear hd ha hb hN hO hW y0 y1
 go_enter Tryz.func66, Tryz.ntmps66
 go_upto_region 1 with (fail)
 refine wp_at hW1 ?_
 clear hW1
 obtain ⟨x0, x1, x2, x3, x4, x5, x6, x7, x8, x9, x10, x11⟩ := cells12 N1.out
 cases Q with
 | true =>
  go_wp2_with (first | (go_at_call 89; refine (CX.out _).mono ?_; rintro e w2 ⟨rfl, hb2⟩; have HB2 : Hid (Below w.heap.size w w2) := HB.out.trans (hb2.mono HB.out.size); have N2 : Hid (_ = _) := blk_b N1.out hb2; have u3 := (Lib.cell_of_heap N2.out 3).trans rfl; have u4 := (Lib.cell_of_heap N2.out 4).trans rfl; clear hb2) | (go_at_call 96; refine (Ca.out _).mono ?_; rintro e w3 ⟨rfl, hb3⟩; have HB3 : Hid (Below w.heap.size w w3) := HB2.out.trans (hb3.mono HB2.out.size); clear hb3) | fail)
  go_ret
  exact ⟨by rw [HR.out]; rfl, HB2.out⟩
 | false =>
  go_wp2_with (first | (go_at_call 89; refine (CX.out _).mono ?_; rintro e w2 ⟨rfl, hb2⟩; have HB2 : Hid (Below w.heap.size w w2) := HB.out.trans (hb2.mono HB.out.size); have N2 : Hid (_ = _) := blk_b N1.out hb2; have u3 := (Lib.cell_of_heap N2.out 3).trans rfl; have u4 := (Lib.cell_of_heap N2.out 4).trans rfl; clear hb2) | (go_at_call 96; refine (Ca.out _).mono ?_; rintro e w3 ⟨rfl, hb3⟩; have HB3 : Hid (Below w.heap.size w w3) := HB2.out.trans (hb3.mono HB2.out.size); clear hb3) | fail)
  go_ret
  exact ⟨by rw [HR.out]; rfl, HB3.out⟩
theorem rLine_10 {bin d ak an bk bn xn off wd : Int} {sg : Bool} {args : List Ar} {xp : Option Addr} {xc : Nat} (hd : Sm d) (ha : ArOK ⟨ak, an⟩) (hb : ArOK ⟨bk, bn⟩) (hN : Sm xn) (hO : Sm off) (hW : Sm wd) (w : World) :
 Calls Tryz.prog 66 #[.agg #[.int .i64 10, .int .i64 bin, .int .i64 d, .int .i64 ak, .int .u32 an, .int .i64 bk, .int .u32 bn, .int .i64 xn, .int .i64 off, .int .i64 wd, .bool sg, .slice xp args.length xc]] w fun e w' => e = .returned (.string (⟨#[106, 117, 109, 112, 32]⟩ ++ decS xn)) ∧ Below w.heap.size w w' := by
 obtain ⟨W1, hW1, n1, hb1⟩ := uno_ex w (.cells #[.int .i64 10, .int .i64 bin, .int .i64 d, .int .i64 ak, .int .u32 an, .int .i64 bk, .int .u32 bn, .int .i64 xn, .int .i64 off, .int .i64 wd, .bool sg, .slice xp args.length xc] TIn)
 have N1 : Hid (_ = _) := n1
 have HB : Hid (Below w.heap.size w W1) := hb1
 clear n1 hb1
 have CN : Hid (∀ Y, Calls Tryz.prog 64 #[.int .i64 xn] Y fun e w' => e = .returned (.string (decS xn)) ∧ Below Y.heap.size Y w') := fun Y => rdec_c xn Y hN.1 hN.2
 have zN : (decS xn).size ≤ 100 := decS_sm hN
 generalize decS xn = sN at *
 have y0 : ByteArray.size ⟨#[106, 117, 109, 112, 32]⟩ ≤ 100 := (by decide)
 obtain ⟨k0, y1⟩ := cat1 y0 zN (by decide)
 clear hd ha hb hN hO hW y0 y1
 go_enter Tryz.func66, Tryz.ntmps66
 go_upto_region 1 with (fail)
 refine wp_at hW1 ?_
 clear hW1
 obtain ⟨x0, x1, x2, x3, x4, x5, x6, x7, x8, x9, x10, x11⟩ := cells12 N1.out
 go_wp2_with (first | (go_at_call 64; refine (CN.out _).mono ?_; rintro e w2 ⟨rfl, hb2⟩; have HB2 : Hid (Below w.heap.size w w2) := HB.out.trans (hb2.mono HB.out.size); clear hb2) | fail)
 go_ret
 exact ⟨rfl, HB2.out⟩
theorem rLine_11 {bin d ak an bk bn xn off wd : Int} {sg : Bool} {args : List Ar} {xp : Option Addr} {xc : Nat} (hd : Sm d) (ha : ArOK ⟨ak, an⟩) (hb : ArOK ⟨bk, bn⟩) (hN : Sm xn) (hO : Sm off) (hW : Sm wd) (w : World) :
 Calls Tryz.prog 66 #[.agg #[.int .i64 11, .int .i64 bin, .int .i64 d, .int .i64 ak, .int .u32 an, .int .i64 bk, .int .u32 bn, .int .i64 xn, .int .i64 off, .int .i64 wd, .bool sg, .slice xp args.length xc]] w fun e w' => e = .returned (.string (((⟨#[98, 114, 97, 110, 99, 104, 32]⟩ ++ argT ⟨ak, an⟩) ++ ⟨#[32]⟩) ++ decS xn)) ∧ Below w.heap.size w w' := by
 obtain ⟨W1, hW1, n1, hb1⟩ := uno_ex w (.cells #[.int .i64 11, .int .i64 bin, .int .i64 d, .int .i64 ak, .int .u32 an, .int .i64 bk, .int .u32 bn, .int .i64 xn, .int .i64 off, .int .i64 wd, .bool sg, .slice xp args.length xc] TIn)
 have N1 : Hid (_ = _) := n1
 have HB : Hid (Below w.heap.size w W1) := hb1
 clear n1 hb1
 have Ca : Hid (∀ Y, Calls Tryz.prog 96 #[.agg #[.int .i64 ak, .int .u32 an]] Y fun e w' => e = .returned (.string (argT ⟨ak, an⟩)) ∧ Below Y.heap.size Y w') := fun Y => arg1_c ⟨ak, an⟩ ha Y
 have za : (argT ⟨ak, an⟩).size ≤ 100 := argT_sz ha
 have CN : Hid (∀ Y, Calls Tryz.prog 64 #[.int .i64 xn] Y fun e w' => e = .returned (.string (decS xn)) ∧ Below Y.heap.size Y w') := fun Y => rdec_c xn Y hN.1 hN.2
 have zN : (decS xn).size ≤ 100 := decS_sm hN
 generalize argT ⟨ak, an⟩ = sA at *
 generalize decS xn = sN at *
 have y0 : ByteArray.size ⟨#[98, 114, 97, 110, 99, 104, 32]⟩ ≤ 100 := (by decide)
 obtain ⟨k0, y1⟩ := cat1 y0 za (by decide)
 obtain ⟨k1, y2⟩ := cat1 (b := ⟨#[32]⟩) (n := 100) y1 (by decide) (by decide)
 obtain ⟨k2, y3⟩ := cat1 y2 zN (by decide)
 clear hd ha hb hN hO hW y0 y1 y2 y3
 go_enter Tryz.func66, Tryz.ntmps66
 go_upto_region 1 with (fail)
 refine wp_at hW1 ?_
 clear hW1
 have x0 := (Lib.cell_of_heap N1.out 0).trans rfl
 go_upto_region 33 with (fail)
 clear x0
 obtain ⟨F0, F1, F2, F3, F4, F5, F6, F7, F8, F9, F10, F11⟩ := sat12 N1.out
 have Ka := sat_calls (W := W1) fun Y _ => Ca.out Y
 have KN := sat_calls (W := W1) fun Y _ => CN.out Y
 have HS0 : Hid (SH W1 W1.drew) := SH.drew (Below.refl _ _)
 refine wp_region_sub (W := W1) (by kernel_rfl) (by kernel_rfl) HS0.out ?_
 repeat (go_big_quiet_step (first | (with_reducible exact Ka _) | (with_reducible exact KN _)))
 refine wpQuiet_nil ?_
 intro wq hq
 obtain ⟨Zq, rfl⟩ := hq
 have HBQ : Hid (Below w.heap.size w Zq.val) := HB.out.trans (Below.mono Zq.ok HB.out.size)
 go_wp2
 go_ret
 exact ⟨rfl, HBQ.out⟩
theorem rLine_12 {bin d ak an bk bn xn off wd : Int} {sg : Bool} {args : List Ar} {xp : Option Addr} {xc : Nat} (hd : Sm d) (ha : ArOK ⟨ak, an⟩) (hb : ArOK ⟨bk, bn⟩) (hN : Sm xn) (hO : Sm off) (hW : Sm wd) (w : World) :
 Calls Tryz.prog 66 #[.agg #[.int .i64 12, .int .i64 bin, .int .i64 d, .int .i64 ak, .int .u32 an, .int .i64 bk, .int .u32 bn, .int .i64 xn, .int .i64 off, .int .i64 wd, .bool sg, .slice xp args.length xc]] w fun e w' => e = .returned (.string (⟨#[112, 117, 116, 32]⟩ ++ argT ⟨ak, an⟩)) ∧ Below w.heap.size w w' := by
 obtain ⟨W1, hW1, n1, hb1⟩ := uno_ex w (.cells #[.int .i64 12, .int .i64 bin, .int .i64 d, .int .i64 ak, .int .u32 an, .int .i64 bk, .int .u32 bn, .int .i64 xn, .int .i64 off, .int .i64 wd, .bool sg, .slice xp args.length xc] TIn)
 have N1 : Hid (_ = _) := n1
 have HB : Hid (Below w.heap.size w W1) := hb1
 clear n1 hb1
 have Ca : Hid (∀ Y, Calls Tryz.prog 96 #[.agg #[.int .i64 ak, .int .u32 an]] Y fun e w' => e = .returned (.string (argT ⟨ak, an⟩)) ∧ Below Y.heap.size Y w') := fun Y => arg1_c ⟨ak, an⟩ ha Y
 have za : (argT ⟨ak, an⟩).size ≤ 100 := argT_sz ha
 generalize argT ⟨ak, an⟩ = sA at *
 have y0 : ByteArray.size ⟨#[112, 117, 116, 32]⟩ ≤ 100 := (by decide)
 obtain ⟨k0, y1⟩ := cat1 y0 za (by decide)
 clear hd ha hb hN hO hW y0 y1
 go_enter Tryz.func66, Tryz.ntmps66
 go_upto_region 1 with (fail)
 refine wp_at hW1 ?_
 clear hW1
 obtain ⟨x0, x1, x2, x3, x4, x5, x6, x7, x8, x9, x10, x11⟩ := cells12 N1.out
 go_wp2_with (first | (go_at_call 96; refine (Ca.out _).mono ?_; rintro e w2 ⟨rfl, hb2⟩; have HB2 : Hid (Below w.heap.size w w2) := HB.out.trans (hb2.mono HB.out.size); clear hb2) | fail)
 go_ret
 exact ⟨rfl, HB2.out⟩
theorem rLine_13 {bin d ak an bk bn xn off wd : Int} {sg : Bool} {args : List Ar} {xp : Option Addr} {xc : Nat} (hd : Sm d) (ha : ArOK ⟨ak, an⟩) (hb : ArOK ⟨bk, bn⟩) (hN : Sm xn) (hO : Sm off) (hW : Sm wd) (w : World) :
 Calls Tryz.prog 66 #[.agg #[.int .i64 13, .int .i64 bin, .int .i64 d, .int .i64 ak, .int .u32 an, .int .i64 bk, .int .u32 bn, .int .i64 xn, .int .i64 off, .int .i64 wd, .bool sg, .slice xp args.length xc]] w fun e w' => e = .returned (.string (⟨#[103, 101, 116, 32]⟩ ++ tgtW d)) ∧ Below w.heap.size w w' := by
 obtain ⟨W1, hW1, n1, hb1⟩ := uno_ex w (.cells #[.int .i64 13, .int .i64 bin, .int .i64 d, .int .i64 ak, .int .u32 an, .int .i64 bk, .int .u32 bn, .int .i64 xn, .int .i64 off, .int .i64 wd, .bool sg, .slice xp args.length xc] TIn)
 have N1 : Hid (_ = _) := n1
 have HB : Hid (Below w.heap.size w W1) := hb1
 clear n1 hb1
 have Cd : Hid (∀ Y, Calls Tryz.prog 95 #[.int .i64 d] Y fun e w' => e = .returned (.string (tgtW d)) ∧ Below Y.heap.size Y w') := fun Y => rd_c d hd Y
 have zd : (tgtW d).size ≤ 100 := tgtW_sm hd
 generalize tgtW d = sD at *
 have y0 : ByteArray.size ⟨#[103, 101, 116, 32]⟩ ≤ 100 := (by decide)
 obtain ⟨k0, y1⟩ := cat1 y0 zd (by decide)
 clear hd ha hb hN hO hW y0 y1
 go_enter Tryz.func66, Tryz.ntmps66
 go_upto_region 1 with (fail)
 refine wp_at hW1 ?_
 clear hW1
 obtain ⟨x0, x1, x2, x3, x4, x5, x6, x7, x8, x9, x10, x11⟩ := cells12 N1.out
 go_wp2_with (first | (go_at_call 95; refine (Cd.out _).mono ?_; rintro e w2 ⟨rfl, hb2⟩; have HB2 : Hid (Below w.heap.size w w2) := HB.out.trans (hb2.mono HB.out.size); clear hb2) | fail)
 go_ret
 exact ⟨rfl, HB2.out⟩
theorem rLine_14 {bin d ak an bk bn xn off wd : Int} {sg : Bool} {args : List Ar} {xp : Option Addr} {xc : Nat} (hd : Sm d) (ha : ArOK ⟨ak, an⟩) (hb : ArOK ⟨bk, bn⟩) (hN : Sm xn) (hO : Sm off) (hW : Sm wd) (w : World) :
 Calls Tryz.prog 66 #[.agg #[.int .i64 14, .int .i64 bin, .int .i64 d, .int .i64 ak, .int .u32 an, .int .i64 bk, .int .u32 bn, .int .i64 xn, .int .i64 off, .int .i64 wd, .bool sg, .slice xp args.length xc]] w fun e w' => e = .returned (.string (⟨#[101, 120, 105, 116, 32]⟩ ++ argT ⟨ak, an⟩)) ∧ Below w.heap.size w w' := by
 obtain ⟨W1, hW1, n1, hb1⟩ := uno_ex w (.cells #[.int .i64 14, .int .i64 bin, .int .i64 d, .int .i64 ak, .int .u32 an, .int .i64 bk, .int .u32 bn, .int .i64 xn, .int .i64 off, .int .i64 wd, .bool sg, .slice xp args.length xc] TIn)
 have N1 : Hid (_ = _) := n1
 have HB : Hid (Below w.heap.size w W1) := hb1
 clear n1 hb1
 have Ca : Hid (∀ Y, Calls Tryz.prog 96 #[.agg #[.int .i64 ak, .int .u32 an]] Y fun e w' => e = .returned (.string (argT ⟨ak, an⟩)) ∧ Below Y.heap.size Y w') := fun Y => arg1_c ⟨ak, an⟩ ha Y
 have za : (argT ⟨ak, an⟩).size ≤ 100 := argT_sz ha
 generalize argT ⟨ak, an⟩ = sA at *
 have y0 : ByteArray.size ⟨#[101, 120, 105, 116, 32]⟩ ≤ 100 := (by decide)
 obtain ⟨k0, y1⟩ := cat1 y0 za (by decide)
 clear hd ha hb hN hO hW y0 y1
 go_enter Tryz.func66, Tryz.ntmps66
 go_upto_region 1 with (fail)
 refine wp_at hW1 ?_
 clear hW1
 obtain ⟨x0, x1, x2, x3, x4, x5, x6, x7, x8, x9, x10, x11⟩ := cells12 N1.out
 go_wp2_with (first | (go_at_call 96; refine (Ca.out _).mono ?_; rintro e w2 ⟨rfl, hb2⟩; have HB2 : Hid (Below w.heap.size w w2) := HB.out.trans (hb2.mono HB.out.size); clear hb2) | fail)
 go_ret
 exact ⟨rfl, HB2.out⟩
end
end Go.Proofs.YtelaaaamnphbpaaGreatDoor