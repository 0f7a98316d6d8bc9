/-
  holds of package tac: copies.
-/
import Derived.Test.YtaaphipbkpjkjaaGreatDoorKE
namespace Go.Proofs.YtaaphipbkpjkjaaGreatDoor
open Go.RowKit Go.Maps
set_option linter.unusedVariables false
set_option maxRecDepth 100000
theorem tmod_bd (x : Int) {k : Int} (hk : 0 < k) : -k < x.tmod k ∧ x.tmod k < k := by
  rcases Int.le_total 0 x with h | h
  · rw [Int.tmod_eq_emod_of_nonneg h]
    have h1 := Int.emod_nonneg x (by omega : k ≠ 0)
    have h2 := Int.emod_lt_of_pos x hk
    omega
  · have e : x = -(-x) := by omega
    rw [e, Int.neg_tmod, Int.tmod_eq_emod_of_nonneg (by omega)]
    have h1 := Int.emod_nonneg (-x) (by omega : k ≠ 0)
    have h2 := Int.emod_lt_of_pos (-x) hk
    omega
section
variable {w : World}
set_option maxHeartbeats 8000000 in
theorem holds_7_1 (h : Hm) (h0 : 0 ≤ h.tp) (h1 : h.tp ≤ 9223372036854775807) (hcn : h.cn ≤ 9223372036854775806) {bin d ak an bk bn n off : Int} {sg : Bool} {args : List Ar} {xp : Option Addr} {xc : Nat} (hoa : ArOK ⟨ak, an⟩) (hob : ArOK ⟨bk, bn⟩) (hof : -9223372036854775808 ≤ off ∧ off ≤ 9223372036854775807) (hNm : NamesIn w) :
    Calls Tryz.prog 109 #[hmV h, .agg #[.int .i64 7, .int .i64 bin, .int .i64 d, .int .i64 ak, .int .u32 an, .int .i64 bk, .int .u32 bn, .int .i64 n, .int .i64 off, .int .i64 1, .bool sg, .slice xp args.length xc]] w fun e w' => e = .returned (.bool (operB h.tp ⟨ak, an⟩ && (operB h.tp ⟨bk, bn⟩ && (widthB 1 && (withinP off 1 16384 && (off.tmod 1 == 0)))))) ∧ Below w.heap.size w w' := by
  obtain ⟨W1, hW1, hNH, hNX, hHB⟩ := duo_ex w (.cells #[.slice h.op h.on h.oc, .slice h.fp h.fn h.fc, .int .i64 h.mn, .string h.nm, .int .i64 h.pr, .int .i64 h.tp, .bool h.gv, .slice h.sp h.sn h.sc, .slice h.cp h.cn h.cc] THm) (.cells #[.int .i64 7, .int .i64 bin, .int .i64 d, .int .i64 ak, .int .u32 an, .int .i64 bk, .int .u32 bn, .int .i64 n, .int .i64 off, .int .i64 1, .bool sg, .slice xp args.length xc] TIn)
  have NH : Hid (_ = _) := hNH
  have NX : Hid (_ = _) := hNX
  have HB : Hid (Below w.heap.size w _) := hHB
  obtain ⟨c0, c1, c2, c3, c4, c5, c6, c7, c8⟩ := cells9 NH.out
  obtain ⟨x0, x1, x2, x3, x4, x5, x6, x7, x8, x9, x10, x11⟩ := cells12 NX.out
  have CA : Hid (∀ w, Calls Tryz.prog 125 #[.agg #[.slice h.op h.on h.oc, .slice h.fp h.fn h.fc, .int .i64 h.mn, .string h.nm, .int .i64 h.pr, .int .i64 h.tp, .bool h.gv, .slice h.sp h.sn h.sc, .slice h.cp h.cn h.cc], .agg #[.int .i64 ak, .int .u32 an]] w fun e w' => e = .returned (.bool (operB h.tp ⟨ak, an⟩)) ∧ Below w.heap.size w w') := operand_c h h0 h1 ⟨ak, an⟩ hoa
  have CB : Hid (∀ w, Calls Tryz.prog 125 #[.agg #[.slice h.op h.on h.oc, .slice h.fp h.fn h.fc, .int .i64 h.mn, .string h.nm, .int .i64 h.pr, .int .i64 h.tp, .bool h.gv, .slice h.sp h.sn h.sc, .slice h.cp h.cn h.cc], .agg #[.int .i64 bk, .int .u32 bn]] w fun e w' => e = .returned (.bool (operB h.tp ⟨bk, bn⟩)) ∧ Below w.heap.size w w') := operand_c h h0 h1 ⟨bk, bn⟩ hob
  have CW : Hid (∀ w, Calls Tryz.prog 78 #[.int .i64 1] w fun e w' => e = .returned (.bool (widthB 1)) ∧ w' = w) := isWidth_c 1
  have CI : Hid (∀ w, Calls Tryz.prog 50 #[.int .i64 off, .int .i64 1, .int .i64 16384] w fun e w' => e = .returned (.bool (withinP off 1 16384)) ∧ w' = w) := within_c off 1 16384
  generalize operB h.tp ⟨ak, an⟩ = q0 at *
  generalize operB h.tp ⟨bk, bn⟩ = q1 at *
  generalize widthB 1 = q2 at *
  generalize withinP off 1 16384 = q3 at *
  obtain ⟨R, hR⟩ : ∃ R, R = (q0 && (q1 && (q2 && (q3 && (off.tmod 1 == 0))))) := ⟨_, rfl⟩
  rw [← hR]
  have HR : Hid (R = _) := hR
  clear hR
  unfold hmV
  have nt := not_t
  have nf := not_f
  clear hNH hNX hHB h0 h1 hcn hoa hob hNm
  have e1 : (off.tmod 1 == 0) = true := by simp
  rw [e1] at HR
  clear e1
  go_enter Tryz.func109, Tryz.ntmps109
  go_upto_region 1 with (fail)
  refine wp_at hW1 ?_
  clear hW1
  cases q0 with
  | false =>
    go_wp2_with (first | (go_at_call 125; refine (CA.out _).mono ?_; rintro e w1 ⟨rfl, hb1⟩; have NH1 : Hid (_ = _) := blk_b NH.out hb1; have NX1 : Hid (_ = _) := blk_b NX.out hb1; have HB1 : Hid (Below w.heap.size w w1) := HB.out.trans (hb1.mono HB.out.size); obtain ⟨c0_1, c1_1, c2_1, c3_1, c4_1, c5_1, c6_1, c7_1, c8_1⟩ := cells9 NH1.out; obtain ⟨x0_1, x1_1, x2_1, x3_1, x4_1, x5_1, x6_1, x7_1, x8_1, x9_1, x10_1, x11_1⟩ := cells12 NX1.out; clear hb1 CA) | fail)
    go_ret
    exact ⟨by rw [HR.out]; rfl, HB1.out⟩
  | true =>
    cases q1 with
    | false =>
      go_wp2_with (first | (go_at_call 125; refine (CA.out _).mono ?_; rintro e w1 ⟨rfl, hb1⟩; have NH1 : Hid (_ = _) := blk_b NH.out hb1; have NX1 : Hid (_ = _) := blk_b NX.out hb1; have HB1 : Hid (Below w.heap.size w w1) := HB.out.trans (hb1.mono HB.out.size); obtain ⟨c0_1, c1_1, c2_1, c3_1, c4_1, c5_1, c6_1, c7_1, c8_1⟩ := cells9 NH1.out; obtain ⟨x0_1, x1_1, x2_1, x3_1, x4_1, x5_1, x6_1, x7_1, x8_1, x9_1, x10_1, x11_1⟩ := cells12 NX1.out; clear hb1 CA) | (go_at_call 125; refine (CB.out _).mono ?_; rintro e w2 ⟨rfl, hb2⟩; have NH2 : Hid (_ = _) := blk_b NH1.out hb2; have NX2 : Hid (_ = _) := blk_b NX1.out hb2; have HB2 : Hid (Below w.heap.size w w2) := HB1.out.trans (hb2.mono HB1.out.size); obtain ⟨c0_2, c1_2, c2_2, c3_2, c4_2, c5_2, c6_2, c7_2, c8_2⟩ := cells9 NH2.out; obtain ⟨x0_2, x1_2, x2_2, x3_2, x4_2, x5_2, x6_2, x7_2, x8_2, x9_2, x10_2, x11_2⟩ := cells12 NX2.out; clear hb2 CB) | fail)
      go_ret
      exact ⟨by rw [HR.out]; rfl, HB2.out⟩
    | true =>
      cases q2 with
      | false =>
        go_wp2_with (first | (go_at_call 125; refine (CA.out _).mono ?_; rintro e w1 ⟨rfl, hb1⟩; have NH1 : Hid (_ = _) := blk_b NH.out hb1; have NX1 : Hid (_ = _) := blk_b NX.out hb1; have HB1 : Hid (Below w.heap.size w w1) := HB.out.trans (hb1.mono HB.out.size); obtain ⟨c0_1, c1_1, c2_1, c3_1, c4_1, c5_1, c6_1, c7_1, c8_1⟩ := cells9 NH1.out; obtain ⟨x0_1, x1_1, x2_1, x3_1, x4_1, x5_1, x6_1, x7_1, x8_1, x9_1, x10_1, x11_1⟩ := cells12 NX1.out; clear hb1 CA) | (go_at_call 125; refine (CB.out _).mono ?_; rintro e w2 ⟨rfl, hb2⟩; have NH2 : Hid (_ = _) := blk_b NH1.out hb2; have NX2 : Hid (_ = _) := blk_b NX1.out hb2; have HB2 : Hid (Below w.heap.size w w2) := HB1.out.trans (hb2.mono HB1.out.size); obtain ⟨c0_2, c1_2, c2_2, c3_2, c4_2, c5_2, c6_2, c7_2, c8_2⟩ := cells9 NH2.out; obtain ⟨x0_2, x1_2, x2_2, x3_2, x4_2, x5_2, x6_2, x7_2, x8_2, x9_2, x10_2, x11_2⟩ := cells12 NX2.out; clear hb2 CB) | (go_at_call 78; refine (CW.out _).mono ?_; rintro e w' ⟨rfl, hw⟩; rw [hw]; clear hw w') | fail)
        go_ret
        exact ⟨by rw [HR.out]; rfl, HB2.out⟩
      | true =>
        cases q3 with
        | false =>
          go_wp2_with (first | (go_at_call 125; refine (CA.out _).mono ?_; rintro e w1 ⟨rfl, hb1⟩; have NH1 : Hid (_ = _) := blk_b NH.out hb1; have NX1 : Hid (_ = _) := blk_b NX.out hb1; have HB1 : Hid (Below w.heap.size w w1) := HB.out.trans (hb1.mono HB.out.size); obtain ⟨c0_1, c1_1, c2_1, c3_1, c4_1, c5_1, c6_1, c7_1, c8_1⟩ := cells9 NH1.out; obtain ⟨x0_1, x1_1, x2_1, x3_1, x4_1, x5_1, x6_1, x7_1, x8_1, x9_1, x10_1, x11_1⟩ := cells12 NX1.out; clear hb1 CA) | (go_at_call 125; refine (CB.out _).mono ?_; rintro e w2 ⟨rfl, hb2⟩; have NH2 : Hid (_ = _) := blk_b NH1.out hb2; have NX2 : Hid (_ = _) := blk_b NX1.out hb2; have HB2 : Hid (Below w.heap.size w w2) := HB1.out.trans (hb2.mono HB1.out.size); obtain ⟨c0_2, c1_2, c2_2, c3_2, c4_2, c5_2, c6_2, c7_2, c8_2⟩ := cells9 NH2.out; obtain ⟨x0_2, x1_2, x2_2, x3_2, x4_2, x5_2, x6_2, x7_2, x8_2, x9_2, x10_2, x11_2⟩ := cells12 NX2.out; clear hb2 CB) | (go_at_call 78; refine (CW.out _).mono ?_; rintro e w' ⟨rfl, hw⟩; rw [hw]; clear hw w') | (go_at_call 50; refine (CI.out _).mono ?_; rintro e w' ⟨rfl, hw⟩; rw [hw]; clear hw w') | fail)
          go_ret
          exact ⟨by rw [HR.out]; rfl, HB2.out⟩
        | true =>
          go_wp2_with (first | (go_at_call 125; refine (CA.out _).mono ?_; rintro e w1 ⟨rfl, hb1⟩; have NH1 : Hid (_ = _) := blk_b NH.out hb1; have NX1 : Hid (_ = _) := blk_b NX.out hb1; have HB1 : Hid (Below w.heap.size w w1) := HB.out.trans (hb1.mono HB.out.size); obtain ⟨c0_1, c1_1, c2_1, c3_1, c4_1, c5_1, c6_1, c7_1, c8_1⟩ := cells9 NH1.out; obtain ⟨x0_1, x1_1, x2_1, x3_1, x4_1, x5_1, x6_1, x7_1, x8_1, x9_1, x10_1, x11_1⟩ := cells12 NX1.out; clear hb1 CA) | (go_at_call 125; refine (CB.out _).mono ?_; rintro e w2 ⟨rfl, hb2⟩; have NH2 : Hid (_ = _) := blk_b NH1.out hb2; have NX2 : Hid (_ = _) := blk_b NX1.out hb2; have HB2 : Hid (Below w.heap.size w w2) := HB1.out.trans (hb2.mono HB1.out.size); obtain ⟨c0_2, c1_2, c2_2, c3_2, c4_2, c5_2, c6_2, c7_2, c8_2⟩ := cells9 NH2.out; obtain ⟨x0_2, x1_2, x2_2, x3_2, x4_2, x5_2, x6_2, x7_2, x8_2, x9_2, x10_2, x11_2⟩ := cells12 NX2.out; clear hb2 CB) | (go_at_call 78; refine (CW.out _).mono ?_; rintro e w' ⟨rfl, hw⟩; rw [hw]; clear hw w') | (go_at_call 50; refine (CI.out _).mono ?_; rintro e w' ⟨rfl, hw⟩; rw [hw]; clear hw w') | fail)
          go_ret
          exact ⟨by rw [HR.out]; rfl, HB2.out⟩
set_option maxHeartbeats 8000000 in
theorem holds_7_2 (h : Hm) (h0 : 0 ≤ h.tp) (h1 : h.tp ≤ 9223372036854775807) (hcn : h.cn ≤ 9223372036854775806) {bin d ak an bk bn n off : Int} {sg : Bool} {args : List Ar} {xp : Option Addr} {xc : Nat} (hoa : ArOK ⟨ak, an⟩) (hob : ArOK ⟨bk, bn⟩) (hof : -9223372036854775808 ≤ off ∧ off ≤ 9223372036854775807) (hNm : NamesIn w) :
    Calls Tryz.prog 109 #[hmV h, .agg #[.int .i64 7, .int .i64 bin, .int .i64 d, .int .i64 ak, .int .u32 an, .int .i64 bk, .int .u32 bn, .int .i64 n, .int .i64 off, .int .i64 2, .bool sg, .slice xp args.length xc]] w fun e w' => e = .returned (.bool (operB h.tp ⟨ak, an⟩ && (operB h.tp ⟨bk, bn⟩ && (widthB 2 && (withinP off 1 16384 && (off.tmod 2 == 0)))))) ∧ Below w.heap.size w w' := by
  obtain ⟨W1, hW1, hNH, hNX, hHB⟩ := duo_ex w (.cells #[.slice h.op h.on h.oc, .slice h.fp h.fn h.fc, .int .i64 h.mn, .string h.nm, .int .i64 h.pr, .int .i64 h.tp, .bool h.gv, .slice h.sp h.sn h.sc, .slice h.cp h.cn h.cc] THm) (.cells #[.int .i64 7, .int .i64 bin, .int .i64 d, .int .i64 ak, .int .u32 an, .int .i64 bk, .int .u32 bn, .int .i64 n, .int .i64 off, .int .i64 2, .bool sg, .slice xp args.length xc] TIn)
  have NH : Hid (_ = _) := hNH
  have NX : Hid (_ = _) := hNX
  have HB : Hid (Below w.heap.size w _) := hHB
  obtain ⟨c0, c1, c2, c3, c4, c5, c6, c7, c8⟩ := cells9 NH.out
  obtain ⟨x0, x1, x2, x3, x4, x5, x6, x7, x8, x9, x10, x11⟩ := cells12 NX.out
  have CA : Hid (∀ w, Calls Tryz.prog 125 #[.agg #[.slice h.op h.on h.oc, .slice h.fp h.fn h.fc, .int .i64 h.mn, .string h.nm, .int .i64 h.pr, .int .i64 h.tp, .bool h.gv, .slice h.sp h.sn h.sc, .slice h.cp h.cn h.cc], .agg #[.int .i64 ak, .int .u32 an]] w fun e w' => e = .returned (.bool (operB h.tp ⟨ak, an⟩)) ∧ Below w.heap.size w w') := operand_c h h0 h1 ⟨ak, an⟩ hoa
  have CB : Hid (∀ w, Calls Tryz.prog 125 #[.agg #[.slice h.op h.on h.oc, .slice h.fp h.fn h.fc, .int .i64 h.mn, .string h.nm, .int .i64 h.pr, .int .i64 h.tp, .bool h.gv, .slice h.sp h.sn h.sc, .slice h.cp h.cn h.cc], .agg #[.int .i64 bk, .int .u32 bn]] w fun e w' => e = .returned (.bool (operB h.tp ⟨bk, bn⟩)) ∧ Below w.heap.size w w') := operand_c h h0 h1 ⟨bk, bn⟩ hob
  have CW : Hid (∀ w, Calls Tryz.prog 78 #[.int .i64 2] w fun e w' => e = .returned (.bool (widthB 2)) ∧ w' = w) := isWidth_c 2
  have CI : Hid (∀ w, Calls Tryz.prog 50 #[.int .i64 off, .int .i64 1, .int .i64 16384] w fun e w' => e = .returned (.bool (withinP off 1 16384)) ∧ w' = w) := within_c off 1 16384
  generalize operB h.tp ⟨ak, an⟩ = q0 at *
  generalize operB h.tp ⟨bk, bn⟩ = q1 at *
  generalize widthB 2 = q2 at *
  generalize withinP off 1 16384 = q3 at *
  obtain ⟨R, hR⟩ : ∃ R, R = (q0 && (q1 && (q2 && (q3 && (off.tmod 2 == 0))))) := ⟨_, rfl⟩
  rw [← hR]
  have HR : Hid (R = _) := hR
  clear hR
  unfold hmV
  have nt := not_t
  have nf := not_f
  clear hNH hNX hHB h0 h1 hcn hoa hob hNm
  have hM : IntKind.i64.wrap (off.tmod 2) = off.tmod 2 := wrap_idI (by have := tmod_bd off (show (0 : Int) < 2 by decide); omega) (by have := tmod_bd off (show (0 : Int) < 2 by decide); omega)
  generalize hqm : (off.tmod 2 == 0) = qm at *
  go_enter Tryz.func109, Tryz.ntmps109
  go_upto_region 1 with (fail)
  refine wp_at hW1 ?_
  clear hW1
  cases q0 with
  | false =>
    go_wp2_with (first | (go_at_call 125; refine (CA.out _).mono ?_; rintro e w1 ⟨rfl, hb1⟩; have NH1 : Hid (_ = _) := blk_b NH.out hb1; have NX1 : Hid (_ = _) := blk_b NX.out hb1; have HB1 : Hid (Below w.heap.size w w1) := HB.out.trans (hb1.mono HB.out.size); obtain ⟨c0_1, c1_1, c2_1, c3_1, c4_1, c5_1, c6_1, c7_1, c8_1⟩ := cells9 NH1.out; obtain ⟨x0_1, x1_1, x2_1, x3_1, x4_1, x5_1, x6_1, x7_1, x8_1, x9_1, x10_1, x11_1⟩ := cells12 NX1.out; clear hb1 CA) | fail)
    go_ret
    exact ⟨by rw [HR.out]; rfl, HB1.out⟩
  | true =>
    cases q1 with
    | false =>
      go_wp2_with (first | (go_at_call 125; refine (CA.out _).mono ?_; rintro e w1 ⟨rfl, hb1⟩; have NH1 : Hid (_ = _) := blk_b NH.out hb1; have NX1 : Hid (_ = _) := blk_b NX.out hb1; have HB1 : Hid (Below w.heap.size w w1) := HB.out.trans (hb1.mono HB.out.size); obtain ⟨c0_1, c1_1, c2_1, c3_1, c4_1, c5_1, c6_1, c7_1, c8_1⟩ := cells9 NH1.out; obtain ⟨x0_1, x1_1, x2_1, x3_1, x4_1, x5_1, x6_1, x7_1, x8_1, x9_1, x10_1, x11_1⟩ := cells12 NX1.out; clear hb1 CA) | (go_at_call 125; refine (CB.out _).mono ?_; rintro e w2 ⟨rfl, hb2⟩; have NH2 : Hid (_ = _) := blk_b NH1.out hb2; have NX2 : Hid (_ = _) := blk_b NX1.out hb2; have HB2 : Hid (Below w.heap.size w w2) := HB1.out.trans (hb2.mono HB1.out.size); obtain ⟨c0_2, c1_2, c2_2, c3_2, c4_2, c5_2, c6_2, c7_2, c8_2⟩ := cells9 NH2.out; obtain ⟨x0_2, x1_2, x2_2, x3_2, x4_2, x5_2, x6_2, x7_2, x8_2, x9_2, x10_2, x11_2⟩ := cells12 NX2.out; clear hb2 CB) | fail)
      go_ret
      exact ⟨by rw [HR.out]; rfl, HB2.out⟩
    | true =>
      cases q2 with
      | false =>
        go_wp2_with (first | (go_at_call 125; refine (CA.out _).mono ?_; rintro e w1 ⟨rfl, hb1⟩; have NH1 : Hid (_ = _) := blk_b NH.out hb1; have NX1 : Hid (_ = _) := blk_b NX.out hb1; have HB1 : Hid (Below w.heap.size w w1) := HB.out.trans (hb1.mono HB.out.size); obtain ⟨c0_1, c1_1, c2_1, c3_1, c4_1, c5_1, c6_1, c7_1, c8_1⟩ := cells9 NH1.out; obtain ⟨x0_1, x1_1, x2_1, x3_1, x4_1, x5_1, x6_1, x7_1, x8_1, x9_1, x10_1, x11_1⟩ := cells12 NX1.out; clear hb1 CA) | (go_at_call 125; refine (CB.out _).mono ?_; rintro e w2 ⟨rfl, hb2⟩; have NH2 : Hid (_ = _) := blk_b NH1.out hb2; have NX2 : Hid (_ = _) := blk_b NX1.out hb2; have HB2 : Hid (Below w.heap.size w w2) := HB1.out.trans (hb2.mono HB1.out.size); obtain ⟨c0_2, c1_2, c2_2, c3_2, c4_2, c5_2, c6_2, c7_2, c8_2⟩ := cells9 NH2.out; obtain ⟨x0_2, x1_2, x2_2, x3_2, x4_2, x5_2, x6_2, x7_2, x8_2, x9_2, x10_2, x11_2⟩ := cells12 NX2.out; clear hb2 CB) | (go_at_call 78; refine (CW.out _).mono ?_; rintro e w' ⟨rfl, hw⟩; rw [hw]; clear hw w') | fail)
        go_ret
        exact ⟨by rw [HR.out]; rfl, HB2.out⟩
      | true =>
        cases q3 with
        | false =>
          go_wp2_with (first | (go_at_call 125; refine (CA.out _).mono ?_; rintro e w1 ⟨rfl, hb1⟩; have NH1 : Hid (_ = _) := blk_b NH.out hb1; have NX1 : Hid (_ = _) := blk_b NX.out hb1; have HB1 : Hid (Below w.heap.size w w1) := HB.out.trans (hb1.mono HB.out.size); obtain ⟨c0_1, c1_1, c2_1, c3_1, c4_1, c5_1, c6_1, c7_1, c8_1⟩ := cells9 NH1.out; obtain ⟨x0_1, x1_1, x2_1, x3_1, x4_1, x5_1, x6_1, x7_1, x8_1, x9_1, x10_1, x11_1⟩ := cells12 NX1.out; clear hb1 CA) | (go_at_call 125; refine (CB.out _).mono ?_; rintro e w2 ⟨rfl, hb2⟩; have NH2 : Hid (_ = _) := blk_b NH1.out hb2; have NX2 : Hid (_ = _) := blk_b NX1.out hb2; have HB2 : Hid (Below w.heap.size w w2) := HB1.out.trans (hb2.mono HB1.out.size); obtain ⟨c0_2, c1_2, c2_2, c3_2, c4_2, c5_2, c6_2, c7_2, c8_2⟩ := cells9 NH2.out; obtain ⟨x0_2, x1_2, x2_2, x3_2, x4_2, x5_2, x6_2, x7_2, x8_2, x9_2, x10_2, x11_2⟩ := cells12 NX2.out; clear hb2 CB) | (go_at_call 78; refine (CW.out _).mono ?_; rintro e w' ⟨rfl, hw⟩; rw [hw]; clear hw w') | (go_at_call 50; refine (CI.out _).mono ?_; rintro e w' ⟨rfl, hw⟩; rw [hw]; clear hw w') | fail)
          go_ret
          exact ⟨by rw [HR.out]; rfl, HB2.out⟩
        | true =>
          cases qm with
          | false =>
            go_wp2_with (first | (go_at_call 125; refine (CA.out _).mono ?_; rintro e w1 ⟨rfl, hb1⟩; have NH1 : Hid (_ = _) := blk_b NH.out hb1; have NX1 : Hid (_ = _) := blk_b NX.out hb1; have HB1 : Hid (Below w.heap.size w w1) := HB.out.trans (hb1.mono HB.out.size); obtain ⟨c0_1, c1_1, c2_1, c3_1, c4_1, c5_1, c6_1, c7_1, c8_1⟩ := cells9 NH1.out; obtain ⟨x0_1, x1_1, x2_1, x3_1, x4_1, x5_1, x6_1, x7_1, x8_1, x9_1, x10_1, x11_1⟩ := cells12 NX1.out; clear hb1 CA) | (go_at_call 125; refine (CB.out _).mono ?_; rintro e w2 ⟨rfl, hb2⟩; have NH2 : Hid (_ = _) := blk_b NH1.out hb2; have NX2 : Hid (_ = _) := blk_b NX1.out hb2; have HB2 : Hid (Below w.heap.size w w2) := HB1.out.trans (hb2.mono HB1.out.size); obtain ⟨c0_2, c1_2, c2_2, c3_2, c4_2, c5_2, c6_2, c7_2, c8_2⟩ := cells9 NH2.out; obtain ⟨x0_2, x1_2, x2_2, x3_2, x4_2, x5_2, x6_2, x7_2, x8_2, x9_2, x10_2, x11_2⟩ := cells12 NX2.out; clear hb2 CB) | (go_at_call 78; refine (CW.out _).mono ?_; rintro e w' ⟨rfl, hw⟩; rw [hw]; clear hw w') | (go_at_call 50; refine (CI.out _).mono ?_; rintro e w' ⟨rfl, hw⟩; rw [hw]; clear hw w') | fail)
            go_ret
            exact ⟨by rw [HR.out]; rfl, HB2.out⟩
          | true =>
            go_wp2_with (first | (go_at_call 125; refine (CA.out _).mono ?_; rintro e w1 ⟨rfl, hb1⟩; have NH1 : Hid (_ = _) := blk_b NH.out hb1; have NX1 : Hid (_ = _) := blk_b NX.out hb1; have HB1 : Hid (Below w.heap.size w w1) := HB.out.trans (hb1.mono HB.out.size); obtain ⟨c0_1, c1_1, c2_1, c3_1, c4_1, c5_1, c6_1, c7_1, c8_1⟩ := cells9 NH1.out; obtain ⟨x0_1, x1_1, x2_1, x3_1, x4_1, x5_1, x6_1, x7_1, x8_1, x9_1, x10_1, x11_1⟩ := cells12 NX1.out; clear hb1 CA) | (go_at_call 125; refine (CB.out _).mono ?_; rintro e w2 ⟨rfl, hb2⟩; have NH2 : Hid (_ = _) := blk_b NH1.out hb2; have NX2 : Hid (_ = _) := blk_b NX1.out hb2; have HB2 : Hid (Below w.heap.size w w2) := HB1.out.trans (hb2.mono HB1.out.size); obtain ⟨c0_2, c1_2, c2_2, c3_2, c4_2, c5_2, c6_2, c7_2, c8_2⟩ := cells9 NH2.out; obtain ⟨x0_2, x1_2, x2_2, x3_2, x4_2, x5_2, x6_2, x7_2, x8_2, x9_2, x10_2, x11_2⟩ := cells12 NX2.out; clear hb2 CB) | (go_at_call 78; refine (CW.out _).mono ?_; rintro e w' ⟨rfl, hw⟩; rw [hw]; clear hw w') | (go_at_call 50; refine (CI.out _).mono ?_; rintro e w' ⟨rfl, hw⟩; rw [hw]; clear hw w') | fail)
            go_ret
            exact ⟨by rw [HR.out]; rfl, HB2.out⟩
set_option maxHeartbeats 8000000 in
theorem holds_7_4 (h : Hm) (h0 : 0 ≤ h.tp) (h1 : h.tp ≤ 9223372036854775807) (hcn : h.cn ≤ 9223372036854775806) {bin d ak an bk bn n off : Int} {sg : Bool} {args : List Ar} {xp : Option Addr} {xc : Nat} (hoa : ArOK ⟨ak, an⟩) (hob : ArOK ⟨bk, bn⟩) (hof : -9223372036854775808 ≤ off ∧ off ≤ 9223372036854775807) (hNm : NamesIn w) :
    Calls Tryz.prog 109 #[hmV h, .agg #[.int .i64 7, .int .i64 bin, .int .i64 d, .int .i64 ak, .int .u32 an, .int .i64 bk, .int .u32 bn, .int .i64 n, .int .i64 off, .int .i64 4, .bool sg, .slice xp args.length xc]] w fun e w' => e = .returned (.bool (operB h.tp ⟨ak, an⟩ && (operB h.tp ⟨bk, bn⟩ && (widthB 4 && (withinP off 1 16384 && (off.tmod 4 == 0)))))) ∧ Below w.heap.size w w' := by
  obtain ⟨W1, hW1, hNH, hNX, hHB⟩ := duo_ex w (.cells #[.slice h.op h.on h.oc, .slice h.fp h.fn h.fc, .int .i64 h.mn, .string h.nm, .int .i64 h.pr, .int .i64 h.tp, .bool h.gv, .slice h.sp h.sn h.sc, .slice h.cp h.cn h.cc] THm) (.cells #[.int .i64 7, .int .i64 bin, .int .i64 d, .int .i64 ak, .int .u32 an, .int .i64 bk, .int .u32 bn, .int .i64 n, .int .i64 off, .int .i64 4, .bool sg, .slice xp args.length xc] TIn)
  have NH : Hid (_ = _) := hNH
  have NX : Hid (_ = _) := hNX
  have HB : Hid (Below w.heap.size w _) := hHB
  obtain ⟨c0, c1, c2, c3, c4, c5, c6, c7, c8⟩ := cells9 NH.out
  obtain ⟨x0, x1, x2, x3, x4, x5, x6, x7, x8, x9, x10, x11⟩ := cells12 NX.out
  have CA : Hid (∀ w, Calls Tryz.prog 125 #[.agg #[.slice h.op h.on h.oc, .slice h.fp h.fn h.fc, .int .i64 h.mn, .string h.nm, .int .i64 h.pr, .int .i64 h.tp, .bool h.gv, .slice h.sp h.sn h.sc, .slice h.cp h.cn h.cc], .agg #[.int .i64 ak, .int .u32 an]] w fun e w' => e = .returned (.bool (operB h.tp ⟨ak, an⟩)) ∧ Below w.heap.size w w') := operand_c h h0 h1 ⟨ak, an⟩ hoa
  have CB : Hid (∀ w, Calls Tryz.prog 125 #[.agg #[.slice h.op h.on h.oc, .slice h.fp h.fn h.fc, .int .i64 h.mn, .string h.nm, .int .i64 h.pr, .int .i64 h.tp, .bool h.gv, .slice h.sp h.sn h.sc, .slice h.cp h.cn h.cc], .agg #[.int .i64 bk, .int .u32 bn]] w fun e w' => e = .returned (.bool (operB h.tp ⟨bk, bn⟩)) ∧ Below w.heap.size w w') := operand_c h h0 h1 ⟨bk, bn⟩ hob
  have CW : Hid (∀ w, Calls Tryz.prog 78 #[.int .i64 4] w fun e w' => e = .returned (.bool (widthB 4)) ∧ w' = w) := isWidth_c 4
  have CI : Hid (∀ w, Calls Tryz.prog 50 #[.int .i64 off, .int .i64 1, .int .i64 16384] w fun e w' => e = .returned (.bool (withinP off 1 16384)) ∧ w' = w) := within_c off 1 16384
  generalize operB h.tp ⟨ak, an⟩ = q0 at *
  generalize operB h.tp ⟨bk, bn⟩ = q1 at *
  generalize widthB 4 = q2 at *
  generalize withinP off 1 16384 = q3 at *
  obtain ⟨R, hR⟩ : ∃ R, R = (q0 && (q1 && (q2 && (q3 && (off.tmod 4 == 0))))) := ⟨_, rfl⟩
  rw [← hR]
  have HR : Hid (R = _) := hR
  clear hR
  unfold hmV
  have nt := not_t
  have nf := not_f
  clear hNH hNX hHB h0 h1 hcn hoa hob hNm
  have hM : IntKind.i64.wrap (off.tmod 4) = off.tmod 4 := wrap_idI (by have := tmod_bd off (show (0 : Int) < 4 by decide); omega) (by have := tmod_bd off (show (0 : Int) < 4 by decide); omega)
  generalize hqm : (off.tmod 4 == 0) = qm at *
  go_enter Tryz.func109, Tryz.ntmps109
  go_upto_region 1 with (fail)
  refine wp_at hW1 ?_
  clear hW1
  cases q0 with
  | false =>
    go_wp2_with (first | (go_at_call 125; refine (CA.out _).mono ?_; rintro e w1 ⟨rfl, hb1⟩; have NH1 : Hid (_ = _) := blk_b NH.out hb1; have NX1 : Hid (_ = _) := blk_b NX.out hb1; have HB1 : Hid (Below w.heap.size w w1) := HB.out.trans (hb1.mono HB.out.size); obtain ⟨c0_1, c1_1, c2_1, c3_1, c4_1, c5_1, c6_1, c7_1, c8_1⟩ := cells9 NH1.out; obtain ⟨x0_1, x1_1, x2_1, x3_1, x4_1, x5_1, x6_1, x7_1, x8_1, x9_1, x10_1, x11_1⟩ := cells12 NX1.out; clear hb1 CA) | fail)
    go_ret
    exact ⟨by rw [HR.out]; rfl, HB1.out⟩
  | true =>
    cases q1 with
    | false =>
      go_wp2_with (first | (go_at_call 125; refine (CA.out _).mono ?_; rintro e w1 ⟨rfl, hb1⟩; have NH1 : Hid (_ = _) := blk_b NH.out hb1; have NX1 : Hid (_ = _) := blk_b NX.out hb1; have HB1 : Hid (Below w.heap.size w w1) := HB.out.trans (hb1.mono HB.out.size); obtain ⟨c0_1, c1_1, c2_1, c3_1, c4_1, c5_1, c6_1, c7_1, c8_1⟩ := cells9 NH1.out; obtain ⟨x0_1, x1_1, x2_1, x3_1, x4_1, x5_1, x6_1, x7_1, x8_1, x9_1, x10_1, x11_1⟩ := cells12 NX1.out; clear hb1 CA) | (go_at_call 125; refine (CB.out _).mono ?_; rintro e w2 ⟨rfl, hb2⟩; have NH2 : Hid (_ = _) := blk_b NH1.out hb2; have NX2 : Hid (_ = _) := blk_b NX1.out hb2; have HB2 : Hid (Below w.heap.size w w2) := HB1.out.trans (hb2.mono HB1.out.size); obtain ⟨c0_2, c1_2, c2_2, c3_2, c4_2, c5_2, c6_2, c7_2, c8_2⟩ := cells9 NH2.out; obtain ⟨x0_2, x1_2, x2_2, x3_2, x4_2, x5_2, x6_2, x7_2, x8_2, x9_2, x10_2, x11_2⟩ := cells12 NX2.out; clear hb2 CB) | fail)
      go_ret
      exact ⟨by rw [HR.out]; rfl, HB2.out⟩
    | true =>
      cases q2 with
      | false =>
        go_wp2_with (first | (go_at_call 125; refine (CA.out _).mono ?_; rintro e w1 ⟨rfl, hb1⟩; have NH1 : Hid (_ = _) := blk_b NH.out hb1; have NX1 : Hid (_ = _) := blk_b NX.out hb1; have HB1 : Hid (Below w.heap.size w w1) := HB.out.trans (hb1.mono HB.out.size); obtain ⟨c0_1, c1_1, c2_1, c3_1, c4_1, c5_1, c6_1, c7_1, c8_1⟩ := cells9 NH1.out; obtain ⟨x0_1, x1_1, x2_1, x3_1, x4_1, x5_1, x6_1, x7_1, x8_1, x9_1, x10_1, x11_1⟩ := cells12 NX1.out; clear hb1 CA) | (go_at_call 125; refine (CB.out _).mono ?_; rintro e w2 ⟨rfl, hb2⟩; have NH2 : Hid (_ = _) := blk_b NH1.out hb2; have NX2 : Hid (_ = _) := blk_b NX1.out hb2; have HB2 : Hid (Below w.heap.size w w2) := HB1.out.trans (hb2.mono HB1.out.size); obtain ⟨c0_2, c1_2, c2_2, c3_2, c4_2, c5_2, c6_2, c7_2, c8_2⟩ := cells9 NH2.out; obtain ⟨x0_2, x1_2, x2_2, x3_2, x4_2, x5_2, x6_2, x7_2, x8_2, x9_2, x10_2, x11_2⟩ := cells12 NX2.out; clear hb2 CB) | (go_at_call 78; refine (CW.out _).mono ?_; rintro e w' ⟨rfl, hw⟩; rw [hw]; clear hw w') | fail)
        go_ret
        exact ⟨by rw [HR.out]; rfl, HB2.out⟩
      | true =>
        cases q3 with
        | false =>
          go_wp2_with (first | (go_at_call 125; refine (CA.out _).mono ?_; rintro e w1 ⟨rfl, hb1⟩; have NH1 : Hid (_ = _) := blk_b NH.out hb1; have NX1 : Hid (_ = _) := blk_b NX.out hb1; have HB1 : Hid (Below w.heap.size w w1) := HB.out.trans (hb1.mono HB.out.size); obtain ⟨c0_1, c1_1, c2_1, c3_1, c4_1, c5_1, c6_1, c7_1, c8_1⟩ := cells9 NH1.out; obtain ⟨x0_1, x1_1, x2_1, x3_1, x4_1, x5_1, x6_1, x7_1, x8_1, x9_1, x10_1, x11_1⟩ := cells12 NX1.out; clear hb1 CA) | (go_at_call 125; refine (CB.out _).mono ?_; rintro e w2 ⟨rfl, hb2⟩; have NH2 : Hid (_ = _) := blk_b NH1.out hb2; have NX2 : Hid (_ = _) := blk_b NX1.out hb2; have HB2 : Hid (Below w.heap.size w w2) := HB1.out.trans (hb2.mono HB1.out.size); obtain ⟨c0_2, c1_2, c2_2, c3_2, c4_2, c5_2, c6_2, c7_2, c8_2⟩ := cells9 NH2.out; obtain ⟨x0_2, x1_2, x2_2, x3_2, x4_2, x5_2, x6_2, x7_2, x8_2, x9_2, x10_2, x11_2⟩ := cells12 NX2.out; clear hb2 CB) | (go_at_call 78; refine (CW.out _).mono ?_; rintro e w' ⟨rfl, hw⟩; rw [hw]; clear hw w') | (go_at_call 50; refine (CI.out _).mono ?_; rintro e w' ⟨rfl, hw⟩; rw [hw]; clear hw w') | fail)
          go_ret
          exact ⟨by rw [HR.out]; rfl, HB2.out⟩
        | true =>
          cases qm with
          | false =>
            go_wp2_with (first | (go_at_call 125; refine (CA.out _).mono ?_; rintro e w1 ⟨rfl, hb1⟩; have NH1 : Hid (_ = _) := blk_b NH.out hb1; have NX1 : Hid (_ = _) := blk_b NX.out hb1; have HB1 : Hid (Below w.heap.size w w1) := HB.out.trans (hb1.mono HB.out.size); obtain ⟨c0_1, c1_1, c2_1, c3_1, c4_1, c5_1, c6_1, c7_1, c8_1⟩ := cells9 NH1.out; obtain ⟨x0_1, x1_1, x2_1, x3_1, x4_1, x5_1, x6_1, x7_1, x8_1, x9_1, x10_1, x11_1⟩ := cells12 NX1.out; clear hb1 CA) | (go_at_call 125; refine (CB.out _).mono ?_; rintro e w2 ⟨rfl, hb2⟩; have NH2 : Hid (_ = _) := blk_b NH1.out hb2; have NX2 : Hid (_ = _) := blk_b NX1.out hb2; have HB2 : Hid (Below w.heap.size w w2) := HB1.out.trans (hb2.mono HB1.out.size); obtain ⟨c0_2, c1_2, c2_2, c3_2, c4_2, c5_2, c6_2, c7_2, c8_2⟩ := cells9 NH2.out; obtain ⟨x0_2, x1_2, x2_2, x3_2, x4_2, x5_2, x6_2, x7_2, x8_2, x9_2, x10_2, x11_2⟩ := cells12 NX2.out; clear hb2 CB) | (go_at_call 78; refine (CW.out _).mono ?_; rintro e w' ⟨rfl, hw⟩; rw [hw]; clear hw w') | (go_at_call 50; refine (CI.out _).mono ?_; rintro e w' ⟨rfl, hw⟩; rw [hw]; clear hw w') | fail)
            go_ret
            exact ⟨by rw [HR.out]; rfl, HB2.out⟩
          | true =>
            go_wp2_with (first | (go_at_call 125; refine (CA.out _).mono ?_; rintro e w1 ⟨rfl, hb1⟩; have NH1 : Hid (_ = _) := blk_b NH.out hb1; have NX1 : Hid (_ = _) := blk_b NX.out hb1; have HB1 : Hid (Below w.heap.size w w1) := HB.out.trans (hb1.mono HB.out.size); obtain ⟨c0_1, c1_1, c2_1, c3_1, c4_1, c5_1, c6_1, c7_1, c8_1⟩ := cells9 NH1.out; obtain ⟨x0_1, x1_1, x2_1, x3_1, x4_1, x5_1, x6_1, x7_1, x8_1, x9_1, x10_1, x11_1⟩ := cells12 NX1.out; clear hb1 CA) | (go_at_call 125; refine (CB.out _).mono ?_; rintro e w2 ⟨rfl, hb2⟩; have NH2 : Hid (_ = _) := blk_b NH1.out hb2; have NX2 : Hid (_ = _) := blk_b NX1.out hb2; have HB2 : Hid (Below w.heap.size w w2) := HB1.out.trans (hb2.mono HB1.out.size); obtain ⟨c0_2, c1_2, c2_2, c3_2, c4_2, c5_2, c6_2, c7_2, c8_2⟩ := cells9 NH2.out; obtain ⟨x0_2, x1_2, x2_2, x3_2, x4_2, x5_2, x6_2, x7_2, x8_2, x9_2, x10_2, x11_2⟩ := cells12 NX2.out; clear hb2 CB) | (go_at_call 78; refine (CW.out _).mono ?_; rintro e w' ⟨rfl, hw⟩; rw [hw]; clear hw w') | (go_at_call 50; refine (CI.out _).mono ?_; rintro e w' ⟨rfl, hw⟩; rw [hw]; clear hw w') | fail)
            go_ret
            exact ⟨by rw [HR.out]; rfl, HB2.out⟩
set_option maxHeartbeats 8000000 in
theorem holds_7_no (h : Hm) (h0 : 0 ≤ h.tp) (h1 : h.tp ≤ 9223372036854775807) (hcn : h.cn ≤ 9223372036854775806) {bin d ak an bk bn n off wd : Int} {sg : Bool} {args : List Ar} {xp : Option Addr} {xc : Nat} (hoa : ArOK ⟨ak, an⟩) (hob : ArOK ⟨bk, bn⟩) (hof : -9223372036854775808 ≤ off ∧ off ≤ 9223372036854775807) (hNm : NamesIn w) (hwf : widthB wd = false) :
    Calls Tryz.prog 109 #[hmV h, .agg #[.int .i64 7, .int .i64 bin, .int .i64 d, .int .i64 ak, .int .u32 an, .int .i64 bk, .int .u32 bn, .int .i64 n, .int .i64 off, .int .i64 wd, .bool sg, .slice xp args.length xc]] w fun e w' => e = .returned (.bool (operB h.tp ⟨ak, an⟩ && (operB h.tp ⟨bk, bn⟩ && (widthB wd)))) ∧ Below w.heap.size w w' := by
  obtain ⟨W1, hW1, hNH, hNX, hHB⟩ := duo_ex w (.cells #[.slice h.op h.on h.oc, .slice h.fp h.fn h.fc, .int .i64 h.mn, .string h.nm, .int .i64 h.pr, .int .i64 h.tp, .bool h.gv, .slice h.sp h.sn h.sc, .slice h.cp h.cn h.cc] THm) (.cells #[.int .i64 7, .int .i64 bin, .int .i64 d, .int .i64 ak, .int .u32 an, .int .i64 bk, .int .u32 bn, .int .i64 n, .int .i64 off, .int .i64 wd, .bool sg, .slice xp args.length xc] TIn)
  have NH : Hid (_ = _) := hNH
  have NX : Hid (_ = _) := hNX
  have HB : Hid (Below w.heap.size w _) := hHB
  obtain ⟨c0, c1, c2, c3, c4, c5, c6, c7, c8⟩ := cells9 NH.out
  obtain ⟨x0, x1, x2, x3, x4, x5, x6, x7, x8, x9, x10, x11⟩ := cells12 NX.out
  have CA : Hid (∀ w, Calls Tryz.prog 125 #[.agg #[.slice h.op h.on h.oc, .slice h.fp h.fn h.fc, .int .i64 h.mn, .string h.nm, .int .i64 h.pr, .int .i64 h.tp, .bool h.gv, .slice h.sp h.sn h.sc, .slice h.cp h.cn h.cc], .agg #[.int .i64 ak, .int .u32 an]] w fun e w' => e = .returned (.bool (operB h.tp ⟨ak, an⟩)) ∧ Below w.heap.size w w') := operand_c h h0 h1 ⟨ak, an⟩ hoa
  have CB : Hid (∀ w, Calls Tryz.prog 125 #[.agg #[.slice h.op h.on h.oc, .slice h.fp h.fn h.fc, .int .i64 h.mn, .string h.nm, .int .i64 h.pr, .int .i64 h.tp, .bool h.gv, .slice h.sp h.sn h.sc, .slice h.cp h.cn h.cc], .agg #[.int .i64 bk, .int .u32 bn]] w fun e w' => e = .returned (.bool (operB h.tp ⟨bk, bn⟩)) ∧ Below w.heap.size w w') := operand_c h h0 h1 ⟨bk, bn⟩ hob
  have CW : Hid (∀ w, Calls Tryz.prog 78 #[.int .i64 wd] w fun e w' => e = .returned (.bool (widthB wd)) ∧ w' = w) := isWidth_c wd
  generalize operB h.tp ⟨ak, an⟩ = q0 at *
  generalize operB h.tp ⟨bk, bn⟩ = q1 at *
  rw [hwf] at CW ⊢
  clear hwf
  obtain ⟨R, hR⟩ : ∃ R, R = (q0 && (q1 && (false))) := ⟨_, rfl⟩
  rw [← hR]
  have HR : Hid (R = _) := hR
  clear hR
  unfold hmV
  have nt := not_t
  have nf := not_f
  clear hNH hNX hHB h0 h1 hcn hoa hob hNm
  go_enter Tryz.func109, Tryz.ntmps109
  go_upto_region 1 with (fail)
  refine wp_at hW1 ?_
  clear hW1
  cases q0 with
  | false =>
    go_wp2_with (first | (go_at_call 125; refine (CA.out _).mono ?_; rintro e w1 ⟨rfl, hb1⟩; have NH1 : Hid (_ = _) := blk_b NH.out hb1; have NX1 : Hid (_ = _) := blk_b NX.out hb1; have HB1 : Hid (Below w.heap.size w w1) := HB.out.trans (hb1.mono HB.out.size); obtain ⟨c0_1, c1_1, c2_1, c3_1, c4_1, c5_1, c6_1, c7_1, c8_1⟩ := cells9 NH1.out; obtain ⟨x0_1, x1_1, x2_1, x3_1, x4_1, x5_1, x6_1, x7_1, x8_1, x9_1, x10_1, x11_1⟩ := cells12 NX1.out; clear hb1 CA) | fail)
    go_ret
    exact ⟨by rw [HR.out]; rfl, HB1.out⟩
  | true =>
    cases q1 with
    | false =>
      go_wp2_with (first | (go_at_call 125; refine (CA.out _).mono ?_; rintro e w1 ⟨rfl, hb1⟩; have NH1 : Hid (_ = _) := blk_b NH.out hb1; have NX1 : Hid (_ = _) := blk_b NX.out hb1; have HB1 : Hid (Below w.heap.size w w1) := HB.out.trans (hb1.mono HB.out.size); obtain ⟨c0_1, c1_1, c2_1, c3_1, c4_1, c5_1, c6_1, c7_1, c8_1⟩ := cells9 NH1.out; obtain ⟨x0_1, x1_1, x2_1, x3_1, x4_1, x5_1, x6_1, x7_1, x8_1, x9_1, x10_1, x11_1⟩ := cells12 NX1.out; clear hb1 CA) | (go_at_call 125; refine (CB.out _).mono ?_; rintro e w2 ⟨rfl, hb2⟩; have NH2 : Hid (_ = _) := blk_b NH1.out hb2; have NX2 : Hid (_ = _) := blk_b NX1.out hb2; have HB2 : Hid (Below w.heap.size w w2) := HB1.out.trans (hb2.mono HB1.out.size); obtain ⟨c0_2, c1_2, c2_2, c3_2, c4_2, c5_2, c6_2, c7_2, c8_2⟩ := cells9 NH2.out; obtain ⟨x0_2, x1_2, x2_2, x3_2, x4_2, x5_2, x6_2, x7_2, x8_2, x9_2, x10_2, x11_2⟩ := cells12 NX2.out; clear hb2 CB) | fail)
      go_ret
      exact ⟨by rw [HR.out]; rfl, HB2.out⟩
    | true =>
      go_wp2_with (first | (go_at_call 125; refine (CA.out _).mono ?_; rintro e w1 ⟨rfl, hb1⟩; have NH1 : Hid (_ = _) := blk_b NH.out hb1; have NX1 : Hid (_ = _) := blk_b NX.out hb1; have HB1 : Hid (Below w.heap.size w w1) := HB.out.trans (hb1.mono HB.out.size); obtain ⟨c0_1, c1_1, c2_1, c3_1, c4_1, c5_1, c6_1, c7_1, c8_1⟩ := cells9 NH1.out; obtain ⟨x0_1, x1_1, x2_1, x3_1, x4_1, x5_1, x6_1, x7_1, x8_1, x9_1, x10_1, x11_1⟩ := cells12 NX1.out; clear hb1 CA) | (go_at_call 125; refine (CB.out _).mono ?_; rintro e w2 ⟨rfl, hb2⟩; have NH2 : Hid (_ = _) := blk_b NH1.out hb2; have NX2 : Hid (_ = _) := blk_b NX1.out hb2; have HB2 : Hid (Below w.heap.size w w2) := HB1.out.trans (hb2.mono HB1.out.size); obtain ⟨c0_2, c1_2, c2_2, c3_2, c4_2, c5_2, c6_2, c7_2, c8_2⟩ := cells9 NH2.out; obtain ⟨x0_2, x1_2, x2_2, x3_2, x4_2, x5_2, x6_2, x7_2, x8_2, x9_2, x10_2, x11_2⟩ := cells12 NX2.out; clear hb2 CB) | (go_at_call 78; refine (CW.out _).mono ?_; rintro e w' ⟨rfl, hw⟩; rw [hw]; clear hw w') | fail)
      go_ret
      exact ⟨by rw [HR.out]; rfl, HB2.out⟩
end
end Go.Proofs.YtaaphipbkpjkjaaGreatDoor
