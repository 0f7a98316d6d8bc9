/-
  What an instruction's row names is as the row says: holds of package tac, an operation a theorem.
-/
import Derived.Test.YtdijnbgcamgjfaaGreatDoorKE
namespace Go.Proofs.YtdijnbgcamgjfaaGreatDoor
open Go.RowKit Go.Maps
set_option linter.unusedVariables false
set_option maxRecDepth 100000
section
variable {w : World}
set_option maxHeartbeats 8000000 in
theorem holds_2 (h : Hm) (h0 : 0 ≤ h.tp) (h1 : h.tp ≤ 9223372036854775807) (hcn : h.cn ≤ 9223372036854775806) {bin d ak an bk bn n off wd : Int} {sg : Bool} {args : List Ar} {xp : Option Addr} {xc : Nat} (hoa : ArOK ⟨ak, an⟩) (hob : ArOK ⟨bk, bn⟩) (hof : -9223372036854775808 ≤ off ∧ off ≤ 9223372036854775807) (hNm : NamesIn w) :
    Calls Tryz.prog 109 #[hmV h, .agg #[.int .i64 2, .int .i64 bin, .int .i64 d, .int .i64 ak, .int .u32 an, .int .i64 bk, .int .u32 bn, .int .i64 n, .int .i64 off, .int .i64 wd, .bool sg, .slice xp args.length xc]] w fun e w' => e = .returned (.bool (tempB h.tp d && (isOp bin && (operB h.tp ⟨ak, an⟩ && (operB h.tp ⟨bk, bn⟩))))) ∧ Below w.heap.size w w' := by
  have b1 := below1 w (.cells #[.slice h.op h.on h.oc, .slice h.fp h.fn h.fc, .int .i64 h.mn, .string h.nm, .int .i64 h.pr, .int .i64 h.tp, .bool h.gv, .slice h.sp h.sn h.sc, .slice h.cp h.cn h.cc] THm)
  have b2 := below1 (w.alloc (.cells #[.slice h.op h.on h.oc, .slice h.fp h.fn h.fc, .int .i64 h.mn, .string h.nm, .int .i64 h.pr, .int .i64 h.tp, .bool h.gv, .slice h.sp h.sn h.sc, .slice h.cp h.cn h.cc] THm)) (.cells #[.int .i64 2, .int .i64 bin, .int .i64 d, .int .i64 ak, .int .u32 an, .int .i64 bk, .int .u32 bn, .int .i64 n, .int .i64 off, .int .i64 wd, .bool sg, .slice xp args.length xc] TIn)
  have hzA : (w.alloc (.cells #[.slice h.op h.on h.oc, .slice h.fp h.fn h.fc, .int .i64 h.mn, .string h.nm, .int .i64 h.pr, .int .i64 h.tp, .bool h.gv, .slice h.sp h.sn h.sc, .slice h.cp h.cn h.cc] THm)).heap.size = w.heap.size + 1 := by simp
  have NH : Hid (((w.alloc (.cells #[.slice h.op h.on h.oc, .slice h.fp h.fn h.fc, .int .i64 h.mn, .string h.nm, .int .i64 h.pr, .int .i64 h.tp, .bool h.gv, .slice h.sp h.sn h.sc, .slice h.cp h.cn h.cc] THm)).alloc (.cells #[.int .i64 2, .int .i64 bin, .int .i64 d, .int .i64 ak, .int .u32 an, .int .i64 bk, .int .u32 bn, .int .i64 n, .int .i64 off, .int .i64 wd, .bool sg, .slice xp args.length xc] TIn)).heap[w.heap.size]? = some (.cells #[.slice h.op h.on h.oc, .slice h.fp h.fn h.fc, .int .i64 h.mn, .string h.nm, .int .i64 h.pr, .int .i64 h.tp, .bool h.gv, .slice h.sp h.sn h.sc, .slice h.cp h.cn h.cc] THm (0, 0))) := blk_b (heap_r0 w _) b2
  have NX : Hid (((w.alloc (.cells #[.slice h.op h.on h.oc, .slice h.fp h.fn h.fc, .int .i64 h.mn, .string h.nm, .int .i64 h.pr, .int .i64 h.tp, .bool h.gv, .slice h.sp h.sn h.sc, .slice h.cp h.cn h.cc] THm)).alloc (.cells #[.int .i64 2, .int .i64 bin, .int .i64 d, .int .i64 ak, .int .u32 an, .int .i64 bk, .int .u32 bn, .int .i64 n, .int .i64 off, .int .i64 wd, .bool sg, .slice xp args.length xc] TIn)).heap[w.heap.size + 1]? = some (.cells #[.int .i64 2, .int .i64 bin, .int .i64 d, .int .i64 ak, .int .u32 an, .int .i64 bk, .int .u32 bn, .int .i64 n, .int .i64 off, .int .i64 wd, .bool sg, .slice xp args.length xc] TIn (0, 0))) := by have := heap_r0 (w.alloc (.cells #[.slice h.op h.on h.oc, .slice h.fp h.fn h.fc, .int .i64 h.mn, .string h.nm, .int .i64 h.pr, .int .i64 h.tp, .bool h.gv, .slice h.sp h.sn h.sc, .slice h.cp h.cn h.cc] THm)) (.cells #[.int .i64 2, .int .i64 bin, .int .i64 d, .int .i64 ak, .int .u32 an, .int .i64 bk, .int .u32 bn, .int .i64 n, .int .i64 off, .int .i64 wd, .bool sg, .slice xp args.length xc] TIn); rw [hzA] at this; exact this
  have HB : Hid (Below w.heap.size w ((w.alloc (.cells #[.slice h.op h.on h.oc, .slice h.fp h.fn h.fc, .int .i64 h.mn, .string h.nm, .int .i64 h.pr, .int .i64 h.tp, .bool h.gv, .slice h.sp h.sn h.sc, .slice h.cp h.cn h.cc] THm)).alloc (.cells #[.int .i64 2, .int .i64 bin, .int .i64 d, .int .i64 ak, .int .u32 an, .int .i64 bk, .int .u32 bn, .int .i64 n, .int .i64 off, .int .i64 wd, .bool sg, .slice xp args.length xc] TIn))) := b1.trans (b2.mono b1.size)
  obtain ⟨c0, c1, c2, c3, c4, c5, c6, c7, c8⟩ := cells9 NH.out
  obtain ⟨x0, x1, x2, x3, x4, x5, x6, x7, x8, x9, x10, x11⟩ := cells12 NX.out
  have CT : Hid (∀ w, Calls Tryz.prog 124 #[.agg #[.slice h.op h.on h.oc, .slice h.fp h.fn h.fc, .int .i64 h.mn, .string h.nm, .int .i64 h.pr, .int .i64 h.tp, .bool h.gv, .slice h.sp h.sn h.sc, .slice h.cp h.cn h.cc], .int .i64 d] w fun e w' => e = .returned (.bool (tempB h.tp d)) ∧ Below w.heap.size w w') := temp_c h (by omega) h1 d
  have CN : Hid (∀ w, NamesIn w → Calls Tryz.prog 99 #[.int .i64 bin] w fun e w' => e = .returned (.string (opName bin)) ∧ w' = w) := fun w hw => name_c bin hw
  have hop := opName_ne bin
  have HNM : Hid (NamesIn w) := hNm
  generalize opName bin = onm at *
  have CA : Hid (∀ w, Calls Tryz.prog 125 #[.agg #[.slice h.op h.on h.oc, .slice h.fp h.fn h.fc, .int .i64 h.mn, .string h.nm, .int .i64 h.pr, .int .i64 h.tp, .bool h.gv, .slice h.sp h.sn h.sc, .slice h.cp h.cn h.cc], .agg #[.int .i64 ak, .int .u32 an]] w fun e w' => e = .returned (.bool (operB h.tp ⟨ak, an⟩)) ∧ Below w.heap.size w w') := operand_c h h0 h1 ⟨ak, an⟩ hoa
  have CB : Hid (∀ w, Calls Tryz.prog 125 #[.agg #[.slice h.op h.on h.oc, .slice h.fp h.fn h.fc, .int .i64 h.mn, .string h.nm, .int .i64 h.pr, .int .i64 h.tp, .bool h.gv, .slice h.sp h.sn h.sc, .slice h.cp h.cn h.cc], .agg #[.int .i64 bk, .int .u32 bn]] w fun e w' => e = .returned (.bool (operB h.tp ⟨bk, bn⟩)) ∧ Below w.heap.size w w') := operand_c h h0 h1 ⟨bk, bn⟩ hob
  generalize tempB h.tp d = q0 at *
  generalize isOp bin = q1 at *
  generalize operB h.tp ⟨ak, an⟩ = q2 at *
  generalize operB h.tp ⟨bk, bn⟩ = q3 at *
  unfold hmV
  have nt := not_t
  have nf := not_f
  clear b1 b2 hzA h0 h1 hcn hoa hob hNm
  cases q0 with
  | false =>
    go_enter Tryz.func109, Tryz.ntmps109
    go_upto_region 1 with (fail)
    refine (?_ : Code.wp _ _ _ _ ((w.alloc (.cells #[.slice h.op h.on h.oc, .slice h.fp h.fn h.fc, .int .i64 h.mn, .string h.nm, .int .i64 h.pr, .int .i64 h.tp, .bool h.gv, .slice h.sp h.sn h.sc, .slice h.cp h.cn h.cc] THm)).alloc (.cells #[.int .i64 2, .int .i64 bin, .int .i64 d, .int .i64 ak, .int .u32 an, .int .i64 bk, .int .u32 bn, .int .i64 n, .int .i64 off, .int .i64 wd, .bool sg, .slice xp args.length xc] TIn)))
    generalize ((w.alloc (.cells #[.slice h.op h.on h.oc, .slice h.fp h.fn h.fc, .int .i64 h.mn, .string h.nm, .int .i64 h.pr, .int .i64 h.tp, .bool h.gv, .slice h.sp h.sn h.sc, .slice h.cp h.cn h.cc] THm)).alloc (.cells #[.int .i64 2, .int .i64 bin, .int .i64 d, .int .i64 ak, .int .u32 an, .int .i64 bk, .int .u32 bn, .int .i64 n, .int .i64 off, .int .i64 wd, .bool sg, .slice xp args.length xc] TIn)) = W1 at *
    go_wp2_with (first | (go_at_call 124; refine (CT.out _).mono ?_; rintro e w1 ⟨rfl, hb1⟩; have NH1 : Hid (_ = _) := blk_b NH.out hb1; have NX1 : Hid (_ = _) := blk_b NX.out hb1; have HB1 : Hid (Below w.heap.size w w1) := HB.out.trans (hb1.mono HB.out.size); obtain ⟨c0_1, c1_1, c2_1, c3_1, c4_1, c5_1, c6_1, c7_1, c8_1⟩ := cells9 NH1.out; obtain ⟨x0_1, x1_1, x2_1, x3_1, x4_1, x5_1, x6_1, x7_1, x8_1, x9_1, x10_1, x11_1⟩ := cells12 NX1.out; clear hb1 CT) | fail)
    go_ret
    exact ⟨rfl, HB1.out⟩
  | true =>
    cases q1 with
    | false =>
      go_enter Tryz.func109, Tryz.ntmps109
      go_upto_region 1 with (fail)
      refine (?_ : Code.wp _ _ _ _ ((w.alloc (.cells #[.slice h.op h.on h.oc, .slice h.fp h.fn h.fc, .int .i64 h.mn, .string h.nm, .int .i64 h.pr, .int .i64 h.tp, .bool h.gv, .slice h.sp h.sn h.sc, .slice h.cp h.cn h.cc] THm)).alloc (.cells #[.int .i64 2, .int .i64 bin, .int .i64 d, .int .i64 ak, .int .u32 an, .int .i64 bk, .int .u32 bn, .int .i64 n, .int .i64 off, .int .i64 wd, .bool sg, .slice xp args.length xc] TIn)))
      generalize ((w.alloc (.cells #[.slice h.op h.on h.oc, .slice h.fp h.fn h.fc, .int .i64 h.mn, .string h.nm, .int .i64 h.pr, .int .i64 h.tp, .bool h.gv, .slice h.sp h.sn h.sc, .slice h.cp h.cn h.cc] THm)).alloc (.cells #[.int .i64 2, .int .i64 bin, .int .i64 d, .int .i64 ak, .int .u32 an, .int .i64 bk, .int .u32 bn, .int .i64 n, .int .i64 off, .int .i64 wd, .bool sg, .slice xp args.length xc] TIn)) = W1 at *
      go_wp2_with (first | (go_at_call 124; refine (CT.out _).mono ?_; rintro e w1 ⟨rfl, hb1⟩; have NH1 : Hid (_ = _) := blk_b NH.out hb1; have NX1 : Hid (_ = _) := blk_b NX.out hb1; have HB1 : Hid (Below w.heap.size w w1) := HB.out.trans (hb1.mono HB.out.size); obtain ⟨c0_1, c1_1, c2_1, c3_1, c4_1, c5_1, c6_1, c7_1, c8_1⟩ := cells9 NH1.out; obtain ⟨x0_1, x1_1, x2_1, x3_1, x4_1, x5_1, x6_1, x7_1, x8_1, x9_1, x10_1, x11_1⟩ := cells12 NX1.out; clear hb1 CT) | (go_at_call 99; refine (CN.out _ (HNM.out.below HB1.out)).mono ?_; rintro e w' ⟨rfl, hw⟩; rw [hw]; clear hw w') | fail)
      go_ret
      exact ⟨rfl, HB1.out⟩
    | true =>
      cases q2 with
      | false =>
        go_enter Tryz.func109, Tryz.ntmps109
        go_upto_region 1 with (fail)
        refine (?_ : Code.wp _ _ _ _ ((w.alloc (.cells #[.slice h.op h.on h.oc, .slice h.fp h.fn h.fc, .int .i64 h.mn, .string h.nm, .int .i64 h.pr, .int .i64 h.tp, .bool h.gv, .slice h.sp h.sn h.sc, .slice h.cp h.cn h.cc] THm)).alloc (.cells #[.int .i64 2, .int .i64 bin, .int .i64 d, .int .i64 ak, .int .u32 an, .int .i64 bk, .int .u32 bn, .int .i64 n, .int .i64 off, .int .i64 wd, .bool sg, .slice xp args.length xc] TIn)))
        generalize ((w.alloc (.cells #[.slice h.op h.on h.oc, .slice h.fp h.fn h.fc, .int .i64 h.mn, .string h.nm, .int .i64 h.pr, .int .i64 h.tp, .bool h.gv, .slice h.sp h.sn h.sc, .slice h.cp h.cn h.cc] THm)).alloc (.cells #[.int .i64 2, .int .i64 bin, .int .i64 d, .int .i64 ak, .int .u32 an, .int .i64 bk, .int .u32 bn, .int .i64 n, .int .i64 off, .int .i64 wd, .bool sg, .slice xp args.length xc] TIn)) = W1 at *
        go_wp2_with (first | (go_at_call 124; refine (CT.out _).mono ?_; rintro e w1 ⟨rfl, hb1⟩; have NH1 : Hid (_ = _) := blk_b NH.out hb1; have NX1 : Hid (_ = _) := blk_b NX.out hb1; have HB1 : Hid (Below w.heap.size w w1) := HB.out.trans (hb1.mono HB.out.size); obtain ⟨c0_1, c1_1, c2_1, c3_1, c4_1, c5_1, c6_1, c7_1, c8_1⟩ := cells9 NH1.out; obtain ⟨x0_1, x1_1, x2_1, x3_1, x4_1, x5_1, x6_1, x7_1, x8_1, x9_1, x10_1, x11_1⟩ := cells12 NX1.out; clear hb1 CT) | (go_at_call 99; refine (CN.out _ (HNM.out.below HB1.out)).mono ?_; rintro e w' ⟨rfl, hw⟩; rw [hw]; clear hw w') | (go_at_call 125; refine (CA.out _).mono ?_; rintro e w3 ⟨rfl, hb3⟩; have NH3 : Hid (_ = _) := blk_b NH1.out hb3; have NX3 : Hid (_ = _) := blk_b NX1.out hb3; have HB3 : Hid (Below w.heap.size w w3) := HB1.out.trans (hb3.mono HB1.out.size); obtain ⟨c0_3, c1_3, c2_3, c3_3, c4_3, c5_3, c6_3, c7_3, c8_3⟩ := cells9 NH3.out; obtain ⟨x0_3, x1_3, x2_3, x3_3, x4_3, x5_3, x6_3, x7_3, x8_3, x9_3, x10_3, x11_3⟩ := cells12 NX3.out; clear hb3 CA) | fail)
        go_ret
        exact ⟨rfl, HB3.out⟩
      | true =>
        go_enter Tryz.func109, Tryz.ntmps109
        go_upto_region 1 with (fail)
        refine (?_ : Code.wp _ _ _ _ ((w.alloc (.cells #[.slice h.op h.on h.oc, .slice h.fp h.fn h.fc, .int .i64 h.mn, .string h.nm, .int .i64 h.pr, .int .i64 h.tp, .bool h.gv, .slice h.sp h.sn h.sc, .slice h.cp h.cn h.cc] THm)).alloc (.cells #[.int .i64 2, .int .i64 bin, .int .i64 d, .int .i64 ak, .int .u32 an, .int .i64 bk, .int .u32 bn, .int .i64 n, .int .i64 off, .int .i64 wd, .bool sg, .slice xp args.length xc] TIn)))
        generalize ((w.alloc (.cells #[.slice h.op h.on h.oc, .slice h.fp h.fn h.fc, .int .i64 h.mn, .string h.nm, .int .i64 h.pr, .int .i64 h.tp, .bool h.gv, .slice h.sp h.sn h.sc, .slice h.cp h.cn h.cc] THm)).alloc (.cells #[.int .i64 2, .int .i64 bin, .int .i64 d, .int .i64 ak, .int .u32 an, .int .i64 bk, .int .u32 bn, .int .i64 n, .int .i64 off, .int .i64 wd, .bool sg, .slice xp args.length xc] TIn)) = W1 at *
        go_wp2_with (first | (go_at_call 124; refine (CT.out _).mono ?_; rintro e w1 ⟨rfl, hb1⟩; have NH1 : Hid (_ = _) := blk_b NH.out hb1; have NX1 : Hid (_ = _) := blk_b NX.out hb1; have HB1 : Hid (Below w.heap.size w w1) := HB.out.trans (hb1.mono HB.out.size); obtain ⟨c0_1, c1_1, c2_1, c3_1, c4_1, c5_1, c6_1, c7_1, c8_1⟩ := cells9 NH1.out; obtain ⟨x0_1, x1_1, x2_1, x3_1, x4_1, x5_1, x6_1, x7_1, x8_1, x9_1, x10_1, x11_1⟩ := cells12 NX1.out; clear hb1 CT) | (go_at_call 99; refine (CN.out _ (HNM.out.below HB1.out)).mono ?_; rintro e w' ⟨rfl, hw⟩; rw [hw]; clear hw w') | (go_at_call 125; refine (CA.out _).mono ?_; rintro e w3 ⟨rfl, hb3⟩; have NH3 : Hid (_ = _) := blk_b NH1.out hb3; have NX3 : Hid (_ = _) := blk_b NX1.out hb3; have HB3 : Hid (Below w.heap.size w w3) := HB1.out.trans (hb3.mono HB1.out.size); obtain ⟨c0_3, c1_3, c2_3, c3_3, c4_3, c5_3, c6_3, c7_3, c8_3⟩ := cells9 NH3.out; obtain ⟨x0_3, x1_3, x2_3, x3_3, x4_3, x5_3, x6_3, x7_3, x8_3, x9_3, x10_3, x11_3⟩ := cells12 NX3.out; clear hb3 CA) | (go_at_call 125; refine (CB.out _).mono ?_; rintro e w4 ⟨rfl, hb4⟩; have NH4 : Hid (_ = _) := blk_b NH3.out hb4; have NX4 : Hid (_ = _) := blk_b NX3.out hb4; have HB4 : Hid (Below w.heap.size w w4) := HB3.out.trans (hb4.mono HB3.out.size); obtain ⟨c0_4, c1_4, c2_4, c3_4, c4_4, c5_4, c6_4, c7_4, c8_4⟩ := cells9 NH4.out; obtain ⟨x0_4, x1_4, x2_4, x3_4, x4_4, x5_4, x6_4, x7_4, x8_4, x9_4, x10_4, x11_4⟩ := cells12 NX4.out; clear hb4 CB) | fail)
        go_ret
        exact ⟨by first | rfl | (cases q3 <;> rfl), HB4.out⟩
end
end Go.Proofs.YtdijnbgcamgjfaaGreatDoor
