/-
  What an instruction's row names is as the row says: holds of package tac, an operation a theorem.
  What an instruction's row names is as the row says: holds of package tac, an operation a theorem.
  What an instruction's row names is as the row says: holds of package tac, an operation a theorem.
-/
import Derived.Test.YtaaphipbkpjkjaaGreatDoorKE
namespace Go.Proofs.YtaaphipbkpjkjaaGreatDoor
open Go.RowKit Go.Maps
set_option linter.unusedVariables false
set_option maxRecDepth 100000
section
variable {w : World}
set_option maxHeartbeats 8000000 in
theorem holds_13 (h : Hm) (h0 : 0 ≤ h.tp) (h1 : h.tp ≤ 9223372036854775807) (hcn : h.cn ≤ 9223372036854775806) {bin d ak an bk bn n off wd : Int} {sg : Bool} {args : List Ar} {xp : Option Addr} {xc : Nat} (hoa : ArOK ⟨ak, an⟩) (hob : ArOK ⟨bk, bn⟩) (hof : -9223372036854775808 ≤ off ∧ off ≤ 9223372036854775807) (hNm : NamesIn w) :
    Calls Tryz.prog 109 #[hmV h, .agg #[.int .i64 13, .int .i64 bin, .int .i64 d, .int .i64 ak, .int .u32 an, .int .i64 bk, .int .u32 bn, .int .i64 n, .int .i64 off, .int .i64 wd, .bool sg, .slice xp args.length xc]] w fun e w' => e = .returned (.bool (tempB h.tp d)) ∧ Below w.heap.size w w' := by
  obtain ⟨W1, hW1, hNH, hNX, hHB⟩ := duo_ex w (.cells #[.slice h.op h.on h.oc, .slice h.fp h.fn h.fc, .int .i64 h.mn, .string h.nm, .int .i64 h.pr, .int .i64 h.tp, .bool h.gv, .slice h.sp h.sn h.sc, .slice h.cp h.cn h.cc] THm) (.cells #[.int .i64 13, .int .i64 bin, .int .i64 d, .int .i64 ak, .int .u32 an, .int .i64 bk, .int .u32 bn, .int .i64 n, .int .i64 off, .int .i64 wd, .bool sg, .slice xp args.length xc] TIn)
  have NH : Hid (_ = _) := hNH
  have NX : Hid (_ = _) := hNX
  have HB : Hid (Below w.heap.size w _) := hHB
  obtain ⟨c0, c1, c2, c3, c4, c5, c6, c7, c8⟩ := cells9 NH.out
  obtain ⟨x0, x1, x2, x3, x4, x5, x6, x7, x8, x9, x10, x11⟩ := cells12 NX.out
  have CT : Hid (∀ w, Calls Tryz.prog 124 #[.agg #[.slice h.op h.on h.oc, .slice h.fp h.fn h.fc, .int .i64 h.mn, .string h.nm, .int .i64 h.pr, .int .i64 h.tp, .bool h.gv, .slice h.sp h.sn h.sc, .slice h.cp h.cn h.cc], .int .i64 d] w fun e w' => e = .returned (.bool (tempB h.tp d)) ∧ Below w.heap.size w w') := temp_c h (by omega) h1 d
  generalize tempB h.tp d = q0 at *
  obtain ⟨R, hR⟩ : ∃ R, R = (q0) := ⟨_, rfl⟩
  rw [← hR]
  have HR : Hid (R = _) := hR
  clear hR
  unfold hmV
  have nt := not_t
  have nf := not_f
  clear hNH hNX hHB h0 h1 hcn hoa hob hNm
  go_enter Tryz.func109, Tryz.ntmps109
  go_upto_region 1 with (fail)
  refine wp_at hW1 ?_
  clear hW1
  go_wp2_with (first | (go_at_call 124; refine (CT.out _).mono ?_; rintro e w1 ⟨rfl, hb1⟩; have NH1 : Hid (_ = _) := blk_b NH.out hb1; have NX1 : Hid (_ = _) := blk_b NX.out hb1; have HB1 : Hid (Below w.heap.size w w1) := HB.out.trans (hb1.mono HB.out.size); obtain ⟨c0_1, c1_1, c2_1, c3_1, c4_1, c5_1, c6_1, c7_1, c8_1⟩ := cells9 NH1.out; obtain ⟨x0_1, x1_1, x2_1, x3_1, x4_1, x5_1, x6_1, x7_1, x8_1, x9_1, x10_1, x11_1⟩ := cells12 NX1.out; clear hb1 CT) | fail)
  go_ret
  exact ⟨by rw [HR.out]; first | rfl | (cases q0 <;> rfl), HB1.out⟩
set_option maxHeartbeats 8000000 in
theorem holds_12 (h : Hm) (h0 : 0 ≤ h.tp) (h1 : h.tp ≤ 9223372036854775807) (hcn : h.cn ≤ 9223372036854775806) {bin d ak an bk bn n off wd : Int} {sg : Bool} {args : List Ar} {xp : Option Addr} {xc : Nat} (hoa : ArOK ⟨ak, an⟩) (hob : ArOK ⟨bk, bn⟩) (hof : -9223372036854775808 ≤ off ∧ off ≤ 9223372036854775807) (hNm : NamesIn w) :
    Calls Tryz.prog 109 #[hmV h, .agg #[.int .i64 12, .int .i64 bin, .int .i64 d, .int .i64 ak, .int .u32 an, .int .i64 bk, .int .u32 bn, .int .i64 n, .int .i64 off, .int .i64 wd, .bool sg, .slice xp args.length xc]] w fun e w' => e = .returned (.bool (operB h.tp ⟨ak, an⟩)) ∧ Below w.heap.size w w' := by
  obtain ⟨W1, hW1, hNH, hNX, hHB⟩ := duo_ex w (.cells #[.slice h.op h.on h.oc, .slice h.fp h.fn h.fc, .int .i64 h.mn, .string h.nm, .int .i64 h.pr, .int .i64 h.tp, .bool h.gv, .slice h.sp h.sn h.sc, .slice h.cp h.cn h.cc] THm) (.cells #[.int .i64 12, .int .i64 bin, .int .i64 d, .int .i64 ak, .int .u32 an, .int .i64 bk, .int .u32 bn, .int .i64 n, .int .i64 off, .int .i64 wd, .bool sg, .slice xp args.length xc] TIn)
  have NH : Hid (_ = _) := hNH
  have NX : Hid (_ = _) := hNX
  have HB : Hid (Below w.heap.size w _) := hHB
  obtain ⟨c0, c1, c2, c3, c4, c5, c6, c7, c8⟩ := cells9 NH.out
  obtain ⟨x0, x1, x2, x3, x4, x5, x6, x7, x8, x9, x10, x11⟩ := cells12 NX.out
  have CA : Hid (∀ w, Calls Tryz.prog 125 #[.agg #[.slice h.op h.on h.oc, .slice h.fp h.fn h.fc, .int .i64 h.mn, .string h.nm, .int .i64 h.pr, .int .i64 h.tp, .bool h.gv, .slice h.sp h.sn h.sc, .slice h.cp h.cn h.cc], .agg #[.int .i64 ak, .int .u32 an]] w fun e w' => e = .returned (.bool (operB h.tp ⟨ak, an⟩)) ∧ Below w.heap.size w w') := operand_c h h0 h1 ⟨ak, an⟩ hoa
  generalize operB h.tp ⟨ak, an⟩ = q0 at *
  obtain ⟨R, hR⟩ : ∃ R, R = (q0) := ⟨_, rfl⟩
  rw [← hR]
  have HR : Hid (R = _) := hR
  clear hR
  unfold hmV
  have nt := not_t
  have nf := not_f
  clear hNH hNX hHB h0 h1 hcn hoa hob hNm
  go_enter Tryz.func109, Tryz.ntmps109
  go_upto_region 1 with (fail)
  refine wp_at hW1 ?_
  clear hW1
  go_wp2_with (first | (go_at_call 125; refine (CA.out _).mono ?_; rintro e w1 ⟨rfl, hb1⟩; have NH1 : Hid (_ = _) := blk_b NH.out hb1; have NX1 : Hid (_ = _) := blk_b NX.out hb1; have HB1 : Hid (Below w.heap.size w w1) := HB.out.trans (hb1.mono HB.out.size); obtain ⟨c0_1, c1_1, c2_1, c3_1, c4_1, c5_1, c6_1, c7_1, c8_1⟩ := cells9 NH1.out; obtain ⟨x0_1, x1_1, x2_1, x3_1, x4_1, x5_1, x6_1, x7_1, x8_1, x9_1, x10_1, x11_1⟩ := cells12 NX1.out; clear hb1 CA) | fail)
  go_ret
  exact ⟨by rw [HR.out]; first | rfl | (cases q0 <;> rfl), HB1.out⟩
set_option maxHeartbeats 8000000 in
theorem holds_14 (h : Hm) (h0 : 0 ≤ h.tp) (h1 : h.tp ≤ 9223372036854775807) (hcn : h.cn ≤ 9223372036854775806) {bin d ak an bk bn n off wd : Int} {sg : Bool} {args : List Ar} {xp : Option Addr} {xc : Nat} (hoa : ArOK ⟨ak, an⟩) (hob : ArOK ⟨bk, bn⟩) (hof : -9223372036854775808 ≤ off ∧ off ≤ 9223372036854775807) (hNm : NamesIn w) :
    Calls Tryz.prog 109 #[hmV h, .agg #[.int .i64 14, .int .i64 bin, .int .i64 d, .int .i64 ak, .int .u32 an, .int .i64 bk, .int .u32 bn, .int .i64 n, .int .i64 off, .int .i64 wd, .bool sg, .slice xp args.length xc]] w fun e w' => e = .returned (.bool (operB h.tp ⟨ak, an⟩)) ∧ Below w.heap.size w w' := by
  obtain ⟨W1, hW1, hNH, hNX, hHB⟩ := duo_ex w (.cells #[.slice h.op h.on h.oc, .slice h.fp h.fn h.fc, .int .i64 h.mn, .string h.nm, .int .i64 h.pr, .int .i64 h.tp, .bool h.gv, .slice h.sp h.sn h.sc, .slice h.cp h.cn h.cc] THm) (.cells #[.int .i64 14, .int .i64 bin, .int .i64 d, .int .i64 ak, .int .u32 an, .int .i64 bk, .int .u32 bn, .int .i64 n, .int .i64 off, .int .i64 wd, .bool sg, .slice xp args.length xc] TIn)
  have NH : Hid (_ = _) := hNH
  have NX : Hid (_ = _) := hNX
  have HB : Hid (Below w.heap.size w _) := hHB
  obtain ⟨c0, c1, c2, c3, c4, c5, c6, c7, c8⟩ := cells9 NH.out
  obtain ⟨x0, x1, x2, x3, x4, x5, x6, x7, x8, x9, x10, x11⟩ := cells12 NX.out
  have CA : Hid (∀ w, Calls Tryz.prog 125 #[.agg #[.slice h.op h.on h.oc, .slice h.fp h.fn h.fc, .int .i64 h.mn, .string h.nm, .int .i64 h.pr, .int .i64 h.tp, .bool h.gv, .slice h.sp h.sn h.sc, .slice h.cp h.cn h.cc], .agg #[.int .i64 ak, .int .u32 an]] w fun e w' => e = .returned (.bool (operB h.tp ⟨ak, an⟩)) ∧ Below w.heap.size w w') := operand_c h h0 h1 ⟨ak, an⟩ hoa
  generalize operB h.tp ⟨ak, an⟩ = q0 at *
  obtain ⟨R, hR⟩ : ∃ R, R = (q0) := ⟨_, rfl⟩
  rw [← hR]
  have HR : Hid (R = _) := hR
  clear hR
  unfold hmV
  have nt := not_t
  have nf := not_f
  clear hNH hNX hHB h0 h1 hcn hoa hob hNm
  go_enter Tryz.func109, Tryz.ntmps109
  go_upto_region 1 with (fail)
  refine wp_at hW1 ?_
  clear hW1
  go_wp2_with (first | (go_at_call 125; refine (CA.out _).mono ?_; rintro e w1 ⟨rfl, hb1⟩; have NH1 : Hid (_ = _) := blk_b NH.out hb1; have NX1 : Hid (_ = _) := blk_b NX.out hb1; have HB1 : Hid (Below w.heap.size w w1) := HB.out.trans (hb1.mono HB.out.size); obtain ⟨c0_1, c1_1, c2_1, c3_1, c4_1, c5_1, c6_1, c7_1, c8_1⟩ := cells9 NH1.out; obtain ⟨x0_1, x1_1, x2_1, x3_1, x4_1, x5_1, x6_1, x7_1, x8_1, x9_1, x10_1, x11_1⟩ := cells12 NX1.out; clear hb1 CA) | fail)
  go_ret
  exact ⟨by rw [HR.out]; first | rfl | (cases q0 <;> rfl), HB1.out⟩
set_option maxHeartbeats 8000000 in
theorem holds_1 (h : Hm) (h0 : 0 ≤ h.tp) (h1 : h.tp ≤ 9223372036854775807) (hcn : h.cn ≤ 9223372036854775806) {bin d ak an bk bn n off wd : Int} {sg : Bool} {args : List Ar} {xp : Option Addr} {xc : Nat} (hoa : ArOK ⟨ak, an⟩) (hob : ArOK ⟨bk, bn⟩) (hof : -9223372036854775808 ≤ off ∧ off ≤ 9223372036854775807) (hNm : NamesIn w) :
    Calls Tryz.prog 109 #[hmV h, .agg #[.int .i64 1, .int .i64 bin, .int .i64 d, .int .i64 ak, .int .u32 an, .int .i64 bk, .int .u32 bn, .int .i64 n, .int .i64 off, .int .i64 wd, .bool sg, .slice xp args.length xc]] w fun e w' => e = .returned (.bool (tempB h.tp d && (operB h.tp ⟨ak, an⟩))) ∧ Below w.heap.size w w' := by
  obtain ⟨W1, hW1, hNH, hNX, hHB⟩ := duo_ex w (.cells #[.slice h.op h.on h.oc, .slice h.fp h.fn h.fc, .int .i64 h.mn, .string h.nm, .int .i64 h.pr, .int .i64 h.tp, .bool h.gv, .slice h.sp h.sn h.sc, .slice h.cp h.cn h.cc] THm) (.cells #[.int .i64 1, .int .i64 bin, .int .i64 d, .int .i64 ak, .int .u32 an, .int .i64 bk, .int .u32 bn, .int .i64 n, .int .i64 off, .int .i64 wd, .bool sg, .slice xp args.length xc] TIn)
  have NH : Hid (_ = _) := hNH
  have NX : Hid (_ = _) := hNX
  have HB : Hid (Below w.heap.size w _) := hHB
  obtain ⟨c0, c1, c2, c3, c4, c5, c6, c7, c8⟩ := cells9 NH.out
  obtain ⟨x0, x1, x2, x3, x4, x5, x6, x7, x8, x9, x10, x11⟩ := cells12 NX.out
  have CT : Hid (∀ w, Calls Tryz.prog 124 #[.agg #[.slice h.op h.on h.oc, .slice h.fp h.fn h.fc, .int .i64 h.mn, .string h.nm, .int .i64 h.pr, .int .i64 h.tp, .bool h.gv, .slice h.sp h.sn h.sc, .slice h.cp h.cn h.cc], .int .i64 d] w fun e w' => e = .returned (.bool (tempB h.tp d)) ∧ Below w.heap.size w w') := temp_c h (by omega) h1 d
  have CA : Hid (∀ w, Calls Tryz.prog 125 #[.agg #[.slice h.op h.on h.oc, .slice h.fp h.fn h.fc, .int .i64 h.mn, .string h.nm, .int .i64 h.pr, .int .i64 h.tp, .bool h.gv, .slice h.sp h.sn h.sc, .slice h.cp h.cn h.cc], .agg #[.int .i64 ak, .int .u32 an]] w fun e w' => e = .returned (.bool (operB h.tp ⟨ak, an⟩)) ∧ Below w.heap.size w w') := operand_c h h0 h1 ⟨ak, an⟩ hoa
  generalize tempB h.tp d = q0 at *
  generalize operB h.tp ⟨ak, an⟩ = q1 at *
  obtain ⟨R, hR⟩ : ∃ R, R = (q0 && (q1)) := ⟨_, rfl⟩
  rw [← hR]
  have HR : Hid (R = _) := hR
  clear hR
  unfold hmV
  have nt := not_t
  have nf := not_f
  clear hNH hNX hHB h0 h1 hcn hoa hob hNm
  go_enter Tryz.func109, Tryz.ntmps109
  go_upto_region 1 with (fail)
  refine wp_at hW1 ?_
  clear hW1
  cases q0 with
  | false =>
    go_wp2_with (first | (go_at_call 124; refine (CT.out _).mono ?_; rintro e w1 ⟨rfl, hb1⟩; have NH1 : Hid (_ = _) := blk_b NH.out hb1; have NX1 : Hid (_ = _) := blk_b NX.out hb1; have HB1 : Hid (Below w.heap.size w w1) := HB.out.trans (hb1.mono HB.out.size); obtain ⟨c0_1, c1_1, c2_1, c3_1, c4_1, c5_1, c6_1, c7_1, c8_1⟩ := cells9 NH1.out; obtain ⟨x0_1, x1_1, x2_1, x3_1, x4_1, x5_1, x6_1, x7_1, x8_1, x9_1, x10_1, x11_1⟩ := cells12 NX1.out; clear hb1 CT) | fail)
    go_ret
    exact ⟨by rw [HR.out]; rfl, HB1.out⟩
  | true =>
    go_wp2_with (first | (go_at_call 124; refine (CT.out _).mono ?_; rintro e w1 ⟨rfl, hb1⟩; have NH1 : Hid (_ = _) := blk_b NH.out hb1; have NX1 : Hid (_ = _) := blk_b NX.out hb1; have HB1 : Hid (Below w.heap.size w w1) := HB.out.trans (hb1.mono HB.out.size); obtain ⟨c0_1, c1_1, c2_1, c3_1, c4_1, c5_1, c6_1, c7_1, c8_1⟩ := cells9 NH1.out; obtain ⟨x0_1, x1_1, x2_1, x3_1, x4_1, x5_1, x6_1, x7_1, x8_1, x9_1, x10_1, x11_1⟩ := cells12 NX1.out; clear hb1 CT) | (go_at_call 125; refine (CA.out _).mono ?_; rintro e w2 ⟨rfl, hb2⟩; have NH2 : Hid (_ = _) := blk_b NH1.out hb2; have NX2 : Hid (_ = _) := blk_b NX1.out hb2; have HB2 : Hid (Below w.heap.size w w2) := HB1.out.trans (hb2.mono HB1.out.size); obtain ⟨c0_2, c1_2, c2_2, c3_2, c4_2, c5_2, c6_2, c7_2, c8_2⟩ := cells9 NH2.out; obtain ⟨x0_2, x1_2, x2_2, x3_2, x4_2, x5_2, x6_2, x7_2, x8_2, x9_2, x10_2, x11_2⟩ := cells12 NX2.out; clear hb2 CA) | fail)
    go_ret
    exact ⟨by rw [HR.out]; first | rfl | (cases q1 <;> rfl), HB2.out⟩
set_option maxHeartbeats 8000000 in
theorem holds_10 (h : Hm) (h0 : 0 ≤ h.tp) (h1 : h.tp ≤ 9223372036854775807) (hcn : h.cn ≤ 9223372036854775806) {bin d ak an bk bn n off wd : Int} {sg : Bool} {args : List Ar} {xp : Option Addr} {xc : Nat} (hoa : ArOK ⟨ak, an⟩) (hob : ArOK ⟨bk, bn⟩) (hof : -9223372036854775808 ≤ off ∧ off ≤ 9223372036854775807) (hNm : NamesIn w) :
    Calls Tryz.prog 109 #[hmV h, .agg #[.int .i64 10, .int .i64 bin, .int .i64 d, .int .i64 ak, .int .u32 an, .int .i64 bk, .int .u32 bn, .int .i64 n, .int .i64 off, .int .i64 wd, .bool sg, .slice xp args.length xc]] w fun e w' => e = .returned (.bool (tempB h.cn n)) ∧ Below w.heap.size w w' := by
  obtain ⟨W1, hW1, hNH, hNX, hHB⟩ := duo_ex w (.cells #[.slice h.op h.on h.oc, .slice h.fp h.fn h.fc, .int .i64 h.mn, .string h.nm, .int .i64 h.pr, .int .i64 h.tp, .bool h.gv, .slice h.sp h.sn h.sc, .slice h.cp h.cn h.cc] THm) (.cells #[.int .i64 10, .int .i64 bin, .int .i64 d, .int .i64 ak, .int .u32 an, .int .i64 bk, .int .u32 bn, .int .i64 n, .int .i64 off, .int .i64 wd, .bool sg, .slice xp args.length xc] TIn)
  have NH : Hid (_ = _) := hNH
  have NX : Hid (_ = _) := hNX
  have HB : Hid (Below w.heap.size w _) := hHB
  obtain ⟨c0, c1, c2, c3, c4, c5, c6, c7, c8⟩ := cells9 NH.out
  obtain ⟨x0, x1, x2, x3, x4, x5, x6, x7, x8, x9, x10, x11⟩ := cells12 NX.out
  have CP : Hid (∀ w, Calls Tryz.prog 129 #[.agg #[.slice h.op h.on h.oc, .slice h.fp h.fn h.fc, .int .i64 h.mn, .string h.nm, .int .i64 h.pr, .int .i64 h.tp, .bool h.gv, .slice h.sp h.sn h.sc, .slice h.cp h.cn h.cc], .int .i64 n] w fun e w' => e = .returned (.bool (tempB h.cn n)) ∧ Below w.heap.size w w') := place_c h (by omega) n
  generalize tempB h.cn n = q0 at *
  obtain ⟨R, hR⟩ : ∃ R, R = (q0) := ⟨_, rfl⟩
  rw [← hR]
  have HR : Hid (R = _) := hR
  clear hR
  unfold hmV
  have nt := not_t
  have nf := not_f
  clear hNH hNX hHB h0 h1 hcn hoa hob hNm
  go_enter Tryz.func109, Tryz.ntmps109
  go_upto_region 1 with (fail)
  refine wp_at hW1 ?_
  clear hW1
  go_wp2_with (first | (go_at_call 129; refine (CP.out _).mono ?_; rintro e w1 ⟨rfl, hb1⟩; have NH1 : Hid (_ = _) := blk_b NH.out hb1; have NX1 : Hid (_ = _) := blk_b NX.out hb1; have HB1 : Hid (Below w.heap.size w w1) := HB.out.trans (hb1.mono HB.out.size); obtain ⟨c0_1, c1_1, c2_1, c3_1, c4_1, c5_1, c6_1, c7_1, c8_1⟩ := cells9 NH1.out; obtain ⟨x0_1, x1_1, x2_1, x3_1, x4_1, x5_1, x6_1, x7_1, x8_1, x9_1, x10_1, x11_1⟩ := cells12 NX1.out; clear hb1 CP) | fail)
  go_ret
  exact ⟨by rw [HR.out]; first | rfl | (cases q0 <;> rfl), HB1.out⟩
set_option maxHeartbeats 8000000 in
theorem holds_11 (h : Hm) (h0 : 0 ≤ h.tp) (h1 : h.tp ≤ 9223372036854775807) (hcn : h.cn ≤ 9223372036854775806) {bin d ak an bk bn n off wd : Int} {sg : Bool} {args : List Ar} {xp : Option Addr} {xc : Nat} (hoa : ArOK ⟨ak, an⟩) (hob : ArOK ⟨bk, bn⟩) (hof : -9223372036854775808 ≤ off ∧ off ≤ 9223372036854775807) (hNm : NamesIn w) :
    Calls Tryz.prog 109 #[hmV h, .agg #[.int .i64 11, .int .i64 bin, .int .i64 d, .int .i64 ak, .int .u32 an, .int .i64 bk, .int .u32 bn, .int .i64 n, .int .i64 off, .int .i64 wd, .bool sg, .slice xp args.length xc]] w fun e w' => e = .returned (.bool (tempB h.cn n && (operB h.tp ⟨ak, an⟩))) ∧ Below w.heap.size w w' := by
  obtain ⟨W1, hW1, hNH, hNX, hHB⟩ := duo_ex w (.cells #[.slice h.op h.on h.oc, .slice h.fp h.fn h.fc, .int .i64 h.mn, .string h.nm, .int .i64 h.pr, .int .i64 h.tp, .bool h.gv, .slice h.sp h.sn h.sc, .slice h.cp h.cn h.cc] THm) (.cells #[.int .i64 11, .int .i64 bin, .int .i64 d, .int .i64 ak, .int .u32 an, .int .i64 bk, .int .u32 bn, .int .i64 n, .int .i64 off, .int .i64 wd, .bool sg, .slice xp args.length xc] TIn)
  have NH : Hid (_ = _) := hNH
  have NX : Hid (_ = _) := hNX
  have HB : Hid (Below w.heap.size w _) := hHB
  obtain ⟨c0, c1, c2, c3, c4, c5, c6, c7, c8⟩ := cells9 NH.out
  obtain ⟨x0, x1, x2, x3, x4, x5, x6, x7, x8, x9, x10, x11⟩ := cells12 NX.out
  have CP : Hid (∀ w, Calls Tryz.prog 129 #[.agg #[.slice h.op h.on h.oc, .slice h.fp h.fn h.fc, .int .i64 h.mn, .string h.nm, .int .i64 h.pr, .int .i64 h.tp, .bool h.gv, .slice h.sp h.sn h.sc, .slice h.cp h.cn h.cc], .int .i64 n] w fun e w' => e = .returned (.bool (tempB h.cn n)) ∧ Below w.heap.size w w') := place_c h (by omega) n
  have CA : Hid (∀ w, Calls Tryz.prog 125 #[.agg #[.slice h.op h.on h.oc, .slice h.fp h.fn h.fc, .int .i64 h.mn, .string h.nm, .int .i64 h.pr, .int .i64 h.tp, .bool h.gv, .slice h.sp h.sn h.sc, .slice h.cp h.cn h.cc], .agg #[.int .i64 ak, .int .u32 an]] w fun e w' => e = .returned (.bool (operB h.tp ⟨ak, an⟩)) ∧ Below w.heap.size w w') := operand_c h h0 h1 ⟨ak, an⟩ hoa
  generalize tempB h.cn n = q0 at *
  generalize operB h.tp ⟨ak, an⟩ = q1 at *
  obtain ⟨R, hR⟩ : ∃ R, R = (q0 && (q1)) := ⟨_, rfl⟩
  rw [← hR]
  have HR : Hid (R = _) := hR
  clear hR
  unfold hmV
  have nt := not_t
  have nf := not_f
  clear hNH hNX hHB h0 h1 hcn hoa hob hNm
  go_enter Tryz.func109, Tryz.ntmps109
  go_upto_region 1 with (fail)
  refine wp_at hW1 ?_
  clear hW1
  cases q0 with
  | false =>
    go_wp2_with (first | (go_at_call 129; refine (CP.out _).mono ?_; rintro e w1 ⟨rfl, hb1⟩; have NH1 : Hid (_ = _) := blk_b NH.out hb1; have NX1 : Hid (_ = _) := blk_b NX.out hb1; have HB1 : Hid (Below w.heap.size w w1) := HB.out.trans (hb1.mono HB.out.size); obtain ⟨c0_1, c1_1, c2_1, c3_1, c4_1, c5_1, c6_1, c7_1, c8_1⟩ := cells9 NH1.out; obtain ⟨x0_1, x1_1, x2_1, x3_1, x4_1, x5_1, x6_1, x7_1, x8_1, x9_1, x10_1, x11_1⟩ := cells12 NX1.out; clear hb1 CP) | fail)
    go_ret
    exact ⟨by rw [HR.out]; rfl, HB1.out⟩
  | true =>
    go_wp2_with (first | (go_at_call 129; refine (CP.out _).mono ?_; rintro e w1 ⟨rfl, hb1⟩; have NH1 : Hid (_ = _) := blk_b NH.out hb1; have NX1 : Hid (_ = _) := blk_b NX.out hb1; have HB1 : Hid (Below w.heap.size w w1) := HB.out.trans (hb1.mono HB.out.size); obtain ⟨c0_1, c1_1, c2_1, c3_1, c4_1, c5_1, c6_1, c7_1, c8_1⟩ := cells9 NH1.out; obtain ⟨x0_1, x1_1, x2_1, x3_1, x4_1, x5_1, x6_1, x7_1, x8_1, x9_1, x10_1, x11_1⟩ := cells12 NX1.out; clear hb1 CP) | (go_at_call 125; refine (CA.out _).mono ?_; rintro e w2 ⟨rfl, hb2⟩; have NH2 : Hid (_ = _) := blk_b NH1.out hb2; have NX2 : Hid (_ = _) := blk_b NX1.out hb2; have HB2 : Hid (Below w.heap.size w w2) := HB1.out.trans (hb2.mono HB1.out.size); obtain ⟨c0_2, c1_2, c2_2, c3_2, c4_2, c5_2, c6_2, c7_2, c8_2⟩ := cells9 NH2.out; obtain ⟨x0_2, x1_2, x2_2, x3_2, x4_2, x5_2, x6_2, x7_2, x8_2, x9_2, x10_2, x11_2⟩ := cells12 NX2.out; clear hb2 CA) | fail)
    go_ret
    exact ⟨by rw [HR.out]; first | rfl | (cases q1 <;> rfl), HB2.out⟩
set_option maxHeartbeats 8000000 in
theorem holds_9 (h : Hm) (h0 : 0 ≤ h.tp) (h1 : h.tp ≤ 9223372036854775807) (hcn : h.cn ≤ 9223372036854775806) {bin d ak an bk bn n off wd : Int} {sg : Bool} {args : List Ar} {xp : Option Addr} {xc : Nat} (hoa : ArOK ⟨ak, an⟩) (hob : ArOK ⟨bk, bn⟩) (hof : -9223372036854775808 ≤ off ∧ off ≤ 9223372036854775807) (hNm : NamesIn w) :
    Calls Tryz.prog 109 #[hmV h, .agg #[.int .i64 9, .int .i64 bin, .int .i64 d, .int .i64 ak, .int .u32 an, .int .i64 bk, .int .u32 bn, .int .i64 n, .int .i64 off, .int .i64 wd, .bool sg, .slice xp args.length xc]] w fun e w' => e = .returned (.bool (retB h.tp h.gv ⟨ak, an⟩)) ∧ Below w.heap.size w w' := by
  obtain ⟨W1, hW1, hNH, hNX, hHB⟩ := duo_ex w (.cells #[.slice h.op h.on h.oc, .slice h.fp h.fn h.fc, .int .i64 h.mn, .string h.nm, .int .i64 h.pr, .int .i64 h.tp, .bool h.gv, .slice h.sp h.sn h.sc, .slice h.cp h.cn h.cc] THm) (.cells #[.int .i64 9, .int .i64 bin, .int .i64 d, .int .i64 ak, .int .u32 an, .int .i64 bk, .int .u32 bn, .int .i64 n, .int .i64 off, .int .i64 wd, .bool sg, .slice xp args.length xc] TIn)
  have NH : Hid (_ = _) := hNH
  have NX : Hid (_ = _) := hNX
  have HB : Hid (Below w.heap.size w _) := hHB
  obtain ⟨c0, c1, c2, c3, c4, c5, c6, c7, c8⟩ := cells9 NH.out
  obtain ⟨x0, x1, x2, x3, x4, x5, x6, x7, x8, x9, x10, x11⟩ := cells12 NX.out
  have CV : Hid (∀ w, Calls Tryz.prog 128 #[.agg #[.slice h.op h.on h.oc, .slice h.fp h.fn h.fc, .int .i64 h.mn, .string h.nm, .int .i64 h.pr, .int .i64 h.tp, .bool h.gv, .slice h.sp h.sn h.sc, .slice h.cp h.cn h.cc], .agg #[.int .i64 ak, .int .u32 an]] w fun e w' => e = .returned (.bool (retB h.tp h.gv ⟨ak, an⟩)) ∧ Below w.heap.size w w') := returns_c h h0 h1 ⟨ak, an⟩ hoa
  generalize retB h.tp h.gv ⟨ak, an⟩ = q0 at *
  obtain ⟨R, hR⟩ : ∃ R, R = (q0) := ⟨_, rfl⟩
  rw [← hR]
  have HR : Hid (R = _) := hR
  clear hR
  unfold hmV
  have nt := not_t
  have nf := not_f
  clear hNH hNX hHB h0 h1 hcn hoa hob hNm
  go_enter Tryz.func109, Tryz.ntmps109
  go_upto_region 1 with (fail)
  refine wp_at hW1 ?_
  clear hW1
  go_wp2_with (first | (go_at_call 128; refine (CV.out _).mono ?_; rintro e w1 ⟨rfl, hb1⟩; have NH1 : Hid (_ = _) := blk_b NH.out hb1; have NX1 : Hid (_ = _) := blk_b NX.out hb1; have HB1 : Hid (Below w.heap.size w w1) := HB.out.trans (hb1.mono HB.out.size); obtain ⟨c0_1, c1_1, c2_1, c3_1, c4_1, c5_1, c6_1, c7_1, c8_1⟩ := cells9 NH1.out; obtain ⟨x0_1, x1_1, x2_1, x3_1, x4_1, x5_1, x6_1, x7_1, x8_1, x9_1, x10_1, x11_1⟩ := cells12 NX1.out; clear hb1 CV) | fail)
  go_ret
  exact ⟨by rw [HR.out]; first | rfl | (cases q0 <;> rfl), HB1.out⟩
set_option maxHeartbeats 8000000 in
theorem holds_6 (h : Hm) (h0 : 0 ≤ h.tp) (h1 : h.tp ≤ 9223372036854775807) (hcn : h.cn ≤ 9223372036854775806) {bin d ak an bk bn n off wd : Int} {sg : Bool} {args : List Ar} {xp : Option Addr} {xc : Nat} (hoa : ArOK ⟨ak, an⟩) (hob : ArOK ⟨bk, bn⟩) (hof : -9223372036854775808 ≤ off ∧ off ≤ 9223372036854775807) (hNm : NamesIn w) :
    Calls Tryz.prog 109 #[hmV h, .agg #[.int .i64 6, .int .i64 bin, .int .i64 d, .int .i64 ak, .int .u32 an, .int .i64 bk, .int .u32 bn, .int .i64 n, .int .i64 off, .int .i64 wd, .bool sg, .slice xp args.length xc]] w fun e w' => e = .returned (.bool (operB h.tp ⟨ak, an⟩ && (operB h.tp ⟨bk, bn⟩ && (reachB ⟨6, bin, d, ⟨ak, an⟩, ⟨bk, bn⟩, n, off, wd, sg, args⟩)))) ∧ Below w.heap.size w w' := by
  obtain ⟨W1, hW1, hNH, hNX, hHB⟩ := duo_ex w (.cells #[.slice h.op h.on h.oc, .slice h.fp h.fn h.fc, .int .i64 h.mn, .string h.nm, .int .i64 h.pr, .int .i64 h.tp, .bool h.gv, .slice h.sp h.sn h.sc, .slice h.cp h.cn h.cc] THm) (.cells #[.int .i64 6, .int .i64 bin, .int .i64 d, .int .i64 ak, .int .u32 an, .int .i64 bk, .int .u32 bn, .int .i64 n, .int .i64 off, .int .i64 wd, .bool sg, .slice xp args.length xc] TIn)
  have NH : Hid (_ = _) := hNH
  have NX : Hid (_ = _) := hNX
  have HB : Hid (Below w.heap.size w _) := hHB
  obtain ⟨c0, c1, c2, c3, c4, c5, c6, c7, c8⟩ := cells9 NH.out
  obtain ⟨x0, x1, x2, x3, x4, x5, x6, x7, x8, x9, x10, x11⟩ := cells12 NX.out
  have CA : Hid (∀ w, Calls Tryz.prog 125 #[.agg #[.slice h.op h.on h.oc, .slice h.fp h.fn h.fc, .int .i64 h.mn, .string h.nm, .int .i64 h.pr, .int .i64 h.tp, .bool h.gv, .slice h.sp h.sn h.sc, .slice h.cp h.cn h.cc], .agg #[.int .i64 ak, .int .u32 an]] w fun e w' => e = .returned (.bool (operB h.tp ⟨ak, an⟩)) ∧ Below w.heap.size w w') := operand_c h h0 h1 ⟨ak, an⟩ hoa
  have CB : Hid (∀ w, Calls Tryz.prog 125 #[.agg #[.slice h.op h.on h.oc, .slice h.fp h.fn h.fc, .int .i64 h.mn, .string h.nm, .int .i64 h.pr, .int .i64 h.tp, .bool h.gv, .slice h.sp h.sn h.sc, .slice h.cp h.cn h.cc], .agg #[.int .i64 bk, .int .u32 bn]] w fun e w' => e = .returned (.bool (operB h.tp ⟨bk, bn⟩)) ∧ Below w.heap.size w w') := operand_c h h0 h1 ⟨bk, bn⟩ hob
  have CR : Hid (∀ w, Calls Tryz.prog 126 #[.agg #[.int .i64 6, .int .i64 bin, .int .i64 d, .int .i64 ak, .int .u32 an, .int .i64 bk, .int .u32 bn, .int .i64 n, .int .i64 off, .int .i64 wd, .bool sg, .slice xp args.length xc]] w fun e w' => e = .returned (.bool (reachB ⟨6, bin, d, ⟨ak, an⟩, ⟨bk, bn⟩, n, off, wd, sg, args⟩)) ∧ Below w.heap.size w w') := fun w => reaches_c ⟨6, bin, d, ⟨ak, an⟩, ⟨bk, bn⟩, n, off, wd, sg, args⟩ xp xc w
  generalize operB h.tp ⟨ak, an⟩ = q0 at *
  generalize operB h.tp ⟨bk, bn⟩ = q1 at *
  generalize reachB ⟨6, bin, d, ⟨ak, an⟩, ⟨bk, bn⟩, n, off, wd, sg, args⟩ = q2 at *
  obtain ⟨R, hR⟩ : ∃ R, R = (q0 && (q1 && (q2))) := ⟨_, rfl⟩
  rw [← hR]
  have HR : Hid (R = _) := hR
  clear hR
  unfold hmV
  have nt := not_t
  have nf := not_f
  clear hNH hNX hHB h0 h1 hcn hoa hob hNm
  go_enter Tryz.func109, Tryz.ntmps109
  go_upto_region 1 with (fail)
  refine wp_at hW1 ?_
  clear hW1
  cases q0 with
  | false =>
    go_wp2_with (first | (go_at_call 125; refine (CA.out _).mono ?_; rintro e w1 ⟨rfl, hb1⟩; have NH1 : Hid (_ = _) := blk_b NH.out hb1; have NX1 : Hid (_ = _) := blk_b NX.out hb1; have HB1 : Hid (Below w.heap.size w w1) := HB.out.trans (hb1.mono HB.out.size); obtain ⟨c0_1, c1_1, c2_1, c3_1, c4_1, c5_1, c6_1, c7_1, c8_1⟩ := cells9 NH1.out; obtain ⟨x0_1, x1_1, x2_1, x3_1, x4_1, x5_1, x6_1, x7_1, x8_1, x9_1, x10_1, x11_1⟩ := cells12 NX1.out; clear hb1 CA) | fail)
    go_ret
    exact ⟨by rw [HR.out]; rfl, HB1.out⟩
  | true =>
    cases q1 with
    | false =>
      go_wp2_with (first | (go_at_call 125; refine (CA.out _).mono ?_; rintro e w1 ⟨rfl, hb1⟩; have NH1 : Hid (_ = _) := blk_b NH.out hb1; have NX1 : Hid (_ = _) := blk_b NX.out hb1; have HB1 : Hid (Below w.heap.size w w1) := HB.out.trans (hb1.mono HB.out.size); obtain ⟨c0_1, c1_1, c2_1, c3_1, c4_1, c5_1, c6_1, c7_1, c8_1⟩ := cells9 NH1.out; obtain ⟨x0_1, x1_1, x2_1, x3_1, x4_1, x5_1, x6_1, x7_1, x8_1, x9_1, x10_1, x11_1⟩ := cells12 NX1.out; clear hb1 CA) | (go_at_call 125; refine (CB.out _).mono ?_; rintro e w2 ⟨rfl, hb2⟩; have NH2 : Hid (_ = _) := blk_b NH1.out hb2; have NX2 : Hid (_ = _) := blk_b NX1.out hb2; have HB2 : Hid (Below w.heap.size w w2) := HB1.out.trans (hb2.mono HB1.out.size); obtain ⟨c0_2, c1_2, c2_2, c3_2, c4_2, c5_2, c6_2, c7_2, c8_2⟩ := cells9 NH2.out; obtain ⟨x0_2, x1_2, x2_2, x3_2, x4_2, x5_2, x6_2, x7_2, x8_2, x9_2, x10_2, x11_2⟩ := cells12 NX2.out; clear hb2 CB) | fail)
      go_ret
      exact ⟨by rw [HR.out]; rfl, HB2.out⟩
    | true =>
      go_wp2_with (first | (go_at_call 125; refine (CA.out _).mono ?_; rintro e w1 ⟨rfl, hb1⟩; have NH1 : Hid (_ = _) := blk_b NH.out hb1; have NX1 : Hid (_ = _) := blk_b NX.out hb1; have HB1 : Hid (Below w.heap.size w w1) := HB.out.trans (hb1.mono HB.out.size); obtain ⟨c0_1, c1_1, c2_1, c3_1, c4_1, c5_1, c6_1, c7_1, c8_1⟩ := cells9 NH1.out; obtain ⟨x0_1, x1_1, x2_1, x3_1, x4_1, x5_1, x6_1, x7_1, x8_1, x9_1, x10_1, x11_1⟩ := cells12 NX1.out; clear hb1 CA) | (go_at_call 125; refine (CB.out _).mono ?_; rintro e w2 ⟨rfl, hb2⟩; have NH2 : Hid (_ = _) := blk_b NH1.out hb2; have NX2 : Hid (_ = _) := blk_b NX1.out hb2; have HB2 : Hid (Below w.heap.size w w2) := HB1.out.trans (hb2.mono HB1.out.size); obtain ⟨c0_2, c1_2, c2_2, c3_2, c4_2, c5_2, c6_2, c7_2, c8_2⟩ := cells9 NH2.out; obtain ⟨x0_2, x1_2, x2_2, x3_2, x4_2, x5_2, x6_2, x7_2, x8_2, x9_2, x10_2, x11_2⟩ := cells12 NX2.out; clear hb2 CB) | (go_at_call 126; refine (CR.out _).mono ?_; rintro e w3 ⟨rfl, hb3⟩; have NH3 : Hid (_ = _) := blk_b NH2.out hb3; have NX3 : Hid (_ = _) := blk_b NX2.out hb3; have HB3 : Hid (Below w.heap.size w w3) := HB2.out.trans (hb3.mono HB2.out.size); obtain ⟨c0_3, c1_3, c2_3, c3_3, c4_3, c5_3, c6_3, c7_3, c8_3⟩ := cells9 NH3.out; obtain ⟨x0_3, x1_3, x2_3, x3_3, x4_3, x5_3, x6_3, x7_3, x8_3, x9_3, x10_3, x11_3⟩ := cells12 NX3.out; clear hb3 CR) | fail)
      go_ret
      exact ⟨by rw [HR.out]; first | rfl | (cases q2 <;> rfl), HB3.out⟩
end
end Go.Proofs.YtaaphipbkpjkjaaGreatDoor
namespace Go.Proofs.YtaaphipbkpjkjaaGreatDoor
open Go.RowKit Go.Maps
set_option linter.unusedVariables false
set_option maxRecDepth 100000
section
variable {w : World}
set_option maxHeartbeats 8000000 in
theorem holds_2 (h : Hm) (h0 : 0 ≤ h.tp) (h1 : h.tp ≤ 9223372036854775807) (hcn : h.cn ≤ 9223372036854775806) {bin d ak an bk bn n off wd : Int} {sg : Bool} {args : List Ar} {xp : Option Addr} {xc : Nat} (hoa : ArOK ⟨ak, an⟩) (hob : ArOK ⟨bk, bn⟩) (hof : -9223372036854775808 ≤ off ∧ off ≤ 9223372036854775807) (hNm : NamesIn w) :
    Calls Tryz.prog 109 #[hmV h, .agg #[.int .i64 2, .int .i64 bin, .int .i64 d, .int .i64 ak, .int .u32 an, .int .i64 bk, .int .u32 bn, .int .i64 n, .int .i64 off, .int .i64 wd, .bool sg, .slice xp args.length xc]] w fun e w' => e = .returned (.bool (tempB h.tp d && (isOp bin && (operB h.tp ⟨ak, an⟩ && (operB h.tp ⟨bk, bn⟩))))) ∧ Below w.heap.size w w' := by
  obtain ⟨W1, hW1, hNH, hNX, hHB⟩ := duo_ex w (.cells #[.slice h.op h.on h.oc, .slice h.fp h.fn h.fc, .int .i64 h.mn, .string h.nm, .int .i64 h.pr, .int .i64 h.tp, .bool h.gv, .slice h.sp h.sn h.sc, .slice h.cp h.cn h.cc] THm) (.cells #[.int .i64 2, .int .i64 bin, .int .i64 d, .int .i64 ak, .int .u32 an, .int .i64 bk, .int .u32 bn, .int .i64 n, .int .i64 off, .int .i64 wd, .bool sg, .slice xp args.length xc] TIn)
  have NH : Hid (_ = _) := hNH
  have NX : Hid (_ = _) := hNX
  have HB : Hid (Below w.heap.size w _) := hHB
  obtain ⟨c0, c1, c2, c3, c4, c5, c6, c7, c8⟩ := cells9 NH.out
  obtain ⟨x0, x1, x2, x3, x4, x5, x6, x7, x8, x9, x10, x11⟩ := cells12 NX.out
  have CT : Hid (∀ w, Calls Tryz.prog 124 #[.agg #[.slice h.op h.on h.oc, .slice h.fp h.fn h.fc, .int .i64 h.mn, .string h.nm, .int .i64 h.pr, .int .i64 h.tp, .bool h.gv, .slice h.sp h.sn h.sc, .slice h.cp h.cn h.cc], .int .i64 d] w fun e w' => e = .returned (.bool (tempB h.tp d)) ∧ Below w.heap.size w w') := temp_c h (by omega) h1 d
  have CN : Hid (∀ w, NamesIn w → Calls Tryz.prog 99 #[.int .i64 bin] w fun e w' => e = .returned (.string (opName bin)) ∧ w' = w) := fun w hw => name_c bin hw
  have hop := opName_ne bin
  have HNM : Hid (NamesIn w) := hNm
  generalize opName bin = onm at *
  have CA : Hid (∀ w, Calls Tryz.prog 125 #[.agg #[.slice h.op h.on h.oc, .slice h.fp h.fn h.fc, .int .i64 h.mn, .string h.nm, .int .i64 h.pr, .int .i64 h.tp, .bool h.gv, .slice h.sp h.sn h.sc, .slice h.cp h.cn h.cc], .agg #[.int .i64 ak, .int .u32 an]] w fun e w' => e = .returned (.bool (operB h.tp ⟨ak, an⟩)) ∧ Below w.heap.size w w') := operand_c h h0 h1 ⟨ak, an⟩ hoa
  have CB : Hid (∀ w, Calls Tryz.prog 125 #[.agg #[.slice h.op h.on h.oc, .slice h.fp h.fn h.fc, .int .i64 h.mn, .string h.nm, .int .i64 h.pr, .int .i64 h.tp, .bool h.gv, .slice h.sp h.sn h.sc, .slice h.cp h.cn h.cc], .agg #[.int .i64 bk, .int .u32 bn]] w fun e w' => e = .returned (.bool (operB h.tp ⟨bk, bn⟩)) ∧ Below w.heap.size w w') := operand_c h h0 h1 ⟨bk, bn⟩ hob
  generalize tempB h.tp d = q0 at *
  generalize isOp bin = q1 at *
  generalize operB h.tp ⟨ak, an⟩ = q2 at *
  generalize operB h.tp ⟨bk, bn⟩ = q3 at *
  obtain ⟨R, hR⟩ : ∃ R, R = (q0 && (q1 && (q2 && (q3)))) := ⟨_, rfl⟩
  rw [← hR]
  have HR : Hid (R = _) := hR
  clear hR
  unfold hmV
  have nt := not_t
  have nf := not_f
  clear hNH hNX hHB h0 h1 hcn hoa hob hNm
  go_enter Tryz.func109, Tryz.ntmps109
  go_upto_region 1 with (fail)
  refine wp_at hW1 ?_
  clear hW1
  cases q0 with
  | false =>
    go_wp2_with (first | (go_at_call 124; refine (CT.out _).mono ?_; rintro e w1 ⟨rfl, hb1⟩; have NH1 : Hid (_ = _) := blk_b NH.out hb1; have NX1 : Hid (_ = _) := blk_b NX.out hb1; have HB1 : Hid (Below w.heap.size w w1) := HB.out.trans (hb1.mono HB.out.size); obtain ⟨c0_1, c1_1, c2_1, c3_1, c4_1, c5_1, c6_1, c7_1, c8_1⟩ := cells9 NH1.out; obtain ⟨x0_1, x1_1, x2_1, x3_1, x4_1, x5_1, x6_1, x7_1, x8_1, x9_1, x10_1, x11_1⟩ := cells12 NX1.out; clear hb1 CT) | fail)
    go_ret
    exact ⟨by rw [HR.out]; rfl, HB1.out⟩
  | true =>
    cases q1 with
    | false =>
      go_wp2_with (first | (go_at_call 124; refine (CT.out _).mono ?_; rintro e w1 ⟨rfl, hb1⟩; have NH1 : Hid (_ = _) := blk_b NH.out hb1; have NX1 : Hid (_ = _) := blk_b NX.out hb1; have HB1 : Hid (Below w.heap.size w w1) := HB.out.trans (hb1.mono HB.out.size); obtain ⟨c0_1, c1_1, c2_1, c3_1, c4_1, c5_1, c6_1, c7_1, c8_1⟩ := cells9 NH1.out; obtain ⟨x0_1, x1_1, x2_1, x3_1, x4_1, x5_1, x6_1, x7_1, x8_1, x9_1, x10_1, x11_1⟩ := cells12 NX1.out; clear hb1 CT) | (go_at_call 99; refine (CN.out _ (HNM.out.below HB1.out)).mono ?_; rintro e w' ⟨rfl, hw⟩; rw [hw]; clear hw w') | fail)
      go_ret
      exact ⟨by rw [HR.out]; rfl, HB1.out⟩
    | true =>
      cases q2 with
      | false =>
        go_wp2_with (first | (go_at_call 124; refine (CT.out _).mono ?_; rintro e w1 ⟨rfl, hb1⟩; have NH1 : Hid (_ = _) := blk_b NH.out hb1; have NX1 : Hid (_ = _) := blk_b NX.out hb1; have HB1 : Hid (Below w.heap.size w w1) := HB.out.trans (hb1.mono HB.out.size); obtain ⟨c0_1, c1_1, c2_1, c3_1, c4_1, c5_1, c6_1, c7_1, c8_1⟩ := cells9 NH1.out; obtain ⟨x0_1, x1_1, x2_1, x3_1, x4_1, x5_1, x6_1, x7_1, x8_1, x9_1, x10_1, x11_1⟩ := cells12 NX1.out; clear hb1 CT) | (go_at_call 99; refine (CN.out _ (HNM.out.below HB1.out)).mono ?_; rintro e w' ⟨rfl, hw⟩; rw [hw]; clear hw w') | (go_at_call 125; refine (CA.out _).mono ?_; rintro e w3 ⟨rfl, hb3⟩; have NH3 : Hid (_ = _) := blk_b NH1.out hb3; have NX3 : Hid (_ = _) := blk_b NX1.out hb3; have HB3 : Hid (Below w.heap.size w w3) := HB1.out.trans (hb3.mono HB1.out.size); obtain ⟨c0_3, c1_3, c2_3, c3_3, c4_3, c5_3, c6_3, c7_3, c8_3⟩ := cells9 NH3.out; obtain ⟨x0_3, x1_3, x2_3, x3_3, x4_3, x5_3, x6_3, x7_3, x8_3, x9_3, x10_3, x11_3⟩ := cells12 NX3.out; clear hb3 CA) | fail)
        go_ret
        exact ⟨by rw [HR.out]; rfl, HB3.out⟩
      | true =>
        go_wp2_with (first | (go_at_call 124; refine (CT.out _).mono ?_; rintro e w1 ⟨rfl, hb1⟩; have NH1 : Hid (_ = _) := blk_b NH.out hb1; have NX1 : Hid (_ = _) := blk_b NX.out hb1; have HB1 : Hid (Below w.heap.size w w1) := HB.out.trans (hb1.mono HB.out.size); obtain ⟨c0_1, c1_1, c2_1, c3_1, c4_1, c5_1, c6_1, c7_1, c8_1⟩ := cells9 NH1.out; obtain ⟨x0_1, x1_1, x2_1, x3_1, x4_1, x5_1, x6_1, x7_1, x8_1, x9_1, x10_1, x11_1⟩ := cells12 NX1.out; clear hb1 CT) | (go_at_call 99; refine (CN.out _ (HNM.out.below HB1.out)).mono ?_; rintro e w' ⟨rfl, hw⟩; rw [hw]; clear hw w') | (go_at_call 125; refine (CA.out _).mono ?_; rintro e w3 ⟨rfl, hb3⟩; have NH3 : Hid (_ = _) := blk_b NH1.out hb3; have NX3 : Hid (_ = _) := blk_b NX1.out hb3; have HB3 : Hid (Below w.heap.size w w3) := HB1.out.trans (hb3.mono HB1.out.size); obtain ⟨c0_3, c1_3, c2_3, c3_3, c4_3, c5_3, c6_3, c7_3, c8_3⟩ := cells9 NH3.out; obtain ⟨x0_3, x1_3, x2_3, x3_3, x4_3, x5_3, x6_3, x7_3, x8_3, x9_3, x10_3, x11_3⟩ := cells12 NX3.out; clear hb3 CA) | (go_at_call 125; refine (CB.out _).mono ?_; rintro e w4 ⟨rfl, hb4⟩; have NH4 : Hid (_ = _) := blk_b NH3.out hb4; have NX4 : Hid (_ = _) := blk_b NX3.out hb4; have HB4 : Hid (Below w.heap.size w w4) := HB3.out.trans (hb4.mono HB3.out.size); obtain ⟨c0_4, c1_4, c2_4, c3_4, c4_4, c5_4, c6_4, c7_4, c8_4⟩ := cells9 NH4.out; obtain ⟨x0_4, x1_4, x2_4, x3_4, x4_4, x5_4, x6_4, x7_4, x8_4, x9_4, x10_4, x11_4⟩ := cells12 NX4.out; clear hb4 CB) | fail)
        go_ret
        exact ⟨by rw [HR.out]; first | rfl | (cases q3 <;> rfl), HB4.out⟩
end
end Go.Proofs.YtaaphipbkpjkjaaGreatDoor
namespace Go.Proofs.YtaaphipbkpjkjaaGreatDoor
open Go.RowKit Go.Maps
set_option linter.unusedVariables false
set_option maxRecDepth 100000
section
variable {w : World}
set_option maxHeartbeats 8000000 in
theorem holds_5 (h : Hm) (h0 : 0 ≤ h.tp) (h1 : h.tp ≤ 9223372036854775807) (hcn : h.cn ≤ 9223372036854775806) {bin d ak an bk bn n off wd : Int} {sg : Bool} {args : List Ar} {xp : Option Addr} {xc : Nat} (hoa : ArOK ⟨ak, an⟩) (hob : ArOK ⟨bk, bn⟩) (hof : -9223372036854775808 ≤ off ∧ off ≤ 9223372036854775807) (hNm : NamesIn w) :
    Calls Tryz.prog 109 #[hmV h, .agg #[.int .i64 5, .int .i64 bin, .int .i64 d, .int .i64 ak, .int .u32 an, .int .i64 bk, .int .u32 bn, .int .i64 n, .int .i64 off, .int .i64 wd, .bool sg, .slice xp args.length xc]] w fun e w' => e = .returned (.bool (tempB h.tp d && (operB h.tp ⟨ak, an⟩ && (reachB ⟨5, bin, d, ⟨ak, an⟩, ⟨bk, bn⟩, n, off, wd, sg, args⟩ && (!(sg && wd == 4)))))) ∧ Below w.heap.size w w' := by
  obtain ⟨W1, hW1, hNH, hNX, hHB⟩ := duo_ex w (.cells #[.slice h.op h.on h.oc, .slice h.fp h.fn h.fc, .int .i64 h.mn, .string h.nm, .int .i64 h.pr, .int .i64 h.tp, .bool h.gv, .slice h.sp h.sn h.sc, .slice h.cp h.cn h.cc] THm) (.cells #[.int .i64 5, .int .i64 bin, .int .i64 d, .int .i64 ak, .int .u32 an, .int .i64 bk, .int .u32 bn, .int .i64 n, .int .i64 off, .int .i64 wd, .bool sg, .slice xp args.length xc] TIn)
  have NH : Hid (_ = _) := hNH
  have NX : Hid (_ = _) := hNX
  have HB : Hid (Below w.heap.size w _) := hHB
  obtain ⟨c0, c1, c2, c3, c4, c5, c6, c7, c8⟩ := cells9 NH.out
  obtain ⟨x0, x1, x2, x3, x4, x5, x6, x7, x8, x9, x10, x11⟩ := cells12 NX.out
  have CT : Hid (∀ w, Calls Tryz.prog 124 #[.agg #[.slice h.op h.on h.oc, .slice h.fp h.fn h.fc, .int .i64 h.mn, .string h.nm, .int .i64 h.pr, .int .i64 h.tp, .bool h.gv, .slice h.sp h.sn h.sc, .slice h.cp h.cn h.cc], .int .i64 d] w fun e w' => e = .returned (.bool (tempB h.tp d)) ∧ Below w.heap.size w w') := temp_c h (by omega) h1 d
  have CA : Hid (∀ w, Calls Tryz.prog 125 #[.agg #[.slice h.op h.on h.oc, .slice h.fp h.fn h.fc, .int .i64 h.mn, .string h.nm, .int .i64 h.pr, .int .i64 h.tp, .bool h.gv, .slice h.sp h.sn h.sc, .slice h.cp h.cn h.cc], .agg #[.int .i64 ak, .int .u32 an]] w fun e w' => e = .returned (.bool (operB h.tp ⟨ak, an⟩)) ∧ Below w.heap.size w w') := operand_c h h0 h1 ⟨ak, an⟩ hoa
  have CR : Hid (∀ w, Calls Tryz.prog 126 #[.agg #[.int .i64 5, .int .i64 bin, .int .i64 d, .int .i64 ak, .int .u32 an, .int .i64 bk, .int .u32 bn, .int .i64 n, .int .i64 off, .int .i64 wd, .bool sg, .slice xp args.length xc]] w fun e w' => e = .returned (.bool (reachB ⟨5, bin, d, ⟨ak, an⟩, ⟨bk, bn⟩, n, off, wd, sg, args⟩)) ∧ Below w.heap.size w w') := fun w => reaches_c ⟨5, bin, d, ⟨ak, an⟩, ⟨bk, bn⟩, n, off, wd, sg, args⟩ xp xc w
  have HZ : Hid (True) := trivial
  generalize tempB h.tp d = q0 at *
  generalize operB h.tp ⟨ak, an⟩ = q1 at *
  generalize reachB ⟨5, bin, d, ⟨ak, an⟩, ⟨bk, bn⟩, n, off, wd, sg, args⟩ = q2 at *
  obtain ⟨R, hR⟩ : ∃ R, R = (q0 && (q1 && (q2 && (!(sg && wd == 4))))) := ⟨_, rfl⟩
  rw [← hR]
  have HR : Hid (R = _) := hR
  clear hR
  unfold hmV
  have nt := not_t
  have nf := not_f
  clear hNH hNX hHB h0 h1 hcn hoa hob hNm
  go_enter Tryz.func109, Tryz.ntmps109
  go_upto_region 1 with (fail)
  refine wp_at hW1 ?_
  clear hW1
  cases q0 with
  | false =>
    go_wp2_with (first | (go_at_call 124; refine (CT.out _).mono ?_; rintro e w1 ⟨rfl, hb1⟩; have NH1 : Hid (_ = _) := blk_b NH.out hb1; have NX1 : Hid (_ = _) := blk_b NX.out hb1; have HB1 : Hid (Below w.heap.size w w1) := HB.out.trans (hb1.mono HB.out.size); obtain ⟨c0_1, c1_1, c2_1, c3_1, c4_1, c5_1, c6_1, c7_1, c8_1⟩ := cells9 NH1.out; obtain ⟨x0_1, x1_1, x2_1, x3_1, x4_1, x5_1, x6_1, x7_1, x8_1, x9_1, x10_1, x11_1⟩ := cells12 NX1.out; clear hb1 CT) | fail)
    go_ret
    exact ⟨by rw [HR.out]; rfl, HB1.out⟩
  | true =>
    cases q1 with
    | false =>
      go_wp2_with (first | (go_at_call 124; refine (CT.out _).mono ?_; rintro e w1 ⟨rfl, hb1⟩; have NH1 : Hid (_ = _) := blk_b NH.out hb1; have NX1 : Hid (_ = _) := blk_b NX.out hb1; have HB1 : Hid (Below w.heap.size w w1) := HB.out.trans (hb1.mono HB.out.size); obtain ⟨c0_1, c1_1, c2_1, c3_1, c4_1, c5_1, c6_1, c7_1, c8_1⟩ := cells9 NH1.out; obtain ⟨x0_1, x1_1, x2_1, x3_1, x4_1, x5_1, x6_1, x7_1, x8_1, x9_1, x10_1, x11_1⟩ := cells12 NX1.out; clear hb1 CT) | (go_at_call 125; refine (CA.out _).mono ?_; rintro e w2 ⟨rfl, hb2⟩; have NH2 : Hid (_ = _) := blk_b NH1.out hb2; have NX2 : Hid (_ = _) := blk_b NX1.out hb2; have HB2 : Hid (Below w.heap.size w w2) := HB1.out.trans (hb2.mono HB1.out.size); obtain ⟨c0_2, c1_2, c2_2, c3_2, c4_2, c5_2, c6_2, c7_2, c8_2⟩ := cells9 NH2.out; obtain ⟨x0_2, x1_2, x2_2, x3_2, x4_2, x5_2, x6_2, x7_2, x8_2, x9_2, x10_2, x11_2⟩ := cells12 NX2.out; clear hb2 CA) | fail)
      go_ret
      exact ⟨by rw [HR.out]; rfl, HB2.out⟩
    | true =>
      cases q2 with
      | false =>
        go_wp2_with (first | (go_at_call 124; refine (CT.out _).mono ?_; rintro e w1 ⟨rfl, hb1⟩; have NH1 : Hid (_ = _) := blk_b NH.out hb1; have NX1 : Hid (_ = _) := blk_b NX.out hb1; have HB1 : Hid (Below w.heap.size w w1) := HB.out.trans (hb1.mono HB.out.size); obtain ⟨c0_1, c1_1, c2_1, c3_1, c4_1, c5_1, c6_1, c7_1, c8_1⟩ := cells9 NH1.out; obtain ⟨x0_1, x1_1, x2_1, x3_1, x4_1, x5_1, x6_1, x7_1, x8_1, x9_1, x10_1, x11_1⟩ := cells12 NX1.out; clear hb1 CT) | (go_at_call 125; refine (CA.out _).mono ?_; rintro e w2 ⟨rfl, hb2⟩; have NH2 : Hid (_ = _) := blk_b NH1.out hb2; have NX2 : Hid (_ = _) := blk_b NX1.out hb2; have HB2 : Hid (Below w.heap.size w w2) := HB1.out.trans (hb2.mono HB1.out.size); obtain ⟨c0_2, c1_2, c2_2, c3_2, c4_2, c5_2, c6_2, c7_2, c8_2⟩ := cells9 NH2.out; obtain ⟨x0_2, x1_2, x2_2, x3_2, x4_2, x5_2, x6_2, x7_2, x8_2, x9_2, x10_2, x11_2⟩ := cells12 NX2.out; clear hb2 CA) | (go_at_call 126; refine (CR.out _).mono ?_; rintro e w3 ⟨rfl, hb3⟩; have NH3 : Hid (_ = _) := blk_b NH2.out hb3; have NX3 : Hid (_ = _) := blk_b NX2.out hb3; have HB3 : Hid (Below w.heap.size w w3) := HB2.out.trans (hb3.mono HB2.out.size); obtain ⟨c0_3, c1_3, c2_3, c3_3, c4_3, c5_3, c6_3, c7_3, c8_3⟩ := cells9 NH3.out; obtain ⟨x0_3, x1_3, x2_3, x3_3, x4_3, x5_3, x6_3, x7_3, x8_3, x9_3, x10_3, x11_3⟩ := cells12 NX3.out; clear hb3 CR) | fail)
        go_ret
        exact ⟨by rw [HR.out]; rfl, HB3.out⟩
      | true =>
        cases sg with
        | false =>
          go_wp2_with (first | (go_at_call 124; refine (CT.out _).mono ?_; rintro e w1 ⟨rfl, hb1⟩; have NH1 : Hid (_ = _) := blk_b NH.out hb1; have NX1 : Hid (_ = _) := blk_b NX.out hb1; have HB1 : Hid (Below w.heap.size w w1) := HB.out.trans (hb1.mono HB.out.size); obtain ⟨c0_1, c1_1, c2_1, c3_1, c4_1, c5_1, c6_1, c7_1, c8_1⟩ := cells9 NH1.out; obtain ⟨x0_1, x1_1, x2_1, x3_1, x4_1, x5_1, x6_1, x7_1, x8_1, x9_1, x10_1, x11_1⟩ := cells12 NX1.out; clear hb1 CT) | (go_at_call 125; refine (CA.out _).mono ?_; rintro e w2 ⟨rfl, hb2⟩; have NH2 : Hid (_ = _) := blk_b NH1.out hb2; have NX2 : Hid (_ = _) := blk_b NX1.out hb2; have HB2 : Hid (Below w.heap.size w w2) := HB1.out.trans (hb2.mono HB1.out.size); obtain ⟨c0_2, c1_2, c2_2, c3_2, c4_2, c5_2, c6_2, c7_2, c8_2⟩ := cells9 NH2.out; obtain ⟨x0_2, x1_2, x2_2, x3_2, x4_2, x5_2, x6_2, x7_2, x8_2, x9_2, x10_2, x11_2⟩ := cells12 NX2.out; clear hb2 CA) | (go_at_call 126; refine (CR.out _).mono ?_; rintro e w3 ⟨rfl, hb3⟩; have NH3 : Hid (_ = _) := blk_b NH2.out hb3; have NX3 : Hid (_ = _) := blk_b NX2.out hb3; have HB3 : Hid (Below w.heap.size w w3) := HB2.out.trans (hb3.mono HB2.out.size); obtain ⟨c0_3, c1_3, c2_3, c3_3, c4_3, c5_3, c6_3, c7_3, c8_3⟩ := cells9 NH3.out; obtain ⟨x0_3, x1_3, x2_3, x3_3, x4_3, x5_3, x6_3, x7_3, x8_3, x9_3, x10_3, x11_3⟩ := cells12 NX3.out; clear hb3 CR) | fail)
          go_ret
          exact ⟨by rw [HR.out]; rfl, HB3.out⟩
        | true =>
          generalize hw4 : (wd == 4) = w4 at *
          cases w4 with
          | false =>
            go_wp2_with (first | (go_at_call 124; refine (CT.out _).mono ?_; rintro e w1 ⟨rfl, hb1⟩; have NH1 : Hid (_ = _) := blk_b NH.out hb1; have NX1 : Hid (_ = _) := blk_b NX.out hb1; have HB1 : Hid (Below w.heap.size w w1) := HB.out.trans (hb1.mono HB.out.size); obtain ⟨c0_1, c1_1, c2_1, c3_1, c4_1, c5_1, c6_1, c7_1, c8_1⟩ := cells9 NH1.out; obtain ⟨x0_1, x1_1, x2_1, x3_1, x4_1, x5_1, x6_1, x7_1, x8_1, x9_1, x10_1, x11_1⟩ := cells12 NX1.out; clear hb1 CT) | (go_at_call 125; refine (CA.out _).mono ?_; rintro e w2 ⟨rfl, hb2⟩; have NH2 : Hid (_ = _) := blk_b NH1.out hb2; have NX2 : Hid (_ = _) := blk_b NX1.out hb2; have HB2 : Hid (Below w.heap.size w w2) := HB1.out.trans (hb2.mono HB1.out.size); obtain ⟨c0_2, c1_2, c2_2, c3_2, c4_2, c5_2, c6_2, c7_2, c8_2⟩ := cells9 NH2.out; obtain ⟨x0_2, x1_2, x2_2, x3_2, x4_2, x5_2, x6_2, x7_2, x8_2, x9_2, x10_2, x11_2⟩ := cells12 NX2.out; clear hb2 CA) | (go_at_call 126; refine (CR.out _).mono ?_; rintro e w3 ⟨rfl, hb3⟩; have NH3 : Hid (_ = _) := blk_b NH2.out hb3; have NX3 : Hid (_ = _) := blk_b NX2.out hb3; have HB3 : Hid (Below w.heap.size w w3) := HB2.out.trans (hb3.mono HB2.out.size); obtain ⟨c0_3, c1_3, c2_3, c3_3, c4_3, c5_3, c6_3, c7_3, c8_3⟩ := cells9 NH3.out; obtain ⟨x0_3, x1_3, x2_3, x3_3, x4_3, x5_3, x6_3, x7_3, x8_3, x9_3, x10_3, x11_3⟩ := cells12 NX3.out; clear hb3 CR) | fail)
            go_ret
            exact ⟨by rw [HR.out]; rfl, HB3.out⟩
          | true =>
            go_wp2_with (first | (go_at_call 124; refine (CT.out _).mono ?_; rintro e w1 ⟨rfl, hb1⟩; have NH1 : Hid (_ = _) := blk_b NH.out hb1; have NX1 : Hid (_ = _) := blk_b NX.out hb1; have HB1 : Hid (Below w.heap.size w w1) := HB.out.trans (hb1.mono HB.out.size); obtain ⟨c0_1, c1_1, c2_1, c3_1, c4_1, c5_1, c6_1, c7_1, c8_1⟩ := cells9 NH1.out; obtain ⟨x0_1, x1_1, x2_1, x3_1, x4_1, x5_1, x6_1, x7_1, x8_1, x9_1, x10_1, x11_1⟩ := cells12 NX1.out; clear hb1 CT) | (go_at_call 125; refine (CA.out _).mono ?_; rintro e w2 ⟨rfl, hb2⟩; have NH2 : Hid (_ = _) := blk_b NH1.out hb2; have NX2 : Hid (_ = _) := blk_b NX1.out hb2; have HB2 : Hid (Below w.heap.size w w2) := HB1.out.trans (hb2.mono HB1.out.size); obtain ⟨c0_2, c1_2, c2_2, c3_2, c4_2, c5_2, c6_2, c7_2, c8_2⟩ := cells9 NH2.out; obtain ⟨x0_2, x1_2, x2_2, x3_2, x4_2, x5_2, x6_2, x7_2, x8_2, x9_2, x10_2, x11_2⟩ := cells12 NX2.out; clear hb2 CA) | (go_at_call 126; refine (CR.out _).mono ?_; rintro e w3 ⟨rfl, hb3⟩; have NH3 : Hid (_ = _) := blk_b NH2.out hb3; have NX3 : Hid (_ = _) := blk_b NX2.out hb3; have HB3 : Hid (Below w.heap.size w w3) := HB2.out.trans (hb3.mono HB2.out.size); obtain ⟨c0_3, c1_3, c2_3, c3_3, c4_3, c5_3, c6_3, c7_3, c8_3⟩ := cells9 NH3.out; obtain ⟨x0_3, x1_3, x2_3, x3_3, x4_3, x5_3, x6_3, x7_3, x8_3, x9_3, x10_3, x11_3⟩ := cells12 NX3.out; clear hb3 CR) | fail)
            go_ret
            exact ⟨by rw [HR.out]; rfl, HB3.out⟩
end
end Go.Proofs.YtaaphipbkpjkjaaGreatDoor
