/-
  What a function has besides its code: frameHolds of package tac.
  An instruction is right in its home: holds at every instruction; right of package tac.
-/
import Derived.Test.YtaaphipbkpjkjaaGreatDoorNW
import Derived.Test.YtaaphipbkpjkjaaGreatDoorNA
import Derived.Test.YtaaphipbkpjkjaaGreatDoorTaV
import Derived.Test.YtaaphipbkpjkjaaGreatDoorKF
namespace Go.Proofs.YtaaphipbkpjkjaaGreatDoor
open Go.RowKit Go.Maps
set_option linter.unusedVariables false
set_option maxRecDepth 100000
def szS (l : List Slt) (n : Int) : Int := match l[n.toNat]? with | some s => s.size | none => 0
def szO (l : List Ob) (n : Int) : Int := match l[n.toNat]? with | some s => s.size | none => 0
def holdsB (tp : Int) (gv : Bool) (cn : Nat) (sls : List Slt) (obs : List Ob) (fns : List Fn) (x : In) : Bool :=
  if x.op = 1 then tempB tp x.d && operB tp x.a
  else if x.op = 2 then tempB tp x.d && (isOp x.bin && (operB tp x.a && operB tp x.b))
  else if x.op = 3 then tempB tp x.d && (withinP x.n 0 ((sls.length : Int) - 1) && withinP x.off 0 (szS sls x.n))
  else if x.op = 4 then tempB tp x.d && (withinP x.n 0 ((obs.length : Int) - 1) && withinP x.off 0 (szO obs x.n))
  else if x.op = 5 then tempB tp x.d && (operB tp x.a && (reachB x && !(x.sg && x.width == 4)))
  else if x.op = 6 then operB tp x.a && (operB tp x.b && reachB x)
  else if x.op = 7 then operB tp x.a && (operB tp x.b && (widthB x.width && (withinP x.off 1 16384 && (x.off.tmod x.width == 0))))
  else if x.op = 8 then withinP x.n 0 ((fns.length : Int) - 1) && (match fns[x.n.toNat]? with | some f => callB tp f.pr f.gv x | none => false)
  else if x.op = 9 then retB tp gv x.a
  else if x.op = 10 then tempB cn x.n
  else if x.op = 11 then tempB cn x.n && operB tp x.a
  else if x.op = 12 then operB tp x.a
  else if x.op = 13 then tempB tp x.d
  else if x.op = 14 then operB tp x.a
  else false
/-- What a home stands on. -/
structure HomeOK (w : World) (h : Hm) (sls : List Slt) (obs : List Ob) (fns : List Fn) : Prop where
  t0 : 0 ≤ h.tp
  t1 : h.tp ≤ 9223372036854775807
  cn : h.cn ≤ 9223372036854775806
  sl : RowV slC 2 w h.sp h.sc sls
  sn : h.sn = sls.length
  sm : sls.length ≤ 9223372036854775806
  ob : RowV obC 5 w h.op h.oc obs
  on : h.on = obs.length
  om : obs.length ≤ 9223372036854775806
  fr : RowV fnC 6 w h.fp h.fc fns
  fn : h.fn = fns.length
  fm : fns.length ≤ 9223372036854775806
  nm : NamesIn w
/-- What an instruction that came in is. -/
structure InOK (w : World) (x : In) (xp : Option Addr) (xc : Nat) : Prop where
  a : ArOK x.a
  b : ArOK x.b
  off : -9223372036854775808 ≤ x.off ∧ x.off ≤ 9223372036854775807
  ar : ArgV w (.slice xp x.args.length xc) x.args
  ao : ∀ a ∈ x.args, ArOK a
  al : x.args.length ≤ 9223372036854775806
section
variable {w : World}
set_option maxHeartbeats 8000000 in
theorem holds_no (h : Hm) {op bin d ak an bk bn n off wd : Int} {sg : Bool} {args : List Ar} {xp : Option Addr} {xc : Nat} (hop : op < 1 ∨ 14 < op) :
    Calls Tryz.prog 109 #[hmV h, .agg #[.int .i64 op, .int .i64 bin, .int .i64 d, .int .i64 ak, .int .u32 an, .int .i64 bk, .int .u32 bn, .int .i64 n, .int .i64 off, .int .i64 wd, .bool sg, .slice xp args.length xc]] w fun e w' => e = .returned (.bool false) ∧ Below w.heap.size w w' := by
  have b1 := below1 w (.cells #[.slice h.op h.on h.oc, .slice h.fp h.fn h.fc, .int .i64 h.mn, .string h.nm, .int .i64 h.pr, .int .i64 h.tp, .bool h.gv, .slice h.sp h.sn h.sc, .slice h.cp h.cn h.cc] THm)
  have b2 := below1 (w.alloc (.cells #[.slice h.op h.on h.oc, .slice h.fp h.fn h.fc, .int .i64 h.mn, .string h.nm, .int .i64 h.pr, .int .i64 h.tp, .bool h.gv, .slice h.sp h.sn h.sc, .slice h.cp h.cn h.cc] THm)) (.cells #[.int .i64 op, .int .i64 bin, .int .i64 d, .int .i64 ak, .int .u32 an, .int .i64 bk, .int .u32 bn, .int .i64 n, .int .i64 off, .int .i64 wd, .bool sg, .slice xp args.length xc] TIn)
  have hzA : (w.alloc (.cells #[.slice h.op h.on h.oc, .slice h.fp h.fn h.fc, .int .i64 h.mn, .string h.nm, .int .i64 h.pr, .int .i64 h.tp, .bool h.gv, .slice h.sp h.sn h.sc, .slice h.cp h.cn h.cc] THm)).heap.size = w.heap.size + 1 := by simp
  have NX : Hid (((w.alloc (.cells #[.slice h.op h.on h.oc, .slice h.fp h.fn h.fc, .int .i64 h.mn, .string h.nm, .int .i64 h.pr, .int .i64 h.tp, .bool h.gv, .slice h.sp h.sn h.sc, .slice h.cp h.cn h.cc] THm)).alloc (.cells #[.int .i64 op, .int .i64 bin, .int .i64 d, .int .i64 ak, .int .u32 an, .int .i64 bk, .int .u32 bn, .int .i64 n, .int .i64 off, .int .i64 wd, .bool sg, .slice xp args.length xc] TIn)).heap[w.heap.size + 1]? = some (.cells #[.int .i64 op, .int .i64 bin, .int .i64 d, .int .i64 ak, .int .u32 an, .int .i64 bk, .int .u32 bn, .int .i64 n, .int .i64 off, .int .i64 wd, .bool sg, .slice xp args.length xc] TIn (0, 0))) := by have := heap_r0 (w.alloc (.cells #[.slice h.op h.on h.oc, .slice h.fp h.fn h.fc, .int .i64 h.mn, .string h.nm, .int .i64 h.pr, .int .i64 h.tp, .bool h.gv, .slice h.sp h.sn h.sc, .slice h.cp h.cn h.cc] THm)) (.cells #[.int .i64 op, .int .i64 bin, .int .i64 d, .int .i64 ak, .int .u32 an, .int .i64 bk, .int .u32 bn, .int .i64 n, .int .i64 off, .int .i64 wd, .bool sg, .slice xp args.length xc] TIn); rw [hzA] at this; exact this
  have HB : Hid (Below w.heap.size w ((w.alloc (.cells #[.slice h.op h.on h.oc, .slice h.fp h.fn h.fc, .int .i64 h.mn, .string h.nm, .int .i64 h.pr, .int .i64 h.tp, .bool h.gv, .slice h.sp h.sn h.sc, .slice h.cp h.cn h.cc] THm)).alloc (.cells #[.int .i64 op, .int .i64 bin, .int .i64 d, .int .i64 ak, .int .u32 an, .int .i64 bk, .int .u32 bn, .int .i64 n, .int .i64 off, .int .i64 wd, .bool sg, .slice xp args.length xc] TIn))) := b1.trans (b2.mono b1.size)
  have x0 := (Lib.cell_of_heap NX.out 0).trans rfl
  have q1 : (op == 1) = false := by simp; omega
  have q2 : (op == 2) = false := by simp; omega
  have q3 : (op == 3) = false := by simp; omega
  have q4 : (op == 4) = false := by simp; omega
  have q5 : (op == 5) = false := by simp; omega
  have q6 : (op == 6) = false := by simp; omega
  have q7 : (op == 7) = false := by simp; omega
  have q8 : (op == 8) = false := by simp; omega
  have q9 : (op == 9) = false := by simp; omega
  have q10 : (op == 10) = false := by simp; omega
  have q11 : (op == 11) = false := by simp; omega
  have q12 : (op == 12) = false := by simp; omega
  have q13 : (op == 13) = false := by simp; omega
  have q14 : (op == 14) = false := by simp; omega
  unfold hmV
  clear b1 b2 hzA NX hop
  go_enter Tryz.func109, Tryz.ntmps109
  go_upto_region 1 with (fail)
  refine (?_ : Code.wp _ _ _ _ ((w.alloc (.cells #[.slice h.op h.on h.oc, .slice h.fp h.fn h.fc, .int .i64 h.mn, .string h.nm, .int .i64 h.pr, .int .i64 h.tp, .bool h.gv, .slice h.sp h.sn h.sc, .slice h.cp h.cn h.cc] THm)).alloc (.cells #[.int .i64 op, .int .i64 bin, .int .i64 d, .int .i64 ak, .int .u32 an, .int .i64 bk, .int .u32 bn, .int .i64 n, .int .i64 off, .int .i64 wd, .bool sg, .slice xp args.length xc] TIn)))
  generalize ((w.alloc (.cells #[.slice h.op h.on h.oc, .slice h.fp h.fn h.fc, .int .i64 h.mn, .string h.nm, .int .i64 h.pr, .int .i64 h.tp, .bool h.gv, .slice h.sp h.sn h.sc, .slice h.cp h.cn h.cc] THm)).alloc (.cells #[.int .i64 op, .int .i64 bin, .int .i64 d, .int .i64 ak, .int .u32 an, .int .i64 bk, .int .u32 bn, .int .i64 n, .int .i64 off, .int .i64 wd, .bool sg, .slice xp args.length xc] TIn)) = W1 at *
  go_wp2
  go_ret
  exact ⟨rfl, HB.out⟩
theorem widthB_cases {n : Int} (h : widthB n = true) : n = 1 ∨ n = 2 ∨ n = 4 := by
  unfold widthB at h
  simpa using h
theorem holds_c {h : Hm} {sls : List Slt} {obs : List Ob} {fns : List Fn} (hH : HomeOK w h sls obs fns) (x : In) {xp : Option Addr} {xc : Nat} (hx : InOK w x xp xc) :
    Calls Tryz.prog 109 #[hmV h, .agg (inCells x (.slice xp x.args.length xc)).toArray] w fun e w' => e = .returned (.bool (holdsB h.tp h.gv h.cn sls obs fns x)) ∧ Below w.heap.size w w' := by
  obtain ⟨op, bin, d, ⟨ak, an⟩, ⟨bk, bn⟩, n, off, wd, sg, args⟩ := x
  obtain ⟨xa, xb, xo, xr, xq, xl⟩ := hx
  simp only at xa xb xo xr xq xl
  unfold holdsB
  simp only
  by_cases e1 : op = 1
  · subst e1; exact holds_1 h hH.t0 hH.t1 hH.cn xa xb xo hH.nm
  rw [if_neg e1]
  by_cases e2 : op = 2
  · subst e2; exact holds_2 h hH.t0 hH.t1 hH.cn xa xb xo hH.nm
  rw [if_neg e2]
  by_cases e3 : op = 3
  · subst e3; exact holds_3 h hH.t0 hH.t1 hH.sl hH.sn hH.sm
  rw [if_neg e3]
  by_cases e4 : op = 4
  · subst e4; exact holds_4 h hH.t0 hH.t1 hH.ob hH.on hH.om
  rw [if_neg e4]
  by_cases e5 : op = 5
  · subst e5; exact holds_5 h hH.t0 hH.t1 hH.cn xa xb xo hH.nm
  rw [if_neg e5]
  by_cases e6 : op = 6
  · subst e6; exact holds_6 h hH.t0 hH.t1 hH.cn xa xb xo hH.nm
  rw [if_neg e6]
  by_cases e7 : op = 7
  · subst e7
    rw [if_pos rfl]
    cases hw : widthB wd with
    | false =>
      have := holds_7_no (n := n) (d := d) (bin := bin) (sg := sg) (args := args) (xp := xp) (xc := xc) h hH.t0 hH.t1 hH.cn xa xb xo hH.nm hw
      exact this.mono fun e w' ⟨he, hb⟩ => ⟨by rw [he, hw]; simp, hb⟩
    | true =>
      rcases widthB_cases hw with rfl | rfl | rfl
      · have := holds_7_1 (n := n) (d := d) (bin := bin) (sg := sg) (args := args) (xp := xp) (xc := xc) h hH.t0 hH.t1 hH.cn xa xb xo hH.nm
        rw [hw] at this
        exact this
      · have := holds_7_2 (n := n) (d := d) (bin := bin) (sg := sg) (args := args) (xp := xp) (xc := xc) h hH.t0 hH.t1 hH.cn xa xb xo hH.nm
        rw [hw] at this
        exact this
      · have := holds_7_4 (n := n) (d := d) (bin := bin) (sg := sg) (args := args) (xp := xp) (xc := xc) h hH.t0 hH.t1 hH.cn xa xb xo hH.nm
        rw [hw] at this
        exact this
  rw [if_neg e7]
  by_cases e8 : op = 8
  · subst e8; exact holds_8 h hH.t0 hH.t1 hH.fr hH.fn hH.fm xr xq xl
  rw [if_neg e8]
  by_cases e9 : op = 9
  · subst e9; exact holds_9 h hH.t0 hH.t1 hH.cn xa xb xo hH.nm
  rw [if_neg e9]
  by_cases e10 : op = 10
  · subst e10; exact holds_10 h hH.t0 hH.t1 hH.cn xa xb xo hH.nm
  rw [if_neg e10]
  by_cases e11 : op = 11
  · subst e11; exact holds_11 h hH.t0 hH.t1 hH.cn xa xb xo hH.nm
  rw [if_neg e11]
  by_cases e12 : op = 12
  · subst e12; exact holds_12 h hH.t0 hH.t1 hH.cn xa xb xo hH.nm
  rw [if_neg e12]
  by_cases e13 : op = 13
  · subst e13; exact holds_13 h hH.t0 hH.t1 hH.cn xa xb xo hH.nm
  rw [if_neg e13]
  by_cases e14 : op = 14
  · subst e14; exact holds_14 h hH.t0 hH.t1 hH.cn xa xb xo hH.nm
  rw [if_neg e14]
  exact holds_no (op := op) h (by omega)
theorem HomeOK.below {w w' : World} {h : Hm} {sls : List Slt} {obs : List Ob} {fns : List Fn} (hH : HomeOK w h sls obs fns) (hb : Below w.heap.size w w') : HomeOK w' h sls obs fns :=
  ⟨hH.t0, hH.t1, hH.cn, hH.sl.below hb, hH.sn, hH.sm, hH.ob.below hb, hH.on, hH.om, hH.fr.below hb, hH.fn, hH.fm, hH.nm.below hb⟩
theorem InOK.below {w w' : World} {x : In} {xp : Option Addr} {xc : Nat} (h : InOK w x xp xc) (hb : Below w.heap.size w w') : InOK w' x xp xc := ⟨h.a, h.b, h.off, h.ar.below hb, h.ao, h.al⟩
theorem FormsIn.below {w w' : World} (h : FormsIn w) (hb : Below w.heap.size w w') : FormsIn w' := fun i s hi => (hb.cell (p := ⟨0, i * 2 + 1, none⟩) (World.block_lt_of_cell? w _ (h i s hi))).trans (h i s hi)
theorem holds_range {tp : Int} {gv : Bool} {cn : Nat} {sls : List Slt} {obs : List Ob} {fns : List Fn} {x : In} (h : holdsB tp gv cn sls obs fns x = true) : ∃ k : Nat, x.op = k ∧ 1 ≤ k ∧ k ≤ 14 := by
  unfold holdsB at h
  by_cases h1 : 1 ≤ x.op ∧ x.op ≤ 14
  · exact ⟨x.op.toNat, by omega, by omega, by omega⟩
  · repeat rw [if_neg (by omega)] at h
    cases h
def fieldsOf (x : In) : List Nat := fieldTab.getD x.op.toNat []
def rightB (tp : Int) (gv : Bool) (cn : Nat) (sls : List Slt) (obs : List Ob) (fns : List Fn) (x : In) : Bool := holdsB tp gv cn sls obs fns x && bareP (fieldsOf x) x
set_option maxHeartbeats 8000000 in
theorem right_c {h : Hm} {sls : List Slt} {obs : List Ob} {fns : List Fn} (hH : HomeOK w h sls obs fns) (hF : FormsIn w) (hw0 : 0 < w.heap.size) (x : In) {xp : Option Addr} {xc : Nat} (hx : InOK w x xp xc) :
    Calls Tryz.prog 81 #[hmV h, .agg (inCells x (.slice xp x.args.length xc)).toArray] w fun e w' => e = .returned (.bool (rightB h.tp h.gv h.cn sls obs fns x)) ∧ Below w.heap.size w w' := by
  have b1 := below1 w (.cells #[.slice h.op h.on h.oc, .slice h.fp h.fn h.fc, .int .i64 h.mn, .string h.nm, .int .i64 h.pr, .int .i64 h.tp, .bool h.gv, .slice h.sp h.sn h.sc, .slice h.cp h.cn h.cc] THm)
  have b2 := below1 (w.alloc (.cells #[.slice h.op h.on h.oc, .slice h.fp h.fn h.fc, .int .i64 h.mn, .string h.nm, .int .i64 h.pr, .int .i64 h.tp, .bool h.gv, .slice h.sp h.sn h.sc, .slice h.cp h.cn h.cc] THm)) (.cells #[.int .i64 x.op, .int .i64 x.bin, .int .i64 x.d, .int .i64 x.a.kind, .int .u32 x.a.n, .int .i64 x.b.kind, .int .u32 x.b.n, .int .i64 x.n, .int .i64 x.off, .int .i64 x.width, .bool x.sg, .slice xp x.args.length xc] TIn)
  have hzA : (w.alloc (.cells #[.slice h.op h.on h.oc, .slice h.fp h.fn h.fc, .int .i64 h.mn, .string h.nm, .int .i64 h.pr, .int .i64 h.tp, .bool h.gv, .slice h.sp h.sn h.sc, .slice h.cp h.cn h.cc] THm)).heap.size = w.heap.size + 1 := by simp
  have NH : Hid (((w.alloc (.cells #[.slice h.op h.on h.oc, .slice h.fp h.fn h.fc, .int .i64 h.mn, .string h.nm, .int .i64 h.pr, .int .i64 h.tp, .bool h.gv, .slice h.sp h.sn h.sc, .slice h.cp h.cn h.cc] THm)).alloc (.cells #[.int .i64 x.op, .int .i64 x.bin, .int .i64 x.d, .int .i64 x.a.kind, .int .u32 x.a.n, .int .i64 x.b.kind, .int .u32 x.b.n, .int .i64 x.n, .int .i64 x.off, .int .i64 x.width, .bool x.sg, .slice xp x.args.length xc] TIn)).heap[w.heap.size]? = some (.cells #[.slice h.op h.on h.oc, .slice h.fp h.fn h.fc, .int .i64 h.mn, .string h.nm, .int .i64 h.pr, .int .i64 h.tp, .bool h.gv, .slice h.sp h.sn h.sc, .slice h.cp h.cn h.cc] THm (0, 0))) := blk_b (heap_r0 w _) b2
  have NX : Hid (((w.alloc (.cells #[.slice h.op h.on h.oc, .slice h.fp h.fn h.fc, .int .i64 h.mn, .string h.nm, .int .i64 h.pr, .int .i64 h.tp, .bool h.gv, .slice h.sp h.sn h.sc, .slice h.cp h.cn h.cc] THm)).alloc (.cells #[.int .i64 x.op, .int .i64 x.bin, .int .i64 x.d, .int .i64 x.a.kind, .int .u32 x.a.n, .int .i64 x.b.kind, .int .u32 x.b.n, .int .i64 x.n, .int .i64 x.off, .int .i64 x.width, .bool x.sg, .slice xp x.args.length xc] TIn)).heap[w.heap.size + 1]? = some (.cells #[.int .i64 x.op, .int .i64 x.bin, .int .i64 x.d, .int .i64 x.a.kind, .int .u32 x.a.n, .int .i64 x.b.kind, .int .u32 x.b.n, .int .i64 x.n, .int .i64 x.off, .int .i64 x.width, .bool x.sg, .slice xp x.args.length xc] TIn (0, 0))) := by have := heap_r0 (w.alloc (.cells #[.slice h.op h.on h.oc, .slice h.fp h.fn h.fc, .int .i64 h.mn, .string h.nm, .int .i64 h.pr, .int .i64 h.tp, .bool h.gv, .slice h.sp h.sn h.sc, .slice h.cp h.cn h.cc] THm)) (.cells #[.int .i64 x.op, .int .i64 x.bin, .int .i64 x.d, .int .i64 x.a.kind, .int .u32 x.a.n, .int .i64 x.b.kind, .int .u32 x.b.n, .int .i64 x.n, .int .i64 x.off, .int .i64 x.width, .bool x.sg, .slice xp x.args.length xc] TIn); rw [hzA] at this; exact this
  have hB : Below w.heap.size w ((w.alloc (.cells #[.slice h.op h.on h.oc, .slice h.fp h.fn h.fc, .int .i64 h.mn, .string h.nm, .int .i64 h.pr, .int .i64 h.tp, .bool h.gv, .slice h.sp h.sn h.sc, .slice h.cp h.cn h.cc] THm)).alloc (.cells #[.int .i64 x.op, .int .i64 x.bin, .int .i64 x.d, .int .i64 x.a.kind, .int .u32 x.a.n, .int .i64 x.b.kind, .int .u32 x.b.n, .int .i64 x.n, .int .i64 x.off, .int .i64 x.width, .bool x.sg, .slice xp x.args.length xc] TIn)) := b1.trans (b2.mono b1.size)
  have HB : Hid (Below w.heap.size w ((w.alloc (.cells #[.slice h.op h.on h.oc, .slice h.fp h.fn h.fc, .int .i64 h.mn, .string h.nm, .int .i64 h.pr, .int .i64 h.tp, .bool h.gv, .slice h.sp h.sn h.sc, .slice h.cp h.cn h.cc] THm)).alloc (.cells #[.int .i64 x.op, .int .i64 x.bin, .int .i64 x.d, .int .i64 x.a.kind, .int .u32 x.a.n, .int .i64 x.b.kind, .int .u32 x.b.n, .int .i64 x.n, .int .i64 x.off, .int .i64 x.width, .bool x.sg, .slice xp x.args.length xc] TIn))) := hB
  obtain ⟨c0, c1, c2, c3, c4, c5, c6, c7, c8⟩ := cells9 NH.out
  obtain ⟨x0, x1, x2, x3, x4, x5, x6, x7, x8, x9, x10, x11⟩ := cells12 NX.out
  have cH := holds_c (hH.below hB) x (hx.below hB)
  have HCB : Hid (holdsB h.tp h.gv h.cn sls obs fns x = true → ∀ Y, Below w.heap.size w Y → Calls Tryz.prog 110 #[.agg #[.int .i64 x.op, .int .i64 x.bin, .int .i64 x.d, .int .i64 x.a.kind, .int .u32 x.a.n, .int .i64 x.b.kind, .int .u32 x.b.n, .int .i64 x.n, .int .i64 x.off, .int .i64 x.width, .bool x.sg, .slice xp x.args.length xc]] Y fun e w' => e = .returned (.bool (bareP (fieldsOf x) x)) ∧ Below Y.heap.size Y w') := fun hh Y hY => by
    obtain ⟨k, hk, k1, k2⟩ := holds_range hh
    have hl : k < fieldTab.length := by show k < 15; omega
    have e : fieldsOf x = fieldTab[k] := by unfold fieldsOf; rw [hk, Int.toNat_natCast]; simp [List.getD, List.getElem?_eq_getElem hl]
    have := bare_c (w := Y) x xp xc hk (List.getElem?_eq_getElem hl) (hF.below hY) (Nat.lt_of_lt_of_le hw0 hY.size)
    rw [e]
    exact this
  unfold rightB hmV
  unfold hmV inCells at cH
  unfold inCells
  generalize bareP (fieldsOf x) x = rb at *
  clear b1 b2 hzA hB hH hF hx hw0
  cases hq : holdsB h.tp h.gv h.cn sls obs fns x with
  | false =>
    rw [hq] at cH
    rw [Bool.false_and]
    clear hq HCB
    go_enter Tryz.func81, Tryz.ntmps81
    go_upto_region 1 with (fail)
    refine (?_ : Code.wp _ _ _ _ ((w.alloc (.cells #[.slice h.op h.on h.oc, .slice h.fp h.fn h.fc, .int .i64 h.mn, .string h.nm, .int .i64 h.pr, .int .i64 h.tp, .bool h.gv, .slice h.sp h.sn h.sc, .slice h.cp h.cn h.cc] THm)).alloc (.cells #[.int .i64 x.op, .int .i64 x.bin, .int .i64 x.d, .int .i64 x.a.kind, .int .u32 x.a.n, .int .i64 x.b.kind, .int .u32 x.b.n, .int .i64 x.n, .int .i64 x.off, .int .i64 x.width, .bool x.sg, .slice xp x.args.length xc] TIn)))
    generalize ((w.alloc (.cells #[.slice h.op h.on h.oc, .slice h.fp h.fn h.fc, .int .i64 h.mn, .string h.nm, .int .i64 h.pr, .int .i64 h.tp, .bool h.gv, .slice h.sp h.sn h.sc, .slice h.cp h.cn h.cc] THm)).alloc (.cells #[.int .i64 x.op, .int .i64 x.bin, .int .i64 x.d, .int .i64 x.a.kind, .int .u32 x.a.n, .int .i64 x.b.kind, .int .u32 x.b.n, .int .i64 x.n, .int .i64 x.off, .int .i64 x.width, .bool x.sg, .slice xp x.args.length xc] TIn)) = W1 at *
    go_wp2_with (first | (go_at_call 109; refine cH.mono ?_; rintro e w2 ⟨rfl, hb2⟩; have HB2 : Hid (Below w.heap.size w w2) := HB.out.trans (hb2.mono HB.out.size); clear hb2) | fail)
    go_ret
    exact ⟨rfl, HB2.out⟩
  | true =>
    rw [hq] at cH
    rw [Bool.true_and]
    have HCB2 : Hid (∀ Y, Below w.heap.size w Y → Calls Tryz.prog 110 #[.agg #[.int .i64 x.op, .int .i64 x.bin, .int .i64 x.d, .int .i64 x.a.kind, .int .u32 x.a.n, .int .i64 x.b.kind, .int .u32 x.b.n, .int .i64 x.n, .int .i64 x.off, .int .i64 x.width, .bool x.sg, .slice xp x.args.length xc]] Y fun e w' => e = .returned (.bool rb) ∧ Below Y.heap.size Y w') := HCB.out hq
    clear hq HCB
    go_enter Tryz.func81, Tryz.ntmps81
    go_upto_region 1 with (fail)
    refine (?_ : Code.wp _ _ _ _ ((w.alloc (.cells #[.slice h.op h.on h.oc, .slice h.fp h.fn h.fc, .int .i64 h.mn, .string h.nm, .int .i64 h.pr, .int .i64 h.tp, .bool h.gv, .slice h.sp h.sn h.sc, .slice h.cp h.cn h.cc] THm)).alloc (.cells #[.int .i64 x.op, .int .i64 x.bin, .int .i64 x.d, .int .i64 x.a.kind, .int .u32 x.a.n, .int .i64 x.b.kind, .int .u32 x.b.n, .int .i64 x.n, .int .i64 x.off, .int .i64 x.width, .bool x.sg, .slice xp x.args.length xc] TIn)))
    generalize ((w.alloc (.cells #[.slice h.op h.on h.oc, .slice h.fp h.fn h.fc, .int .i64 h.mn, .string h.nm, .int .i64 h.pr, .int .i64 h.tp, .bool h.gv, .slice h.sp h.sn h.sc, .slice h.cp h.cn h.cc] THm)).alloc (.cells #[.int .i64 x.op, .int .i64 x.bin, .int .i64 x.d, .int .i64 x.a.kind, .int .u32 x.a.n, .int .i64 x.b.kind, .int .u32 x.b.n, .int .i64 x.n, .int .i64 x.off, .int .i64 x.width, .bool x.sg, .slice xp x.args.length xc] TIn)) = W1 at *
    go_wp2_with (first | (go_at_call 109; refine cH.mono ?_; rintro e w2 ⟨rfl, hb2⟩; have HB2 : Hid (Below w.heap.size w w2) := HB.out.trans (hb2.mono HB.out.size); have NX2 := blk_b NX.out hb2; obtain ⟨y0, y1, y2, y3, y4, y5, y6, y7, y8, y9, y10, y11⟩ := cells12 NX2; clear hb2 NX2) | (go_at_call 110; refine (HCB2.out _ HB2.out).mono ?_; rintro e w3 ⟨rfl, hb3⟩; have HB3 : Hid (Below w.heap.size w w3) := HB2.out.trans (hb3.mono HB2.out.size); clear hb3) | fail)
    go_ret
    exact ⟨by cases rb <;> rfl, HB3.out⟩
end
end Go.Proofs.YtaaphipbkpjkjaaGreatDoor
namespace Go.Proofs.YtaaphipbkpjkjaaGreatDoor
open Go.RowKit Go.Maps
set_option linter.unusedVariables false
set_option maxRecDepth 100000
abbrev TSl : TypeId := 94
def frameB (pr tp : Int) (sls : List Slt) : Bool := withinP pr 0 8 && (withinP tp pr 4096 && (decide (sls.length ≤ 256) && sls.all fun s => roomB s.size s.align))
section
variable {w : World}
set_option maxHeartbeats 8000000 in
theorem frame_c (f : Fn) {sls : List Slt} (hr : RowV slC 2 w f.sp f.sc sls) (hn : f.sn = sls.length) (hl : sls.length ≤ 9223372036854775806) :
    Calls Tryz.prog 51 #[.agg (fnC f).toArray] w fun e w' => e = .returned (.bool (frameB f.pr f.tp sls)) ∧ Below w.heap.size w w' := by
  obtain ⟨nm, pr, tp, gv, sp, sn, sc, cp, cn, cc⟩ := f
  simp only at hr hn ⊢
  subst hn
  have b1 := below1 w (.cells #[.string nm, .int .i64 pr, .int .i64 tp, .bool gv, .slice sp sls.length sc, .slice cp cn cc] TFn)
  have N1 := heap_r0 w (.cells #[.string nm, .int .i64 pr, .int .i64 tp, .bool gv, .slice sp sls.length sc, .slice cp cn cc] TFn)
  have HB : Hid (Below w.heap.size w (w.alloc (.cells #[.string nm, .int .i64 pr, .int .i64 tp, .bool gv, .slice sp sls.length sc, .slice cp cn cc] TFn))) := b1
  have c1 := (Lib.cell_of_heap N1 1).trans rfl
  have c2 := (Lib.cell_of_heap N1 2).trans rfl
  have c4 := (Lib.cell_of_heap N1 4).trans rfl
  have w1 := within_c pr 0 8 (w.alloc (.cells #[.string nm, .int .i64 pr, .int .i64 tp, .bool gv, .slice sp sls.length sc, .slice cp cn cc] TFn))
  have w2 := within_c tp pr 4096 (w.alloc (.cells #[.string nm, .int .i64 pr, .int .i64 tp, .bool gv, .slice sp sls.length sc, .slice cp cn cc] TFn))
  have HROW : Hid (∀ Y, Below w.heap.size w Y → RowV slC 2 Y sp sc sls) := fun Y hY => hr.below hY
  obtain ⟨R, hR⟩ : ∃ R, R = frameB pr tp sls := ⟨_, rfl⟩
  rw [← hR]
  have HR : Hid (R = _) := hR
  have nt := not_t
  have nf := not_f
  unfold fnC
  clear b1 N1 hR hr
  go_enter Tryz.func51, Tryz.ntmps51
  go_upto_region 1 with (fail)
  refine (?_ : Code.wp _ _ _ _ (w.alloc (.cells #[.string nm, .int .i64 pr, .int .i64 tp, .bool gv, .slice sp sls.length sc, .slice cp cn cc] TFn)))
  generalize w.alloc (.cells #[.string nm, .int .i64 pr, .int .i64 tp, .bool gv, .slice sp sls.length sc, .slice cp cn cc] TFn) = W1 at *
  cases hq1 : withinP pr 0 8 with
  | false =>
    rw [hq1] at w1
    have HV : Hid (R = false) := by show R = _; rw [HR.out]; unfold frameB; rw [hq1]; rfl
    clear hq1 w2 HR
    go_wp2_with (first | (go_at_call 50; refine w1.mono ?_; rintro e w' ⟨rfl, hw⟩; rw [hw]; clear hw w' w1) | fail)
    go_ret
    exact ⟨by rw [HV.out]; rfl, HB.out⟩
  | true =>
    rw [hq1] at w1
    cases hq2 : withinP tp pr 4096 with
    | false =>
      rw [hq2] at w2
      have HV : Hid (R = false) := by show R = _; rw [HR.out]; unfold frameB; rw [hq1, hq2]; rfl
      clear hq1 hq2 HR
      go_wp2_with (first | (go_at_call 50; refine w1.mono ?_; rintro e w' ⟨rfl, hw⟩; rw [hw]; clear hw w' w1) | (go_at_call 50; refine w2.mono ?_; rintro e w' ⟨rfl, hw⟩; rw [hw]; clear hw w' w2) | fail)
      go_ret
      exact ⟨by rw [HV.out]; rfl, HB.out⟩
    | true =>
      rw [hq2] at w2
      by_cases h256 : sls.length ≤ 256
      · have d1 : decide (256 < (sls.length : Int)) = false := by simp; omega
        have HR1 : Hid (R = sls.all fun s => roomB s.size s.align) := by show R = _; rw [HR.out]; unfold frameB; rw [hq1, hq2]; simp [h256]
        clear hq1 hq2 HR
        go_wp2_with (first | (go_at_call 50; refine w1.mono ?_; rintro e w' ⟨rfl, hw⟩; rw [hw]; clear hw w' w1) | (go_at_call 50; refine w2.mono ?_; rintro e w' ⟨rfl, hw⟩; rw [hw]; clear hw w' w2) | fail)
        clear c1 c2 c4 d1
        go_loopw [26] (fun iv wr => ∃ k : Nat, iv = .int .i64 k ∧ k ≤ sls.length ∧ Hid ((sls.take k).all (fun s => roomB s.size s.align) = true) ∧ Hid (Below w.heap.size w wr)) (fun iv _ => sls.length - (intOf iv).toNat)
        case atStart => exact ⟨0, rfl, Nat.zero_le _, rfl, HB⟩
        case round =>
          obtain ⟨k, rfl, hk, HAL, HRW⟩ := hrel
          by_cases hlt : k < sls.length
          · obtain ⟨s, hs⟩ : ∃ s, sls[k]? = some s := ⟨_, List.getElem?_eq_getElem hlt⟩
            obtain ⟨g, o, rfl, hg, hc⟩ := (HROW.out wr HRW.out).2 k s hs
            have hcap := (HROW.out w (Below.refl _ _)).1.1
            have a0 := hc 0 (by omega)
            have a1 := hc 1 (by omega)
            simp only [slC, List.getElem?_cons_zero, List.getElem?_cons_succ, Nat.add_zero] at a0 a1
            have HAT := all_take (p := fun s : Slt => roomB s.size s.align) hs
            have HATH : Hid ((sls.take (k + 1)).all (fun s => roomB s.size s.align) = roomB s.size s.align) := by show _ = _; rw [HAT, HAL.out, Bool.true_and]
            have HMEM : Hid (roomB s.size s.align = false → sls.all (fun s => roomB s.size s.align) = false) := fun hf => by
              rw [List.all_eq_false]; exact ⟨s, List.mem_of_getElem? hs, by simp [hf]⟩
            have hold := heap_r0 wr (.cells #[.int .i64 0, .int .i64 0] TSl)
            have N5 := heap_r0 wr (.cells #[.int .i64 s.size, .int .i64 s.align] TSl)
            have p0 := (Lib.cell_of_heap N5 0).trans rfl
            have p1 := (Lib.cell_of_heap N5 1).trans rfl
            have HB5 : Hid (Below w.heap.size w (wr.alloc (.cells #[.int .i64 s.size, .int .i64 s.align] TSl))) := HRW.out.trans ((below1 wr _).mono HRW.out.size)
            have cR := roomHolds_c s.size s.align (wr.alloc (.cells #[.int .i64 s.size, .int .i64 s.align] TSl))
            clear hs hg hc HAT N5
            go_upto_region 6 with (first | ((with_reducible apply step_store hold); rfl; rfl; kernel_rfl; rfl; kernel_rfl; rw [World.setRow_alloc_new]) | fail)
            generalize wr.alloc (.cells #[.int .i64 s.size, .int .i64 s.align] TSl) = W5 at *
            generalize roomB s.size s.align = ob at *
            clear a0 a1 hold
            cases ob with
            | false =>
              have HV : Hid (R = false) := by show R = false; rw [HR1.out]; exact HMEM.out rfl
              go_wp2_with (first | (go_at_call 48; refine cR.mono ?_; rintro e w' ⟨rfl, hw⟩; rw [hw]; clear hw w') | fail)
              go_ret
              exact ⟨by rw [HV.out]; rfl, HB5.out⟩
            | true =>
              go_wp2_with (first | (go_at_call 48; refine cR.mono ?_; rintro e w' ⟨rfl, hw⟩; rw [hw]; clear hw w') | fail)
              exact ⟨⟨k + 1, by go_num, by omega, HATH, HB5⟩, by simp [intOf]; omega⟩
          · obtain rfl : k = sls.length := by omega
            have HV : Hid (R = true) := by
              have := HAL.out
              rw [List.take_length] at this
              show R = _
              rw [HR1.out, this]
            go_wp2
            go_ret
            exact ⟨by rw [HV.out]; rfl, HRW.out⟩
      · have d1 : decide (256 < (sls.length : Int)) = true := by simp; omega
        have HV : Hid (R = false) := by show R = _; rw [HR.out]; unfold frameB; rw [hq1, hq2]; simp [h256]
        clear hq1 hq2 HR
        go_wp2_with (first | (go_at_call 50; refine w1.mono ?_; rintro e w' ⟨rfl, hw⟩; rw [hw]; clear hw w' w1) | (go_at_call 50; refine w2.mono ?_; rintro e w' ⟨rfl, hw⟩; rw [hw]; clear hw w' w2) | fail)
        go_ret
        exact ⟨by rw [HV.out]; rfl, HB.out⟩
end
end Go.Proofs.YtaaphipbkpjkjaaGreatDoor
