/-
  The names of the operations; cells of a home and of an instruction.
  Rows of any make; returns, reaches, calls of package tac.
  calls of package tac.
-/
import Derived.Test.YtaaphipbkpjkjaaGreatDoorKD
namespace Go.Proofs.YtaaphipbkpjkjaaGreatDoor
open Go.RowKit Go.Maps
set_option linter.unusedVariables false
set_option maxRecDepth 100000
/-- A slice whose elements have k cells each, wherever it begins. -/
def RowV {α : Type} (C : α → List Value) (k : Nat) (w : World) (p : Option Addr) (cap : Nat) (l : List α) : Prop :=
  (l.length ≤ cap ∧ (p = none → cap = 0)) ∧ ∀ i a, l[i]? = some a → ∃ g o, p = some ⟨g, o, none⟩ ∧ g < w.heap.size ∧ ∀ j, j < k → w.cell? ⟨g, o + i * k + j, none⟩ = (C a)[j]?
theorem RowV.below {α : Type} {C : α → List Value} {k : Nat} {w w' : World} {p : Option Addr} {cap : Nat} {l : List α} (h : RowV C k w p cap l) (hb : Below w.heap.size w w') : RowV C k w' p cap l :=
  ⟨h.1, fun i a ha => by obtain ⟨g, o, e, hg, hc⟩ := h.2 i a ha; exact ⟨g, o, e, Nat.lt_of_lt_of_le hg hb.size, fun j hj => (hb.cell (p := ⟨g, o + i * k + j, none⟩) hg).trans (hc j hj)⟩⟩
/-- A function, as its row has it. -/
structure Fn where
  nm : ByteArray
  pr : Int
  tp : Int
  gv : Bool
  sp : Option Addr
  sn : Nat
  sc : Nat
  cp : Option Addr
  cn : Nat
  cc : Nat
def fnC (f : Fn) : List Value := [.string f.nm, .int .i64 f.pr, .int .i64 f.tp, .bool f.gv, .slice f.sp f.sn f.sc, .slice f.cp f.cn f.cc]
def retB (tp : Int) (gv : Bool) (a : Ar) : Bool := if gv then operB tp a else (a.kind == 0 && a.n == 0)
def reachB (x : In) : Bool := withinP x.off (-16384) 16384 && widthB x.width
def callB (tp : Int) (pr : Int) (gv : Bool) (x : In) : Bool := ((x.args.length : Int) == pr) && (x.args.all (operB tp) && (x.d == -1 || (gv && tempB tp x.d)))
section
variable {w : World}
set_option maxHeartbeats 4000000 in
theorem returns_c (h : Hm) (h0 : 0 ≤ h.tp) (h1 : h.tp ≤ 9223372036854775807) (a : Ar) (ha : ArOK a) (w : World) :
    Calls Tryz.prog 128 #[hmV h, arV a] w fun e w' => e = .returned (.bool (retB h.tp h.gv a)) ∧ Below w.heap.size w w' := by
  obtain ⟨hop, hon, hoc, hfp, hfn, hfc, hmn, hnm, hpr, htp, gv, hsp, hsn, hsc, hcp, hcn, hcc⟩ := h
  simp only at h0 h1 ⊢
  cases gv
  · have b1 := below1 w (.cells #[.slice hop hon hoc, .slice hfp hfn hfc, .int .i64 hmn, .string hnm, .int .i64 hpr, .int .i64 htp, .bool false, .slice hsp hsn hsc, .slice hcp hcn hcc] THm)
    have N1 := heap_r0 w (.cells #[.slice hop hon hoc, .slice hfp hfn hfc, .int .i64 hmn, .string hnm, .int .i64 hpr, .int .i64 htp, .bool false, .slice hsp hsn hsc, .slice hcp hcn hcc] THm)
    have b2 := below1 (w.alloc (.cells #[.slice hop hon hoc, .slice hfp hfn hfc, .int .i64 hmn, .string hnm, .int .i64 hpr, .int .i64 htp, .bool false, .slice hsp hsn hsc, .slice hcp hcn hcc] THm)) (.cells #[.int .i64 a.kind, .int .u32 a.n] TAr)
    have N2 := heap_r0 (w.alloc (.cells #[.slice hop hon hoc, .slice hfp hfn hfc, .int .i64 hmn, .string hnm, .int .i64 hpr, .int .i64 htp, .bool false, .slice hsp hsn hsc, .slice hcp hcn hcc] THm)) (.cells #[.int .i64 a.kind, .int .u32 a.n] TAr)
    have hz : (w.alloc (.cells #[.slice hop hon hoc, .slice hfp hfn hfc, .int .i64 hmn, .string hnm, .int .i64 hpr, .int .i64 htp, .bool false, .slice hsp hsn hsc, .slice hcp hcn hcc] THm)).heap.size = w.heap.size + 1 := by simp
    rw [hz] at N2
    have N3 := blk_b N1 b2
    have c0 := Lib.cell_of_heap N3 0
    have c1 := Lib.cell_of_heap N3 1
    have c2 := Lib.cell_of_heap N3 2
    have c3 := Lib.cell_of_heap N3 3
    have c4 := Lib.cell_of_heap N3 4
    have c5 := Lib.cell_of_heap N3 5
    have c6 := Lib.cell_of_heap N3 6
    have c7 := Lib.cell_of_heap N3 7
    have c8 := Lib.cell_of_heap N3 8
    have a0 := Lib.cell_of_heap N2 0
    have a1 := Lib.cell_of_heap N2 1
    simp only [List.getElem?_toArray, List.getElem?_cons_zero, List.getElem?_cons_succ] at a0 a1 c0 c1 c2 c3 c4 c5 c6 c7 c8
    have HB : Hid (Below w.heap.size w ((w.alloc (.cells #[.slice hop hon hoc, .slice hfp hfn hfc, .int .i64 hmn, .string hnm, .int .i64 hpr, .int .i64 htp, .bool false, .slice hsp hsn hsc, .slice hcp hcn hcc] THm)).alloc (.cells #[.int .i64 a.kind, .int .u32 a.n] TAr))) := b1.trans (b2.mono b1.size)
    clear b1 b2 N1 N2 N3 hz
    have E0 := eqAr a.kind a.n
    have hbz : ∀ Y : World, (Instr.build TAr #[]).run Tryz.prog Y = .ok (.agg #[.int .i64 0, .int .u32 0]) Y := fun Y => by kernel_rfl
    unfold hmV arV at *
    have e : retB htp false a = (a.kind == 0 && a.n == 0) := rfl
    simp only [e]
    generalize (a.kind == 0 && a.n == 0) = zb at *
    clear e
    go_enter Tryz.func128, Tryz.ntmps128
    go_upto_region 1 with (fail)
    refine (?_ : Code.wp _ _ _ _ ((w.alloc (.cells #[.slice hop hon hoc, .slice hfp hfn hfc, .int .i64 hmn, .string hnm, .int .i64 hpr, .int .i64 htp, .bool false, .slice hsp hsn hsc, .slice hcp hcn hcc] THm)).alloc (.cells #[.int .i64 a.kind, .int .u32 a.n] TAr)))
    generalize ((w.alloc (.cells #[.slice hop hon hoc, .slice hfp hfn hfc, .int .i64 hmn, .string hnm, .int .i64 hpr, .int .i64 htp, .bool false, .slice hsp hsn hsc, .slice hcp hcn hcc] THm)).alloc (.cells #[.int .i64 a.kind, .int .u32 a.n] TAr)) = W1 at *
    go_wp2
    go_ret
    exact ⟨rfl, HB.out⟩
  · have b1 := below1 w (.cells #[.slice hop hon hoc, .slice hfp hfn hfc, .int .i64 hmn, .string hnm, .int .i64 hpr, .int .i64 htp, .bool true, .slice hsp hsn hsc, .slice hcp hcn hcc] THm)
    have N1 := heap_r0 w (.cells #[.slice hop hon hoc, .slice hfp hfn hfc, .int .i64 hmn, .string hnm, .int .i64 hpr, .int .i64 htp, .bool true, .slice hsp hsn hsc, .slice hcp hcn hcc] THm)
    have b2 := below1 (w.alloc (.cells #[.slice hop hon hoc, .slice hfp hfn hfc, .int .i64 hmn, .string hnm, .int .i64 hpr, .int .i64 htp, .bool true, .slice hsp hsn hsc, .slice hcp hcn hcc] THm)) (.cells #[.int .i64 a.kind, .int .u32 a.n] TAr)
    have N2 := heap_r0 (w.alloc (.cells #[.slice hop hon hoc, .slice hfp hfn hfc, .int .i64 hmn, .string hnm, .int .i64 hpr, .int .i64 htp, .bool true, .slice hsp hsn hsc, .slice hcp hcn hcc] THm)) (.cells #[.int .i64 a.kind, .int .u32 a.n] TAr)
    have hz : (w.alloc (.cells #[.slice hop hon hoc, .slice hfp hfn hfc, .int .i64 hmn, .string hnm, .int .i64 hpr, .int .i64 htp, .bool true, .slice hsp hsn hsc, .slice hcp hcn hcc] THm)).heap.size = w.heap.size + 1 := by simp
    rw [hz] at N2
    have N3 := blk_b N1 b2
    have c0 := Lib.cell_of_heap N3 0
    have c1 := Lib.cell_of_heap N3 1
    have c2 := Lib.cell_of_heap N3 2
    have c3 := Lib.cell_of_heap N3 3
    have c4 := Lib.cell_of_heap N3 4
    have c5 := Lib.cell_of_heap N3 5
    have c6 := Lib.cell_of_heap N3 6
    have c7 := Lib.cell_of_heap N3 7
    have c8 := Lib.cell_of_heap N3 8
    have a0 := Lib.cell_of_heap N2 0
    have a1 := Lib.cell_of_heap N2 1
    simp only [List.getElem?_toArray, List.getElem?_cons_zero, List.getElem?_cons_succ] at a0 a1 c0 c1 c2 c3 c4 c5 c6 c7 c8
    have HB : Hid (Below w.heap.size w ((w.alloc (.cells #[.slice hop hon hoc, .slice hfp hfn hfc, .int .i64 hmn, .string hnm, .int .i64 hpr, .int .i64 htp, .bool true, .slice hsp hsn hsc, .slice hcp hcn hcc] THm)).alloc (.cells #[.int .i64 a.kind, .int .u32 a.n] TAr))) := b1.trans (b2.mono b1.size)
    clear b1 b2 N1 N2 N3 hz
    have cO := operand_c ⟨hop, hon, hoc, hfp, hfn, hfc, hmn, hnm, hpr, htp, true, hsp, hsn, hsc, hcp, hcn, hcc⟩ h0 h1 a ha ((w.alloc (.cells #[.slice hop hon hoc, .slice hfp hfn hfc, .int .i64 hmn, .string hnm, .int .i64 hpr, .int .i64 htp, .bool true, .slice hsp hsn hsc, .slice hcp hcn hcc] THm)).alloc (.cells #[.int .i64 a.kind, .int .u32 a.n] TAr))
    unfold hmV arV at *
    simp only at cO ⊢
    have e : retB htp true a = operB htp a := rfl
    rw [e]
    generalize operB htp a = ob at *
    clear e
    go_enter Tryz.func128, Tryz.ntmps128
    go_upto_region 1 with (fail)
    refine (?_ : Code.wp _ _ _ _ ((w.alloc (.cells #[.slice hop hon hoc, .slice hfp hfn hfc, .int .i64 hmn, .string hnm, .int .i64 hpr, .int .i64 htp, .bool true, .slice hsp hsn hsc, .slice hcp hcn hcc] THm)).alloc (.cells #[.int .i64 a.kind, .int .u32 a.n] TAr)))
    generalize ((w.alloc (.cells #[.slice hop hon hoc, .slice hfp hfn hfc, .int .i64 hmn, .string hnm, .int .i64 hpr, .int .i64 htp, .bool true, .slice hsp hsn hsc, .slice hcp hcn hcc] THm)).alloc (.cells #[.int .i64 a.kind, .int .u32 a.n] TAr)) = W1 at *
    go_wp2_with (first | (go_at_call 125; refine cO.mono ?_; rintro e w' ⟨rfl, hb⟩; have HB2 : Hid (Below w.heap.size w w') := HB.out.trans (hb.mono HB.out.size); clear hb) | fail)
    go_ret
    exact ⟨rfl, HB2.out⟩
theorem reaches_c (x : In) (xp : Option Addr) (xc : Nat) (w : World) :
    Calls Tryz.prog 126 #[.agg (inCells x (.slice xp x.args.length xc)).toArray] w fun e w' => e = .returned (.bool (reachB x)) ∧ Below w.heap.size w w' := by
  have b1 := below1 w (.cells #[.int .i64 x.op, .int .i64 x.bin, .int .i64 x.d, .int .i64 x.a.kind, .int .u32 x.a.n, .int .i64 x.b.kind, .int .u32 x.b.n, .int .i64 x.n, .int .i64 x.off, .int .i64 x.width, .bool x.sg, .slice xp x.args.length xc] TIn)
  have N1 := heap_r0 w (.cells #[.int .i64 x.op, .int .i64 x.bin, .int .i64 x.d, .int .i64 x.a.kind, .int .u32 x.a.n, .int .i64 x.b.kind, .int .u32 x.b.n, .int .i64 x.n, .int .i64 x.off, .int .i64 x.width, .bool x.sg, .slice xp x.args.length xc] TIn)
  have c8 := Lib.cell_of_heap N1 8
  have c9 := Lib.cell_of_heap N1 9
  simp only [List.getElem?_toArray, List.getElem?_cons_zero, List.getElem?_cons_succ] at c8 c9
  have HB : Hid (Below w.heap.size w (w.alloc (.cells #[.int .i64 x.op, .int .i64 x.bin, .int .i64 x.d, .int .i64 x.a.kind, .int .u32 x.a.n, .int .i64 x.b.kind, .int .u32 x.b.n, .int .i64 x.n, .int .i64 x.off, .int .i64 x.width, .bool x.sg, .slice xp x.args.length xc] TIn))) := b1
  have cW := within_c x.off (-16384) 16384 (w.alloc (.cells #[.int .i64 x.op, .int .i64 x.bin, .int .i64 x.d, .int .i64 x.a.kind, .int .u32 x.a.n, .int .i64 x.b.kind, .int .u32 x.b.n, .int .i64 x.n, .int .i64 x.off, .int .i64 x.width, .bool x.sg, .slice xp x.args.length xc] TIn))
  have cI := isWidth_c x.width (w.alloc (.cells #[.int .i64 x.op, .int .i64 x.bin, .int .i64 x.d, .int .i64 x.a.kind, .int .u32 x.a.n, .int .i64 x.b.kind, .int .u32 x.b.n, .int .i64 x.n, .int .i64 x.off, .int .i64 x.width, .bool x.sg, .slice xp x.args.length xc] TIn))
  unfold inCells reachB
  clear b1 N1
  generalize withinP x.off (-16384) 16384 = y1 at *
  generalize widthB x.width = y2 at *
  cases y1
  · clear cI
    go_enter Tryz.func126, Tryz.ntmps126
    go_upto_region 1 with (fail)
    refine (?_ : Code.wp _ _ _ _ (w.alloc (.cells #[.int .i64 x.op, .int .i64 x.bin, .int .i64 x.d, .int .i64 x.a.kind, .int .u32 x.a.n, .int .i64 x.b.kind, .int .u32 x.b.n, .int .i64 x.n, .int .i64 x.off, .int .i64 x.width, .bool x.sg, .slice xp x.args.length xc] TIn)))
    generalize w.alloc (.cells #[.int .i64 x.op, .int .i64 x.bin, .int .i64 x.d, .int .i64 x.a.kind, .int .u32 x.a.n, .int .i64 x.b.kind, .int .u32 x.b.n, .int .i64 x.n, .int .i64 x.off, .int .i64 x.width, .bool x.sg, .slice xp x.args.length xc] TIn) = W1 at *
    go_wp2_with (first | (go_at_call 50; refine cW.mono ?_; rintro e w' ⟨rfl, hw⟩; rw [hw]; clear hw w') | fail)
    go_ret
    exact ⟨rfl, HB.out⟩
  · go_enter Tryz.func126, Tryz.ntmps126
    go_upto_region 1 with (fail)
    refine (?_ : Code.wp _ _ _ _ (w.alloc (.cells #[.int .i64 x.op, .int .i64 x.bin, .int .i64 x.d, .int .i64 x.a.kind, .int .u32 x.a.n, .int .i64 x.b.kind, .int .u32 x.b.n, .int .i64 x.n, .int .i64 x.off, .int .i64 x.width, .bool x.sg, .slice xp x.args.length xc] TIn)))
    generalize w.alloc (.cells #[.int .i64 x.op, .int .i64 x.bin, .int .i64 x.d, .int .i64 x.a.kind, .int .u32 x.a.n, .int .i64 x.b.kind, .int .u32 x.b.n, .int .i64 x.n, .int .i64 x.off, .int .i64 x.width, .bool x.sg, .slice xp x.args.length xc] TIn) = W1 at *
    go_wp2_with (first | (go_at_call 50; refine cW.mono ?_; rintro e w' ⟨rfl, hw⟩; rw [hw]; clear hw w') | (go_at_call 78; refine cI.mono ?_; rintro e w' ⟨rfl, hw⟩; rw [hw]; clear hw w') | fail)
    go_ret
    exact ⟨by cases y2 <;> rfl, HB.out⟩
end
end Go.Proofs.YtaaphipbkpjkjaaGreatDoor
namespace Go.Proofs.YtaaphipbkpjkjaaGreatDoor
open Go.RowKit Go.Maps
set_option linter.unusedVariables false
set_option maxRecDepth 100000
theorem all_take {α : Type} {p : α → Bool} {l : List α} {k : Nat} {a : α} (h : l[k]? = some a) : (l.take (k + 1)).all p = ((l.take k).all p && p a) := by
  rw [List.take_add_one, h, Option.toList_some, List.all_append]
  simp
section
variable {w : World}
set_option maxHeartbeats 8000000 in
theorem calls_c (h : Hm) (h0 : 0 ≤ h.tp) (h1 : h.tp ≤ 9223372036854775807) (x : In) (xp : Option Addr) (xc : Nat) (hA : ArgV w (.slice xp x.args.length xc) x.args) (hok : ∀ a ∈ x.args, ArOK a) (hl : x.args.length ≤ 9223372036854775806) (f : Fn) :
    Calls Tryz.prog 127 #[hmV h, .agg (inCells x (.slice xp x.args.length xc)).toArray, .agg (fnC f).toArray] w fun e w' => e = .returned (.bool (callB h.tp f.pr f.gv x)) ∧ Below w.heap.size w w' := by
  have b1 := below1 w (.cells #[.slice h.op h.on h.oc, .slice h.fp h.fn h.fc, .int .i64 h.mn, .string h.nm, .int .i64 h.pr, .int .i64 h.tp, .bool h.gv, .slice h.sp h.sn h.sc, .slice h.cp h.cn h.cc] THm)
  have b2 := below1 (w.alloc (.cells #[.slice h.op h.on h.oc, .slice h.fp h.fn h.fc, .int .i64 h.mn, .string h.nm, .int .i64 h.pr, .int .i64 h.tp, .bool h.gv, .slice h.sp h.sn h.sc, .slice h.cp h.cn h.cc] THm)) (.cells #[.int .i64 x.op, .int .i64 x.bin, .int .i64 x.d, .int .i64 x.a.kind, .int .u32 x.a.n, .int .i64 x.b.kind, .int .u32 x.b.n, .int .i64 x.n, .int .i64 x.off, .int .i64 x.width, .bool x.sg, .slice xp x.args.length xc] TIn)
  have b3 := below1 ((w.alloc (.cells #[.slice h.op h.on h.oc, .slice h.fp h.fn h.fc, .int .i64 h.mn, .string h.nm, .int .i64 h.pr, .int .i64 h.tp, .bool h.gv, .slice h.sp h.sn h.sc, .slice h.cp h.cn h.cc] THm)).alloc (.cells #[.int .i64 x.op, .int .i64 x.bin, .int .i64 x.d, .int .i64 x.a.kind, .int .u32 x.a.n, .int .i64 x.b.kind, .int .u32 x.b.n, .int .i64 x.n, .int .i64 x.off, .int .i64 x.width, .bool x.sg, .slice xp x.args.length xc] TIn)) (.cells #[.string f.nm, .int .i64 f.pr, .int .i64 f.tp, .bool f.gv, .slice f.sp f.sn f.sc, .slice f.cp f.cn f.cc] TFn)
  have hzA : (w.alloc (.cells #[.slice h.op h.on h.oc, .slice h.fp h.fn h.fc, .int .i64 h.mn, .string h.nm, .int .i64 h.pr, .int .i64 h.tp, .bool h.gv, .slice h.sp h.sn h.sc, .slice h.cp h.cn h.cc] THm)).heap.size = w.heap.size + 1 := by simp
  have hzB : ((w.alloc (.cells #[.slice h.op h.on h.oc, .slice h.fp h.fn h.fc, .int .i64 h.mn, .string h.nm, .int .i64 h.pr, .int .i64 h.tp, .bool h.gv, .slice h.sp h.sn h.sc, .slice h.cp h.cn h.cc] THm)).alloc (.cells #[.int .i64 x.op, .int .i64 x.bin, .int .i64 x.d, .int .i64 x.a.kind, .int .u32 x.a.n, .int .i64 x.b.kind, .int .u32 x.b.n, .int .i64 x.n, .int .i64 x.off, .int .i64 x.width, .bool x.sg, .slice xp x.args.length xc] TIn)).heap.size = w.heap.size + 1 + 1 := by simp
  have NH : Hid ((((w.alloc (.cells #[.slice h.op h.on h.oc, .slice h.fp h.fn h.fc, .int .i64 h.mn, .string h.nm, .int .i64 h.pr, .int .i64 h.tp, .bool h.gv, .slice h.sp h.sn h.sc, .slice h.cp h.cn h.cc] THm)).alloc (.cells #[.int .i64 x.op, .int .i64 x.bin, .int .i64 x.d, .int .i64 x.a.kind, .int .u32 x.a.n, .int .i64 x.b.kind, .int .u32 x.b.n, .int .i64 x.n, .int .i64 x.off, .int .i64 x.width, .bool x.sg, .slice xp x.args.length xc] TIn)).alloc (.cells #[.string f.nm, .int .i64 f.pr, .int .i64 f.tp, .bool f.gv, .slice f.sp f.sn f.sc, .slice f.cp f.cn f.cc] TFn)).heap[w.heap.size]? = some (.cells #[.slice h.op h.on h.oc, .slice h.fp h.fn h.fc, .int .i64 h.mn, .string h.nm, .int .i64 h.pr, .int .i64 h.tp, .bool h.gv, .slice h.sp h.sn h.sc, .slice h.cp h.cn h.cc] THm (0, 0))) := blk_b (blk_b (heap_r0 w _) b2) b3
  have NX : Hid ((((w.alloc (.cells #[.slice h.op h.on h.oc, .slice h.fp h.fn h.fc, .int .i64 h.mn, .string h.nm, .int .i64 h.pr, .int .i64 h.tp, .bool h.gv, .slice h.sp h.sn h.sc, .slice h.cp h.cn h.cc] THm)).alloc (.cells #[.int .i64 x.op, .int .i64 x.bin, .int .i64 x.d, .int .i64 x.a.kind, .int .u32 x.a.n, .int .i64 x.b.kind, .int .u32 x.b.n, .int .i64 x.n, .int .i64 x.off, .int .i64 x.width, .bool x.sg, .slice xp x.args.length xc] TIn)).alloc (.cells #[.string f.nm, .int .i64 f.pr, .int .i64 f.tp, .bool f.gv, .slice f.sp f.sn f.sc, .slice f.cp f.cn f.cc] TFn)).heap[w.heap.size + 1]? = some (.cells #[.int .i64 x.op, .int .i64 x.bin, .int .i64 x.d, .int .i64 x.a.kind, .int .u32 x.a.n, .int .i64 x.b.kind, .int .u32 x.b.n, .int .i64 x.n, .int .i64 x.off, .int .i64 x.width, .bool x.sg, .slice xp x.args.length xc] TIn (0, 0))) := by have := blk_b (heap_r0 (w.alloc (.cells #[.slice h.op h.on h.oc, .slice h.fp h.fn h.fc, .int .i64 h.mn, .string h.nm, .int .i64 h.pr, .int .i64 h.tp, .bool h.gv, .slice h.sp h.sn h.sc, .slice h.cp h.cn h.cc] THm)) (.cells #[.int .i64 x.op, .int .i64 x.bin, .int .i64 x.d, .int .i64 x.a.kind, .int .u32 x.a.n, .int .i64 x.b.kind, .int .u32 x.b.n, .int .i64 x.n, .int .i64 x.off, .int .i64 x.width, .bool x.sg, .slice xp x.args.length xc] TIn)) b3; rw [hzA] at this; exact this
  have NF : Hid ((((w.alloc (.cells #[.slice h.op h.on h.oc, .slice h.fp h.fn h.fc, .int .i64 h.mn, .string h.nm, .int .i64 h.pr, .int .i64 h.tp, .bool h.gv, .slice h.sp h.sn h.sc, .slice h.cp h.cn h.cc] THm)).alloc (.cells #[.int .i64 x.op, .int .i64 x.bin, .int .i64 x.d, .int .i64 x.a.kind, .int .u32 x.a.n, .int .i64 x.b.kind, .int .u32 x.b.n, .int .i64 x.n, .int .i64 x.off, .int .i64 x.width, .bool x.sg, .slice xp x.args.length xc] TIn)).alloc (.cells #[.string f.nm, .int .i64 f.pr, .int .i64 f.tp, .bool f.gv, .slice f.sp f.sn f.sc, .slice f.cp f.cn f.cc] TFn)).heap[w.heap.size + 1 + 1]? = some (.cells #[.string f.nm, .int .i64 f.pr, .int .i64 f.tp, .bool f.gv, .slice f.sp f.sn f.sc, .slice f.cp f.cn f.cc] TFn (0, 0))) := by have := heap_r0 ((w.alloc (.cells #[.slice h.op h.on h.oc, .slice h.fp h.fn h.fc, .int .i64 h.mn, .string h.nm, .int .i64 h.pr, .int .i64 h.tp, .bool h.gv, .slice h.sp h.sn h.sc, .slice h.cp h.cn h.cc] THm)).alloc (.cells #[.int .i64 x.op, .int .i64 x.bin, .int .i64 x.d, .int .i64 x.a.kind, .int .u32 x.a.n, .int .i64 x.b.kind, .int .u32 x.b.n, .int .i64 x.n, .int .i64 x.off, .int .i64 x.width, .bool x.sg, .slice xp x.args.length xc] TIn)) (.cells #[.string f.nm, .int .i64 f.pr, .int .i64 f.tp, .bool f.gv, .slice f.sp f.sn f.sc, .slice f.cp f.cn f.cc] TFn); rw [hzB] at this; exact this
  have bAll : Below w.heap.size w (((w.alloc (.cells #[.slice h.op h.on h.oc, .slice h.fp h.fn h.fc, .int .i64 h.mn, .string h.nm, .int .i64 h.pr, .int .i64 h.tp, .bool h.gv, .slice h.sp h.sn h.sc, .slice h.cp h.cn h.cc] THm)).alloc (.cells #[.int .i64 x.op, .int .i64 x.bin, .int .i64 x.d, .int .i64 x.a.kind, .int .u32 x.a.n, .int .i64 x.b.kind, .int .u32 x.b.n, .int .i64 x.n, .int .i64 x.off, .int .i64 x.width, .bool x.sg, .slice xp x.args.length xc] TIn)).alloc (.cells #[.string f.nm, .int .i64 f.pr, .int .i64 f.tp, .bool f.gv, .slice f.sp f.sn f.sc, .slice f.cp f.cn f.cc] TFn)) := (b1.trans (b2.mono b1.size)).trans (b3.mono (Nat.le_trans b1.size b2.size))
  have HB : Hid (Below w.heap.size w (((w.alloc (.cells #[.slice h.op h.on h.oc, .slice h.fp h.fn h.fc, .int .i64 h.mn, .string h.nm, .int .i64 h.pr, .int .i64 h.tp, .bool h.gv, .slice h.sp h.sn h.sc, .slice h.cp h.cn h.cc] THm)).alloc (.cells #[.int .i64 x.op, .int .i64 x.bin, .int .i64 x.d, .int .i64 x.a.kind, .int .u32 x.a.n, .int .i64 x.b.kind, .int .u32 x.b.n, .int .i64 x.n, .int .i64 x.off, .int .i64 x.width, .bool x.sg, .slice xp x.args.length xc] TIn)).alloc (.cells #[.string f.nm, .int .i64 f.pr, .int .i64 f.tp, .bool f.gv, .slice f.sp f.sn f.sc, .slice f.cp f.cn f.cc] TFn))) := bAll
  have x11 := (Lib.cell_of_heap NX.out 11).trans rfl
  have f1 := (Lib.cell_of_heap NF.out 1).trans rfl
  obtain ⟨_, _, e, _, hcell⟩ := hA
  injection e with e1 e2 e3
  subst e1 e3
  have HCELL : Hid (∀ i a, x.args[i]? = some a → ∃ g o, xp = some ⟨g, o, none⟩ ∧ g < w.heap.size ∧ ∀ j, j < 2 → w.cell? ⟨g, o + i * 2 + j, none⟩ = (arCells a)[j]?) := hcell
  have HOK : Hid (∀ a ∈ x.args, ArOK a) := hok
  have cO := operand_c h h0 h1
  have HCO : Hid (∀ a, ArOK a → ∀ w, Calls Tryz.prog 125 #[hmV h, arV a] w fun e w' => e = .returned (.bool (operB h.tp a)) ∧ Below w.heap.size w w') := cO
  have HCT : Hid (∀ d w, Calls Tryz.prog 124 #[hmV h, .int .i64 d] w fun e w' => e = .returned (.bool (tempB h.tp d)) ∧ Below w.heap.size w w') := temp_c h (by omega) h1
  obtain ⟨R, hR⟩ : ∃ R, R = callB h.tp f.pr f.gv x := ⟨_, rfl⟩
  rw [← hR]
  have HR : Hid (R = _) := hR
  have nt := not_t
  have nf := not_f
  unfold hmV inCells fnC at *
  clear b1 b2 b3 hzA hzB bAll hcell hok cO hR e2
  go_enter Tryz.func127, Tryz.ntmps127
  go_upto_region 1 with (fail)
  refine (?_ : Code.wp _ _ _ _ (((w.alloc (.cells #[.slice h.op h.on h.oc, .slice h.fp h.fn h.fc, .int .i64 h.mn, .string h.nm, .int .i64 h.pr, .int .i64 h.tp, .bool h.gv, .slice h.sp h.sn h.sc, .slice h.cp h.cn h.cc] THm)).alloc (.cells #[.int .i64 x.op, .int .i64 x.bin, .int .i64 x.d, .int .i64 x.a.kind, .int .u32 x.a.n, .int .i64 x.b.kind, .int .u32 x.b.n, .int .i64 x.n, .int .i64 x.off, .int .i64 x.width, .bool x.sg, .slice xp x.args.length xc] TIn)).alloc (.cells #[.string f.nm, .int .i64 f.pr, .int .i64 f.tp, .bool f.gv, .slice f.sp f.sn f.sc, .slice f.cp f.cn f.cc] TFn)))
  generalize (((w.alloc (.cells #[.slice h.op h.on h.oc, .slice h.fp h.fn h.fc, .int .i64 h.mn, .string h.nm, .int .i64 h.pr, .int .i64 h.tp, .bool h.gv, .slice h.sp h.sn h.sc, .slice h.cp h.cn h.cc] THm)).alloc (.cells #[.int .i64 x.op, .int .i64 x.bin, .int .i64 x.d, .int .i64 x.a.kind, .int .u32 x.a.n, .int .i64 x.b.kind, .int .u32 x.b.n, .int .i64 x.n, .int .i64 x.off, .int .i64 x.width, .bool x.sg, .slice xp x.args.length xc] TIn)).alloc (.cells #[.string f.nm, .int .i64 f.pr, .int .i64 f.tp, .bool f.gv, .slice f.sp f.sn f.sc, .slice f.cp f.cn f.cc] TFn)) = W1 at *
  cases hlen : ((x.args.length : Int) == f.pr) with
  | false =>
    have hne : ((x.args.length : Int) != f.pr) = true := by simpa using hlen
    have HV : Hid (R = false) := by show R = false; rw [HR.out]; unfold callB; rw [hlen]; rfl
    clear hlen HR
    go_wp2
    go_ret
    exact ⟨by rw [HV.out]; rfl, HB.out⟩
  | true =>
    have hne : ((x.args.length : Int) != f.pr) = false := by simpa using hlen
    have HR1 : Hid (R = (x.args.all (operB h.tp) && (x.d == -1 || (f.gv && tempB h.tp x.d)))) := by show R = _; rw [HR.out]; unfold callB; rw [hlen, Bool.true_and]
    clear hlen HR
    go_wp2
    clear x11 f1 hne
    go_loopw [18] (fun iv wr => ∃ k : Nat, iv = .int .i64 k ∧ k ≤ x.args.length ∧ Hid ((x.args.take k).all (operB h.tp) = true) ∧ Hid (Below W1.heap.size W1 wr)) (fun iv _ => x.args.length - (intOf iv).toNat)
    case atStart => exact ⟨0, rfl, Nat.zero_le _, rfl, Below.refl _ _⟩
    case round =>
      obtain ⟨k, rfl, hk, HAL, HRW⟩ := hrel
      have HBR : Hid (Below w.heap.size w wr) := HB.out.trans (HRW.out.mono HB.out.size)
      by_cases hlt : k < x.args.length
      · obtain ⟨a, ha⟩ : ∃ a, x.args[k]? = some a := ⟨_, List.getElem?_eq_getElem hlt⟩
        obtain ⟨g, o, rfl, hg, hc⟩ := HCELL.out k a ha
        have a0 := ((HBR.out.cell (p := ⟨g, o + k * 2 + 0, none⟩) hg).trans (hc 0 (by omega)))
        have a1 := ((HBR.out.cell (p := ⟨g, o + k * 2 + 1, none⟩) hg).trans (hc 1 (by omega)))
        simp only [arCells, List.getElem?_cons_zero, List.getElem?_cons_succ, Nat.add_zero] at a0 a1
        have cA := HCO.out a (HOK.out a (List.mem_of_getElem? ha))
        have HAT := all_take (p := operB h.tp) ha
        have HATH : Hid ((x.args.take (k + 1)).all (operB h.tp) = operB h.tp a) := by show _ = _; rw [HAT, HAL.out, Bool.true_and]
        have HMEM : Hid (operB h.tp a = false → x.args.all (operB h.tp) = false) := fun hf => by
          rw [List.all_eq_false]; exact ⟨a, List.mem_of_getElem? ha, by simp [hf]⟩
        have hold := heap_r0 wr (.cells #[.int .i64 0, .int .u32 0] TAr)
        have b5 := below1 wr (.cells #[.int .i64 a.kind, .int .u32 a.n] TAr)
        have N5 := heap_r0 wr (.cells #[.int .i64 a.kind, .int .u32 a.n] TAr)
        have NH5 := blk_b (blk_b NH.out HRW.out) b5
        have p0 := (Lib.cell_of_heap N5 0).trans rfl
        have p1 := (Lib.cell_of_heap N5 1).trans rfl
        have c0 := (Lib.cell_of_heap NH5 0).trans rfl
        have c1 := (Lib.cell_of_heap NH5 1).trans rfl
        have c2 := (Lib.cell_of_heap NH5 2).trans rfl
        have c3 := (Lib.cell_of_heap NH5 3).trans rfl
        have c4 := (Lib.cell_of_heap NH5 4).trans rfl
        have c5 := (Lib.cell_of_heap NH5 5).trans rfl
        have c6 := (Lib.cell_of_heap NH5 6).trans rfl
        have c7 := (Lib.cell_of_heap NH5 7).trans rfl
        have c8 := (Lib.cell_of_heap NH5 8).trans rfl
        have HB5 : Hid (Below W1.heap.size W1 (wr.alloc (.cells #[.int .i64 a.kind, .int .u32 a.n] TAr))) := HRW.out.trans (b5.mono HRW.out.size)
        clear ha hg hc HAT N5 NH5 b5
        go_upto_region 6 with (first | ((with_reducible apply step_store hold); rfl; rfl; kernel_rfl; rfl; kernel_rfl; rw [World.setRow_alloc_new]) | fail)
        generalize wr.alloc (.cells #[.int .i64 a.kind, .int .u32 a.n] TAr) = W5 at *
        have cA5 := cA W5
        unfold arV at cA5
        clear cA a0 a1 hold
        generalize operB h.tp a = ob at *
        cases ob with
        | false =>
          have HV : Hid (R = false) := by show R = false; rw [HR1.out, HMEM.out rfl]; rfl
          go_wp2_with (first | (go_at_call 125; refine cA5.mono ?_; rintro e w6 ⟨rfl, hb6⟩; have HB6 : Hid (Below W1.heap.size W1 w6) := HB5.out.trans (hb6.mono HB5.out.size); clear hb6) | fail)
          go_ret
          exact ⟨by rw [HV.out]; rfl, HB.out.trans (HB6.out.mono HB.out.size)⟩
        | true =>
          go_wp2_with (first | (go_at_call 125; refine cA5.mono ?_; rintro e w6 ⟨rfl, hb6⟩; have HB6 : Hid (Below W1.heap.size W1 w6) := HB5.out.trans (hb6.mono HB5.out.size); clear hb6) | fail)
          exact ⟨⟨k + 1, by go_num, by omega, HATH, HB6⟩, by simp [intOf]; omega⟩
      · obtain rfl : k = x.args.length := by omega
        have HR2 : Hid (R = (x.d == -1 || (f.gv && tempB h.tp x.d))) := by
          have := HAL.out
          rw [List.take_length] at this
          show R = _
          rw [HR1.out, this, Bool.true_and]
        have NHr := blk_b NH.out HRW.out
        have x2 := (Lib.cell_of_heap (blk_b NX.out HRW.out) 2).trans rfl
        have f3 := (Lib.cell_of_heap (blk_b NF.out HRW.out) 3).trans rfl
        have cT := HCT.out x.d wr
        have c0 := (Lib.cell_of_heap NHr 0).trans rfl
        have c1 := (Lib.cell_of_heap NHr 1).trans rfl
        have c2 := (Lib.cell_of_heap NHr 2).trans rfl
        have c3 := (Lib.cell_of_heap NHr 3).trans rfl
        have c4 := (Lib.cell_of_heap NHr 4).trans rfl
        have c5 := (Lib.cell_of_heap NHr 5).trans rfl
        have c6 := (Lib.cell_of_heap NHr 6).trans rfl
        have c7 := (Lib.cell_of_heap NHr 7).trans rfl
        have c8 := (Lib.cell_of_heap NHr 8).trans rfl
        clear NHr HAL
        cases hd : (x.d == -1) with
        | true =>
          have HV : Hid (R = true) := by show R = _; rw [HR2.out, hd]; rfl
          go_wp2
          go_ret
          exact ⟨by rw [HV.out]; rfl, HBR.out⟩
        | false =>
          have HR3 : Hid (R = (f.gv && tempB h.tp x.d)) := by show R = _; rw [HR2.out, hd]; rfl
          clear HR2 HR1
          generalize hfg : f.gv = fg at *
          generalize tempB h.tp x.d = tb at *
          cases fg with
          | false =>
            go_wp2
            go_ret
            exact ⟨by rw [HR3.out]; rfl, HBR.out⟩
          | true =>
            go_wp2_with (first | (go_at_call 124; refine cT.mono ?_; rintro e w6 ⟨rfl, hb6⟩; have HB6 : Hid (Below w.heap.size w w6) := HBR.out.trans (hb6.mono HBR.out.size); clear hb6) | fail)
            go_ret
            exact ⟨by rw [HR3.out]; cases tb <;> rfl, HB6.out⟩
end
end Go.Proofs.YtaaphipbkpjkjaaGreatDoor
namespace Go.Proofs.YtaaphipbkpjkjaaGreatDoor
open Go.RowKit Go.Maps
set_option linter.unusedVariables false
set_option maxRecDepth 100000
def opTab : List ByteArray := [⟨#[97, 100, 100]⟩, ⟨#[115, 117, 98]⟩, ⟨#[109, 117, 108]⟩, ⟨#[100, 105, 118, 115]⟩, ⟨#[100, 105, 118, 117]⟩, ⟨#[114, 101, 109, 115]⟩, ⟨#[114, 101, 109, 117]⟩, ⟨#[97, 110, 100]⟩, ⟨#[111, 114]⟩, ⟨#[120, 111, 114]⟩, ⟨#[115, 104, 108]⟩, ⟨#[115, 104, 114, 115]⟩, ⟨#[115, 104, 114, 117]⟩, ⟨#[101, 113]⟩, ⟨#[110, 101]⟩, ⟨#[108, 116, 115]⟩, ⟨#[108, 116, 117]⟩, ⟨#[108, 101, 115]⟩, ⟨#[108, 101, 117]⟩]
/-- The table of the operations' names lies in its block. -/
def NamesIn (w : World) : Prop := ∀ i s, opTab[i]? = some s → w.cell? ⟨1, i, none⟩ = some (.string s)
theorem NamesIn.below {w w' : World} (h : NamesIn w) (hb : Below w.heap.size w w') : NamesIn w' := fun i s hi => (hb.cell (p := ⟨1, i, none⟩) (World.block_lt_of_cell? w _ (h i s hi))).trans (h i s hi)
def opName (b : Int) : ByteArray := if 1 ≤ b ∧ b ≤ 19 then opTab.getD (b - 1).toNat ⟨#[]⟩ else ⟨#[]⟩
def isOp (b : Int) : Bool := withinP b 1 19
theorem opTab_ne : ∀ s ∈ opTab, (!s.toList.isEmpty) = true := by decide +kernel
theorem getD_at {l : List ByteArray} {k : Nat} (h : k < l.length) (d : ByteArray) : l.getD k d = l[k] := by simp [List.getD, List.getElem?_eq_getElem h]
theorem opName_ne (b : Int) : (!(opName b).toList.isEmpty) = isOp b := by
  unfold opName isOp withinP
  by_cases h : 1 ≤ b ∧ b ≤ 19
  · rw [if_pos h]
    have hl : (b - 1).toNat < opTab.length := by simp [opTab]; omega
    have := opTab_ne (opTab[(b - 1).toNat]) (List.getElem_mem hl)
    rw [getD_at hl, this]
    simp [h.1, h.2]
  · rw [if_neg h]
    have : (decide (1 ≤ b) && decide (b ≤ 19)) = false := by simp; omega
    rw [this]
    decide +kernel
theorem name_c (b : Int) {w : World} (hN : NamesIn w) : Calls Tryz.prog 99 #[.int .i64 b] w fun e w' => e = .returned (.string (opName b)) ∧ w' = w := by
  unfold opName
  by_cases h : 1 ≤ b ∧ b ≤ 19
  · rw [if_pos h]
    obtain ⟨k, rfl⟩ : ∃ k : Nat, b = (k : Int) + 1 := ⟨(b - 1).toNat, by omega⟩
    have hl : k < opTab.length := by simp [opTab]; omega
    have hk19 : k < 19 := by omega
    have hc := hN k _ (List.getElem?_eq_getElem hl)
    rw [show ((k : Int) + 1 - 1).toNat = k by omega, getD_at hl]
    have d1 : decide ((k : Int) + 1 < 1) = false := by simp; omega
    have d2 : decide (19 < (k : Int) + 1) = false := by simp; omega
    have hw : IntKind.i64.wrap ((k : Int) + 1 - 1) = (k : Int) := by rw [wrap_id (by omega) (by omega)]; omega
    generalize opTab[k] = s at *
    clear h hl
    go_enter Tryz.func99, Tryz.ntmps99
    go_wp2
    go_ret
    exact ⟨rfl, rfl⟩
  · rw [if_neg h]
    by_cases h1 : b < 1
    · have d1 : decide (b < 1) = true := by simpa using h1
      go_enter Tryz.func99, Tryz.ntmps99
      go_wp2
      go_ret
      exact ⟨rfl, rfl⟩
    · have d1 : decide (b < 1) = false := by simpa using h1
      have d2 : decide (19 < b) = true := by simp; omega
      go_enter Tryz.func99, Tryz.ntmps99
      go_wp2
      go_ret
      exact ⟨rfl, rfl⟩
theorem cells9 {W : World} {g : Nat} {t : TypeId} {v0 v1 v2 v3 v4 v5 v6 v7 v8 : Value} (h : W.heap[g]? = some (.cells #[v0, v1, v2, v3, v4, v5, v6, v7, v8] t (0, 0))) : W.cell? ⟨g, 0, none⟩ = some v0 ∧ W.cell? ⟨g, 1, none⟩ = some v1 ∧ W.cell? ⟨g, 2, none⟩ = some v2 ∧ W.cell? ⟨g, 3, none⟩ = some v3 ∧ W.cell? ⟨g, 4, none⟩ = some v4 ∧ W.cell? ⟨g, 5, none⟩ = some v5 ∧ W.cell? ⟨g, 6, none⟩ = some v6 ∧ W.cell? ⟨g, 7, none⟩ = some v7 ∧ W.cell? ⟨g, 8, none⟩ = some v8 :=
  ⟨(Lib.cell_of_heap h 0).trans rfl, (Lib.cell_of_heap h 1).trans rfl, (Lib.cell_of_heap h 2).trans rfl, (Lib.cell_of_heap h 3).trans rfl, (Lib.cell_of_heap h 4).trans rfl, (Lib.cell_of_heap h 5).trans rfl, (Lib.cell_of_heap h 6).trans rfl, (Lib.cell_of_heap h 7).trans rfl, (Lib.cell_of_heap h 8).trans rfl⟩
theorem cells12 {W : World} {g : Nat} {t : TypeId} {v0 v1 v2 v3 v4 v5 v6 v7 v8 v9 v10 v11 : Value} (h : W.heap[g]? = some (.cells #[v0, v1, v2, v3, v4, v5, v6, v7, v8, v9, v10, v11] t (0, 0))) : W.cell? ⟨g, 0, none⟩ = some v0 ∧ W.cell? ⟨g, 1, none⟩ = some v1 ∧ W.cell? ⟨g, 2, none⟩ = some v2 ∧ W.cell? ⟨g, 3, none⟩ = some v3 ∧ W.cell? ⟨g, 4, none⟩ = some v4 ∧ W.cell? ⟨g, 5, none⟩ = some v5 ∧ W.cell? ⟨g, 6, none⟩ = some v6 ∧ W.cell? ⟨g, 7, none⟩ = some v7 ∧ W.cell? ⟨g, 8, none⟩ = some v8 ∧ W.cell? ⟨g, 9, none⟩ = some v9 ∧ W.cell? ⟨g, 10, none⟩ = some v10 ∧ W.cell? ⟨g, 11, none⟩ = some v11 :=
  ⟨(Lib.cell_of_heap h 0).trans rfl, (Lib.cell_of_heap h 1).trans rfl, (Lib.cell_of_heap h 2).trans rfl, (Lib.cell_of_heap h 3).trans rfl, (Lib.cell_of_heap h 4).trans rfl, (Lib.cell_of_heap h 5).trans rfl, (Lib.cell_of_heap h 6).trans rfl, (Lib.cell_of_heap h 7).trans rfl, (Lib.cell_of_heap h 8).trans rfl, (Lib.cell_of_heap h 9).trans rfl, (Lib.cell_of_heap h 10).trans rfl, (Lib.cell_of_heap h 11).trans rfl⟩
theorem duo_new (w : World) (A B : Obj) : ((w.alloc A).alloc B).heap[w.heap.size]? = some A ∧ ((w.alloc A).alloc B).heap[w.heap.size + 1]? = some B ∧ Below w.heap.size w ((w.alloc A).alloc B) := by
  have b1 := below1 w A
  have b2 := below1 (w.alloc A) B
  have hz : (w.alloc A).heap.size = w.heap.size + 1 := by simp
  have h := heap_r0 (w.alloc A) B
  rw [hz] at h
  exact ⟨blk_b (heap_r0 w _) b2, h, b1.trans (b2.mono b1.size)⟩
theorem duo_ex (w : World) (A B : Obj) : ∃ W, W = (w.alloc A).alloc B ∧ W.heap[w.heap.size]? = some A ∧ W.heap[w.heap.size + 1]? = some B ∧ Below w.heap.size w W := ⟨_, rfl, duo_new w A B⟩
theorem wp_at {P : Program} {c : Code} {Q : Exit → Act → World → Prop} {a : Act} {W V : World} (h : V = W) (k : c.wp P Q a V) : c.wp P Q a W := h ▸ k
end Go.Proofs.YtaaphipbkpjkjaaGreatDoor
