/-
  An instruction is read: instruction of package tac's reader, where it does not give up.
  A field of an instruction is read: field of package tac's reader, where it does not give up.
  An instruction is read: field at every letter, instruction of package tac's reader, where they do not give up.
-/
import Derived.Test.YtaaphipbkpjkjaaGreatDoorKP
import Derived.Test.YtaaphipbkpjkjaaGreatDoorKF
namespace Go.Proofs.YtaaphipbkpjkjaaGreatDoor
open Go.RowKit Go.Maps
set_option linter.unusedVariables false
set_option linter.unusedSimpArgs false
set_option maxRecDepth 100000
def num64 (s : ByteArray) : Option Int := match numOf s with | some v => if -9223372036854775808 ≤ v ∧ v ≤ 9223372036854775807 then some v else none | none => none
def tmp64 (s : ByteArray) : Option Int := match tmpOf s with | some v => if v ≤ 9223372036854775807 then some v else none | none => none
theorem num64_ok {s : ByteArray} {v : Int} (h : num64 s = some v) : numOf s = some v ∧ -9223372036854775808 ≤ v ∧ v ≤ 9223372036854775807 := by
  unfold num64 at h
  split at h
  · rename_i u hu
    split at h
    · rename_i hr; injection h with h; subst h; exact ⟨hu, hr.1, hr.2⟩
    · cases h
  · cases h
theorem tmp64_ok {s : ByteArray} {v : Int} (h : tmp64 s = some v) : tmpOf s = some v ∧ v ≤ 9223372036854775807 := by
  unfold tmp64 at h
  split at h
  · rename_i u hu
    split at h
    · rename_i hr; injection h with h; subst h; exact ⟨hu, hr⟩
    · cases h
  · cases h
def signedW : ByteArray := ⟨#[115, 105, 103, 110, 101, 100]⟩
/-- A field read: the instruction and the words that are left. -/
def fldR (c : Nat) (x : In) : List ByteArray → Option (In × List ByteArray)
  | [] => if c = 83 then some ({ x with sg := false }, []) else if c = 82 then some (x, []) else none
  | s :: r =>
    if c = 68 then (tmp64 s).map fun n => ({ x with d := n }, r)
    else if c = 65 ∨ c = 82 then (opOf s).map fun a => ({ x with a := a }, r)
    else if c = 66 then (opOf s).map fun a => ({ x with b := a }, r)
    else if c = 78 then (num64 s).map fun n => ({ x with n := n }, r)
    else if c = 79 then (num64 s).map fun n => ({ x with off := n }, r)
    else if c = 87 then (num64 s).map fun n => ({ x with width := n }, r)
    else if c = 83 then (if s = signedW then some ({ x with sg := true }, r) else none)
    else none
def letters8 : List Nat := [68, 65, 82, 66, 78, 79, 87, 83]
/-- What reading a field leaves. -/
def FldP (w w' : World) (rb mb xb : Nat) (ls ws : List ByteArray) (x : In) (s : Value) : Prop :=
  w'.heap[xb]? = some (.cells (inCells x s).toArray TIn (0, 0)) ∧ RdT w' rb mb ls ws ∧ Turned w w' (fun k => k = rb ∨ k = xb)
theorem fldP_put {w w1 w2 : World} {rb mb xb j : Nat} {ls ws : List ByteArray} {x x' : In} {s v : Value} (hx : w1.heap[xb]? = some (.cells (inCells x s).toArray TIn (0, 0))) (hR : RdT w1 rb mb ls ws) (ht : Turned w w1 (fun k => k = rb)) (hw : w2 = w1.setCell ⟨xb, j, none⟩ v)
    (he : (inCells x s).toArray.setIfInBounds j v = (inCells x' s).toArray) : FldP w w2 rb mb xb ls ws x' s := by
  subst hw
  have t1 : Turned w1 (w1.setCell ⟨xb, j, none⟩ v) (fun k => k = xb) := Turned.setCell w1 xb j v rfl
  refine ⟨by rw [← he]; exact heap_setCell hx v, hR.off t1 hx (by decide) (by decide), (ht.mono (fun _ h => Or.inl h)).trans t1 (fun _ _ h => Or.inr h)⟩
theorem fldP_put2 {w w1 w2 : World} {rb mb xb j : Nat} {ls ws : List ByteArray} {x x' : In} {s u v : Value} (hx : w1.heap[xb]? = some (.cells (inCells x s).toArray TIn (0, 0))) (hR : RdT w1 rb mb ls ws) (ht : Turned w w1 (fun k => k = rb)) (hw : w2 = (w1.setCell ⟨xb, j, none⟩ u).setCell ⟨xb, j + 1, none⟩ v)
    (he : ((inCells x s).toArray.setIfInBounds j u).setIfInBounds (j + 1) v = (inCells x' s).toArray) : FldP w w2 rb mb xb ls ws x' s := by
  subst hw
  have t1 : Turned w1 ((w1.setCell ⟨xb, j, none⟩ u).setCell ⟨xb, j + 1, none⟩ v) (fun k => k = xb) := (Turned.setCell w1 xb j u (S := fun k => k = xb) rfl).trans (Turned.setCell _ xb (j + 1) v (S := fun k => k = xb) rfl) (fun _ _ h => h)
  refine ⟨by rw [← he]; exact heap_setCell (heap_setCell hx u) v, hR.off t1 hx (by decide) (by decide), (ht.mono (fun _ h => Or.inl h)).trans t1 (fun _ _ h => Or.inr h)⟩
section
variable {w : World} {rb mb xb : Nat} {ls ws : List ByteArray}
set_option maxHeartbeats 4000000 in
theorem field_68 (hX : Tabs w) (hrb : 10 ≤ rb) {op bin d ak an bk bn n off width : Int} {sg : Bool} {args : List Ar} {sp : Option Addr} {sn sc : Nat} (hx : w.heap[xb]? = some (.cells #[.int .i64 op, .int .i64 bin, .int .i64 d, .int .i64 ak, .int .u32 an, .int .i64 bk, .int .u32 bn, .int .i64 n, .int .i64 off, .int .i64 width, .bool sg, .slice sp sn sc] TIn (0, 0))) (hxr : xb ≠ rb) {s : ByteArray} {r : List ByteArray} (hR : RdT w rb mb ls (s :: r)) {v : Int} (h : tmp64 s = some v) :
    Calls Tryz.prog 143 #[.pointer (some ⟨rb, 0, none⟩), .pointer (some ⟨xb, 0, none⟩), .int .i32 68] w fun e w' => e = .returned (.tuple #[]) ∧ FldP w w' rb mb xb ls r ⟨op, bin, v, ⟨ak, an⟩, ⟨bk, bn⟩, n, off, width, sg, args⟩ (.slice sp sn sc) := by
  have cC := temp2_c hX hrb hR (tmp64_ok h).1 (tmp64_ok h).2
  have HXX : Hid (_ = _) := hx
  clear hX hR h hx
  go_enter Tryz.func143, Tryz.ntmps143
  go_wp2_with (first | (go_at_call 158; refine cC.mono ?_; rintro e w1 ⟨rfl, hR1, hT1⟩; have hx1 := blk_t HXX.out hT1 hxr; have z2 := (Lib.cell_of_heap hx1 2).trans rfl; have y2 := frozen_of hx1 2; have HX1 : Hid (_ = _) := hx1; have HR1 : Hid (RdT w1 rb mb ls r) := hR1; have HT1 : Hid (Turned w w1 (fun k => k = rb)) := hT1; clear hR1 hT1 cC hx1) | fail)
  go_end0
  exact ⟨rfl, fldP_put (x := ⟨op, bin, d, ⟨ak, an⟩, ⟨bk, bn⟩, n, off, width, sg, args⟩) (j := 2) HX1.out HR1.out HT1.out rfl rfl⟩
set_option maxHeartbeats 4000000 in
theorem field_78 (hX : Tabs w) (hrb : 10 ≤ rb) {op bin d ak an bk bn n off width : Int} {sg : Bool} {args : List Ar} {sp : Option Addr} {sn sc : Nat} (hx : w.heap[xb]? = some (.cells #[.int .i64 op, .int .i64 bin, .int .i64 d, .int .i64 ak, .int .u32 an, .int .i64 bk, .int .u32 bn, .int .i64 n, .int .i64 off, .int .i64 width, .bool sg, .slice sp sn sc] TIn (0, 0))) (hxr : xb ≠ rb) {s : ByteArray} {r : List ByteArray} (hR : RdT w rb mb ls (s :: r)) {v : Int} (h : num64 s = some v) :
    Calls Tryz.prog 143 #[.pointer (some ⟨rb, 0, none⟩), .pointer (some ⟨xb, 0, none⟩), .int .i32 78] w fun e w' => e = .returned (.tuple #[]) ∧ FldP w w' rb mb xb ls r ⟨op, bin, d, ⟨ak, an⟩, ⟨bk, bn⟩, v, off, width, sg, args⟩ (.slice sp sn sc) := by
  have cC := number_c hX hrb hR (num64_ok h).1 (num64_ok h).2.1 (num64_ok h).2.2
  have HXX : Hid (_ = _) := hx
  clear hX hR h hx
  go_enter Tryz.func143, Tryz.ntmps143
  go_wp2_with (first | (go_at_call 103; refine cC.mono ?_; rintro e w1 ⟨rfl, hR1, hT1⟩; have hx1 := blk_t HXX.out hT1 hxr; have z7 := (Lib.cell_of_heap hx1 7).trans rfl; have y7 := frozen_of hx1 7; have HX1 : Hid (_ = _) := hx1; have HR1 : Hid (RdT w1 rb mb ls r) := hR1; have HT1 : Hid (Turned w w1 (fun k => k = rb)) := hT1; clear hR1 hT1 cC hx1) | fail)
  go_end0
  exact ⟨rfl, fldP_put (x := ⟨op, bin, d, ⟨ak, an⟩, ⟨bk, bn⟩, n, off, width, sg, args⟩) (j := 7) HX1.out HR1.out HT1.out rfl rfl⟩
set_option maxHeartbeats 4000000 in
theorem field_79 (hX : Tabs w) (hrb : 10 ≤ rb) {op bin d ak an bk bn n off width : Int} {sg : Bool} {args : List Ar} {sp : Option Addr} {sn sc : Nat} (hx : w.heap[xb]? = some (.cells #[.int .i64 op, .int .i64 bin, .int .i64 d, .int .i64 ak, .int .u32 an, .int .i64 bk, .int .u32 bn, .int .i64 n, .int .i64 off, .int .i64 width, .bool sg, .slice sp sn sc] TIn (0, 0))) (hxr : xb ≠ rb) {s : ByteArray} {r : List ByteArray} (hR : RdT w rb mb ls (s :: r)) {v : Int} (h : num64 s = some v) :
    Calls Tryz.prog 143 #[.pointer (some ⟨rb, 0, none⟩), .pointer (some ⟨xb, 0, none⟩), .int .i32 79] w fun e w' => e = .returned (.tuple #[]) ∧ FldP w w' rb mb xb ls r ⟨op, bin, d, ⟨ak, an⟩, ⟨bk, bn⟩, n, v, width, sg, args⟩ (.slice sp sn sc) := by
  have cC := number_c hX hrb hR (num64_ok h).1 (num64_ok h).2.1 (num64_ok h).2.2
  have HXX : Hid (_ = _) := hx
  clear hX hR h hx
  go_enter Tryz.func143, Tryz.ntmps143
  go_wp2_with (first | (go_at_call 103; refine cC.mono ?_; rintro e w1 ⟨rfl, hR1, hT1⟩; have hx1 := blk_t HXX.out hT1 hxr; have z8 := (Lib.cell_of_heap hx1 8).trans rfl; have y8 := frozen_of hx1 8; have HX1 : Hid (_ = _) := hx1; have HR1 : Hid (RdT w1 rb mb ls r) := hR1; have HT1 : Hid (Turned w w1 (fun k => k = rb)) := hT1; clear hR1 hT1 cC hx1) | fail)
  go_end0
  exact ⟨rfl, fldP_put (x := ⟨op, bin, d, ⟨ak, an⟩, ⟨bk, bn⟩, n, off, width, sg, args⟩) (j := 8) HX1.out HR1.out HT1.out rfl rfl⟩
set_option maxHeartbeats 4000000 in
theorem field_87 (hX : Tabs w) (hrb : 10 ≤ rb) {op bin d ak an bk bn n off width : Int} {sg : Bool} {args : List Ar} {sp : Option Addr} {sn sc : Nat} (hx : w.heap[xb]? = some (.cells #[.int .i64 op, .int .i64 bin, .int .i64 d, .int .i64 ak, .int .u32 an, .int .i64 bk, .int .u32 bn, .int .i64 n, .int .i64 off, .int .i64 width, .bool sg, .slice sp sn sc] TIn (0, 0))) (hxr : xb ≠ rb) {s : ByteArray} {r : List ByteArray} (hR : RdT w rb mb ls (s :: r)) {v : Int} (h : num64 s = some v) :
    Calls Tryz.prog 143 #[.pointer (some ⟨rb, 0, none⟩), .pointer (some ⟨xb, 0, none⟩), .int .i32 87] w fun e w' => e = .returned (.tuple #[]) ∧ FldP w w' rb mb xb ls r ⟨op, bin, d, ⟨ak, an⟩, ⟨bk, bn⟩, n, off, v, sg, args⟩ (.slice sp sn sc) := by
  have cC := number_c hX hrb hR (num64_ok h).1 (num64_ok h).2.1 (num64_ok h).2.2
  have HXX : Hid (_ = _) := hx
  clear hX hR h hx
  go_enter Tryz.func143, Tryz.ntmps143
  go_wp2_with (first | (go_at_call 103; refine cC.mono ?_; rintro e w1 ⟨rfl, hR1, hT1⟩; have hx1 := blk_t HXX.out hT1 hxr; have z9 := (Lib.cell_of_heap hx1 9).trans rfl; have y9 := frozen_of hx1 9; have HX1 : Hid (_ = _) := hx1; have HR1 : Hid (RdT w1 rb mb ls r) := hR1; have HT1 : Hid (Turned w w1 (fun k => k = rb)) := hT1; clear hR1 hT1 cC hx1) | fail)
  go_end0
  exact ⟨rfl, fldP_put (x := ⟨op, bin, d, ⟨ak, an⟩, ⟨bk, bn⟩, n, off, width, sg, args⟩) (j := 9) HX1.out HR1.out HT1.out rfl rfl⟩
set_option maxHeartbeats 4000000 in
theorem field_65 (hX : Tabs w) (hrb : 10 ≤ rb) {op bin d ak an bk bn n off width : Int} {sg : Bool} {args : List Ar} {sp : Option Addr} {sn sc : Nat} (hx : w.heap[xb]? = some (.cells #[.int .i64 op, .int .i64 bin, .int .i64 d, .int .i64 ak, .int .u32 an, .int .i64 bk, .int .u32 bn, .int .i64 n, .int .i64 off, .int .i64 width, .bool sg, .slice sp sn sc] TIn (0, 0))) (hxr : xb ≠ rb) {s : ByteArray} {r : List ByteArray} (hR : RdT w rb mb ls (s :: r)) {vk vn : Int} (h : opOf s = some ⟨vk, vn⟩) :
    Calls Tryz.prog 143 #[.pointer (some ⟨rb, 0, none⟩), .pointer (some ⟨xb, 0, none⟩), .int .i32 65] w fun e w' => e = .returned (.tuple #[]) ∧ FldP w w' rb mb xb ls r ⟨op, bin, d, ⟨vk, vn⟩, ⟨bk, bn⟩, n, off, width, sg, args⟩ (.slice sp sn sc) := by
  have cC := operandR_c hX hrb hR h
  unfold arV at cC
  have HXX : Hid (_ = _) := hx
  clear hX hR h hx
  go_enter Tryz.func143, Tryz.ntmps143
  go_wp2_with (first | (go_at_call 160; refine cC.mono ?_; rintro e w1 ⟨rfl, hR1, hT1⟩; have hx1 := blk_t HXX.out hT1 hxr; have z3 := (Lib.cell_of_heap hx1 3).trans rfl; have y3 := frozen_of hx1 3; have z4 := (Lib.cell_of_heap hx1 4).trans rfl; have y4 := frozen_of hx1 4; have HX1 : Hid (_ = _) := hx1; have HR1 : Hid (RdT w1 rb mb ls r) := hR1; have HT1 : Hid (Turned w w1 (fun k => k = rb)) := hT1; clear hR1 hT1 cC hx1) | fail)
  go_end0
  exact ⟨rfl, fldP_put2 (x := ⟨op, bin, d, ⟨ak, an⟩, ⟨bk, bn⟩, n, off, width, sg, args⟩) (j := 3) HX1.out HR1.out HT1.out rfl rfl⟩
set_option maxHeartbeats 4000000 in
theorem field_82 (hX : Tabs w) (hrb : 10 ≤ rb) {op bin d ak an bk bn n off width : Int} {sg : Bool} {args : List Ar} {sp : Option Addr} {sn sc : Nat} (hx : w.heap[xb]? = some (.cells #[.int .i64 op, .int .i64 bin, .int .i64 d, .int .i64 ak, .int .u32 an, .int .i64 bk, .int .u32 bn, .int .i64 n, .int .i64 off, .int .i64 width, .bool sg, .slice sp sn sc] TIn (0, 0))) (hxr : xb ≠ rb) {s : ByteArray} {r : List ByteArray} (hR : RdT w rb mb ls (s :: r)) {vk vn : Int} (h : opOf s = some ⟨vk, vn⟩) :
    Calls Tryz.prog 143 #[.pointer (some ⟨rb, 0, none⟩), .pointer (some ⟨xb, 0, none⟩), .int .i32 82] w fun e w' => e = .returned (.tuple #[]) ∧ FldP w w' rb mb xb ls r ⟨op, bin, d, ⟨vk, vn⟩, ⟨bk, bn⟩, n, off, width, sg, args⟩ (.slice sp sn sc) := by
  have cC := operandR_c hX hrb hR h
  unfold arV at cC
  have HXX : Hid (_ = _) := hx
  have k1 : ∃ wp wc, w.cell? ⟨rb, 1, none⟩ = some (.slice wp (r.length + 1) wc) := by obtain ⟨⟨lp, lc, wp, wc, hg, _⟩, _⟩ := hR; exact ⟨wp, wc, (Lib.cell_of_heap hg 1).trans rfl⟩
  obtain ⟨wp, wc, k1⟩ := k1
  have d1 : decide ((0 : Int) < ((r.length : Int) + 1)) = true := by first | (simp; omega) | simp
  clear hX hR h hx
  go_enter Tryz.func143, Tryz.ntmps143
  go_wp2_with (first | (go_at_call 160; refine cC.mono ?_; rintro e w1 ⟨rfl, hR1, hT1⟩; have hx1 := blk_t HXX.out hT1 hxr; have z3 := (Lib.cell_of_heap hx1 3).trans rfl; have y3 := frozen_of hx1 3; have z4 := (Lib.cell_of_heap hx1 4).trans rfl; have y4 := frozen_of hx1 4; have HX1 : Hid (_ = _) := hx1; have HR1 : Hid (RdT w1 rb mb ls r) := hR1; have HT1 : Hid (Turned w w1 (fun k => k = rb)) := hT1; clear hR1 hT1 cC hx1) | fail)
  go_end0
  exact ⟨rfl, fldP_put2 (x := ⟨op, bin, d, ⟨ak, an⟩, ⟨bk, bn⟩, n, off, width, sg, args⟩) (j := 3) HX1.out HR1.out HT1.out rfl rfl⟩
set_option maxHeartbeats 4000000 in
theorem field_66 (hX : Tabs w) (hrb : 10 ≤ rb) {op bin d ak an bk bn n off width : Int} {sg : Bool} {args : List Ar} {sp : Option Addr} {sn sc : Nat} (hx : w.heap[xb]? = some (.cells #[.int .i64 op, .int .i64 bin, .int .i64 d, .int .i64 ak, .int .u32 an, .int .i64 bk, .int .u32 bn, .int .i64 n, .int .i64 off, .int .i64 width, .bool sg, .slice sp sn sc] TIn (0, 0))) (hxr : xb ≠ rb) {s : ByteArray} {r : List ByteArray} (hR : RdT w rb mb ls (s :: r)) {vk vn : Int} (h : opOf s = some ⟨vk, vn⟩) :
    Calls Tryz.prog 143 #[.pointer (some ⟨rb, 0, none⟩), .pointer (some ⟨xb, 0, none⟩), .int .i32 66] w fun e w' => e = .returned (.tuple #[]) ∧ FldP w w' rb mb xb ls r ⟨op, bin, d, ⟨ak, an⟩, ⟨vk, vn⟩, n, off, width, sg, args⟩ (.slice sp sn sc) := by
  have cC := operandR_c hX hrb hR h
  unfold arV at cC
  have HXX : Hid (_ = _) := hx
  clear hX hR h hx
  go_enter Tryz.func143, Tryz.ntmps143
  go_wp2_with (first | (go_at_call 160; refine cC.mono ?_; rintro e w1 ⟨rfl, hR1, hT1⟩; have hx1 := blk_t HXX.out hT1 hxr; have z5 := (Lib.cell_of_heap hx1 5).trans rfl; have y5 := frozen_of hx1 5; have z6 := (Lib.cell_of_heap hx1 6).trans rfl; have y6 := frozen_of hx1 6; have HX1 : Hid (_ = _) := hx1; have HR1 : Hid (RdT w1 rb mb ls r) := hR1; have HT1 : Hid (Turned w w1 (fun k => k = rb)) := hT1; clear hR1 hT1 cC hx1) | fail)
  go_end0
  exact ⟨rfl, fldP_put2 (x := ⟨op, bin, d, ⟨ak, an⟩, ⟨bk, bn⟩, n, off, width, sg, args⟩) (j := 5) HX1.out HR1.out HT1.out rfl rfl⟩
set_option maxHeartbeats 4000000 in
theorem field_83 (hX : Tabs w) (hrb : 10 ≤ rb) {op bin d ak an bk bn n off width : Int} {sg : Bool} {args : List Ar} {sp : Option Addr} {sn sc : Nat} (hx : w.heap[xb]? = some (.cells #[.int .i64 op, .int .i64 bin, .int .i64 d, .int .i64 ak, .int .u32 an, .int .i64 bk, .int .u32 bn, .int .i64 n, .int .i64 off, .int .i64 width, .bool sg, .slice sp sn sc] TIn (0, 0))) (hxr : xb ≠ rb) {s : ByteArray} {r : List ByteArray} (hR : RdT w rb mb ls (s :: r)) (h : s = signedW) :
    Calls Tryz.prog 143 #[.pointer (some ⟨rb, 0, none⟩), .pointer (some ⟨xb, 0, none⟩), .int .i32 83] w fun e w' => e = .returned (.tuple #[]) ∧ FldP w w' rb mb xb ls r ⟨op, bin, d, ⟨ak, an⟩, ⟨bk, bn⟩, n, off, width, true, args⟩ (.slice sp sn sc) := by
  have cC := flag_yes hR h
  unfold signedW at cC
  have HXX : Hid (_ = _) := hx
  clear hX hR h hx
  go_enter Tryz.func143, Tryz.ntmps143
  go_wp2_with (first | (go_at_call 121; refine cC.mono ?_; rintro e w1 ⟨rfl, hR1, hT1⟩; have hx1 := blk_t HXX.out hT1 hxr; have z10 := (Lib.cell_of_heap hx1 10).trans rfl; have y10 := frozen_of hx1 10; have HX1 : Hid (_ = _) := hx1; have HR1 : Hid (RdT w1 rb mb ls r) := hR1; have HT1 : Hid (Turned w w1 (fun k => k = rb)) := hT1; clear hR1 hT1 cC hx1) | fail)
  go_end0
  exact ⟨rfl, fldP_put (x := ⟨op, bin, d, ⟨ak, an⟩, ⟨bk, bn⟩, n, off, width, sg, args⟩) (j := 10) HX1.out HR1.out HT1.out rfl rfl⟩
end
end Go.Proofs.YtaaphipbkpjkjaaGreatDoor
namespace Go.Proofs.YtaaphipbkpjkjaaGreatDoor
open Go.RowKit Go.Maps
set_option linter.unusedVariables false
set_option linter.unusedSimpArgs false
set_option maxRecDepth 100000
theorem fldR_nil (c : Nat) (x : In) : fldR c x [] = if c = 83 then some ({ x with sg := false }, []) else if c = 82 then some (x, []) else none := rfl
theorem fldR_cons (c : Nat) (x : In) (s : ByteArray) (r : List ByteArray) : fldR c x (s :: r) =
    if c = 68 then (tmp64 s).map fun n => ({ x with d := n }, r)
    else if c = 65 ∨ c = 82 then (opOf s).map fun a => ({ x with a := a }, r)
    else if c = 66 then (opOf s).map fun a => ({ x with b := a }, r)
    else if c = 78 then (num64 s).map fun n => ({ x with n := n }, r)
    else if c = 79 then (num64 s).map fun n => ({ x with off := n }, r)
    else if c = 87 then (num64 s).map fun n => ({ x with width := n }, r)
    else if c = 83 then (if s = signedW then some ({ x with sg := true }, r) else none)
    else none := rfl
section
variable {w : World} {rb mb xb : Nat} {ls ws : List ByteArray}
set_option maxHeartbeats 4000000 in
theorem field_83n {x : In} {sp : Option Addr} {sn sc : Nat} (hx : w.heap[xb]? = some (.cells (inCells x (.slice sp sn sc)).toArray TIn (0, 0))) (hxr : xb ≠ rb) (hR : RdT w rb mb ls []) :
    Calls Tryz.prog 143 #[.pointer (some ⟨rb, 0, none⟩), .pointer (some ⟨xb, 0, none⟩), .int .i32 83] w fun e w' => e = .returned (.tuple #[]) ∧ FldP w w' rb mb xb ls [] { x with sg := false } (.slice sp sn sc) := by
  obtain ⟨op, bin, d, ⟨ak, an⟩, ⟨bk, bn⟩, n, off, width, sg, args⟩ := x
  simp only [inCells] at hx
  have cC := flag_none hR ⟨#[115, 105, 103, 110, 101, 100]⟩
  have HR1 : Hid (RdT w rb mb ls []) := hR
  have HX1 : Hid (_ = _) := hx
  have z0 := (Lib.cell_of_heap hx 10).trans rfl
  have y0 := frozen_of hx 10
  clear hR hx
  go_enter Tryz.func143, Tryz.ntmps143
  go_wp2_with (first | (go_at_call 121; refine cC.mono ?_; rintro e w' ⟨rfl, hw⟩; rw [hw]; clear hw w' cC) | fail)
  go_end0
  exact ⟨rfl, fldP_put (x := ⟨op, bin, d, ⟨ak, an⟩, ⟨bk, bn⟩, n, off, width, sg, args⟩) (j := 10) HX1.out HR1.out (Turned.refl _ _) rfl rfl⟩
set_option maxHeartbeats 4000000 in
theorem field_82n {x : In} {sp : Option Addr} {sn sc : Nat} (hx : w.heap[xb]? = some (.cells (inCells x (.slice sp sn sc)).toArray TIn (0, 0))) (hR : RdT w rb mb ls []) :
    Calls Tryz.prog 143 #[.pointer (some ⟨rb, 0, none⟩), .pointer (some ⟨xb, 0, none⟩), .int .i32 82] w fun e w' => e = .returned (.tuple #[]) ∧ FldP w w' rb mb xb ls [] x (.slice sp sn sc) := by
  have k1 : ∃ wp wc, w.cell? ⟨rb, 1, none⟩ = some (.slice wp 0 wc) := by obtain ⟨⟨lp, lc, wp, wc, hg, _⟩, _⟩ := hR; exact ⟨wp, wc, (Lib.cell_of_heap hg 1).trans rfl⟩
  obtain ⟨wp, wc, k1⟩ := k1
  have HR1 : Hid (RdT w rb mb ls []) := hR
  have HX1 : Hid (w.heap[xb]? = some (.cells (inCells x (.slice sp sn sc)).toArray TIn (0, 0))) := hx
  clear hR hx
  go_enter Tryz.func143, Tryz.ntmps143
  go_wp2
  go_end0
  exact ⟨rfl, HX1.out, HR1.out, Turned.refl _ _⟩
theorem field_c (hX : Tabs w) (hrb : 10 ≤ rb) {x x' : In} {sp : Option Addr} {sn sc : Nat} (hx : w.heap[xb]? = some (.cells (inCells x (.slice sp sn sc)).toArray TIn (0, 0))) (hxr : xb ≠ rb) (hR : RdT w rb mb ls ws) {ws' : List ByteArray} (c : Nat) (hc : c ∈ letters8) (h : fldR c x ws = some (x', ws')) :
    Calls Tryz.prog 143 #[.pointer (some ⟨rb, 0, none⟩), .pointer (some ⟨xb, 0, none⟩), .int .i32 (c : Int)] w fun e w' => e = .returned (.tuple #[]) ∧ FldP w w' rb mb xb ls ws' x' (.slice sp sn sc) := by
  cases ws with
  | nil =>
    simp only [letters8, List.mem_cons, List.not_mem_nil, or_false] at hc
    rw [fldR_nil] at h
    split at h
    · rename_i hc83
      subst hc83
      injection h with h
      injection h with h1 h2
      subst h1 h2
      exact field_83n hx hxr hR
    · split at h
      · rename_i hc82
        subst hc82
        injection h with h
        injection h with h1 h2
        subst h1 h2
        exact field_82n hx hR
      · cases h
  | cons s r =>
    obtain ⟨op, bin, d, ⟨ak, an⟩, ⟨bk, bn⟩, n, off, width, sg, args⟩ := x
    have some_map : ∀ {α β : Type} {o : Option α} {f : α → β} {y : β}, o.map f = some y → ∃ a, o = some a ∧ f a = y := fun h => Option.map_eq_some_iff.1 h
    simp only [letters8, List.mem_cons, List.not_mem_nil, or_false] at hc
    rcases hc with rfl | rfl | rfl | rfl | rfl | rfl | rfl | rfl
    · obtain ⟨v, hv, e⟩ := some_map (show (tmp64 s).map _ = some (x', ws') from h)
      injection e with e1 e2; subst e1 e2
      exact field_68 hX hrb hx hxr hR hv
    · obtain ⟨⟨vk, vn⟩, hv, e⟩ := some_map (show (opOf s).map _ = some (x', ws') from h)
      injection e with e1 e2; subst e1 e2
      exact field_65 hX hrb hx hxr hR hv
    · obtain ⟨⟨vk, vn⟩, hv, e⟩ := some_map (show (opOf s).map _ = some (x', ws') from h)
      injection e with e1 e2; subst e1 e2
      exact field_82 hX hrb hx hxr hR hv
    · obtain ⟨⟨vk, vn⟩, hv, e⟩ := some_map (show (opOf s).map _ = some (x', ws') from h)
      injection e with e1 e2; subst e1 e2
      exact field_66 hX hrb hx hxr hR hv
    · obtain ⟨v, hv, e⟩ := some_map (show (num64 s).map _ = some (x', ws') from h)
      injection e with e1 e2; subst e1 e2
      exact field_78 hX hrb hx hxr hR hv
    · obtain ⟨v, hv, e⟩ := some_map (show (num64 s).map _ = some (x', ws') from h)
      injection e with e1 e2; subst e1 e2
      exact field_79 hX hrb hx hxr hR hv
    · obtain ⟨v, hv, e⟩ := some_map (show (num64 s).map _ = some (x', ws') from h)
      injection e with e1 e2; subst e1 e2
      exact field_87 hX hrb hx hxr hR hv
    · have h' : (if s = signedW then some (({ op := op, bin := bin, d := d, a := ⟨ak, an⟩, b := ⟨bk, bn⟩, n := n, off := off, width := width, sg := true, args := args } : In), r) else none) = some (x', ws') := h
      split at h'
      · rename_i hs
        injection h' with e
        injection e with e1 e2; subst e1 e2
        exact field_83 hX hrb hx hxr hR hs
      · cases h'
/-- The fields of a line, one behind the other. -/
def fldsR : List Nat → In → List ByteArray → Option (In × List ByteArray)
  | [], x, ws => some (x, ws)
  | c :: l, x, ws => (fldR c x ws).bind fun p => fldsR l p.1 p.2
theorem fldsR_snoc : ∀ (l : List Nat) (c : Nat) (x : In) (ws : List ByteArray), fldsR (l ++ [c]) x ws = (fldsR l x ws).bind fun p => fldR c p.1 p.2
  | [], c, x, ws => by
    show (fldR c x ws).bind (fun p => some (p.1, p.2)) = fldR c x ws
    cases fldR c x ws <;> rfl
  | a :: l, c, x, ws => by
    simp only [List.cons_append, fldsR, Option.bind_assoc]
    congr 1
    funext p
    exact fldsR_snoc l c p.1 p.2
theorem fldR_args {c : Nat} {x x' : In} {ws ws' : List ByteArray} (h : fldR c x ws = some (x', ws')) : x'.args = x.args ∧ x'.op = x.op := by
  cases ws with
  | nil =>
    rw [fldR_nil] at h
    split at h
    · injection h with h; injection h with h1 h2; subst h1; exact ⟨rfl, rfl⟩
    · split at h
      · injection h with h; injection h with h1 h2; subst h1; exact ⟨rfl, rfl⟩
      · cases h
  | cons s r =>
    rw [fldR_cons] at h
    repeat' split at h
    all_goals first
      | (obtain ⟨v, hv, e⟩ := Option.map_eq_some_iff.1 h; injection e with e1 e2; subst e1; exact ⟨rfl, rfl⟩)
      | (injection h with e; injection e with e1 e2; subst e1; exact ⟨rfl, rfl⟩)
      | cases h
theorem fldsR_take {l : List Nat} {x x' : In} {ws ws' : List ByteArray} (h : fldsR l x ws = some (x', ws')) (j : Nat) : ∃ p, fldsR (l.take j) x ws = some p := by
  have : ∀ (a b : List Nat) (x : In) (ws : List ByteArray), fldsR (a ++ b) x ws = (fldsR a x ws).bind fun p => fldsR b p.1 p.2 := by
    intro a
    induction a with
    | nil => intro b x ws; simp [fldsR]
    | cons c a ih => intro b x ws; simp only [List.cons_append, fldsR, Option.bind_assoc, ih]
  rw [← List.take_append_drop j l, this] at h
  cases e : fldsR (l.take j) x ws with
  | none => rw [e] at h; cases h
  | some p => exact ⟨p, rfl⟩
end
end Go.Proofs.YtaaphipbkpjkjaaGreatDoor
namespace Go.Proofs.YtaaphipbkpjkjaaGreatDoor
open Go.RowKit Go.Maps
set_option linter.unusedVariables false
set_option linter.unusedSimpArgs false
set_option maxRecDepth 100000
theorem FormsIn.turned {w w' : World} {rb : Nat} (h : FormsIn w) (ht : Turned w w' (fun k => k = rb)) (hr : 10 ≤ rb) : FormsIn w' := fun i s hi => by
  have hlt := World.block_lt_of_cell? w _ (h i s hi)
  rw [← h i s hi]
  unfold World.cell?
  rw [ht.block 0 hlt (by omega)]
section
variable {w : World} {rb mb : Nat} {ls ws : List ByteArray}
set_option maxHeartbeats 8000000 in
theorem instruction_c (hX : Tabs w) (hF : FormsIn w) (hrb : 10 ≤ rb) {x x' : In} {sp : Option Addr} {sn sc : Nat} (hR : RdT w rb mb ls ws) {k : Nat} (hk : x.op = k) {l : List Nat} (hl : fieldTab[k]? = some l) (h8 : ∀ c ∈ l, c ∈ letters8) (h : fldsR l x ws = some (x', [])) :
    Calls Tryz.prog 122 #[.pointer (some ⟨rb, 0, none⟩), .agg (inCells x (.slice sp sn sc)).toArray] w fun e w' => e = .returned (.agg (inCells x' (.slice sp sn sc)).toArray) ∧ RdT w' rb mb ls [] ∧ Turned w w' (fun k => k = rb) := by
  have hk15 : k < 15 := (List.getElem?_eq_some_iff.1 hl).1
  obtain ⟨_, hbyt⟩ := fieldTab_ok l (List.mem_of_getElem? hl)
  have hrl : rb < w.heap.size := by obtain ⟨⟨_, _, _, _, hg, _⟩, _⟩ := hR; exact lt_of_heap hg
  have hw0 : 0 < w.heap.size := by omega
  have b1 := below1 w (.cells (inCells x (.slice sp sn sc)).toArray TIn)
  have N1 := heap_r0 w (.cells (inCells x (.slice sp sn sc)).toArray TIn)
  have hz1 : (w.alloc (.cells (inCells x (.slice sp sn sc)).toArray TIn)).heap.size = w.heap.size + 1 := by simp
  have b2 := below1 (w.alloc (.cells (inCells x (.slice sp sn sc)).toArray TIn)) (.cells #[.int .i64 0, .int .i64 0, .int .i64 0, .int .i64 0, .int .u32 0, .int .i64 0, .int .u32 0, .int .i64 0, .int .i64 0, .int .i64 0, .bool false, .slice none 0 0] TIn)
  have N2 := heap_r0 (w.alloc (.cells (inCells x (.slice sp sn sc)).toArray TIn)) (.cells #[.int .i64 0, .int .i64 0, .int .i64 0, .int .i64 0, .int .u32 0, .int .i64 0, .int .u32 0, .int .i64 0, .int .i64 0, .int .i64 0, .bool false, .slice none 0 0] TIn)
  rw [hz1] at N2
  have N12 := blk_b N1 b2
  have hb12 := b1.trans (b2.mono b1.size)
  have hz2 : ((w.alloc (.cells (inCells x (.slice sp sn sc)).toArray TIn)).alloc (.cells #[.int .i64 0, .int .i64 0, .int .i64 0, .int .i64 0, .int .u32 0, .int .i64 0, .int .u32 0, .int .i64 0, .int .i64 0, .int .i64 0, .bool false, .slice none 0 0] TIn)).heap.size = w.heap.size + 2 := by simp
  have HX : Hid (Tabs w) := hX
  have HR0 : Hid (RdT w rb mb ls ws) := hR
  have HBYT : Hid (∀ k (h : k < (bytesOf l).size), k < l.length ∧ ((bytesOf l)[k]'h).toNat = l.getD k 0) := hbyt
  have hsz : (bytesOf l).size = l.length := by simp [bytesOf, ByteArray.size]
  have f0 := (hb12.cell (p := ⟨0, k * 2 + 1, none⟩) hw0).trans (hF k l hl)
  have c0 := (Lib.cell_of_heap N12 0).trans (show (inCells x (.slice sp sn sc)).toArray[0]? = some (.int .i64 (k : Int)) by rw [← hk]; rfl)
  have H8 : Hid (∀ c ∈ l, c ∈ letters8) := h8
  have HFL : Hid (fldsR l x ws = some (x', [])) := h
  have HB12 : Hid (Below w.heap.size w ((w.alloc (.cells (inCells x (.slice sp sn sc)).toArray TIn)).alloc (.cells #[.int .i64 0, .int .i64 0, .int .i64 0, .int .i64 0, .int .u32 0, .int .i64 0, .int .u32 0, .int .i64 0, .int .i64 0, .int .i64 0, .bool false, .slice none 0 0] TIn))) := hb12
  have HN12 : Hid (_ = _) := N12
  have HN2 : Hid (_ = _) := N2
  clear b1 b2 N1 N2 N12 hb12 hbyt h8 h hX hF hR hl hk hz1
  go_enter Tryz.func122, Tryz.ntmps122
  go_upto_region 1 with (fail)
  refine (?_ : Code.wp _ _ _ _ ((w.alloc (.cells (inCells x (.slice sp sn sc)).toArray TIn)).alloc (.cells #[.int .i64 0, .int .i64 0, .int .i64 0, .int .i64 0, .int .u32 0, .int .i64 0, .int .u32 0, .int .i64 0, .int .i64 0, .int .i64 0, .bool false, .slice none 0 0] TIn)))
  generalize (w.alloc (.cells (inCells x (.slice sp sn sc)).toArray TIn)).alloc (.cells #[.int .i64 0, .int .i64 0, .int .i64 0, .int .i64 0, .int .u32 0, .int .i64 0, .int .u32 0, .int .i64 0, .int .i64 0, .int .i64 0, .bool false, .slice none 0 0] TIn) = W1 at *
  go_wp2
  have HBI : Hid (Below w.heap.size w (W1.iter (bytesOf l) 0)) := HB12.out.trans ((below1 W1 _).mono HB12.out.size)
  have HI0 : Hid ((W1.iter (bytesOf l) 0).heap[w.heap.size + 2]? = some (.stringIter (bytesOf l) 0)) := by rw [← hz2]; exact World.iter_heap W1 _ 0
  have HX0 : Hid ((W1.iter (bytesOf l) 0).heap[w.heap.size]? = some (.cells (inCells x (.slice sp sn sc)).toArray TIn (0, 0))) := blk_b HN12.out (below1 W1 _)
  have HZ0 : Hid ((W1.iter (bytesOf l) 0).heap[w.heap.size + 1]? = some (.cells #[.int .i64 0, .int .i64 0, .int .i64 0, .int .i64 0, .int .u32 0, .int .i64 0, .int .u32 0, .int .i64 0, .int .i64 0, .int .i64 0, .bool false, .slice none 0 0] TIn (0, 0))) := blk_b HN2.out (below1 W1 _)
  generalize W1.iter (bytesOf l) 0 = W2 at *
  clear HB12 HN12 HN2 c0 f0 hz2
  go_loopw [6] (fun v6 wr => ∃ (j : Nat) (y : In) (vs : List ByteArray), j ≤ l.length ∧ Hid (fldsR (l.take j) x ws = some (y, vs)) ∧ Hid (wr.heap[w.heap.size + 2]? = some (.stringIter (bytesOf l) j)) ∧ Hid (wr.heap[w.heap.size]? = some (.cells (inCells y (.slice sp sn sc)).toArray TIn (0, 0))) ∧ Hid (wr.heap[w.heap.size + 1]? = some (.cells #[.int .i64 0, .int .i64 0, .int .i64 0, .int .i64 0, .int .u32 0, .int .i64 0, .int .u32 0, .int .i64 0, .int .i64 0, .int .i64 0, .bool false, .slice none 0 0] TIn (0, 0))) ∧ Hid (RdT wr rb mb ls vs) ∧ Hid (Turned w wr (fun k => k = rb))) (fun _ wr => l.length - wr.iterPos (w.heap.size + 2))
  case atStart => exact ⟨0, x, ws, Nat.zero_le _, rfl, HI0, HX0, HZ0, HR0.out.below HBI.out, Turned.of_below HBI.out _⟩
  case round =>
    obtain ⟨j, y, vs, hj, HFJ, HI, HG, HZ, HRJ, HTJ⟩ := hrel
    by_cases hlt : j < l.length
    · have hjs : j < (bytesOf l).size := by omega
      obtain ⟨_, hcj⟩ := HBYT.out j hjs
      obtain ⟨c, hc⟩ : ∃ c, l[j]? = some c := ⟨_, List.getElem?_eq_getElem hlt⟩
      have hcd : l.getD j 0 = c := by simp [List.getD, hc]
      have hcl := H8.out c (List.mem_of_getElem? hc)
      have hc128 : c < 128 := by simp only [letters8, List.mem_cons, List.not_mem_nil, or_false] at hcl; omega
      have hnx := next_at HI.out hjs (by rw [hcj, hcd]; exact hc128)
      rw [hcj, hcd] at hnx
      have T1 := setIter_turned wr (w.heap.size + 2) (bytesOf l) (j + 1)
      have I1 := setIter_at (s := bytesOf l) (p := j + 1) (lt_of_heap HI.out)
      obtain ⟨p, hp⟩ := fldsR_take HFL.out (j + 1)
      have hfr : fldR c y vs = some p := by
        rw [take_succ hc, fldsR_snoc, HFJ.out] at hp
        exact hp
      obtain ⟨y2, vs2⟩ := p
      have hrr : RdT (World.setIter wr (w.heap.size + 2) (bytesOf l) (j + 1)) rb mb ls vs := by
        obtain ⟨⟨lp, lc, wp, wc, hg, hll, hw⟩, hm, h5, h6⟩ := HRJ.out
        have sv : ∀ {p : Option Addr} {cap : Nat} {l' : List ByteArray}, StrV wr p cap l' → StrV (World.setIter wr (w.heap.size + 2) (bytesOf l) (j + 1)) p cap l' := fun h =>
          ⟨h.1, fun hn => by
            obtain ⟨g, o, cs, e, q1, q2⟩ := h.2 hn
            exact ⟨g, o, cs, e, blk_t q1 T1 (fun e => by rw [e, HI.out] at q1; cases q1), q2⟩⟩
        refine ⟨⟨lp, lc, wp, wc, blk_t hg T1 (fun e => by rw [e, HI.out] at hg; cases hg), sv hll, sv hw⟩, hm.turned T1 (fun e => ?_), h5, h6⟩
        obtain ⟨es, ck, q, _⟩ := hm
        rw [e, HI.out] at q; cases q
      have G1 := blk_t HG.out T1 (by omega)
      have Z1 : Hid ((World.setIter wr (w.heap.size + 2) (bytesOf l) (j + 1)).heap[w.heap.size + 1]? = _) := blk_t HZ.out T1 (by omega)
      have HT1 : Hid (Turned w (World.setIter wr (w.heap.size + 2) (bytesOf l) (j + 1)) (fun k => k = rb)) := HTJ.out.trans T1 (fun i hi e => by omega)
      have cC := field_c (HX.out.turned HT1.out hrb) hrb G1 (by omega) hrr c hcl hfr
      have HI1 : Hid ((World.setIter wr (w.heap.size + 2) (bytesOf l) (j + 1)).heap[w.heap.size + 2]? = some (.stringIter (bytesOf l) (j + 1))) := I1
      have HP0 : Hid (wr.iterPos (w.heap.size + 2) = j) := by show World.iterPos wr _ = j; unfold World.iterPos; rw [HI.out]
      have HPJ : Hid (fldsR (l.take (j + 1)) x ws = some (y2, vs2)) := hp
      generalize World.setIter wr (w.heap.size + 2) (bytesOf l) (j + 1) = W5 at *
      clear hcl hc128 hcd hc hcj T1 I1 G1 hrr hp hfr
      go_wp2_with (first | (go_at_call 143; refine cC.mono ?_; rintro e w6 ⟨rfl, h61, h62, h63⟩; have H61 : Hid (w6.heap[w.heap.size]? = some (.cells (inCells y2 (.slice sp sn sc)).toArray TIn (0, 0))) := h61; have H62 : Hid (RdT w6 rb mb ls vs2) := h62; have H63 : Hid (Turned W5 w6 (fun k => k = rb ∨ k = w.heap.size)) := h63; clear h61 h62 h63 cC) | fail)
      have I6 := blk_t HI1.out H63.out (by omega)
      refine ⟨⟨j + 1, y2, vs2, by omega, HPJ, I6, H61, blk_t Z1.out H63.out (by omega), H62, HT1.out.trans H63.out (fun i hi e => by omega)⟩, ?_⟩
      have : w6.iterPos (w.heap.size + 2) = j + 1 := by unfold World.iterPos; rw [I6]
      rw [HP0.out, this]; omega
    · obtain rfl : j = l.length := by omega
      have hnx := next_end HI.out (by omega)
      have hfj := HFJ.out
      rw [List.take_length, HFL.out] at hfj
      injection hfj with hfj
      injection hfj with e1 e2
      subst e1 e2
      have cD := done_c HRJ.out
      obtain ⟨x0, x1, x2, x3, x4, x5, x6, x7, x8, x9, x10, x11⟩ := cells12 HG.out
      have hzz := HZ.out
      clear HFJ
      go_wp2_with (first | (go_at_call 104; refine cD.mono ?_; rintro e w' ⟨rfl, hw⟩; rw [hw]; clear hw w' cD) | ((with_reducible apply step_store hzz); rfl; rfl; kernel_rfl; rfl; kernel_rfl) | fail)
      have g9 : (wr.setRow (w.heap.size + 1) #[.int .i64 x'.op, .int .i64 x'.bin, .int .i64 x'.d, .int .i64 x'.a.kind, .int .u32 x'.a.n, .int .i64 x'.b.kind, .int .u32 x'.b.n, .int .i64 x'.n, .int .i64 x'.off, .int .i64 x'.width, .bool x'.sg, .slice sp sn sc]).heap[w.heap.size + 1]? = some (.cells #[.int .i64 x'.op, .int .i64 x'.bin, .int .i64 x'.d, .int .i64 x'.a.kind, .int .u32 x'.a.n, .int .i64 x'.b.kind, .int .u32 x'.b.n, .int .i64 x'.n, .int .i64 x'.off, .int .i64 x'.width, .bool x'.sg, .slice sp sn sc] TIn (0, 0)) := setRow_heap _ _ _ _ _ _ hzz
      have t9 : Turned wr (wr.setRow (w.heap.size + 1) #[.int .i64 x'.op, .int .i64 x'.bin, .int .i64 x'.d, .int .i64 x'.a.kind, .int .u32 x'.a.n, .int .i64 x'.b.kind, .int .u32 x'.b.n, .int .i64 x'.n, .int .i64 x'.off, .int .i64 x'.width, .bool x'.sg, .slice sp sn sc]) (fun k => k = w.heap.size + 1) := Turned.setRow wr _ _ rfl
      obtain ⟨q0, q1, q2, q3, q4, q5, q6, q7, q8, q9, q10, q11⟩ := cells12 g9
      refine bodyPost_ret (v := .agg #[.int .i64 x'.op, .int .i64 x'.bin, .int .i64 x'.d, .int .i64 x'.a.kind, .int .u32 x'.a.n, .int .i64 x'.b.kind, .int .u32 x'.b.n, .int .i64 x'.n, .int .i64 x'.off, .int .i64 x'.width, .bool x'.sg, .slice sp sn sc]) (by simp [results, Tryz.results122, go_sem, q0, q1, q2, q3, q4, q5, q6, q7, q8, q9, q10, q11]) rfl ⟨rfl, HRJ.out.off t9 hzz (by decide) (by decide), ?_⟩
      exact HTJ.out.trans t9 (fun i hi e => by omega)
end
end Go.Proofs.YtaaphipbkpjkjaaGreatDoor
