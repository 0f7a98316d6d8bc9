/-
  The words of a field: fieldWords of package tac.
-/
import Derived.Test.YtdijnbgcamgjfaaGreatDoorKM
import Derived.Test.YtdijnbgcamgjfaaGreatDoorKF
namespace Go.Proofs.YtdijnbgcamgjfaaGreatDoor
open Go.RowKit Go.Maps
set_option linter.unusedVariables false
set_option linter.unusedSimpArgs false
set_option maxRecDepth 100000
def fwW (c : Nat) (x : In) : List ByteArray :=
  if c = 68 ∨ c = 84 then [tgtW x.d] else if c = 65 ∨ c = 82 then opW x.a else if c = 66 then opW x.b else if c = 78 then [decS x.n]
  else if c = 79 then [decS x.off] else if c = 87 then [decS x.width] else if c = 76 then opsW x.args else if x.sg then [⟨#[115, 105, 103, 110, 101, 100]⟩] else []
/-- The numbers of an instruction are numbers of its kinds. -/
structure InN (x : In) : Prop where
  d0 : -9223372036854775808 ≤ x.d
  d1 : x.d ≤ 9223372036854775807
  n0 : -9223372036854775808 ≤ x.n
  n1 : x.n ≤ 9223372036854775807
  o0 : -9223372036854775808 ≤ x.off
  o1 : x.off ≤ 9223372036854775807
  w0 : -9223372036854775808 ≤ x.width
  w1 : x.width ≤ 9223372036854775807
  al : x.args.length ≤ 1000000
  ok : ∀ a ∈ x.a :: x.b :: x.args, ArOK a
theorem argV_one (w1 : World) (k n : Int) : ArgV (w1.alloc (.cells #[.int .i64 k, .int .u32 n] TAr)) (.slice (some ⟨w1.heap.size, 0, none⟩) 1 1) [⟨k, n⟩] := by
  refine ⟨_, _, rfl, ⟨Nat.le_refl _, fun e => by cases e⟩, fun i a ha => ⟨w1.heap.size, 0, rfl, lt_of_heap (heap_r0 w1 _), fun j hj => ?_⟩⟩
  rw [Lib.cell_of_heap (heap_r0 w1 _)]
  rcases i with _ | i
  · simp at ha; subst ha
    rcases j with _ | _ | j
    · rfl
    · rfl
    · omega
  · simp at ha
theorem opsW_one (a : Ar) : opsW [a] = opW a := by simp [opsW]
theorem NewS.from {w w1 w' : World} {v : Value} {l : List ByteArray} (h : NewS w1 w' v l) (hb : Below w.heap.size w w1) : NewS w w' v l :=
  ⟨hb.trans (h.1.mono hb.size), ownsRow_base h.2 hb.size⟩
section
variable {w : World}
set_option maxHeartbeats 4000000 in
theorem fieldWords_68 (hX : Tabs w) {x : In} {sp : Option Addr} {sn sc : Nat} (hN : InN x) (hA : ArgV w (.slice sp sn sc) x.args) :
    Calls Tryz.prog 112 #[.agg (inCells x (.slice sp sn sc)).toArray, .int .i32 68] w fun e w' => ∃ v, e = .returned v ∧ NewS w w' v (fwW 68 x) := by
  have b1 := below1 w (.cells (inCells x (.slice sp sn sc)).toArray TIn)
  have N1 := heap_r0 w (.cells (inCells x (.slice sp sn sc)).toArray TIn)
  obtain ⟨op, bin, d, ⟨ak, an⟩, ⟨bk, bn⟩, n, off, width, sg, args⟩ := x
  simp only [inCells] at N1 b1 hA ⊢
  have HB : Hid (Below w.heap.size w (w.alloc (.cells #[.int .i64 op, .int .i64 bin, .int .i64 d, .int .i64 ak, .int .u32 an, .int .i64 bk, .int .u32 bn, .int .i64 n, .int .i64 off, .int .i64 width, .bool sg, .slice sp sn sc] TIn))) := b1
  have HX : Hid (∀ Y, Below w.heap.size w Y → Tabs Y) := fun Y hY => hX.below hY
  have HA : Hid (∀ Y, Below w.heap.size w Y → ArgV Y (.slice sp sn sc) args) := fun Y hY => hA.below hY
  have r2 := Lib.cell_of_heap N1 2
  have r3 := Lib.cell_of_heap N1 3
  have r4 := Lib.cell_of_heap N1 4
  have r5 := Lib.cell_of_heap N1 5
  have r6 := Lib.cell_of_heap N1 6
  have r7 := Lib.cell_of_heap N1 7
  have r8 := Lib.cell_of_heap N1 8
  have r9 := Lib.cell_of_heap N1 9
  have r10 := Lib.cell_of_heap N1 10
  have r11 := Lib.cell_of_heap N1 11
  simp only [List.getElem?_toArray, List.getElem?_cons_zero, List.getElem?_cons_succ] at r2 r3 r4 r5 r6 r7 r8 r9 r10 r11
  obtain ⟨d0, d1, n0, n1, o0, o1, w0, w1, al, ok⟩ := hN
  simp only at d0 d1 n0 n1 o0 o1 w0 w1 al ok
  have HOK : Hid (∀ a ∈ (⟨ak, an⟩ : Ar) :: ⟨bk, bn⟩ :: args, ArOK a) := ok
  have cC := target_c (HX.out _ b1) d d0 d1
  have HW : Hid (fwW 68 ⟨op, bin, d, ⟨ak, an⟩, ⟨bk, bn⟩, n, off, width, sg, args⟩ = [tgtW d]) := rfl
  rw [HW.out]
  clear HW
  generalize tgtW d = ds at *
  clear b1 N1 hX hA ok d0 d1 n0 n1 o0 o1 w0 w1 al
  go_enter Tryz.func112, Tryz.ntmps112
  go_upto_region 1 with (fail)
  refine (?_ : Code.wp _ _ _ _ (w.alloc (.cells #[.int .i64 op, .int .i64 bin, .int .i64 d, .int .i64 ak, .int .u32 an, .int .i64 bk, .int .u32 bn, .int .i64 n, .int .i64 off, .int .i64 width, .bool sg, .slice sp sn sc] TIn)))
  generalize w.alloc (.cells #[.int .i64 op, .int .i64 bin, .int .i64 d, .int .i64 ak, .int .u32 an, .int .i64 bk, .int .u32 bn, .int .i64 n, .int .i64 off, .int .i64 width, .bool sg, .slice sp sn sc] TIn) = W1 at *
  go_wp2_with (first | (go_at_call 131; refine cC.mono ?_; rintro e w2 ⟨rfl, hb2⟩; have HB2 : Hid (Below w.heap.size w w2) := HB.out.trans (hb2.mono HB.out.size); clear hb2 cC) | fail)
  go_ret
  exact ⟨_, rfl, newS_one HB2.out ds⟩
set_option maxHeartbeats 4000000 in
theorem fieldWords_84 (hX : Tabs w) {x : In} {sp : Option Addr} {sn sc : Nat} (hN : InN x) (hA : ArgV w (.slice sp sn sc) x.args) :
    Calls Tryz.prog 112 #[.agg (inCells x (.slice sp sn sc)).toArray, .int .i32 84] w fun e w' => ∃ v, e = .returned v ∧ NewS w w' v (fwW 84 x) := by
  have b1 := below1 w (.cells (inCells x (.slice sp sn sc)).toArray TIn)
  have N1 := heap_r0 w (.cells (inCells x (.slice sp sn sc)).toArray TIn)
  obtain ⟨op, bin, d, ⟨ak, an⟩, ⟨bk, bn⟩, n, off, width, sg, args⟩ := x
  simp only [inCells] at N1 b1 hA ⊢
  have HB : Hid (Below w.heap.size w (w.alloc (.cells #[.int .i64 op, .int .i64 bin, .int .i64 d, .int .i64 ak, .int .u32 an, .int .i64 bk, .int .u32 bn, .int .i64 n, .int .i64 off, .int .i64 width, .bool sg, .slice sp sn sc] TIn))) := b1
  have HX : Hid (∀ Y, Below w.heap.size w Y → Tabs Y) := fun Y hY => hX.below hY
  have HA : Hid (∀ Y, Below w.heap.size w Y → ArgV Y (.slice sp sn sc) args) := fun Y hY => hA.below hY
  have r2 := Lib.cell_of_heap N1 2
  have r3 := Lib.cell_of_heap N1 3
  have r4 := Lib.cell_of_heap N1 4
  have r5 := Lib.cell_of_heap N1 5
  have r6 := Lib.cell_of_heap N1 6
  have r7 := Lib.cell_of_heap N1 7
  have r8 := Lib.cell_of_heap N1 8
  have r9 := Lib.cell_of_heap N1 9
  have r10 := Lib.cell_of_heap N1 10
  have r11 := Lib.cell_of_heap N1 11
  simp only [List.getElem?_toArray, List.getElem?_cons_zero, List.getElem?_cons_succ] at r2 r3 r4 r5 r6 r7 r8 r9 r10 r11
  obtain ⟨d0, d1, n0, n1, o0, o1, w0, w1, al, ok⟩ := hN
  simp only at d0 d1 n0 n1 o0 o1 w0 w1 al ok
  have HOK : Hid (∀ a ∈ (⟨ak, an⟩ : Ar) :: ⟨bk, bn⟩ :: args, ArOK a) := ok
  have cC := target_c (HX.out _ b1) d d0 d1
  have HW : Hid (fwW 84 ⟨op, bin, d, ⟨ak, an⟩, ⟨bk, bn⟩, n, off, width, sg, args⟩ = [tgtW d]) := rfl
  rw [HW.out]
  clear HW
  generalize tgtW d = ds at *
  clear b1 N1 hX hA ok d0 d1 n0 n1 o0 o1 w0 w1 al
  go_enter Tryz.func112, Tryz.ntmps112
  go_upto_region 1 with (fail)
  refine (?_ : Code.wp _ _ _ _ (w.alloc (.cells #[.int .i64 op, .int .i64 bin, .int .i64 d, .int .i64 ak, .int .u32 an, .int .i64 bk, .int .u32 bn, .int .i64 n, .int .i64 off, .int .i64 width, .bool sg, .slice sp sn sc] TIn)))
  generalize w.alloc (.cells #[.int .i64 op, .int .i64 bin, .int .i64 d, .int .i64 ak, .int .u32 an, .int .i64 bk, .int .u32 bn, .int .i64 n, .int .i64 off, .int .i64 width, .bool sg, .slice sp sn sc] TIn) = W1 at *
  go_wp2_with (first | (go_at_call 131; refine cC.mono ?_; rintro e w2 ⟨rfl, hb2⟩; have HB2 : Hid (Below w.heap.size w w2) := HB.out.trans (hb2.mono HB.out.size); clear hb2 cC) | fail)
  go_ret
  exact ⟨_, rfl, newS_one HB2.out ds⟩
set_option maxHeartbeats 4000000 in
theorem fieldWords_78 (hX : Tabs w) {x : In} {sp : Option Addr} {sn sc : Nat} (hN : InN x) (hA : ArgV w (.slice sp sn sc) x.args) :
    Calls Tryz.prog 112 #[.agg (inCells x (.slice sp sn sc)).toArray, .int .i32 78] w fun e w' => ∃ v, e = .returned v ∧ NewS w w' v (fwW 78 x) := by
  have b1 := below1 w (.cells (inCells x (.slice sp sn sc)).toArray TIn)
  have N1 := heap_r0 w (.cells (inCells x (.slice sp sn sc)).toArray TIn)
  obtain ⟨op, bin, d, ⟨ak, an⟩, ⟨bk, bn⟩, n, off, width, sg, args⟩ := x
  simp only [inCells] at N1 b1 hA ⊢
  have HB : Hid (Below w.heap.size w (w.alloc (.cells #[.int .i64 op, .int .i64 bin, .int .i64 d, .int .i64 ak, .int .u32 an, .int .i64 bk, .int .u32 bn, .int .i64 n, .int .i64 off, .int .i64 width, .bool sg, .slice sp sn sc] TIn))) := b1
  have HX : Hid (∀ Y, Below w.heap.size w Y → Tabs Y) := fun Y hY => hX.below hY
  have HA : Hid (∀ Y, Below w.heap.size w Y → ArgV Y (.slice sp sn sc) args) := fun Y hY => hA.below hY
  have r2 := Lib.cell_of_heap N1 2
  have r3 := Lib.cell_of_heap N1 3
  have r4 := Lib.cell_of_heap N1 4
  have r5 := Lib.cell_of_heap N1 5
  have r6 := Lib.cell_of_heap N1 6
  have r7 := Lib.cell_of_heap N1 7
  have r8 := Lib.cell_of_heap N1 8
  have r9 := Lib.cell_of_heap N1 9
  have r10 := Lib.cell_of_heap N1 10
  have r11 := Lib.cell_of_heap N1 11
  simp only [List.getElem?_toArray, List.getElem?_cons_zero, List.getElem?_cons_succ] at r2 r3 r4 r5 r6 r7 r8 r9 r10 r11
  obtain ⟨d0, d1, n0, n1, o0, o1, w0, w1, al, ok⟩ := hN
  simp only at d0 d1 n0 n1 o0 o1 w0 w1 al ok
  have HOK : Hid (∀ a ∈ (⟨ak, an⟩ : Ar) :: ⟨bk, bn⟩ :: args, ArOK a) := ok
  have cC := itoa_c (HX.out _ b1) n n0 n1
  have HW : Hid (fwW 78 ⟨op, bin, d, ⟨ak, an⟩, ⟨bk, bn⟩, n, off, width, sg, args⟩ = [decS n]) := rfl
  rw [HW.out]
  clear HW
  generalize decS n = ds at *
  clear b1 N1 hX hA ok d0 d1 n0 n1 o0 o1 w0 w1 al
  go_enter Tryz.func112, Tryz.ntmps112
  go_upto_region 1 with (fail)
  refine (?_ : Code.wp _ _ _ _ (w.alloc (.cells #[.int .i64 op, .int .i64 bin, .int .i64 d, .int .i64 ak, .int .u32 an, .int .i64 bk, .int .u32 bn, .int .i64 n, .int .i64 off, .int .i64 width, .bool sg, .slice sp sn sc] TIn)))
  generalize w.alloc (.cells #[.int .i64 op, .int .i64 bin, .int .i64 d, .int .i64 ak, .int .u32 an, .int .i64 bk, .int .u32 bn, .int .i64 n, .int .i64 off, .int .i64 width, .bool sg, .slice sp sn sc] TIn) = W1 at *
  go_wp2_with (first | (go_at_call 63; refine cC.mono ?_; rintro e w2 ⟨rfl, hb2⟩; have HB2 : Hid (Below w.heap.size w w2) := HB.out.trans (hb2.mono HB.out.size); clear hb2 cC) | fail)
  go_ret
  exact ⟨_, rfl, newS_one HB2.out ds⟩
set_option maxHeartbeats 4000000 in
theorem fieldWords_79 (hX : Tabs w) {x : In} {sp : Option Addr} {sn sc : Nat} (hN : InN x) (hA : ArgV w (.slice sp sn sc) x.args) :
    Calls Tryz.prog 112 #[.agg (inCells x (.slice sp sn sc)).toArray, .int .i32 79] w fun e w' => ∃ v, e = .returned v ∧ NewS w w' v (fwW 79 x) := by
  have b1 := below1 w (.cells (inCells x (.slice sp sn sc)).toArray TIn)
  have N1 := heap_r0 w (.cells (inCells x (.slice sp sn sc)).toArray TIn)
  obtain ⟨op, bin, d, ⟨ak, an⟩, ⟨bk, bn⟩, n, off, width, sg, args⟩ := x
  simp only [inCells] at N1 b1 hA ⊢
  have HB : Hid (Below w.heap.size w (w.alloc (.cells #[.int .i64 op, .int .i64 bin, .int .i64 d, .int .i64 ak, .int .u32 an, .int .i64 bk, .int .u32 bn, .int .i64 n, .int .i64 off, .int .i64 width, .bool sg, .slice sp sn sc] TIn))) := b1
  have HX : Hid (∀ Y, Below w.heap.size w Y → Tabs Y) := fun Y hY => hX.below hY
  have HA : Hid (∀ Y, Below w.heap.size w Y → ArgV Y (.slice sp sn sc) args) := fun Y hY => hA.below hY
  have r2 := Lib.cell_of_heap N1 2
  have r3 := Lib.cell_of_heap N1 3
  have r4 := Lib.cell_of_heap N1 4
  have r5 := Lib.cell_of_heap N1 5
  have r6 := Lib.cell_of_heap N1 6
  have r7 := Lib.cell_of_heap N1 7
  have r8 := Lib.cell_of_heap N1 8
  have r9 := Lib.cell_of_heap N1 9
  have r10 := Lib.cell_of_heap N1 10
  have r11 := Lib.cell_of_heap N1 11
  simp only [List.getElem?_toArray, List.getElem?_cons_zero, List.getElem?_cons_succ] at r2 r3 r4 r5 r6 r7 r8 r9 r10 r11
  obtain ⟨d0, d1, n0, n1, o0, o1, w0, w1, al, ok⟩ := hN
  simp only at d0 d1 n0 n1 o0 o1 w0 w1 al ok
  have HOK : Hid (∀ a ∈ (⟨ak, an⟩ : Ar) :: ⟨bk, bn⟩ :: args, ArOK a) := ok
  have cC := itoa_c (HX.out _ b1) off o0 o1
  have HW : Hid (fwW 79 ⟨op, bin, d, ⟨ak, an⟩, ⟨bk, bn⟩, n, off, width, sg, args⟩ = [decS off]) := rfl
  rw [HW.out]
  clear HW
  generalize decS off = ds at *
  clear b1 N1 hX hA ok d0 d1 n0 n1 o0 o1 w0 w1 al
  go_enter Tryz.func112, Tryz.ntmps112
  go_upto_region 1 with (fail)
  refine (?_ : Code.wp _ _ _ _ (w.alloc (.cells #[.int .i64 op, .int .i64 bin, .int .i64 d, .int .i64 ak, .int .u32 an, .int .i64 bk, .int .u32 bn, .int .i64 n, .int .i64 off, .int .i64 width, .bool sg, .slice sp sn sc] TIn)))
  generalize w.alloc (.cells #[.int .i64 op, .int .i64 bin, .int .i64 d, .int .i64 ak, .int .u32 an, .int .i64 bk, .int .u32 bn, .int .i64 n, .int .i64 off, .int .i64 width, .bool sg, .slice sp sn sc] TIn) = W1 at *
  go_wp2_with (first | (go_at_call 63; refine cC.mono ?_; rintro e w2 ⟨rfl, hb2⟩; have HB2 : Hid (Below w.heap.size w w2) := HB.out.trans (hb2.mono HB.out.size); clear hb2 cC) | fail)
  go_ret
  exact ⟨_, rfl, newS_one HB2.out ds⟩
set_option maxHeartbeats 4000000 in
theorem fieldWords_87 (hX : Tabs w) {x : In} {sp : Option Addr} {sn sc : Nat} (hN : InN x) (hA : ArgV w (.slice sp sn sc) x.args) :
    Calls Tryz.prog 112 #[.agg (inCells x (.slice sp sn sc)).toArray, .int .i32 87] w fun e w' => ∃ v, e = .returned v ∧ NewS w w' v (fwW 87 x) := by
  have b1 := below1 w (.cells (inCells x (.slice sp sn sc)).toArray TIn)
  have N1 := heap_r0 w (.cells (inCells x (.slice sp sn sc)).toArray TIn)
  obtain ⟨op, bin, d, ⟨ak, an⟩, ⟨bk, bn⟩, n, off, width, sg, args⟩ := x
  simp only [inCells] at N1 b1 hA ⊢
  have HB : Hid (Below w.heap.size w (w.alloc (.cells #[.int .i64 op, .int .i64 bin, .int .i64 d, .int .i64 ak, .int .u32 an, .int .i64 bk, .int .u32 bn, .int .i64 n, .int .i64 off, .int .i64 width, .bool sg, .slice sp sn sc] TIn))) := b1
  have HX : Hid (∀ Y, Below w.heap.size w Y → Tabs Y) := fun Y hY => hX.below hY
  have HA : Hid (∀ Y, Below w.heap.size w Y → ArgV Y (.slice sp sn sc) args) := fun Y hY => hA.below hY
  have r2 := Lib.cell_of_heap N1 2
  have r3 := Lib.cell_of_heap N1 3
  have r4 := Lib.cell_of_heap N1 4
  have r5 := Lib.cell_of_heap N1 5
  have r6 := Lib.cell_of_heap N1 6
  have r7 := Lib.cell_of_heap N1 7
  have r8 := Lib.cell_of_heap N1 8
  have r9 := Lib.cell_of_heap N1 9
  have r10 := Lib.cell_of_heap N1 10
  have r11 := Lib.cell_of_heap N1 11
  simp only [List.getElem?_toArray, List.getElem?_cons_zero, List.getElem?_cons_succ] at r2 r3 r4 r5 r6 r7 r8 r9 r10 r11
  obtain ⟨d0, d1, n0, n1, o0, o1, w0, w1, al, ok⟩ := hN
  simp only at d0 d1 n0 n1 o0 o1 w0 w1 al ok
  have HOK : Hid (∀ a ∈ (⟨ak, an⟩ : Ar) :: ⟨bk, bn⟩ :: args, ArOK a) := ok
  have cC := itoa_c (HX.out _ b1) width w0 w1
  have HW : Hid (fwW 87 ⟨op, bin, d, ⟨ak, an⟩, ⟨bk, bn⟩, n, off, width, sg, args⟩ = [decS width]) := rfl
  rw [HW.out]
  clear HW
  generalize decS width = ds at *
  clear b1 N1 hX hA ok d0 d1 n0 n1 o0 o1 w0 w1 al
  go_enter Tryz.func112, Tryz.ntmps112
  go_upto_region 1 with (fail)
  refine (?_ : Code.wp _ _ _ _ (w.alloc (.cells #[.int .i64 op, .int .i64 bin, .int .i64 d, .int .i64 ak, .int .u32 an, .int .i64 bk, .int .u32 bn, .int .i64 n, .int .i64 off, .int .i64 width, .bool sg, .slice sp sn sc] TIn)))
  generalize w.alloc (.cells #[.int .i64 op, .int .i64 bin, .int .i64 d, .int .i64 ak, .int .u32 an, .int .i64 bk, .int .u32 bn, .int .i64 n, .int .i64 off, .int .i64 width, .bool sg, .slice sp sn sc] TIn) = W1 at *
  go_wp2_with (first | (go_at_call 63; refine cC.mono ?_; rintro e w2 ⟨rfl, hb2⟩; have HB2 : Hid (Below w.heap.size w w2) := HB.out.trans (hb2.mono HB.out.size); clear hb2 cC) | fail)
  go_ret
  exact ⟨_, rfl, newS_one HB2.out ds⟩
set_option maxHeartbeats 4000000 in
theorem fieldWords_65 (hX : Tabs w) {x : In} {sp : Option Addr} {sn sc : Nat} (hN : InN x) (hA : ArgV w (.slice sp sn sc) x.args) :
    Calls Tryz.prog 112 #[.agg (inCells x (.slice sp sn sc)).toArray, .int .i32 65] w fun e w' => ∃ v, e = .returned v ∧ NewS w w' v (fwW 65 x) := by
  have b1 := below1 w (.cells (inCells x (.slice sp sn sc)).toArray TIn)
  have N1 := heap_r0 w (.cells (inCells x (.slice sp sn sc)).toArray TIn)
  obtain ⟨op, bin, d, ⟨ak, an⟩, ⟨bk, bn⟩, n, off, width, sg, args⟩ := x
  simp only [inCells] at N1 b1 hA ⊢
  have HB : Hid (Below w.heap.size w (w.alloc (.cells #[.int .i64 op, .int .i64 bin, .int .i64 d, .int .i64 ak, .int .u32 an, .int .i64 bk, .int .u32 bn, .int .i64 n, .int .i64 off, .int .i64 width, .bool sg, .slice sp sn sc] TIn))) := b1
  have HX : Hid (∀ Y, Below w.heap.size w Y → Tabs Y) := fun Y hY => hX.below hY
  have HA : Hid (∀ Y, Below w.heap.size w Y → ArgV Y (.slice sp sn sc) args) := fun Y hY => hA.below hY
  have r2 := Lib.cell_of_heap N1 2
  have r3 := Lib.cell_of_heap N1 3
  have r4 := Lib.cell_of_heap N1 4
  have r5 := Lib.cell_of_heap N1 5
  have r6 := Lib.cell_of_heap N1 6
  have r7 := Lib.cell_of_heap N1 7
  have r8 := Lib.cell_of_heap N1 8
  have r9 := Lib.cell_of_heap N1 9
  have r10 := Lib.cell_of_heap N1 10
  have r11 := Lib.cell_of_heap N1 11
  simp only [List.getElem?_toArray, List.getElem?_cons_zero, List.getElem?_cons_succ] at r2 r3 r4 r5 r6 r7 r8 r9 r10 r11
  obtain ⟨d0, d1, n0, n1, o0, o1, w0, w1, al, ok⟩ := hN
  simp only at d0 d1 n0 n1 o0 o1 w0 w1 al ok
  have HOK : Hid (∀ a ∈ (⟨ak, an⟩ : Ar) :: ⟨bk, bn⟩ :: args, ArOK a) := ok
  have b2 := below1 (w.alloc (.cells #[.int .i64 op, .int .i64 bin, .int .i64 d, .int .i64 ak, .int .u32 an, .int .i64 bk, .int .u32 bn, .int .i64 n, .int .i64 off, .int .i64 width, .bool sg, .slice sp sn sc] TIn)) (.cells #[.int .i64 ak, .int .u32 an] TAr)
  have HB2 : Hid (Below w.heap.size w ((w.alloc (.cells #[.int .i64 op, .int .i64 bin, .int .i64 d, .int .i64 ak, .int .u32 an, .int .i64 bk, .int .u32 bn, .int .i64 n, .int .i64 off, .int .i64 width, .bool sg, .slice sp sn sc] TIn)).alloc (.cells #[.int .i64 ak, .int .u32 an] TAr))) := b1.trans (b2.mono b1.size)
  have cC := operands_c (HX.out _ HB2.out) (argV_one (w.alloc (.cells #[.int .i64 op, .int .i64 bin, .int .i64 d, .int .i64 ak, .int .u32 an, .int .i64 bk, .int .u32 bn, .int .i64 n, .int .i64 off, .int .i64 width, .bool sg, .slice sp sn sc] TIn)) ak an) (by intro a ha; simp at ha; subst ha; exact HOK.out _ List.mem_cons_self) (by simp)
  rw [opsW_one] at cC
  have HW : Hid (fwW 65 ⟨op, bin, d, ⟨ak, an⟩, ⟨bk, bn⟩, n, off, width, sg, args⟩ = opW ⟨ak, an⟩) := rfl
  rw [HW.out]
  clear HW
  generalize opW ⟨ak, an⟩ = ds at *
  clear b1 b2 N1 hX hA ok d0 d1 n0 n1 o0 o1 w0 w1 al
  go_enter Tryz.func112, Tryz.ntmps112
  go_upto_region 1 with (fail)
  refine (?_ : Code.wp _ _ _ _ (w.alloc (.cells #[.int .i64 op, .int .i64 bin, .int .i64 d, .int .i64 ak, .int .u32 an, .int .i64 bk, .int .u32 bn, .int .i64 n, .int .i64 off, .int .i64 width, .bool sg, .slice sp sn sc] TIn)))
  generalize w.alloc (.cells #[.int .i64 op, .int .i64 bin, .int .i64 d, .int .i64 ak, .int .u32 an, .int .i64 bk, .int .u32 bn, .int .i64 n, .int .i64 off, .int .i64 width, .bool sg, .slice sp sn sc] TIn) = W1 at *
  go_wp2_with (first | (go_at_call 132; refine cC.mono ?_; rintro e w2 ⟨v, rfl, hn⟩; have HN : Hid (NewS w w2 v ds) := hn.from HB2.out; clear hn cC) | fail)
  go_ret
  exact ⟨_, rfl, HN.out⟩
set_option maxHeartbeats 4000000 in
theorem fieldWords_82 (hX : Tabs w) {x : In} {sp : Option Addr} {sn sc : Nat} (hN : InN x) (hA : ArgV w (.slice sp sn sc) x.args) :
    Calls Tryz.prog 112 #[.agg (inCells x (.slice sp sn sc)).toArray, .int .i32 82] w fun e w' => ∃ v, e = .returned v ∧ NewS w w' v (fwW 82 x) := by
  have b1 := below1 w (.cells (inCells x (.slice sp sn sc)).toArray TIn)
  have N1 := heap_r0 w (.cells (inCells x (.slice sp sn sc)).toArray TIn)
  obtain ⟨op, bin, d, ⟨ak, an⟩, ⟨bk, bn⟩, n, off, width, sg, args⟩ := x
  simp only [inCells] at N1 b1 hA ⊢
  have HB : Hid (Below w.heap.size w (w.alloc (.cells #[.int .i64 op, .int .i64 bin, .int .i64 d, .int .i64 ak, .int .u32 an, .int .i64 bk, .int .u32 bn, .int .i64 n, .int .i64 off, .int .i64 width, .bool sg, .slice sp sn sc] TIn))) := b1
  have HX : Hid (∀ Y, Below w.heap.size w Y → Tabs Y) := fun Y hY => hX.below hY
  have HA : Hid (∀ Y, Below w.heap.size w Y → ArgV Y (.slice sp sn sc) args) := fun Y hY => hA.below hY
  have r2 := Lib.cell_of_heap N1 2
  have r3 := Lib.cell_of_heap N1 3
  have r4 := Lib.cell_of_heap N1 4
  have r5 := Lib.cell_of_heap N1 5
  have r6 := Lib.cell_of_heap N1 6
  have r7 := Lib.cell_of_heap N1 7
  have r8 := Lib.cell_of_heap N1 8
  have r9 := Lib.cell_of_heap N1 9
  have r10 := Lib.cell_of_heap N1 10
  have r11 := Lib.cell_of_heap N1 11
  simp only [List.getElem?_toArray, List.getElem?_cons_zero, List.getElem?_cons_succ] at r2 r3 r4 r5 r6 r7 r8 r9 r10 r11
  obtain ⟨d0, d1, n0, n1, o0, o1, w0, w1, al, ok⟩ := hN
  simp only at d0 d1 n0 n1 o0 o1 w0 w1 al ok
  have HOK : Hid (∀ a ∈ (⟨ak, an⟩ : Ar) :: ⟨bk, bn⟩ :: args, ArOK a) := ok
  have b2 := below1 (w.alloc (.cells #[.int .i64 op, .int .i64 bin, .int .i64 d, .int .i64 ak, .int .u32 an, .int .i64 bk, .int .u32 bn, .int .i64 n, .int .i64 off, .int .i64 width, .bool sg, .slice sp sn sc] TIn)) (.cells #[.int .i64 ak, .int .u32 an] TAr)
  have HB2 : Hid (Below w.heap.size w ((w.alloc (.cells #[.int .i64 op, .int .i64 bin, .int .i64 d, .int .i64 ak, .int .u32 an, .int .i64 bk, .int .u32 bn, .int .i64 n, .int .i64 off, .int .i64 width, .bool sg, .slice sp sn sc] TIn)).alloc (.cells #[.int .i64 ak, .int .u32 an] TAr))) := b1.trans (b2.mono b1.size)
  have cC := operands_c (HX.out _ HB2.out) (argV_one (w.alloc (.cells #[.int .i64 op, .int .i64 bin, .int .i64 d, .int .i64 ak, .int .u32 an, .int .i64 bk, .int .u32 bn, .int .i64 n, .int .i64 off, .int .i64 width, .bool sg, .slice sp sn sc] TIn)) ak an) (by intro a ha; simp at ha; subst ha; exact HOK.out _ List.mem_cons_self) (by simp)
  rw [opsW_one] at cC
  have HW : Hid (fwW 82 ⟨op, bin, d, ⟨ak, an⟩, ⟨bk, bn⟩, n, off, width, sg, args⟩ = opW ⟨ak, an⟩) := rfl
  rw [HW.out]
  clear HW
  generalize opW ⟨ak, an⟩ = ds at *
  clear b1 b2 N1 hX hA ok d0 d1 n0 n1 o0 o1 w0 w1 al
  go_enter Tryz.func112, Tryz.ntmps112
  go_upto_region 1 with (fail)
  refine (?_ : Code.wp _ _ _ _ (w.alloc (.cells #[.int .i64 op, .int .i64 bin, .int .i64 d, .int .i64 ak, .int .u32 an, .int .i64 bk, .int .u32 bn, .int .i64 n, .int .i64 off, .int .i64 width, .bool sg, .slice sp sn sc] TIn)))
  generalize w.alloc (.cells #[.int .i64 op, .int .i64 bin, .int .i64 d, .int .i64 ak, .int .u32 an, .int .i64 bk, .int .u32 bn, .int .i64 n, .int .i64 off, .int .i64 width, .bool sg, .slice sp sn sc] TIn) = W1 at *
  go_wp2_with (first | (go_at_call 132; refine cC.mono ?_; rintro e w2 ⟨v, rfl, hn⟩; have HN : Hid (NewS w w2 v ds) := hn.from HB2.out; clear hn cC) | fail)
  go_ret
  exact ⟨_, rfl, HN.out⟩
set_option maxHeartbeats 4000000 in
theorem fieldWords_66 (hX : Tabs w) {x : In} {sp : Option Addr} {sn sc : Nat} (hN : InN x) (hA : ArgV w (.slice sp sn sc) x.args) :
    Calls Tryz.prog 112 #[.agg (inCells x (.slice sp sn sc)).toArray, .int .i32 66] w fun e w' => ∃ v, e = .returned v ∧ NewS w w' v (fwW 66 x) := by
  have b1 := below1 w (.cells (inCells x (.slice sp sn sc)).toArray TIn)
  have N1 := heap_r0 w (.cells (inCells x (.slice sp sn sc)).toArray TIn)
  obtain ⟨op, bin, d, ⟨ak, an⟩, ⟨bk, bn⟩, n, off, width, sg, args⟩ := x
  simp only [inCells] at N1 b1 hA ⊢
  have HB : Hid (Below w.heap.size w (w.alloc (.cells #[.int .i64 op, .int .i64 bin, .int .i64 d, .int .i64 ak, .int .u32 an, .int .i64 bk, .int .u32 bn, .int .i64 n, .int .i64 off, .int .i64 width, .bool sg, .slice sp sn sc] TIn))) := b1
  have HX : Hid (∀ Y, Below w.heap.size w Y → Tabs Y) := fun Y hY => hX.below hY
  have HA : Hid (∀ Y, Below w.heap.size w Y → ArgV Y (.slice sp sn sc) args) := fun Y hY => hA.below hY
  have r2 := Lib.cell_of_heap N1 2
  have r3 := Lib.cell_of_heap N1 3
  have r4 := Lib.cell_of_heap N1 4
  have r5 := Lib.cell_of_heap N1 5
  have r6 := Lib.cell_of_heap N1 6
  have r7 := Lib.cell_of_heap N1 7
  have r8 := Lib.cell_of_heap N1 8
  have r9 := Lib.cell_of_heap N1 9
  have r10 := Lib.cell_of_heap N1 10
  have r11 := Lib.cell_of_heap N1 11
  simp only [List.getElem?_toArray, List.getElem?_cons_zero, List.getElem?_cons_succ] at r2 r3 r4 r5 r6 r7 r8 r9 r10 r11
  obtain ⟨d0, d1, n0, n1, o0, o1, w0, w1, al, ok⟩ := hN
  simp only at d0 d1 n0 n1 o0 o1 w0 w1 al ok
  have HOK : Hid (∀ a ∈ (⟨ak, an⟩ : Ar) :: ⟨bk, bn⟩ :: args, ArOK a) := ok
  have b2 := below1 (w.alloc (.cells #[.int .i64 op, .int .i64 bin, .int .i64 d, .int .i64 ak, .int .u32 an, .int .i64 bk, .int .u32 bn, .int .i64 n, .int .i64 off, .int .i64 width, .bool sg, .slice sp sn sc] TIn)) (.cells #[.int .i64 bk, .int .u32 bn] TAr)
  have HB2 : Hid (Below w.heap.size w ((w.alloc (.cells #[.int .i64 op, .int .i64 bin, .int .i64 d, .int .i64 ak, .int .u32 an, .int .i64 bk, .int .u32 bn, .int .i64 n, .int .i64 off, .int .i64 width, .bool sg, .slice sp sn sc] TIn)).alloc (.cells #[.int .i64 bk, .int .u32 bn] TAr))) := b1.trans (b2.mono b1.size)
  have cC := operands_c (HX.out _ HB2.out) (argV_one (w.alloc (.cells #[.int .i64 op, .int .i64 bin, .int .i64 d, .int .i64 ak, .int .u32 an, .int .i64 bk, .int .u32 bn, .int .i64 n, .int .i64 off, .int .i64 width, .bool sg, .slice sp sn sc] TIn)) bk bn) (by intro a ha; simp at ha; subst ha; exact HOK.out _ (List.mem_cons_of_mem _ List.mem_cons_self)) (by simp)
  rw [opsW_one] at cC
  have HW : Hid (fwW 66 ⟨op, bin, d, ⟨ak, an⟩, ⟨bk, bn⟩, n, off, width, sg, args⟩ = opW ⟨bk, bn⟩) := rfl
  rw [HW.out]
  clear HW
  generalize opW ⟨bk, bn⟩ = ds at *
  clear b1 b2 N1 hX hA ok d0 d1 n0 n1 o0 o1 w0 w1 al
  go_enter Tryz.func112, Tryz.ntmps112
  go_upto_region 1 with (fail)
  refine (?_ : Code.wp _ _ _ _ (w.alloc (.cells #[.int .i64 op, .int .i64 bin, .int .i64 d, .int .i64 ak, .int .u32 an, .int .i64 bk, .int .u32 bn, .int .i64 n, .int .i64 off, .int .i64 width, .bool sg, .slice sp sn sc] TIn)))
  generalize w.alloc (.cells #[.int .i64 op, .int .i64 bin, .int .i64 d, .int .i64 ak, .int .u32 an, .int .i64 bk, .int .u32 bn, .int .i64 n, .int .i64 off, .int .i64 width, .bool sg, .slice sp sn sc] TIn) = W1 at *
  go_wp2_with (first | (go_at_call 132; refine cC.mono ?_; rintro e w2 ⟨v, rfl, hn⟩; have HN : Hid (NewS w w2 v ds) := hn.from HB2.out; clear hn cC) | fail)
  go_ret
  exact ⟨_, rfl, HN.out⟩
set_option maxHeartbeats 4000000 in
theorem fieldWords_76 (hX : Tabs w) {x : In} {sp : Option Addr} {sn sc : Nat} (hN : InN x) (hA : ArgV w (.slice sp sn sc) x.args) :
    Calls Tryz.prog 112 #[.agg (inCells x (.slice sp sn sc)).toArray, .int .i32 76] w fun e w' => ∃ v, e = .returned v ∧ NewS w w' v (fwW 76 x) := by
  have b1 := below1 w (.cells (inCells x (.slice sp sn sc)).toArray TIn)
  have N1 := heap_r0 w (.cells (inCells x (.slice sp sn sc)).toArray TIn)
  obtain ⟨op, bin, d, ⟨ak, an⟩, ⟨bk, bn⟩, n, off, width, sg, args⟩ := x
  simp only [inCells] at N1 b1 hA ⊢
  have HB : Hid (Below w.heap.size w (w.alloc (.cells #[.int .i64 op, .int .i64 bin, .int .i64 d, .int .i64 ak, .int .u32 an, .int .i64 bk, .int .u32 bn, .int .i64 n, .int .i64 off, .int .i64 width, .bool sg, .slice sp sn sc] TIn))) := b1
  have HX : Hid (∀ Y, Below w.heap.size w Y → Tabs Y) := fun Y hY => hX.below hY
  have HA : Hid (∀ Y, Below w.heap.size w Y → ArgV Y (.slice sp sn sc) args) := fun Y hY => hA.below hY
  have r2 := Lib.cell_of_heap N1 2
  have r3 := Lib.cell_of_heap N1 3
  have r4 := Lib.cell_of_heap N1 4
  have r5 := Lib.cell_of_heap N1 5
  have r6 := Lib.cell_of_heap N1 6
  have r7 := Lib.cell_of_heap N1 7
  have r8 := Lib.cell_of_heap N1 8
  have r9 := Lib.cell_of_heap N1 9
  have r10 := Lib.cell_of_heap N1 10
  have r11 := Lib.cell_of_heap N1 11
  simp only [List.getElem?_toArray, List.getElem?_cons_zero, List.getElem?_cons_succ] at r2 r3 r4 r5 r6 r7 r8 r9 r10 r11
  obtain ⟨d0, d1, n0, n1, o0, o1, w0, w1, al, ok⟩ := hN
  simp only at d0 d1 n0 n1 o0 o1 w0 w1 al ok
  have HOK : Hid (∀ a ∈ (⟨ak, an⟩ : Ar) :: ⟨bk, bn⟩ :: args, ArOK a) := ok
  have cC := operands_c (HX.out _ b1) (HA.out _ b1) (fun a ha => HOK.out a (List.mem_cons_of_mem _ (List.mem_cons_of_mem _ ha))) al
  have HW : Hid (fwW 76 ⟨op, bin, d, ⟨ak, an⟩, ⟨bk, bn⟩, n, off, width, sg, args⟩ = opsW args) := rfl
  rw [HW.out]
  clear HW
  generalize opsW args = ds at *
  clear b1 N1 hX hA ok d0 d1 n0 n1 o0 o1 w0 w1 al
  go_enter Tryz.func112, Tryz.ntmps112
  go_upto_region 1 with (fail)
  refine (?_ : Code.wp _ _ _ _ (w.alloc (.cells #[.int .i64 op, .int .i64 bin, .int .i64 d, .int .i64 ak, .int .u32 an, .int .i64 bk, .int .u32 bn, .int .i64 n, .int .i64 off, .int .i64 width, .bool sg, .slice sp sn sc] TIn)))
  generalize w.alloc (.cells #[.int .i64 op, .int .i64 bin, .int .i64 d, .int .i64 ak, .int .u32 an, .int .i64 bk, .int .u32 bn, .int .i64 n, .int .i64 off, .int .i64 width, .bool sg, .slice sp sn sc] TIn) = W1 at *
  go_wp2_with (first | (go_at_call 132; refine cC.mono ?_; rintro e w2 ⟨v, rfl, hn⟩; have HN : Hid (NewS w w2 v ds) := hn.from HB.out; clear hn cC) | fail)
  go_ret
  exact ⟨_, rfl, HN.out⟩
set_option maxHeartbeats 4000000 in
theorem fieldWords_83 (hX : Tabs w) {x : In} {sp : Option Addr} {sn sc : Nat} (hN : InN x) (hA : ArgV w (.slice sp sn sc) x.args) :
    Calls Tryz.prog 112 #[.agg (inCells x (.slice sp sn sc)).toArray, .int .i32 83] w fun e w' => ∃ v, e = .returned v ∧ NewS w w' v (fwW 83 x) := by
  have b1 := below1 w (.cells (inCells x (.slice sp sn sc)).toArray TIn)
  have N1 := heap_r0 w (.cells (inCells x (.slice sp sn sc)).toArray TIn)
  obtain ⟨op, bin, d, ⟨ak, an⟩, ⟨bk, bn⟩, n, off, width, sg, args⟩ := x
  simp only [inCells] at N1 b1 hA ⊢
  have HB : Hid (Below w.heap.size w (w.alloc (.cells #[.int .i64 op, .int .i64 bin, .int .i64 d, .int .i64 ak, .int .u32 an, .int .i64 bk, .int .u32 bn, .int .i64 n, .int .i64 off, .int .i64 width, .bool sg, .slice sp sn sc] TIn))) := b1
  have HX : Hid (∀ Y, Below w.heap.size w Y → Tabs Y) := fun Y hY => hX.below hY
  have HA : Hid (∀ Y, Below w.heap.size w Y → ArgV Y (.slice sp sn sc) args) := fun Y hY => hA.below hY
  have r2 := Lib.cell_of_heap N1 2
  have r3 := Lib.cell_of_heap N1 3
  have r4 := Lib.cell_of_heap N1 4
  have r5 := Lib.cell_of_heap N1 5
  have r6 := Lib.cell_of_heap N1 6
  have r7 := Lib.cell_of_heap N1 7
  have r8 := Lib.cell_of_heap N1 8
  have r9 := Lib.cell_of_heap N1 9
  have r10 := Lib.cell_of_heap N1 10
  have r11 := Lib.cell_of_heap N1 11
  simp only [List.getElem?_toArray, List.getElem?_cons_zero, List.getElem?_cons_succ] at r2 r3 r4 r5 r6 r7 r8 r9 r10 r11
  obtain ⟨d0, d1, n0, n1, o0, o1, w0, w1, al, ok⟩ := hN
  simp only at d0 d1 n0 n1 o0 o1 w0 w1 al ok
  have HOK : Hid (∀ a ∈ (⟨ak, an⟩ : Ar) :: ⟨bk, bn⟩ :: args, ArOK a) := ok
  have HW : Hid (fwW 83 ⟨op, bin, d, ⟨ak, an⟩, ⟨bk, bn⟩, n, off, width, sg, args⟩ = if sg then [⟨#[115, 105, 103, 110, 101, 100]⟩] else []) := rfl
  rw [HW.out]
  clear b1 N1 hX hA ok d0 d1 n0 n1 o0 o1 w0 w1 al
  go_enter Tryz.func112, Tryz.ntmps112
  go_upto_region 1 with (fail)
  refine (?_ : Code.wp _ _ _ _ (w.alloc (.cells #[.int .i64 op, .int .i64 bin, .int .i64 d, .int .i64 ak, .int .u32 an, .int .i64 bk, .int .u32 bn, .int .i64 n, .int .i64 off, .int .i64 width, .bool sg, .slice sp sn sc] TIn)))
  generalize w.alloc (.cells #[.int .i64 op, .int .i64 bin, .int .i64 d, .int .i64 ak, .int .u32 an, .int .i64 bk, .int .u32 bn, .int .i64 n, .int .i64 off, .int .i64 width, .bool sg, .slice sp sn sc] TIn) = W1 at *
  cases sg with
  | true =>
    go_wp2
    go_ret
    exact ⟨_, rfl, newS_one HB.out _⟩
  | false =>
    go_wp2
    go_ret
    exact ⟨_, rfl, newS_nil HB.out⟩
theorem fieldWords_c (hX : Tabs w) {x : In} {sp : Option Addr} {sn sc : Nat} (hN : InN x) (hA : ArgV w (.slice sp sn sc) x.args) (c : Nat) (hc : c ∈ letters) :
    Calls Tryz.prog 112 #[.agg (inCells x (.slice sp sn sc)).toArray, .int .i32 (c : Int)] w fun e w' => ∃ v, e = .returned v ∧ NewS w w' v (fwW c x) := by
  simp only [letters, List.mem_cons, List.not_mem_nil, or_false] at hc
  rcases hc with rfl | rfl | rfl | rfl | rfl | rfl | rfl | rfl | rfl | rfl
  · exact fieldWords_68 hX hN hA
  · exact fieldWords_84 hX hN hA
  · exact fieldWords_65 hX hN hA
  · exact fieldWords_82 hX hN hA
  · exact fieldWords_66 hX hN hA
  · exact fieldWords_78 hX hN hA
  · exact fieldWords_79 hX hN hA
  · exact fieldWords_87 hX hN hA
  · exact fieldWords_83 hX hN hA
  · exact fieldWords_76 hX hN hA
end
end Go.Proofs.YtdijnbgcamgjfaaGreatDoor
