/-
  The words of an instruction's line: wordsOf of package tac.
  The words of a field: fieldWords of package tac.
-/
import Derived.Test.YtaaphipbkpjkjaaGreatDoorKM
import Derived.Test.YtaaphipbkpjkjaaGreatDoorKF
import Derived.Test.YtaaphipbkpjkjaaGreatDoorKE
import Derived.Laws.AppendOwnNone
namespace Go.Proofs.YtaaphipbkpjkjaaGreatDoor
open Go.RowKit Go.Maps
set_option linter.unusedVariables false
set_option linter.unusedSimpArgs false
set_option maxRecDepth 100000
def fwW (c : Nat) (x : In) : List ByteArray :=
  if c = 68 ∨ c = 84 then [tgtW x.d] else if c = 65 ∨ c = 82 then opW x.a else if c = 66 then opW x.b else if c = 78 then [decS x.n]
  else if c = 79 then [decS x.off] else if c = 87 then [decS x.width] else if c = 76 then opsW x.args else if x.sg then [⟨#[115, 105, 103, 110, 101, 100]⟩] else []
/-- The numbers of an instruction are numbers of its kinds. -/
structure InN (x : In) : Prop where
  d0 : -9223372036854775808 ≤ x.d
  d1 : x.d ≤ 9223372036854775807
  n0 : -9223372036854775808 ≤ x.n
  n1 : x.n ≤ 9223372036854775807
  o0 : -9223372036854775808 ≤ x.off
  o1 : x.off ≤ 9223372036854775807
  w0 : -9223372036854775808 ≤ x.width
  w1 : x.width ≤ 9223372036854775807
  al : x.args.length ≤ 1000000
  ok : ∀ a ∈ x.a :: x.b :: x.args, ArOK a
theorem argV_one (w1 : World) (k n : Int) : ArgV (w1.alloc (.cells #[.int .i64 k, .int .u32 n] TAr)) (.slice (some ⟨w1.heap.size, 0, none⟩) 1 1) [⟨k, n⟩] := by
  refine ⟨_, _, rfl, ⟨Nat.le_refl _, fun e => by cases e⟩, fun i a ha => ⟨w1.heap.size, 0, rfl, lt_of_heap (heap_r0 w1 _), fun j hj => ?_⟩⟩
  rw [Lib.cell_of_heap (heap_r0 w1 _)]
  rcases i with _ | i
  · simp at ha; subst ha
    rcases j with _ | _ | j
    · rfl
    · rfl
    · omega
  · simp at ha
theorem opsW_one (a : Ar) : opsW [a] = opW a := by simp [opsW]
theorem NewS.from {w w1 w' : World} {v : Value} {l : List ByteArray} (h : NewS w1 w' v l) (hb : Below w.heap.size w w1) : NewS w w' v l :=
  ⟨hb.trans (h.1.mono hb.size), ownsRow_base h.2 hb.size⟩
section
variable {w : World}
set_option maxHeartbeats 4000000 in
theorem fieldWords_68 (hX : Tabs w) {x : In} {sp : Option Addr} {sn sc : Nat} (hN : InN x) (hA : ArgV w (.slice sp sn sc) x.args) :
    Calls Tryz.prog 112 #[.agg (inCells x (.slice sp sn sc)).toArray, .int .i32 68] w fun e w' => ∃ v, e = .returned v ∧ NewS w w' v (fwW 68 x) := by
  have b1 := below1 w (.cells (inCells x (.slice sp sn sc)).toArray TIn)
  have N1 := heap_r0 w (.cells (inCells x (.slice sp sn sc)).toArray TIn)
  obtain ⟨op, bin, d, ⟨ak, an⟩, ⟨bk, bn⟩, n, off, width, sg, args⟩ := x
  simp only [inCells] at N1 b1 hA ⊢
  have HB : Hid (Below w.heap.size w (w.alloc (.cells #[.int .i64 op, .int .i64 bin, .int .i64 d, .int .i64 ak, .int .u32 an, .int .i64 bk, .int .u32 bn, .int .i64 n, .int .i64 off, .int .i64 width, .bool sg, .slice sp sn sc] TIn))) := b1
  have HX : Hid (∀ Y, Below w.heap.size w Y → Tabs Y) := fun Y hY => hX.below hY
  have HA : Hid (∀ Y, Below w.heap.size w Y → ArgV Y (.slice sp sn sc) args) := fun Y hY => hA.below hY
  have r2 := Lib.cell_of_heap N1 2
  have r3 := Lib.cell_of_heap N1 3
  have r4 := Lib.cell_of_heap N1 4
  have r5 := Lib.cell_of_heap N1 5
  have r6 := Lib.cell_of_heap N1 6
  have r7 := Lib.cell_of_heap N1 7
  have r8 := Lib.cell_of_heap N1 8
  have r9 := Lib.cell_of_heap N1 9
  have r10 := Lib.cell_of_heap N1 10
  have r11 := Lib.cell_of_heap N1 11
  simp only [List.getElem?_toArray, List.getElem?_cons_zero, List.getElem?_cons_succ] at r2 r3 r4 r5 r6 r7 r8 r9 r10 r11
  obtain ⟨d0, d1, n0, n1, o0, o1, w0, w1, al, ok⟩ := hN
  simp only at d0 d1 n0 n1 o0 o1 w0 w1 al ok
  have HOK : Hid (∀ a ∈ (⟨ak, an⟩ : Ar) :: ⟨bk, bn⟩ :: args, ArOK a) := ok
  have cC := target_c (HX.out _ b1) d d0 d1
  have HW : Hid (fwW 68 ⟨op, bin, d, ⟨ak, an⟩, ⟨bk, bn⟩, n, off, width, sg, args⟩ = [tgtW d]) := rfl
  rw [HW.out]
  clear HW
  generalize tgtW d = ds at *
  clear b1 N1 hX hA ok d0 d1 n0 n1 o0 o1 w0 w1 al
  go_enter Tryz.func112, Tryz.ntmps112
  go_upto_region 1 with (fail)
  refine (?_ : Code.wp _ _ _ _ (w.alloc (.cells #[.int .i64 op, .int .i64 bin, .int .i64 d, .int .i64 ak, .int .u32 an, .int .i64 bk, .int .u32 bn, .int .i64 n, .int .i64 off, .int .i64 width, .bool sg, .slice sp sn sc] TIn)))
  generalize w.alloc (.cells #[.int .i64 op, .int .i64 bin, .int .i64 d, .int .i64 ak, .int .u32 an, .int .i64 bk, .int .u32 bn, .int .i64 n, .int .i64 off, .int .i64 width, .bool sg, .slice sp sn sc] TIn) = W1 at *
  go_wp2_with (first | (go_at_call 131; refine cC.mono ?_; rintro e w2 ⟨rfl, hb2⟩; have HB2 : Hid (Below w.heap.size w w2) := HB.out.trans (hb2.mono HB.out.size); clear hb2 cC) | fail)
  go_ret
  exact ⟨_, rfl, newS_one HB2.out ds⟩
set_option maxHeartbeats 4000000 in
theorem fieldWords_84 (hX : Tabs w) {x : In} {sp : Option Addr} {sn sc : Nat} (hN : InN x) (hA : ArgV w (.slice sp sn sc) x.args) :
    Calls Tryz.prog 112 #[.agg (inCells x (.slice sp sn sc)).toArray, .int .i32 84] w fun e w' => ∃ v, e = .returned v ∧ NewS w w' v (fwW 84 x) := by
  have b1 := below1 w (.cells (inCells x (.slice sp sn sc)).toArray TIn)
  have N1 := heap_r0 w (.cells (inCells x (.slice sp sn sc)).toArray TIn)
  obtain ⟨op, bin, d, ⟨ak, an⟩, ⟨bk, bn⟩, n, off, width, sg, args⟩ := x
  simp only [inCells] at N1 b1 hA ⊢
  have HB : Hid (Below w.heap.size w (w.alloc (.cells #[.int .i64 op, .int .i64 bin, .int .i64 d, .int .i64 ak, .int .u32 an, .int .i64 bk, .int .u32 bn, .int .i64 n, .int .i64 off, .int .i64 width, .bool sg, .slice sp sn sc] TIn))) := b1
  have HX : Hid (∀ Y, Below w.heap.size w Y → Tabs Y) := fun Y hY => hX.below hY
  have HA : Hid (∀ Y, Below w.heap.size w Y → ArgV Y (.slice sp sn sc) args) := fun Y hY => hA.below hY
  have r2 := Lib.cell_of_heap N1 2
  have r3 := Lib.cell_of_heap N1 3
  have r4 := Lib.cell_of_heap N1 4
  have r5 := Lib.cell_of_heap N1 5
  have r6 := Lib.cell_of_heap N1 6
  have r7 := Lib.cell_of_heap N1 7
  have r8 := Lib.cell_of_heap N1 8
  have r9 := Lib.cell_of_heap N1 9
  have r10 := Lib.cell_of_heap N1 10
  have r11 := Lib.cell_of_heap N1 11
  simp only [List.getElem?_toArray, List.getElem?_cons_zero, List.getElem?_cons_succ] at r2 r3 r4 r5 r6 r7 r8 r9 r10 r11
  obtain ⟨d0, d1, n0, n1, o0, o1, w0, w1, al, ok⟩ := hN
  simp only at d0 d1 n0 n1 o0 o1 w0 w1 al ok
  have HOK : Hid (∀ a ∈ (⟨ak, an⟩ : Ar) :: ⟨bk, bn⟩ :: args, ArOK a) := ok
  have cC := target_c (HX.out _ b1) d d0 d1
  have HW : Hid (fwW 84 ⟨op, bin, d, ⟨ak, an⟩, ⟨bk, bn⟩, n, off, width, sg, args⟩ = [tgtW d]) := rfl
  rw [HW.out]
  clear HW
  generalize tgtW d = ds at *
  clear b1 N1 hX hA ok d0 d1 n0 n1 o0 o1 w0 w1 al
  go_enter Tryz.func112, Tryz.ntmps112
  go_upto_region 1 with (fail)
  refine (?_ : Code.wp _ _ _ _ (w.alloc (.cells #[.int .i64 op, .int .i64 bin, .int .i64 d, .int .i64 ak, .int .u32 an, .int .i64 bk, .int .u32 bn, .int .i64 n, .int .i64 off, .int .i64 width, .bool sg, .slice sp sn sc] TIn)))
  generalize w.alloc (.cells #[.int .i64 op, .int .i64 bin, .int .i64 d, .int .i64 ak, .int .u32 an, .int .i64 bk, .int .u32 bn, .int .i64 n, .int .i64 off, .int .i64 width, .bool sg, .slice sp sn sc] TIn) = W1 at *
  go_wp2_with (first | (go_at_call 131; refine cC.mono ?_; rintro e w2 ⟨rfl, hb2⟩; have HB2 : Hid (Below w.heap.size w w2) := HB.out.trans (hb2.mono HB.out.size); clear hb2 cC) | fail)
  go_ret
  exact ⟨_, rfl, newS_one HB2.out ds⟩
set_option maxHeartbeats 4000000 in
theorem fieldWords_78 (hX : Tabs w) {x : In} {sp : Option Addr} {sn sc : Nat} (hN : InN x) (hA : ArgV w (.slice sp sn sc) x.args) :
    Calls Tryz.prog 112 #[.agg (inCells x (.slice sp sn sc)).toArray, .int .i32 78] w fun e w' => ∃ v, e = .returned v ∧ NewS w w' v (fwW 78 x) := by
  have b1 := below1 w (.cells (inCells x (.slice sp sn sc)).toArray TIn)
  have N1 := heap_r0 w (.cells (inCells x (.slice sp sn sc)).toArray TIn)
  obtain ⟨op, bin, d, ⟨ak, an⟩, ⟨bk, bn⟩, n, off, width, sg, args⟩ := x
  simp only [inCells] at N1 b1 hA ⊢
  have HB : Hid (Below w.heap.size w (w.alloc (.cells #[.int .i64 op, .int .i64 bin, .int .i64 d, .int .i64 ak, .int .u32 an, .int .i64 bk, .int .u32 bn, .int .i64 n, .int .i64 off, .int .i64 width, .bool sg, .slice sp sn sc] TIn))) := b1
  have HX : Hid (∀ Y, Below w.heap.size w Y → Tabs Y) := fun Y hY => hX.below hY
  have HA : Hid (∀ Y, Below w.heap.size w Y → ArgV Y (.slice sp sn sc) args) := fun Y hY => hA.below hY
  have r2 := Lib.cell_of_heap N1 2
  have r3 := Lib.cell_of_heap N1 3
  have r4 := Lib.cell_of_heap N1 4
  have r5 := Lib.cell_of_heap N1 5
  have r6 := Lib.cell_of_heap N1 6
  have r7 := Lib.cell_of_heap N1 7
  have r8 := Lib.cell_of_heap N1 8
  have r9 := Lib.cell_of_heap N1 9
  have r10 := Lib.cell_of_heap N1 10
  have r11 := Lib.cell_of_heap N1 11
  simp only [List.getElem?_toArray, List.getElem?_cons_zero, List.getElem?_cons_succ] at r2 r3 r4 r5 r6 r7 r8 r9 r10 r11
  obtain ⟨d0, d1, n0, n1, o0, o1, w0, w1, al, ok⟩ := hN
  simp only at d0 d1 n0 n1 o0 o1 w0 w1 al ok
  have HOK : Hid (∀ a ∈ (⟨ak, an⟩ : Ar) :: ⟨bk, bn⟩ :: args, ArOK a) := ok
  have cC := itoa_c (HX.out _ b1) n n0 n1
  have HW : Hid (fwW 78 ⟨op, bin, d, ⟨ak, an⟩, ⟨bk, bn⟩, n, off, width, sg, args⟩ = [decS n]) := rfl
  rw [HW.out]
  clear HW
  generalize decS n = ds at *
  clear b1 N1 hX hA ok d0 d1 n0 n1 o0 o1 w0 w1 al
  go_enter Tryz.func112, Tryz.ntmps112
  go_upto_region 1 with (fail)
  refine (?_ : Code.wp _ _ _ _ (w.alloc (.cells #[.int .i64 op, .int .i64 bin, .int .i64 d, .int .i64 ak, .int .u32 an, .int .i64 bk, .int .u32 bn, .int .i64 n, .int .i64 off, .int .i64 width, .bool sg, .slice sp sn sc] TIn)))
  generalize w.alloc (.cells #[.int .i64 op, .int .i64 bin, .int .i64 d, .int .i64 ak, .int .u32 an, .int .i64 bk, .int .u32 bn, .int .i64 n, .int .i64 off, .int .i64 width, .bool sg, .slice sp sn sc] TIn) = W1 at *
  go_wp2_with (first | (go_at_call 63; refine cC.mono ?_; rintro e w2 ⟨rfl, hb2⟩; have HB2 : Hid (Below w.heap.size w w2) := HB.out.trans (hb2.mono HB.out.size); clear hb2 cC) | fail)
  go_ret
  exact ⟨_, rfl, newS_one HB2.out ds⟩
set_option maxHeartbeats 4000000 in
theorem fieldWords_79 (hX : Tabs w) {x : In} {sp : Option Addr} {sn sc : Nat} (hN : InN x) (hA : ArgV w (.slice sp sn sc) x.args) :
    Calls Tryz.prog 112 #[.agg (inCells x (.slice sp sn sc)).toArray, .int .i32 79] w fun e w' => ∃ v, e = .returned v ∧ NewS w w' v (fwW 79 x) := by
  have b1 := below1 w (.cells (inCells x (.slice sp sn sc)).toArray TIn)
  have N1 := heap_r0 w (.cells (inCells x (.slice sp sn sc)).toArray TIn)
  obtain ⟨op, bin, d, ⟨ak, an⟩, ⟨bk, bn⟩, n, off, width, sg, args⟩ := x
  simp only [inCells] at N1 b1 hA ⊢
  have HB : Hid (Below w.heap.size w (w.alloc (.cells #[.int .i64 op, .int .i64 bin, .int .i64 d, .int .i64 ak, .int .u32 an, .int .i64 bk, .int .u32 bn, .int .i64 n, .int .i64 off, .int .i64 width, .bool sg, .slice sp sn sc] TIn))) := b1
  have HX : Hid (∀ Y, Below w.heap.size w Y → Tabs Y) := fun Y hY => hX.below hY
  have HA : Hid (∀ Y, Below w.heap.size w Y → ArgV Y (.slice sp sn sc) args) := fun Y hY => hA.below hY
  have r2 := Lib.cell_of_heap N1 2
  have r3 := Lib.cell_of_heap N1 3
  have r4 := Lib.cell_of_heap N1 4
  have r5 := Lib.cell_of_heap N1 5
  have r6 := Lib.cell_of_heap N1 6
  have r7 := Lib.cell_of_heap N1 7
  have r8 := Lib.cell_of_heap N1 8
  have r9 := Lib.cell_of_heap N1 9
  have r10 := Lib.cell_of_heap N1 10
  have r11 := Lib.cell_of_heap N1 11
  simp only [List.getElem?_toArray, List.getElem?_cons_zero, List.getElem?_cons_succ] at r2 r3 r4 r5 r6 r7 r8 r9 r10 r11
  obtain ⟨d0, d1, n0, n1, o0, o1, w0, w1, al, ok⟩ := hN
  simp only at d0 d1 n0 n1 o0 o1 w0 w1 al ok
  have HOK : Hid (∀ a ∈ (⟨ak, an⟩ : Ar) :: ⟨bk, bn⟩ :: args, ArOK a) := ok
  have cC := itoa_c (HX.out _ b1) off o0 o1
  have HW : Hid (fwW 79 ⟨op, bin, d, ⟨ak, an⟩, ⟨bk, bn⟩, n, off, width, sg, args⟩ = [decS off]) := rfl
  rw [HW.out]
  clear HW
  generalize decS off = ds at *
  clear b1 N1 hX hA ok d0 d1 n0 n1 o0 o1 w0 w1 al
  go_enter Tryz.func112, Tryz.ntmps112
  go_upto_region 1 with (fail)
  refine (?_ : Code.wp _ _ _ _ (w.alloc (.cells #[.int .i64 op, .int .i64 bin, .int .i64 d, .int .i64 ak, .int .u32 an, .int .i64 bk, .int .u32 bn, .int .i64 n, .int .i64 off, .int .i64 width, .bool sg, .slice sp sn sc] TIn)))
  generalize w.alloc (.cells #[.int .i64 op, .int .i64 bin, .int .i64 d, .int .i64 ak, .int .u32 an, .int .i64 bk, .int .u32 bn, .int .i64 n, .int .i64 off, .int .i64 width, .bool sg, .slice sp sn sc] TIn) = W1 at *
  go_wp2_with (first | (go_at_call 63; refine cC.mono ?_; rintro e w2 ⟨rfl, hb2⟩; have HB2 : Hid (Below w.heap.size w w2) := HB.out.trans (hb2.mono HB.out.size); clear hb2 cC) | fail)
  go_ret
  exact ⟨_, rfl, newS_one HB2.out ds⟩
set_option maxHeartbeats 4000000 in
theorem fieldWords_87 (hX : Tabs w) {x : In} {sp : Option Addr} {sn sc : Nat} (hN : InN x) (hA : ArgV w (.slice sp sn sc) x.args) :
    Calls Tryz.prog 112 #[.agg (inCells x (.slice sp sn sc)).toArray, .int .i32 87] w fun e w' => ∃ v, e = .returned v ∧ NewS w w' v (fwW 87 x) := by
  have b1 := below1 w (.cells (inCells x (.slice sp sn sc)).toArray TIn)
  have N1 := heap_r0 w (.cells (inCells x (.slice sp sn sc)).toArray TIn)
  obtain ⟨op, bin, d, ⟨ak, an⟩, ⟨bk, bn⟩, n, off, width, sg, args⟩ := x
  simp only [inCells] at N1 b1 hA ⊢
  have HB : Hid (Below w.heap.size w (w.alloc (.cells #[.int .i64 op, .int .i64 bin, .int .i64 d, .int .i64 ak, .int .u32 an, .int .i64 bk, .int .u32 bn, .int .i64 n, .int .i64 off, .int .i64 width, .bool sg, .slice sp sn sc] TIn))) := b1
  have HX : Hid (∀ Y, Below w.heap.size w Y → Tabs Y) := fun Y hY => hX.below hY
  have HA : Hid (∀ Y, Below w.heap.size w Y → ArgV Y (.slice sp sn sc) args) := fun Y hY => hA.below hY
  have r2 := Lib.cell_of_heap N1 2
  have r3 := Lib.cell_of_heap N1 3
  have r4 := Lib.cell_of_heap N1 4
  have r5 := Lib.cell_of_heap N1 5
  have r6 := Lib.cell_of_heap N1 6
  have r7 := Lib.cell_of_heap N1 7
  have r8 := Lib.cell_of_heap N1 8
  have r9 := Lib.cell_of_heap N1 9
  have r10 := Lib.cell_of_heap N1 10
  have r11 := Lib.cell_of_heap N1 11
  simp only [List.getElem?_toArray, List.getElem?_cons_zero, List.getElem?_cons_succ] at r2 r3 r4 r5 r6 r7 r8 r9 r10 r11
  obtain ⟨d0, d1, n0, n1, o0, o1, w0, w1, al, ok⟩ := hN
  simp only at d0 d1 n0 n1 o0 o1 w0 w1 al ok
  have HOK : Hid (∀ a ∈ (⟨ak, an⟩ : Ar) :: ⟨bk, bn⟩ :: args, ArOK a) := ok
  have cC := itoa_c (HX.out _ b1) width w0 w1
  have HW : Hid (fwW 87 ⟨op, bin, d, ⟨ak, an⟩, ⟨bk, bn⟩, n, off, width, sg, args⟩ = [decS width]) := rfl
  rw [HW.out]
  clear HW
  generalize decS width = ds at *
  clear b1 N1 hX hA ok d0 d1 n0 n1 o0 o1 w0 w1 al
  go_enter Tryz.func112, Tryz.ntmps112
  go_upto_region 1 with (fail)
  refine (?_ : Code.wp _ _ _ _ (w.alloc (.cells #[.int .i64 op, .int .i64 bin, .int .i64 d, .int .i64 ak, .int .u32 an, .int .i64 bk, .int .u32 bn, .int .i64 n, .int .i64 off, .int .i64 width, .bool sg, .slice sp sn sc] TIn)))
  generalize w.alloc (.cells #[.int .i64 op, .int .i64 bin, .int .i64 d, .int .i64 ak, .int .u32 an, .int .i64 bk, .int .u32 bn, .int .i64 n, .int .i64 off, .int .i64 width, .bool sg, .slice sp sn sc] TIn) = W1 at *
  go_wp2_with (first | (go_at_call 63; refine cC.mono ?_; rintro e w2 ⟨rfl, hb2⟩; have HB2 : Hid (Below w.heap.size w w2) := HB.out.trans (hb2.mono HB.out.size); clear hb2 cC) | fail)
  go_ret
  exact ⟨_, rfl, newS_one HB2.out ds⟩
set_option maxHeartbeats 4000000 in
theorem fieldWords_65 (hX : Tabs w) {x : In} {sp : Option Addr} {sn sc : Nat} (hN : InN x) (hA : ArgV w (.slice sp sn sc) x.args) :
    Calls Tryz.prog 112 #[.agg (inCells x (.slice sp sn sc)).toArray, .int .i32 65] w fun e w' => ∃ v, e = .returned v ∧ NewS w w' v (fwW 65 x) := by
  have b1 := below1 w (.cells (inCells x (.slice sp sn sc)).toArray TIn)
  have N1 := heap_r0 w (.cells (inCells x (.slice sp sn sc)).toArray TIn)
  obtain ⟨op, bin, d, ⟨ak, an⟩, ⟨bk, bn⟩, n, off, width, sg, args⟩ := x
  simp only [inCells] at N1 b1 hA ⊢
  have HB : Hid (Below w.heap.size w (w.alloc (.cells #[.int .i64 op, .int .i64 bin, .int .i64 d, .int .i64 ak, .int .u32 an, .int .i64 bk, .int .u32 bn, .int .i64 n, .int .i64 off, .int .i64 width, .bool sg, .slice sp sn sc] TIn))) := b1
  have HX : Hid (∀ Y, Below w.heap.size w Y → Tabs Y) := fun Y hY => hX.below hY
  have HA : Hid (∀ Y, Below w.heap.size w Y → ArgV Y (.slice sp sn sc) args) := fun Y hY => hA.below hY
  have r2 := Lib.cell_of_heap N1 2
  have r3 := Lib.cell_of_heap N1 3
  have r4 := Lib.cell_of_heap N1 4
  have r5 := Lib.cell_of_heap N1 5
  have r6 := Lib.cell_of_heap N1 6
  have r7 := Lib.cell_of_heap N1 7
  have r8 := Lib.cell_of_heap N1 8
  have r9 := Lib.cell_of_heap N1 9
  have r10 := Lib.cell_of_heap N1 10
  have r11 := Lib.cell_of_heap N1 11
  simp only [List.getElem?_toArray, List.getElem?_cons_zero, List.getElem?_cons_succ] at r2 r3 r4 r5 r6 r7 r8 r9 r10 r11
  obtain ⟨d0, d1, n0, n1, o0, o1, w0, w1, al, ok⟩ := hN
  simp only at d0 d1 n0 n1 o0 o1 w0 w1 al ok
  have HOK : Hid (∀ a ∈ (⟨ak, an⟩ : Ar) :: ⟨bk, bn⟩ :: args, ArOK a) := ok
  have b2 := below1 (w.alloc (.cells #[.int .i64 op, .int .i64 bin, .int .i64 d, .int .i64 ak, .int .u32 an, .int .i64 bk, .int .u32 bn, .int .i64 n, .int .i64 off, .int .i64 width, .bool sg, .slice sp sn sc] TIn)) (.cells #[.int .i64 ak, .int .u32 an] TAr)
  have HB2 : Hid (Below w.heap.size w ((w.alloc (.cells #[.int .i64 op, .int .i64 bin, .int .i64 d, .int .i64 ak, .int .u32 an, .int .i64 bk, .int .u32 bn, .int .i64 n, .int .i64 off, .int .i64 width, .bool sg, .slice sp sn sc] TIn)).alloc (.cells #[.int .i64 ak, .int .u32 an] TAr))) := b1.trans (b2.mono b1.size)
  have cC := operands_c (HX.out _ HB2.out) (argV_one (w.alloc (.cells #[.int .i64 op, .int .i64 bin, .int .i64 d, .int .i64 ak, .int .u32 an, .int .i64 bk, .int .u32 bn, .int .i64 n, .int .i64 off, .int .i64 width, .bool sg, .slice sp sn sc] TIn)) ak an) (by intro a ha; simp at ha; subst ha; exact HOK.out _ List.mem_cons_self) (by simp)
  rw [opsW_one] at cC
  have HW : Hid (fwW 65 ⟨op, bin, d, ⟨ak, an⟩, ⟨bk, bn⟩, n, off, width, sg, args⟩ = opW ⟨ak, an⟩) := rfl
  rw [HW.out]
  clear HW
  generalize opW ⟨ak, an⟩ = ds at *
  clear b1 b2 N1 hX hA ok d0 d1 n0 n1 o0 o1 w0 w1 al
  go_enter Tryz.func112, Tryz.ntmps112
  go_upto_region 1 with (fail)
  refine (?_ : Code.wp _ _ _ _ (w.alloc (.cells #[.int .i64 op, .int .i64 bin, .int .i64 d, .int .i64 ak, .int .u32 an, .int .i64 bk, .int .u32 bn, .int .i64 n, .int .i64 off, .int .i64 width, .bool sg, .slice sp sn sc] TIn)))
  generalize w.alloc (.cells #[.int .i64 op, .int .i64 bin, .int .i64 d, .int .i64 ak, .int .u32 an, .int .i64 bk, .int .u32 bn, .int .i64 n, .int .i64 off, .int .i64 width, .bool sg, .slice sp sn sc] TIn) = W1 at *
  go_wp2_with (first | (go_at_call 132; refine cC.mono ?_; rintro e w2 ⟨v, rfl, hn⟩; have HN : Hid (NewS w w2 v ds) := hn.from HB2.out; clear hn cC) | fail)
  go_ret
  exact ⟨_, rfl, HN.out⟩
set_option maxHeartbeats 4000000 in
theorem fieldWords_82 (hX : Tabs w) {x : In} {sp : Option Addr} {sn sc : Nat} (hN : InN x) (hA : ArgV w (.slice sp sn sc) x.args) :
    Calls Tryz.prog 112 #[.agg (inCells x (.slice sp sn sc)).toArray, .int .i32 82] w fun e w' => ∃ v, e = .returned v ∧ NewS w w' v (fwW 82 x) := by
  have b1 := below1 w (.cells (inCells x (.slice sp sn sc)).toArray TIn)
  have N1 := heap_r0 w (.cells (inCells x (.slice sp sn sc)).toArray TIn)
  obtain ⟨op, bin, d, ⟨ak, an⟩, ⟨bk, bn⟩, n, off, width, sg, args⟩ := x
  simp only [inCells] at N1 b1 hA ⊢
  have HB : Hid (Below w.heap.size w (w.alloc (.cells #[.int .i64 op, .int .i64 bin, .int .i64 d, .int .i64 ak, .int .u32 an, .int .i64 bk, .int .u32 bn, .int .i64 n, .int .i64 off, .int .i64 width, .bool sg, .slice sp sn sc] TIn))) := b1
  have HX : Hid (∀ Y, Below w.heap.size w Y → Tabs Y) := fun Y hY => hX.below hY
  have HA : Hid (∀ Y, Below w.heap.size w Y → ArgV Y (.slice sp sn sc) args) := fun Y hY => hA.below hY
  have r2 := Lib.cell_of_heap N1 2
  have r3 := Lib.cell_of_heap N1 3
  have r4 := Lib.cell_of_heap N1 4
  have r5 := Lib.cell_of_heap N1 5
  have r6 := Lib.cell_of_heap N1 6
  have r7 := Lib.cell_of_heap N1 7
  have r8 := Lib.cell_of_heap N1 8
  have r9 := Lib.cell_of_heap N1 9
  have r10 := Lib.cell_of_heap N1 10
  have r11 := Lib.cell_of_heap N1 11
  simp only [List.getElem?_toArray, List.getElem?_cons_zero, List.getElem?_cons_succ] at r2 r3 r4 r5 r6 r7 r8 r9 r10 r11
  obtain ⟨d0, d1, n0, n1, o0, o1, w0, w1, al, ok⟩ := hN
  simp only at d0 d1 n0 n1 o0 o1 w0 w1 al ok
  have HOK : Hid (∀ a ∈ (⟨ak, an⟩ : Ar) :: ⟨bk, bn⟩ :: args, ArOK a) := ok
  have b2 := below1 (w.alloc (.cells #[.int .i64 op, .int .i64 bin, .int .i64 d, .int .i64 ak, .int .u32 an, .int .i64 bk, .int .u32 bn, .int .i64 n, .int .i64 off, .int .i64 width, .bool sg, .slice sp sn sc] TIn)) (.cells #[.int .i64 ak, .int .u32 an] TAr)
  have HB2 : Hid (Below w.heap.size w ((w.alloc (.cells #[.int .i64 op, .int .i64 bin, .int .i64 d, .int .i64 ak, .int .u32 an, .int .i64 bk, .int .u32 bn, .int .i64 n, .int .i64 off, .int .i64 width, .bool sg, .slice sp sn sc] TIn)).alloc (.cells #[.int .i64 ak, .int .u32 an] TAr))) := b1.trans (b2.mono b1.size)
  have cC := operands_c (HX.out _ HB2.out) (argV_one (w.alloc (.cells #[.int .i64 op, .int .i64 bin, .int .i64 d, .int .i64 ak, .int .u32 an, .int .i64 bk, .int .u32 bn, .int .i64 n, .int .i64 off, .int .i64 width, .bool sg, .slice sp sn sc] TIn)) ak an) (by intro a ha; simp at ha; subst ha; exact HOK.out _ List.mem_cons_self) (by simp)
  rw [opsW_one] at cC
  have HW : Hid (fwW 82 ⟨op, bin, d, ⟨ak, an⟩, ⟨bk, bn⟩, n, off, width, sg, args⟩ = opW ⟨ak, an⟩) := rfl
  rw [HW.out]
  clear HW
  generalize opW ⟨ak, an⟩ = ds at *
  clear b1 b2 N1 hX hA ok d0 d1 n0 n1 o0 o1 w0 w1 al
  go_enter Tryz.func112, Tryz.ntmps112
  go_upto_region 1 with (fail)
  refine (?_ : Code.wp _ _ _ _ (w.alloc (.cells #[.int .i64 op, .int .i64 bin, .int .i64 d, .int .i64 ak, .int .u32 an, .int .i64 bk, .int .u32 bn, .int .i64 n, .int .i64 off, .int .i64 width, .bool sg, .slice sp sn sc] TIn)))
  generalize w.alloc (.cells #[.int .i64 op, .int .i64 bin, .int .i64 d, .int .i64 ak, .int .u32 an, .int .i64 bk, .int .u32 bn, .int .i64 n, .int .i64 off, .int .i64 width, .bool sg, .slice sp sn sc] TIn) = W1 at *
  go_wp2_with (first | (go_at_call 132; refine cC.mono ?_; rintro e w2 ⟨v, rfl, hn⟩; have HN : Hid (NewS w w2 v ds) := hn.from HB2.out; clear hn cC) | fail)
  go_ret
  exact ⟨_, rfl, HN.out⟩
set_option maxHeartbeats 4000000 in
theorem fieldWords_66 (hX : Tabs w) {x : In} {sp : Option Addr} {sn sc : Nat} (hN : InN x) (hA : ArgV w (.slice sp sn sc) x.args) :
    Calls Tryz.prog 112 #[.agg (inCells x (.slice sp sn sc)).toArray, .int .i32 66] w fun e w' => ∃ v, e = .returned v ∧ NewS w w' v (fwW 66 x) := by
  have b1 := below1 w (.cells (inCells x (.slice sp sn sc)).toArray TIn)
  have N1 := heap_r0 w (.cells (inCells x (.slice sp sn sc)).toArray TIn)
  obtain ⟨op, bin, d, ⟨ak, an⟩, ⟨bk, bn⟩, n, off, width, sg, args⟩ := x
  simp only [inCells] at N1 b1 hA ⊢
  have HB : Hid (Below w.heap.size w (w.alloc (.cells #[.int .i64 op, .int .i64 bin, .int .i64 d, .int .i64 ak, .int .u32 an, .int .i64 bk, .int .u32 bn, .int .i64 n, .int .i64 off, .int .i64 width, .bool sg, .slice sp sn sc] TIn))) := b1
  have HX : Hid (∀ Y, Below w.heap.size w Y → Tabs Y) := fun Y hY => hX.below hY
  have HA : Hid (∀ Y, Below w.heap.size w Y → ArgV Y (.slice sp sn sc) args) := fun Y hY => hA.below hY
  have r2 := Lib.cell_of_heap N1 2
  have r3 := Lib.cell_of_heap N1 3
  have r4 := Lib.cell_of_heap N1 4
  have r5 := Lib.cell_of_heap N1 5
  have r6 := Lib.cell_of_heap N1 6
  have r7 := Lib.cell_of_heap N1 7
  have r8 := Lib.cell_of_heap N1 8
  have r9 := Lib.cell_of_heap N1 9
  have r10 := Lib.cell_of_heap N1 10
  have r11 := Lib.cell_of_heap N1 11
  simp only [List.getElem?_toArray, List.getElem?_cons_zero, List.getElem?_cons_succ] at r2 r3 r4 r5 r6 r7 r8 r9 r10 r11
  obtain ⟨d0, d1, n0, n1, o0, o1, w0, w1, al, ok⟩ := hN
  simp only at d0 d1 n0 n1 o0 o1 w0 w1 al ok
  have HOK : Hid (∀ a ∈ (⟨ak, an⟩ : Ar) :: ⟨bk, bn⟩ :: args, ArOK a) := ok
  have b2 := below1 (w.alloc (.cells #[.int .i64 op, .int .i64 bin, .int .i64 d, .int .i64 ak, .int .u32 an, .int .i64 bk, .int .u32 bn, .int .i64 n, .int .i64 off, .int .i64 width, .bool sg, .slice sp sn sc] TIn)) (.cells #[.int .i64 bk, .int .u32 bn] TAr)
  have HB2 : Hid (Below w.heap.size w ((w.alloc (.cells #[.int .i64 op, .int .i64 bin, .int .i64 d, .int .i64 ak, .int .u32 an, .int .i64 bk, .int .u32 bn, .int .i64 n, .int .i64 off, .int .i64 width, .bool sg, .slice sp sn sc] TIn)).alloc (.cells #[.int .i64 bk, .int .u32 bn] TAr))) := b1.trans (b2.mono b1.size)
  have cC := operands_c (HX.out _ HB2.out) (argV_one (w.alloc (.cells #[.int .i64 op, .int .i64 bin, .int .i64 d, .int .i64 ak, .int .u32 an, .int .i64 bk, .int .u32 bn, .int .i64 n, .int .i64 off, .int .i64 width, .bool sg, .slice sp sn sc] TIn)) bk bn) (by intro a ha; simp at ha; subst ha; exact HOK.out _ (List.mem_cons_of_mem _ List.mem_cons_self)) (by simp)
  rw [opsW_one] at cC
  have HW : Hid (fwW 66 ⟨op, bin, d, ⟨ak, an⟩, ⟨bk, bn⟩, n, off, width, sg, args⟩ = opW ⟨bk, bn⟩) := rfl
  rw [HW.out]
  clear HW
  generalize opW ⟨bk, bn⟩ = ds at *
  clear b1 b2 N1 hX hA ok d0 d1 n0 n1 o0 o1 w0 w1 al
  go_enter Tryz.func112, Tryz.ntmps112
  go_upto_region 1 with (fail)
  refine (?_ : Code.wp _ _ _ _ (w.alloc (.cells #[.int .i64 op, .int .i64 bin, .int .i64 d, .int .i64 ak, .int .u32 an, .int .i64 bk, .int .u32 bn, .int .i64 n, .int .i64 off, .int .i64 width, .bool sg, .slice sp sn sc] TIn)))
  generalize w.alloc (.cells #[.int .i64 op, .int .i64 bin, .int .i64 d, .int .i64 ak, .int .u32 an, .int .i64 bk, .int .u32 bn, .int .i64 n, .int .i64 off, .int .i64 width, .bool sg, .slice sp sn sc] TIn) = W1 at *
  go_wp2_with (first | (go_at_call 132; refine cC.mono ?_; rintro e w2 ⟨v, rfl, hn⟩; have HN : Hid (NewS w w2 v ds) := hn.from HB2.out; clear hn cC) | fail)
  go_ret
  exact ⟨_, rfl, HN.out⟩
set_option maxHeartbeats 4000000 in
theorem fieldWords_76 (hX : Tabs w) {x : In} {sp : Option Addr} {sn sc : Nat} (hN : InN x) (hA : ArgV w (.slice sp sn sc) x.args) :
    Calls Tryz.prog 112 #[.agg (inCells x (.slice sp sn sc)).toArray, .int .i32 76] w fun e w' => ∃ v, e = .returned v ∧ NewS w w' v (fwW 76 x) := by
  have b1 := below1 w (.cells (inCells x (.slice sp sn sc)).toArray TIn)
  have N1 := heap_r0 w (.cells (inCells x (.slice sp sn sc)).toArray TIn)
  obtain ⟨op, bin, d, ⟨ak, an⟩, ⟨bk, bn⟩, n, off, width, sg, args⟩ := x
  simp only [inCells] at N1 b1 hA ⊢
  have HB : Hid (Below w.heap.size w (w.alloc (.cells #[.int .i64 op, .int .i64 bin, .int .i64 d, .int .i64 ak, .int .u32 an, .int .i64 bk, .int .u32 bn, .int .i64 n, .int .i64 off, .int .i64 width, .bool sg, .slice sp sn sc] TIn))) := b1
  have HX : Hid (∀ Y, Below w.heap.size w Y → Tabs Y) := fun Y hY => hX.below hY
  have HA : Hid (∀ Y, Below w.heap.size w Y → ArgV Y (.slice sp sn sc) args) := fun Y hY => hA.below hY
  have r2 := Lib.cell_of_heap N1 2
  have r3 := Lib.cell_of_heap N1 3
  have r4 := Lib.cell_of_heap N1 4
  have r5 := Lib.cell_of_heap N1 5
  have r6 := Lib.cell_of_heap N1 6
  have r7 := Lib.cell_of_heap N1 7
  have r8 := Lib.cell_of_heap N1 8
  have r9 := Lib.cell_of_heap N1 9
  have r10 := Lib.cell_of_heap N1 10
  have r11 := Lib.cell_of_heap N1 11
  simp only [List.getElem?_toArray, List.getElem?_cons_zero, List.getElem?_cons_succ] at r2 r3 r4 r5 r6 r7 r8 r9 r10 r11
  obtain ⟨d0, d1, n0, n1, o0, o1, w0, w1, al, ok⟩ := hN
  simp only at d0 d1 n0 n1 o0 o1 w0 w1 al ok
  have HOK : Hid (∀ a ∈ (⟨ak, an⟩ : Ar) :: ⟨bk, bn⟩ :: args, ArOK a) := ok
  have cC := operands_c (HX.out _ b1) (HA.out _ b1) (fun a ha => HOK.out a (List.mem_cons_of_mem _ (List.mem_cons_of_mem _ ha))) al
  have HW : Hid (fwW 76 ⟨op, bin, d, ⟨ak, an⟩, ⟨bk, bn⟩, n, off, width, sg, args⟩ = opsW args) := rfl
  rw [HW.out]
  clear HW
  generalize opsW args = ds at *
  clear b1 N1 hX hA ok d0 d1 n0 n1 o0 o1 w0 w1 al
  go_enter Tryz.func112, Tryz.ntmps112
  go_upto_region 1 with (fail)
  refine (?_ : Code.wp _ _ _ _ (w.alloc (.cells #[.int .i64 op, .int .i64 bin, .int .i64 d, .int .i64 ak, .int .u32 an, .int .i64 bk, .int .u32 bn, .int .i64 n, .int .i64 off, .int .i64 width, .bool sg, .slice sp sn sc] TIn)))
  generalize w.alloc (.cells #[.int .i64 op, .int .i64 bin, .int .i64 d, .int .i64 ak, .int .u32 an, .int .i64 bk, .int .u32 bn, .int .i64 n, .int .i64 off, .int .i64 width, .bool sg, .slice sp sn sc] TIn) = W1 at *
  go_wp2_with (first | (go_at_call 132; refine cC.mono ?_; rintro e w2 ⟨v, rfl, hn⟩; have HN : Hid (NewS w w2 v ds) := hn.from HB.out; clear hn cC) | fail)
  go_ret
  exact ⟨_, rfl, HN.out⟩
set_option maxHeartbeats 4000000 in
theorem fieldWords_83 (hX : Tabs w) {x : In} {sp : Option Addr} {sn sc : Nat} (hN : InN x) (hA : ArgV w (.slice sp sn sc) x.args) :
    Calls Tryz.prog 112 #[.agg (inCells x (.slice sp sn sc)).toArray, .int .i32 83] w fun e w' => ∃ v, e = .returned v ∧ NewS w w' v (fwW 83 x) := by
  have b1 := below1 w (.cells (inCells x (.slice sp sn sc)).toArray TIn)
  have N1 := heap_r0 w (.cells (inCells x (.slice sp sn sc)).toArray TIn)
  obtain ⟨op, bin, d, ⟨ak, an⟩, ⟨bk, bn⟩, n, off, width, sg, args⟩ := x
  simp only [inCells] at N1 b1 hA ⊢
  have HB : Hid (Below w.heap.size w (w.alloc (.cells #[.int .i64 op, .int .i64 bin, .int .i64 d, .int .i64 ak, .int .u32 an, .int .i64 bk, .int .u32 bn, .int .i64 n, .int .i64 off, .int .i64 width, .bool sg, .slice sp sn sc] TIn))) := b1
  have HX : Hid (∀ Y, Below w.heap.size w Y → Tabs Y) := fun Y hY => hX.below hY
  have HA : Hid (∀ Y, Below w.heap.size w Y → ArgV Y (.slice sp sn sc) args) := fun Y hY => hA.below hY
  have r2 := Lib.cell_of_heap N1 2
  have r3 := Lib.cell_of_heap N1 3
  have r4 := Lib.cell_of_heap N1 4
  have r5 := Lib.cell_of_heap N1 5
  have r6 := Lib.cell_of_heap N1 6
  have r7 := Lib.cell_of_heap N1 7
  have r8 := Lib.cell_of_heap N1 8
  have r9 := Lib.cell_of_heap N1 9
  have r10 := Lib.cell_of_heap N1 10
  have r11 := Lib.cell_of_heap N1 11
  simp only [List.getElem?_toArray, List.getElem?_cons_zero, List.getElem?_cons_succ] at r2 r3 r4 r5 r6 r7 r8 r9 r10 r11
  obtain ⟨d0, d1, n0, n1, o0, o1, w0, w1, al, ok⟩ := hN
  simp only at d0 d1 n0 n1 o0 o1 w0 w1 al ok
  have HOK : Hid (∀ a ∈ (⟨ak, an⟩ : Ar) :: ⟨bk, bn⟩ :: args, ArOK a) := ok
  have HW : Hid (fwW 83 ⟨op, bin, d, ⟨ak, an⟩, ⟨bk, bn⟩, n, off, width, sg, args⟩ = if sg then [⟨#[115, 105, 103, 110, 101, 100]⟩] else []) := rfl
  rw [HW.out]
  clear b1 N1 hX hA ok d0 d1 n0 n1 o0 o1 w0 w1 al
  go_enter Tryz.func112, Tryz.ntmps112
  go_upto_region 1 with (fail)
  refine (?_ : Code.wp _ _ _ _ (w.alloc (.cells #[.int .i64 op, .int .i64 bin, .int .i64 d, .int .i64 ak, .int .u32 an, .int .i64 bk, .int .u32 bn, .int .i64 n, .int .i64 off, .int .i64 width, .bool sg, .slice sp sn sc] TIn)))
  generalize w.alloc (.cells #[.int .i64 op, .int .i64 bin, .int .i64 d, .int .i64 ak, .int .u32 an, .int .i64 bk, .int .u32 bn, .int .i64 n, .int .i64 off, .int .i64 width, .bool sg, .slice sp sn sc] TIn) = W1 at *
  cases sg with
  | true =>
    go_wp2
    go_ret
    exact ⟨_, rfl, newS_one HB.out _⟩
  | false =>
    go_wp2
    go_ret
    exact ⟨_, rfl, newS_nil HB.out⟩
theorem fieldWords_c (hX : Tabs w) {x : In} {sp : Option Addr} {sn sc : Nat} (hN : InN x) (hA : ArgV w (.slice sp sn sc) x.args) (c : Nat) (hc : c ∈ letters) :
    Calls Tryz.prog 112 #[.agg (inCells x (.slice sp sn sc)).toArray, .int .i32 (c : Int)] w fun e w' => ∃ v, e = .returned v ∧ NewS w w' v (fwW c x) := by
  simp only [letters, List.mem_cons, List.not_mem_nil, or_false] at hc
  rcases hc with rfl | rfl | rfl | rfl | rfl | rfl | rfl | rfl | rfl | rfl
  · exact fieldWords_68 hX hN hA
  · exact fieldWords_84 hX hN hA
  · exact fieldWords_65 hX hN hA
  · exact fieldWords_82 hX hN hA
  · exact fieldWords_66 hX hN hA
  · exact fieldWords_78 hX hN hA
  · exact fieldWords_79 hX hN hA
  · exact fieldWords_87 hX hN hA
  · exact fieldWords_83 hX hN hA
  · exact fieldWords_76 hX hN hA
end
end Go.Proofs.YtaaphipbkpjkjaaGreatDoor
namespace Go.Proofs.YtaaphipbkpjkjaaGreatDoor
open Go.RowKit Go.Maps
set_option linter.unusedVariables false
set_option linter.unusedSimpArgs false
set_option maxRecDepth 100000
abbrev TFm : TypeId := 143
def wordTab : List ByteArray := [⟨#[]⟩, ⟨#[109, 111, 118]⟩, ⟨#[]⟩, ⟨#[97, 100, 100, 114]⟩, ⟨#[103, 108, 111, 98]⟩, ⟨#[108, 111, 97, 100]⟩, ⟨#[115, 116, 111, 114, 101]⟩, ⟨#[99, 111, 112, 121]⟩, ⟨#[99, 97, 108, 108]⟩, ⟨#[114, 101, 116]⟩, ⟨#[106, 117, 109, 112]⟩, ⟨#[98, 114, 97, 110, 99, 104]⟩, ⟨#[112, 117, 116]⟩, ⟨#[103, 101, 116]⟩, ⟨#[101, 120, 105, 116]⟩]
/-- The first words of the table of forms lie in its block. -/
def WordsIn (w : World) : Prop := ∀ i s, wordTab[i]? = some s → w.cell? ⟨0, i * 2, none⟩ = some (.string s)
theorem WordsIn.below {w w' : World} (h : WordsIn w) (hb : Below w.heap.size w w') : WordsIn w' := fun i s hi => (hb.cell (p := ⟨0, i * 2, none⟩) (World.block_lt_of_cell? w _ (h i s hi))).trans (h i s hi)
def headW (x : In) : ByteArray := if x.op = 2 then opName x.bin else wordTab.getD x.op.toNat ⟨#[]⟩
def fldW (l : List Nat) (x : In) : List ByteArray := l.flatMap fun c => fwW c x
def wordsP (x : In) : List ByteArray := headW x :: fldW (fieldTab.getD x.op.toNat []) x
theorem fldW_take {l : List Nat} {k c : Nat} (x : In) (h : l[k]? = some c) : fldW (l.take (k + 1)) x = fldW (l.take k) x ++ fwW c x := by
  rw [take_succ h]; simp [fldW]
theorem fwW_len (c : Nat) {x : In} (h : x.args.length ≤ 1000000) : (fwW c x).length ≤ 1000000 := by
  have := opW_len x.a
  have := opW_len x.b
  have := opsW_len x.args
  unfold fwW
  (repeat' split) <;> simp <;> omega
theorem fldW_len {x : In} (h : x.args.length ≤ 1000000) : ∀ l : List Nat, (fldW l x).length ≤ l.length * 1000000
  | [] => by simp [fldW]
  | c :: l => by have := fldW_len h l; have := fwW_len c h; unfold fldW at *; simp only [List.flatMap_cons, List.length_append, List.length_cons]; omega
section
variable {w : World}
/-- append of strings, wherever they lie. -/
theorem append_strs {ops : Array Oper} {rest : List Oper} {o : Oper} {a : Act} {Q : Exit → Act → World → Prop} {w : World} (hgd : o.guard = none) (s x : Operand)
    (ho : o.op = .call { callee := .builtin .append, args := #[s, x], argTypes := #[83, 83] }) (base : Nat) (v : Value) (n : Nat) (xs : List Value) (hs : a.eval s = v) (hown : w.ownsRow base TStr 1 v n xs)
    {p : Option Addr} {cap : Nat} {l : List ByteArray} (hx : a.eval x = .slice p l.length cap) (hin : StrV w p cap l) (hb : (n + l.length) * 16 ≤ 140737488355328) (hbase : base ≤ w.heap.size)
    (h : ∀ v' w', w'.ownsRow base TStr 1 v' (n + l.length) (xs ++ stV l) → w.grownBy w' v.ownBlock → wpList Tryz.prog ops Q rest (a.put o.dst v') w') : wpList Tryz.prog ops Q (o :: rest) a w := by
  obtain ⟨i0, hi, hz0, hz1, hz2⟩ := info_parts infoS
  obtain ⟨⟨hc, hcn⟩, hcell⟩ := hin
  cases p with
  | none =>
    have hl : l = [] := by
      cases l with
      | nil => rfl
      | cons b l => obtain ⟨_, _, _, e, _⟩ := hcell (by simp); cases e
    subst hl
    have := hcn rfl
    subst this
    refine wpList_append_own_none hgd s x 83 ho base TStr i0 1 Tryz.underlying83 hi v n xs hs hown hx ?_
    exact h v w (by simpa [stV] using hown) ⟨rfl, rfl, rfl, Nat.le_refl _, fun _ _ _ => rfl⟩
  | some ad =>
    refine wpList_append_own _ hgd s x 83 ho base TStr i0 _ 1 16 Tryz.underlying83 hi hz0 hz1 hz2 rfl (by decide) v n xs hs hown ad l.length cap (stV l) hx (by simp [stV]) ?_ (stV_one l) (by unfold maxLen; omega) hb hbase (fun v' w' h1 h2 _ => h v' w' h1 h2)
    intro j u hj
    obtain ⟨st, hst, rfl⟩ : ∃ st, l[j]? = some st ∧ .string st = u := by
      rw [stV, List.getElem?_map] at hj
      cases hlj : l[j]? with
      | none => rw [hlj] at hj; cases hj
      | some st => rw [hlj] at hj; exact ⟨st, rfl, by simpa using hj⟩
    obtain ⟨g, of, cs, hp, hg, hcc⟩ := hcell (by intro e; rw [e] at hst; cases hst)
    injection hp with hp
    subst hp
    rw [Addr.add_lit, Lib.cell_of_heap hg]
    exact hcc j st hst
set_option maxHeartbeats 8000000 in
theorem wordsOf_c (hX : Tabs w) (hF : FormsIn w) (hW : WordsIn w) (hNm : NamesIn w) (hw0 : 0 < w.heap.size) {x : In} {sp : Option Addr} {sn sc : Nat} (hN : InN x) (hA : ArgV w (.slice sp sn sc) x.args) {k : Nat} (hk : x.op = k) {l : List Nat} (hl : fieldTab[k]? = some l) :
    Calls Tryz.prog 92 #[.agg (inCells x (.slice sp sn sc)).toArray] w fun e w' => ∃ v, e = .returned v ∧ NewS w w' v (wordsP x) := by
  have hk15 : k < 15 := (List.getElem?_eq_some_iff.1 hl).1
  obtain ⟨wd, hwd⟩ : ∃ s, wordTab[k]? = some s := ⟨_, List.getElem?_eq_getElem (show k < wordTab.length from hk15)⟩
  obtain ⟨hlet, hbyt⟩ := fieldTab_ok l (List.mem_of_getElem? hl)
  have hl5 : l.length ≤ 5 := by
    have : ∀ l ∈ fieldTab, l.length ≤ 5 := by decide
    exact this l (List.mem_of_getElem? hl)
  have HP : Hid (wordsP x = (if k = 2 then opName x.bin else wd) :: fldW l x) := by
    show _ = _
    have e1 : x.op.toNat = k := by rw [hk]; simp
    unfold wordsP headW
    rw [e1, show wordTab.getD k ⟨#[]⟩ = wd by simp [List.getD, hwd], show fieldTab.getD k [] = l by simp [List.getD, hl], hk]
    by_cases h2 : k = 2
    · rw [if_pos h2, if_pos (by rw [h2]; rfl)]
    · rw [if_neg h2, if_neg (by omega)]
  have b1 := below1 w (.cells (inCells x (.slice sp sn sc)).toArray TIn)
  have N1 := heap_r0 w (.cells (inCells x (.slice sp sn sc)).toArray TIn)
  have hz1 : (w.alloc (.cells (inCells x (.slice sp sn sc)).toArray TIn)).heap.size = w.heap.size + 1 := by simp
  generalize hW1 : w.alloc (.cells (inCells x (.slice sp sn sc)).toArray TIn) = W1 at *
  have f0 := (b1.cell (p := ⟨0, k * 2, none⟩) hw0).trans (hW k wd hwd)
  have f1 := (b1.cell (p := ⟨0, k * 2 + 1, none⟩) hw0).trans (hF k l hl)
  have c0 : W1.cell? ⟨w.heap.size, 0, none⟩ = some (.int .i64 (k : Int)) := (Lib.cell_of_heap N1 0).trans (by rw [← hk]; rfl)
  have hold := heap_r0 W1 (.cells #[.string ⟨#[]⟩, .string ⟨#[]⟩] TFm)
  have b2 := below1 W1 (.cells #[.string wd, .string (bytesOf l)] TFm)
  have N2 := heap_r0 W1 (.cells #[.string wd, .string (bytesOf l)] TFm)
  have hz2 : (W1.alloc (.cells #[.string wd, .string (bytesOf l)] TFm)).heap.size = w.heap.size + 2 := by simp [hz1]
  rw [hz1] at N2
  have HB2 : Hid (Below w.heap.size w (W1.alloc (.cells #[.string wd, .string (bytesOf l)] TFm))) := b1.trans (b2.mono b1.size)
  have HN12 : Hid ((W1.alloc (.cells #[.string wd, .string (bytesOf l)] TFm)).heap[w.heap.size]? = some (.cells (inCells x (.slice sp sn sc)).toArray TIn (0, 0))) := blk_b N1 b2
  have HN2 : Hid ((W1.alloc (.cells #[.string wd, .string (bytesOf l)] TFm)).heap[w.heap.size + 1]? = some (.cells #[.string wd, .string (bytesOf l)] TFm (0, 0))) := N2
  have HLET : Hid (∀ c ∈ l, c ∈ letters) := hlet
  have HBYT : Hid (∀ k (h : k < (bytesOf l).size), k < l.length ∧ ((bytesOf l)[k]'h).toNat = l.getD k 0) := hbyt
  have hsz : (bytesOf l).size = l.length := by simp [bytesOf, ByteArray.size]
  have HFW : Hid (∀ Y, Below w.heap.size w Y → ∀ c ∈ letters, Calls Tryz.prog 112 #[.agg (inCells x (.slice sp sn sc)).toArray, .int .i32 (c : Int)] Y fun e w' => ∃ v, e = .returned v ∧ NewS Y w' v (fwW c x)) :=
    fun Y hY c hc => fieldWords_c (hX.below hY) hN (hA.below hY) c hc
  have HNM : Hid (∀ Y, Below w.heap.size w Y → Calls Tryz.prog 99 #[.int .i64 x.bin] Y fun e w' => e = .returned (.string (opName x.bin)) ∧ w' = Y) := fun Y hY => name_c x.bin (hNm.below hY)
  have HAL : Hid (x.args.length ≤ 1000000) := hN.al
  have HOP : Hid (x.op = k) := hk
  clear b1 b2 N1 N2 hlet hbyt hwd hl hF hW hNm hX hN hA hk
  go_enter Tryz.func92, Tryz.ntmps92
  go_upto_region 1 with (fail)
  go_upto_region 2 with (first | ((with_reducible apply step_store hold); rfl; rfl; kernel_rfl; rfl; kernel_rfl; rw [World.setRow_alloc_new]) | fail)
  generalize W1.alloc (.cells #[.string wd, .string (bytesOf l)] TFm) = W2 at *
  have w20 := (Lib.cell_of_heap HN2.out 0).trans rfl
  clear f0 f1 c0 hold hz1
  have N3 := heap_r0 W2 (.cells #[.string wd] TStr)
  rw [hz2] at N3
  have b3 := below1 W2 (.cells #[.string wd] TStr)
  have HB3 : Hid (Below w.heap.size w (W2.alloc (.cells #[.string wd] TStr))) := HB2.out.trans (b3.mono HB2.out.size)
  have HG3 : Hid ((W2.alloc (.cells #[.string wd] TStr)).heap[w.heap.size]? = some (.cells (inCells x (.slice sp sn sc)).toArray TIn (0, 0))) := blk_b HN12.out b3
  have HF3 : Hid ((W2.alloc (.cells #[.string wd] TStr)).heap[w.heap.size + 1]? = some (.cells #[.string wd, .string (bytesOf l)] TFm (0, 0))) := blk_b HN2.out b3
  have HS3 : Hid ((W2.alloc (.cells #[.string wd] TStr)).heap[w.heap.size + 2]? = some (.cells #[.string wd] TStr (0, 0))) := N3
  clear b3 N3
  go_upto_region 3 with (fail)
  generalize W2.alloc (.cells #[.string wd] TStr) = W3 at *
  have c30 : W3.cell? ⟨w.heap.size, 0, none⟩ = some (.int .i64 (k : Int)) := (Lib.cell_of_heap HG3.out 0).trans (by rw [← HOP.out]; rfl)
  have c31 : W3.cell? ⟨w.heap.size, 1, none⟩ = some (.int .i64 x.bin) := (Lib.cell_of_heap HG3.out 1).trans rfl
  have c32 : W3.cell? ⟨w.heap.size + 1, 1, none⟩ = some (.string (bytesOf l)) := (Lib.cell_of_heap HF3.out 1).trans rfl
  have c33 : W3.cell? ⟨w.heap.size + 2, 0, none⟩ = some (.string wd) := (Lib.cell_of_heap HS3.out 0).trans rfl
  clear w20
  by_cases hk2 : k = 2
  · have e2 : ((k : Int) == 2) = true := by simp [hk2]
    have f33 := frozen_of HS3.out 0
    have cN := HNM.out W3 HB3.out
    have t4 : Turned W3 (W3.setCell ⟨w.heap.size + 2, 0, none⟩ (.string (opName x.bin))) (fun k => k = w.heap.size + 2) := Turned.setCell W3 _ 0 _ rfl
    have HB4 : Hid (Below w.heap.size w (W3.setCell ⟨w.heap.size + 2, 0, none⟩ (.string (opName x.bin)))) := below_turned HB3.out t4 (by omega)
    have HG4 : Hid ((W3.setCell ⟨w.heap.size + 2, 0, none⟩ (.string (opName x.bin))).heap[w.heap.size]? = some (.cells (inCells x (.slice sp sn sc)).toArray TIn (0, 0))) := blk_t HG3.out t4 (by omega)
    have c42 : (W3.setCell ⟨w.heap.size + 2, 0, none⟩ (.string (opName x.bin))).cell? ⟨w.heap.size + 1, 1, none⟩ = some (.string (bytesOf l)) := (Lib.cell_of_heap (blk_t HF3.out t4 (by omega)) 1).trans rfl
    have HO4 : Hid ((W3.setCell ⟨w.heap.size + 2, 0, none⟩ (.string (opName x.bin))).ownsRow w.heap.size TStr 1 (.slice (some ⟨w.heap.size + 2, 0, none⟩) 1 1) 1 (stV [opName x.bin])) :=
      ⟨by simp [stV], Or.inr ⟨_, 1, _, rfl, by omega, heap_setCell HS3.out _, by first | decide | simp | omega, by first | decide | simp | omega, by first | decide | simp | omega, by simp [stV]⟩⟩
    rw [if_pos hk2] at HP
    generalize hHD : opName x.bin = HD at *
    clear t4 hk2 HG3 HF3 HS3 hHD
    go_upto_region 5 with (first | (go_at_call 99; refine cN.mono ?_; rintro e w' ⟨rfl, hw⟩; rw [hw]; clear hw w' cN) | fail)
    generalize W3.setCell ⟨w.heap.size + 2, 0, none⟩ (.string HD) = W4 at *
    clear c30 c31 c32 c33 f33
    have HW0 : Hid (Below w.heap.size w (W4.iter (bytesOf l) 0)) := HB4.out.trans ((below1 W4 _).mono HB4.out.size)
    have HI0 : Hid ((W4.iter (bytesOf l) 0).heap[W4.heap.size]? = some (.stringIter (bytesOf l) 0)) := World.iter_heap W4 _ 0
    have HX0 : Hid ((W4.iter (bytesOf l) 0).heap[w.heap.size]? = some (.cells (inCells x (.slice sp sn sc)).toArray TIn (0, 0))) := blk_b HG4.out (below1 W4 _)
    have HO0 : Hid ((W4.iter (bytesOf l) 0).ownsRow w.heap.size TStr 1 (.slice (some ⟨w.heap.size + 2, 0, none⟩) 1 1) 1 (stV ([HD] ++ fldW (l.take 0) x))) := by
      have := ownsRow_turned HO4.out (Turned.of_below (below1 W4 (.stringIter (bytesOf l) 0)) (fun _ => False)) (fun _ _ h => h)
      rw [show stV ([HD] ++ fldW (l.take 0) x) = stV [HD] by simp [fldW, stV]]; exact this
    go_wp2
    generalize hib : W4.heap.size = ib at *
    have hibw : w.heap.size < ib := by rw [← hib]; have := lt_of_heap HG4.out; exact this
    generalize W4.iter (bytesOf l) 0 = W5 at *
    clear HB4 HG4 HO4 hib
    go_loopw [4] (fun v4 wr => ∃ j : Nat, j ≤ l.length ∧ Hid (wr.heap[ib]? = some (.stringIter (bytesOf l) j)) ∧ Hid (wr.heap[w.heap.size]? = some (.cells (inCells x (.slice sp sn sc)).toArray TIn (0, 0))) ∧ Hid (wr.ownsRow w.heap.size TStr 1 v4 (1 + (fldW (l.take j) x).length) (stV ([HD] ++ fldW (l.take j) x))) ∧ Hid (Below w.heap.size w wr)) (fun _ wr => l.length - wr.iterPos ib)
    case atStart => exact ⟨0, Nat.zero_le _, HI0, HX0, by simpa [fldW] using HO0, HW0⟩
    case round =>
      obtain ⟨j, hj, HI, HG, HO, HBW⟩ := hrel
      obtain ⟨sp4, sc4, rfl⟩ := slice_of_own HO.out
      by_cases hlt : j < l.length
      · have hjs : j < (bytesOf l).size := by omega
        obtain ⟨_, hcj⟩ := HBYT.out j hjs
        obtain ⟨c, hc⟩ : ∃ c, l[j]? = some c := ⟨_, List.getElem?_eq_getElem hlt⟩
        have hcd : l.getD j 0 = c := by simp [List.getD, hc]
        have hcl := HLET.out c (List.mem_of_getElem? hc)
        have hc128 : c < 128 := by simp only [letters, List.mem_cons, List.not_mem_nil, or_false] at hcl; omega
        have hnx := next_at HI.out hjs (by rw [hcj, hcd]; exact hc128)
        rw [hcj, hcd] at hnx
        have T1 := setIter_turned wr ib (bytesOf l) (j + 1)
        have I1 := setIter_at (s := bytesOf l) (p := j + 1) (lt_of_heap HI.out)
        have G1 := blk_t HG.out T1 (by omega)
        have HG1 : Hid ((World.setIter wr ib (bytesOf l) (j + 1)).heap[w.heap.size]? = some (.cells (inCells x (.slice sp sn sc)).toArray TIn (0, 0))) := G1
        have B1 : Hid (Below w.heap.size w (World.setIter wr ib (bytesOf l) (j + 1))) := below_turned HBW.out T1 (by omega)
        have O1 : Hid ((World.setIter wr ib (bytesOf l) (j + 1)).ownsRow w.heap.size TStr 1 (.slice sp4 (1 + (fldW (l.take j) x).length) sc4) (1 + (fldW (l.take j) x).length) (stV ([HD] ++ fldW (l.take j) x))) := ownsRow_turned HO.out T1 (fun q hq e => by
          obtain ⟨_, cur, hcur⟩ := ownsRow_at HO.out hq
          rw [e, HI.out] at hcur
          cases hcur)
        have HTK : Hid (fldW (l.take (j + 1)) x = fldW (l.take j) x ++ fwW c x) := fldW_take x hc
        have hl1 : Hid ((fldW (l.take j) x).length ≤ 5000000) := by
          have := fldW_len HAL.out (l.take j)
          rw [List.length_take] at this
          show _ ≤ _
          have : min j l.length ≤ 5 := by omega
          omega
        have hl2 : Hid ((fwW c x).length ≤ 1000000) := fwW_len c HAL.out
        have cC := HFW.out _ B1.out c hcl
        have HI1 : Hid ((World.setIter wr ib (bytesOf l) (j + 1)).heap[ib]? = some (.stringIter (bytesOf l) (j + 1))) := I1
        have HP0 : Hid (wr.iterPos ib = j) := by show World.iterPos wr _ = j; unfold World.iterPos; rw [HI.out]
        generalize World.setIter wr ib (bytesOf l) (j + 1) = W6 at *
        have LL := cells12 HG1.out
        obtain ⟨l0, l1, l2, l3, l4, l5, l6, l7, l8, l9, l10, l11⟩ := LL
        clear hcl hc128 hcd hc hcj T1 I1 G1
        generalize fldW (l.take j) x = FL at *
        generalize fwW c x = FW at *
        go_wp2_with (first | (go_at_call 112; refine cC.mono ?_; rintro e w6 ⟨v6, rfl, h6⟩; obtain ⟨p6, c6, rfl, hs6⟩ := h6.strV; have H6 : Hid (StrV w6 p6 c6 FW) := hs6; have HI6 : Hid (w6.heap[ib]? = some (.stringIter (bytesOf l) (j + 1))) := blk_b HI1.out h6.1; have HG6 : Hid (w6.heap[w.heap.size]? = some (.cells (inCells x (.slice sp sn sc)).toArray TIn (0, 0))) := blk_b HG1.out h6.1; have HB6 : Hid (Below w.heap.size w w6) := B1.out.trans (h6.1.mono B1.out.size); have HO6 : Hid (w6.ownsRow w.heap.size TStr 1 (.slice sp4 (1 + FL.length) sc4) (1 + FL.length) (stV ([HD] ++ FL))) := ownsRow_turned O1.out (Turned.of_below h6.1 (fun _ => False)) (fun _ _ h => h); clear h6 hs6 cC) | (at_builtin; refine append_strs rfl _ _ rfl w.heap.size _ _ _ rfl HO6.out rfl H6.out ?c4 HB6.out.size ?_) | fail)
        case c4 => have := hl1.out; have := hl2.out; omega
        intro v' w7 ho7 hgr
        have hne7 : ∀ q, (Value.slice sp4 (1 + FL.length) sc4).ownBlock = some q → q ≠ ib ∧ q ≠ w.heap.size := fun q hq => by
          obtain ⟨_, cur, hcur⟩ := ownsRow_at HO6.out hq
          refine ⟨fun e => ?_, fun e => ?_⟩
          · rw [e, HI6.out] at hcur; cases hcur
          · rw [e, HG6.out] at hcur; injection hcur with q1; injection q1 with _ q2; exact absurd q2 (by decide)
        have I7 : Hid (w7.heap[ib]? = some (.stringIter (bytesOf l) (j + 1))) := (hgr.block ib (lt_of_heap HI6.out) (fun e => (hne7 ib e.symm).1 rfl)).trans HI6.out
        have G7 : Hid (w7.heap[w.heap.size]? = some (.cells (inCells x (.slice sp sn sc)).toArray TIn (0, 0))) := (hgr.block _ (lt_of_heap HG6.out) (fun e => (hne7 _ e.symm).2 rfl)).trans HG6.out
        have HB7 : Hid (Below w.heap.size w w7) := below_grown HB6.out HB6.out.size hgr (fun g e => (ownsRow_at HO6.out e).1)
        have HO7 : Hid (w7.ownsRow w.heap.size TStr 1 v' (1 + (fldW (l.take (j + 1)) x).length) (stV ([HD] ++ fldW (l.take (j + 1)) x))) := by
          rw [HTK.out]
          have e1 : 1 + (FL ++ FW).length = 1 + FL.length + FW.length := by simp; omega
          have e2 : stV ([HD] ++ (FL ++ FW)) = stV ([HD] ++ FL) ++ stV FW := by simp [stV]
          rw [e1, e2]
          exact ho7
        clear ho7 hgr hne7
        go_wp2
        refine ⟨⟨j + 1, by omega, I7, G7, HO7, HB7⟩, ?_⟩
        have : w7.iterPos ib = j + 1 := by unfold World.iterPos; rw [I7.out]
        rw [HP0.out, this]; omega
      · obtain rfl : j = l.length := by omega
        have hnx := next_end HI.out (by omega)
        have HNW : Hid (NewS w wr (.slice sp4 (1 + (fldW (l.take l.length) x).length) sc4) (wordsP x)) := by
          rw [HP.out]
          have := HO.out
          rw [List.take_length] at this
          show NewS _ _ _ _
          rw [List.take_length]
          refine ⟨HBW.out, ?_⟩
          have e1 : (HD :: fldW l x).length = 1 + (fldW l x).length := by simp; omega
          rw [e1]
          exact this
        go_wp2
        go_ret
        exact ⟨_, rfl, HNW.out⟩
  · have e2 : ((k : Int) == 2) = false := by simp; omega
    have HB4 := HB3
    have HG4 := HG3
    have HO4 : Hid (W3.ownsRow w.heap.size TStr 1 (.slice (some ⟨w.heap.size + 2, 0, none⟩) 1 1) 1 (stV [wd])) :=
      ⟨by simp [stV], Or.inr ⟨_, 1, _, rfl, by omega, HS3.out, by first | decide | simp | omega, by first | decide | simp | omega, by first | decide | simp | omega, by simp [stV]⟩⟩
    rw [if_neg hk2] at HP
    generalize hHD : wd = HD at *
    have c42 := c32
    clear hk2 HF3 HS3 hHD
    go_upto_region 5 with (fail)
    obtain ⟨W4, hW4⟩ : ∃ W4, W4 = W3 := ⟨_, rfl⟩
    rw [← hW4] at HB4 HG4 HO4 c42 ⊢
    clear c30 c31 c32 c33 HB3 HG3 hW4
    have HW0 : Hid (Below w.heap.size w (W4.iter (bytesOf l) 0)) := HB4.out.trans ((below1 W4 _).mono HB4.out.size)
    have HI0 : Hid ((W4.iter (bytesOf l) 0).heap[W4.heap.size]? = some (.stringIter (bytesOf l) 0)) := World.iter_heap W4 _ 0
    have HX0 : Hid ((W4.iter (bytesOf l) 0).heap[w.heap.size]? = some (.cells (inCells x (.slice sp sn sc)).toArray TIn (0, 0))) := blk_b HG4.out (below1 W4 _)
    have HO0 : Hid ((W4.iter (bytesOf l) 0).ownsRow w.heap.size TStr 1 (.slice (some ⟨w.heap.size + 2, 0, none⟩) 1 1) 1 (stV ([HD] ++ fldW (l.take 0) x))) := by
      have := ownsRow_turned HO4.out (Turned.of_below (below1 W4 (.stringIter (bytesOf l) 0)) (fun _ => False)) (fun _ _ h => h)
      rw [show stV ([HD] ++ fldW (l.take 0) x) = stV [HD] by simp [fldW, stV]]; exact this
    go_wp2
    generalize hib : W4.heap.size = ib at *
    have hibw : w.heap.size < ib := by rw [← hib]; have := lt_of_heap HG4.out; exact this
    generalize W4.iter (bytesOf l) 0 = W5 at *
    clear HB4 HG4 HO4 hib
    go_loopw [4] (fun v4 wr => ∃ j : Nat, j ≤ l.length ∧ Hid (wr.heap[ib]? = some (.stringIter (bytesOf l) j)) ∧ Hid (wr.heap[w.heap.size]? = some (.cells (inCells x (.slice sp sn sc)).toArray TIn (0, 0))) ∧ Hid (wr.ownsRow w.heap.size TStr 1 v4 (1 + (fldW (l.take j) x).length) (stV ([HD] ++ fldW (l.take j) x))) ∧ Hid (Below w.heap.size w wr)) (fun _ wr => l.length - wr.iterPos ib)
    case atStart => exact ⟨0, Nat.zero_le _, HI0, HX0, by simpa [fldW] using HO0, HW0⟩
    case round =>
      obtain ⟨j, hj, HI, HG, HO, HBW⟩ := hrel
      obtain ⟨sp4, sc4, rfl⟩ := slice_of_own HO.out
      by_cases hlt : j < l.length
      · have hjs : j < (bytesOf l).size := by omega
        obtain ⟨_, hcj⟩ := HBYT.out j hjs
        obtain ⟨c, hc⟩ : ∃ c, l[j]? = some c := ⟨_, List.getElem?_eq_getElem hlt⟩
        have hcd : l.getD j 0 = c := by simp [List.getD, hc]
        have hcl := HLET.out c (List.mem_of_getElem? hc)
        have hc128 : c < 128 := by simp only [letters, List.mem_cons, List.not_mem_nil, or_false] at hcl; omega
        have hnx := next_at HI.out hjs (by rw [hcj, hcd]; exact hc128)
        rw [hcj, hcd] at hnx
        have T1 := setIter_turned wr ib (bytesOf l) (j + 1)
        have I1 := setIter_at (s := bytesOf l) (p := j + 1) (lt_of_heap HI.out)
        have G1 := blk_t HG.out T1 (by omega)
        have HG1 : Hid ((World.setIter wr ib (bytesOf l) (j + 1)).heap[w.heap.size]? = some (.cells (inCells x (.slice sp sn sc)).toArray TIn (0, 0))) := G1
        have B1 : Hid (Below w.heap.size w (World.setIter wr ib (bytesOf l) (j + 1))) := below_turned HBW.out T1 (by omega)
        have O1 : Hid ((World.setIter wr ib (bytesOf l) (j + 1)).ownsRow w.heap.size TStr 1 (.slice sp4 (1 + (fldW (l.take j) x).length) sc4) (1 + (fldW (l.take j) x).length) (stV ([HD] ++ fldW (l.take j) x))) := ownsRow_turned HO.out T1 (fun q hq e => by
          obtain ⟨_, cur, hcur⟩ := ownsRow_at HO.out hq
          rw [e, HI.out] at hcur
          cases hcur)
        have HTK : Hid (fldW (l.take (j + 1)) x = fldW (l.take j) x ++ fwW c x) := fldW_take x hc
        have hl1 : Hid ((fldW (l.take j) x).length ≤ 5000000) := by
          have := fldW_len HAL.out (l.take j)
          rw [List.length_take] at this
          show _ ≤ _
          have : min j l.length ≤ 5 := by omega
          omega
        have hl2 : Hid ((fwW c x).length ≤ 1000000) := fwW_len c HAL.out
        have cC := HFW.out _ B1.out c hcl
        have HI1 : Hid ((World.setIter wr ib (bytesOf l) (j + 1)).heap[ib]? = some (.stringIter (bytesOf l) (j + 1))) := I1
        have HP0 : Hid (wr.iterPos ib = j) := by show World.iterPos wr _ = j; unfold World.iterPos; rw [HI.out]
        generalize World.setIter wr ib (bytesOf l) (j + 1) = W6 at *
        have LL := cells12 HG1.out
        obtain ⟨l0, l1, l2, l3, l4, l5, l6, l7, l8, l9, l10, l11⟩ := LL
        clear hcl hc128 hcd hc hcj T1 I1 G1
        generalize fldW (l.take j) x = FL at *
        generalize fwW c x = FW at *
        go_wp2_with (first | (go_at_call 112; refine cC.mono ?_; rintro e w6 ⟨v6, rfl, h6⟩; obtain ⟨p6, c6, rfl, hs6⟩ := h6.strV; have H6 : Hid (StrV w6 p6 c6 FW) := hs6; have HI6 : Hid (w6.heap[ib]? = some (.stringIter (bytesOf l) (j + 1))) := blk_b HI1.out h6.1; have HG6 : Hid (w6.heap[w.heap.size]? = some (.cells (inCells x (.slice sp sn sc)).toArray TIn (0, 0))) := blk_b HG1.out h6.1; have HB6 : Hid (Below w.heap.size w w6) := B1.out.trans (h6.1.mono B1.out.size); have HO6 : Hid (w6.ownsRow w.heap.size TStr 1 (.slice sp4 (1 + FL.length) sc4) (1 + FL.length) (stV ([HD] ++ FL))) := ownsRow_turned O1.out (Turned.of_below h6.1 (fun _ => False)) (fun _ _ h => h); clear h6 hs6 cC) | (at_builtin; refine append_strs rfl _ _ rfl w.heap.size _ _ _ rfl HO6.out rfl H6.out ?c4 HB6.out.size ?_) | fail)
        case c4 => have := hl1.out; have := hl2.out; omega
        intro v' w7 ho7 hgr
        have hne7 : ∀ q, (Value.slice sp4 (1 + FL.length) sc4).ownBlock = some q → q ≠ ib ∧ q ≠ w.heap.size := fun q hq => by
          obtain ⟨_, cur, hcur⟩ := ownsRow_at HO6.out hq
          refine ⟨fun e => ?_, fun e => ?_⟩
          · rw [e, HI6.out] at hcur; cases hcur
          · rw [e, HG6.out] at hcur; injection hcur with q1; injection q1 with _ q2; exact absurd q2 (by decide)
        have I7 : Hid (w7.heap[ib]? = some (.stringIter (bytesOf l) (j + 1))) := (hgr.block ib (lt_of_heap HI6.out) (fun e => (hne7 ib e.symm).1 rfl)).trans HI6.out
        have G7 : Hid (w7.heap[w.heap.size]? = some (.cells (inCells x (.slice sp sn sc)).toArray TIn (0, 0))) := (hgr.block _ (lt_of_heap HG6.out) (fun e => (hne7 _ e.symm).2 rfl)).trans HG6.out
        have HB7 : Hid (Below w.heap.size w w7) := below_grown HB6.out HB6.out.size hgr (fun g e => (ownsRow_at HO6.out e).1)
        have HO7 : Hid (w7.ownsRow w.heap.size TStr 1 v' (1 + (fldW (l.take (j + 1)) x).length) (stV ([HD] ++ fldW (l.take (j + 1)) x))) := by
          rw [HTK.out]
          have e1 : 1 + (FL ++ FW).length = 1 + FL.length + FW.length := by simp; omega
          have e2 : stV ([HD] ++ (FL ++ FW)) = stV ([HD] ++ FL) ++ stV FW := by simp [stV]
          rw [e1, e2]
          exact ho7
        clear ho7 hgr hne7
        go_wp2
        refine ⟨⟨j + 1, by omega, I7, G7, HO7, HB7⟩, ?_⟩
        have : w7.iterPos ib = j + 1 := by unfold World.iterPos; rw [I7.out]
        rw [HP0.out, this]; omega
      · obtain rfl : j = l.length := by omega
        have hnx := next_end HI.out (by omega)
        have HNW : Hid (NewS w wr (.slice sp4 (1 + (fldW (l.take l.length) x).length) sc4) (wordsP x)) := by
          rw [HP.out]
          have := HO.out
          rw [List.take_length] at this
          show NewS _ _ _ _
          rw [List.take_length]
          refine ⟨HBW.out, ?_⟩
          have e1 : (HD :: fldW l x).length = 1 + (fldW l x).length := by simp; omega
          rw [e1]
          exact this
        go_wp2
        go_ret
        exact ⟨_, rfl, HNW.out⟩
end
end Go.Proofs.YtaaphipbkpjkjaaGreatDoor
