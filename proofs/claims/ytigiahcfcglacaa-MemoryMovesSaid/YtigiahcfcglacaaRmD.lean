/-
  The given answer: whether there are n bytes at a pointer by w.
-/
import Derived.Test.YtigiahcfcglacaaRmC
namespace Go.Proofs.Ytigiahcfcglacaa
open Go.RowKit Go.Maps
set_option linter.unusedVariables false
set_option maxRecDepth 100000
section
variable {w : World} {rb : Nat} {ys : List Ry} {R : Nat → Prop}
set_option maxHeartbeats 4000000 in
theorem atR_c (h : RX w rb ys R) (p : Vl) (hp : VlOK p) (n wd : Int) (n0 : -9223372036854775808 ≤ n) (n1 : n < 9223372036854775808) :
    Calls Try.prog 62 #[.pointer (some ⟨rb, 0, none⟩), .agg #[.int .i64 p.kind, .int .u32 p.v, .int .i64 p.block], .int .i64 n, .int .i64 wd] w fun e w' => e = .returned (.bool (roomS (stR ys) p n wd).isSome) ∧ Below w.heap.size w w' := by
  have hB : Below w.heap.size w (w.alloc (.cells #[.int .i64 p.kind, .int .u32 p.v, .int .i64 p.block] TV)) := (Below.refl _ w).alloc (Nat.le_refl _) _
  obtain ⟨a0, a1, a2⟩ := box_cells w p
  have h' := h.keptB hB
  have c := goodR_c h' p hp
  have n2 := not_t
  have n3 := not_f
  have hW := fun Y => power_c wd Y
  have HB : Hid (Below w.heap.size w (w.alloc (.cells #[.int .i64 p.kind, .int .u32 p.v, .int .i64 p.block] TV))) := hB
  obtain ⟨v0, v1, b0, b1⟩ := hp
  have hlen := h.len
  have hrx : roomS (stR ys) p n wd = (goodS (stR ys) p).filter (fun x => isW wd && decide (wd ≤ x.align) && decide (p.v % wd = 0) && decide (1 ≤ n) && decide (n ≤ x.size - p.v)) := rfl
  rw [hrx]
  clear hrx
  cases hg : goodS (stR ys) p with
  | none =>
    rw [hg] at c
    simp only [Option.isSome_none, Option.filter_none] at c ⊢
    clear h h' hB hg
    go_enter Try.func62, Try.ntmps62
    go_wp2_with fail
    refine c.mono ?_; rintro e w1 ⟨rfl, hb1⟩
    have HB1 : Hid (Below w.heap.size w w1) := HB.out.trans (hb1.mono (by simp))
    clear hb1 c
    go_wp2
    go_ret
    exact ⟨rfl, HB1.out⟩
  | some k =>
    obtain ⟨hk2, hvs, i, hi, hx⟩ := goodS_some hg
    obtain ⟨y, hy, hyk⟩ := st_at hx
    obtain ⟨ow, ho⟩ := h.own
    have hb := ho i y k hy hyk
    have hmx := hb.max
    have hyal := hb.al
    have hil : i < ys.length := (List.getElem?_eq_some_iff.1 hy).1
    rw [hg] at c
    simp only [Option.isSome_some, Option.filter_some] at c ⊢
    have H' : Hid (RX (w.alloc (.cells #[.int .i64 p.kind, .int .u32 p.v, .int .i64 p.block] TV)) rb ys R) := h'
    have HY : Hid (ys[i]? = some y) := hy
    have HYK : Hid (y.bk = some k) := hyk
    rw [hi] at c a0 a1 a2 HB H' ⊢
    clear h h' hB hg hx hk2 hb ho hy hyk hi b0 b1
    by_cases q4 : ¬ 1 ≤ n
    · have t4 : decide (n < 1) = true := by simp; omega
      have hcond : (isW wd && decide (wd ≤ k.align) && decide (p.v % wd = 0) && decide (1 ≤ n) && decide (n ≤ k.size - p.v)) = false := by
        simp [q4]
      rw [hcond]
      simp only [Bool.false_eq_true, if_false, Option.isSome_none]
      clear hcond
      go_enter Try.func62, Try.ntmps62
      go_wp2_with fail
      refine c.mono ?_; rintro e w1 ⟨rfl, hb1⟩
      have HB1 : Hid (Below w.heap.size w w1) := HB.out.trans (hb1.mono (by simp))
      clear hb1 c
      go_wp2
      go_ret
      exact ⟨rfl, HB1.out⟩
    have q4 := Classical.not_not.1 q4
    have t4 : decide (n < 1) = false := by simp; omega
    by_cases q1 : ¬ isW wd = true
    · have hwt : isW wd = false := by simpa using q1
      simp only [hwt] at hW
      have hcond : (isW wd && decide (wd ≤ k.align) && decide (p.v % wd = 0) && decide (1 ≤ n) && decide (n ≤ k.size - p.v)) = false := by
        simp [hwt]
      rw [hcond]
      simp only [Bool.false_eq_true, if_false, Option.isSome_none]
      clear hcond
      go_enter Try.func62, Try.ntmps62
      go_wp2_with fail
      refine c.mono ?_; rintro e w1 ⟨rfl, hb1⟩
      have HB1 : Hid (Below w.heap.size w w1) := HB.out.trans (hb1.mono (by simp))
      clear hb1 c
      go_wp2_with (go_at_call 60; refine (hW _).mono ?_; rintro e w' ⟨rfl, hw⟩; rw [hw]; clear hw w')
      go_ret
      exact ⟨rfl, HB1.out⟩
    have q1 := Classical.not_not.1 q1
    have hwt := q1
    simp only [hwt] at hW
    have hwv : wd = 1 ∨ wd = 2 ∨ wd = 4 := by simpa [isW] using q1
    have hw0 : 0 < wd := by omega
    have hw4 : wd ≤ 4 := by omega
    clear hwv q1
    by_cases q5 : ¬ n ≤ k.size - p.v
    · have t5 : decide (n ≤ (k.size : Int) - p.v) = false := by simp; omega
      have hcond : (isW wd && decide (wd ≤ k.align) && decide (p.v % wd = 0) && decide (1 ≤ n) && decide (n ≤ k.size - p.v)) = false := by
        simp [q5]
      rw [hcond]
      simp only [Bool.false_eq_true, if_false, Option.isSome_none]
      clear hcond
      go_enter Try.func62, Try.ntmps62
      go_wp2_with fail
      refine c.mono ?_; rintro e w1 ⟨rfl, hb1⟩
      have HB1 : Hid (Below w.heap.size w w1) := HB.out.trans (hb1.mono (by simp))
      obtain ⟨g, cap, c0, c1, _, _, hcap, e0, e1, e2⟩ := (H'.out.keptB hb1).row HY.out
      unfold ryS at e2
      rw [HYK.out] at e2
      simp only [] at e2
      have k1 := (hb1.cell (p := ⟨w.heap.size, 1, none⟩) (by simp)).trans a1
      have k2 := (hb1.cell (p := ⟨w.heap.size, 2, none⟩) (by simp)).trans a2
      have m1 : w.heap.size < w1.heap.size := World.block_lt_of_cell? w1 _ k1
      have m2 := World.block_lt_of_cell? w1 _ c0
      have m3 := World.block_lt_of_cell? w1 _ e2
      have m5 : g < w1.heap.size := m3
      rw [hyal] at e0
      have w1_ : ((i : Int) + 1 - 1) = (i : Int) := by omega
      have w2_ : IntKind.i64.wrap p.v = p.v := by rw [IntKind.wrap_i64]; omega
      clear hb1 c a0 a1 a2 c1
      go_wp2_with (go_at_call 60; refine (hW _).mono ?_; rintro e w' ⟨rfl, hw⟩; rw [hw]; clear hw w')
      go_region
      go_wp2
      go_ret
      exact ⟨rfl, HB1.out.trans (by repeat (first | exact Below.refl _ _ | refine Below.drew ?_ | refine Below.setCell ?_ (by first | omega | (simp <;> omega)) _ | refine Below.alloc ?_ (by first | omega | (simp <;> omega)) _))⟩
    have q5 := Classical.not_not.1 q5
    have t5 : decide (n ≤ (k.size : Int) - p.v) = true := by simp; omega
    by_cases q3 : ¬ p.v % wd = 0
    · have t3 : (p.v % wd == 0) = false := by simpa using q3
      have hcond : (isW wd && decide (wd ≤ k.align) && decide (p.v % wd = 0) && decide (1 ≤ n) && decide (n ≤ k.size - p.v)) = false := by
        simp [q3]
      rw [hcond]
      simp only [Bool.false_eq_true, if_false, Option.isSome_none]
      clear hcond
      go_enter Try.func62, Try.ntmps62
      go_wp2_with fail
      refine c.mono ?_; rintro e w1 ⟨rfl, hb1⟩
      have HB1 : Hid (Below w.heap.size w w1) := HB.out.trans (hb1.mono (by simp))
      obtain ⟨g, cap, c0, c1, _, _, hcap, e0, e1, e2⟩ := (H'.out.keptB hb1).row HY.out
      unfold ryS at e2
      rw [HYK.out] at e2
      simp only [] at e2
      have k1 := (hb1.cell (p := ⟨w.heap.size, 1, none⟩) (by simp)).trans a1
      have k2 := (hb1.cell (p := ⟨w.heap.size, 2, none⟩) (by simp)).trans a2
      have m1 : w.heap.size < w1.heap.size := World.block_lt_of_cell? w1 _ k1
      have m2 := World.block_lt_of_cell? w1 _ c0
      have m3 := World.block_lt_of_cell? w1 _ e2
      have m5 : g < w1.heap.size := m3
      rw [hyal] at e0
      have w1_ : ((i : Int) + 1 - 1) = (i : Int) := by omega
      have w2_ : IntKind.i64.wrap p.v = p.v := by rw [IntKind.wrap_i64]; omega
      clear hb1 c a0 a1 a2 c1
      go_wp2_with (go_at_call 60; refine (hW _).mono ?_; rintro e w' ⟨rfl, hw⟩; rw [hw]; clear hw w')
      go_region
      go_wp2
      go_ret
      exact ⟨rfl, HB1.out.trans (by repeat (first | exact Below.refl _ _ | refine Below.drew ?_ | refine Below.setCell ?_ (by first | omega | (simp <;> omega)) _ | refine Below.alloc ?_ (by first | omega | (simp <;> omega)) _))⟩
    have q3 := Classical.not_not.1 q3
    have t3 : (p.v % wd == 0) = true := by simpa using q3
    by_cases q2 : ¬ wd ≤ k.align
    · have t2 : decide (wd ≤ k.align) = false := by simp; omega
      have hcond : (isW wd && decide (wd ≤ k.align) && decide (p.v % wd = 0) && decide (1 ≤ n) && decide (n ≤ k.size - p.v)) = false := by
        simp [q2]
      rw [hcond]
      simp only [Bool.false_eq_true, if_false, Option.isSome_none]
      clear hcond
      go_enter Try.func62, Try.ntmps62
      go_wp2_with fail
      refine c.mono ?_; rintro e w1 ⟨rfl, hb1⟩
      have HB1 : Hid (Below w.heap.size w w1) := HB.out.trans (hb1.mono (by simp))
      obtain ⟨g, cap, c0, c1, _, _, hcap, e0, e1, e2⟩ := (H'.out.keptB hb1).row HY.out
      unfold ryS at e2
      rw [HYK.out] at e2
      simp only [] at e2
      have k1 := (hb1.cell (p := ⟨w.heap.size, 1, none⟩) (by simp)).trans a1
      have k2 := (hb1.cell (p := ⟨w.heap.size, 2, none⟩) (by simp)).trans a2
      have m1 : w.heap.size < w1.heap.size := World.block_lt_of_cell? w1 _ k1
      have m2 := World.block_lt_of_cell? w1 _ c0
      have m3 := World.block_lt_of_cell? w1 _ e2
      have m5 : g < w1.heap.size := m3
      rw [hyal] at e0
      have w1_ : ((i : Int) + 1 - 1) = (i : Int) := by omega
      have w2_ : IntKind.i64.wrap p.v = p.v := by rw [IntKind.wrap_i64]; omega
      clear hb1 c a0 a1 a2 c1
      go_wp2_with (go_at_call 60; refine (hW _).mono ?_; rintro e w' ⟨rfl, hw⟩; rw [hw]; clear hw w')
      go_region
      go_wp2
      go_ret
      exact ⟨rfl, HB1.out.trans (by repeat (first | exact Below.refl _ _ | refine Below.drew ?_ | refine Below.setCell ?_ (by first | omega | (simp <;> omega)) _ | refine Below.alloc ?_ (by first | omega | (simp <;> omega)) _))⟩
    · have q2 := Classical.not_not.1 q2
      have t2 : decide (wd ≤ k.align) = true := by simp; omega
      have hcond : (isW wd && decide (wd ≤ k.align) && decide (p.v % wd = 0) && decide (1 ≤ n) && decide (n ≤ k.size - p.v)) = true := by
        simp [hwt, q2, q3, q4, q5]
      rw [hcond]
      simp only [if_true, Option.isSome_some]
      clear hcond
      go_enter Try.func62, Try.ntmps62
      go_wp2_with fail
      refine c.mono ?_; rintro e w1 ⟨rfl, hb1⟩
      have HB1 : Hid (Below w.heap.size w w1) := HB.out.trans (hb1.mono (by simp))
      obtain ⟨g, cap, c0, c1, _, _, hcap, e0, e1, e2⟩ := (H'.out.keptB hb1).row HY.out
      unfold ryS at e2
      rw [HYK.out] at e2
      simp only [] at e2
      have k1 := (hb1.cell (p := ⟨w.heap.size, 1, none⟩) (by simp)).trans a1
      have k2 := (hb1.cell (p := ⟨w.heap.size, 2, none⟩) (by simp)).trans a2
      have m1 : w.heap.size < w1.heap.size := World.block_lt_of_cell? w1 _ k1
      have m2 := World.block_lt_of_cell? w1 _ c0
      have m3 := World.block_lt_of_cell? w1 _ e2
      have m5 : g < w1.heap.size := m3
      rw [hyal] at e0
      have w1_ : ((i : Int) + 1 - 1) = (i : Int) := by omega
      have w2_ : IntKind.i64.wrap p.v = p.v := by rw [IntKind.wrap_i64]; omega
      clear hb1 c a0 a1 a2 c1
      go_wp2_with (go_at_call 60; refine (hW _).mono ?_; rintro e w' ⟨rfl, hw⟩; rw [hw]; clear hw w')
      go_region
      go_wp2
      go_ret
      exact ⟨rfl, HB1.out.trans (by repeat (first | exact Below.refl _ _ | refine Below.drew ?_ | refine Below.setCell ?_ (by first | omega | (simp <;> omega)) _ | refine Below.alloc ?_ (by first | omega | (simp <;> omega)) _))⟩
end
end Go.Proofs.Ytigiahcfcglacaa
