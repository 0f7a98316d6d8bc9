/-
  Good pointers, and room at them.
-/
import Derived.Test.YtigiahcfcglacaaMmF
namespace Go.Proofs.Ytigiahcfcglacaa
open Go.RowKit Go.Maps
set_option linter.unusedVariables false
set_option maxRecDepth 100000

def goodG {α : Type} (sz : α → Nat) (xs : List (Option α)) (p : Vl) : Option α := if p.kind = 2 then (look xs p.block).filter (fun x => decide (p.v ≤ sz x)) else none
def roomG {α : Type} (sz : α → Nat) (al : α → Int) (xs : List (Option α)) (p : Vl) (n w : Int) : Option α := (goodG sz xs p).filter (fun x => isW w && decide (w ≤ al x) && decide (p.v % w = 0) && decide (1 ≤ n) && decide (n ≤ sz x - p.v))
def goodX (xs : List (Option Bx)) (p : Vl) : Option Bx := goodG (fun x => x.bk.size) xs p
def roomX (xs : List (Option Bx)) (p : Vl) (n w : Int) : Option Bx := roomG (fun x => x.bk.size) (fun x => x.bk.align) xs p n w
structure VlOK (p : Vl) : Prop where
  v0 : 0 ≤ p.v
  v1 : p.v < 4294967296
  b0 : -9223372036854775808 ≤ p.block
  b1 : p.block < 9223372036854775808
theorem goodG_some {α : Type} {sz : α → Nat} {xs : List (Option α)} {p : Vl} {x : α} (h : goodG sz xs p = some x) : p.kind = 2 ∧ p.v ≤ sz x ∧ ∃ i : Nat, p.block = (i : Int) + 1 ∧ xs[i]? = some (some x) := by
  unfold goodG at h
  split at h
  · rw [Option.filter_eq_some_iff] at h
    exact ⟨by assumption, by simpa using h.2, look_some h.1⟩
  · cases h
theorem goodX_some {xs : List (Option Bx)} {p : Vl} {x : Bx} (h : goodX xs p = some x) : p.kind = 2 ∧ p.v ≤ x.bk.size ∧ ∃ i : Nat, p.block = (i : Int) + 1 ∧ xs[i]? = some (some x) := goodG_some h
theorem roomG_some {α : Type} {sz : α → Nat} {al : α → Int} {xs : List (Option α)} {p : Vl} {n w : Int} {x : α} (h : roomG sz al xs p n w = some x) : goodG sz xs p = some x ∧ isW w = true ∧ w ≤ al x ∧ p.v % w = 0 ∧ 1 ≤ n ∧ n ≤ sz x - p.v := by
  unfold roomG at h
  rw [Option.filter_eq_some_iff] at h
  simp at h
  exact ⟨h.1, h.2.1.1.1.1, h.2.1.1.1.2, h.2.1.1.2, h.2.1.2, h.2.2⟩
theorem box_cells (w : World) (p : Vl) : (w.alloc (.cells #[.int .i64 p.kind, .int .u32 p.v, .int .i64 p.block] TV)).cell? ⟨w.heap.size, 0, none⟩ = some (.int .i64 p.kind) ∧ (w.alloc (.cells #[.int .i64 p.kind, .int .u32 p.v, .int .i64 p.block] TV)).cell? ⟨w.heap.size, 1, none⟩ = some (.int .u32 p.v) ∧ (w.alloc (.cells #[.int .i64 p.kind, .int .u32 p.v, .int .i64 p.block] TV)).cell? ⟨w.heap.size, 2, none⟩ = some (.int .i64 p.block) := by
  have e := heap_r0 w (.cells #[.int .i64 p.kind, .int .u32 p.v, .int .i64 p.block] TV)
  refine ⟨?_, ?_, ?_⟩ <;> rw [Lib.cell_of_heap e] <;> rfl
set_option maxHeartbeats 2000000 in
theorem good_c {w : World} {b : Nat} {xs : List (Option Bx)} {P : Nat → Prop} (h : MemX w b xs P) (p : Vl) (hp : VlOK p) :
    Calls Try.prog 51 #[.pointer (some ⟨b, 0, none⟩), .agg #[.int .i64 p.kind, .int .u32 p.v, .int .i64 p.block]] w fun e w' => e = .returned (ptrX (goodX xs p)) ∧ Below w.heap.size w w' := by
  have hB : Below w.heap.size w (w.alloc (.cells #[.int .i64 p.kind, .int .u32 p.v, .int .i64 p.block] TV)) := (Below.refl _ w).alloc (Nat.le_refl _) _
  obtain ⟨a0, a1, a2⟩ := box_cells w p
  have h' := h.keptB hB
  have c := given_c h'.c012.1
  have n1 := not_t
  have hlt := h.blt
  obtain ⟨mb, es, ck, q1, q2, q3, q4⟩ := h'.head
  have k1 : (w.alloc (.cells #[.int .i64 p.kind, .int .u32 p.v, .int .i64 p.block] TV)).cell? ⟨b, 1, none⟩ = some (.map (some mb)) := by rw [Lib.cell_of_heap q1]; rfl
  have lk := look_run (w := (w.alloc (.cells #[.int .i64 p.kind, .int .u32 p.v, .int .i64 p.block] TV)).drew) q2 q4 h.len p.block hp.b0 hp.b1
  have HB : Hid (Below w.heap.size w (w.alloc (.cells #[.int .i64 p.kind, .int .u32 p.v, .int .i64 p.block] TV))) := hB
  obtain ⟨v0, v1, b0, b1⟩ := hp
  unfold goodX goodG
  by_cases hk : p.kind = 2
  · rw [if_pos hk]
    have hk1 : (p.kind != 2) = false := by simpa using hk
    have e1 := eq_nil
    have e2 := eq_some
    cases hl : look xs p.block with
    | none =>
      rw [hl] at lk
      simp only [ptrX, Option.map_none, Option.filter_none] at lk ⊢
      clear h h' q1 q2 q4 hB hl hk
      go_enter Try.func51, Try.ntmps51
      go_wp2_with (go_at_call 30; refine c.mono ?_; rintro e w' ⟨rfl, rfl⟩)
      go_region
      go_wp2
      go_quiet (fail)
      go_wp2
      go_ret
      exact ⟨rfl, HB.out.trans ⟨rfl, rfl, rfl, Nat.le_refl _, fun _ _ => rfl⟩⟩
    | some x =>
      obtain ⟨i, hi, hx⟩ := look_some hl
      have hb := h'.at_ hx
      have c0 := hb.c0
      have hmx := hb.max
      clear hi
      rw [hl] at lk
      by_cases hv : p.v ≤ x.bk.size
      · rw [Option.filter_some, if_pos (by simpa using hv)]
        simp only [ptrX, Option.map_some] at lk ⊢
        have hv1 : decide ((x.bk.size : Int) < p.v) = false := by simpa using hv
        clear h h' q1 q2 q4 hB hl hk hb hx hv
        go_enter Try.func51, Try.ntmps51
        go_wp2_with (go_at_call 30; refine c.mono ?_; rintro e w' ⟨rfl, rfl⟩)
        go_region
        go_wp2
        go_quiet (fail)
        go_wp2
        go_ret
        exact ⟨rfl, HB.out.trans ⟨rfl, rfl, rfl, Nat.le_refl _, fun _ _ => rfl⟩⟩
      · rw [Option.filter_some, if_neg (by simpa using hv)]
        simp only [ptrX, Option.map_some, Option.map_none] at lk ⊢
        have hv1 : decide ((x.bk.size : Int) < p.v) = true := by simp; omega
        clear h h' q1 q2 q4 hB hl hk hb hx hv
        go_enter Try.func51, Try.ntmps51
        go_wp2_with (go_at_call 30; refine c.mono ?_; rintro e w' ⟨rfl, rfl⟩)
        go_region
        go_wp2
        go_quiet (fail)
        go_wp2
        go_ret
        exact ⟨rfl, HB.out.trans ⟨rfl, rfl, rfl, Nat.le_refl _, fun _ _ => rfl⟩⟩
  · rw [if_neg hk]
    have hk1 : (p.kind != 2) = true := by simpa using hk
    clear h h' q1 q2 q4 hB hk
    go_enter Try.func51, Try.ntmps51
    go_wp2_with (go_at_call 30; refine c.mono ?_; rintro e w' ⟨rfl, rfl⟩)
    go_ret
    exact ⟨rfl, HB.out⟩
set_option maxHeartbeats 4000000 in
theorem room_c {w : World} {b : Nat} {xs : List (Option Bx)} {P : Nat → Prop} (h : MemX w b xs P) (p : Vl) (hp : VlOK p) (n wd : Int) (n0 : -9223372036854775808 ≤ n) (n1 : n < 9223372036854775808) :
    Calls Try.prog 32 #[.pointer (some ⟨b, 0, none⟩), .agg #[.int .i64 p.kind, .int .u32 p.v, .int .i64 p.block], .int .i64 n, .int .i64 wd] w fun e w' => e = .returned (ptrX (roomX xs p n wd)) ∧ Below w.heap.size w w' := by
  have hB : Below w.heap.size w (w.alloc (.cells #[.int .i64 p.kind, .int .u32 p.v, .int .i64 p.block] TV)) := (Below.refl _ w).alloc (Nat.le_refl _) _
  obtain ⟨a0, a1, a2⟩ := box_cells w p
  have h' := h.keptB hB
  have c := good_c h' p hp
  have n2 := not_t
  have n3 := not_f
  have e1 := eq_nil
  have e2 := eq_some
  have hW := fun Y => isWidth_c wd Y
  have HB : Hid (Below w.heap.size w (w.alloc (.cells #[.int .i64 p.kind, .int .u32 p.v, .int .i64 p.block] TV))) := hB
  obtain ⟨v0, v1, b0, b1⟩ := hp
  have hrx : roomX xs p n wd = (goodX xs p).filter (fun x => isW wd && decide (wd ≤ x.bk.align) && decide (p.v % wd = 0) && decide (1 ≤ n) && decide (n ≤ x.bk.size - p.v)) := rfl
  rw [hrx]
  clear hrx
  have hsz : (w.alloc (.cells #[.int .i64 p.kind, .int .u32 p.v, .int .i64 p.block] TV)).heap.size = w.heap.size + 1 := by simp
  cases hg : goodX xs p with
  | none =>
    rw [hg] at c
    simp only [ptrX, Option.map_none, Option.filter_none] at c ⊢
    clear h h' hB hg
    go_enter Try.func32, Try.ntmps32
    go_wp2_with fail
    refine c.mono ?_; rintro e w1 ⟨rfl, hb1⟩
    have HB1 : Hid (Below w.heap.size w w1) := HB.out.trans (hb1.mono (by simp))
    clear hb1 c
    go_wp2
    go_ret
    exact ⟨rfl, HB1.out⟩
  | some x =>
    obtain ⟨hk2, hvs, i, hi, hx⟩ := goodX_some hg
    have hbl := h'.at_ hx
    have hmx := hbl.max
    have hal := hbl.al
    rw [hg] at c
    simp only [ptrX, Option.map_some, Option.filter_some] at c ⊢
    clear h h' hB hg hi hx hk2
    by_cases q1 : ¬ isW wd = true
    · have hwt : isW wd = false := by simpa using q1
      simp only [hwt] at hW
      have hcond : (isW wd && decide (wd ≤ x.bk.align) && decide (p.v % wd = 0) && decide (1 ≤ n) && decide (n ≤ x.bk.size - p.v)) = false := by
        simp [hwt]
      rw [hcond]
      simp only [Bool.false_eq_true, if_false, Option.map_none]
      clear hcond
      go_enter Try.func32, Try.ntmps32
      go_wp2_with fail
      refine c.mono ?_; rintro e w1 ⟨rfl, hb1⟩
      have HB1 : Hid (Below w.heap.size w w1) := HB.out.trans (hb1.mono (by simp))
      have hb2 := hbl.keptB hb1
      have k0 := hb2.c0
      have k1 := hb2.c1
      have k2 := (hb1.cell (p := ⟨w.heap.size, 1, none⟩) (by simp)).trans a1
      clear hb1 hb2 c hbl
      go_wp2_with (go_at_call 58; refine (hW _).mono ?_; rintro e w' ⟨rfl, hw⟩; rw [hw]; clear hw w')
      go_ret
      exact ⟨rfl, HB1.out⟩
    have q1 := Classical.not_not.1 q1
    have hwt := q1
    simp only [hwt] at hW
    have hwv : wd = 1 ∨ wd = 2 ∨ wd = 4 := by simpa [isW] using q1
    have hw0 : 0 < wd := by omega
    have hw4 : wd ≤ 4 := by omega
    clear hwv q1
    by_cases q2 : ¬ wd ≤ x.bk.align
    · have t2 : decide (x.bk.align < wd) = true := by simp; omega
      have hcond : (isW wd && decide (wd ≤ x.bk.align) && decide (p.v % wd = 0) && decide (1 ≤ n) && decide (n ≤ x.bk.size - p.v)) = false := by
        simp [q2]
      rw [hcond]
      simp only [Bool.false_eq_true, if_false, Option.map_none]
      clear hcond
      go_enter Try.func32, Try.ntmps32
      go_wp2_with fail
      refine c.mono ?_; rintro e w1 ⟨rfl, hb1⟩
      have HB1 : Hid (Below w.heap.size w w1) := HB.out.trans (hb1.mono (by simp))
      have hb2 := hbl.keptB hb1
      have k0 := hb2.c0
      have k1 := hb2.c1
      have k2 := (hb1.cell (p := ⟨w.heap.size, 1, none⟩) (by simp)).trans a1
      clear hb1 hb2 c hbl
      go_wp2_with (go_at_call 58; refine (hW _).mono ?_; rintro e w' ⟨rfl, hw⟩; rw [hw]; clear hw w')
      go_ret
      exact ⟨rfl, HB1.out⟩
    have q2 := Classical.not_not.1 q2
    have t2 : decide (x.bk.align < wd) = false := by simp; omega
    by_cases q3 : ¬ p.v % wd = 0
    · have t3 : (p.v % wd != 0) = true := by simpa using q3
      have hcond : (isW wd && decide (wd ≤ x.bk.align) && decide (p.v % wd = 0) && decide (1 ≤ n) && decide (n ≤ x.bk.size - p.v)) = false := by
        simp [q3]
      rw [hcond]
      simp only [Bool.false_eq_true, if_false, Option.map_none]
      clear hcond
      go_enter Try.func32, Try.ntmps32
      go_wp2_with fail
      refine c.mono ?_; rintro e w1 ⟨rfl, hb1⟩
      have HB1 : Hid (Below w.heap.size w w1) := HB.out.trans (hb1.mono (by simp))
      have hb2 := hbl.keptB hb1
      have k0 := hb2.c0
      have k1 := hb2.c1
      have k2 := (hb1.cell (p := ⟨w.heap.size, 1, none⟩) (by simp)).trans a1
      clear hb1 hb2 c hbl
      go_wp2_with (go_at_call 58; refine (hW _).mono ?_; rintro e w' ⟨rfl, hw⟩; rw [hw]; clear hw w')
      go_ret
      exact ⟨rfl, HB1.out⟩
    have q3 := Classical.not_not.1 q3
    have t3 : (p.v % wd != 0) = false := by simpa using q3
    by_cases q4 : ¬ 1 ≤ n
    · have t4 : decide (n < 1) = true := by simp; omega
      have hcond : (isW wd && decide (wd ≤ x.bk.align) && decide (p.v % wd = 0) && decide (1 ≤ n) && decide (n ≤ x.bk.size - p.v)) = false := by
        simp [q4]
      rw [hcond]
      simp only [Bool.false_eq_true, if_false, Option.map_none]
      clear hcond
      go_enter Try.func32, Try.ntmps32
      go_wp2_with fail
      refine c.mono ?_; rintro e w1 ⟨rfl, hb1⟩
      have HB1 : Hid (Below w.heap.size w w1) := HB.out.trans (hb1.mono (by simp))
      have hb2 := hbl.keptB hb1
      have k0 := hb2.c0
      have k1 := hb2.c1
      have k2 := (hb1.cell (p := ⟨w.heap.size, 1, none⟩) (by simp)).trans a1
      clear hb1 hb2 c hbl
      go_wp2_with (go_at_call 58; refine (hW _).mono ?_; rintro e w' ⟨rfl, hw⟩; rw [hw]; clear hw w')
      go_ret
      exact ⟨rfl, HB1.out⟩
    have q4 := Classical.not_not.1 q4
    have t4 : decide (n < 1) = false := by simp; omega
    by_cases q5 : ¬ n ≤ x.bk.size - p.v
    · have t5 : decide ((x.bk.size : Int) - p.v < n) = true := by simp; omega
      have hcond : (isW wd && decide (wd ≤ x.bk.align) && decide (p.v % wd = 0) && decide (1 ≤ n) && decide (n ≤ x.bk.size - p.v)) = false := by
        simp [q5]
      rw [hcond]
      simp only [Bool.false_eq_true, if_false, Option.map_none]
      clear hcond
      go_enter Try.func32, Try.ntmps32
      go_wp2_with fail
      refine c.mono ?_; rintro e w1 ⟨rfl, hb1⟩
      have HB1 : Hid (Below w.heap.size w w1) := HB.out.trans (hb1.mono (by simp))
      have hb2 := hbl.keptB hb1
      have k0 := hb2.c0
      have k1 := hb2.c1
      have k2 := (hb1.cell (p := ⟨w.heap.size, 1, none⟩) (by simp)).trans a1
      clear hb1 hb2 c hbl
      go_wp2_with (go_at_call 58; refine (hW _).mono ?_; rintro e w' ⟨rfl, hw⟩; rw [hw]; clear hw w')
      go_ret
      exact ⟨rfl, HB1.out⟩
    · have q5 := Classical.not_not.1 q5
      have t5 : decide ((x.bk.size : Int) - p.v < n) = false := by simp; omega
      have hcond : (isW wd && decide (wd ≤ x.bk.align) && decide (p.v % wd = 0) && decide (1 ≤ n) && decide (n ≤ x.bk.size - p.v)) = true := by
        simp [hwt, q2, q3, q4, q5]
      rw [hcond]
      simp only [if_true, Option.map_some]
      clear hcond
      go_enter Try.func32, Try.ntmps32
      go_wp2_with fail
      refine c.mono ?_; rintro e w1 ⟨rfl, hb1⟩
      have HB1 : Hid (Below w.heap.size w w1) := HB.out.trans (hb1.mono (by simp))
      have hb2 := hbl.keptB hb1
      have k0 := hb2.c0
      have k1 := hb2.c1
      have k2 := (hb1.cell (p := ⟨w.heap.size, 1, none⟩) (by simp)).trans a1
      clear hb1 hb2 c hbl
      go_wp2_with (go_at_call 58; refine (hW _).mono ?_; rintro e w' ⟨rfl, hw⟩; rw [hw]; clear hw w')
      go_ret
      exact ⟨rfl, HB1.out⟩
end Go.Proofs.Ytigiahcfcglacaa
