/-
  Rows of instructions and of operands as they lie in memory; Next of package tac.
  DeleteFunc of two numbers; Compact of two; ways and Next.
  ways of package tac.
-/
import Derived.Test.YtaaphipbkpjkjaaGreatDoorKA
import Derived.Deep.CutRange
namespace Go.Proofs.YtaaphipbkpjkjaaGreatDoor
open Go.RowKit Go.Maps
set_option linter.unusedVariables false
set_option maxRecDepth 100000
theorem IntSl.one {w : World} {g c : Nat} {a : Int} (hc1 : 1 ≤ c) (hgl : g < w.heap.size) (h0 : w.cell? ⟨g, 0, none⟩ = some (.int .i64 a)) : IntSl w (.slice (some ⟨g, 0, none⟩) 1 c) [a] :=
  Or.inr ⟨g, 0, c, rfl, hc1, hgl, fun i n hn => by
    rcases i with _ | i
    · simp at hn; subst hn; exact h0
    · simp at hn⟩
theorem IntSl.two {w : World} {g c : Nat} {a b : Int} (hc1 : 2 ≤ c) (hgl : g < w.heap.size) (h0 : w.cell? ⟨g, 0, none⟩ = some (.int .i64 a)) (h1 : w.cell? ⟨g, 1, none⟩ = some (.int .i64 b)) : IntSl w (.slice (some ⟨g, 0, none⟩) 2 c) [a, b] :=
  Or.inr ⟨g, 0, c, rfl, hc1, hgl, fun i n hn => by
    rcases i with _ | _ | i
    · simp at hn; subst hn; exact h0
    · simp at hn; subst hn; exact h1
    · simp at hn⟩
theorem IntSl.none {w : World} {g c : Nat} (hgl : g < w.heap.size) : IntSl w (.slice (some ⟨g, 0, none⟩) 0 c) [] :=
  Or.inr ⟨g, 0, c, rfl, Nat.zero_le _, hgl, fun i n hn => by simp at hn⟩
section
variable {w : World} {cb len cap : Nat} {cp : Option Addr}
theorem del2 (hc : w.cell? ⟨cb, 0, none⟩ = some (.slice cp len cap)) (hl : len ≤ 9223372036854775807) {g c : Nat} (hc1 : 2 ≤ c) {a b : Int} {cs : Array Value} (hg : w.heap[g]? = some (.cells cs 3 (0, 0))) (hz : 2 ≤ cs.size) (h0 : w.cell? ⟨g, 0, none⟩ = some (.int .i64 a)) (h1 : w.cell? ⟨g, 1, none⟩ = some (.int .i64 b)) :
    Calls Tryz.prog 29 #[.slice (some ⟨g, 0, none⟩) 2 c, nextFn cb] w fun e w' => ∃ v, e = .returned v ∧ IntSl w' v ([a, b].filter fun x => withinP x 0 ((len : Int) - 1)) ∧ Turned w w' (fun k => k = g) := by
  have hgl := lt_of_heap hg
  have c1 := index2 hc hl h0 h1 (c := c)
  have c2 := next1_c (n := 0) hc hl b
  cases hp : withinP a 0 ((len : Int) - 1) with
  | true =>
    cases hq : withinP b 0 ((len : Int) - 1) with
    | true =>
      rw [hp, hq] at c1
      simp only [if_true] at c1
      have HF : Hid ([a, b].filter (fun x => withinP x 0 ((len : Int) - 1)) = [a, b]) := by show _ = _; simp [hp, hq]
      clear hp hq c2
      go_enter Tryz.func29, Tryz.ntmps29
      go_wp2_with (first | (go_at_call 53; refine c1.mono ?_; rintro e w' ⟨rfl, hw⟩; rw [hw]; clear hw w') | fail)
      go_ret
      refine ⟨_, rfl, ?_, Turned.refl _ _⟩
      rw [HF.out]
      exact IntSl.two hc1 hgl h0 h1
    | false =>
      rw [hp, hq] at c1
      simp only [if_true, Bool.false_eq_true, if_false] at c1
      have HF : Hid ([a, b].filter (fun x => withinP x 0 ((len : Int) - 1)) = [a]) := by show _ = _; simp [hp, hq]
      have hclr := clearI w g 1 1 (c - 1) hg (by omega) (by omega)
      have HT : Hid (Turned w (w.setCells g 1 (List.replicate 1 (.int .i64 0))) (fun k => k = g)) := Turned.setCells g _ 1 w rfl
      have k0 : (w.setCells g 1 (List.replicate 1 (.int .i64 0))).cell? ⟨g, 0, none⟩ = some (.int .i64 a) := by rw [World.cell?_setCells_out g _ 1 w ⟨g, 0, none⟩ (fun _ _ => Or.inl (by show (0 : Nat) < 1; omega))]; exact h0
      generalize w.setCells g 1 (List.replicate 1 (.int .i64 0)) = w2 at *
      clear hp hq c2
      go_enter Tryz.func29, Tryz.ntmps29
      go_wp2_with (first | (go_at_call 53; refine c1.mono ?_; rintro e w' ⟨rfl, hw⟩; rw [hw]; clear hw w') | fail)
      refine wp_loop_rounds 1 ?_
      rw [rounds_succ]
      go_wp2
      go_ret
      refine ⟨_, rfl, ?_, HT.out⟩
      rw [HF.out]
      exact IntSl.one (by omega) (Nat.lt_of_lt_of_le hgl HT.out.size) k0
  | false =>
    cases hq : withinP b 0 ((len : Int) - 1) with
    | true =>
      rw [hp, hq] at c1
      rw [hq] at c2
      simp only [Bool.false_eq_true, if_false] at c1
      have HF : Hid ([a, b].filter (fun x => withinP x 0 ((len : Int) - 1)) = [b]) := by show _ = _; simp [hp, hq]
      have hf0 := frozen_of hg 0
      have T1 : Turned w (w.setCell ⟨g, 0, none⟩ (.int .i64 b)) (fun k => k = g) := Turned.setCell w g 0 _ rfl
      have g1 := heap_setCell (j := 0) hg (.int .i64 b)
      have hclr := clearI (w.setCell ⟨g, 0, none⟩ (.int .i64 b)) g 1 1 (c - 1) g1 (by omega) (by simp; omega)
      have HT : Hid (Turned w ((w.setCell ⟨g, 0, none⟩ (.int .i64 b)).setCells g 1 (List.replicate 1 (.int .i64 0))) (fun k => k = g)) := T1.trans (Turned.setCells (S := fun k => k = g) g _ 1 _ rfl) (fun _ _ e => e)
      have k0 : ((w.setCell ⟨g, 0, none⟩ (.int .i64 b)).setCells g 1 (List.replicate 1 (.int .i64 0))).cell? ⟨g, 0, none⟩ = some (.int .i64 b) := by
        rw [World.cell?_setCells_out g _ 1 _ ⟨g, 0, none⟩ (fun _ _ => Or.inl (by show (0 : Nat) < 1; omega))]
        have e : (cs.setIfInBounds 0 (Value.int .i64 b))[0]? = some (Value.int .i64 b) := by rw [Array.getElem?_setIfInBounds, if_pos rfl, if_pos (by omega)]
        exact (Lib.cell_of_heap g1 0).trans e
      generalize (w.setCell ⟨g, 0, none⟩ (.int .i64 b)).setCells g 1 (List.replicate 1 (.int .i64 0)) = w2 at *
      clear hp hq g1 T1
      go_enter Tryz.func29, Tryz.ntmps29
      go_wp2_with (first | (go_at_call 53; refine c1.mono ?_; rintro e w' ⟨rfl, hw⟩; rw [hw]; clear hw w') | fail)
      refine wp_loop_rounds 2 ?_
      rw [rounds_succ]
      go_wp2_with (first | (go_at_call 31; refine c2.mono ?_; rintro e w' ⟨rfl, hw⟩; rw [hw]; clear hw w') | fail)
      rw [rounds_succ]
      go_wp2
      go_ret
      refine ⟨_, rfl, ?_, HT.out⟩
      rw [HF.out]
      exact IntSl.one (by omega) (Nat.lt_of_lt_of_le hgl HT.out.size) k0
    | false =>
      rw [hp, hq] at c1
      rw [hq] at c2
      simp only [Bool.false_eq_true, if_false] at c1
      have HF : Hid ([a, b].filter (fun x => withinP x 0 ((len : Int) - 1)) = []) := by show _ = _; simp [hp, hq]
      have hclr := clearI w g 0 2 c hg (by omega) (by omega)
      have HT : Hid (Turned w (w.setCells g 0 (List.replicate 2 (.int .i64 0))) (fun k => k = g)) := Turned.setCells g _ 0 w rfl
      generalize w.setCells g 0 (List.replicate 2 (.int .i64 0)) = w2 at *
      clear hp hq
      go_enter Tryz.func29, Tryz.ntmps29
      go_wp2_with (first | (go_at_call 53; refine c1.mono ?_; rintro e w' ⟨rfl, hw⟩; rw [hw]; clear hw w') | fail)
      refine wp_loop_rounds 2 ?_
      rw [rounds_succ]
      go_wp2_with (first | (go_at_call 31; refine c2.mono ?_; rintro e w' ⟨rfl, hw⟩; rw [hw]; clear hw w') | fail)
      rw [rounds_succ]
      go_wp2
      go_ret
      refine ⟨_, rfl, ?_, HT.out⟩
      rw [HF.out]
      exact IntSl.none (Nat.lt_of_lt_of_le hgl HT.out.size)
/-- Compact of two numbers. -/
theorem compact2 {g c : Nat} (hc1 : 2 ≤ c) {a b : Int} {cs : Array Value} (hg : w.heap[g]? = some (.cells cs 3 (0, 0))) (hz : 2 ≤ cs.size) (h0 : w.cell? ⟨g, 0, none⟩ = some (.int .i64 a)) (h1 : w.cell? ⟨g, 1, none⟩ = some (.int .i64 b)) :
    Calls Tryz.prog 54 #[.slice (some ⟨g, 0, none⟩) 2 c] w fun e w' => (a = b ∧ e = .returned (.slice (some ⟨g, 0, none⟩) 1 c) ∧ w'.cell? ⟨g, 0, none⟩ = some (.int .i64 a) ∧ (∃ cs', w'.heap[g]? = some (.cells cs' 3 (0, 0)) ∧ 1 ≤ cs'.size) ∧ Turned w w' (fun k => k = g)) ∨ (a ≠ b ∧ e = .returned (.slice (some ⟨g, 0, none⟩) 2 c) ∧ Below w.heap.size w w') := by
  have hgl := lt_of_heap hg
  by_cases hab : a = b
  · subst hab
    have hgd : w.drew.heap[g]? = some (.cells cs 3 (0, 0)) := hg
    have hclr := clearI w.drew g 1 1 (c - 1) hgd (by omega) (by omega)
    have HT : Hid (Turned w (w.drew.setCells g 1 (List.replicate 1 (.int .i64 0))) (fun k => k = g)) := (Turned.of_below (Below.refl _ w).drew (fun k => k = g)).trans (Turned.setCells (S := fun k => k = g) g _ 1 _ rfl) (fun _ _ e => e)
    have HK : Hid ((w.drew.setCells g 1 (List.replicate 1 (.int .i64 0))).cell? ⟨g, 0, none⟩ = some (.int .i64 a)) := by
      show _ = _
      rw [World.cell?_setCells_out g _ 1 w.drew ⟨g, 0, none⟩ (fun _ _ => Or.inl (by show (0 : Nat) < 1; omega))]
      exact h0
    have HG : Hid (∃ cs', (w.drew.setCells g 1 (List.replicate 1 (.int .i64 0))).heap[g]? = some (.cells cs' 3 (0, 0)) ∧ 1 ≤ cs'.size) := ⟨_, heap_setCell (j := 1) hgd (.int .i64 0), by simp; omega⟩
    generalize w.drew.setCells g 1 (List.replicate 1 (.int .i64 0)) = w2 at *
    clear hgd hg
    go_enter Tryz.func54, Tryz.ntmps54
    go_wp2
    refine wp_loop_rounds 1 ?_
    rw [rounds_succ]
    go_upto_region 6 with (fail)
    go_region
    go_wp2
    refine wp_loop_rounds 1 ?_
    rw [rounds_succ]
    go_wp2
    go_ret
    exact Or.inl ⟨by first | rfl | trivial, rfl, HK.out, HG.out, HT.out⟩
  · have hne : (b == a) = false := by simpa using fun e => hab e.symm
    have HAB : Hid (a ≠ b) := hab
    clear hab
    go_enter Tryz.func54, Tryz.ntmps54
    go_wp2
    refine wp_loop_rounds 2 ?_
    rw [rounds_succ]
    go_upto_region 6 with (fail)
    go_region
    go_wp2
    rw [rounds_succ]
    go_wp2
    go_ret
    exact Or.inr ⟨HAB.out, rfl, (Below.refl _ w).drew⟩
end
end Go.Proofs.YtaaphipbkpjkjaaGreatDoor
namespace Go.Proofs.YtaaphipbkpjkjaaGreatDoor
open Go.RowKit Go.Maps
set_option linter.unusedVariables false
set_option maxRecDepth 100000
def waysP (op n i : Int) : List Int := if op = 9 ∨ op = 14 then [] else if op = 10 then [n] else if op = 11 then (if i + 1 = n then [n] else [min (i + 1) n, max (i + 1) n]) else [i + 1]
/-- A new row of numbers, or none. -/
def NewI (w w' : World) (v : Value) (l : List Int) : Prop :=
  Below w.heap.size w w' ∧ ((v = .slice none 0 0 ∧ l = []) ∨ ∃ g c cs, w.heap.size ≤ g ∧ v = .slice (some ⟨g, 0, none⟩) l.length c ∧ l.length ≤ c ∧ w'.heap[g]? = some (.cells cs 3 (0, 0)) ∧ l.length ≤ cs.size ∧ ∀ k n, l[k]? = some n → w'.cell? ⟨g, k, none⟩ = some (.int .i64 n))
theorem NewI.of {w w' : World} {v : Value} {L R : List Int} (h : NewI w w' v L) (e : L = R) : NewI w w' v R := e ▸ h
section
variable {w : World}
theorem newI_one (w1 : World) (hb : Below w.heap.size w w1) (a : Int) : NewI w (w1.alloc (.cells #[.int .i64 a] 3)) (.slice (some ⟨w1.heap.size, 0, none⟩) 1 1) [a] :=
  ⟨hb.trans ((below1 w1 _).mono hb.size), Or.inr ⟨w1.heap.size, 1, _, hb.size, rfl, Nat.le_refl _, heap_r0 w1 _, Nat.le_refl _, fun k n hn => by
    rcases k with _ | k
    · simp at hn; subst hn; exact (Lib.cell_of_heap (heap_r0 w1 _) 0).trans rfl
    · simp at hn⟩⟩
theorem compact_new {W1 : World} (hb : Below w.heap.size w W1) {p q : Int} {e : Ending} {w' : World} (h : (p = q ∧ e = .returned (.slice (some ⟨W1.heap.size, 0, none⟩) 1 2) ∧ w'.cell? ⟨W1.heap.size, 0, none⟩ = some (.int .i64 p) ∧ (∃ cs', w'.heap[W1.heap.size]? = some (.cells cs' 3 (0, 0)) ∧ 1 ≤ cs'.size) ∧ Turned (W1.alloc (.cells #[.int .i64 p, .int .i64 q] 3)) w' (fun k => k = W1.heap.size)) ∨ (p ≠ q ∧ e = .returned (.slice (some ⟨W1.heap.size, 0, none⟩) 2 2) ∧ Below (W1.alloc (.cells #[.int .i64 p, .int .i64 q] 3)).heap.size (W1.alloc (.cells #[.int .i64 p, .int .i64 q] 3)) w')) :
    ∃ (m : Nat), e = .returned (.slice (some ⟨W1.heap.size, 0, none⟩) m 2) ∧ NewI w w' (.slice (some ⟨W1.heap.size, 0, none⟩) m 2) (if p = q then [p] else [p, q]) := by
  have b1 := hb.trans ((below1 W1 (.cells #[.int .i64 p, .int .i64 q] 3)).mono hb.size)
  rcases h with ⟨rfl, rfl, hc, ⟨cs, h1, h2⟩, ht⟩ | ⟨hne, rfl, h1⟩
  · refine ⟨1, rfl, below_turned b1 ht hb.size, Or.inr ⟨W1.heap.size, 2, cs, hb.size, by rw [if_pos rfl]; rfl, by rw [if_pos rfl]; exact Nat.le_succ 1, h1, by rw [if_pos rfl]; exact h2, fun k n hn => ?_⟩⟩
    rw [if_pos rfl] at hn
    rcases k with _ | k
    · simp at hn; subst hn; exact hc
    · simp at hn
  · refine ⟨2, rfl, b1.trans (h1.mono b1.size), Or.inr ⟨W1.heap.size, 2, _, hb.size, by rw [if_neg hne]; rfl, by rw [if_neg hne]; exact Nat.le_refl 2, blk_b (heap_r0 W1 _) h1, by rw [if_neg hne]; exact Nat.le_refl 2, fun k n hn => ?_⟩⟩
    rw [if_neg hne] at hn
    have g1 := blk_b (heap_r0 W1 _) h1
    rcases k with _ | _ | k
    · simp at hn; subst hn; exact (Lib.cell_of_heap g1 0).trans rfl
    · simp at hn; subst hn; exact (Lib.cell_of_heap g1 1).trans rfl
    · simp at hn
theorem compactN {W1 : World} (hb : Below w.heap.size w W1) (p q : Int) : Calls Tryz.prog 54 #[.slice (some ⟨W1.heap.size, 0, none⟩) 2 2] (W1.alloc (.cells #[.int .i64 p, .int .i64 q] 3)) fun e w' => ∃ (m : Nat), e = .returned (.slice (some ⟨W1.heap.size, 0, none⟩) m 2) ∧ NewI w w' (.slice (some ⟨W1.heap.size, 0, none⟩) m 2) (if p = q then [p] else [p, q]) :=
  (compact2 (Nat.le_refl _) (heap_r0 W1 _) (Nat.le_refl _) ((Lib.cell_of_heap (heap_r0 W1 _) 0).trans rfl) ((Lib.cell_of_heap (heap_r0 W1 _) 1).trans rfl)).mono fun e w' h => compact_new hb h
set_option maxHeartbeats 4000000 in
theorem ways_c (x : In) (s : Option Addr) (sn sc : Nat) (i : Int) (h0 : 0 ≤ i) (h1 : i ≤ 9223372036854775806) (w : World) :
    Calls Tryz.prog 30 #[.agg (inCells x (.slice s sn sc)).toArray, .int .i64 i] w fun e w' => ∃ v, e = .returned v ∧ NewI w w' v (waysP x.op x.n i) := by
  have b1 := below1 w (.cells (inCells x (.slice s sn sc)).toArray TIn)
  have N := heap_r0 w (.cells (inCells x (.slice s sn sc)).toArray TIn)
  have c0 := Lib.cell_of_heap N 0
  have c7 := Lib.cell_of_heap N 7
  simp only [inCells, List.getElem?_toArray, List.getElem?_cons_zero, List.getElem?_cons_succ] at c0 c7
  have HB : Hid (Below w.heap.size w (w.alloc (.cells (inCells x (.slice s sn sc)).toArray TIn))) := b1
  have hwi : IntKind.i64.wrap (i + 1) = i + 1 := wrap_idI (by omega) (by omega)
  unfold inCells at *
  unfold waysP
  clear b1 N
  obtain ⟨op, bin, d, ⟨ak, an⟩, ⟨bk, bn⟩, n, off, width, sg, args⟩ := x
  simp only at *
  have hpb : w.heap.size < (w.alloc (.cells #[.int .i64 op, .int .i64 bin, .int .i64 d, .int .i64 ak, .int .u32 an, .int .i64 bk, .int .u32 bn, .int .i64 n, .int .i64 off, .int .i64 width, .bool sg, .slice s sn sc] TIn)).heap.size := by simp
  obtain ⟨R, hR⟩ : ∃ R, R = (if op = 9 ∨ op = 14 then [] else if op = 10 then [n] else if op = 11 then (if i + 1 = n then [n] else [min (i + 1) n, max (i + 1) n]) else [i + 1]) := ⟨_, rfl⟩
  rw [← hR]
  have HR : Hid (R = _) := hR
  clear hR
  go_enter Tryz.func30, Tryz.ntmps30
  go_upto_region 1 with (fail)
  refine (?_ : Code.wp _ _ _ _ (w.alloc (.cells #[.int .i64 op, .int .i64 bin, .int .i64 d, .int .i64 ak, .int .u32 an, .int .i64 bk, .int .u32 bn, .int .i64 n, .int .i64 off, .int .i64 width, .bool sg, .slice s sn sc] TIn)))
  generalize w.alloc (.cells #[.int .i64 op, .int .i64 bin, .int .i64 d, .int .i64 ak, .int .u32 an, .int .i64 bk, .int .u32 bn, .int .i64 n, .int .i64 off, .int .i64 width, .bool sg, .slice s sn sc] TIn) = W1 at *
  by_cases h9 : op = 9 ∨ op = 14
  · have HR2 : Hid (R = []) := HR.out.trans (if_pos h9)
    rcases h9 with rfl | rfl
    all_goals
      go_wp2
      go_ret
      exact ⟨_, rfl, HB.out, Or.inl ⟨rfl, HR2.out⟩⟩
  have HR1 : Hid (R = if op = 10 then [n] else if op = 11 then (if i + 1 = n then [n] else [min (i + 1) n, max (i + 1) n]) else [i + 1]) := HR.out.trans (if_neg h9)
  have q9 : (op == 9) = false := by simp; omega
  have q14 : (op == 14) = false := by simp; omega
  by_cases h10 : op = 10
  · have HR2 : Hid (R = [n]) := HR1.out.trans (if_pos h10)
    subst h10
    clear h9 q9 q14
    go_wp2
    go_ret
    rw [HR2.out]
    exact ⟨_, rfl, newI_one _ HB.out n⟩
  have HR3 : Hid (R = if op = 11 then (if i + 1 = n then [n] else [min (i + 1) n, max (i + 1) n]) else [i + 1]) := HR1.out.trans (if_neg h10)
  have q10 : (op == 10) = false := by simpa using h10
  by_cases h11 : op = 11
  · have HR4 : Hid (R = if i + 1 = n then [n] else [min (i + 1) n, max (i + 1) n]) := HR3.out.trans (if_pos h11)
    clear HR HR1 HR3
    subst h11
    clear h9 q9 q14 q10 h10
    go_upto_region 8 with (fail)
    have HC : Hid (∀ p q, Calls Tryz.prog 54 #[.slice (some ⟨W1.heap.size, 0, none⟩) 2 2] (W1.alloc (.cells #[.int .i64 p, .int .i64 q] 3)) fun e w' => ∃ (m : Nat), e = .returned (.slice (some ⟨W1.heap.size, 0, none⟩) m 2) ∧ NewI w w' (.slice (some ⟨W1.heap.size, 0, none⟩) m 2) (if p = q then [p] else [p, q])) := fun p q => compactN HB.out p q
    go_wp2_with (first | (go_at_call 54; refine (HC.out _ _).mono ?_; rintro e w' ⟨m, rfl, hN⟩; have HN : Hid (NewI w w' (.slice (some ⟨W1.heap.size, 0, none⟩) m 2) _) := hN; clear hN) | fail)
    all_goals
      go_ret
      refine ⟨_, rfl, NewI.of HN.out ?_⟩
      rw [HR4.out]
      rcases Int.lt_trichotomy (i + 1) n with e | e | e
      · have e1 : ¬ n < i + 1 := by omega
        have e2 : ¬ i + 1 = n := by omega
        rw [if_neg e2, show min (i + 1) n = i + 1 by omega, show max (i + 1) n = n by omega]
        simp only [if_pos e, if_neg e1, if_neg e2]
      · have e1 : ¬ n < i + 1 := by omega
        have e2 : ¬ i + 1 < n := by omega
        rw [if_pos e]
        simp only [if_neg e1, if_neg e2, if_true]
        rw [e]
      · have e1 : ¬ i + 1 < n := by omega
        have e2 : ¬ i + 1 = n := by omega
        have e3 : ¬ n = i + 1 := by omega
        rw [if_neg e2, show min (i + 1) n = n by omega, show max (i + 1) n = i + 1 by omega]
        simp only [if_pos e, if_neg e1, if_neg e3]
  · have HR4 : Hid (R = [i + 1]) := HR3.out.trans (if_neg h11)
    have q11 : (op == 11) = false := by simpa using h11
    clear h9
    go_wp2
    go_ret
    rw [HR4.out]
    exact ⟨_, rfl, newI_one _ HB.out (i + 1)⟩
end
end Go.Proofs.YtaaphipbkpjkjaaGreatDoor
namespace Go.Proofs.YtaaphipbkpjkjaaGreatDoor
open Go.RowKit Go.Maps
set_option linter.unusedVariables false
set_option maxRecDepth 100000
/-- A slice of operands, wherever it begins (an empty one may have any address). -/
def ArgV (w : World) (v : Value) (l : List Ar) : Prop := ∃ p cap, v = .slice p l.length cap ∧ (l.length ≤ cap ∧ (p = none → cap = 0)) ∧ ∀ i a, l[i]? = some a → ∃ g o, p = some ⟨g, o, none⟩ ∧ g < w.heap.size ∧ ∀ j, j < 2 → w.cell? ⟨g, o + i * 2 + j, none⟩ = (arCells a)[j]?
/-- A slice of instructions. -/
def InV (w : World) (v : Value) (xs : List (In × Value)) : Prop := ∃ p cap, v = .slice p xs.length cap ∧ xs.length ≤ cap ∧ ∀ i q, xs[i]? = some q → (∃ g o, p = some ⟨g, o, none⟩ ∧ g < w.heap.size ∧ ∀ j, j < 12 → w.cell? ⟨g, o + i * 12 + j, none⟩ = (inCells q.1 q.2)[j]?) ∧ ArgV w q.2 q.1.args
theorem ArgV.below {w w' : World} {v : Value} {l : List Ar} (h : ArgV w v l) (hb : Below w.heap.size w w') : ArgV w' v l := by
  obtain ⟨p, cap, h1, h2, h3⟩ := h
  refine ⟨p, cap, h1, h2, fun i a ha => ?_⟩
  obtain ⟨g, o, e, hg, hc⟩ := h3 i a ha
  exact ⟨g, o, e, Nat.lt_of_lt_of_le hg hb.size, fun j hj => (hb.cell (p := ⟨g, o + i * 2 + j, none⟩) hg).trans (hc j hj)⟩
theorem InV.below {w w' : World} {v : Value} {xs : List (In × Value)} (h : InV w v xs) (hb : Below w.heap.size w w') : InV w' v xs := by
  obtain ⟨p, cap, h1, h2, h3⟩ := h
  refine ⟨p, cap, h1, h2, fun i a ha => ?_⟩
  obtain ⟨⟨g, o, e, hg, hc⟩, hA⟩ := h3 i a ha
  exact ⟨⟨g, o, e, Nat.lt_of_lt_of_le hg hb.size, fun j hj => (hb.cell (p := ⟨g, o + i * 12 + j, none⟩) hg).trans (hc j hj)⟩, hA.below hb⟩
def nextP (xs : List (In × Value)) (i : Int) : List Int := if withinP i 0 ((xs.length : Int) - 1) then (match xs[i.toNat]? with | some q => (waysP q.1.op q.1.n i).filter (fun x => withinP x 0 ((xs.length : Int) - 1)) | none => []) else []
theorem waysP_len (op n i : Int) : (waysP op n i).length ≤ 2 := by
  unfold waysP
  repeat' split
  all_goals simp
section
variable {w : World} {cb len cap : Nat} {cp : Option Addr}
/-- DeleteFunc of a new row of at most two numbers. -/
theorem del_any {w1 w2 : World} {v : Value} {L : List Int} (hb : Below w.heap.size w w1) (hN : NewI w1 w2 v L) (hL : L.length ≤ 2) (hc : w2.cell? ⟨cb, 0, none⟩ = some (.slice cp len cap)) (hl : len ≤ 9223372036854775807) :
    Calls Tryz.prog 29 #[v, nextFn cb] w2 fun e w' => ∃ u, e = .returned u ∧ IntSl w' u (L.filter fun x => withinP x 0 ((len : Int) - 1)) ∧ Below w.heap.size w w' := by
  obtain ⟨hb2, ⟨rfl, rfl⟩ | ⟨g, c, cs, h1, rfl, h2, h3, h4, h5⟩⟩ := hN
  · refine (del0 hc hl none 0).mono ?_
    rintro e w' ⟨rfl, rfl⟩
    exact ⟨_, rfl, Or.inl ⟨rfl, rfl⟩, hb.trans (hb2.mono hb.size)⟩
  · have hlow := hb.trans (hb2.mono hb.size)
    have hg : w.heap.size ≤ g := Nat.le_trans hb.size h1
    match L, hL with
    | [], _ =>
      refine (del0 hc hl _ c).mono ?_
      rintro e w' ⟨rfl, rfl⟩
      exact ⟨_, rfl, IntSl.none (lt_of_heap h3), hlow⟩
    | [a], _ =>
      refine (del1 hc hl h2 h3 h4 (h5 0 a rfl)).mono ?_
      rintro e w' ⟨u, rfl, hu, ht⟩
      exact ⟨u, rfl, hu, below_turned hlow ht hg⟩
    | [a, b], _ =>
      refine (del2 hc hl h2 h3 h4 (h5 0 a rfl) (h5 1 b rfl)).mono ?_
      rintro e w' ⟨u, rfl, hu, ht⟩
      exact ⟨u, rfl, hu, below_turned hlow ht hg⟩
    | a :: b :: c :: l, h => simp at h
set_option maxHeartbeats 4000000 in
theorem next_c {v : Value} {xs : List (In × Value)} (hV : InV w v xs) (hlen : xs.length ≤ 9223372036854775806) (i : Int) :
    Calls Tryz.prog 11 #[v, .int .i64 i] w fun e w' => ∃ u, e = .returned u ∧ IntSl w' u (nextP xs i) ∧ Below w.heap.size w w' := by
  obtain ⟨p, cap, rfl, hcap, hq⟩ := hV
  have b1 := below1 w (.cells #[.slice p xs.length cap] TIns)
  have N1 := heap_r0 w (.cells #[.slice p xs.length cap] TIns)
  have HB1 : Hid (Below w.heap.size w (w.alloc (.cells #[.slice p xs.length cap] TIns))) := b1
  have k0 := (Lib.cell_of_heap N1 0).trans rfl
  have c1 := isNumber_c i (xs.length : Int) (by omega) (by omega) (w.alloc (.cells #[.slice p xs.length cap] TIns))
  have nt := not_t
  have nf := not_f
  cases hin : withinP i 0 ((xs.length : Int) - 1) with
  | false =>
    rw [hin] at c1
    have HR : Hid (nextP xs i = []) := by show nextP xs i = []; unfold nextP; rw [hin]; rfl
    rw [HR.out]
    clear hin hq b1 N1
    go_enter Tryz.func11, Tryz.ntmps11
    go_wp2_with (first | (go_at_call 28; refine c1.mono ?_; rintro e w' ⟨rfl, hw⟩; rw [hw]; clear hw w') | fail)
    go_ret
    exact ⟨_, rfl, Or.inl ⟨rfl, rfl⟩, HB1.out⟩
  | true =>
    rw [hin] at c1
    have hin2 : 0 ≤ i ∧ i ≤ (xs.length : Int) - 1 := by unfold withinP at hin; simpa using hin
    obtain ⟨k, rfl⟩ : ∃ k : Nat, i = k := ⟨i.toNat, by omega⟩
    have hk : k < xs.length := by omega
    obtain ⟨q, hqk⟩ : ∃ q, xs[k]? = some q := ⟨_, List.getElem?_eq_getElem hk⟩
    obtain ⟨⟨g, o, rfl, hgl, hcell⟩, hA⟩ := hq k q hqk
    obtain ⟨ap, acap, hqa, _, _⟩ := hA
    have HR : Hid (nextP xs (k : Int) = (waysP q.1.op q.1.n (k : Int)).filter (fun x => withinP x 0 ((xs.length : Int) - 1))) := by
      show _ = _
      unfold nextP
      rw [hin, if_pos rfl, Int.toNat_natCast, hqk]
    have cW := ways_c q.1 ap q.1.args.length acap (k : Int) (by omega) (by omega) (w.alloc (.cells #[.slice (some ⟨g, o, none⟩) xs.length cap] TIns))
    have HL2 := waysP_len q.1.op q.1.n (k : Int)
    rw [HR.out]
    obtain ⟨⟨op, bin, d, ⟨ak, an⟩, ⟨bk, bn⟩, n, off, width, sg, args⟩, qv⟩ := q
    simp only at hqa cW HL2 ⊢
    subst hqa
    simp only [inCells] at cW hcell
    have hc12 : ∀ j, j < 12 → (w.alloc (.cells #[.slice (some ⟨g, o, none⟩) xs.length cap] TIns)).cell? ⟨g, o + k * 12 + j, none⟩ = [Value.int .i64 op, .int .i64 bin, .int .i64 d, .int .i64 ak, .int .u32 an, .int .i64 bk, .int .u32 bn, .int .i64 n, .int .i64 off, .int .i64 width, .bool sg, .slice ap args.length acap][j]? := fun j hj => (b1.cell (p := ⟨g, o + k * 12 + j, none⟩) hgl).trans (hcell j hj)
    have r0 := hc12 0 (by omega)
    have r1 := hc12 1 (by omega)
    have r2 := hc12 2 (by omega)
    have r3 := hc12 3 (by omega)
    have r4 := hc12 4 (by omega)
    have r5 := hc12 5 (by omega)
    have r6 := hc12 6 (by omega)
    have r7 := hc12 7 (by omega)
    have r8 := hc12 8 (by omega)
    have r9 := hc12 9 (by omega)
    have r10 := hc12 10 (by omega)
    have r11 := hc12 11 (by omega)
    simp only [Nat.add_zero, List.getElem?_cons_zero, List.getElem?_cons_succ] at r0 r1 r2 r3 r4 r5 r6 r7 r8 r9 r10 r11
    have HDEL : Hid (∀ w2 v L, NewI (w.alloc (.cells #[.slice (some ⟨g, o, none⟩) xs.length cap] TIns)) w2 v L → L.length ≤ 2 → Calls Tryz.prog 29 #[v, nextFn w.heap.size] w2 fun e w' => ∃ u, e = .returned u ∧ IntSl w' u (L.filter fun x => withinP x 0 ((xs.length : Int) - 1)) ∧ Below w.heap.size w w') := fun w2 v L hN hL => del_any HB1.out hN hL ((hN.1.cell (p := ⟨w.heap.size, 0, none⟩) (lt_of_heap N1)).trans k0) (by omega)
    have hmf : ∀ (x : Nat) (Y : World), (Instr.makeFunc (.func 31) #[] #[.pointer (some ⟨x, 0, none⟩)]).run Tryz.prog Y = .ok (.func (.func 31) #[] #[.pointer (some ⟨x, 0, none⟩)]) Y := fun x Y => by kernel_rfl
    generalize waysP op n (k : Int) = L at *
    clear hin hq b1 N1 hc12 hcell hin2 HR hqk
    go_enter Tryz.func11, Tryz.ntmps11
    go_upto_region 1 with (fail)
    refine (?_ : Code.wp _ _ _ _ (w.alloc (.cells #[.slice (some ⟨g, o, none⟩) xs.length cap] TIns)))
    generalize w.alloc (.cells #[.slice (some ⟨g, o, none⟩) xs.length cap] TIns) = W1 at *
    go_wp2_with (first | (go_at_call 28; refine c1.mono ?_; rintro e w' ⟨rfl, hw⟩; rw [hw]; clear hw w') | (go_at_call 30; refine cW.mono ?_; rintro e w2 ⟨u, rfl, hN⟩; have cD := HDEL.out _ _ _ hN HL2; clear hN cW) | (go_at_call 29; refine cD.mono ?_; rintro e w3 ⟨y, rfl, h1, h2⟩; have HI : Hid (IntSl w3 y (L.filter fun x => withinP x 0 ((xs.length : Int) - 1))) := h1; have HBZ : Hid (Below w.heap.size w w3) := h2; clear h1 h2 cD) | fail)
    go_ret
    exact ⟨_, rfl, HI.out, HBZ.out⟩
end
end Go.Proofs.YtaaphipbkpjkjaaGreatDoor
