/-
  The given answer: End, Cells, Truth.
-/
import Derived.Test.YtigiahcfcglacaaRmC
namespace Go.Proofs.Ytigiahcfcglacaa
open Go.RowKit Go.Maps
set_option linter.unusedVariables false
set_option maxRecDepth 100000
section
variable {w : World} {rb : Nat} {ys : List Ry} {R : Nat → Prop}
theorem endR_bad (h : RX w rb ys R) (n : Int) (n0 : -9223372036854775808 ≤ n) (n1 : n < 9223372036854775808) (hl : look (stR ys) n = none) :
    Calls Try.prog 38 #[.pointer (some ⟨rb, 0, none⟩), .int .i64 n] w fun e w' => e = .returned (.int .i64 2) ∧ w' = w := by
  have c := lives_c h n n0 n1
  unfold livesB at c
  rw [hl] at c
  simp only [Option.isSome_none] at c
  have n3 := not_f
  clear h hl
  go_enter Try.func38, Try.ntmps38
  go_wp2_with (go_at_call 61; refine c.mono ?_; rintro e w' ⟨rfl, hw⟩; rw [hw]; clear hw w')
  go_ret
  exact ⟨rfl, rfl⟩
set_option maxHeartbeats 1000000 in
theorem endR_ok (h : RX w rb ys R) {i : Nat} {y : Ry} {k : Bk} (hy : ys[i]? = some y) (hk : y.bk = some k) :
    Calls Try.prog 38 #[.pointer (some ⟨rb, 0, none⟩), .int .i64 ((i : Int) + 1)] w fun e w' => e = .returned (.int .i64 0) ∧ RX w' rb (ys.set i { y with bk := none }) R ∧ Turned w w' R := by
  have hil : i < ys.length := (List.getElem?_eq_some_iff.1 hy).1
  have hlen := h.len
  have c := lives_c h ((i : Int) + 1) (by omega) (by omega)
  unfold livesB at c
  rw [look_st hy, hk] at c
  simp only [Option.isSome_some] at c
  have n3 := not_t
  obtain ⟨g, cap, c0, c1, hRg, ⟨cur, hcur, hcs⟩, hcap, e0, e1, e2⟩ := h.row hy
  have HD : Hid _ := h.drop hy hk c0
  obtain ⟨v, q1, q2, q3⟩ := h.head
  have hgb : g ≠ rb := by
    rintro rfl
    rw [q1] at hcur; injection hcur with e; injection e with _ e; exact absurd e (by decide)
  have hbg : rb ≠ g := fun e => hgb e.symm
  have f1 := frozen_of hcur
  have f2 := frozen_of q1
  have w1_ : ((i : Int) + 1 - 1) = (i : Int) := by omega
  have hap : 1 ≤ alive (stR ys) := by
    have hx : (stR ys)[i]? = some (some k) := by unfold stR; rw [List.getElem?_map, hy]; simp [hk]
    unfold alive
    exact List.countP_pos_iff.2 ⟨some k, List.mem_of_getElem? hx, rfl⟩
  have hal : alive (stR ys) ≤ ys.length := by
    unfold alive
    have := List.countP_le_length (p := Option.isSome) (l := stR ys)
    simpa [stR] using this
  generalize hA : alive (stR ys) = A at *
  clear h hy hk q1 q2 q3 hcur hcs hA
  go_enter Try.func38, Try.ntmps38
  go_wp2_with (go_at_call 61; refine c.mono ?_; rintro e w' ⟨rfl, hw⟩; rw [hw]; clear hw w')
  go_ret
  exact ⟨rfl, HD.out⟩
set_option maxHeartbeats 1000000 in
theorem truthR_num (p : Vl) (hk : p.kind = 1) : Calls Try.prog 45 #[.pointer (some ⟨rb, 0, none⟩), .agg #[.int .i64 p.kind, .int .u32 p.v, .int .i64 p.block]] w fun e w' => e = .returned (.tuple #[.bool (!decide (p.v = 0)), .int .i64 0]) ∧ Below w.heap.size w w' := by
  have HB : Hid (Below w.heap.size w (w.alloc (.cells #[.int .i64 p.kind, .int .u32 p.v, .int .i64 p.block] TV))) := (Below.refl _ w).alloc (Nat.le_refl _) _
  obtain ⟨a0, a1, a2⟩ := box_cells w p
  have t : (p.kind == 1) = true := by simpa using hk
  clear hk
  by_cases hv : p.v = 0
  · have tv : (p.v != 0) = false := by simpa using hv
    rw [show (!decide (p.v = 0)) = false by simp [hv]]
    clear hv
    go_enter Try.func45, Try.ntmps45
    go_wp2
    go_ret2
    exact ⟨rfl, HB.out⟩
  · have tv : (p.v != 0) = true := by simpa using hv
    rw [show (!decide (p.v = 0)) = true by simp [hv]]
    clear hv
    go_enter Try.func45, Try.ntmps45
    go_wp2
    go_ret2
    exact ⟨rfl, HB.out⟩
set_option maxHeartbeats 1000000 in
theorem truthR_ptr (h : RX w rb ys R) (p : Vl) (hp : VlOK p) (hk : ¬ p.kind = 1) : Calls Try.prog 45 #[.pointer (some ⟨rb, 0, none⟩), .agg #[.int .i64 p.kind, .int .u32 p.v, .int .i64 p.block]] w fun e w' => e = .returned (.tuple #[.bool (goodS (stR ys) p).isSome, .int .i64 (if (goodS (stR ys) p).isSome then 0 else 3)]) ∧ Below w.heap.size w w' := by
  have hB : Below w.heap.size w (w.alloc (.cells #[.int .i64 p.kind, .int .u32 p.v, .int .i64 p.block] TV)) := (Below.refl _ w).alloc (Nat.le_refl _) _
  have HB : Hid (Below w.heap.size w (w.alloc (.cells #[.int .i64 p.kind, .int .u32 p.v, .int .i64 p.block] TV))) := hB
  obtain ⟨a0, a1, a2⟩ := box_cells w p
  have c := goodR_c (h.keptB hB) p hp
  have t : (p.kind == 1) = false := by simpa using hk
  clear hk h hB
  cases hg : (goodS (stR ys) p).isSome with
  | true =>
    rw [hg] at c
    simp only [if_true]
    go_enter Try.func45, Try.ntmps45
    go_wp2_with fail
    refine c.mono ?_; rintro e w1 ⟨rfl, hb1⟩
    have HB1 : Hid (Below w.heap.size w w1) := HB.out.trans (hb1.mono HB.out.size)
    clear hb1 c
    go_wp2
    go_ret2
    exact ⟨rfl, HB1.out⟩
  | false =>
    rw [hg] at c
    simp only [Bool.false_eq_true, if_false]
    go_enter Try.func45, Try.ntmps45
    go_wp2_with fail
    refine c.mono ?_; rintro e w1 ⟨rfl, hb1⟩
    have HB1 : Hid (Below w.heap.size w w1) := HB.out.trans (hb1.mono HB.out.size)
    clear hb1 c
    go_wp2
    go_ret2
    exact ⟨rfl, HB1.out⟩
theorem cellsR_bad (h : RX w rb ys R) (n : Int) (n0 : -9223372036854775808 ≤ n) (n1 : n < 9223372036854775808) (hl : look (stR ys) n = none) :
    Calls Try.prog 46 #[.pointer (some ⟨rb, 0, none⟩), .int .i64 n] w fun e w' => e = .returned (.tuple #[.slice none 0 0, .int .i64 2]) ∧ w' = w := by
  have c := lives_c h n n0 n1
  unfold livesB at c
  rw [hl] at c
  simp only [Option.isSome_none] at c
  have n3 := not_f
  clear h hl
  go_enter Try.func46, Try.ntmps46
  go_wp2_with (go_at_call 61; refine c.mono ?_; rintro e w' ⟨rfl, hw⟩; rw [hw]; clear hw w')
  go_ret2
  exact ⟨rfl, rfl⟩
end
end Go.Proofs.Ytigiahcfcglacaa
