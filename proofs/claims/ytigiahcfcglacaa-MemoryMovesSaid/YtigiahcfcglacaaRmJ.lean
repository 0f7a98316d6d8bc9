/-
  The given answer: Cells of a block that lives.
-/
import Derived.Test.YtigiahcfcglacaaRmI
import Derived.Laws.OwnMore
import Derived.Test.YtigiahcfcglacaaMmH
namespace Go.Proofs.Ytigiahcfcglacaa
open Go.RowKit Go.Maps
set_option linter.unusedVariables false
set_option maxRecDepth 100000
section
variable {w : World} {rb : Nat} {ys : List Ry} {R : Nat → Prop}
theorem cellsL_mem {w : World} {g n : Nat} {f : Nat → Cl} (h : CellsAt w g n f) : ∀ j u, (cellsL f n)[j]? = some u → w.cell? ((⟨g, 0, none⟩ : Addr).add j) = some u := by
  intro j u hu
  have hjl : j < n * 4 := by
    have := (List.getElem?_eq_some_iff.1 hu).1
    rwa [cellsL_length] at this
  have e : ((⟨g, 0, none⟩ : Addr).add j) = ⟨g, j, none⟩ := by
    simp [Addr.add]; rintro rfl; rfl
  obtain ⟨cs, h1, h2, h3⟩ := h
  rw [e, Lib.cell_of_heap h1]
  have := h3 (j / 4) (by omega) (j % 4) (by omega)
  rw [show j / 4 * 4 + j % 4 = j by omega] at this
  have q := cellsL_at f n (j / 4) (j % 4) (by omega) (by omega)
  rw [show j / 4 * 4 + j % 4 = j by omega] at q
  rw [this, ← q]; exact hu
theorem cellsL_one (f : Nat → Cl) (n : Nat) : ∀ u ∈ cellsL f n, u.oneCell' = true := by
  intro u hu
  simp only [cellsL, List.mem_flatMap] at hu
  obtain ⟨i, _, h⟩ := hu
  simp [clV] at h
  rcases h with rfl | rfl | rfl | rfl <;> rfl
set_option maxHeartbeats 2000000 in
theorem cellsR_ok (h : RX w rb ys R) {i : Nat} {y : Ry} {k : Bk} (hy : ys[i]? = some y) (hk : y.bk = some k) :
    Calls Try.prog 46 #[.pointer (some ⟨rb, 0, none⟩), .int .i64 ((i : Int) + 1)] w fun e w' => ∃ g cap, e = .returned (.tuple #[.slice (some ⟨g, 0, none⟩) k.size cap, .int .i64 0]) ∧ CellsAt w' g k.size k.cell ∧ w.heap.size ≤ g ∧ Below w.heap.size w w' := by
  have hil : i < ys.length := (List.getElem?_eq_some_iff.1 hy).1
  have hlen := h.len
  have c := lives_c h ((i : Int) + 1) (by omega) (by omega)
  unfold livesB at c
  rw [look_st hy, hk] at c
  simp only [Option.isSome_some] at c
  have n3 := not_t
  obtain ⟨i0, hi, hz0, hz1, hz2⟩ := info_parts info_cell
  have hB : Below w.heap.size w (w.alloc (.cells #[] TC)) := (Below.refl _ w).alloc (Nat.le_refl _) _
  have h' := h.keptB hB
  obtain ⟨g, cap, c0, c1, _, _, hcap, e0, e1, e2⟩ := h'.row hy
  obtain ⟨ow, ho⟩ := h'.own
  have hb := ho i y k hy hk
  have hmx := hb.max
  have h1x := hb.one
  unfold ryS at e2
  rw [hk] at e2
  simp only [] at e2
  have w1_ : ((i : Int) + 1 - 1) = (i : Int) := by omega
  have HO : Hid ((w.alloc (.cells #[] TC)).ownsRow w.heap.size TC 4 (.slice (some ⟨w.heap.size, 0, none⟩) 0 0) 0 []) := ⟨rfl, Or.inr ⟨w.heap.size, 0, #[], rfl, Nat.le_refl _, heap_r0 w _, Nat.le_refl _, by unfold maxLen; omega, rfl, rfl⟩⟩
  have HC : Hid (CellsAt (w.alloc (.cells #[] TC)) y.g k.size k.cell) := hb.cells
  have HB : Hid (Below w.heap.size w (w.alloc (.cells #[] TC))) := hB
  clear h h' hy hk hb ho hB c1 e0 e1
  go_enter Try.func46, Try.ntmps46
  go_wp2_with (first | (go_at_call 61; refine c.mono ?_; rintro e w' ⟨rfl, hw⟩; rw [hw]; clear hw w') | (at_builtin; go_must (refine wpList_append_own_at _ rfl (.tmp 10) (.tmp 19) TP rfl w.heap.size TC i0 _ 4 32 Try.underlying36 hi hz0 hz1 hz2 rfl (by decide) (.slice (some ⟨w.heap.size, 0, none⟩) 0 0) 0 [] rfl HO.out ⟨y.g, 0, none⟩ k.size k.size (cellsL k.cell k.size) rfl (cellsL_length _ _) (cellsL_mem HC.out) (cellsL_one _ _) (by unfold maxLen; omega) (by omega) (by simp) ?_); intro v' w' hown hgrow hnil hat; obtain ⟨p', cap', rfl⟩ := slice_of_own hown; have HO2 : Hid (w'.ownsRow w.heap.size TC 4 (.slice p' (0 + k.size) cap') (0 + k.size) ([] ++ cellsL k.cell k.size)) := hown; have HB2 : Hid (Below w.heap.size w w') := HB.out.grown hgrow (by simp) (own_base HO.out); clear hown hgrow hnil hat))
  go_ret2
  have hO := HO2.out
  rw [Nat.zero_add, List.nil_append] at hO
  have hO' := hO
  obtain ⟨_, ⟨q1, q2⟩ | ⟨g', cap'', cur, hv, hb, hg, r⟩⟩ := hO
  · omega
  · cases hv
    exact ⟨_, cap', rfl, cellsAt_own hO', hb, HB2.out⟩
set_option maxHeartbeats 1000000 in
theorem makeR_bad (n al : Int) (hbad : okMake n al = false) :
    Calls Try.prog 36 #[.pointer (some ⟨rb, 0, none⟩), .int .i64 n, .int .i64 al] w fun e w' => e = .returned (.tuple #[.int .i64 0, .int .i64 2]) ∧ w' = w := by
  have n2 := not_t
  have n3 := not_f
  by_cases h1 : n < 1
  · clear hbad
    go_enter Try.func36, Try.ntmps36
    go_wp2
    go_ret2
    exact ⟨rfl, rfl⟩
  · by_cases h2 : 16384 < n
    · clear hbad
      go_enter Try.func36, Try.ntmps36
      go_wp2
      go_ret2
      exact ⟨rfl, rfl⟩
    · have hw : isW al = false := by
        unfold okMake at hbad
        have e1 : decide (1 ≤ n) = true := by simp; omega
        have e2 : decide (n ≤ 16384) = true := by simp; omega
        rw [e1, e2] at hbad; simpa using hbad
      have hW := power_c al w
      rw [hw] at hW
      clear hbad hw
      go_enter Try.func36, Try.ntmps36
      go_wp2_with (go_at_call 60; refine hW.mono ?_; rintro e w' ⟨rfl, hw⟩; rw [hw]; clear hw w')
      go_ret2
      exact ⟨rfl, rfl⟩
set_option maxHeartbeats 1000000 in
theorem makeR_full (h : RX w rb ys R) (n al : Int) (hok : okMake n al = true) (hf : 4096 ≤ alive (stR ys)) :
    Calls Try.prog 36 #[.pointer (some ⟨rb, 0, none⟩), .int .i64 n, .int .i64 al] w fun e w' => e = .returned (.tuple #[.int .i64 0, .int .i64 32]) ∧ w' = w := by
  have n2 := not_t
  obtain ⟨h1, h2, h3⟩ := okMake_t hok
  have hW := power_c al w
  rw [h3] at hW
  obtain ⟨q, cap, c0, c1⟩ := h.sl
  have hd : decide (4096 ≤ (alive (stR ys) : Int)) = true := by simp; omega
  clear hok h3 h hf
  go_enter Try.func36, Try.ntmps36
  go_wp2_with (go_at_call 60; refine hW.mono ?_; rintro e w' ⟨rfl, hw⟩; rw [hw]; clear hw w')
  go_ret2
  exact ⟨rfl, rfl⟩
end
end Go.Proofs.Ytigiahcfcglacaa
