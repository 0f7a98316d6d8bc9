/-
  The given answer: good pointers, bytes at them.
-/
import Derived.Test.YtigiahcfcglacaaRmB
namespace Go.Proofs.Ytigiahcfcglacaa
open Go.RowKit Go.Maps
set_option linter.unusedVariables false
set_option maxRecDepth 100000
def goodS (st : List (Option Bk)) (p : Vl) : Option Bk := goodG Bk.size st p
def roomS (st : List (Option Bk)) (p : Vl) (n w : Int) : Option Bk := roomG Bk.size Bk.align st p n w
theorem goodS_some {st : List (Option Bk)} {p : Vl} {k : Bk} (h : goodS st p = some k) : p.kind = 2 ∧ p.v ≤ k.size ∧ ∃ i : Nat, p.block = (i : Int) + 1 ∧ st[i]? = some (some k) := goodG_some h
section
variable {w : World} {rb : Nat} {ys : List Ry} {R : Nat → Prop}
theorem st_at {ys : List Ry} {i : Nat} {k : Bk} (h : (stR ys)[i]? = some (some k)) : ∃ y, ys[i]? = some y ∧ y.bk = some k := by
  unfold stR at h
  rw [List.getElem?_map] at h
  cases hy : ys[i]? with
  | none => rw [hy] at h; cases h
  | some y => rw [hy] at h; exact ⟨y, rfl, by simpa using h⟩
set_option maxHeartbeats 2000000 in
theorem goodR_c (h : RX w rb ys R) (p : Vl) (hp : VlOK p) :
    Calls Try.prog 65 #[.pointer (some ⟨rb, 0, none⟩), .agg #[.int .i64 p.kind, .int .u32 p.v, .int .i64 p.block]] w fun e w' => e = .returned (.bool (goodS (stR ys) p).isSome) ∧ Below w.heap.size w w' := by
  have hB : Below w.heap.size w (w.alloc (.cells #[.int .i64 p.kind, .int .u32 p.v, .int .i64 p.block] TV)) := (Below.refl _ w).alloc (Nat.le_refl _) _
  obtain ⟨a0, a1, a2⟩ := box_cells w p
  have h' := h.keptB hB
  have c := fun (n : Nat) => lives_c (w := (w.alloc (.cells #[.int .i64 p.kind, .int .u32 p.v, .int .i64 p.block] TV)).drewN n) (h'.keptB ⟨rfl, rfl, rfl, Nat.le_refl _, fun _ _ => rfl⟩) p.block hp.b0 hp.b1
  have HB : Hid (Below w.heap.size w (w.alloc (.cells #[.int .i64 p.kind, .int .u32 p.v, .int .i64 p.block] TV))) := hB
  have hlen := h.len
  obtain ⟨v0, v1, b0, b1⟩ := hp
  unfold goodS goodG
  by_cases hk : p.kind = 2
  · rw [if_pos hk]
    have hk1 : (p.kind == 2) = true := by simpa using hk
    unfold livesB at c
    cases hl : look (stR ys) p.block with
    | none =>
      simp only [hl] at c
      simp only [Option.isSome_none, Option.filter_none] at c ⊢
      clear h h' hB hl hk
      go_enter Try.func65, Try.ntmps65
      go_wp2
      go_quiet ((go_at_call 61; refine Calls.quiet_of_same (c _)))
      go_wp2
      go_ret
      exact ⟨rfl, HB.out.trans ⟨rfl, rfl, rfl, Nat.le_refl _, fun _ _ => rfl⟩⟩
    | some k =>
      obtain ⟨i, hi, hx⟩ := look_some hl
      obtain ⟨y, hy, hyk⟩ := st_at hx
      obtain ⟨g, cap, c0, c1, _, _, hcap, e0, e1, e2⟩ := h'.row hy
      obtain ⟨ow, ho⟩ := h.own
      have hmx := (ho i y k hy hyk).max
      have hil : i < ys.length := (List.getElem?_eq_some_iff.1 hy).1
      unfold ryS at e2
      rw [hyk] at e2
      simp only [] at e2
      simp only [hl] at c
      simp only [Option.isSome_some] at c
      have hR : ((some k).filter (fun x => decide (p.v ≤ x.size))).isSome = decide (p.v ≤ (k.size : Int)) := by
        by_cases hv : p.v ≤ (k.size : Int) <;> simp [Option.filter, hv]
      rw [hR]
      rw [hi] at c a0 a1 a2 HB c0 e2 ⊢
      have w1_ : ((i : Int) + 1 - 1) = (i : Int) := by omega
      clear h h' hB hl hk hR hx hy ho hi c1 e0 e1 b0 b1
      go_enter Try.func65, Try.ntmps65
      go_wp2
      go_quiet ((go_at_call 61; refine Calls.quiet_of_same (c _)))
      go_wp2
      go_ret
      exact ⟨rfl, HB.out.trans ⟨rfl, rfl, rfl, Nat.le_refl _, fun _ _ => rfl⟩⟩
  · rw [if_neg hk]
    have hk1 : (p.kind == 2) = false := by simpa using hk
    clear h h' hB hk
    go_enter Try.func65, Try.ntmps65
    go_wp2
    go_quiet ((go_at_call 61; refine Calls.quiet_of_same (c _)))
    go_wp2
    go_ret
    exact ⟨rfl, HB.out.trans ⟨rfl, rfl, rfl, Nat.le_refl _, fun _ _ => rfl⟩⟩
end
end Go.Proofs.Ytigiahcfcglacaa
