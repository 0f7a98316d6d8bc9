/-
  Which types lie within which: a table without circles, by a search in depth and by growing from below. (Pure.)
-/
import Derived.Test.YtpnpilbmhkiphaaGreatDoorTab
namespace Go.Proofs.YtpnpilbmhkiphaaGreatDoor
set_option linter.unusedVariables false

/-- The types that lie within a type, one step down. -/
def partsR (r : Rw) : List Int := if r.kind = 14 then [r.elem] else r.mem.map (·.type)
def partsAt (rs : List (Rw × Value)) (i : Nat) : List Nat := match rs[i]? with | some p => (partsR p.1).map (·.toNat) | none => []

section
variable {P : Nat → List Nat}

inductive Reach (P : Nat → List Nat) : Nat → Nat → Prop
  | refl (i : Nat) : Reach P i i
  | step {i j k : Nat} : Reach P i j → k ∈ P j → Reach P i k

/-- No circle: parts have a smaller number. -/
def Acyc (P : Nat → List Nat) (n : Nat) : Prop := ∃ rank : Nat → Nat, ∀ i, i < n → ∀ j ∈ P i, rank j < rank i
/-- A circle. -/
def Cyc (P : Nat → List Nat) (n : Nat) : Prop := ∃ i j, j < n ∧ Reach P i j ∧ i ∈ P j

theorem reach_rank {n : Nat} {rank : Nat → Nat} (h : ∀ i, i < n → ∀ j ∈ P i, rank j < rank i) (hin : ∀ i, i < n → ∀ j ∈ P i, j < n) {i j : Nat} (hr : Reach P i j) (hi : i < n) : j < n ∧ rank j ≤ rank i := by
  induction hr with
  | refl => exact ⟨hi, Nat.le_refl _⟩
  | step _ hk ih => exact ⟨hin _ ih.1 _ hk, Nat.le_of_lt (Nat.lt_of_lt_of_le (h _ ih.1 _ hk) ih.2)⟩
theorem not_cyc {n : Nat} (hin : ∀ i, i < n → ∀ j ∈ P i, j < n) (h : Acyc P n) : ¬ Cyc P n := by
  obtain ⟨rank, h⟩ := h
  rintro ⟨i, j, hj, hr, hij⟩
  have hi := hin j hj i hij
  have h1 := (reach_rank h hin hr hi).2
  have h2 := h j hj i hij
  omega

/-! The search in depth: 0 unseen, 1 on the way, 2 left. -/

/-- What is left has its parts left, with smaller numbers. -/
def Left (P : Nat → List Nat) (σ : Nat → Nat) : Prop := ∃ rank : Nat → Nat, ∀ i, σ i = 2 → ∀ j ∈ P i, σ j = 2 ∧ rank j < rank i
/-- What is on the way leads to c. -/
def Way (P : Nat → List Nat) (σ : Nat → Nat) (c : Nat) : Prop := ∀ i, σ i = 1 → Reach P i c
/-- One step of the search, from σ to σ': nothing is taken back. -/
structure Grew (σ σ' : Nat → Nat) : Prop where
  one : ∀ i, σ' i = 1 ↔ σ i = 1
  two : ∀ i, σ i = 2 → σ' i = 2

theorem Grew.refl (σ : Nat → Nat) : Grew σ σ := ⟨fun _ => Iff.rfl, fun _ h => h⟩
theorem Grew.trans {a b c : Nat → Nat} (h : Grew a b) (k : Grew b c) : Grew a c := ⟨fun i => (k.one i).trans (h.one i), fun i hi => k.two i (h.two i hi)⟩
theorem Way.grew {σ σ' : Nat → Nat} {c : Nat} (h : Way P σ c) (hg : Grew σ σ') : Way P σ' c := fun i hi => h i ((hg.one i).1 hi)

/-- A type on the way is met again: a circle. -/
theorem way_cyc {n : Nat} {σ : Nat → Nat} {c i : Nat} (hc : c < n) (hw : Way P σ c) (hi : i ∈ P c) (h1 : σ i = 1) : Cyc P n := ⟨i, c, hc, hw i h1, hi⟩

def upd (σ : Nat → Nat) (k x : Nat) : Nat → Nat := fun i => if i = k then x else σ i

/-- A type is entered. -/
theorem way_enter {σ : Nat → Nat} {c k : Nat} (hw : Way P σ c) (hk : k ∈ P c) : Way P (upd σ k 1) k := by
  intro i hi
  unfold upd at hi
  split at hi
  · rename_i h; rw [h]; exact .refl k
  · exact .step (hw i hi) hk
theorem way_root {σ : Nat → Nat} {k : Nat} (h : ∀ i, σ i ≠ 1) : Way P (upd σ k 1) k := by
  intro i hi
  unfold upd at hi
  split at hi
  · rename_i h; rw [h]; exact .refl k
  · exact absurd hi (h i)
theorem left_enter {σ : Nat → Nat} {k : Nat} (h : Left P σ) (hk : σ k = 0) : Left P (upd σ k 1) := by
  obtain ⟨rank, h⟩ := h
  refine ⟨rank, fun i hi j hj => ?_⟩
  unfold upd at hi ⊢
  split at hi
  · cases hi
  · obtain ⟨h1, h2⟩ := h i hi j hj
    refine ⟨?_, h2⟩
    split
    · rename_i e; rw [e, hk] at h1; cases h1
    · exact h1

/-- A type is left: all its parts are. -/
theorem left_leave {σ : Nat → Nat} {k : Nat} (h : Left P σ) (hk : σ k = 1) (hp : ∀ j ∈ P k, σ j = 2) : Left P (upd σ k 2) := by
  obtain ⟨rank, h⟩ := h
  refine ⟨fun i => if i = k then ((P k).map rank).foldr max 0 + 1 else rank i, fun i hi j hj => ?_⟩
  have hmax : ∀ (l : List Nat) (x : Nat), x ∈ l → x ≤ l.foldr max 0 := by
    intro l
    induction l with
    | nil => intro x hx; cases hx
    | cons a l ih =>
      intro x hx
      simp only [List.foldr_cons]
      rcases List.mem_cons.1 hx with rfl | hx
      · exact Nat.le_max_left _ _
      · exact Nat.le_trans (ih x hx) (Nat.le_max_right _ _)
  by_cases hik : i = k
  · subst hik
    have h2 := hp j hj
    have hjk : j ≠ i := fun e => by rw [e, hk] at h2; cases h2
    refine ⟨by simp [upd, hjk, h2], ?_⟩
    simp only [hjk, if_false, if_true]
    exact Nat.lt_succ_of_le (hmax _ _ (List.mem_map.2 ⟨j, hj, rfl⟩))
  · have hi2 : σ i = 2 := by simpa [upd, hik] using hi
    obtain ⟨h1, h2⟩ := h i hi2 j hj
    have hjk : j ≠ k := fun e => by rw [e, hk] at h1; cases h1
    refine ⟨by simp [upd, hjk, h1], ?_⟩
    simp only [hik, hjk, if_false]
    exact h2

/-- From entered to left: nothing is taken back. -/
theorem grew_leave {σ σ' : Nat → Nat} {k : Nat} (hk : σ k = 0) (hg : Grew (upd σ k 1) σ') : Grew σ (upd σ' k 2) := by
  refine ⟨fun i => ?_, fun i hi => ?_⟩
  · by_cases hik : i = k
    · subst hik; simp [upd, hk]
    · have := hg.one i
      simpa [upd, hik] using this
  · by_cases hik : i = k
    · subst hik; rw [hk] at hi; cases hi
    · have := hg.two i (by simpa [upd, hik] using hi)
      simpa [upd, hik] using this
theorem upd_at (σ : Nat → Nat) (k x : Nat) : upd σ k x k = x := by simp [upd]

/-- All are left: no circle. -/
theorem left_acyc {n : Nat} {σ : Nat → Nat} (h : Left P σ) (hn : ∀ i, i < n → σ i = 2) : Acyc P n := by
  obtain ⟨rank, h⟩ := h
  exact ⟨rank, fun i hi j hj => (h i (hn i hi) j hj).2⟩

/-! Growing from below. -/

/-- What is grounded has its parts grounded, with smaller numbers, all below m. -/
def Ground (P : Nat → List Nat) (ok : Nat → Bool) (m : Nat) : Prop := ∃ rank : Nat → Nat, ∀ i, ok i = true → rank i < m ∧ ∀ j ∈ P i, ok j = true ∧ rank j < rank i
theorem ground_none (P : Nat → List Nat) (m : Nat) : Ground P (fun _ => false) m := ⟨fun _ => 0, fun i hi => by cases hi⟩
theorem ground_more {ok : Nat → Bool} {m k : Nat} (h : Ground P ok m) (hk : ok k = false) (hp : ∀ j ∈ P k, ok j = true) : Ground P (fun i => if i = k then true else ok i) (m + 1) := by
  obtain ⟨rank, h⟩ := h
  refine ⟨fun i => if i = k then m else rank i, fun i hi => ?_⟩
  by_cases hik : i = k
  · subst hik
    refine ⟨by simp, fun j hj => ?_⟩
    have h1 := hp j hj
    have hjk : j ≠ i := fun e => by rw [e, hk] at h1; cases h1
    exact ⟨by simp [hjk, h1], by simp [hjk, (h j h1).1]⟩
  · have hi2 : ok i = true := by simpa [hik] using hi
    obtain ⟨h1, h2⟩ := h i hi2
    refine ⟨by simp [hik]; omega, fun j hj => ?_⟩
    obtain ⟨h3, h4⟩ := h2 j hj
    have hjk : j ≠ k := fun e => by rw [e, hk] at h3; cases h3
    exact ⟨by simp [hjk, h3], by simp [hik, hjk, h4]⟩
theorem ground_acyc {ok : Nat → Bool} {m n : Nat} (h : Ground P ok m) (hn : ∀ i, i < n → ok i = true) : Acyc P n := by
  obtain ⟨rank, h⟩ := h
  exact ⟨rank, fun i hi j hj => ((h i (hn i hi)).2 j hj).2⟩
/-- Without a circle, what grows no more is all. -/
theorem acyc_ground {ok : Nat → Bool} {n : Nat} (hin : ∀ i, i < n → ∀ j ∈ P i, j < n) (h : Acyc P n) (hfix : ∀ i, i < n → (∀ j ∈ P i, ok j = true) → ok i = true) : ∀ i, i < n → ok i = true := by
  obtain ⟨rank, h⟩ := h
  intro i
  induction hr : rank i using Nat.strongRecOn generalizing i with
  | ind r ih =>
    intro hi
    exact hfix i hi (fun j hj => ih (rank j) (by rw [← hr]; exact h i hi j hj) j rfl (hin i hi j hj))
end
end Go.Proofs.YtpnpilbmhkiphaaGreatDoor
