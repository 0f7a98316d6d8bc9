/-
  Gaps rise, each has a bit, none runs over, and a bit lies in one just if nothing has it (pure); a row of bools.
-/
import Derived.Test.YtlcghlfmaohfeaaGreatHLyNo
namespace Go.Proofs.YtlcghlfmaohfeaaGreat
open Go.RowKit Go.Maps
set_option linter.unusedVariables false
set_option maxRecDepth 100000
def gIn (g : Gp) (k : Nat) : Bool := decide (g.from_ ≤ k) && decide (k < g.from_ + g.bits)
def onF (l : List Gp) (k : Nat) : Bool := l.any fun g => gIn g k
structure GapInv (f : Nat → Bool) (n : Nat) (s : Gs) : Prop where
  ok : ∀ g ∈ s.l, 1 ≤ g.bits ∧ g.from_ + g.bits ≤ n
  sorted : s.l.Pairwise fun a b => a.from_ + a.bits < b.from_
  cover : ∀ k, k < n → onF s.l k = !f k
  fr : (s.free = 0 ∧ ∀ g ∈ s.l, g.from_ + g.bits < n) ∨ (∃ pre, 0 < s.free ∧ s.free ≤ n ∧ s.l = pre ++ [⟨n - s.free, s.free⟩])
theorem modify_end {α : Type} (f : α → α) (g : α) : ∀ pre : List α, (pre ++ [g]).modify pre.length f = pre ++ [f g]
  | [] => rfl
  | a :: pre => by
    have := modify_end f g pre
    simpa using this
theorem setLast_end (pre : List Gp) (g : Gp) (m : Nat) : setLast (pre ++ [g]) m = pre ++ [⟨g.from_, m⟩] := by
  unfold setLast
  rw [show (pre ++ [g]).length - 1 = pre.length by simp]
  exact modify_end _ g pre
theorem onF_snoc (l : List Gp) (g : Gp) (k : Nat) : onF (l ++ [g]) k = (onF l k || gIn g k) := by simp [onF]
theorem onF_past {l : List Gp} {n : Nat} (h : ∀ g ∈ l, g.from_ + g.bits ≤ n) : onF l n = false := by
  simp only [onF, List.any_eq_false]
  intro g hg
  have := h g hg
  simp [gIn]
  omega
theorem gap_inv (f : Nat → Bool) : ∀ n, GapInv f n (gapF f n)
  | 0 => ⟨fun g hg => by simp [gapF] at hg, by simp [gapF], fun k hk => by omega, .inl ⟨rfl, fun g hg => by simp [gapF] at hg⟩⟩
  | n + 1 => by
    have h := gap_inv f n
    show GapInv f (n + 1) (gapStep f (gapF f n) n)
    generalize gapF f n = s at *
    unfold gapStep
    by_cases hf : f n = true
    · rw [if_pos hf]
      refine ⟨fun g hg => ⟨(h.ok g hg).1, by have := (h.ok g hg).2; omega⟩, h.sorted, fun k hk => ?_, .inl ⟨rfl, fun g hg => by have := (h.ok g hg).2; omega⟩⟩
      by_cases hkn : k < n
      · exact h.cover k hkn
      · obtain rfl : k = n := by omega
        show onF s.l k = _
        rw [onF_past (fun g hg => (h.ok g hg).2), hf]
        rfl
    · rw [if_neg hf]
      have hf0 : f n = false := by simpa using hf
      rcases h.fr with ⟨h0, h1⟩ | ⟨pre, h0, h1, h2⟩
      · rw [h0, if_pos rfl, setLast_end]
        refine ⟨fun g hg => ?_, ?_, fun k hk => ?_, .inr ⟨s.l, by simp, by simp, by simp⟩⟩
        · simp only [List.mem_append, List.mem_singleton] at hg
          rcases hg with hg | rfl
          · exact ⟨(h.ok g hg).1, by have := (h.ok g hg).2; omega⟩
          · simp
        · refine List.pairwise_append.2 ⟨h.sorted, by simp, fun a ha b hb => ?_⟩
          simp only [List.mem_singleton] at hb
          subst hb
          exact h1 a ha
        · show onF (s.l ++ [⟨n, 0 + 1⟩]) k = _
          rw [onF_snoc]
          by_cases hkn : k < n
          · rw [h.cover k hkn]
            have : gIn ⟨n, 0 + 1⟩ k = false := by simp [gIn]; omega
            rw [this, Bool.or_false]
          · obtain rfl : k = n := by omega
            rw [hf0]
            simp [gIn]
      · rw [if_neg (by omega), h2, setLast_end]
        have hok := h.ok
        have hso := h.sorted
        have hco := h.cover
        rw [h2] at hok hso hco
        refine ⟨fun g hg => ?_, ?_, fun k hk => ?_, .inr ⟨pre, by simp, by simp; omega, by simp only; congr 2; simp⟩⟩
        · simp only [List.mem_append, List.mem_singleton] at hg
          rcases hg with hg | rfl
          · have := hok g (by simp [hg]); exact ⟨this.1, by omega⟩
          · simp only; omega
        · obtain ⟨p1, _, p3⟩ := List.pairwise_append.1 hso
          refine List.pairwise_append.2 ⟨p1, by simp, fun a ha b hb => ?_⟩
          simp only [List.mem_singleton] at hb
          subst hb
          exact p3 a ha ⟨n - s.free, s.free⟩ (by simp)
        · show onF (pre ++ [⟨n - s.free, s.free + 1⟩]) k = _
          rw [onF_snoc]
          by_cases hkn : k < n
          · have c := hco k hkn
            rw [onF_snoc] at c
            rw [← c]
            congr 1
            simp only [gIn]
            congr 1
            rw [decide_eq_decide]
            omega
          · obtain rfl : k = n := by omega
            rw [hf0]
            have : gIn ⟨k - s.free, s.free + 1⟩ k = true := by simp [gIn]; omega
            rw [this, Bool.or_true]
            rfl
theorem gap_next {f : Nat → Bool} {n : Nat} {l : List Gp} (h : l.Pairwise fun a b => a.from_ + a.bits < b.from_) {i : Nat} {a b : Gp} (ha : l[i]? = some a) (hb : l[i + 1]? = some b) : a.from_ + a.bits < b.from_ := by
  obtain ⟨h1, rfl⟩ := List.getElem?_eq_some_iff.1 ha
  obtain ⟨h2, rfl⟩ := List.getElem?_eq_some_iff.1 hb
  exact List.pairwise_iff_getElem.1 h i (i + 1) h1 h2 (by omega)
theorem take_snoc1 {α : Type} {l : List α} {i : Nat} {a : α} (h : l[i]? = some a) : l.take (i + 1) = l.take i ++ [a] := by
  rw [List.take_add_one, h]; rfl
/-- A row of bools. -/
def BoR (w : World) (g N : Nat) (f : Nat → Bool) : Prop := ∃ cs : Array Value, w.heap[g]? = some (.cells cs 4 (0, 0)) ∧ cs.size = N ∧ ∀ k, k < N → cs[k]? = some (.bool (f k))
theorem BoR.lt {w : World} {g N : Nat} {f : Nat → Bool} (h : BoR w g N f) : g < w.heap.size := by
  obtain ⟨_, h, _⟩ := h; exact lt_of_heap h
theorem BoR.cell {w : World} {g N : Nat} {f : Nat → Bool} (h : BoR w g N f) {k : Nat} (hk : k < N) : w.cell? ⟨g, k, none⟩ = some (.bool (f k)) := by
  obtain ⟨cs, h1, h2, h3⟩ := h
  rw [Lib.cell_of_heap h1]
  exact h3 k hk
theorem BoR.frozen {w : World} {g N : Nat} {f : Nat → Bool} (h : BoR w g N f) (k : Nat) : w.frozen? ⟨g, k, none⟩ = false := by
  obtain ⟨cs, h1, _⟩ := h
  exact frozen_of h1 k
theorem BoR.turned {w w' : World} {g N : Nat} {f : Nat → Bool} {S : Nat → Prop} (h : BoR w g N f) (ht : Turned w w' S) (hS : ¬ S g) : BoR w' g N f := by
  obtain ⟨cs, h1, h2⟩ := h
  exact ⟨cs, blk_t h1 ht hS, h2⟩
theorem BoR.below {w w' : World} {g N : Nat} {f : Nat → Bool} (h : BoR w g N f) (hb : Below w.heap.size w w') : BoR w' g N f := by
  obtain ⟨cs, h1, h2⟩ := h
  exact ⟨cs, blk_b h1 hb, h2⟩
theorem BoR.set {w : World} {g N : Nat} {f : Nat → Bool} (h : BoR w g N f) {k : Nat} (b : Bool) {f' : Nat → Bool} (hf : ∀ j, j < N → f' j = if j = k then b else f j) : BoR (w.setCell ⟨g, k, none⟩ (.bool b)) g N f' := by
  obtain ⟨cs, h1, h2, h3⟩ := h
  refine ⟨_, heap_setCell h1 _, by simpa using h2, fun j hj => ?_⟩
  rw [Array.getElem?_setIfInBounds, hf j hj]
  by_cases e : k = j
  · subst e
    rw [if_pos rfl, if_pos (by omega), if_pos rfl]
  · rw [if_neg e, if_neg (fun e' => e e'.symm)]
    exact h3 j hj
theorem BoR.congr {w : World} {g N : Nat} {f f' : Nat → Bool} (h : BoR w g N f) (hf : ∀ j, j < N → f' j = f j) : BoR w g N f' := by
  obtain ⟨cs, h1, h2, h3⟩ := h
  exact ⟨cs, h1, h2, fun j hj => by rw [hf j hj]; exact h3 j hj⟩
theorem made_bool (n k : Nat) (hk : k < n) : (madeCells #[.bool false] n)[k]? = some (.bool false) := by
  simp [madeCells, hk, Nat.mod_one]
theorem BoR.made (w : World) (N : Nat) : BoR (w.alloc (.cells (madeCells #[.bool false] N) 4)) w.heap.size N (fun _ => false) :=
  ⟨_, heap_r0 w _, by simp [madeCells], fun k hk => made_bool N k hk⟩
section
variable {rs : List (Rw × Value)} {M : Int → Ex} {H : Int → Nat → Bool}
/-- Has the place that bit, as the law asks it? -/
def hitsW (M : Int → Ex) (H : Int → Nat → Bool) (mem : List Mb) (P : Pl) (k : Nat) : Bool :=
  if 0 < P.bits then (match mem[P.mem.toNat]? with | some x => !(x.name.toList == []) | none => false) && (decide (8 * P.off + P.bit ≤ k) && decide ((k : Int) < 8 * P.off + P.bit + P.bits))
  else decide (8 * P.off ≤ k) && decide ((k : Int) < 8 * (P.off + (M P.type).size)) && H P.type (k - (8 * P.off).toNat)
def hadW (M : Int → Ex) (H : Int → Nat → Bool) (mem : List Mb) (l : List Pl) (k : Nat) : Bool := l.any fun P => hitsW M H mem P k
theorem had_named (hf : FromOK rs) {i : Nat} {p : Rw × Value} (hp : rs[i]? = some p) (hk : recK p.1.kind = true) (hd : p.1.done = true) : ∀ m ∈ p.1.mem, m.bits = -1 → (m.name.toList == []) = false := by
  have hlt : i < rs.length := (List.getElem?_eq_some_iff.1 hp).1
  obtain ⟨hm, hc⟩ := enter_cut (hf.1 i p hlt hp)
  have hk2 : p.1.kind = 15 ∨ p.1.kind = 16 := by simpa [recK] using hk
  have hr : refusP rs p.1.mem = 0 := by
    rcases hc with ⟨a, b⟩ | ⟨_, ⟨a, _⟩ | ⟨_, _, a | a⟩ | ⟨a, _⟩ | ⟨a, _⟩⟩
    · omega
    · omega
    · rw [hd] at a; cases a
    · exact a
    · omega
    · omega
  intro m hmm hb
  obtain ⟨pre, he⟩ := refus_err p.1.mem [] (refus_len hr).2.2 m hmm
  obtain ⟨_, _, _, e4⟩ := memberErr_parts he
  unfold namedP at e4
  cases hn : m.name.toList with
  | nil => rw [hn] at e4; simp [hb] at e4
  | cons x l => rfl
/-- All places together have what the record has. -/
theorem had_all (hf : FromOK rs) (hM : IsMeas (rowsOf rs) M) (hH : IsHad (rowsOf rs) M H) {i : Nat} {p : Rw × Value} (hp : rs[i]? = some p) (hwh : wholeR p.1 = true) (hk : recK p.1.kind = true) (hgt : (M i).size ≤ 16384) (k : Nat) :
    hadW M H p.1.mem (placesS (p.1.kind == 16) M ls0 0 p.1.mem) k = H i k := by
  have h14 : ¬ p.1.kind = 14 := by intro e; rw [e] at hk; exact absurd hk (by decide)
  have hd : p.1.done = true := by
    unfold wholeR at hwh
    rw [if_neg h14, if_pos hk] at hwh
    exact hwh
  have hnm := had_named hf hp hk hd
  have hpl := place_all hf hM hp hwh hk hgt
  rw [hH i p.1 (rows_at hp) k]
  unfold hadR hadW
  rw [if_neg h14, if_pos hk]
  rw [Bool.eq_iff_iff, List.any_eq_true, List.any_eq_true]
  have key : ∀ P ∈ placesS (p.1.kind == 16) M ls0 0 p.1.mem, hitsW M H p.1.mem P k = hitsP M H p.1.mem P k := by
    intro P hP
    obtain ⟨_, _, j, m, q3, q4, _, _, q7, q8⟩ := hpl P hP
    unfold hitsW hitsP
    by_cases hb : 0 < P.bits
    · rw [if_pos hb, if_pos hb]; rfl
    · rw [if_neg hb, if_neg hb]
      have hm1 : m.bits = -1 := by
        refine Decidable.byContradiction fun h => ?_
        have := (q8 h).2.1
        omega
      have hj : P.mem.toNat = j := by omega
      rw [hj, q3]
      simp only [hnm m (List.mem_of_getElem? q3) hm1, Bool.not_false, Bool.true_and]
  constructor
  · rintro ⟨P, hP, h⟩; exact ⟨P, hP, by rw [← key P hP]; exact h⟩
  · rintro ⟨P, hP, h⟩; exact ⟨P, hP, by rw [key P hP]; exact h⟩
end
end Go.Proofs.YtlcghlfmaohfeaaGreat
