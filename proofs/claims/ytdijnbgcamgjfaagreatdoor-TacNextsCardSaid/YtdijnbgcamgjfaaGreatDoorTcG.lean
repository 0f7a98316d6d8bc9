/-
  Rows that a copy made: functions whose code's row and operands' rows are new.
-/
import Derived.Test.YtdijnbgcamgjfaaGreatDoorTcF
import Derived.Test.YtdijnbgcamgjfaaGreatDoorTeH
namespace Go.Proofs.YtdijnbgcamgjfaaGreatDoor
open Go.RowKit Go.Maps
set_option linter.unusedVariables false
set_option linter.unusedSimpArgs false
set_option maxRecDepth 100000
def flatC {α : Type} (C : α → List Value) (l : List α) : List Value := l.flatMap C
theorem flatC_length {α : Type} {C : α → List Value} {k : Nat} (hC : ∀ a, (C a).length = k) (l : List α) : (flatC C l).length = l.length * k := by
  induction l with
  | nil => simp [flatC]
  | cons a l ih =>
    have : flatC C (a :: l) = C a ++ flatC C l := by simp [flatC]
    rw [this, List.length_append, ih, hC, List.length_cons, Nat.succ_mul]; omega
theorem flatC_at {α : Type} {C : α → List Value} {k : Nat} (hC : ∀ a, (C a).length = k) (l : List α) (i : Nat) (a : α) (h : l[i]? = some a) (j : Nat) (hj : j < k) : (flatC C l)[i * k + j]? = (C a)[j]? := by
  induction l generalizing i with
  | nil => simp at h
  | cons b l ih =>
    have e : flatC C (b :: l) = C b ++ flatC C l := by simp [flatC]
    rw [e]
    cases i with
    | zero =>
      simp only [List.getElem?_cons_zero, Option.some.injEq] at h
      subst h
      rw [Nat.zero_mul, Nat.zero_add, List.getElem?_append_left (by rw [hC]; exact hj)]
    | succ i =>
      rw [List.getElem?_cons_succ] at h
      rw [List.getElem?_append_right (by rw [hC, Nat.succ_mul]; omega), hC, show (i + 1) * k + j - k = i * k + j by rw [Nat.succ_mul]; omega]
      exact ih i h
theorem flatC_snoc {α : Type} (C : α → List Value) (l : List α) (a : α) : flatC C (l ++ [a]) = flatC C l ++ C a := by simp [flatC]
theorem RowV.of_own {α : Type} {C : α → List Value} {k : Nat} (hC : ∀ a, (C a).length = k) {w : World} {B : Nat} {t : TypeId} {p : Option Addr} {cap : Nat} {l : List α} (h : w.ownsRow B t k (.slice p l.length cap) l.length (flatC C l)) : RowV C k w p cap l := by
  by_cases hl : l.length = 0
  · obtain ⟨_, ⟨he, _⟩ | ⟨g, c, cur, he, _, _, hc, _⟩⟩ := h
    · injection he with e1 e2 e3
      exact ⟨⟨by omega, fun _ => e3⟩, fun i a ha => by rw [List.eq_nil_of_length_eq_zero hl] at ha; simp at ha⟩
    · injection he with e1 e2 e3
      exact ⟨⟨by omega, fun e => by rw [e1] at e; cases e⟩, fun i a ha => by rw [List.eq_nil_of_length_eq_zero hl] at ha; simp at ha⟩
  · obtain ⟨g, c, he, q1, q2, q3, q4, q5⟩ := own_cell h (by omega)
    injection he with e1 e2 e3
    subst e1 e3
    refine ⟨⟨q3, fun e => by cases e⟩, fun i a ha => ⟨g, 0, rfl, q2, fun j hj => ?_⟩⟩
    have h1 := flatC_at hC l i a ha j hj
    rw [Nat.zero_add]
    obtain ⟨u, hu⟩ : ∃ u, (C a)[j]? = some u := ⟨_, List.getElem?_eq_getElem (by rw [hC]; exact hj)⟩
    rw [hu] at h1 ⊢
    exact q4 _ u h1
theorem iwC_length (q : Iw) : (iwC q).length = 12 := rfl
theorem fgC_length (q : Fg) : (fgC q).length = 6 := rfl
/-- An instruction whose operands' row is new. -/
def IwOwn (B : Nat) (w : World) (i : Iw) : Prop := w.ownsRow B TAr 2 (.slice i.xp i.x.args.length i.xc) i.x.args.length (argsC i.x.args)
theorem IwOwn.turned {B : Nat} {w w' : World} {i : Iw} {S : Nat → Prop} {ty : TypeId} (h : IwOwn B w i) (ht : Turned w w' S) (hb : ∀ k, S k → ∃ cs, w.heap[k]? = some (.cells cs ty (0, 0))) (h1 : ty ≠ TAr) : IwOwn B w' i :=
  ownsRow_turned h ht (fun k hk hs => by
    obtain ⟨_, cur, hcur⟩ := ownsRow_at h hk
    obtain ⟨cs, e⟩ := hb k hs
    rw [hcur] at e
    injection e with e; injection e with _ e
    exact h1 e.symm)
theorem IwOwn.below {B : Nat} {w w' : World} {i : Iw} (h : IwOwn B w i) (hb : Below w.heap.size w w') : IwOwn B w' i := ownsRow_turned h (Turned.of_below hb (fun _ => False)) (fun _ _ h => h)
theorem IwOwn.mono {B B' : Nat} {w : World} {i : Iw} (h : IwOwn B w i) (hb : B' ≤ B) : IwOwn B' w i := by
  obtain ⟨e, q⟩ := h
  refine ⟨e, ?_⟩
  rcases q with q | ⟨g, c, cur, he, h1, h2⟩
  · exact Or.inl q
  · exact Or.inr ⟨g, c, cur, he, Nat.le_trans hb h1, h2⟩
/-- A function whose code's row is new, and each operands' row. -/
structure FgOwn (B : Nat) (w : World) (q : Fg) : Prop where
  sl : q.sls = []
  sn : q.f.sn = 0
  sp : q.f.sp = none → q.f.sc = 0
  cn : q.f.cn = q.code.length
  cr : w.ownsRow B TIn 12 (.slice q.f.cp q.code.length q.f.cc) q.code.length (flatC iwC q.code)
  ci : ∀ i ∈ q.code, IwOwn B w i
theorem FgOwn.turned {B : Nat} {w w' : World} {q : Fg} {S : Nat → Prop} {ty : TypeId} (h : FgOwn B w q) (ht : Turned w w' S) (hb : ∀ k, S k → ∃ cs, w.heap[k]? = some (.cells cs ty (0, 0))) (h1 : ty ≠ TAr) (h2 : ty ≠ TIn) : FgOwn B w' q :=
  ⟨h.sl, h.sn, h.sp, h.cn, ownsRow_turned h.cr ht (fun k hk hs => by
    obtain ⟨_, cur, hcur⟩ := ownsRow_at h.cr hk
    obtain ⟨cs, e⟩ := hb k hs
    rw [hcur] at e
    injection e with e; injection e with _ e
    exact h2 e.symm), fun i hi => (h.ci i hi).turned ht hb h1⟩
theorem FgOwn.below {B : Nat} {w w' : World} {q : Fg} (h : FgOwn B w q) (hb : Below w.heap.size w w') : FgOwn B w' q :=
  ⟨h.sl, h.sn, h.sp, h.cn, ownsRow_turned h.cr (Turned.of_below hb (fun _ => False)) (fun _ _ h => h), fun i hi => (h.ci i hi).below hb⟩
/-- What a copy made is a function like the one that came in. -/
theorem FgOwn.ok {B : Nat} {w w0 : World} {q a : Fg} (h : FgOwn B w q) (he : FgEq a q) (ha : FgOK w0 a) : FgOK w q := by
  have hl : a.code.length = q.code.length := by have := congrArg List.length he.co; simpa using this
  refine ⟨by rw [he.nm]; exact ha.nm, ?_, by rw [h.sn, h.sl]; rfl, by rw [h.sl]; exact Nat.zero_le _, RowV.of_own iwC_length h.cr, h.cn, by rw [← hl]; exact ha.cm, fun i hi => ?_⟩
  · rw [h.sl]; exact ⟨⟨Nat.zero_le _, h.sp⟩, fun i a ha => by simp at ha⟩
  · have hm : i.x ∈ a.code.map Iw.x := by rw [he.co]; exact List.mem_map.2 ⟨i, hi, rfl⟩
    obtain ⟨b, hb, e⟩ := List.mem_map.1 hm
    have o := ha.ci b hb
    rw [e] at o
    exact ⟨o.a, o.b, o.off, ArgV.of_own (h.ci i hi), o.ao, o.al⟩
end Go.Proofs.YtdijnbgcamgjfaaGreatDoor
