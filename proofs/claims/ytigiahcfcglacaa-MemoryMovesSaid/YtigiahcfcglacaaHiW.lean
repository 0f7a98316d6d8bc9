/-
  Acts that came in as an argument, in a slice.
  The weight of one argument among all.
-/
import Derived.Test.YtigiahcfcglacaaMmFr
import Derived.Test.YtigiahcfcglacaaPl
import Derived.Deep.Slices
namespace Go.Proofs.Ytigiahcfcglacaa
open Go.ChangeShapes Go.WideShapes Go.ChangeAt Go.RowKit
set_option linter.unusedVariables false
theorem weights_at {H : Type} {ts : List TypeId} {ds : List (DataW H)} (h : (DataW.weightsEach Try.prog ts ds).all (· ≤ reachBytes) = true) : ∀ (j : Nat) t d, ts[j]? = some t → ds[j]? = some d → (d.weights Try.prog t).all (· ≤ reachBytes) = true := by
  induction ts generalizing ds with
  | nil => intro j t d ht; simp at ht
  | cons a ts ih =>
    cases ds with
    | nil => intro j t d _ hd; simp at hd
    | cons b ds =>
      simp only [DataW.weightsEach, List.all_append, Bool.and_eq_true] at h
      intro j t d ht hd
      cases j with
      | zero => simp only [List.getElem?_cons_zero, Option.some.injEq] at ht hd; subst ht hd; exact h.1
      | succ j => exact ih h.2 j t d (by simpa using ht) (by simpa using hd)
end Go.Proofs.Ytigiahcfcglacaa
namespace Go.Proofs.Ytigiahcfcglacaa
open Go.ChangeShapes Go.WideShapes Go.ChangeAt Go.RowKit
set_option linter.unusedVariables false
def acL (a : Ac) : List Value := [.int .i64 a.kind, .int .i64 a.p.kind, .int .u32 a.p.v, .int .i64 a.p.block, .int .i64 a.q.kind, .int .u32 a.q.v, .int .i64 a.q.block, .int .i64 a.n, .int .i64 a.w, .bool a.sg]
/-- A slice of acts, wherever it begins. -/
def ActSl (w : World) (v : Value) (l : List Ac) : Prop :=
  (v = .slice none 0 0 ∧ l = []) ∨ ∃ g o cap, v = .slice (some ⟨g, o, none⟩) l.length cap ∧ l.length ≤ cap ∧ g < w.heap.size ∧ ∀ i m, l[i]? = some m → ∀ j, j < 10 → w.cell? ⟨g, o + i * 10 + j, none⟩ = (acL m)[j]?
/-- One that came in: an empty one may have any address. -/
def ActIn (w : World) (s : Value) (l : List Ac) : Prop := ActSl w s l ∨ ∃ a c, s = .slice (some a) 0 c ∧ l = []
theorem cells_act : Try.prog.cellsOf TA = 10 := by kernel_rfl
theorem bytes_act : Try.prog.bytesOf TA = 80 := by kernel_rfl
theorem cells_bool : Try.prog.cellsOf 4 = 1 := by kernel_rfl
theorem list6 {α : Type} : ∀ {l : List α}, l.length = 6 → ∃ a b c d e f, l = [a, b, c, d, e, f]
  | [a, b, c, d, e, f], _ => ⟨a, b, c, d, e, f, rfl⟩
theorem list10 {α : Type} : ∀ {l : List α}, l.length = 10 → ∃ a b c d e f g h i j, l = [a, b, c, d, e, f, g, h, i, j]
  | [a, b, c, d, e, f, g, h, i, j], _ => ⟨a, b, c, d, e, f, g, h, i, j, rfl⟩
section
variable {H : Type} {enc : TypeId × Value → H} {w : World} {base : Nat} {spare : Nat → Bool} {held : Bool}
theorem open_act {fuel : Nat} {cs : List Value} {x : DataW H × List MemPlace} (h : DataW.trod enc Try.prog w base spare held fuel TA cs = some x) :
    ∃ a : Ac, cs = acL a ∧ AcOK a := by
  obtain ⟨xs, n, rfl, rfl, hl, hlen, hf⟩ := DataW.trod_struct Try.underlying52 h
  rw [cells_act] at hl
  have f0 : DataW.trod enc Try.prog w base spare held n 3 ((cs.drop 0).take (Try.prog.cellsOf 3)) = xs[0]? := hf 0 _ rfl
  have f1 : DataW.trod enc Try.prog w base spare held n TV ((cs.drop 1).take (Try.prog.cellsOf TV)) = xs[1]? := hf 1 _ rfl
  have f2 : DataW.trod enc Try.prog w base spare held n TV ((cs.drop 4).take (Try.prog.cellsOf TV)) = xs[2]? := hf 2 _ rfl
  have f3 : DataW.trod enc Try.prog w base spare held n 3 ((cs.drop 7).take (Try.prog.cellsOf 3)) = xs[3]? := hf 3 _ rfl
  have f4 : DataW.trod enc Try.prog w base spare held n 3 ((cs.drop 8).take (Try.prog.cellsOf 3)) = xs[4]? := hf 4 _ rfl
  have f5 : DataW.trod enc Try.prog w base spare held n 4 ((cs.drop 9).take (Try.prog.cellsOf 4)) = xs[5]? := hf 5 _ rfl
  rw [cells_int] at f0 f3 f4
  rw [cells_val] at f1 f2
  rw [cells_bool] at f5
  obtain ⟨c0, c1, c2, c3, c4, c5, c6, c7, c8, c9, rfl⟩ := list10 hl
  obtain ⟨y0, y1, y2, y3, y4, y5, rfl⟩ := list6 hlen
  simp only [List.drop_zero, List.drop_succ_cons, List.take_succ_cons, List.take_zero, List.getElem?_cons_zero, List.getElem?_cons_succ] at f0 f1 f2 f3 f4 f5
  obtain ⟨k, e0, d0, w0⟩ := DataW.trod_int Try.underlying3 f0
  obtain ⟨p, e1, p1, p2, p3, p4, _⟩ := open_val f1
  obtain ⟨q, e2, q1, q2, q3, q4, _⟩ := open_val f2
  obtain ⟨m, e3, d3, w3⟩ := DataW.trod_int Try.underlying3 f3
  obtain ⟨o, e4, d4, w4⟩ := DataW.trod_int Try.underlying3 f4
  obtain ⟨g, e5, d5⟩ := DataW.trod_bool Try.underlying4 f5
  cases e0; cases e1; cases e2; cases e3; cases e4; cases e5
  have b3 := bd_i64 w3
  have b4 := bd_i64 w4
  exact ⟨⟨k, p, q, m, o, g⟩, rfl, ⟨p1, p2, p3, p4⟩, ⟨q1, q2, q3, q4⟩, b3.1, b3.2, b4.1, b4.2⟩
theorem open_acts {fuel : Nat} {cs : List Value} {x : DataW H × List MemPlace} (h : DataW.trod enc Try.prog w base spare held fuel 22 cs = some x) :
    ∃ (s : Value) (l : List Ac), cs = [s] ∧ ActIn w s l ∧ (∀ m ∈ l, AcOK m) ∧ (x.1 = .nil ∧ l = [] ∨ ∃ ds rest, x.1 = .slice ds rest ∧ ds.length = l.length) := by
  rcases Deep.open_slice Try.underlying22 h with ⟨rfl, rfl⟩ | ⟨a, len, cap, m, n, D, Pl, rfl, hb, hl, hm, hmm, rfl, hx⟩
  · exact ⟨_, [], rfl, Or.inl (Or.inl ⟨rfl, rfl⟩), fun m hm => (by cases hm), Or.inl ⟨rfl, rfl⟩⟩
  have hlm : len ≤ m := by rw [hmm]; split <;> omega
  obtain ⟨V, hV⟩ := @Deep.choose_lt Ac ⟨⟨0, ⟨0, 0, 0⟩, ⟨0, 0, 0⟩, 0, 0, false⟩⟩ len (fun i t => AcOK t ∧ ∀ j u, (acL t)[j]? = some u → w.cell? (a.add (i * 10 + j)) = some u) (fun i hi => by
    obtain ⟨cs', h1, h2⟩ := hx i (by omega)
    rw [cells_act] at h1
    obtain ⟨t, rfl, ht⟩ := open_act h2
    obtain ⟨_, _, h3⟩ := World.cells?_some h1
    refine ⟨t, ht, fun j u hj => ?_⟩
    have hj6 : j < 10 := by have := (List.getElem?_eq_some_iff.1 hj).1; simpa [acL] using this
    have := h3 j hj6
    rw [Deep.add_add] at this
    rw [this, hj])
  have hat : ∀ j t, ((List.range len).map V)[j]? = some t → j < len ∧ t = V j := by
    intro j t hj
    rw [List.getElem?_map] at hj
    rcases hr : (List.range len)[j]? with _ | i
    · rw [hr] at hj; cases hj
    · rw [hr] at hj
      simp only [Option.map_some, Option.some.injEq] at hj
      obtain ⟨hjl, hji⟩ := List.getElem?_eq_some_iff.1 hr
      simp only [List.getElem_range] at hji
      subst hji
      exact ⟨by simpa using hjl, hj.symm⟩
  refine ⟨_, (List.range len).map V, rfl, ?_, ?_, Or.inr ⟨_, (List.range (m - len)).map fun j => D (len + j), rfl, ?_⟩⟩
  · by_cases h0 : len = 0
    · subst h0; exact Or.inr ⟨a, cap, rfl, rfl⟩
    · left; right
      obtain ⟨b, off, spot⟩ := a
      have hc := (hV 0 (by omega)).2 0 _ rfl
      have hspot : spot = none := by simpa [Addr.add] using World.cell?_spot hc
      subst hspot
      have hlt : b < w.heap.size := by
        have := World.block_lt_of_cell? w _ hc
        simpa [Addr.add] using this
      refine ⟨b, off, cap, by simp, by simpa using hl, hlt, fun i t hi j hj => ?_⟩
      obtain ⟨hil, rfl⟩ := hat i t hi
      cases hu : (acL (V i))[j]? with
      | none => simp [acL] at hu; omega
      | some u =>
        have := (hV i hil).2 j u hu
        rw [Addr.add_lit, ← Nat.add_assoc] at this
        exact this
  · intro t ht
    obtain ⟨j, hj⟩ := List.mem_iff_getElem?.1 ht
    obtain ⟨hjl, rfl⟩ := hat j t hj
    exact (hV j hjl).1
  · simp
theorem acts_arg {W : World} {a0 : Option Addr} {len0 cap0 : Nat} {d : DataW H} {p : List MemPlace} (h0 : DataW.Trod enc Try.prog W base spare held 22 (.slice a0 len0 cap0) d p)
    (hw : (d.weights Try.prog 22).all (· ≤ reachBytes) = true) : ∃ l : List Ac, ActIn W (.slice a0 len0 cap0) l ∧ (∀ m ∈ l, AcOK m) ∧ l.length * 80 ≤ 140737488355328 := by
  obtain ⟨fuel, hf⟩ := h0
  obtain ⟨s, l, hcs, hin, hn, hd⟩ := open_acts hf
  simp [Value.cells] at hcs
  subst hcs
  refine ⟨l, hin, hn, ?_⟩
  rcases hd with ⟨_, rfl⟩ | ⟨ds, rest, hx, hlen⟩
  · simp
  · simp only at hx
    subst hx
    rw [List.all_eq_true] at hw
    have hu := Try.underlying22
    simp only [DataW.weights, hu, bytes_act] at hw
    have := hw _ (List.mem_cons_self ..)
    have := of_decide_eq_true this
    unfold reachBytes at this
    rw [← hlen]
    omega
end
end Go.Proofs.Ytigiahcfcglacaa
