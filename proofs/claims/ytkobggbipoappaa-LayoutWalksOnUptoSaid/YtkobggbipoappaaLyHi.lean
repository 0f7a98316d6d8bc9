/-
  Hops that came in as an argument, and slices of hops.
-/
import Derived.Test.YtkobggbipoappaaHRowOpen
namespace Go.Proofs.Ytkobggbipoappaa
open Go.ChangeShapes Go.WideShapes Go.ChangeAt Go.RowKit
set_option linter.unusedVariables false
abbrev THop : TypeId := 38
abbrev Hp : Type := ByteArray × Int
def hpCells (h : Hp) : List Value := [.string h.1, .int .i64 h.2]
/-- A slice of hops, wherever it begins. -/
def HopSl (w : World) (v : Value) (l : List Hp) : Prop :=
  (v = .slice none 0 0 ∧ l = []) ∨ ∃ g o cap, v = .slice (some ⟨g, o, none⟩) l.length cap ∧ l.length ≤ cap ∧ g < w.heap.size ∧ ∀ i m, l[i]? = some m → ∀ j, j < 2 → w.cell? ⟨g, o + i * 2 + j, none⟩ = (hpCells m)[j]?
theorem HopSl.below {w w' : World} {v : Value} {l : List Hp} (h : HopSl w v l) (hb : Below w.heap.size w w') : HopSl w' v l := by
  rcases h with h | ⟨g, o, cap, h1, h2, h3, h4⟩
  · exact Or.inl h
  · exact Or.inr ⟨g, o, cap, h1, h2, Nat.lt_of_lt_of_le h3 hb.size, fun i m hm j hj => by rw [hb.cell (p := ⟨g, o + i * 2 + j, none⟩) h3]; exact h4 i m hm j hj⟩
/-- One that came in: an empty one may have any address. -/
def HopIn (w : World) (s : Value) (l : List Hp) : Prop := HopSl w s l ∨ ∃ a c, s = .slice (some a) 0 c ∧ l = []
theorem HopIn.below {w w' : World} {v : Value} {l : List Hp} (h : HopIn w v l) (hb : Below w.heap.size w w') : HopIn w' v l := h.imp (fun h => h.below hb) id
theorem cells_hop : Try.prog.cellsOf THop = 2 := by kernel_rfl
theorem bytes_hop : Try.prog.bytesOf THop = 24 := by kernel_rfl
theorem list2 {α : Type} : ∀ {l : List α}, l.length = 2 → ∃ a b, l = [a, b]
  | [a, b], _ => ⟨a, b, rfl⟩
section
variable {H : Type} {enc : TypeId × Value → H} {w : World} {base : Nat} {spare : Nat → Bool} {held : Bool}
def hpData (h : Hp) : DataW H := .agg [.lit (.string h.1.data.toList), .lit (.int .i64 h.2)]
theorem open_hop {fuel : Nat} {cs : List Value} {x : DataW H × List MemPlace} (h : DataW.trod enc Try.prog w base spare held fuel THop cs = some x) :
    ∃ m : Hp, cs = hpCells m ∧ x.1 = hpData m ∧ m.1.size ≤ maxLen ∧ wf64 m.2 := by
  obtain ⟨xs, n, rfl, rfl, hl, hlen, hf⟩ := DataW.trod_struct Try.underlying38 h
  rw [cells_hop] at hl
  have f0 : DataW.trod enc Try.prog w base spare held n 9 ((cs.drop 0).take (Try.prog.cellsOf 9)) = xs[0]? := hf 0 _ rfl
  have f1 : DataW.trod enc Try.prog w base spare held n 3 ((cs.drop 1).take (Try.prog.cellsOf 3)) = xs[1]? := hf 1 _ rfl
  rw [cells_str] at f0
  rw [cells_int] at f1
  obtain ⟨c0, c1, rfl⟩ := list2 hl
  obtain ⟨y0, y1, rfl⟩ := list2 hlen
  simp only [List.drop_zero, List.drop_succ_cons, List.take_succ_cons, List.take_zero, List.getElem?_cons_zero, List.getElem?_cons_succ] at f0 f1
  obtain ⟨s, e0, d0, w0⟩ := DataW.trod_string Try.underlying9 f0
  obtain ⟨a, e1, d1, w1⟩ := DataW.trod_int Try.underlying3 f1
  cases e0; cases e1
  subst d0 d1
  exact ⟨⟨s, a⟩, rfl, rfl, w0, w1⟩
theorem open_hops {fuel : Nat} {cs : List Value} {x : DataW H × List MemPlace} (h : DataW.trod enc Try.prog w base spare held fuel 39 cs = some x) :
    ∃ (s : Value) (l : List Hp), cs = [s] ∧ HopIn w s l ∧ (∀ m ∈ l, m.1.size ≤ maxLen ∧ wf64 m.2) ∧ (x.1 = .nil ∧ l = [] ∨ ∃ rest, x.1 = .slice (l.map hpData) rest) := by
  rcases Deep.open_slice Try.underlying39 h with ⟨rfl, rfl⟩ | ⟨a, len, cap, m, n, D, Pl, rfl, hb, hl, hm, hmm, rfl, hx⟩
  · exact ⟨_, [], rfl, Or.inl (Or.inl ⟨rfl, rfl⟩), fun m hm => (by cases hm), Or.inl ⟨rfl, rfl⟩⟩
  have hlm : len ≤ m := by rw [hmm]; split <;> omega
  obtain ⟨V, hV⟩ := @Deep.choose_lt Hp ⟨⟨⟨#[]⟩, 0⟩⟩ len (fun i t => D i = hpData t ∧ (t.1.size ≤ maxLen ∧ wf64 t.2) ∧ ∀ j u, (hpCells t)[j]? = some u → w.cell? (a.add (i * 2 + j)) = some u) (fun i hi => by
    obtain ⟨cs', h1, h2⟩ := hx i (by omega)
    rw [cells_hop] at h1
    obtain ⟨t, rfl, ht, hs⟩ := open_hop h2
    obtain ⟨_, _, h3⟩ := World.cells?_some h1
    refine ⟨t, ht, hs, fun j u hj => ?_⟩
    have hj6 : j < 2 := by have := (List.getElem?_eq_some_iff.1 hj).1; simpa [hpCells] using this
    have := h3 j hj6
    rw [Deep.add_add] at this
    rw [this, hj])
  have hat : ∀ j t, ((List.range len).map V)[j]? = some t → j < len ∧ t = V j := by
    intro j t hj
    rw [List.getElem?_map] at hj
    rcases hr : (List.range len)[j]? with _ | i
    · rw [hr] at hj; cases hj
    · rw [hr] at hj
      simp only [Option.map_some, Option.some.injEq] at hj
      obtain ⟨hjl, hji⟩ := List.getElem?_eq_some_iff.1 hr
      simp only [List.getElem_range] at hji
      subst hji
      exact ⟨by simpa using hjl, hj.symm⟩
  refine ⟨_, (List.range len).map V, rfl, ?_, ?_, Or.inr ⟨(List.range (m - len)).map fun j => D (len + j), ?_⟩⟩
  · by_cases h0 : len = 0
    · subst h0; exact Or.inr ⟨a, cap, rfl, rfl⟩
    · left; right
      obtain ⟨b, off, spot⟩ := a
      have hc := (hV 0 (by omega)).2.2 0 _ rfl
      have hspot : spot = none := by simpa [Addr.add] using World.cell?_spot hc
      subst hspot
      have hlt : b < w.heap.size := by
        have := World.block_lt_of_cell? w _ hc
        simpa [Addr.add] using this
      refine ⟨b, off, cap, by simp, by simpa using hl, hlt, fun i t hi j hj => ?_⟩
      obtain ⟨hil, rfl⟩ := hat i t hi
      cases hu : (hpCells (V i))[j]? with
      | none => simp [hpCells] at hu; omega
      | some u =>
        have := (hV i hil).2.2 j u hu
        rw [Addr.add_lit, ← Nat.add_assoc] at this
        exact this
  · intro t ht
    obtain ⟨j, hj⟩ := List.mem_iff_getElem?.1 ht
    obtain ⟨hjl, rfl⟩ := hat j t hj
    exact (hV j hjl).2.1
  · show DataW.slice _ _ = _
    congr 1
    rw [List.map_map]
    refine List.map_congr_left fun i hi => ?_
    exact (hV i (by simpa using hi)).1
theorem hops_arg {W : World} {a0 : Option Addr} {len0 cap0 : Nat} {d : DataW H} {p : List MemPlace} (h0 : DataW.Trod enc Try.prog W base spare held 39 (.slice a0 len0 cap0) d p)
    (hw : (d.weights Try.prog 39).all (· ≤ reachBytes) = true) : ∃ l : List Hp, HopIn W (.slice a0 len0 cap0) l ∧ (∀ m ∈ l, m.1.size ≤ maxLen ∧ wf64 m.2) ∧ l.length * 24 ≤ 140737488355328 ∧ (d = .nil ∧ l = [] ∨ ∃ rest, d = .slice (l.map hpData) rest) := by
  obtain ⟨fuel, hf⟩ := h0
  obtain ⟨s, l, hcs, hin, hn, hd⟩ := open_hops hf
  simp [Value.cells] at hcs
  subst hcs
  refine ⟨l, hin, hn, ?_, hd⟩
  rcases hd with ⟨_, rfl⟩ | ⟨rest, hx⟩
  · simp
  · simp only at hx
    subst hx
    rw [List.all_eq_true] at hw
    have hu := Try.underlying39
    simp only [DataW.weights, hu, bytes_hop] at hw
    have := hw _ (List.mem_cons_self ..)
    simp [reachBytes] at this
    omega
end
end Go.Proofs.Ytkobggbipoappaa
