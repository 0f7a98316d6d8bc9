/-
  Rows of the law's own that it writes over: their shape stays, and nothing else turns.
-/
import Derived.Test.YtfdjghfgbibedaaDoorRefCopy
namespace Go.Proofs.YtfdjghfgbibedaaDoor
open Go.RowKit Go.Maps
set_option linter.unusedVariables false
set_option maxRecDepth 100000

structure OwnSh (lo hi : Nat) (w : World) (g cap : Nat) (rs : List (Rw × Value)) (k : Nat) : Prop where
  glo : lo ≤ g
  ghi : g < hi
  capn : rs.length ≤ cap
  rows : ∃ cur, w.heap[g]? = some (.cells cur TR (0, 0)) ∧ cur.size = cap * 6 ∧ ∀ i p, k ≤ i → rs[i]? = some p → cur[i * 6 + 4]? = some p.2
  mems : ∀ p ∈ rs, (p.2 = .slice none 0 0 ∧ p.1.mem.length = 0) ∨ ∃ h c cur, p.2 = .slice (some ⟨h, 0, none⟩) p.1.mem.length c ∧ p.1.mem.length ≤ c ∧ w.heap[h]? = some (.cells cur TM (0, 0)) ∧ cur.size = c * 3 ∧ lo ≤ h ∧ h < hi

section
variable {lo hi : Nat} {w w' : World} {g cap k : Nat} {rs : List (Rw × Value)}
theorem OwnSh.of_rtab {b : Nat} {v : Value} (h : RTab lo w b v rs) (hn : 0 < rs.length) : ∃ g cap, v = .slice (some ⟨g, 0, none⟩) rs.length cap ∧ OwnSh lo w.heap.size w g cap rs 0 := by
  obtain ⟨h1, ⟨rfl, h0⟩ | ⟨g, cap, cur, rfl, hb, hg, hcap, hm, hsz, hxs⟩⟩ := h.rows
  · omega
  · refine ⟨g, cap, rfl, hb, lt_of_heap hg, hcap, ⟨cur, hg, hsz, fun i p _ hp => ?_⟩, fun p hp => ?_⟩
    · have hlt : i < rs.length := (List.getElem?_eq_some_iff.1 hp).1
      have e := allCells_at rs i p hp 4 (by omega)
      rw [← hxs, List.getElem?_take, if_pos (by omega)] at e
      simpa [rwCells] using e
    · obtain ⟨h1, ⟨e, h0⟩ | ⟨g', cap', cur', e, hb', hg', hcap', hm', hsz', _⟩⟩ := h.mems p hp
      · exact Or.inl ⟨e, h0⟩
      · exact Or.inr ⟨g', cap', cur', e, hcap', hg', hsz', hb', lt_of_heap hg'⟩
theorem OwnSh.kept (h : OwnSh lo hi w g cap rs k) (hle : hi ≤ w.heap.size) (hb : Below w.heap.size w w') : OwnSh lo hi w' g cap rs k := by
  refine ⟨h.glo, h.ghi, h.capn, ?_, fun p hp => ?_⟩
  · obtain ⟨cur, h1, h2⟩ := h.rows
    exact ⟨cur, (hb.block g (lt_of_heap h1)).trans h1, h2⟩
  · rcases h.mems p hp with h1 | ⟨a, c, cur, e, h1, h2, h3⟩
    · exact Or.inl h1
    · exact Or.inr ⟨a, c, cur, e, h1, (hb.block a (lt_of_heap h2)).trans h2, h3⟩
/-- A member's cell is set. -/
theorem OwnSh.set (h : OwnSh lo hi w g cap rs k) {a : Nat} {cur : Array Value} (ha : w.heap[a]? = some (.cells cur TM (0, 0))) (hlo : lo ≤ a) (hhi : a < hi) (j : Nat) (x : Value) :
    OwnSh lo hi (w.setCell ⟨a, j, none⟩ x) g cap rs k ∧ Turned w (w.setCell ⟨a, j, none⟩ x) (fun z => lo ≤ z ∧ z < hi) := by
  have T : Turned w (w.setCell ⟨a, j, none⟩ x) (fun z => z = a) := Turned.setCell (S := fun z => z = a) w a j x rfl
  refine ⟨⟨h.glo, h.ghi, h.capn, ?_, fun p hp => ?_⟩, T.mono (fun z hz => by rw [hz]; exact ⟨hlo, hhi⟩)⟩
  · obtain ⟨c0, h1, h2⟩ := h.rows
    have hga : g ≠ a := by
      rintro rfl; rw [ha] at h1; injection h1 with e; injection e with _ e; exact absurd e (by decide)
    exact ⟨c0, (T.block g (lt_of_heap h1) hga).trans h1, h2⟩
  · rcases h.mems p hp with h1 | ⟨a', c', cur', e, h1, h2, h3⟩
    · exact Or.inl h1
    · by_cases haa : a' = a
      · subst haa
        rw [h2] at ha
        injection ha with e1; injection e1 with e1
        refine Or.inr ⟨a', c', _, e, h1, heap_setCell h2 _, ?_, h3.2⟩
        simpa using h3.1
      · exact Or.inr ⟨a', c', cur', e, h1, (T.block a' (lt_of_heap h2) haa).trans h2, h3⟩
/-- A row is written over. -/
theorem OwnSh.over (h : OwnSh lo hi w g cap rs k) (hk : k < rs.length) (vs : List Value) (hv : vs.length = 6) :
    OwnSh lo hi (w.setCells g (k * 6) vs) g cap rs (k + 1) ∧ Turned w (w.setCells g (k * 6) vs) (fun z => lo ≤ z ∧ z < hi) := by
  have T : Turned w (w.setCells g (k * 6) vs) (fun z => z = g) := Turned.setCells g vs (k * 6) w rfl
  obtain ⟨c0, h1, h2, h3⟩ := h.rows
  have hc := h.capn
  refine ⟨⟨h.glo, h.ghi, h.capn, ?_, fun p hp => ?_⟩, T.mono (fun z hz => by rw [hz]; exact ⟨h.glo, h.ghi⟩)⟩
  · obtain ⟨cur', r1, r2⟩ := heap_setCells g vs (k * 6) w c0 TR (0, 0) h1 (by omega)
    refine ⟨cur', r1, ?_, fun i p hi hp => ?_⟩
    · have := congrArg List.length r2
      simp at this
      omega
    · have hlt : i < rs.length := (List.getElem?_eq_some_iff.1 hp).1
      have e := h3 i p (by omega) hp
      have e2 : cur'.toList[i * 6 + 4]? = c0.toList[i * 6 + 4]? := by
        rw [r2, List.getElem?_append_right (by simp; omega), List.getElem?_drop]
        congr 1
        simp
        omega
      rw [Array.getElem?_toList, Array.getElem?_toList] at e2
      rw [e2]; exact e
  · rcases h.mems p hp with h4 | ⟨a', c', cur', e, h4, h5, h6⟩
    · exact Or.inl h4
    · have hga : a' ≠ g := by
        rintro rfl; rw [h5] at h1; injection h1 with e; injection e with _ e; exact absurd e (by decide)
      exact Or.inr ⟨a', c', cur', e, h4, (T.block a' (lt_of_heap h5) hga).trans h5, h6⟩
end
end Go.Proofs.YtfdjghfgbibedaaDoor
