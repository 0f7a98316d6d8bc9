/-
  The given answer's Row and Copy: rows of their own memory.
-/
import Derived.Test.YtdfkkflpcamhjaaGreatDoorMCop
namespace Go.Proofs.YtdfkkflpcamhjaaGreatDoor
open Go.RowKit Go.Maps
set_option linter.unusedVariables false
set_option maxRecDepth 100000

/-- Members that came in: a slice without any may lie anywhere. -/
def MemIn (w : World) (s : Value) (l : List Mb) : Prop := MemSl w s l ∨ ∃ a c, s = .slice (some a) 0 c ∧ l = []
theorem MemIn.below {w w' : World} {v : Value} {l : List Mb} (h : MemIn w v l) (hb : Below w.heap.size w w') : MemIn w' v l := h.imp (fun h => h.below hb) id
theorem MemIn.sl {w : World} {v : Value} {l : List Mb} (h : MemIn w v l) : ∃ p n c, v = .slice p n c := by
  rcases h with h | ⟨a, c, rfl, _⟩
  · exact h.sl
  · exact ⟨_, _, _, rfl⟩
theorem MemIn.read {w : World} {v : Value} {l : List Mb} (h : MemIn w v l) : (v = .slice none 0 0 ∧ l = []) ∨ ∃ ad c, v = .slice (some ad) l.length c ∧ ∀ w', Below w.heap.size w w' → ∀ j u, (memCells l)[j]? = some u → w'.cell? (ad.add j) = some u := by
  rcases h with (h | ⟨g, o, cap, h1, h2, h3, h4⟩) | ⟨a, c, rfl, rfl⟩
  · exact Or.inl h
  · exact Or.inr ⟨⟨g, o, none⟩, cap, h1, fun w' hb => MemSl.cells (x := .bool true) (cap := 0) (fun i m hm j hj => (hb.cell (p := ⟨g, o + i * 3 + j, none⟩) h3).trans (h4 i m hm j hj))⟩
  · exact Or.inr ⟨a, c, rfl, fun w' _ j u hj => by simp [memCells] at hj⟩
/-- Rows that came in. -/
def RowIn (w : World) (v : Value) (rs : List (Rw × Value)) : Prop :=
  ((v = .slice none 0 0 ∧ rs = []) ∨ (∃ a c, v = .slice (some a) 0 c ∧ rs = []) ∨ ∃ g o cap, v = .slice (some ⟨g, o, none⟩) rs.length cap ∧ rs.length ≤ cap ∧ g < w.heap.size ∧ ∀ i p, rs[i]? = some p → ∀ j, j < 6 → w.cell? ⟨g, o + i * 6 + j, none⟩ = (rwCells p.1 p.2)[j]?) ∧
  ∀ p ∈ rs, MemIn w p.2 p.1.mem
theorem RowIn.below {w w' : World} {v : Value} {rs : List (Rw × Value)} (h : RowIn w v rs) (hb : Below w.heap.size w w') : RowIn w' v rs := by
  refine ⟨?_, fun p hp => (h.2 p hp).below hb⟩
  rcases h.1 with h | h | ⟨g, o, cap, h1, h2, h3, h4⟩
  · exact Or.inl h
  · exact Or.inr (Or.inl h)
  · exact Or.inr (Or.inr ⟨g, o, cap, h1, h2, Nat.lt_of_lt_of_le h3 hb.size, fun i m hm j hj => by rw [hb.cell (p := ⟨g, o + i * 6 + j, none⟩) h3]; exact h4 i m hm j hj⟩)
theorem RowIn.of_sl {w : World} {v : Value} {rs : List (Rw × Value)} (h : RowSl w v rs) : RowIn w v rs := ⟨h.1.imp id Or.inr, fun p hp => Or.inl (h.2 p hp)⟩

section
variable {w : World}
set_option maxHeartbeats 2000000 in
theorem refRow_c {r : Rw} {s : Value} (hs : MemIn w s r.mem) (hn : r.mem.length * 32 ≤ 140737488355328) :
    Calls Tryz.prog 48 #[.agg (rwCells r s).toArray] w fun e w' => ∃ s', e = .returned (.agg (rwCells r s').toArray) ∧ w'.ownsRow w.heap.size TM 3 s' r.mem.length (memCells r.mem) ∧ Below w.heap.size w w' := by
  obtain ⟨kd, el, ln, tg, mm, dn⟩ := r
  obtain ⟨i0, hi, hz0, hz1, hz2⟩ := info_parts infoTM
  simp only [rwCells] at *
  have HB : Hid (Below w.heap.size w ((w.alloc (.cells #[.int .i64 kd, .int .i64 el, .int .i64 ln, .string tg, s, .bool dn] TR)).alloc (.cells #[.int .i64 0, .int .i64 0, .int .i64 0, .string ⟨#[]⟩, .slice none 0 0, .bool false] TR))) := ((Below.refl _ w).alloc (Nat.le_refl _) _).alloc (by simp) _
  have e1 := heap_s1 w (.cells #[.int .i64 kd, .int .i64 el, .int .i64 ln, .string tg, s, .bool dn] TR) (.cells #[.int .i64 0, .int .i64 0, .int .i64 0, .string ⟨#[]⟩, .slice none 0 0, .bool false] TR)
  have e2 : Hid (_ = _) := heap_s2 w (.cells #[.int .i64 kd, .int .i64 el, .int .i64 ln, .string tg, s, .bool dn] TR) (.cells #[.int .i64 0, .int .i64 0, .int .i64 0, .string ⟨#[]⟩, .slice none 0 0, .bool false] TR)
  have hsz : w.heap.size + 1 < ((w.alloc (.cells #[.int .i64 kd, .int .i64 el, .int .i64 ln, .string tg, s, .bool dn] TR)).alloc (.cells #[.int .i64 0, .int .i64 0, .int .i64 0, .string ⟨#[]⟩, .slice none 0 0, .bool false] TR)).heap.size := lt_of_heap e2.out
  go_enter Tryz.func48, Tryz.ntmps48
  go_upto_region 2 with (fail)
  refine (?_ : Code.wp _ _ _ _ ((w.alloc (.cells #[.int .i64 kd, .int .i64 el, .int .i64 ln, .string tg, s, .bool dn] TR)).alloc (.cells #[.int .i64 0, .int .i64 0, .int .i64 0, .string ⟨#[]⟩, .slice none 0 0, .bool false] TR)))
  generalize (w.alloc (.cells #[.int .i64 kd, .int .i64 el, .int .i64 ln, .string tg, s, .bool dn] TR)).alloc (.cells #[.int .i64 0, .int .i64 0, .int .i64 0, .string ⟨#[]⟩, .slice none 0 0, .bool false] TR) = W at *
  have a4 : W.cell? ⟨w.heap.size, 4, none⟩ = some s := by rw [Lib.cell_of_heap e1]; rfl
  have E1 : Hid (_ = _) := e1
  clear e1
  have rest : Hid (∀ w1 sp sc, w1.ownsRow W.heap.size TM 3 (.slice sp mm.length sc) mm.length (memCells mm) → Below W.heap.size W w1 →
      (∃ s', (.returned (.agg #[.int .i64 kd, .int .i64 el, .int .i64 ln, .string tg, .slice sp mm.length sc, .bool dn]) : Ending) = .returned (.agg #[.int .i64 kd, .int .i64 el, .int .i64 ln, .string tg, s', .bool dn]) ∧
        World.ownsRow ((w1.setCell ⟨w.heap.size, 4, none⟩ (.slice sp mm.length sc)).setRow (w.heap.size + 1) #[.int .i64 kd, .int .i64 el, .int .i64 ln, .string tg, .slice sp mm.length sc, .bool dn]) w.heap.size TM 3 s' mm.length (memCells mm) ∧
        Below w.heap.size w ((w1.setCell ⟨w.heap.size, 4, none⟩ (.slice sp mm.length sc)).setRow (w.heap.size + 1) #[.int .i64 kd, .int .i64 el, .int .i64 ln, .string tg, .slice sp mm.length sc, .bool dn])) ∧
      w1.heap[w.heap.size]? = some (.cells #[.int .i64 kd, .int .i64 el, .int .i64 ln, .string tg, s, .bool dn] TR (0, 0)) ∧
      (w1.setCell ⟨w.heap.size, 4, none⟩ (.slice sp mm.length sc)).heap[w.heap.size + 1]? = some (.cells #[.int .i64 0, .int .i64 0, .int .i64 0, .string ⟨#[]⟩, .slice none 0 0, .bool false] TR (0, 0)) ∧
      (w1.setCell ⟨w.heap.size, 4, none⟩ (.slice sp mm.length sc)).heap[w.heap.size]? = some (.cells #[.int .i64 kd, .int .i64 el, .int .i64 ln, .string tg, .slice sp mm.length sc, .bool dn] TR (0, 0))) := by
    intro w1 sp sc hown hb
    have f1 := (hb.block w.heap.size (by omega)).trans E1.out
    have f2 := (hb.block (w.heap.size + 1) (by omega)).trans e2.out
    refine ⟨⟨_, rfl, ?_, ?_⟩, f1, (heap_setCell_other w1 ⟨w.heap.size, 4, none⟩ (w.heap.size + 1) _ (by show w.heap.size + 1 ≠ w.heap.size; omega)).trans f2, heap_setCell (j := 4) f1 _⟩
    · have t : Turned w1 _ (fun k => k = w.heap.size ∨ k = w.heap.size + 1) := (Turned.setCell (S := fun k => k = w.heap.size ∨ k = w.heap.size + 1) w1 w.heap.size 4 (.slice sp mm.length sc) (Or.inl rfl)).trans (Turned.setRow (S := fun k => k = w.heap.size ∨ k = w.heap.size + 1) _ (w.heap.size + 1) #[.int .i64 kd, .int .i64 el, .int .i64 ln, .string tg, .slice sp mm.length sc, .bool dn] (Or.inr rfl)) (fun _ _ x => x)
      exact ownsRow_base (ownsRow_turned hown t (fun k hk e => by have := (ownsRow_at hown hk).1; omega)) HB.out.size
    · have hb2 := HB.out.trans (hb.mono HB.out.size)
      refine below_setRow ?_ (by omega) _
      exact ⟨hb2.os, hb2.tape, hb2.output, by simpa using hb2.size, fun k hk => (heap_setCell_other w1 _ k _ (by show k ≠ w.heap.size; omega)).trans (hb2.block k hk)⟩
  rcases hs.read with ⟨rfl, rfl⟩ | ⟨ad, cap, rfl, hcell⟩
  · obtain ⟨R1, f1, g2, g1⟩ := rest.out W none 0 (World.ownsRow_nil _ _ _ _) (Below.refl _ _)
    have RR : Hid _ := R1
    have G2 : Hid (_ = _) := g2
    have fr4 : W.frozen? ⟨w.heap.size, 4, none⟩ = false := frozen_of f1 4
    have c0 := Lib.cell_of_heap g1 0
    have c1 := Lib.cell_of_heap g1 1
    have c2 := Lib.cell_of_heap g1 2
    have c3 := Lib.cell_of_heap g1 3
    have c4 := Lib.cell_of_heap g1 4
    have c5 := Lib.cell_of_heap g1 5
    simp only [List.getElem?_toArray, List.getElem?_cons_zero, List.getElem?_cons_succ, List.length_nil] at c0 c1 c2 c3 c4 c5
    clear R1 g2 g1 f1 rest
    simp only [List.length_nil] at RR G2
    go_wp2_with ((with_reducible apply step_store G2.out); rfl; rfl; kernel_rfl; rfl; kernel_rfl)
    refine ret_row1 (p := 2) (g := w.heap.size + 1) rfl rfl (setRow_heap _ _ _ #[.int .i64 kd, .int .i64 el, .int .i64 ln, .string tg, .slice none 0 0, .bool dn] _ _ G2.out) rfl ?_
    exact RR.out
  · have hcs := hcell W HB.out
    clear hcell hs
    go_wp2_with (first
      | (at_builtin; go_must (refine wpList_append_own_at _ rfl (.tmp 4) (.tmp 6) 31 rfl W.heap.size TM i0 _ 3 32 Tryz.underlying31 hi hz0 hz1 hz2 rfl (by decide) (.slice none 0 0) 0 [] rfl (World.ownsRow_nil _ _ _ _) ad mm.length cap (memCells mm) rfl (memCells_length mm) hcs (mem_one mm) (by unfold maxLen; omega) (by omega) (Nat.le_refl _) ?_); intro s w1 hown hgrow hnil hat; rw [Nat.zero_add, List.nil_append] at hown; obtain ⟨sp, sc, rfl⟩ := slice_of_own hown; obtain ⟨R1, f1, g2, g1⟩ := rest.out w1 sp sc hown ⟨hgrow.os, hgrow.tape, hgrow.output, hgrow.size, fun k hk => hgrow.block k hk (by simp [Value.ownBlock])⟩; have RR : Hid _ := R1; have G2 : Hid (_ = _) := g2; have b4 := Lib.cell_of_heap f1 4; have fr4 : w1.frozen? ⟨w.heap.size, 4, none⟩ = false := frozen_of f1 4; have c0 := Lib.cell_of_heap g1 0; have c1 := Lib.cell_of_heap g1 1; have c2 := Lib.cell_of_heap g1 2; have c3 := Lib.cell_of_heap g1 3; have c4 := Lib.cell_of_heap g1 4; have c5 := Lib.cell_of_heap g1 5; simp only [List.getElem?_toArray, List.getElem?_cons_zero, List.getElem?_cons_succ] at b4 c0 c1 c2 c3 c4 c5; clear R1 g2 g1 f1 rest hown hgrow hnil hat hcs)
      | ((with_reducible apply step_store G2.out); rfl; rfl; kernel_rfl; rfl; kernel_rfl))
    refine ret_row1 (p := 2) (g := w.heap.size + 1) rfl rfl (setRow_heap _ _ _ _ _ _ G2.out) rfl ?_
    exact RR.out
end
end Go.Proofs.YtdfkkflpcamhjaaGreatDoor
