/-
  Rows copied: memory of their own.
-/
import Derived.Test.YtpnpilbmhkiphaaDoorCopyRow
import Derived.Deep.MidRow
import Derived.Laws.OwnMore
namespace Go.Proofs.YtpnpilbmhkiphaaDoor
open Go.RowKit Go.Maps
set_option linter.unusedVariables false
set_option maxRecDepth 100000

theorem Turned.setCells (g : Nat) : ∀ (vs : List Value) (o : Nat) (w : World) {S : Nat → Prop}, S g → Turned w (w.setCells g o vs) S
  | [], o, w, S, hS => Turned.refl w S
  | v :: r, o, w, S, hS => (Turned.setCell w g o v hS).trans (Turned.setCells g r (o + 1) _ hS) (fun _ _ x => x)
/-- A block some of whose cells are set. -/
theorem heap_setCells (g : Nat) : ∀ (vs : List Value) (o : Nat) (w : World) (cur : Array Value) (t : TypeId) (fr : Nat × Nat), w.heap[g]? = some (.cells cur t fr) → o + vs.length ≤ cur.size →
    ∃ cur', (w.setCells g o vs).heap[g]? = some (.cells cur' t fr) ∧ cur'.toList = cur.toList.take o ++ vs ++ cur.toList.drop (o + vs.length)
  | [], o, w, cur, t, fr, h, _ => ⟨cur, h, by simp⟩
  | v :: r, o, w, cur, t, fr, h, hl => by
    simp only [List.length_cons] at hl
    obtain ⟨cur', h1, h2⟩ := heap_setCells g r (o + 1) (w.setCell ⟨g, o, none⟩ v) _ t fr (heap_setCell h v) (by simp; omega)
    refine ⟨cur', h1, ?_⟩
    rw [h2]
    simp only [Array.toList_setIfInBounds, List.length_cons]
    have hlt : o < cur.toList.length := by simp; omega
    have e1 : (cur.toList.set o v).take (o + 1) = cur.toList.take o ++ [v] := by
      have hle : o ≤ cur.size := by omega
      rw [List.set_eq_take_append_cons_drop, if_pos hlt, List.take_append]
      simp [List.take_take, Nat.min_eq_left hle]
    have e2 : (cur.toList.set o v).drop (o + 1 + r.length) = cur.toList.drop (o + (r.length + 1)) := by
      rw [List.drop_set, if_pos (by omega)]
      congr 1; omega
    rw [e1, e2]; simp
theorem setCells_size (g : Nat) : ∀ (vs : List Value) (o : Nat) (w : World), (w.setCells g o vs).heap.size = w.heap.size
  | [], o, w => rfl
  | v :: r, o, w => (setCells_size g r (o + 1) _).trans (by simp)
theorem there_of {w : World} {g o n : Nat} {cur : Array Value} {t : TypeId} (h : w.heap[g]? = some (.cells cur t (0, 0))) (hn : o + n ≤ cur.size) : w.there g o n := by
  intro j hj
  refine ⟨?_, frozen_of h _⟩
  rw [Lib.cell_of_heap h, Array.getElem?_eq_getElem (by omega)]; rfl

theorem step_store_mid {P : Program} {t ty : TypeId} {p x : Operand} {pos : String} {af : Array Edge} {ops : Array Oper} {rest : List Oper} {tmps : Array Value} {w : World} {Q : Exit → Act → World → Prop} {g o n : Nat} {cells : Array Value}
    (ht : w.there g o n) (hp : Act.eval ⟨tmps, []⟩ p = .pointer (some ⟨g, o, none⟩)) (hx : Act.eval ⟨tmps, []⟩ x = .agg cells) (hn : cells.size = n) (hi : (P.info? t).map (·.size) = some cells.size)
    (h1 : cells.all (·.oneCell') = true) (k : wpList P ops Q rest ⟨tmps, []⟩ (w.setCells g o cells.toList)) : wpList P ops Q ({ dst := none, op := Op.store t p x, type := ty, pos := pos, after := af, guard := none } :: rest) ⟨tmps, []⟩ w :=
  wpList_plain rfl fun K hK => wp_store_mid t p x rfl g o cells hp hx (hn ▸ ht) hi h1 (hK _ _ k)
theorem MemSl.sl {w : World} {v : Value} {l : List Mb} (h : MemSl w v l) : ∃ p n c, v = .slice p n c := by
  rcases h with ⟨rfl, _⟩ | ⟨g, o, cap, rfl, _⟩
  · exact ⟨_, _, _, rfl⟩
  · exact ⟨_, _, _, rfl⟩
section
variable {w : World}
structure Copied (w wr : World) (rs : List (Rw × Value)) (k : Nat) : Prop where
  below : Below w.heap.size w wr
  cells : ∃ cur ds, wr.heap[w.heap.size]? = some (.cells cur TR (0, 0)) ∧ cur.size = rs.length * 6 ∧ ds.map (·.1) = (rs.take k).map (·.1) ∧ cur.toList.take (k * 6) = allCells ds ∧
    ∀ p ∈ ds, wr.ownsRow (w.heap.size + 1) TM 3 p.2 p.1.mem.length (memCells p.1.mem)

theorem Copied.next {wr w2 : World} {rs : List (Rw × Value)} {k : Nat} (h : Copied w wr rs k) {p : Rw × Value} (hp : rs[k]? = some p) (hb : Below wr.heap.size wr w2) {s : Value} (hs : w2.ownsRow wr.heap.size TM 3 s p.1.mem.length (memCells p.1.mem)) :
    Copied w (w2.setCells w.heap.size (k * 6) (rwCells p.1 s)) rs (k + 1) := by
  obtain ⟨cur, ds, h1, h2, h3, h4, h5⟩ := h.cells
  have hlt : k < rs.length := (List.getElem?_eq_some_iff.1 hp).1
  have hw := lt_of_heap h1
  have q1 := (hb.block _ hw).trans h1
  obtain ⟨cur', r1, r2⟩ := heap_setCells w.heap.size (rwCells p.1 s) (k * 6) w2 cur TR (0, 0) q1 (by simp [rwCells]; omega)
  have T : Turned w2 (w2.setCells w.heap.size (k * 6) (rwCells p.1 s)) (fun j => j = w.heap.size) := Turned.setCells _ _ _ _ rfl
  refine ⟨?_, cur', ds ++ [(p.1, s)], r1, ?_, ?_, ?_, ?_⟩
  · have hb2 := h.below.trans (hb.mono h.below.size)
    exact ⟨T.os.trans hb2.os, T.tape.trans hb2.tape, T.output.trans hb2.output, Nat.le_trans hb2.size T.size, fun j hj => (T.block j (Nat.lt_of_lt_of_le hj hb2.size) (by omega)).trans (hb2.block j hj)⟩
  · have := congrArg List.length r2
    simp [rwCells] at this
    omega
  · rw [List.take_add_one, hp]; simp [h3]
  · have hlen : (cur.toList.take (k * 6)).length = k * 6 := by simp; omega
    rw [r2, List.take_append_of_le_length (by simp [rwCells]; omega), List.take_of_length_le (by simp [rwCells]; omega), h4]
    simp [allCells]
  · intro q hq
    rw [List.mem_append, List.mem_singleton] at hq
    rcases hq with hq | rfl
    · have o1 := ownsRow_turned (h5 q hq) (Turned.of_below hb (fun _ => False)) (fun _ _ hf => hf)
      exact ownsRow_turned o1 T (fun j hj e => by have := (ownsRow_at o1 hj).1; omega)
    · exact ownsRow_turned (ownsRow_base hs (by omega)) T (fun j hj e => by have := (ownsRow_at hs hj).1; omega)

end
end Go.Proofs.YtpnpilbmhkiphaaDoor
