/-
  The given answer's Equal and Same, at rows that are the same.
-/
import Derived.Test.YtpnpilbmhkiphaaDoorIsnamed
import Derived.Deep.CutRange
import Derived.Deep.RegionWith
import Derived.Laws.StructEq
namespace Go.Proofs.YtpnpilbmhkiphaaDoor
open Go.RowKit Go.Maps
set_option linter.unusedVariables false
set_option maxRecDepth 100000

theorem heap_s1 (w : World) (A B : Obj) : ((w.alloc A).alloc B).heap[w.heap.size]? = some A := by
  show ((w.heap.push A).push B)[w.heap.size]? = some A
  simp [Array.getElem?_push]
theorem heap_s2 (w : World) (A B : Obj) : ((w.alloc A).alloc B).heap[w.heap.size + 1]? = some B := by
  show ((w.heap.push A).push B)[w.heap.size + 1]? = some B
  rw [Array.getElem?_push, if_pos (by simp)]

theorem neq_same (a : ByteArray) (t n : Int) (X : World) : (binOp BinOp.neq TM (.agg #[.string a, .int .i64 t, .int .i64 n]) (.agg #[.string a, .int .i64 t, .int .i64 n])).run Tryd.prog X = .ok (.bool false) X := by
  have u3 := Tryd.underlying3
  have a3 := Tryd.isAgg3
  have z3 := Tryd.sizeOf3
  have u9 := Tryd.underlying9
  have a9 := Tryd.isAgg9
  have z9 := Tryd.sizeOf9
  have hS : Tryd.prog.underlying TM = some (.struct (Tryd.prog.fieldsOf TM)) := by kernel_rfl
  have hp : Tryd.prog.stoodInHeld TM = false := by kernel_rfl
  rw [run_neq_struct, show (10000 : Nat) = 9999 + 1 from rfl, run_equalIn_agg X 9999 TM _ _ hS hp]
  simp only [Program.fieldsOf, Tryd.underlying129]
  go_simp
section
variable {w : World}
/-- A slice of rows, wherever it begins. -/
def RowSl (w : World) (v : Value) (rs : List (Rw × Value)) : Prop :=
  ((v = .slice none 0 0 ∧ rs = []) ∨ ∃ g o cap, v = .slice (some ⟨g, o, none⟩) rs.length cap ∧ rs.length ≤ cap ∧ g < w.heap.size ∧ ∀ i p, rs[i]? = some p → ∀ j, j < 6 → w.cell? ⟨g, o + i * 6 + j, none⟩ = (rwCells p.1 p.2)[j]?) ∧
  ∀ p ∈ rs, MemSl w p.2 p.1.mem
theorem RowSl.below {w w' : World} {v : Value} {rs : List (Rw × Value)} (h : RowSl w v rs) (hb : Below w.heap.size w w') : RowSl w' v rs := by
  refine ⟨?_, fun p hp => (h.2 p hp).below hb⟩
  rcases h.1 with h | ⟨g, o, cap, h1, h2, h3, h4⟩
  · exact Or.inl h
  · exact Or.inr ⟨g, o, cap, h1, h2, Nat.lt_of_lt_of_le h3 hb.size, fun i m hm j hj => by rw [hb.cell (p := ⟨g, o + i * 6 + j, none⟩) h3]; exact h4 i m hm j hj⟩
theorem MemSl.of_own {w : World} {B : Nat} {s : Value} {l : List Mb} (h : w.ownsRow B TM 3 s l.length (memCells l)) : MemSl w s l := by
  obtain ⟨h1, ⟨rfl, h0⟩ | ⟨g, cap, cur, rfl, hb, hg, hcap, _⟩⟩ := id h
  · exact Or.inl ⟨rfl, List.eq_nil_of_length_eq_zero h0⟩
  · refine Or.inr ⟨g, 0, cap, rfl, hcap, lt_of_heap hg, fun i m hm j hj => ?_⟩
    cases hu : (mbCells m)[j]? with
    | none => simp [mbCells] at hu; omega
    | some u =>
      have := h.cells (g := g) rfl (i * 3 + j) u (by rw [memCells_at l i m hm j hj]; exact hu)
      have e : ((⟨g, 0, none⟩ : Addr).add (i * 3 + j)) = ⟨g, 0 + i * 3 + j, none⟩ := by
        simp [Addr.add]; omega
      rw [e] at this; exact this
theorem RowSl.of_own {w : World} {B : Nat} {v : Value} {rs : List (Rw × Value)} (h : w.ownsRow B TR 6 v rs.length (allCells rs)) (hm : ∀ p ∈ rs, w.ownsRow B TM 3 p.2 p.1.mem.length (memCells p.1.mem)) : RowSl w v rs := by
  refine ⟨?_, fun p hp => MemSl.of_own (hm p hp)⟩
  obtain ⟨h1, ⟨rfl, h0⟩ | ⟨g, cap, cur, rfl, hb, hg, hcap, _⟩⟩ := id h
  · exact Or.inl ⟨rfl, List.eq_nil_of_length_eq_zero h0⟩
  · refine Or.inr ⟨g, 0, cap, rfl, hcap, lt_of_heap hg, fun i p hp j hj => ?_⟩
    cases hu : (rwCells p.1 p.2)[j]? with
    | none => simp [rwCells] at hu; omega
    | some u =>
      have := h.cells (g := g) rfl (i * 6 + j) u (by rw [allCells_at rs i p hp j hj]; exact hu)
      have e : ((⟨g, 0, none⟩ : Addr).add (i * 6 + j)) = ⟨g, 0 + i * 6 + j, none⟩ := by
        simp [Addr.add]; omega
      rw [e] at this; exact this

end
end Go.Proofs.YtpnpilbmhkiphaaDoor
