/-
  The given answer's Equal at two rows that are zero.
-/
import Derived.Test.YthmcmnaooodcdaaDoorNobody2
import Derived.Deep.CutRange
import Derived.Deep.QuietTactic
import Derived.Lib.Builder
namespace Go.Proofs.YthmcmnaooodcdaaDoor
open Go.RowKit
set_option linter.unusedVariables false
set_option maxRecDepth 100000

abbrev zeroCells : Array Value := #[.int .i64 0, .int .i64 0, .int .i64 0, .string ⟨#[]⟩, .slice none 0 0, .bool false]
theorem heap_s1 (w : World) (A B : Obj) : ((w.alloc A).alloc B).heap[w.heap.size]? = some A := by
  show ((w.heap.push A).push B)[w.heap.size]? = some A
  simp [Array.getElem?_push]
theorem heap_s2 (w : World) (A B : Obj) : ((w.alloc A).alloc B).heap[w.heap.size + 1]? = some B := by
  show ((w.heap.push A).push B)[w.heap.size + 1]? = some B
  rw [Array.getElem?_push, if_pos (by simp)]

theorem equal_zero (w : World) :
    Calls Tryd.prog 36 #[zeroRow, zeroRow] w fun e w' => e = .returned (.bool true) ∧ Below w.heap.size w w' := by
  unfold zeroRow
  go_enter Tryd.func36, Tryd.ntmps36
  go_upto_region 1 with (fail)
  refine (?_ : Code.wp _ _ _ _ ((w.alloc (.cells zeroCells 47)).alloc (.cells zeroCells 47)))
  have HB : Hid (Below w.heap.size w ((w.alloc (.cells zeroCells 47)).alloc (.cells zeroCells 47))) := ((Below.refl _ w).alloc (Nat.le_refl _) _).alloc (by simp) _
  have e1 := heap_s1 w (.cells zeroCells 47) (.cells zeroCells 47)
  have e2 := heap_s2 w (.cells zeroCells 47) (.cells zeroCells 47)
  generalize (w.alloc (.cells zeroCells 47)).alloc (.cells zeroCells 47) = W at *
  have a0 : W.cell? ⟨w.heap.size, 0, none⟩ = some (.int .i64 0) := by rw [Lib.cell_of_heap e1]; rfl
  have a1 : W.cell? ⟨w.heap.size, 1, none⟩ = some (.int .i64 0) := by rw [Lib.cell_of_heap e1]; rfl
  have a2 : W.cell? ⟨w.heap.size, 2, none⟩ = some (.int .i64 0) := by rw [Lib.cell_of_heap e1]; rfl
  have a3 : W.cell? ⟨w.heap.size, 3, none⟩ = some (.string ⟨#[]⟩) := by rw [Lib.cell_of_heap e1]; rfl
  have a4 : W.cell? ⟨w.heap.size, 4, none⟩ = some (.slice none 0 0) := by rw [Lib.cell_of_heap e1]; rfl
  have a5 : W.cell? ⟨w.heap.size, 5, none⟩ = some (.bool false) := by rw [Lib.cell_of_heap e1]; rfl
  have b0 : W.cell? ⟨w.heap.size + 1, 0, none⟩ = some (.int .i64 0) := by rw [Lib.cell_of_heap e2]; rfl
  have b1 : W.cell? ⟨w.heap.size + 1, 1, none⟩ = some (.int .i64 0) := by rw [Lib.cell_of_heap e2]; rfl
  have b2 : W.cell? ⟨w.heap.size + 1, 2, none⟩ = some (.int .i64 0) := by rw [Lib.cell_of_heap e2]; rfl
  have b3 : W.cell? ⟨w.heap.size + 1, 3, none⟩ = some (.string ⟨#[]⟩) := by rw [Lib.cell_of_heap e2]; rfl
  have b4 : W.cell? ⟨w.heap.size + 1, 4, none⟩ = some (.slice none 0 0) := by rw [Lib.cell_of_heap e2]; rfl
  have b5 : W.cell? ⟨w.heap.size + 1, 5, none⟩ = some (.bool false) := by rw [Lib.cell_of_heap e2]; rfl
  clear e1 e2
  go_wp2
  refine wp_loop_rounds 1 ?_
  rw [rounds_succ]
  go_wp2
  go_ret
  exact ⟨rfl, HB.out⟩
end Go.Proofs.YthmcmnaooodcdaaDoor
