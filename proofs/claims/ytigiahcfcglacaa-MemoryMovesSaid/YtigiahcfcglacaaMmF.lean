/-
  A new memory, a new block, good pointers, room at them; a block made, a block ended.
-/
import Derived.Test.YtigiahcfcglacaaMmE
import Derived.Deep.RegionWith
namespace Go.Proofs.Ytigiahcfcglacaa
open Go.RowKit Go.Maps
set_option linter.unusedVariables false
set_option maxRecDepth 100000

theorem new_c (w : World) : Calls Try.prog 16 #[] w fun e w' => ∃ b P, e = .returned (.pointer (some ⟨b, 0, none⟩)) ∧ MemX w' b [] P ∧ (∀ k, P k → w.heap.size ≤ k) ∧ Below w.heap.size w w' := by
  have hmm := @run_makeMap Try.prog
  have hbt : ∀ (m : Value) (W : World), (Instr.build TMm #[(1, .map (some w.heap.size))]).run Try.prog W = .ok (.agg #[.pointer none, .map (some w.heap.size), .int .i64 0]) W := fun k W => by kernel_rfl
  have hbt := hbt (.bool true)
  go_enter Try.func16, Try.ntmps16
  go_wp2
  go_ret
  have hb := heap_r0 (w.alloc (.map #[] 0)) (.cells #[.pointer (some ⟨w.heap.size + 1, 0, none⟩), .map (some w.heap.size), .int .i64 0] TMm)
  rw [show (w.alloc (.map #[] 0)).heap.size = w.heap.size + 1 by simp] at hb
  refine ⟨_, fun k => k = w.heap.size ∨ k = w.heap.size + 1, rfl, ⟨⟨w.heap.size, #[], 0, hb, ?_, Or.inl rfl, ⟨by simp, by simp, by simp, rfl⟩⟩, ⟨fun _ => (0, 0), fun i x hx => by simp at hx⟩, Or.inr rfl, ?_, by simp⟩, ?_, ?_⟩
  · have := Below.heap_alloc (w.alloc (.map #[] 0)) (.cells #[.pointer (some ⟨w.heap.size + 1, 0, none⟩), .map (some w.heap.size), .int .i64 0] TMm) w.heap.size (by simp)
    rw [this]; exact heap_r0 w _
  · rintro k (rfl | rfl) <;> simp <;> omega
  · rintro k (rfl | rfl) <;> omega
  · exact ((Below.refl _ w).alloc (Nat.le_refl _) _).alloc (by simp) _
set_option maxHeartbeats 1000000 in
theorem newBlock_c (n : Nat) (al : Int) (w : World) (h1 : 1 ≤ n) (h2 : n ≤ 16384) (hal : al = 1 ∨ al = 2 ∨ al = 4) : Calls Try.prog 59 #[.int .i64 n, .int .i64 al] w fun e w' => ∃ x : Bx, e = .returned (.pointer (some ⟨x.bb, 0, none⟩)) ∧ BlkAt w' x ∧ x.bk = ⟨n, al, fun _ => clZ⟩ ∧ w.heap.size ≤ x.bb ∧ w.heap.size ≤ x.pb ∧ (∀ j, x.pg j = none) ∧ Below w.heap.size w w' := by
  have hn : ((n : Int) + 128 - 1) / 128 = (np n : Int) := by unfold np; omega
  have hnx := np_max h2
  have mk := fun Y => make_pages (np n) (by omega) Y
  have hbt : ∀ (c : Nat) (W : World), (Instr.build TB #[(0, .int .i64 (n : Int)), (1, .int .i64 al), (2, .slice (some ⟨w.heap.size, 0, none⟩) c c)]).run Try.prog W = .ok (.agg #[.int .i64 (n : Int), .int .i64 al, .slice (some ⟨w.heap.size, 0, none⟩) c c]) W := fun k W => by kernel_rfl
  have hd : ∀ j, j < np n → (zeroP (np n))[j]? = some (.slice none 0 0) := zeroP_at (np n)
  have hs : (zeroP (np n)).size = np n := by simp [zeroP, size_madeCells]
  generalize hz : zeroP (np n) = Z at *
  have HD : Hid (∀ j, j < np n → Z[j]? = some (.slice none 0 0)) := hd
  have HS : Hid (Z.size = np n) := hs
  clear hz hd hs
  go_enter Try.func59, Try.ntmps59
  go_wp2
  go_ret
  have e1 : ((w.alloc (.cells Z TP)).alloc (.cells #[.int .i64 (n : Int), .int .i64 al, .slice (some ⟨w.heap.size, 0, none⟩) (np n) (np n)] TB)).heap[w.heap.size + 1]? = some (.cells #[.int .i64 (n : Int), .int .i64 al, .slice (some ⟨w.heap.size, 0, none⟩) (np n) (np n)] TB (0, 0)) := by
    have := heap_r0 (w.alloc (.cells Z TP)) (.cells #[.int .i64 (n : Int), .int .i64 al, .slice (some ⟨w.heap.size, 0, none⟩) (np n) (np n)] TB)
    simpa using this
  have e2 : ((w.alloc (.cells Z TP)).alloc (.cells #[.int .i64 (n : Int), .int .i64 al, .slice (some ⟨w.heap.size, 0, none⟩) (np n) (np n)] TB)).heap[w.heap.size]? = some (.cells Z TP (0, 0)) := by
    have := Below.heap_alloc (w.alloc (.cells Z TP)) (.cells #[.int .i64 (n : Int), .int .i64 al, .slice (some ⟨w.heap.size, 0, none⟩) (np n) (np n)] TB) w.heap.size (by simp)
    rw [this]; exact heap_r0 w _
  refine ⟨⟨⟨n, al, fun _ => clZ⟩, w.heap.size + 1, w.heap.size, fun _ => none⟩, rfl, ⟨h1, h2, hal, e1, ⟨Z, e2, HS.out, HD.out⟩, fun _ _ _ _ _ => rfl, fun _ _ _ h => by cases h⟩, rfl, by simp, by simp, fun _ => rfl, ?_⟩
  exact ((Below.refl _ w).alloc (Nat.le_refl _) _).alloc (by simp) _
end Go.Proofs.Ytigiahcfcglacaa
