/-
  What package token's begin and onward answer: the spot of a byte, from the spot of an earlier one on.
-/
import Derived.Test.YtjbmpdcgmphhoaaGreatDoorRead
import Derived.Deep.RegionWith
import Derived.Deep.RegionHeld3
namespace Go.Proofs.YtjbmpdcgmphhoaaGreatDoor
open Go.RowKit
set_option linter.unusedVariables false

def spotV (line col off : Int) : Value := .agg #[.int .i64 line, .int .i64 col, .int .i64 off]
def onLine (line : Int) (p : ByteArray) : Int := line + (Lib.countByte p.data.toList 10 : Nat)
def onCol (col : Int) (p : ByteArray) : Int := if 0 ≤ Lib.lastIndexByte p 10 then (p.size : Int) - Lib.lastIndexByte p 10 else col + p.size

theorem heap_mid (w : World) (A R C : Obj) : (((w.alloc A).alloc R).alloc C).heap[w.heap.size + 1]? = some R := by
  show (((w.heap.push A).push R).push C)[w.heap.size + 1]? = some R
  rw [Array.getElem?_push, if_neg (by simp), Array.getElem?_push, if_pos (by simp)]

theorem ret_spot {fn : Func} {R : Ending → World → Prop} {tmps : Array Value} {w : World} {q g : Nat} {cs : Array Value}
    (hres : fn.results = #[.cell q 25]) (hp : tmps.getD q undef = .pointer (some ⟨g, 0, none⟩)) (hg : w.heap[g]? = some (.cells cs 25 (0, 0))) (hcs : cs.size = 3)
    (hR : R (.returned (.agg cs)) w) : bodyPost Tryz.prog fn R .ret ⟨tmps, []⟩ w := by
  refine bodyPost_ret ?_ rfl hR
  exact results_cell_row hres tmps w g 25 cs (0, 0) _ hp hg Tryz.underlying25 rfl (by rw [hcs]; kernel_rfl)

set_option maxRecDepth 100000 in
set_option maxHeartbeats 800000 in
theorem onward_c (s : ByteArray) (line col : Int) (a b : Nat) (w : World) (hab : a ≤ b) (hb : b ≤ s.size) (hs : s.size ≤ 9223372036854775807)
    (hl0 : 0 ≤ line) (hl1 : line ≤ 4611686018427387904) (hc0 : 0 ≤ col) (hc1 : col ≤ 4611686018427387904) (hs2 : s.size ≤ 1000000000000000000) :
    Calls Tryz.prog 16 #[.string s, spotV line col a, .int .i64 b] w fun e w' => e = .returned (spotV (onLine line (s.extract a b)) (onCol col (s.extract a b)) b) ∧ Below w.heap.size w w' := by
  have hsl : ∀ W : World, (Instr.slice 9 (.string s) (some (.int .i64 (a : Int))) (some (.int .i64 (b : Int))) none).run Tryz.prog W = .ok (.string (s.extract a b)) W := fun W => by
    have h := run_slice_string (P := Tryz.prog) W 9 s .i64 .i64 a b Tryz.underlying9 (by omega) (by omega) (by omega)
    simpa using h
  obtain ⟨p, hp⟩ : ∃ p, p = s.extract a b := ⟨_, rfl⟩
  rw [← hp] at hsl ⊢
  have hps : p.size ≤ s.size := by rw [hp]; simp; omega
  clear hp
  have cC := fun W => Tryz.strings_Count_one p 10 W
  have cL := fun W => Tryz.strings_LastIndexByte p 10 (by omega) W
  have hcnt : Lib.countByte p.data.toList 10 ≤ p.size := by have := List.count_le_length (a := (10 : UInt8)) (l := p.data.toList); simpa [Lib.countByte] using this
  unfold onLine onCol spotV
  generalize Lib.countByte p.data.toList 10 = n at *
  have hI : -1 ≤ Lib.lastIndexByte p 10 ∧ Lib.lastIndexByte p 10 < p.size := by
    rcases Lib.lastIdx_spec p 10 p.size with ⟨h, _⟩ | ⟨i, h1, h2, _⟩
    · unfold Lib.lastIndexByte; rw [h]; omega
    · unfold Lib.lastIndexByte; rw [h2]; omega
  generalize Lib.lastIndexByte p 10 = I at *
  obtain ⟨hI0, hI1⟩ := hI
  go_enter Tryz.func16, Tryz.ntmps16
  go_wp2
  go_region_held3 (fun w' => w'.cell? ⟨w.heap.size, 0, none⟩ = some (.int .i64 line) ∧ w'.cell? ⟨w.heap.size, 1, none⟩ = some (.int .i64 col)) (go_keep) (first | (go_at_call 35; refine (cC _).mono ?_; rintro e w' ⟨rfl, rfl⟩))
  all_goals go_wp2_with (go_at_call 36; refine (cL _).mono ?_; rintro e w' ⟨rfl, rfl⟩)
  all_goals refine ret_spot (q := 6) ?_ ?_ (heap_mid w _ _ _) ?_ ?_
  all_goals first | rfl | (exact ⟨rfl, ((((Below.refl _ w).alloc (Nat.le_refl _) _).alloc (by simp) _).alloc (by simp; omega) _).drew⟩)

set_option maxRecDepth 100000 in
theorem begin_c (w : World) : Calls Tryz.prog 14 #[] w fun e w' => e = .returned (spotV 1 1 0) ∧ Below w.heap.size w w' := by
  unfold spotV
  go_enter Tryz.func14, Tryz.ntmps14
  go_wp2
  refine ret_spot (q := 0) ?_ ?_ (heap_in0 w _) ?_ ?_
  all_goals first | rfl | (exact ⟨rfl, (Below.refl _ w).alloc (Nat.le_refl _) _⟩)
end Go.Proofs.YtjbmpdcgmphhoaaGreatDoor
