/-
  What package token's Join answers of a slice that came in.
-/
import Derived.Test.YtjbmpdcgmphhoaaGreatDoorToks
import Derived.Test.YtjbmpdcgmphhoaaGreatDoorSameS
import Derived.Test.YtjbmpdcgmphhoaaGreatDoorTab
import Derived.Test.YtjbmpdcgmphhoaaGreatDoorLen
namespace Go.Proofs.YtjbmpdcgmphhoaaGreatDoor
open Go.RowKit
set_option linter.unusedVariables false

theorem joinText_len (M : Nat) : ∀ l : List Tk, joinable l = true → (∀ t ∈ l, t.text.length ≤ M) → (joinText l).length ≤ l.length * (4 * M + 101)
  | [], _, _ => by simp [joinText]
  | [t], h, hM => by
    have h1 := tkText_len t h
    have h2 := hM t List.mem_cons_self
    simp [joinText, List.intercalate]
    omega
  | t :: u :: r, h, hM => by
    have h' : tkCan t = true ∧ joinable (u :: r) = true := by
      simp only [joinable, Bool.and_eq_true] at h
      exact ⟨h.1.1, h.2⟩
    have h1 := tkText_len t h'.1
    have h2 := hM t List.mem_cons_self
    have ih := joinText_len M (u :: r) h'.2 (fun x hx => hM x (List.mem_cons_of_mem _ hx))
    have e : (joinText (t :: u :: r)).length = (tkText t).length + 1 + (joinText (u :: r)).length := by
      simp [joinText, List.intercalate]; omega
    rw [e]
    simp only [List.length_cons] at ih ⊢
    have : (r.length + 1 + 1) * (4 * M + 101) = (r.length + 1) * (4 * M + 101) + (4 * M + 101) := by rw [Nat.add_mul, Nat.one_mul]
    omega

theorem ended_len (l : List Tk) : (ended l).length ≤ l.length + 1 := by
  unfold ended; split
  · split <;> simp
  · simp

set_option maxRecDepth 100000 in
theorem join_zero (a : Option Addr) (cap : Nat) (w : World) :
    Calls Tryz.prog 11 #[.slice a 0 cap] w fun e w' => e = .returned (.tuple #[.string ⟨#[]⟩, .int .i64 0]) ∧ Below w.heap.size w w' := by
  obtain ⟨i0, hi, hz0, hz1, hz2⟩ := info_parts info_str
  have hmk := run_make (P := Tryz.prog) w 61 9 i0 (.string ⟨#[]⟩) Tryz.underlying61 hi hz0 .i64 .i64 0 0 (by omega) (Int.le_refl _) (by rw [hz2]; omega) (by omega)
  rw [hz1] at hmk
  have cJ := fun W b c => Tryz.strings_Join_none b c ⟨#[32]⟩ W
  have HB : Hid (Below w.heap.size w (w.alloc (.cells (madeCells (Value.string ⟨#[]⟩).cells 0) 9))) := (Below.refl _ w).alloc (Nat.le_refl _) _
  go_enter Tryz.func11, Tryz.ntmps11
  go_wp2
  go_loop [14] (fun i => i = .int .i64 0) (fun _ => 0)
  case atStart => rfl
  case round =>
    subst hrel
    go_wp2_with (go_at_call 29; refine (cJ _ _ _).mono ?_; rintro e w1 ⟨rfl, rfl⟩)
    go_ret2
    exact ⟨rfl, HB.out⟩

theorem mostOf_hi (l : List UInt8) : mostOf l ≤ 4294967295 := by
  unfold mostOf; split
  · omega
  split <;> omega

theorem join_in (va : Value) (xs : List RTok) (w : World) (h : TokIn w va xs) (hT : Tabs w) (hN : xs.length ≤ 1048576) (hs : ∀ x ∈ xs, x.s.size ≤ 1048576) :
    Calls Tryz.prog 11 #[va] w fun e w' => e = .returned (joinVal (xs.map RTok.tk)) ∧ Below w.heap.size w w' := by
  have h0 : xs = [] → joinVal (xs.map RTok.tk) = .tuple #[.string ⟨#[]⟩, .int .i64 0] := by rintro rfl; rfl
  rcases h with ⟨a, cap, rfl, rfl⟩ | ⟨g, o, cap, rfl, h2, h3, h4⟩
  · rw [h0 rfl]; exact join_zero a cap w
  · by_cases hx : xs = []
    · subst hx
      rw [h0 rfl]; exact join_zero _ cap w
    · have hpos : 0 < xs.length := List.length_pos_iff.2 hx
      refine join_o xs g o cap w h2 h3 (by omega) hpos h4 (fun x hx => by have := hs x hx; omega) (fun x _ _ W hW n0 n1 => itoa_at (hT.below hW) _ (by omega) (by have := mostOf_hi x.s.data.toList; omega)) (fun hj => ?_)
      have := joinText_len 1048576 (xs.map RTok.tk) hj (fun t ht => by
        obtain ⟨x, hx, rfl⟩ := List.mem_map.1 ht
        have := hs x hx
        simpa [RTok.tk] using this)
      rw [List.length_map] at this
      have h5 : xs.length * (4 * 1048576 + 101) ≤ 1048576 * (4 * 1048576 + 101) := Nat.mul_le_mul_right _ hN
      omega

theorem TokIn.shape {w : World} {v : Value} {xs : List RTok} (h : TokIn w v xs) : ∃ a cap, v = .slice a xs.length cap := by
  rcases h with ⟨a, cap, rfl, rfl⟩ | ⟨g, o, cap, h1, _⟩
  · exact ⟨a, cap, rfl⟩
  · exact ⟨_, _, h1⟩
end Go.Proofs.YtjbmpdcgmphhoaaGreatDoor
