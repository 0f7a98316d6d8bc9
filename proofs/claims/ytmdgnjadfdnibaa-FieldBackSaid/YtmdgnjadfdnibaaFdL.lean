/-
  What the program's functions lies and Touched of package field answer at every place and kind; they change nothing that was there.
-/
import Derived.Test.YtmdgnjadfdnibaaFdK
namespace Go.Proofs.Ytmdgnjadfdnibaa
open Go.RowKit
set_option linter.unusedVariables false
theorem below_drewN {B : Nat} {a w : World} (h : Below B a w) (n : Nat) : Below B a (w.drewN n) := ⟨h.os, h.tape, h.output, h.size, h.block⟩
theorem three_i {a b c a' b' : Int} (h1 : a = a') (h2 : b = b') : Ending.returned (.tuple #[.int .i64 a, .int .i64 b, .int .i64 c]) = .returned (.tuple #[.int .i64 a', .int .i64 b', .int .i64 c]) := by rw [h1, h2]
/-- A place of a field, by its five numbers. -/
abbrev placeV (m t o b n : Int) : Value := .agg #[.int .i64 m, .int .i64 t, .int .i64 o, .int .i64 b, .int .i64 n]
abbrev placeCells (m t o b n : Int) : Array Value := #[.int .i64 m, .int .i64 t, .int .i64 o, .int .i64 b, .int .i64 n]
theorem boxed_below {w w1 : World} {c : Array Value} {t : TypeId} (h : Below (w.alloc (.cells c t)).heap.size (w.alloc (.cells c t)) w1) : Hid (Below w.heap.size w w1) :=
  ((Below.refl w.heap.size w).alloc (Nat.le_refl _) _).trans (h.mono (by simp))
theorem boxed_cell {w w1 : World} {c : Array Value} {t : TypeId} (h : Below (w.alloc (.cells c t)).heap.size (w.alloc (.cells c t)) w1) (i : Nat) : w1.cell? ⟨w.heap.size, i, none⟩ = c[i]? :=
  (h.cell (p := ⟨w.heap.size, i, none⟩) (by simp)).trans (World.cell?_alloc_at _ _ _ _ rfl)
/-- It may be a field's of that kind. -/
def Lies (o b n k : Int) : Prop := 0 ≤ o ∧ FOK b n (roomOf k)
set_option maxHeartbeats 2000000 in
theorem lies_yes (m t o b n k : Int) (w : World) (h : Lies o b n k) :
    Calls Try.prog 42 #[placeV m t o b n, .int .i64 k] w fun e w' => e = .returned (.bool true) ∧ Below w.heap.size w w' := by
  obtain ⟨h0, h⟩ := h
  have c1 := fun W => kindBits_c k W
  have c2 := fun W => fits_yes b n (roomOf k) W (room_bd k).1 (room_bd k).2 h
  clear h
  generalize roomOf k = r at *
  go_enter Try.func42, Try.ntmps42
  go_wp2
  go_quiet (first | (go_at_call 43; refine Calls.quiet_of_same (c1 _)) | (go_at_call 24; refine Calls.quiet_of_same (c2 _)))
  go_wp2
  go_ret
  exact ⟨rfl, below_drewN ((Below.refl _ _).alloc (Nat.le_refl _) _) _⟩
set_option maxHeartbeats 2000000 in
theorem lies_no (m t o b n k : Int) (w : World) (b1 : b < 9223372036854775808) (h : ¬ Lies o b n k) :
    Calls Try.prog 42 #[placeV m t o b n, .int .i64 k] w fun e w' => e = .returned (.bool false) ∧ Below w.heap.size w w' := by
  unfold Lies at h
  by_cases h0 : 0 ≤ o
  · have c1 := fun W => kindBits_c k W
    have c2 := fun W => fits_no b n (roomOf k) W b1 (room_bd k).1 (room_bd k).2 (fun g => h ⟨h0, g⟩)
    clear h
    generalize roomOf k = r at *
    go_enter Try.func42, Try.ntmps42
    go_wp2
    go_quiet (first | (go_at_call 43; refine Calls.quiet_of_same (c1 _)) | (go_at_call 24; refine Calls.quiet_of_same (c2 _)))
    go_wp2
    go_ret
    exact ⟨rfl, below_drewN ((Below.refl _ _).alloc (Nat.le_refl _) _) _⟩
  · clear h
    have h1 : decide (0 ≤ o) = false := by simpa using h0
    go_enter Try.func42, Try.ntmps42
    go_wp2
    go_quiet (fail)
    go_wp2
    go_ret
    exact ⟨rfl, below_drewN ((Below.refl _ _).alloc (Nat.le_refl _) _) _⟩
set_option maxHeartbeats 2000000 in
theorem Touched_yes (m t k : Int) (o b n : Nat) (w : World) (h : Lies o b n k) (ho : o ≤ 140737488351232) :
    Calls Try.prog 22 #[placeV m t o b n, .int .i64 k] w fun e w' => e = .returned (.tuple #[.int .i64 ((o + b / 8 : Nat) : Int), .int .i64 (((b + n - 1) / 8 - b / 8 + 1 : Nat) : Int), .int .i64 0]) ∧ Below w.heap.size w w' := by
  have c1 := fun W => lies_yes m t o b n k W h
  obtain ⟨h0, h⟩ := h
  have hr := room_bd k
  obtain ⟨h1, h2, h3⟩ := h
  have hb : (b : Int) + n ≤ 32 := by omega
  have hn : (1 : Int) ≤ n := h2
  clear h0 h1 h2 h3 hr
  go_enter Try.func22, Try.ntmps22
  go_wp2_with fail
  refine (c1 _).mono ?_; rintro e w1 ⟨rfl, hb1⟩
  clear c1
  have HB := boxed_below hb1
  have q2 : w1.cell? ⟨w.heap.size, 2, none⟩ = some (.int .i64 o) := boxed_cell hb1 2
  have q3 : w1.cell? ⟨w.heap.size, 3, none⟩ = some (.int .i64 b) := boxed_cell hb1 3
  have q4 : w1.cell? ⟨w.heap.size, 4, none⟩ = some (.int .i64 n) := boxed_cell hb1 4
  clear hb1
  go_wp2
  go_quiet (fail)
  go_wp2
  go_ret3
  exact ⟨three_i (by omega) (by omega), below_drewN HB.out _⟩
end Go.Proofs.Ytmdgnjadfdnibaa
