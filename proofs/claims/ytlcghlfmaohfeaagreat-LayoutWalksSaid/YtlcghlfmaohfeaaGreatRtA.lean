/-
  The given answer's rows of what is known of all types; its 'up'.
-/
import Derived.Test.YtlcghlfmaohfeaaGreatHLyNo
import Derived.Test.YtlcghlfmaohfeaaGreatHRowOpen
namespace Go.Proofs.YtlcghlfmaohfeaaGreat
open Go.RowKit Go.Maps
set_option linter.unusedVariables false
set_option maxRecDepth 100000
abbrev TLy : TypeId := 82
/-- What the given answer knows of a type. -/
structure Ly where
  size : Int
  align : Int
  L : Value
  pl : List Pl
  fine : Bool
def lyC (y : Ly) : List Value := [.int .i64 y.size, .int .i64 y.align, y.L, .bool y.fine]
def lysC (l : List Ly) : List Value := l.flatMap lyC
theorem lysC_length (l : List Ly) : (lysC l).length = l.length * 4 := by
  induction l with
  | nil => rfl
  | cons a l ih =>
    show (lyC a ++ lysC l).length = _
    rw [List.length_append, ih]
    simp only [lyC, List.length_cons, List.length_nil]
    omega
theorem lysC_at : ∀ (l : List Ly) (i : Nat) (y : Ly), l[i]? = some y → ∀ k, k < 4 → (lysC l)[i * 4 + k]? = (lyC y)[k]?
  | [], i, h, hh, _, _ => by simp at hh
  | a :: l, 0, h, hh, k, hk => by
    simp only [List.getElem?_cons_zero, Option.some.injEq] at hh
    subst hh
    simp only [lysC, List.flatMap_cons, Nat.zero_mul, Nat.zero_add]
    rw [List.getElem?_append_left (by simpa [lyC] using hk)]
  | a :: l, i + 1, h, hh, k, hk => by
    simp only [List.getElem?_cons_succ] at hh
    have := lysC_at l i h hh k hk
    simp only [lysC, List.flatMap_cons]
    rw [List.getElem?_append_right (by simp [lyC]; omega), show (i + 1) * 4 + k - (lyC a).length = i * 4 + k by simp [lyC]; omega]
    exact this
/-- The row of all types, in block g; the places of each are rows from base on. -/
structure LyR (base : Nat) (w : World) (g : Nat) (ys : List Ly) : Prop where
  row : ∃ cs : Array Value, w.heap[g]? = some (.cells cs TLy (0, 0)) ∧ cs.toList = lysC ys
  own : ∀ y ∈ ys, w.ownsRow base TPl 5 y.L y.pl.length (plCells y.pl)
theorem LyR.lt {base : Nat} {w : World} {g : Nat} {ys : List Ly} (h : LyR base w g ys) : g < w.heap.size := by
  obtain ⟨cs, h1, _⟩ := h.row; exact lt_of_heap h1
theorem LyR.below {base : Nat} {w w' : World} {g : Nat} {ys : List Ly} (h : LyR base w g ys) (hb : Below w.heap.size w w') : LyR base w' g ys := by
  obtain ⟨cs, h1, h2⟩ := h.row
  exact ⟨⟨cs, blk_b h1 hb, h2⟩, fun y hy => ownsRow_turned (h.own y hy) (Turned.of_below hb (fun _ => False)) (fun _ _ h => h.elim)⟩
theorem LyR.cell {base : Nat} {w : World} {g : Nat} {ys : List Ly} (h : LyR base w g ys) {t : Nat} {y : Ly} (hy : ys[t]? = some y) {k : Nat} (hk : k < 4) : w.cell? ⟨g, t * 4 + k, none⟩ = (lyC y)[k]? := by
  obtain ⟨cs, h1, h2⟩ := h.row
  rw [Lib.cell_of_heap h1, ← Array.getElem?_toList, h2]
  exact lysC_at ys t y hy k hk
set_option maxHeartbeats 1000000 in
theorem rup_c (n o : Int) (h0 : 0 ≤ n) (h1 : n ≤ 100000000) (o0 : 1 ≤ o) (o1 : o ≤ 1000000) (w : World) :
    Calls Tryz.prog 117 #[.int .i64 n, .int .i64 o] w fun e w' => e = .returned (.int .i64 (rup n o)) ∧ w' = w := by
  have hb := rup_bd n o h0 o0
  have hw1 : IntKind.i64.wrap (n + o) = n + o := wrap_id (by omega) (by omega)
  have hw2 : IntKind.i64.wrap (n + o - 1) = n + o - 1 := wrap_id (by omega) (by omega)
  have hd : (n + o - 1).tdiv o = (n + o - 1) / o := Int.tdiv_eq_ediv_of_nonneg (by omega)
  have hq0 : 0 ≤ (n + o - 1) / o := Int.ediv_nonneg (by omega) (by omega)
  have hw3 : IntKind.i64.wrap ((n + o - 1) / o) = (n + o - 1) / o := wrap_id hq0 (Int.le_trans (Int.ediv_le_self _ (by omega)) (by omega))
  have hw4 : IntKind.i64.wrap ((n + o - 1) / o * o) = (n + o - 1) / o * o := by
    have e : rup n o = (n + o - 1) / o * o := rfl
    rw [← e]
    exact wrap_id (by omega) (by omega)
  have ho : o ≠ 0 := by omega
  have HE : Hid (rup n o = (n + o - 1) / o * o) := rfl
  clear hb
  rw [HE.out]
  go_enter Tryz.func117, Tryz.ntmps117
  go_wp2
  go_ret
  exact ⟨rfl, rfl⟩
end Go.Proofs.YtlcghlfmaohfeaaGreat
