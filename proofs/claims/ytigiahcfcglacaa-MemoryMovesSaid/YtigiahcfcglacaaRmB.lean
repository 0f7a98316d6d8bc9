/-
  The given answer: which blocks live, which pointers are good, whether there are bytes at them.
-/
import Derived.Test.YtigiahcfcglacaaRmA
import Derived.Test.YtigiahcfcglacaaMmQ
namespace Go.Proofs.Ytigiahcfcglacaa
open Go.RowKit Go.Maps
set_option linter.unusedVariables false
set_option maxRecDepth 100000
theorem power_c (n : Int) (w : World) : Calls Try.prog 60 #[.int .i64 n] w fun e w' => e = .returned (.bool (isW n)) ∧ w' = w := by
  go_enter Try.func60, Try.ntmps60
  go_wp2
  all_goals go_ret
  all_goals refine ⟨bool_ret ?_, rfl⟩
  all_goals (rw [Bool.eq_iff_iff]; simp [isW]; try omega)
section
variable {w : World} {rb : Nat} {ys : List Ry} {R : Nat → Prop}
def livesB (ys : List Ry) (n : Int) : Bool := (look (stR ys) n).isSome
theorem look_st {ys : List Ry} {i : Nat} {y : Ry} (hy : ys[i]? = some y) : look (stR ys) ((i : Int) + 1) = y.bk := by
  unfold look stR
  rw [if_pos (by omega), show ((i : Int) + 1 - 1).toNat = i by omega, List.getElem?_map, hy]; rfl
set_option maxHeartbeats 1000000 in
theorem lives_c (h : RX w rb ys R) (n : Int) (n0 : -9223372036854775808 ≤ n) (n1 : n < 9223372036854775808) :
    Calls Try.prog 61 #[.pointer (some ⟨rb, 0, none⟩), .int .i64 n] w fun e w' => e = .returned (.bool (livesB ys n)) ∧ w' = w := by
  have hlen := h.len
  unfold livesB
  by_cases h1 : 1 ≤ n
  · have d1 : decide (1 ≤ n) = true := by simpa using h1
    by_cases h2 : n ≤ ys.length
    · have d2 : decide (n ≤ (ys.length : Int)) = true := by simpa using h2
      obtain ⟨i, rfl⟩ : ∃ i : Nat, n = (i : Int) + 1 := ⟨(n - 1).toNat, by omega⟩
      have hi : i < ys.length := by omega
      obtain ⟨y, hy⟩ : ∃ y, ys[i]? = some y := ⟨_, List.getElem?_eq_getElem hi⟩
      rw [look_st hy]
      obtain ⟨g, cap, c0, c1, _, _, hcap, e0, e1, e2⟩ := h.row hy
      have hi1 : ((i : Int) + 1 - 1) = (i : Int) := by omega
      have w1_ : IntKind.i64.wrap ((i : Int) + 1 - 1) = (i : Int) := by rw [IntKind.wrap_i64]; omega
      have n2 := not_t
      have n3 := not_f
      cases hb : y.bk with
      | none =>
        rw [hb] at e1
        simp only [Option.isNone_none] at e1
        clear h hy hb
        go_enter Try.func61, Try.ntmps61
        go_wp2
        go_ret
        exact ⟨rfl, rfl⟩
      | some k =>
        rw [hb] at e1
        simp only [Option.isNone_some] at e1
        clear h hy hb
        go_enter Try.func61, Try.ntmps61
        go_wp2
        go_ret
        exact ⟨rfl, rfl⟩
    · have d2 : decide (n ≤ (ys.length : Int)) = false := by simpa using h2
      have hl : look (stR ys) n = none := by
        unfold look; rw [if_pos h1, List.getElem?_eq_none (by simp [stR]; omega)]; rfl
      rw [hl]
      obtain ⟨q, cap, c0, c1⟩ := h.sl
      clear h hl
      go_enter Try.func61, Try.ntmps61
      go_wp2
      go_ret
      exact ⟨rfl, rfl⟩
  · have d1 : decide (1 ≤ n) = false := by simpa using h1
    have hl : look (stR ys) n = none := by unfold look; rw [if_neg h1]
    rw [hl]
    clear h hl
    go_enter Try.func61, Try.ntmps61
    go_wp2
    go_ret
    exact ⟨rfl, rfl⟩
end
end Go.Proofs.Ytigiahcfcglacaa
