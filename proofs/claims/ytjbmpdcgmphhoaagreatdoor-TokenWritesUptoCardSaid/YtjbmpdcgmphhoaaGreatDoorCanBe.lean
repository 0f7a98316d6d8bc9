/-
  What package token's canBe answers: can Scan give a token?
-/
import Derived.Test.YtjbmpdcgmphhoaaGreatDoorCanHave
namespace Go.Proofs.YtjbmpdcgmphhoaaGreatDoor
open Go.RowKit
set_option linter.unusedVariables false

def canBeP (k n : Int) (l : List UInt8) : Bool :=
  if k = 3 then decide (0 ≤ n) && decide (n ≤ mostOf l)
  else if k = 4 then l.isEmpty && decide (-128 ≤ n) && decide (n ≤ 127)
  else decide (n = 0) && canHaveP k l

set_option maxRecDepth 100000 in
set_option maxHeartbeats 1000000 in
theorem canBe_c (k n a b c : Int) (s : ByteArray) (w : World) (hs : s.size ≤ 9223372036854775807) :
    Calls Tryz.prog 24 #[.agg #[.int .i64 k, .string s, .int .i64 n, .int .i64 a, .int .i64 b, .int .i64 c]] w fun e w' => e = .returned (.bool (canBeP k n s.data.toList)) ∧ Below w.heap.size w w' := by
  have cM := fun W => most_c s W
  have cH := fun W => canHave_c k s W hs
  have hl2 : s.toList = s.data.toList := ByteArray.toList_eq s
  have HB : Hid (Below w.heap.size w (w.alloc (.cells #[.int .i64 k, .string s, .int .i64 n, .int .i64 a, .int .i64 b, .int .i64 c] 35))) := (Below.refl _ w).alloc (Nat.le_refl _) _
  by_cases h3 : k = 3
  · subst h3
    clear cH
    by_cases hn : 0 ≤ n
    · go_enter Tryz.func24, Tryz.ntmps24
      go_wp2
      go_quiet (first | (go_at_call 51; refine Calls.quiet_of_same (cM _)))
      go_wp2
      go_ret
      exact ⟨bool_ret (by simp [canBeP, hn]), below_drewN HB.out _⟩
    · have hn' : decide (0 ≤ n) = false := by simp [hn]
      go_enter Tryz.func24, Tryz.ntmps24
      go_wp2
      go_quiet (fail)
      go_wp2
      go_ret
      exact ⟨bool_ret (by simp only [canBeP, if_true, hn', Bool.false_and]), below_drewN HB.out _⟩
  by_cases h4 : k = 4
  · subst h4
    clear cH cM
    go_enter Tryz.func24, Tryz.ntmps24
    go_wp2
    all_goals go_ret
    all_goals refine ⟨bool_ret ?_, HB.out⟩
    all_goals (rw [Bool.eq_iff_iff]; simp_all [canBeP])
    all_goals try omega
  · clear cM
    by_cases hn : n = 0
    · subst hn
      go_enter Tryz.func24, Tryz.ntmps24
      go_wp2_with (go_at_call 52; refine (cH _).mono ?_; rintro e w' ⟨rfl, hb⟩)
      go_ret
      exact ⟨bool_ret (by simp [canBeP, h3, h4]), HB.out.trans (hb.mono (by simp))⟩
    · go_enter Tryz.func24, Tryz.ntmps24
      go_wp2
      go_ret
      exact ⟨bool_ret (by simp [canBeP, h3, h4, hn]), HB.out⟩
end Go.Proofs.YtjbmpdcgmphhoaaGreatDoor
