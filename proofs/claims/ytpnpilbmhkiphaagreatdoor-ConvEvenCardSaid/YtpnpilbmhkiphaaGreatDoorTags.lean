/-
  What package ctype's functions on texts answer: isDigit, isLetter, isName, isNumbered, Tag.
-/
import Derived.Test.YtpnpilbmhkiphaaGreatDoorChecked
import Derived.Deep.QuietTactic
import Derived.BigQuiet
import Derived.LoopN
import Derived.Below
import Derived.Shelf.Abstract
namespace Go.Proofs.YtpnpilbmhkiphaaGreatDoor
open Go.RowKit
set_option linter.unusedVariables false

def tDigit (n : Nat) : Bool := decide (48 ≤ n) && decide (n ≤ 57)
def tLetter (n : Nat) : Bool := (decide (97 ≤ n) && decide (n ≤ 122)) || (decide (65 ≤ n) && decide (n ≤ 90)) || n == 95

theorem bool_ret {x y : Bool} (h : x = y) : Ending.returned (.bool x) = .returned (.bool y) := by rw [h]

theorem tDigit_c (n : Nat) (w : World) (h : n < 256) :
    Calls Tryz.prog 134 #[.int .u8 n] w fun e w' => e = .returned (.bool (tDigit n)) ∧ w' = w := by
  go_enter Tryz.func134, Tryz.ntmps134
  go_wp2
  all_goals go_ret
  all_goals refine ⟨bool_ret ?_, rfl⟩
  all_goals (rw [Bool.eq_iff_iff]; simp [tDigit]; omega)

theorem tLetter_c (n : Nat) (w : World) (h : n < 256) :
    Calls Tryz.prog 135 #[.int .u8 n] w fun e w' => e = .returned (.bool (tLetter n)) ∧ w' = w := by
  go_enter Tryz.func135, Tryz.ntmps135
  go_wp2
  all_goals go_ret
  all_goals refine ⟨bool_ret ?_, rfl⟩
  all_goals (rw [Bool.eq_iff_iff]; simp [tLetter]; omega)
end Go.Proofs.YtpnpilbmhkiphaaGreatDoor
