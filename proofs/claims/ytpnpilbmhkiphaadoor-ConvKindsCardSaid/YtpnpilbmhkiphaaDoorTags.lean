/-
  What package ctype's functions on texts answer: isDigit, isLetter, isName, isNumbered, Tag.
-/
import Derived.Test.YtpnpilbmhkiphaaDoorChecked
import Derived.Deep.QuietTactic
import Derived.BigQuiet
import Derived.LoopN
import Derived.Below
import Derived.Shelf.Abstract
namespace Go.Proofs.YtpnpilbmhkiphaaDoor
open Go.RowKit
set_option linter.unusedVariables false

def tDigit (n : Nat) : Bool := decide (48 ≤ n) && decide (n ≤ 57)
def tLetter (n : Nat) : Bool := (decide (97 ≤ n) && decide (n ≤ 122)) || (decide (65 ≤ n) && decide (n ≤ 90)) || n == 95

theorem bool_ret {x y : Bool} (h : x = y) : Ending.returned (.bool x) = .returned (.bool y) := by rw [h]

end Go.Proofs.YtpnpilbmhkiphaaDoor
