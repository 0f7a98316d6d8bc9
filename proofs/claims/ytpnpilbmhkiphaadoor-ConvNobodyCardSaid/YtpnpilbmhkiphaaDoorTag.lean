/-
  What isName, isNumbered and Tag answer.
-/
import Derived.Test.YtpnpilbmhkiphaaDoorNobody2
namespace Go.Proofs.YtpnpilbmhkiphaaDoor
open Go.RowKit
set_option linter.unusedVariables false
set_option maxRecDepth 100000

def tChar (n : Nat) : Bool := tLetter n || tDigit n
def nameL (l : List UInt8) : Bool := l.all fun c => tChar c.toNat
def digL (l : List UInt8) : Bool := l.all fun c => tDigit c.toNat
/-- A tag without a sharp. -/
def nameP (l : List UInt8) : Bool := match l with | [] => false | c :: r => decide ((c :: r).length ≤ 63) && !tDigit c.toNat && nameL (c :: r)
def numbP (l : List UInt8) : Bool := decide (2 ≤ l.length) && decide (l.length ≤ 10) && (match l with | [] => false | c :: r => c.toNat == 35 && digL r)
def tagP (l : List UInt8) : Bool := nameP l || numbP l

theorem drop_get (s : ByteArray) (k : Nat) (h : k < s.size) : s.data.toList.drop k = s[k] :: s.data.toList.drop (k + 1) := by
  have hl : k < s.data.toList.length := by simpa using h
  rw [List.drop_eq_getElem_cons hl]; simp; rfl

end Go.Proofs.YtpnpilbmhkiphaaDoor
