/-
  What the given answer's shaped answers.
-/
import Derived.Test.YtdfkkflpcamhjaaGreatDoorRefEqB
import Derived.Test.YtdfkkflpcamhjaaGreatDoorRefMemb
import Derived.Test.YtdfkkflpcamhjaaGreatDoorMCop
import Derived.Test.YtdfkkflpcamhjaaGreatDoorEnter
namespace Go.Proofs.YtdfkkflpcamhjaaGreatDoor
open Go.RowKit Go.Maps
set_option linter.unusedVariables false
set_option maxRecDepth 100000

def plainB (r : Rw) : Bool := decide (r.mem.length = 0) && !r.done
def shapedB (rs : List (Rw × Value)) (i : Nat) (r : Rw) : Bool :=
  if i < 11 then basicEq r ((i : Int) + 1)
  else if r.kind = 12 then r.elem == 0 && r.len == 0 && tagP r.tag.data.toList && plainB r
  else if r.kind = 15 ∨ r.kind = 16 then r.elem == 0 && r.len == 0 && tagP r.tag.data.toList && (plainB r || (r.done && rRefusP rs r.mem == 0))
  else if r.kind = 13 then decide (0 ≤ r.elem) && decide (r.elem < i) && r.len == 0 && r.tag.toList == [] && plainB r
  else if r.kind = 14 then decide (0 ≤ r.elem) && decide (r.elem < i) && lenK r.len && r.tag.toList == [] && plainB r && rWholeP rs r.elem
  else false

end Go.Proofs.YtdfkkflpcamhjaaGreatDoor
