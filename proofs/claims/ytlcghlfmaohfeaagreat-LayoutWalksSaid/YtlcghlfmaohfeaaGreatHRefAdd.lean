/-
  The given answer's acts: add, Basic, Tagged.
-/
import Derived.Test.YtlcghlfmaohfeaaGreatHRefCopy
import Derived.Test.YtlcghlfmaohfeaaGreatHRefTag
import Derived.Test.YtlcghlfmaohfeaaGreatHGraph
namespace Go.Proofs.YtlcghlfmaohfeaaGreat
open Go.RowKit Go.Maps
set_option linter.unusedVariables false
set_option maxRecDepth 100000

section
variable {B : Nat} {w : World} {b : Nat} {v : Value} {rs : List (Rw × Value)}
theorem RTab.drew (h : RTab B w b v rs) : RTab B w.drew b v rs := h.keptB ⟨rfl, rfl, rfl, Nat.le_refl _, fun _ _ => rfl⟩
theorem RTab.drewN (h : RTab B w b v rs) (q : Nat) : RTab B (w.drewN q) b v rs := h.keptB ⟨rfl, rfl, rfl, Nat.le_refl _, fun _ _ => rfl⟩
theorem RTab.sl (h : RTab B w b v rs) : ∃ (p : Option Addr) (cap : Nat), v = .slice p rs.length cap := slice_of_own h.rows

end
end Go.Proofs.YtlcghlfmaohfeaaGreat
