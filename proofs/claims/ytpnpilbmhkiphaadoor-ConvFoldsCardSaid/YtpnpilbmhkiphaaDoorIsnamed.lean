/-
  isNamed: may a member have its name?
-/
import Derived.Test.YtpnpilbmhkiphaaDoorKinds
import Derived.Test.YtpnpilbmhkiphaaDoorTag
import Derived.Deep.DeepMust
namespace Go.Proofs.YtpnpilbmhkiphaaDoor
open Go.RowKit Go.Maps
set_option linter.unusedVariables false
set_option maxRecDepth 100000

/-- A slice of members, wherever it begins. -/
def MemSl (w : World) (v : Value) (l : List Mb) : Prop :=
  (v = .slice none 0 0 ∧ l = []) ∨ ∃ g o cap, v = .slice (some ⟨g, o, none⟩) l.length cap ∧ l.length ≤ cap ∧ g < w.heap.size ∧ ∀ i m, l[i]? = some m → ∀ j, j < 3 → w.cell? ⟨g, o + i * 3 + j, none⟩ = (mbCells m)[j]?
theorem MemSl.below {w w' : World} {v : Value} {l : List Mb} (h : MemSl w v l) (hb : Below w.heap.size w w') : MemSl w' v l := by
  rcases h with h | ⟨g, o, cap, h1, h2, h3, h4⟩
  · exact Or.inl h
  · exact Or.inr ⟨g, o, cap, h1, h2, Nat.lt_of_lt_of_le h3 hb.size, fun i m hm j hj => by rw [hb.cell (p := ⟨g, o + i * 3 + j, none⟩) h3]; exact h4 i m hm j hj⟩

section
variable {w : World}
def anyNm (l : List Mb) (nm : ByteArray) : Bool := l.any fun m => m.name.toList == nm.toList

/-- May a member have its name behind the earlier ones? -/
def namedP (m : Mb) (l : List Mb) : Bool := if m.name.toList.isEmpty then decide (0 ≤ m.bits) else nameP m.name.data.toList && !anyNm l m.name && m.bits != 0

end
end Go.Proofs.YtpnpilbmhkiphaaDoor
