/- The given answer's Next. -/
import Derived.Test.YtelaaaamnphbpaaGreatDoorKB
import Derived.Deep.DeepMust
namespace Go.Proofs.YtelaaaamnphbpaaGreatDoor
open Go.RowKit Go.Maps
set_option linter.unusedVariables false
set_option maxRecDepth 100000
def rawP (op n i : Int) : List Int := if op = 9 ∨ op = 14 then [] else if op = 10 then [n] else if op = 11 then [min (i + 1) n, max (i + 1) n] else [i + 1]
def keepB (L : List Int) (hi : Int) (k : Nat) : Bool := match L[k]? with | some a => withinP a 0 hi && (k == 0 || (match L[k - 1]? with | some b => a != b | none => false)) | none => false
def outF (L : List Int) (hi : Int) : Nat → List Int
 | 0 => []
 | k + 1 => outF L hi k ++ (if keepB L hi k then (L[k]?).toList else [])
def intsC (l : List Int) : List Value := l.map fun n => .int .i64 n
theorem IntSl.of_own {w : World} {B : Nat} {v : Value} {l : List Int} (h : w.ownsRow B 3 1 v l.length (intsC l)) : IntSl w v l := by
 by_cases hl : l = []
 ·subst hl
  obtain ⟨h1, ⟨rfl, _⟩ | ⟨g, cap, cur, rfl, hb, hg, _⟩⟩ := h
  ·exact Or.inl ⟨rfl, rfl⟩
  ·exact Or.inr ⟨g, 0, cap, rfl, Nat.zero_le _, lt_of_heap hg, fun i n hn => by simp at hn⟩
 ·have hp : 0 < l.length := List.length_pos_iff.2 hl
  obtain ⟨g, cap, rfl, q1, q2, q3, q4, q5⟩ := own_cell h hp
  exact Or.inr ⟨g, 0, cap, rfl, q3, q2, fun i n hn => by rw [Nat.zero_add]; exact q4 i _ (by simp [intsC, hn])⟩
theorem infoI : (Tryz.prog.info? 3).map (fun i => (i.zero, i.size, i.bytes)) = some (some (.int .i64 0), 1, 8) := by kernel_rfl
theorem below_drewN (B : Nat) (w : World) (q : Nat) : Below B w (w.drewN q) := ⟨rfl, rfl, rfl, Nat.le_refl _, fun _ _ => rfl⟩
section
variable {w : World}
end
end Go.Proofs.YtelaaaamnphbpaaGreatDoor
