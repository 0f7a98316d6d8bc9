/-
  The given answer's Next.
-/
import Derived.Test.YtelaaaamnphbpaaGreatDoorKB
import Derived.Deep.DeepMust
namespace Go.Proofs.YtelaaaamnphbpaaGreatDoor
open Go.RowKit Go.Maps
set_option linter.unusedVariables false
set_option maxRecDepth 100000
def rawP (op n i : Int) : List Int := if op = 9 ∨ op = 14 then [] else if op = 10 then [n] else if op = 11 then [min (i + 1) n, max (i + 1) n] else [i + 1]
theorem rawP_len (op n i : Int) : (rawP op n i).length ≤ 2 := by
  unfold rawP
  repeat' split
  all_goals simp
/-- What is kept of the first k numbers. -/
def keepB (L : List Int) (hi : Int) (k : Nat) : Bool := match L[k]? with | some a => withinP a 0 hi && (k == 0 || (match L[k - 1]? with | some b => a != b | none => false)) | none => false
def outF (L : List Int) (hi : Int) : Nat → List Int
  | 0 => []
  | k + 1 => outF L hi k ++ (if keepB L hi k then (L[k]?).toList else [])
theorem outF_len (L : List Int) (hi : Int) : ∀ k, (outF L hi k).length ≤ k
  | 0 => Nat.le_refl _
  | k + 1 => by
    have := outF_len L hi k
    simp only [outF, List.length_append]
    split
    · cases L[k]? <;> simp <;> omega
    · simp; omega
theorem outF_ways (op n i hi : Int) : outF (rawP op n i) hi (rawP op n i).length = (waysP op n i).filter (fun x => withinP x 0 hi) := by
  unfold rawP waysP
  split
  · rfl
  split
  · cases h : withinP n 0 hi <;> simp [outF, keepB, h]
  split
  · by_cases e : i + 1 = n
    · rw [if_pos e, show min (i + 1) n = n by omega, show max (i + 1) n = n by omega]
      cases h : withinP n 0 hi <;> simp [outF, keepB, h]
    · rw [if_neg e]
      have hne : (max (i + 1) n != min (i + 1) n) = true := by simp; omega
      generalize min (i + 1) n = a at *
      generalize max (i + 1) n = b at *
      cases h : withinP a 0 hi <;> cases h2 : withinP b 0 hi <;> simp [outF, keepB, h, h2, hne]
  · cases h : withinP (i + 1) 0 hi <;> simp [outF, keepB, h]
def intsC (l : List Int) : List Value := l.map fun n => .int .i64 n
theorem intsC_one (l : List Int) : ∀ u ∈ intsC l, u.oneCell' = true := by
  intro u hu
  obtain ⟨n, _, rfl⟩ := List.mem_map.1 hu
  rfl
theorem IntSl.of_own {w : World} {B : Nat} {v : Value} {l : List Int} (h : w.ownsRow B 3 1 v l.length (intsC l)) : IntSl w v l := by
  by_cases hl : l = []
  · subst hl
    obtain ⟨h1, ⟨rfl, _⟩ | ⟨g, cap, cur, rfl, hb, hg, _⟩⟩ := h
    · exact Or.inl ⟨rfl, rfl⟩
    · exact Or.inr ⟨g, 0, cap, rfl, Nat.zero_le _, lt_of_heap hg, fun i n hn => by simp at hn⟩
  · have hp : 0 < l.length := List.length_pos_iff.2 hl
    obtain ⟨g, cap, rfl, q1, q2, q3, q4, q5⟩ := own_cell h hp
    exact Or.inr ⟨g, 0, cap, rfl, q3, q2, fun i n hn => by rw [Nat.zero_add]; exact q4 i _ (by simp [intsC, hn])⟩
theorem infoI : (Tryz.prog.info? 3).map (fun i => (i.zero, i.size, i.bytes)) = some (some (.int .i64 0), 1, 8) := by kernel_rfl
theorem below_drewN (B : Nat) (w : World) (q : Nat) : Below B w (w.drewN q) := ⟨rfl, rfl, rfl, Nat.le_refl _, fun _ _ => rfl⟩
section
variable {w : World}
theorem newI_two (w1 : World) (hb : Below w.heap.size w w1) (a b : Int) : NewI w (w1.alloc (.cells #[.int .i64 a, .int .i64 b] 3)) (.slice (some ⟨w1.heap.size, 0, none⟩) 2 2) [a, b] :=
  ⟨hb.trans ((below1 w1 _).mono hb.size), Or.inr ⟨w1.heap.size, 2, _, hb.size, rfl, Nat.le_refl _, heap_r0 w1 _, Nat.le_refl _, fun k n hn => by
    rcases k with _ | _ | k
    · simp at hn; subst hn; exact (Lib.cell_of_heap (heap_r0 w1 _) 0).trans rfl
    · simp at hn; subst hn; exact (Lib.cell_of_heap (heap_r0 w1 _) 1).trans rfl
    · simp at hn⟩⟩
end
end Go.Proofs.YtelaaaamnphbpaaGreatDoor
