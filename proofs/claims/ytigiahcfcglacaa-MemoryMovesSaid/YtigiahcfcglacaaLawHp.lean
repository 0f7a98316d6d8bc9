/-
  What the walks of the laws share.
-/
import Derived.Test.YtigiahcfcglacaaLawPl
import Derived.Test.YtigiahcfcglacaaMmY
import Derived.BigQuiet
namespace Go.Proofs.Ytigiahcfcglacaa
open Go.RowKit Go.Maps
set_option linter.unusedVariables false
set_option maxRecDepth 100000
theorem ActIn.below {w w' : World} {v : Value} {l : List Ac} (h : ActIn w v l) (hb : Below w.heap.size w w') : ActIn w' v l := by
  rcases h with (h | ⟨g, o, cap, h1, h2, h3, h4⟩) | h
  · exact Or.inl (Or.inl h)
  · exact Or.inl (Or.inr ⟨g, o, cap, h1, h2, Nat.lt_of_lt_of_le h3 hb.size, fun i m hm j hj => by rw [hb.cell (p := ⟨g, o + i * 10 + j, none⟩) h3]; exact h4 i m hm j hj⟩)
  · exact Or.inr h
def CBt (b : Nat) (w2 : World) (op : Int) (p q r : Vl) (st : Int) : Prop := ∀ Y, Below w2.heap.size w2 Y → Calls Try.prog 10 #[.pointer (some ⟨b, 0, none⟩), .int .i64 op, .agg #[.int .i64 p.kind, .int .u32 p.v, .int .i64 p.block], .agg #[.int .i64 q.kind, .int .u32 q.v, .int .i64 q.block]] Y fun e w' => e = .returned (.tuple #[.agg #[.int .i64 r.kind, .int .u32 r.v, .int .i64 r.block], .int .i64 st]) ∧ Below Y.heap.size Y w'
theorem CBt.of {N : Nat → Prop} {b rb : Nat} {s : St} {w2 : World} (h : D N b rb s s w2) {op : Int} {p q r : Vl} {st : Int} (hp : PBin s op p q r st) : CBt b w2 op p q r st := fun Y hY => hp _ _ _ _ _ (h.below hY)
/-- The worlds behind W. -/
structure SAT (W : World) where
  val : World
  ok : SA W val
instance (W : World) : Nonempty (SAT W) := ⟨⟨W, SA.refl W⟩⟩
/-- A region that draws its order, whose operations only read and whose calls leave what was there: one walk, in the text's order, in every world behind W. -/
theorem wp_region_sub {P : Program} {id : Nat} {Q : Exit → Act → World → Prop} {a : Act} {w W : World} {l : List Oper} (hm : P.follows .mixedOrders = true) (hB : Region.lexB .any l.toArray = true) (hC : SA W { w with drawn := w.drawn + 1 })
    (h : wpQuiet P l.toArray (fun w' => ∃ Z : SAT W, w' = Z.val) (fun a' => ∀ w', (∃ Z : SAT W, w' = Z.val) → Q .normal a' w') l a) : (Code.region id l.toArray true).wp P Q a w :=
  wp_region_quiet (C := fun w' => ∃ Z : SAT W, w' = Z.val) hm hB ⟨⟨_, hC⟩, rfl⟩ (by simpa using h)
theorem heads_sub (W : World) (Z : SAT W) : Calls Try.prog 11 #[] Z.val fun e w' => e = .returned (.bool true) ∧ ∃ Z' : SAT W, w' = Z'.val :=
  (heads_c Z.val).mono fun e w' ⟨he, hb⟩ => ⟨he, ⟨w', SA.below Z.ok hb⟩, rfl⟩
theorem num_sub (W : World) (n : Int) (Z : SAT W) : Calls Try.prog 12 #[.int .u32 n] Z.val fun e w' => e = .returned (.agg #[.int .i64 1, .int .u32 n, .int .i64 0]) ∧ ∃ Z' : SAT W, w' = Z'.val :=
  (num_c n Z.val).mono fun e w' ⟨he, hb⟩ => ⟨he, ⟨w', SA.below Z.ok hb⟩, rfl⟩
end Go.Proofs.Ytigiahcfcglacaa
