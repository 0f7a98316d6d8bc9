/-
  Struct, Union, Enum: a type with a tag.
-/
import Derived.Test.YtdfkkflpcamhjaaGreatDoorKinds
import Derived.Test.YtdfkkflpcamhjaaGreatDoorTag
namespace Go.Proofs.YtdfkkflpcamhjaaGreatDoor
open Go.RowKit Go.Maps
set_option linter.unusedVariables false
set_option maxRecDepth 100000

section
variable {B : Nat} {w : World} {b mb : Nat} {v : Value} {rs : List (Rw × Value)} {ps : List (Value × Value)}

theorem build_tag (k : Int) (s : ByteArray) (W : World) : (Instr.build TR #[(0, .int .i64 k), (3, .string s)]).run Tryz.prog W = .ok (.agg #[.int .i64 k, .int .i64 0, .int .i64 0, .string s, .slice none 0 0, .bool false]) W := by kernel_rfl

theorem tagged_bad (h : Tab B w b mb v rs ps) (h0 : 0 < rs.length) (k : Int) (s : ByteArray) (hs : s.size ≤ 9223372036854775807) (ht : tagP s.data.toList = false) :
    Calls Tryz.prog 49 #[.pointer (some ⟨b, 0, none⟩), .int .i64 k, .string s] w fun e w' => e = .returned (.tuple #[.int .i64 0, .int .i64 31]) ∧ w' = w := by
  have c := made_c h h0
  have c2 := tag_c s w hs
  rw [ht] at c2
  have h1 := not_t
  have h2 := not_f
  go_enter Tryz.func49, Tryz.ntmps49
  go_wp2_with (first | (go_at_call 41; refine c.mono ?_; rintro e w' ⟨rfl, rfl⟩) | (go_at_call 39; refine c2.mono ?_; rintro e w' ⟨rfl, rfl⟩))
  go_ret2
  exact ⟨rfl, rfl⟩

theorem tagged_of {R : Ending → World → Prop} (h : Tab B w b mb v rs ps) (h0 : 0 < rs.length) (k : Int) (s : ByteArray) (hs : s.size ≤ 9223372036854775807) (ht : tagP s.data.toList = true) {x y : Int}
    (c3 : Calls Tryz.prog 78 #[.pointer (some ⟨b, 0, none⟩), .agg (rwCells ⟨k, 0, 0, s, [], false⟩ (.slice none 0 0)).toArray] w fun e w' => e = .returned (.tuple #[.int .i64 x, .int .i64 y]) ∧ R e w') :
    Calls Tryz.prog 49 #[.pointer (some ⟨b, 0, none⟩), .int .i64 k, .string s] w fun e w' => e = .returned (.tuple #[.int .i64 x, .int .i64 y]) ∧ R e w' := by
  have c := made_c h h0
  have c2 := tag_c s w hs
  rw [ht] at c2
  have h1 := not_t
  have hb := build_tag
  simp only [rwCells] at c3
  go_enter Tryz.func49, Tryz.ntmps49
  go_wp2_with (first | (go_at_call 41; refine c.mono ?_; rintro e w' ⟨rfl, rfl⟩) | (go_at_call 39; refine c2.mono ?_; rintro e w' ⟨rfl, rfl⟩) | (go_at_call 78; refine c3.mono ?_; rintro e w' ⟨rfl, hR⟩))
  go_ret2
  exact ⟨rfl, hR⟩

theorem struct_of {R : Ending → World → Prop} {a : Value} {s : ByteArray} {x y : Int} (c : Calls Tryz.prog 49 #[a, .int .i64 15, .string s] w fun e w' => e = .returned (.tuple #[.int .i64 x, .int .i64 y]) ∧ R e w') :
    Calls Tryz.prog 24 #[a, .string s] w fun e w' => e = .returned (.tuple #[.int .i64 x, .int .i64 y]) ∧ R e w' := by
  go_enter Tryz.func24, Tryz.ntmps24
  go_wp2_with (go_at_call 49; refine c.mono ?_; rintro e w' ⟨rfl, hR⟩)
  go_ret2
  exact ⟨rfl, hR⟩
end
end Go.Proofs.YtdfkkflpcamhjaaGreatDoor
