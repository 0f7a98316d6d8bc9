/-
  Struct, Union, Enum: a type with a tag.
-/
import Derived.Test.YtaodheilmbefhaaDoorKinds
import Derived.Test.YtaodheilmbefhaaDoorTag
namespace Go.Proofs.YtaodheilmbefhaaDoor
open Go.RowKit Go.Maps
set_option linter.unusedVariables false
set_option maxRecDepth 100000

section
variable {B : Nat} {w : World} {b mb : Nat} {v : Value} {rs : List (Rw × Value)} {ps : List (Value × Value)}

theorem build_tag (k : Int) (s : ByteArray) (W : World) : (Instr.build TR #[(0, .int .i64 k), (3, .string s)]).run Tryd.prog W = .ok (.agg #[.int .i64 k, .int .i64 0, .int .i64 0, .string s, .slice none 0 0, .bool false]) W := by kernel_rfl

theorem tagged_bad (h : Tab B w b mb v rs ps) (h0 : 0 < rs.length) (k : Int) (s : ByteArray) (hs : s.size ≤ 9223372036854775807) (ht : tagP s.data.toList = false) :
    Calls Tryd.prog 50 #[.pointer (some ⟨b, 0, none⟩), .int .i64 k, .string s] w fun e w' => e = .returned (.tuple #[.int .i64 0, .int .i64 31]) ∧ w' = w := by
  have c := made_c h h0
  have c2 := tag_c s w hs
  rw [ht] at c2
  have h1 := not_t
  have h2 := not_f
  go_enter Tryd.func50, Tryd.ntmps50
  go_wp2_with (first | (go_at_call 32; refine c.mono ?_; rintro e w' ⟨rfl, rfl⟩) | (go_at_call 65; refine c2.mono ?_; rintro e w' ⟨rfl, rfl⟩))
  go_ret2
  exact ⟨rfl, rfl⟩

theorem tagged_of {R : Ending → World → Prop} (h : Tab B w b mb v rs ps) (h0 : 0 < rs.length) (k : Int) (s : ByteArray) (hs : s.size ≤ 9223372036854775807) (ht : tagP s.data.toList = true) {x y : Int}
    (c3 : Calls Tryd.prog 73 #[.pointer (some ⟨b, 0, none⟩), .agg (rwCells ⟨k, 0, 0, s, [], false⟩ (.slice none 0 0)).toArray] w fun e w' => e = .returned (.tuple #[.int .i64 x, .int .i64 y]) ∧ R e w') :
    Calls Tryd.prog 50 #[.pointer (some ⟨b, 0, none⟩), .int .i64 k, .string s] w fun e w' => e = .returned (.tuple #[.int .i64 x, .int .i64 y]) ∧ R e w' := by
  have c := made_c h h0
  have c2 := tag_c s w hs
  rw [ht] at c2
  have h1 := not_t
  have hb := build_tag
  simp only [rwCells] at c3
  go_enter Tryd.func50, Tryd.ntmps50
  go_wp2_with (first | (go_at_call 32; refine c.mono ?_; rintro e w' ⟨rfl, rfl⟩) | (go_at_call 65; refine c2.mono ?_; rintro e w' ⟨rfl, rfl⟩) | (go_at_call 73; refine c3.mono ?_; rintro e w' ⟨rfl, hR⟩))
  go_ret2
  exact ⟨rfl, hR⟩

theorem struct_of {R : Ending → World → Prop} {a : Value} {s : ByteArray} {x y : Int} (c : Calls Tryd.prog 50 #[a, .int .i64 15, .string s] w fun e w' => e = .returned (.tuple #[.int .i64 x, .int .i64 y]) ∧ R e w') :
    Calls Tryd.prog 28 #[a, .string s] w fun e w' => e = .returned (.tuple #[.int .i64 x, .int .i64 y]) ∧ R e w' := by
  go_enter Tryd.func28, Tryd.ntmps28
  go_wp2_with (go_at_call 50; refine c.mono ?_; rintro e w' ⟨rfl, hR⟩)
  go_ret2
  exact ⟨rfl, hR⟩
end
end Go.Proofs.YtaodheilmbefhaaDoor
