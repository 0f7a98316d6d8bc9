/-
  Ptr and Array: refusals, one that is there, a new one.
-/
import Derived.Test.YtkobggbipoappaaHKinds
namespace Go.Proofs.Ytkobggbipoappaa
open Go.RowKit Go.Maps
set_option linter.unusedVariables false
set_option maxRecDepth 100000

section
variable {B : Nat} {w : World} {b mb : Nat} {v : Value} {rs : List (Rw × Value)} {ps : List (Value × Value)}

theorem build_shape2 (k e : Int) (W : World) : (Instr.build TK #[(0, .int .i64 k), (1, .int .i64 e)]).run Try.prog W = .ok (.agg #[.int .i64 k, .int .i64 e, .int .i64 0]) W := by kernel_rfl
theorem build_shape3 (k e n : Int) (W : World) : (Instr.build TK #[(0, .int .i64 k), (1, .int .i64 e), (2, .int .i64 n)]).run Try.prog W = .ok (.agg #[.int .i64 k, .int .i64 e, .int .i64 n]) W := by kernel_rfl

theorem array_type (h : Tab B w b mb v rs ps) (h0 : 0 < rs.length) (id n : Int) (hid : hasP rs.length id = false) :
    Calls Try.prog 9 #[.pointer (some ⟨b, 0, none⟩), .int .i64 id, .int .i64 n] w fun e w' => e = .returned (.tuple #[.int .i64 0, .int .i64 30]) ∧ w' = w := by
  have c := made_c h h0
  have c2 := has_c h h0 id
  rw [hid] at c2
  have h1 := not_t
  have h2 := not_f
  go_enter Try.func9, Try.ntmps9
  go_wp2_with (first | (go_at_call 24; refine c.mono ?_; rintro e w' ⟨rfl, rfl⟩) | (go_at_call 25; refine c2.mono ?_; rintro e w' ⟨rfl, rfl⟩))
  go_ret2
  exact ⟨rfl, rfl⟩
theorem array_inc (h : Tab B w b mb v rs ps) (h0 : 0 < rs.length) (id n : Int) (hid : hasP rs.length id = true) (hw : wholeP rs id = false) :
    Calls Try.prog 9 #[.pointer (some ⟨b, 0, none⟩), .int .i64 id, .int .i64 n] w fun e w' => e = .returned (.tuple #[.int .i64 0, .int .i64 50]) ∧ w' = w := by
  have c := made_c h h0
  have c2 := has_c h h0 id
  have c3 := whole_c h h0 id
  rw [hid] at c2
  rw [hw] at c3
  have h1 := not_t
  have h2 := not_f
  go_enter Try.func9, Try.ntmps9
  go_wp2_with (first | (go_at_call 24; refine c.mono ?_; rintro e w' ⟨rfl, rfl⟩) | (go_at_call 25; refine c2.mono ?_; rintro e w' ⟨rfl, rfl⟩) | (go_at_call 26; refine c3.mono ?_; rintro e w' ⟨rfl, rfl⟩))
  go_ret2
  exact ⟨rfl, rfl⟩
theorem array_arg (h : Tab B w b mb v rs ps) (h0 : 0 < rs.length) (id n : Int) (hid : hasP rs.length id = true) (hw : wholeP rs id = true) (hn : lenK n = false) :
    Calls Try.prog 9 #[.pointer (some ⟨b, 0, none⟩), .int .i64 id, .int .i64 n] w fun e w' => e = .returned (.tuple #[.int .i64 0, .int .i64 2]) ∧ w' = w := by
  have c := made_c h h0
  have c2 := has_c h h0 id
  have c3 := whole_c h h0 id
  have c4 := fun W => isLength_c n W
  rw [hid] at c2
  rw [hw] at c3
  rw [hn] at c4
  have h1 := not_t
  have h2 := not_f
  go_enter Try.func9, Try.ntmps9
  go_wp2_with (first | (go_at_call 24; refine c.mono ?_; rintro e w' ⟨rfl, rfl⟩) | (go_at_call 25; refine c2.mono ?_; rintro e w' ⟨rfl, rfl⟩) | (go_at_call 26; refine c3.mono ?_; rintro e w' ⟨rfl, rfl⟩) | (go_at_call 27; refine (c4 _).mono ?_; rintro e w' ⟨rfl, rfl⟩))
  go_ret2
  exact ⟨rfl, rfl⟩
theorem array_of {R : Ending → World → Prop} (h : Tab B w b mb v rs ps) (h0 : 0 < rs.length) (id n : Int) (hid : hasP rs.length id = true) (hw : wholeP rs id = true) (hn : lenK n = true)
    {x y : Int} (c : Calls Try.prog 28 #[.pointer (some ⟨b, 0, none⟩), keyV 14 id n] w fun e w' => e = .returned (.tuple #[.int .i64 x, .int .i64 y]) ∧ R e w') :
    Calls Try.prog 9 #[.pointer (some ⟨b, 0, none⟩), .int .i64 id, .int .i64 n] w fun e w' => e = .returned (.tuple #[.int .i64 x, .int .i64 y]) ∧ R e w' := by
  have c1 := made_c h h0
  have c2 := has_c h h0 id
  have c3 := whole_c h h0 id
  have c4 := fun W => isLength_c n W
  rw [hid] at c2
  rw [hw] at c3
  rw [hn] at c4
  have h1 := not_t
  have hb := build_shape3
  unfold keyV at c
  go_enter Try.func9, Try.ntmps9
  go_wp2_with (first | (go_at_call 24; refine c1.mono ?_; rintro e w' ⟨rfl, rfl⟩) | (go_at_call 25; refine c2.mono ?_; rintro e w' ⟨rfl, rfl⟩) | (go_at_call 26; refine c3.mono ?_; rintro e w' ⟨rfl, rfl⟩) | (go_at_call 27; refine (c4 _).mono ?_; rintro e w' ⟨rfl, rfl⟩) | (go_at_call 28; refine c.mono ?_; rintro e w' ⟨rfl, hR⟩))
  go_ret2
  exact ⟨rfl, hR⟩
end
end Go.Proofs.Ytkobggbipoappaa
