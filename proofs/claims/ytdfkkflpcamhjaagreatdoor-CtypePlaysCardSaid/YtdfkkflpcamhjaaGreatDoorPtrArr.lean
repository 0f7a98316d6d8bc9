/-
  Ptr and Array: refusals, one that is there, a new one.
-/
import Derived.Test.YtdfkkflpcamhjaaGreatDoorKinds
namespace Go.Proofs.YtdfkkflpcamhjaaGreatDoor
open Go.RowKit Go.Maps
set_option linter.unusedVariables false
set_option maxRecDepth 100000

section
variable {B : Nat} {w : World} {b mb : Nat} {v : Value} {rs : List (Rw × Value)} {ps : List (Value × Value)}

theorem build_shape2 (k e : Int) (W : World) : (Instr.build TK #[(0, .int .i64 k), (1, .int .i64 e)]).run Tryz.prog W = .ok (.agg #[.int .i64 k, .int .i64 e, .int .i64 0]) W := by kernel_rfl
theorem build_shape3 (k e n : Int) (W : World) : (Instr.build TK #[(0, .int .i64 k), (1, .int .i64 e), (2, .int .i64 n)]).run Tryz.prog W = .ok (.agg #[.int .i64 k, .int .i64 e, .int .i64 n]) W := by kernel_rfl

theorem ptr_type (h : Tab B w b mb v rs ps) (h0 : 0 < rs.length) (id : Int) (hid : hasP rs.length id = false) :
    Calls Tryz.prog 20 #[.pointer (some ⟨b, 0, none⟩), .int .i64 id] w fun e w' => e = .returned (.tuple #[.int .i64 0, .int .i64 30]) ∧ w' = w := by
  have c := made_c h h0
  have c2 := has_c h h0 id
  rw [hid] at c2
  have h1 := not_t
  have h2 := not_f
  go_enter Tryz.func20, Tryz.ntmps20
  go_wp2_with (first | (go_at_call 41; refine c.mono ?_; rintro e w' ⟨rfl, rfl⟩) | (go_at_call 51; refine c2.mono ?_; rintro e w' ⟨rfl, rfl⟩))
  go_ret2
  exact ⟨rfl, rfl⟩

/-- What derived does, Ptr does. -/
theorem ptr_of {R : Ending → World → Prop} (h : Tab B w b mb v rs ps) (h0 : 0 < rs.length) (id : Int) (hid : hasP rs.length id = true)
    {x y : Int} (c : Calls Tryz.prog 52 #[.pointer (some ⟨b, 0, none⟩), keyV 13 id 0] w fun e w' => e = .returned (.tuple #[.int .i64 x, .int .i64 y]) ∧ R e w') :
    Calls Tryz.prog 20 #[.pointer (some ⟨b, 0, none⟩), .int .i64 id] w fun e w' => e = .returned (.tuple #[.int .i64 x, .int .i64 y]) ∧ R e w' := by
  have c1 := made_c h h0
  have c2 := has_c h h0 id
  rw [hid] at c2
  have h1 := not_t
  have hb := build_shape2
  unfold keyV at c
  go_enter Tryz.func20, Tryz.ntmps20
  go_wp2_with (first | (go_at_call 41; refine c1.mono ?_; rintro e w' ⟨rfl, rfl⟩) | (go_at_call 51; refine c2.mono ?_; rintro e w' ⟨rfl, rfl⟩) | (go_at_call 52; refine c.mono ?_; rintro e w' ⟨rfl, hR⟩))
  go_ret2
  exact ⟨rfl, hR⟩

theorem array_type (h : Tab B w b mb v rs ps) (h0 : 0 < rs.length) (id n : Int) (hid : hasP rs.length id = false) :
    Calls Tryz.prog 22 #[.pointer (some ⟨b, 0, none⟩), .int .i64 id, .int .i64 n] w fun e w' => e = .returned (.tuple #[.int .i64 0, .int .i64 30]) ∧ w' = w := by
  have c := made_c h h0
  have c2 := has_c h h0 id
  rw [hid] at c2
  have h1 := not_t
  have h2 := not_f
  go_enter Tryz.func22, Tryz.ntmps22
  go_wp2_with (first | (go_at_call 41; refine c.mono ?_; rintro e w' ⟨rfl, rfl⟩) | (go_at_call 51; refine c2.mono ?_; rintro e w' ⟨rfl, rfl⟩))
  go_ret2
  exact ⟨rfl, rfl⟩
theorem array_inc (h : Tab B w b mb v rs ps) (h0 : 0 < rs.length) (id n : Int) (hid : hasP rs.length id = true) (hw : wholeP rs id = false) :
    Calls Tryz.prog 22 #[.pointer (some ⟨b, 0, none⟩), .int .i64 id, .int .i64 n] w fun e w' => e = .returned (.tuple #[.int .i64 0, .int .i64 50]) ∧ w' = w := by
  have c := made_c h h0
  have c2 := has_c h h0 id
  have c3 := whole_c h h0 id
  rw [hid] at c2
  rw [hw] at c3
  have h1 := not_t
  have h2 := not_f
  go_enter Tryz.func22, Tryz.ntmps22
  go_wp2_with (first | (go_at_call 41; refine c.mono ?_; rintro e w' ⟨rfl, rfl⟩) | (go_at_call 51; refine c2.mono ?_; rintro e w' ⟨rfl, rfl⟩) | (go_at_call 34; refine c3.mono ?_; rintro e w' ⟨rfl, rfl⟩))
  go_ret2
  exact ⟨rfl, rfl⟩
theorem array_arg (h : Tab B w b mb v rs ps) (h0 : 0 < rs.length) (id n : Int) (hid : hasP rs.length id = true) (hw : wholeP rs id = true) (hn : lenK n = false) :
    Calls Tryz.prog 22 #[.pointer (some ⟨b, 0, none⟩), .int .i64 id, .int .i64 n] w fun e w' => e = .returned (.tuple #[.int .i64 0, .int .i64 2]) ∧ w' = w := by
  have c := made_c h h0
  have c2 := has_c h h0 id
  have c3 := whole_c h h0 id
  have c4 := fun W => isLength_c n W
  rw [hid] at c2
  rw [hw] at c3
  rw [hn] at c4
  have h1 := not_t
  have h2 := not_f
  go_enter Tryz.func22, Tryz.ntmps22
  go_wp2_with (first | (go_at_call 41; refine c.mono ?_; rintro e w' ⟨rfl, rfl⟩) | (go_at_call 51; refine c2.mono ?_; rintro e w' ⟨rfl, rfl⟩) | (go_at_call 34; refine c3.mono ?_; rintro e w' ⟨rfl, rfl⟩) | (go_at_call 54; refine (c4 _).mono ?_; rintro e w' ⟨rfl, rfl⟩))
  go_ret2
  exact ⟨rfl, rfl⟩
theorem array_of {R : Ending → World → Prop} (h : Tab B w b mb v rs ps) (h0 : 0 < rs.length) (id n : Int) (hid : hasP rs.length id = true) (hw : wholeP rs id = true) (hn : lenK n = true)
    {x y : Int} (c : Calls Tryz.prog 52 #[.pointer (some ⟨b, 0, none⟩), keyV 14 id n] w fun e w' => e = .returned (.tuple #[.int .i64 x, .int .i64 y]) ∧ R e w') :
    Calls Tryz.prog 22 #[.pointer (some ⟨b, 0, none⟩), .int .i64 id, .int .i64 n] w fun e w' => e = .returned (.tuple #[.int .i64 x, .int .i64 y]) ∧ R e w' := by
  have c1 := made_c h h0
  have c2 := has_c h h0 id
  have c3 := whole_c h h0 id
  have c4 := fun W => isLength_c n W
  rw [hid] at c2
  rw [hw] at c3
  rw [hn] at c4
  have h1 := not_t
  have hb := build_shape3
  unfold keyV at c
  go_enter Tryz.func22, Tryz.ntmps22
  go_wp2_with (first | (go_at_call 41; refine c1.mono ?_; rintro e w' ⟨rfl, rfl⟩) | (go_at_call 51; refine c2.mono ?_; rintro e w' ⟨rfl, rfl⟩) | (go_at_call 34; refine c3.mono ?_; rintro e w' ⟨rfl, rfl⟩) | (go_at_call 54; refine (c4 _).mono ?_; rintro e w' ⟨rfl, rfl⟩) | (go_at_call 52; refine c.mono ?_; rintro e w' ⟨rfl, hR⟩))
  go_ret2
  exact ⟨rfl, hR⟩
end
end Go.Proofs.YtdfkkflpcamhjaaGreatDoor
