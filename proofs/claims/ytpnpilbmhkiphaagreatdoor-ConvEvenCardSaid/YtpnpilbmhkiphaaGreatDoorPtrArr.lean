/-
  Ptr and Array: refusals, one that is there, a new one.
-/
import Derived.Test.YtpnpilbmhkiphaaGreatDoorKinds
namespace Go.Proofs.YtpnpilbmhkiphaaGreatDoor
open Go.RowKit Go.Maps
set_option linter.unusedVariables false
set_option maxRecDepth 100000

section
variable {B : Nat} {w : World} {b mb : Nat} {v : Value} {rs : List (Rw × Value)} {ps : List (Value × Value)}

theorem build_shape2 (k e : Int) (W : World) : (Instr.build TK #[(0, .int .i64 k), (1, .int .i64 e)]).run Tryz.prog W = .ok (.agg #[.int .i64 k, .int .i64 e, .int .i64 0]) W := by kernel_rfl
theorem build_shape3 (k e n : Int) (W : World) : (Instr.build TK #[(0, .int .i64 k), (1, .int .i64 e), (2, .int .i64 n)]).run Tryz.prog W = .ok (.agg #[.int .i64 k, .int .i64 e, .int .i64 n]) W := by kernel_rfl

theorem ptr_type (h : Tab B w b mb v rs ps) (h0 : 0 < rs.length) (id : Int) (hid : hasP rs.length id = false) :
    Calls Tryz.prog 29 #[.pointer (some ⟨b, 0, none⟩), .int .i64 id] w fun e w' => e = .returned (.tuple #[.int .i64 0, .int .i64 30]) ∧ w' = w := by
  have c := made_c h h0
  have c2 := has_c h h0 id
  rw [hid] at c2
  have h1 := not_t
  have h2 := not_f
  go_enter Tryz.func29, Tryz.ntmps29
  go_wp2_with (first | (go_at_call 68; refine c.mono ?_; rintro e w' ⟨rfl, rfl⟩) | (go_at_call 69; refine c2.mono ?_; rintro e w' ⟨rfl, rfl⟩))
  go_ret2
  exact ⟨rfl, rfl⟩

/-- What derived does, Ptr does. -/
theorem ptr_of {R : Ending → World → Prop} (h : Tab B w b mb v rs ps) (h0 : 0 < rs.length) (id : Int) (hid : hasP rs.length id = true)
    {x y : Int} (c : Calls Tryz.prog 70 #[.pointer (some ⟨b, 0, none⟩), keyV 13 id 0] w fun e w' => e = .returned (.tuple #[.int .i64 x, .int .i64 y]) ∧ R e w') :
    Calls Tryz.prog 29 #[.pointer (some ⟨b, 0, none⟩), .int .i64 id] w fun e w' => e = .returned (.tuple #[.int .i64 x, .int .i64 y]) ∧ R e w' := by
  have c1 := made_c h h0
  have c2 := has_c h h0 id
  rw [hid] at c2
  have h1 := not_t
  have hb := build_shape2
  unfold keyV at c
  go_enter Tryz.func29, Tryz.ntmps29
  go_wp2_with (first | (go_at_call 68; refine c1.mono ?_; rintro e w' ⟨rfl, rfl⟩) | (go_at_call 69; refine c2.mono ?_; rintro e w' ⟨rfl, rfl⟩) | (go_at_call 70; refine c.mono ?_; rintro e w' ⟨rfl, hR⟩))
  go_ret2
  exact ⟨rfl, hR⟩

end
end Go.Proofs.YtpnpilbmhkiphaaGreatDoor
