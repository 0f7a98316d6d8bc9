/-
  What package token's canHave answers: may a token of a kind that has no number have a text?
-/
import Derived.Test.YtjbmpdcgmphhoaaGreatDoorName
namespace Go.Proofs.YtjbmpdcgmphhoaaGreatDoor
open Go.RowKit
set_option linter.unusedVariables false

def canHaveP (k : Int) (l : List UInt8) : Bool :=
  if k = 0 then l.isEmpty else if k = 1 then isName l else if k = 2 then isWord l else if k = 5 then true else if k = 6 then !l.isEmpty && (signOf l == l) else false

set_option maxRecDepth 100000 in
set_option maxHeartbeats 1000000 in
theorem canHave_c (k : Int) (s : ByteArray) (w : World) (hs : s.size ≤ 9223372036854775807) :
    Calls Tryz.prog 52 #[.int .i64 k, .string s] w fun e w' => e = .returned (.bool (canHaveP k s.data.toList)) ∧ Below w.heap.size w w' := by
  have cN := fun W => name_c s W hs
  have cW := fun W => word_c s W
  have cS := fun W => sign_c s W
  have hl : (ByteArray.mk (signOf s.data.toList).toArray).toList = signOf s.data.toList := ByteArray.toList_mk _
  have hl2 : s.toList = s.data.toList := ByteArray.toList_eq s
  have HB : Hid (Below w.heap.size w w) := Below.refl _ _
  by_cases h0 : k = 0
  · subst h0
    go_enter Tryz.func52, Tryz.ntmps52
    go_wp2
    go_ret
    refine ⟨bool_ret ?_, HB.out⟩
    simp [canHaveP]
  by_cases h1 : k = 1
  · subst h1
    go_enter Tryz.func52, Tryz.ntmps52
    go_wp2_with (go_at_call 21; refine (cN _).mono ?_; rintro e w' ⟨rfl, rfl⟩)
    go_ret
    exact ⟨bool_ret (by simp [canHaveP]), HB.out⟩
  by_cases h2 : k = 2
  · subst h2
    go_enter Tryz.func52, Tryz.ntmps52
    go_wp2_with (go_at_call 22; refine (cW _).mono ?_; rintro e w' ⟨rfl, rfl⟩)
    go_ret
    exact ⟨bool_ret (by simp [canHaveP]), HB.out⟩
  by_cases h5 : k = 5
  · subst h5
    go_enter Tryz.func52, Tryz.ntmps52
    go_wp2
    go_ret
    exact ⟨bool_ret (by simp [canHaveP]), HB.out⟩
  by_cases h6 : k = 6
  · subst h6
    go_enter Tryz.func52, Tryz.ntmps52
    go_wp2_with (go_at_call 42; refine (cS _).mono ?_; rintro e w' ⟨rfl, hb⟩)
    all_goals go_ret
    all_goals first
      | exact ⟨bool_ret (by simp_all [canHaveP]), HB.out⟩
      | exact ⟨bool_ret (by simp_all [canHaveP]), hb⟩
  go_enter Tryz.func52, Tryz.ntmps52
  go_wp2
  go_ret
  exact ⟨bool_ret (by simp [canHaveP, h0, h1, h2, h5, h6]), HB.out⟩
end Go.Proofs.YtjbmpdcgmphhoaaGreatDoor
