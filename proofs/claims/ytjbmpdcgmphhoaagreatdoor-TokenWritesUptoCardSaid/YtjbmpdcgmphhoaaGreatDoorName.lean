/-
  What package token's Name and At answer.
-/
import Derived.Test.YtjbmpdcgmphhoaaGreatDoorOnward
namespace Go.Proofs.YtjbmpdcgmphhoaaGreatDoor
open Go.RowKit
set_option linter.unusedVariables false

/-- Is a text a name? -/
def isName (l : List UInt8) : Bool :=
  match l with
  | [] => false
  | c :: r => bLetter c.toNat && decide ((c :: r).length ≤ 63) && runLen bName (c :: r) == (c :: r).length && !isWord (c :: r)

set_option maxRecDepth 100000 in
set_option maxHeartbeats 1000000 in
theorem name_c (s : ByteArray) (w : World) (hs : s.size ≤ 9223372036854775807) :
    Calls Tryz.prog 21 #[.string s] w fun e w' => e = .returned (.bool (isName s.data.toList)) ∧ w' = w := by
  by_cases h0 : s.size = 0
  · have hl : s.data.toList = [] := by
      have : s.data.toList.length = 0 := by simpa using h0
      exact List.eq_nil_of_length_eq_zero this
    have hnil : s.toList = [] := by rw [ByteArray.toList_eq]; exact hl
    rw [hl]
    go_enter Tryz.func21, Tryz.ntmps21
    go_wp2
    go_ret
    exact ⟨rfl, rfl⟩
  have h0' : 0 < s.size := by omega
  have hcons := drop_get s 0 h0'
  rw [List.drop_zero] at hcons
  have hne : (s.toList == []) = false := by rw [ByteArray.toList_eq, hcons]; rfl
  have hne2 : s.toList.isEmpty = false := by rw [ByteArray.toList_eq, hcons]; rfl
  have cL := fun W => isLetter_c (s[0]).toNat W (s[0]).toNat_lt
  have cR := fun W => run_inName s W hs
  have cW := fun W => word_c s W
  have hlen : s.data.toList.length = s.size := by simp
  have hI : isName s.data.toList = (bLetter (s[0]).toNat && decide (s.size ≤ 63) && runLen bName s.data.toList == s.size && !isWord s.data.toList) := by
    rw [← hlen, hcons]; rfl
  rw [hI]
  clear hI hcons hlen
  generalize isWord s.data.toList = iw at *
  generalize runLen bName s.data.toList = n at *
  generalize bLetter (s[0]).toNat = bl at *
  cases bl <;> cases iw
  all_goals go_enter Tryz.func21, Tryz.ntmps21
  all_goals go_wp2_with (first | (go_at_call 37; refine (cL _).mono ?_; rintro e w' ⟨rfl, rfl⟩) | (go_at_call 32; refine (cR _).mono ?_; rintro e w' ⟨rfl, rfl⟩) | (go_at_call 22; refine (cW _).mono ?_; rintro e w' ⟨rfl, rfl⟩))
  all_goals go_ret
  all_goals refine ⟨bool_ret ?_, rfl⟩
  all_goals first | rfl | (simp_all; done) | (rw [Bool.eq_iff_iff]; simp; omega)

/-- The place that At looks at. -/
def atOff (size : Nat) (off : Int) : Nat := (min (max off 0) (size : Int)).toNat

set_option maxRecDepth 100000 in
set_option maxHeartbeats 1000000 in
theorem at_c (s : ByteArray) (off : Int) (w : World) (hs : s.size ≤ 1000000000000000000) (h0 : -9223372036854775808 ≤ off) (h1 : off ≤ 9223372036854775807) :
    Calls Tryz.prog 23 #[.string s, .int .i64 off] w fun e w' => e = .returned (spotV (onLine 1 (s.extract 0 (atOff s.size off))) (onCol 1 (s.extract 0 (atOff s.size off))) (atOff s.size off)) ∧ Below w.heap.size w w' := by
  have ho : ((atOff s.size off : Nat) : Int) = min (max off 0) (s.size : Int) := by unfold atOff; omega
  have hle : atOff s.size off ≤ s.size := by omega
  have cB := fun W => begin_c W
  have cO : ∀ W : World, Calls Tryz.prog 16 #[.string s, spotV 1 1 0, .int .i64 (min (max off 0) (s.size : Int))] W fun e w' => e = .returned (spotV (onLine 1 (s.extract 0 (atOff s.size off))) (onCol 1 (s.extract 0 (atOff s.size off))) (atOff s.size off)) ∧ Below W.heap.size W w' := fun W => by
    have := onward_c s 1 1 0 (atOff s.size off) W (Nat.zero_le _) hle (by omega) (by omega) (by omega) (by omega) (by omega) hs
    rw [ho] at this ⊢; exact this
  generalize onLine 1 (s.extract 0 (atOff s.size off)) = L at *
  generalize onCol 1 (s.extract 0 (atOff s.size off)) = C at *
  clear ho hle
  generalize atOff s.size off = o at *
  unfold spotV at cB cO ⊢
  go_enter Tryz.func23, Tryz.ntmps23
  go_wp2_with (first | (go_at_call 14; refine (cB _).mono ?_; rintro e w1 ⟨rfl, hb1⟩) | (go_at_call 16; refine (cO _).mono ?_; rintro e w2 ⟨rfl, hb2⟩; have HB : Hid (Below w.heap.size w w2) := below_step ((Below.refl _ w).alloc (Nat.le_refl _) _) (hb1.mono (Nat.le_refl _)) hb2; have hold := (hb2.block w.heap.size (by have := hb1.size; simp at this; omega)).trans ((hb1.block w.heap.size (by simp)).trans (heap_in0 _ _)); clear hb1 hb2) | ((with_reducible apply step_store hold); rfl; rfl; kernel_rfl; rfl; kernel_rfl))
  refine ret_spot (q := 4) ?_ ?_ (setRow_heap _ _ _ _ _ _ hold) ?_ ?_
  all_goals first | rfl | (exact ⟨rfl, below_setRow HB.out (Nat.le_refl _) _⟩)
end Go.Proofs.YtjbmpdcgmphhoaaGreatDoor
