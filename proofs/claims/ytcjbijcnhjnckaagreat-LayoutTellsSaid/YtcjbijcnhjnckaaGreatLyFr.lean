/-
  Rows and members that came in as arguments of a plain row.
-/
import Derived.Test.YtcjbijcnhjnckaaGreatHRowOpen
import Derived.ProofKit
import Derived.OpenShut
import Derived.Stop.Joined
import Derived.SizedLaws
namespace Go.Proofs.YtcjbijcnhjnckaaGreat
open Go.ChangeShapes Go.WideShapes Go.ChangeAt Go.RowKit
set_option linter.unusedVariables false
theorem ownK : ownKnob Tryz.prog.godebug = none := by kernel_rfl
theorem laidOut : laidOutB Tryz.prog = true := by kernel_rfl
section
variable {H : Type} {enc : TypeId × Value → H} {W : World} {base : Nat} {spare : Nat → Bool} {held : Bool}
theorem rows_arg {a0 : Option Addr} {len0 cap0 : Nat} {d : DataW H} {p : List MemPlace} (h0 : DataW.Trod enc Tryz.prog W base spare held 22 (.slice a0 len0 cap0) d p)
    (hw : (d.weights Tryz.prog 22).all (· ≤ reachBytes) = true) : ∃ rs : List (Rw × Value), RowIn W (.slice a0 len0 cap0) rs ∧ rs.length * 72 ≤ 140737488355328 ∧ ∀ p ∈ rs, Okay p.1 := by
  obtain ⟨fuel, hf⟩ := h0
  obtain ⟨v, rs, hcs, hin, hd⟩ := open_rows hf
  simp [Value.cells] at hcs
  subst hcs
  refine ⟨rs, hin, ?_⟩
  rcases hd with ⟨_, rfl⟩ | ⟨ds, rest, hx, hlen, hfit⟩
  · exact ⟨by simp, fun p hp => (by cases hp)⟩
  · simp only at hx
    subst hx
    obtain ⟨z1, z2⟩ := rows_sized hw
    refine ⟨by rw [← hlen]; simp [reachBytes] at z1; omega, fun p hp => ?_⟩
    obtain ⟨i, hi⟩ := List.mem_iff_getElem?.1 hp
    obtain ⟨d, hd1, hd2⟩ := hfit i p hi
    exact okay_of hd2 (z2 d (List.mem_of_getElem? hd1) _ hd2.data)
theorem mems_arg {a0 : Option Addr} {len0 cap0 : Nat} {d : DataW H} {p : List MemPlace} (h0 : DataW.Trod enc Tryz.prog W base spare held 73 (.slice a0 len0 cap0) d p)
    (hw : (d.weights Tryz.prog 73).all (· ≤ reachBytes) = true) : ∃ l : List Mb, MemIn W (.slice a0 len0 cap0) l ∧ (∀ m ∈ l, m.name.size ≤ 9223372036854775807) ∧ l.length ≤ 9223372036854775807 := by
  obtain ⟨fuel, hf⟩ := h0
  obtain ⟨s, l, hcs, hin, hn, hd⟩ := open_mems hf
  simp [Value.cells] at hcs
  subst hcs
  refine ⟨l, hin, fun m hm => by have := hn m hm; unfold maxLen at this; omega, ?_⟩
  rcases hd with ⟨_, rfl⟩ | ⟨rest, hx⟩
  · simp
  · simp only at hx
    subst hx
    rw [List.all_eq_true] at hw
    have hu := Tryz.underlying73
    simp only [DataW.weights, hu, bytes_mem] at hw
    have := hw _ (List.mem_cons_self ..)
    simp [reachBytes] at this
    omega
theorem weights_at {ts : List TypeId} {ds : List (DataW H)} (h : (DataW.weightsEach Tryz.prog ts ds).all (· ≤ reachBytes) = true) : ∀ (j : Nat) t d, ts[j]? = some t → ds[j]? = some d → (d.weights Tryz.prog t).all (· ≤ reachBytes) = true := by
  induction ts generalizing ds with
  | nil => intro j t d ht; simp at ht
  | cons a ts ih =>
    cases ds with
    | nil => intro j t d _ hd; simp at hd
    | cons b ds =>
      simp only [DataW.weightsEach, List.all_append, Bool.and_eq_true] at h
      intro j t d ht hd
      cases j with
      | zero => simp only [List.getElem?_cons_zero, Option.some.injEq] at ht hd; subst ht hd; exact h.1
      | succ j => exact ih h.2 j t d (by simpa using ht) (by simpa using hd)
end
end Go.Proofs.YtcjbijcnhjnckaaGreat
