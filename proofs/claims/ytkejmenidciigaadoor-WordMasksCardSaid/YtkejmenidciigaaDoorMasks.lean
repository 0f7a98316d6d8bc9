/-
  The law WordMasks returns true at every two numbers of 32 bits, and each argument reads afterwards as before. No condition beyond the given statement's own (the table of names holds what the program's text lays into it).
-/
import Derived.Test.YtkejmenidciigaaDoorFrame
import Derived.Test.YtkejmenidciigaaDoorTie
import Derived.Test.YtkejmenidciigaaDoorCards
import Derived.Laws.BitsAllLaws
import Derived.Below
import Derived.SevenTiedAt
namespace Go.Proofs.YtkejmenidciigaaDoor
open Go.ChangeShapes Go.WideShapes Go.ChangeAt Go.RowKit

theorem nat_or_sum (a b : Nat) (ha : a < 2 ^ 32) (hb : b < 2 ^ 32) : a ||| b = ((a &&& b) + (a ^^^ b)) % 2 ^ 32 := by
  have h := BitVec.add_eq_or_of_and_eq_zero (BitVec.ofNat 32 (a &&& b)) (BitVec.ofNat 32 (a ^^^ b)) (by
    apply BitVec.eq_of_toNat_eq
    simp only [BitVec.toNat_and, BitVec.toNat_ofNat]
    rw [Nat.mod_eq_of_lt (Nat.and_lt_two_pow _ hb), Nat.mod_eq_of_lt (Nat.xor_lt_two_pow ha hb)]
    apply Nat.eq_of_testBit_eq
    intro i
    simp only [Nat.testBit_and, Nat.testBit_xor, Nat.zero_mod, Nat.zero_testBit]
    cases a.testBit i <;> cases b.testBit i <;> rfl)
  have h2 := congrArg BitVec.toNat h
  simp only [BitVec.toNat_add, BitVec.toNat_or, BitVec.toNat_ofNat] at h2
  rw [Nat.mod_eq_of_lt (Nat.and_lt_two_pow _ hb), Nat.mod_eq_of_lt (Nat.xor_lt_two_pow ha hb)] at h2
  rw [h2]
  apply Nat.eq_of_testBit_eq
  intro i
  simp only [Nat.testBit_and, Nat.testBit_xor, Nat.testBit_or]
  cases a.testBit i <;> cases b.testBit i <;> rfl
theorem mask_or (a b : Int) (a0 : 0 ≤ a) (a1 : a < 4294967296) (b0 : 0 ≤ b) (b1 : b < 4294967296) :
    bits .or .u32 a b = (bits .and .u32 a b + bits .xor .u32 a b) % 4294967296 := by
  rw [u32_or a b a0 a1 b0 b1, u32_and a b a0 a1 b0 b1, u32_xor a b a0 a1 b0 b1]
  have h := nat_or_sum a.toNat b.toNat (by omega) (by omega)
  omega
theorem and_bd (a b : Int) (a0 : 0 ≤ a) (a1 : a < 4294967296) (b0 : 0 ≤ b) (b1 : b < 4294967296) : 0 ≤ bits .and .u32 a b ∧ bits .and .u32 a b < 4294967296 := by
  rw [u32_and a b a0 a1 b0 b1]
  have hl : a.toNat &&& b.toNat < 2 ^ 32 := Nat.and_lt_two_pow _ (by omega)
  omega
theorem xor_bd (a b : Int) (a0 : 0 ≤ a) (a1 : a < 4294967296) (b0 : 0 ≤ b) (b1 : b < 4294967296) : 0 ≤ bits .xor .u32 a b ∧ bits .xor .u32 a b < 4294967296 := by
  rw [u32_xor a b a0 a1 b0 b1]
  have hl : a.toNat ^^^ b.toNat < 2 ^ 32 := Nat.xor_lt_two_pow (by omega) (by omega)
  omega
theorem mask_back (a b : Int) (a0 : 0 ≤ a) (a1 : a < 4294967296) (b0 : 0 ≤ b) (b1 : b < 4294967296) : bits .xor .u32 (bits .xor .u32 a b) b = a := by
  have hb := xor_bd a b a0 a1 b0 b1
  rw [u32_xor _ b hb.1 hb.2 b0 b1, u32_xor a b a0 a1 b0 b1]
  simp only [Int.toNat_natCast]
  rw [Nat.xor_assoc, Nat.xor_self, Nat.xor_zero]
  omega
theorem mask_none (a b : Int) (a0 : 0 ≤ a) (a1 : a < 4294967296) (b0 : 0 ≤ b) (b1 : b < 4294967296) : bits .and .u32 (bits .and .u32 a b) (bits .xor .u32 a b) = 0 := by
  have hb := xor_bd a b a0 a1 b0 b1
  have ha := and_bd a b a0 a1 b0 b1
  rw [u32_and _ _ ha.1 ha.2 hb.1 hb.2, u32_and a b a0 a1 b0 b1, u32_xor a b a0 a1 b0 b1]
  simp only [Int.toNat_natCast]
  have : a.toNat &&& b.toNat &&& (a.toNat ^^^ b.toNat) = 0 := by
    apply Nat.eq_of_testBit_eq
    intro i
    simp only [Nat.testBit_and, Nat.testBit_xor, Nat.zero_testBit]
    cases a.toNat.testBit i <;> cases b.toNat.testBit i <;> rfl
  omega

set_option maxHeartbeats 1000000 in
theorem masks_walk (a b : Int) (w : World) (a0 : 0 ≤ a) (a1 : a < 4294967296) (b0 : 0 ≤ b) (b1 : b < 4294967296)
    (hN : NamesIn w) (hz : 0 < w.heap.size) :
    Calls Tryd.prog 4 #[.int .u32 a, .int .u32 b] w fun e w' => e = .returned (.bool true) ∧ Below w.heap.size w w' := by
  have hn : w.cell? ⟨0, 18, none⟩ = some (.string ⟨#[108, 101, 117]⟩) := hN 18 (by decide)
  clear hN
  have ha := and_bd a b a0 a1 b0 b1
  have hx := xor_bd a b a0 a1 b0 b1
  have t1 : (bits .or .u32 a b == (bits .and .u32 a b + bits .xor .u32 a b) % 4294967296) = true := by rw [← mask_or a b a0 a1 b0 b1]; simp
  have t2 : (bits .xor .u32 (bits .xor .u32 a b) b == a) = true := by rw [mask_back a b a0 a1 b0 b1]; simp
  have t3 : (bits .and .u32 (bits .and .u32 a b) (bits .xor .u32 a b) == 0) = true := by rw [mask_none a b a0 a1 b0 b1]; simp
  go_enter Tryd.func4, Tryd.ntmps4
  go_wp2_with fail
  refine (bin_and a b _ a0 a1 b0 b1).mono ?_; rintro e w' ⟨rfl, rfl⟩
  go_wp2_with fail
  refine (bin_or a b _ a0 a1 b0 b1).mono ?_; rintro e w' ⟨rfl, rfl⟩
  go_wp2_with fail
  refine (bin_xor a b _ a0 a1 b0 b1).mono ?_; rintro e w' ⟨rfl, rfl⟩
  go_wp2_with fail
  refine (bin_add _ _ _ ha.1 ha.2 hx.1 hx.2).mono ?_; rintro e w' ⟨rfl, rfl⟩
  go_wp2_with fail
  refine (bin_xor _ b _ hx.1 hx.2 b0 b1).mono ?_; rintro e w' ⟨rfl, rfl⟩
  go_wp2_with fail
  refine (bin_and _ _ _ ha.1 ha.2 hx.1 hx.2).mono ?_; rintro e w' ⟨rfl, rfl⟩
  go_wp2_with fail
  refine (heads_any _ hn hz).mono ?_; rintro e w1 ⟨rfl, hb⟩
  go_wp2_with fail
  go_ret
  exact ⟨rfl, hb⟩

set_option maxRecDepth 100000 in
theorem masks_lifted (os : Os) (started : os.Started) (H : Type) (enc : TypeId × Value → H) :
    ReturnsInHanded {} Tryd.checked os 4 .any (fun w args => (Rows.wordMasksSpec.pre enc Tryd.prog Tryd.f4 [] false w args ∧ laidMetH Tryd.prog Rows.wordMasksRow.laid w) ∧ sizedMet enc Tryd.prog Tryd.f4 (OpenSpec.ofChange Rows.wordMasksSpec) false w args)
      (Rows.wordMasksSpec.post enc Tryd.prog Tryd.f4 false true false false) := by
  refine returnsInHanded_of_change_and (C := Tryd.checked) (X := fun w _ => laidMetH Tryd.prog Rows.wordMasksRow.laid w) (fun _ _ _ hh h => h.of_heap hh) own started (by kernel_rfl) Tryd.func4
    (ChangeSpec.witness_shaped (enc := enc) (C := Tryd.checked) (os := os) (X := fun w _ => laidMetH Tryd.prog Rows.wordMasksRow.laid w) false (World.doorLaid Tryd.prog 400 os) #[.int .u32 0, .int .u32 0] 8 rfl (World.shaped_of_RefB (by kernel_rfl) (by kernel_rfl)) (by kernel_rfl) (by kernel_rfl) (by kernel_rfl) (door_met os _)) ?_
  intro W base args ds gs before hval0 hW _ _ hL _
  have hval : ∀ (j : Nat) t v, Tryd.f4.params[j]? = some t → args[j]? = some v → Value.okWide Tryd.prog W .any base t v := hval0
  have hW' := hW
  obtain ⟨p, q, hA0, hV, rfl, hfz, hnd⟩ := hW
  have hA : DataW.TrodAll enc Tryd.prog W 0 (fun _ => true) true Tryd.f4.params.toList args.toList ds p := hA0
  rw [Tryd.params4] at hA hval
  obtain ⟨v0, vs0, d0, ds0, p0, q0, hargs, rfl, rfl, h0, r0⟩ := trodAll_cons hA
  obtain ⟨v1, vs1, d1, ds1, p1, q1, rfl, rfl, rfl, h1, r1⟩ := trodAll_cons r0
  obtain ⟨rfl, rfl, rfl⟩ := trodAll_nil r1
  obtain rfl : args = #[v0, v1] := by cases args; simp_all
  obtain ⟨rfl, rfl⟩ := trodVars_none hV
  obtain ⟨a0, rfl, rfl, rfl, w0⟩ := open_int Tryd.underlying22 (hval 0 22 v0 rfl rfl) h0
  obtain ⟨a1, rfl, rfl, rfl, w1⟩ := open_int Tryd.underlying22 (hval 1 22 v1 rfl rfl) h1
  clear hA0 hval0
  obtain ⟨hn, hz⟩ := of_laid hL
  refine (masks_walk a0 a1 W (u32_bounds w0).1 (u32_bounds w0).2 (u32_bounds w1).1 (u32_bounds w1).2 hn hz).mono fun e W' ⟨he, bel⟩ => ?_
  subst he
  exact ⟨_, rfl, _, _, _, [], _, [], hW', trodAll_mk1 (shut_bool Tryd.underlying4 _), (trodAll_cons_mk (shut_int Tryd.underlying22 w0) (trodAll_cons_mk (shut_int Tryd.underlying22 w1) trodAll_mk0)), rfl, bel.frame _, fun h => by cases h⟩

theorem masks_row : Rows.WordMasksSaid :=
  OpenClaim.holds_of_wide 4 Tryd.f4 rfl rfl rfl rfl rfl rfl rfl ⟨rfl, rfl, rfl, rfl, rfl⟩ rfl rfl rfl rfl rfl (by kernel_rfl) Tryd.func4 (by kernel_rfl)
    (of_decide_eq_true (by kernel_rfl)) (by unfold Func.isWrapper; first | (rw [if_pos (by decide +kernel)]; kernel_rfl) | (rw [if_neg (by decide +kernel)]; exact ⟨rfl, rfl⟩))
    (fun os started H enc _ => masks_lifted os started H enc)

theorem masks_holds : Rows.WordMasksCardSaid :=
  Claim7.holds_tied_plain_at .later [] [.data] true Rows.wordMasksCard.stood.harness false
    masks_row (fun _ h => by cases h) (by kernel_rfl) (fun _ h => by cases h) wordMasks_row_tie rfl ⟨rfl, rfl⟩ (by kernel_rfl) rfl
    (fun f fn hf hfn => by
      obtain rfl : f = 4 := Option.some.inj ((show Tryd.prog.funcNamed Rows.wordMasksRow.func = some 4 by kernel_rfl).symm.trans hf) |>.symm
      obtain rfl : fn = Tryd.f4 := (Option.some.inj (Tryd.func4.symm.trans hfn)).symm
      exact ⟨by kernel_rfl, fun j t ht => by
        rw [Tryd.params4] at ht
        have hm : t ∈ [22, 22] := by simpa using Array.mem_of_getElem? ht
        have hall : ([22, 22].all fun u => !Tryd.prog.wantsStandIn u) = true := by kernel_rfl
        exact (show Tryd.prog.wantsStandIn t = false by simpa using List.all_eq_true.1 hall t hm)⟩)
    (by kernel_rfl)
#print axioms masks_holds
end Go.Proofs.YtkejmenidciigaaDoor
