/-
  The law WordShifts returns true at every two numbers of 32 bits, and each argument reads afterwards as before. No condition beyond the given statement's own (the table of names holds what the program's text lays into it).
-/
import Derived.Test.YtkejmenidciigaaDoorFrame
import Derived.Test.YtkejmenidciigaaDoorTie
import Derived.Test.YtkejmenidciigaaDoorCards
import Derived.Laws.BitsAllLaws
import Derived.Below
import Derived.SevenTiedAt
namespace Go.Proofs.YtkejmenidciigaaDoor
open Go.ChangeShapes Go.WideShapes Go.ChangeAt Go.RowKit

theorem pow_bd (n : Int) : 1 ≤ (2 : Int) ^ (n % 32).toNat ∧ (2 : Int) ^ (n % 32).toNat ≤ 2147483648 := by
  have h : (n % 32).toNat ≤ 31 := by omega
  have h1 : (2 : Nat) ^ (n % 32).toNat ≤ 2 ^ 31 := Nat.pow_le_pow_right (by decide) h
  have h2 : 1 ≤ (2 : Nat) ^ (n % 32).toNat := Nat.one_le_two_pow
  have h3 : ((2 ^ (n % 32).toNat : Nat) : Int) = (2 : Int) ^ (n % 32).toNat := by simp
  rw [← h3]
  omega
/-- Moving down with copies: what comes out is the signed number divided, and keeps its sign. -/
theorem copies_of (a P : Int) (p0 : 1 ≤ P) : wrap32 (wrap32 a / P % 4294967296) = wrap32 a / P ∧ (wrap32 a / P < 0 ↔ wrap32 a < 0) := by
  have hb : -2147483648 ≤ wrap32 a ∧ wrap32 a < 2147483648 := by unfold wrap32; omega
  generalize wrap32 a = s at *
  have h1 : s / P < 0 ↔ s < 0 := by
    constructor
    · intro h
      by_cases hs : 0 ≤ s
      · have := Int.ediv_nonneg hs (by omega : 0 ≤ P); omega
      · omega
    · intro h
      exact Int.ediv_neg_of_neg_of_pos h (by omega)
  have h2 : s / P < 2147483648 := by
    by_cases hs : 0 ≤ s
    · have := Int.ediv_le_self P hs; omega
    · have := h1.2 (by omega); omega
  have h3 : -2147483648 ≤ s / P := by
    rw [Int.le_ediv_iff_mul_le (by omega)]
    have : (2147483648 : Int) * 1 ≤ 2147483648 * P := Int.mul_le_mul_of_nonneg_left p0 (by decide)
    omega
  refine ⟨?_, h1⟩
  generalize s / P = q at *
  unfold wrap32
  omega

set_option maxHeartbeats 1000000 in
theorem shifts_walk (a n : Int) (w : World) (a0 : 0 ≤ a) (a1 : a < 4294967296) (n0 : 0 ≤ n) (n1 : n < 4294967296)
    (hN : NamesIn w) (hz : 0 < w.heap.size) :
    Calls Tryd.prog 3 #[.int .u32 a, .int .u32 n] w fun e w' => e = .returned (.bool true) ∧ Below w.heap.size w w' := by
  have hn : w.cell? ⟨0, 18, none⟩ = some (.string ⟨#[108, 101, 117]⟩) := hN 18 (by decide)
  clear hN
  have hs0 : 0 ≤ n % 32 := by omega
  have hs1 : n % 32 ≤ 32 := by omega
  have hs2 : n % 32 < 4294967296 := by omega
  have hp := pow_bd n
  have hT : (0 : Int) < 2 ^ (n % 32).toNat ∧ (2 : Int) ^ (n % 32).toNat < 4294967296 := by omega
  have hC : 0 ≤ wrap32 a / 2 ^ (n % 32).toNat % 4294967296 ∧ wrap32 a / 2 ^ (n % 32).toNat % 4294967296 < 4294967296 := by omega
  have t3 : (wrap32 (wrap32 a / 2 ^ (n % 32).toNat % 4294967296) % 4294967296 == wrap32 a / 2 ^ (n % 32).toNat % 4294967296) = true := by
    rw [(copies_of a _ hp.1).1]; simp
  have t5 : (decide (wrap64 (wrap32 (wrap32 a / 2 ^ (n % 32).toNat % 4294967296)) < 0) == decide (wrap64 (wrap32 a) < 0)) = true := by
    have h := copies_of a _ hp.1
    rw [h.1]
    have hw : ∀ s : Int, -2147483648 ≤ s → s < 2147483648 → wrap64 s = s := by intro s h1 h2; unfold wrap64; omega
    have hb : -2147483648 ≤ wrap32 a ∧ wrap32 a < 2147483648 := by unfold wrap32; omega
    have hb2 : -2147483648 ≤ wrap32 a / 2 ^ (n % 32).toNat ∧ wrap32 a / 2 ^ (n % 32).toNat < 2147483648 := by
      rw [← h.1]; unfold wrap32; omega
    rw [hw _ hb.1 hb.2, hw _ hb2.1 hb2.2]
    simp only [h.2, beq_self_eq_true]
  go_enter Tryd.func3, Tryd.ntmps3
  go_wp2_with fail
  refine (bin_shl a n _ a0 a1 n0 n1).mono ?_; rintro e w' ⟨rfl, rfl⟩
  go_wp2_with fail
  refine (bin_mul a _ _ a0 a1 (Int.le_of_lt hT.1) hT.2).mono ?_; rintro e w' ⟨rfl, rfl⟩
  go_wp2_with fail
  refine (bin_shru a n _ a0 a1 n0 n1).mono ?_; rintro e w' ⟨rfl, rfl⟩
  go_wp2_with fail
  refine (bin_divu a _ _ a0 a1 hT.1 hT.2).mono ?_; rintro e w' ⟨rfl, rfl⟩
  go_wp2_with fail
  refine (bin_shrs a n _ a0 a1 n0 n1).mono ?_; rintro e w' ⟨rfl, rfl⟩
  go_wp2_with fail
  refine (bin_shrs _ 0 _ hC.1 hC.2 (by decide) (by decide)).mono ?_; rintro e w' ⟨rfl, rfl⟩
  go_wp2_with fail
  refine (bin_shl a _ _ a0 a1 hs0 hs2).mono ?_; rintro e w' ⟨rfl, rfl⟩
  go_wp2_with fail
  refine (int_any _ _).mono ?_; rintro e w' ⟨rfl, rfl⟩
  go_wp2_with fail
  refine (int_any _ _).mono ?_; rintro e w' ⟨rfl, rfl⟩
  go_wp2_with fail
  refine (heads_any _ hn hz).mono ?_; rintro e w1 ⟨rfl, hb⟩
  go_wp2_with fail
  go_ret
  exact ⟨rfl, hb⟩

set_option maxRecDepth 100000 in
theorem shifts_lifted (os : Os) (started : os.Started) (H : Type) (enc : TypeId × Value → H) :
    ReturnsInHanded {} Tryd.checked os 3 .any (fun w args => (Rows.wordShiftsSpec.pre enc Tryd.prog Tryd.f3 [] false w args ∧ laidMetH Tryd.prog Rows.wordShiftsRow.laid w) ∧ sizedMet enc Tryd.prog Tryd.f3 (OpenSpec.ofChange Rows.wordShiftsSpec) false w args)
      (Rows.wordShiftsSpec.post enc Tryd.prog Tryd.f3 false true false false) := by
  refine returnsInHanded_of_change_and (C := Tryd.checked) (X := fun w _ => laidMetH Tryd.prog Rows.wordShiftsRow.laid w) (fun _ _ _ hh h => h.of_heap hh) own started (by kernel_rfl) Tryd.func3
    (ChangeSpec.witness_shaped (enc := enc) (C := Tryd.checked) (os := os) (X := fun w _ => laidMetH Tryd.prog Rows.wordShiftsRow.laid w) false (World.doorLaid Tryd.prog 400 os) #[.int .u32 0, .int .u32 0] 8 rfl (World.shaped_of_RefB (by kernel_rfl) (by kernel_rfl)) (by kernel_rfl) (by kernel_rfl) (by kernel_rfl) (door_met os _)) ?_
  intro W base args ds gs before hval0 hW _ _ hL _
  have hval : ∀ (j : Nat) t v, Tryd.f3.params[j]? = some t → args[j]? = some v → Value.okWide Tryd.prog W .any base t v := hval0
  have hW' := hW
  obtain ⟨p, q, hA0, hV, rfl, hfz, hnd⟩ := hW
  have hA : DataW.TrodAll enc Tryd.prog W 0 (fun _ => true) true Tryd.f3.params.toList args.toList ds p := hA0
  rw [Tryd.params3] at hA hval
  obtain ⟨v0, vs0, d0, ds0, p0, q0, hargs, rfl, rfl, h0, r0⟩ := trodAll_cons hA
  obtain ⟨v1, vs1, d1, ds1, p1, q1, rfl, rfl, rfl, h1, r1⟩ := trodAll_cons r0
  obtain ⟨rfl, rfl, rfl⟩ := trodAll_nil r1
  obtain rfl : args = #[v0, v1] := by cases args; simp_all
  obtain ⟨rfl, rfl⟩ := trodVars_none hV
  obtain ⟨a0, rfl, rfl, rfl, w0⟩ := open_int Tryd.underlying22 (hval 0 22 v0 rfl rfl) h0
  obtain ⟨a1, rfl, rfl, rfl, w1⟩ := open_int Tryd.underlying22 (hval 1 22 v1 rfl rfl) h1
  clear hA0 hval0
  obtain ⟨hn, hz⟩ := of_laid hL
  refine (shifts_walk a0 a1 W (u32_bounds w0).1 (u32_bounds w0).2 (u32_bounds w1).1 (u32_bounds w1).2 hn hz).mono fun e W' ⟨he, bel⟩ => ?_
  subst he
  exact ⟨_, rfl, _, _, _, [], _, [], hW', trodAll_mk1 (shut_bool Tryd.underlying4 _), (trodAll_cons_mk (shut_int Tryd.underlying22 w0) (trodAll_cons_mk (shut_int Tryd.underlying22 w1) trodAll_mk0)), rfl, bel.frame _, fun h => by cases h⟩

theorem shifts_row : Rows.WordShiftsSaid :=
  OpenClaim.holds_of_wide 3 Tryd.f3 rfl rfl rfl rfl rfl rfl rfl ⟨rfl, rfl, rfl, rfl, rfl⟩ rfl rfl rfl rfl rfl (by kernel_rfl) Tryd.func3 (by kernel_rfl)
    (of_decide_eq_true (by kernel_rfl)) (by unfold Func.isWrapper; first | (rw [if_pos (by decide +kernel)]; kernel_rfl) | (rw [if_neg (by decide +kernel)]; exact ⟨rfl, rfl⟩))
    (fun os started H enc _ => shifts_lifted os started H enc)

theorem shifts_holds : Rows.WordShiftsCardSaid :=
  Claim7.holds_tied_plain_at .later [] [.data] true Rows.wordShiftsCard.stood.harness false
    shifts_row (fun _ h => by cases h) (by kernel_rfl) (fun _ h => by cases h) wordShifts_row_tie rfl ⟨rfl, rfl⟩ (by kernel_rfl) rfl
    (fun f fn hf hfn => by
      obtain rfl : f = 3 := Option.some.inj ((show Tryd.prog.funcNamed Rows.wordShiftsRow.func = some 3 by kernel_rfl).symm.trans hf) |>.symm
      obtain rfl : fn = Tryd.f3 := (Option.some.inj (Tryd.func3.symm.trans hfn)).symm
      exact ⟨by kernel_rfl, fun j t ht => by
        rw [Tryd.params3] at ht
        have hm : t ∈ [22, 22] := by simpa using Array.mem_of_getElem? ht
        have hall : ([22, 22].all fun u => !Tryd.prog.wantsStandIn u) = true := by kernel_rfl
        exact (show Tryd.prog.wantsStandIn t = false by simpa using List.all_eq_true.1 hall t hm)⟩)
    (by kernel_rfl)
#print axioms shifts_holds
end Go.Proofs.YtkejmenidciigaaDoor
