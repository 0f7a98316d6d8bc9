/-
  What mortiseref02's inside answers: bytes between quotes.
-/
import Derived.Test.YtjbmpdcgmphhoaaGreatDoorQuote
import Derived.Test.YtjbmpdcgmphhoaaGreatDoorUnqw
import Derived.Test.YtjbmpdcgmphhoaaGreatDoorQuoted
namespace Go.Proofs.YtjbmpdcgmphhoaaGreatDoor
open Go.RowKit
set_option linter.unusedVariables false

def insP (q : UInt8) (L : List UInt8) (k : Nat) : List UInt8 := (L.take k).flatMap (quoteB q)
theorem insP_len (q : UInt8) (L : List UInt8) (k : Nat) : (insP q L k).length ≤ 4 * k := by
  unfold insP
  have : ∀ l : List UInt8, (l.flatMap (quoteB q)).length ≤ 4 * l.length := by
    intro l
    induction l with
    | nil => simp
    | cons c r ih => rw [List.flatMap_cons, List.length_append, List.length_cons]; have := quoteB_len q c; omega
  have h := this (L.take k)
  rw [List.length_take] at h; omega
theorem insP_succ (q : UInt8) (s : ByteArray) (k : Nat) (h : k < s.size) : insP q s.data.toList (k + 1) = insP q s.data.toList k ++ quoteB q s[k] := by
  unfold insP
  have : s.data.toList.take (k + 1) = s.data.toList.take k ++ [s[k]] := by
    rw [List.take_add_one, show s.data.toList[k]? = some s[k] from by rw [Array.getElem?_toList]; exact Array.getElem?_eq_getElem h]; rfl
  rw [this, List.flatMap_append]; simp
theorem byteVals_app (a b : List UInt8) : byteVals (a ++ b) = byteVals a ++ byteVals b := by simp [byteVals]

set_option maxRecDepth 100000 in
set_option maxHeartbeats 4000000 in
theorem inside_r (q : UInt8) (s : ByteArray) (w : World) (hs : s.size ≤ 10000000) :
    Calls Tryz.prog 28 #[.string s, .int .u8 q.toNat] w fun e w' => e = .returned (.string ⟨(s.data.toList.flatMap (quoteB q)).toArray⟩) ∧ Below w.heap.size w w' := by
  obtain ⟨i0, hi0, hz0, hz1, hz2⟩ := info_parts info_u8
  have hend : s.data.toList.flatMap (quoteB q) = insP q s.data.toList s.size := by
    unfold insP; rw [List.take_of_length_le (by simp)]
  rw [hend]
  clear hend
  generalize hB : w.heap.size = B
  have HBs : Hid _ := hB
  clear hB
  go_enter Tryz.func28, Tryz.ntmps28
  go_wp2
  go_loopw [5, 6] (fun v i wr => ∃ (k : Nat), k ≤ s.size ∧ i = .int .i64 k ∧ Hid (wr.ownsRow B 5 1 v (insP q s.data.toList k).length (byteVals (insP q s.data.toList k))) ∧ Hid (Below B w wr) ∧ B ≤ wr.heap.size) (fun _ i _ => s.size - (intOf i).toNat)
  case atStart => exact ⟨0, Nat.zero_le _, rfl, World.ownsRow_nil _ _ _ _, Below.refl _ _, Nat.le_of_eq HBs.out.symm⟩
  case round =>
    obtain ⟨k, hk, rfl, HOWN, HBEL, hsz⟩ := hrel
    have hil := insP_len q s.data.toList k
    by_cases hlt : k < s.size
    · have hst := insP_succ q s k hlt
      have h256 := (s[k]).toNat_lt
      have h10 : s[k] = 10 ↔ (s[k]).toNat = 10 := (UInt8.toNat_inj (b := 10)).symm
      have h92 : s[k] = 92 ↔ (s[k]).toNat = 92 := (UInt8.toNat_inj (b := 92)).symm
      have hqq : s[k] = q ↔ (s[k]).toNat = q.toNat := UInt8.toNat_inj.symm
      unfold quoteB at hst
      by_cases c10 : s[k] = 10
      · rw [if_pos c10] at hst
        have g1 : ((s[k]).toNat : Int) = 10 := by have := h10.1 c10; omega
        have HST : Hid _ := hst
        clear hst h10 h92 hqq c10
        generalize insP q s.data.toList k = A at *
        go_wp2_with (at_builtin; go_must (refine wpList_append_own _ rfl (.tmp 33) (.tmp 34) 58 rfl B 5 i0 (.int .u8 0) 1 1 Tryz.underlying58 hi0 hz0 hz1 hz2 rfl (by decide) _ _ _ rfl (HOWN.out.alloc _) ⟨_, 0, none⟩ 2 2 [.int .u8 92, .int .u8 110] rfl rfl (cells_at_new _ _ _) ?c2 ?c3 ?c4 ?c5 ?_))
        case c2 => intro u hu; simp at hu; rcases hu with rfl | rfl <;> rfl
        case c3 => unfold maxLen; omega
        case c4 => omega
        case c5 => simp; omega
        intro v' w2 hown' hgrow _
        have RR : Hid (w2.ownsRow B 5 1 v' (insP q s.data.toList (k + 1)).length (byteVals (insP q s.data.toList (k + 1))) ∧ Below B w w2 ∧ B ≤ w2.heap.size) := by
          refine ⟨?_, (HBEL.out.alloc hsz _).grown hgrow (by simp; omega) (fun j hj => (HOWN.out.lt j hj).1), ?_⟩
          · rw [HST.out, byteVals_app, List.length_append]; exact hown'
          · have := hgrow.size; simp at this; omega
        clear hown' hgrow
        go_wp2
        go_roundw
        case rel => exact ⟨k + 1, by omega, by go_num, RR.out.1, RR.out.2.1, RR.out.2.2⟩
        case measure => simp [intOf]; omega
      rw [if_neg c10] at hst
      have g1 : ¬ (((s[k]).toNat : Int) = 10) := by have := mt h10.2 c10; omega
      by_cases cq : s[k] = 92 ∨ s[k] = q
      · rw [if_pos cq] at hst
        have gq : (((s[k]).toNat : Int) == 92) = true ∨ ((((s[k]).toNat : Int) == 92) = false ∧ (((s[k]).toNat : Int) == q.toNat) = true) := by
          simp only [beq_iff_eq, beq_eq_false_iff_ne]
          rcases cq with h | h
          · left; have := h92.1 h; omega
          · by_cases h2 : (s[k]).toNat = 92
            · left; omega
            · right; have := hqq.1 h; omega
        have HST : Hid _ := hst
        clear hst h10 h92 hqq cq
        generalize insP q s.data.toList k = A at *
        rcases gq with g2 | ⟨g2, g3⟩
        all_goals
          go_wp2_with (at_builtin; go_must (refine wpList_append_own _ rfl (.tmp 44) (.tmp 46) 58 rfl B 5 i0 (.int .u8 0) 1 1 Tryz.underlying58 hi0 hz0 hz1 hz2 rfl (by decide) _ _ _ rfl (HOWN.out.alloc _) ⟨_, 0, none⟩ 2 2 [.int .u8 92, .int .u8 (s[k]).toNat] rfl rfl (cells_at_new _ _ _) ?c2 ?c3 ?c4 ?c5 ?_))
          case c2 => intro u hu; simp at hu; rcases hu with rfl | rfl <;> rfl
          case c3 => unfold maxLen; omega
          case c4 => omega
          case c5 => simp; omega
          intro v' w2 hown' hgrow _
          have RR : Hid (w2.ownsRow B 5 1 v' (insP q s.data.toList (k + 1)).length (byteVals (insP q s.data.toList (k + 1))) ∧ Below B w w2 ∧ B ≤ w2.heap.size) := by
            refine ⟨?_, (HBEL.out.alloc hsz _).grown hgrow (by simp; omega) (fun j hj => (HOWN.out.lt j hj).1), ?_⟩
            · rw [HST.out, byteVals_app, List.length_append]; exact hown'
            · have := hgrow.size; simp at this; omega
          clear hown' hgrow
          go_wp2
          go_roundw
          case rel => exact ⟨k + 1, by omega, by go_num, RR.out.1, RR.out.2.1, RR.out.2.2⟩
          case measure => simp [intOf]; omega
      rw [if_neg cq] at hst
      have g2 : (((s[k]).toNat : Int) == 92) = false := by rw [beq_eq_false_iff_ne]; intro e; exact cq (.inl (h92.2 (by omega)))
      have g3 : (((s[k]).toNat : Int) == q.toNat) = false := by rw [beq_eq_false_iff_ne]; intro e; exact cq (.inr (hqq.2 (by omega)))
      by_cases cp : 32 ≤ (s[k]).toNat ∧ (s[k]).toNat ≤ 126
      · rw [if_pos cp] at hst
        have g4 : decide ((32 : Int) ≤ (s[k]).toNat) = true := by simp; omega
        have g5 : decide (((s[k]).toNat : Int) ≤ 126) = true := by simp; omega
        have HST : Hid _ := hst
        clear hst h10 h92 hqq cq c10
        generalize insP q s.data.toList k = A at *
        go_wp2_with (at_builtin; go_must (refine wpList_append_own _ rfl (.tmp 55) (.tmp 57) 58 rfl B 5 i0 (.int .u8 0) 1 1 Tryz.underlying58 hi0 hz0 hz1 hz2 rfl (by decide) _ _ _ rfl (HOWN.out.alloc _) ⟨_, 0, none⟩ 1 1 [.int .u8 (s[k]).toNat] rfl rfl (cells_at_new _ _ _) ?c2 ?c3 ?c4 ?c5 ?_))
        case c2 => intro u hu; simp at hu; subst hu; rfl
        case c3 => unfold maxLen; omega
        case c4 => omega
        case c5 => simp; omega
        intro v' w2 hown' hgrow _
        have RR : Hid (w2.ownsRow B 5 1 v' (insP q s.data.toList (k + 1)).length (byteVals (insP q s.data.toList (k + 1))) ∧ Below B w w2 ∧ B ≤ w2.heap.size) := by
          refine ⟨?_, (HBEL.out.alloc hsz _).grown hgrow (by simp; omega) (fun j hj => (HOWN.out.lt j hj).1), ?_⟩
          · rw [HST.out, byteVals_app, List.length_append]; exact hown'
          · have := hgrow.size; simp at this; omega
        clear hown' hgrow
        go_wp2
        go_roundw
        case rel => exact ⟨k + 1, by omega, by go_num, RR.out.1, RR.out.2.1, RR.out.2.2⟩
        case measure => simp [intOf]; omega
      · rw [if_neg cp] at hst
        have hoc := oct_cells (s[k]).toNat h256
        have HST : Hid _ := hst
        have HOC : Hid (byteVals [92, (48 + (s[k]).toNat / 64).toUInt8, (48 + (s[k]).toNat / 8 % 8).toUInt8, (48 + (s[k]).toNat % 8).toUInt8] = _) := hoc
        have g4 : decide ((32 : Int) ≤ (s[k]).toNat) = false ∨ (decide ((32 : Int) ≤ (s[k]).toNat) = true ∧ decide (((s[k]).toNat : Int) ≤ 126) = false) := by
          simp only [decide_eq_false_iff_not, decide_eq_true_eq]; omega
        clear hst hoc h10 h92 hqq cq c10 cp
        generalize insP q s.data.toList k = A at *
        rcases g4 with g4 | ⟨g4, g5⟩
        all_goals
          go_wp2_with (at_builtin; go_must (refine wpList_append_own _ rfl (.tmp 17) (.tmp 28) 58 rfl B 5 i0 (.int .u8 0) 1 1 Tryz.underlying58 hi0 hz0 hz1 hz2 rfl (by decide) _ _ _ rfl (HOWN.out.alloc _) ⟨_, 0, none⟩ 4 4 [.int .u8 92, .int .u8 (48 + ((s[k]).toNat : Int) / 64), .int .u8 (48 + ((s[k]).toNat : Int) / 8 % 8), .int .u8 (48 + ((s[k]).toNat : Int) % 8)] rfl rfl (cells_at_new _ _ _) ?c2 ?c3 ?c4 ?c5 ?_))
          case c2 => intro u hu; simp at hu; rcases hu with rfl | rfl | rfl | rfl <;> rfl
          case c3 => unfold maxLen; omega
          case c4 => omega
          case c5 => simp; omega
          intro v' w2 hown' hgrow _
          have RR : Hid (w2.ownsRow B 5 1 v' (insP q s.data.toList (k + 1)).length (byteVals (insP q s.data.toList (k + 1))) ∧ Below B w w2 ∧ B ≤ w2.heap.size) := by
            refine ⟨?_, (HBEL.out.alloc hsz _).grown hgrow (by simp; omega) (fun j hj => (HOWN.out.lt j hj).1), ?_⟩
            · rw [HST.out, byteVals_app, List.length_append, HOC.out]; exact hown'
            · have := hgrow.size; simp at this; omega
          clear hown' hgrow
          go_wp2
          go_roundw
          case rel => exact ⟨k + 1, by omega, by go_num, RR.out.1, RR.out.2.1, RR.out.2.2⟩
          case measure => simp [intOf]; omega
    · have hke : k = s.size := by omega
      subst hke
      have hconv := convert_own HOWN.out
      go_wp2
      go_ret
      exact ⟨rfl, HBEL.out⟩
end Go.Proofs.YtjbmpdcgmphhoaaGreatDoor
