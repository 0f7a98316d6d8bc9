/-
  What mortiseref02's letter, digit and keyword answer: the same plain functions as package token's.
-/
import Derived.Test.YtjbmpdcgmphhoaaGreatDoorName
namespace Go.Proofs.YtjbmpdcgmphhoaaGreatDoor
open Go.RowKit
set_option linter.unusedVariables false

theorem letter_r (n : Nat) (w : World) (h : n < 256) :
    Calls Tryz.prog 44 #[.int .u8 n] w fun e w' => e = .returned (.bool (bLetter n)) ∧ w' = w := by
  go_enter Tryz.func44, Tryz.ntmps44
  go_wp2
  all_goals go_ret
  all_goals refine ⟨bool_ret ?_, rfl⟩
  all_goals (rw [Bool.eq_iff_iff]; simp_all [bLetter])
  all_goals try omega

theorem digit_r (n : Nat) (w : World) (h : n < 256) :
    Calls Tryz.prog 45 #[.int .u8 n] w fun e w' => e = .returned (.bool (decide (bDigit n < 10))) ∧ w' = w := by
  have hd : decide (bDigit n < 10) = (decide (48 ≤ n) && decide (n ≤ 57)) := by
    rw [Bool.eq_iff_iff]
    simp only [Bool.and_eq_true, decide_eq_true_eq]
    unfold bDigit
    split
    · omega
    split
    · omega
    split <;> omega
  rw [hd]
  go_enter Tryz.func45, Tryz.ntmps45
  go_wp2
  all_goals go_ret
  all_goals refine ⟨bool_ret ?_, rfl⟩
  all_goals (rw [Bool.eq_iff_iff]; simp_all)
  all_goals try omega

def wordCells : List Value := words.map fun x => .string ⟨x.toArray⟩

set_option maxRecDepth 100000 in
set_option maxHeartbeats 2000000 in
theorem keywords_r (w : World) : Calls Tryz.prog 68 #[] w fun e w' => e = .returned (.slice (some ⟨w.heap.size, 0, none⟩) 23 23) ∧ w' = w.alloc (.cells wordCells.toArray 9) := by
  go_enter Tryz.func68, Tryz.ntmps68
  go_wp2
  go_ret
  exact ⟨rfl, rfl⟩

def isWordFrom (l : List UInt8) (k : Nat) : Bool := (words.drop k).any fun x => x == l

set_option maxRecDepth 100000 in
set_option maxHeartbeats 2000000 in
theorem keyword_r (s : ByteArray) (w : World) :
    Calls Tryz.prog 47 #[.string s] w fun e w' => e = .returned (.bool (isWord s.data.toList)) ∧ Below w.heap.size w w' := by
  have hfrom : isWord s.data.toList = isWordFrom s.data.toList 0 := by
    unfold isWord isWordFrom
    rw [List.drop_zero]
    congr 1
    funext x
    rw [Bool.eq_iff_iff]; simp only [beq_iff_eq]; exact eq_comm
  have cK := keywords_r w
  generalize hR : isWord s.data.toList = R at *
  have HR : Hid (R = isWordFrom s.data.toList 0) := hfrom
  clear hfrom hR
  go_enter Tryz.func47, Tryz.ntmps47
  go_wp2_with (go_at_call 68; refine cK.mono ?_; rintro e w1 ⟨rfl, rfl⟩)
  generalize hw1 : w.alloc (.cells wordCells.toArray 9) = w1
  have HB : Hid (Below w.heap.size w w1) := by rw [← hw1]; exact (Below.refl _ w).alloc (Nat.le_refl _) _
  have HC : Hid (∀ k, k < 23 → w1.cell? ⟨w.heap.size, k, none⟩ = some (.string ⟨(words.getD k []).toArray⟩)) := by
    intro k hk
    rw [← hw1, World.cell?_alloc_mark]
    have hk2 : k < words.length := hk
    simp [wordCells, List.getElem?_eq_getElem hk2, List.getD_eq_getElem?_getD]
  clear hw1 cK
  go_loopw [4] (fun i wr => ∃ k : Nat, k ≤ 23 ∧ i = .int .i64 k ∧ w1 = wr ∧ Hid (R = isWordFrom s.data.toList k)) (fun i _ => 23 - (intOf i).toNat)
  case atStart => exact ⟨0, by omega, rfl, rfl, HR⟩
  case round =>
    obtain ⟨k, hk, rfl, hwr, HK⟩ := hrel
    subst hwr
    clear HR
    by_cases hlt : k < 23
    · have hc := HC.out k hlt
      have hstep : isWordFrom s.data.toList k = ((words.getD k [] == s.data.toList) || isWordFrom s.data.toList (k + 1)) := by
        have hk2 : k < words.length := hlt
        unfold isWordFrom
        rw [List.drop_eq_getElem_cons hk2, List.any_cons, List.getD_eq_getElem?_getD, List.getElem?_eq_getElem hk2]; rfl
      have hR := HK.out
      rw [hstep] at hR
      generalize words.getD k [] = W at *
      by_cases he : W = s.data.toList
      · have hR1 : R = true := by rw [hR, he]; simp
        subst hR1
        clear HK hR hstep
        have hb : (W == s.toList) = true := by rw [ByteArray.toList_eq, he]; simp
        have hb2 : ((ByteArray.mk W.toArray).toList == s.toList) = true := by rw [ByteArray.toList_eq, ByteArray.toList_eq, he]; simp
        clear he
        go_wp2
        go_ret
        exact ⟨rfl, HB.out⟩
      · have hR1 : R = isWordFrom s.data.toList (k + 1) := by rw [hR]; simp [he]
        have HN : Hid _ := hR1
        have hb : (W == s.toList) = false := by rw [ByteArray.toList_eq]; simpa using he
        have hb2 : ((ByteArray.mk W.toArray).toList == s.toList) = false := by rw [ByteArray.toList_eq, ByteArray.toList_eq]; simpa using he
        clear HK hR hstep he hR1
        go_wp2
        go_roundw
        case rel => exact ⟨k + 1, by omega, by go_num, trivial, HN⟩
        case measure => simp [intOf]; omega
    · have hke : k = 23 := by omega
      subst hke
      have hR1 : R = false := HK.out
      subst hR1
      go_wp2
      go_ret
      exact ⟨rfl, HB.out⟩

end Go.Proofs.YtjbmpdcgmphhoaaGreatDoor
