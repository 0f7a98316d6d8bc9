/-
  What mortiseref02's Name answers: the same as package token's.
-/
import Derived.Test.YtjbmpdcgmphhoaaDoorRefNm
namespace Go.Proofs.YtjbmpdcgmphhoaaDoor
open Go.RowKit
set_option linter.unusedVariables false

theorem all_drop (p : Nat → Bool) (s : ByteArray) (k : Nat) (h : k < s.size) :
    (s.data.toList.drop k).all (fun x => p x.toNat) = (p (s[k]).toNat && (s.data.toList.drop (k + 1)).all (fun x => p x.toNat)) := by
  rw [drop_get s k h]; rfl

set_option maxRecDepth 100000 in
set_option maxHeartbeats 2000000 in
theorem name_r (s : ByteArray) (w : World) (hs : s.size ≤ 9223372036854775807) :
    Calls Tryd.prog 10 #[.string s] w fun e w' => e = .returned (.bool (isName s.data.toList)) ∧ Below w.heap.size w w' := by
  have hn0 : ∀ W : World, (Op.unary UnOp.not (.bool false)).run Tryd.prog W = .ok (.bool true) W := fun _ => rfl
  have hn1 : ∀ W : World, (Op.unary UnOp.not (.bool true)).run Tryd.prog W = .ok (.bool false) W := fun _ => rfl
  by_cases h0 : s.size = 0
  · have hl : s.data.toList = [] := by
      have : s.data.toList.length = 0 := by simpa using h0
      exact List.eq_nil_of_length_eq_zero this
    rw [hl]
    have g0 : ((s.size : Int) == 0) = true := by rw [beq_iff_eq]; omega
    go_enter Tryd.func10, Tryd.ntmps10
    go_wp2
    go_ret
    exact ⟨rfl, Below.refl _ _⟩
  have h0' : 0 < s.size := by omega
  have g0 : ((s.size : Int) == 0) = false := by rw [beq_eq_false_iff_ne]; omega
  have hcons := drop_get s 0 h0'
  rw [List.drop_zero] at hcons
  have hlen : s.data.toList.length = s.size := by simp
  have hI : isName s.data.toList = (bLetter (s[0]).toNat && decide (s.size ≤ 63) && s.data.toList.all (fun x => bName x.toNat) && !isWord s.data.toList) := by
    rw [← hlen, hcons]; exact refName_plain _ _
  have cL := fun W => letter_r (s[0]).toNat W (s[0]).toNat_lt
  by_cases h63 : 63 < s.size
  · have hf : isName s.data.toList = false := by rw [hI]; simp; omega
    rw [hf]
    have g1 : decide ((63 : Int) < s.size) = true := by simp; omega
    go_enter Tryd.func10, Tryd.ntmps10
    go_wp2
    go_ret
    exact ⟨rfl, Below.refl _ _⟩
  have g1 : decide ((63 : Int) < s.size) = false := by simp; omega
  rcases hL : bLetter (s[0]).toNat with _ | _
  · have hf : isName s.data.toList = false := by rw [hI, hL]; rfl
    rw [hf]
    rw [hL] at cL
    go_enter Tryd.func10, Tryd.ntmps10
    go_wp2_with (go_at_call 25; refine (cL _).mono ?_; rintro e w' ⟨rfl, rfl⟩)
    go_ret
    exact ⟨rfl, Below.refl _ _⟩
  rw [hL] at cL
  have hR : isName s.data.toList = ((s.data.toList.drop 0).all (fun x => bName x.toNat) && !isWord s.data.toList) := by
    rw [hI, hL, List.drop_zero, show decide (s.size ≤ 63) = true by simp; omega]; rfl
  have cK := fun W => keyword_r s W
  generalize isName s.data.toList = R at *
  have HR : Hid _ := hR
  clear hR hI hcons hlen h63
  generalize isWord s.data.toList = iw at *
  go_enter Tryd.func10, Tryd.ntmps10
  go_wp2_with (go_at_call 25; refine (cL _).mono ?_; rintro e w' ⟨rfl, rfl⟩)
  rename_i w1
  clear cL
  go_loop [3] (fun i => ∃ k : Nat, i = .int .i64 k ∧ k ≤ s.size ∧ Hid (R = ((s.data.toList.drop k).all (fun x => bName x.toNat) && !iw))) (fun i => s.size - (intOf i).toNat)
  case atStart => exact ⟨0, rfl, Nat.zero_le _, HR⟩
  case round =>
    obtain ⟨k, rfl, hk, HK⟩ := hrel
    clear HR
    by_cases hlt : k < s.size
    · have hst := HK.out
      rw [all_drop bName s k hlt] at hst
      have c1 := fun W => letter_r (s[k]).toNat W (s[k]).toNat_lt
      have c2 := fun W => digit_r (s[k]).toNat W (s[k]).toNat_lt
      clear HK
      rcases hN : bName (s[k]).toNat with _ | _
      · rw [hN] at hst
        have hf : R = false := by rw [hst]; rfl
        subst hf
        have hb1 : bLetter (s[k]).toNat = false := by
          rcases h : bLetter (s[k]).toNat with _ | _
          · rfl
          · simp [bName, h] at hN
        have hb2 : decide (bDigit (s[k]).toNat < 10) = false := by
          rcases h : decide (bDigit (s[k]).toNat < 10) with _ | _
          · rfl
          · simp [bName, h] at hN
        rw [hb1] at c1
        rw [hb2] at c2
        clear hst hN
        go_wp2_with (first | (go_at_call 25; refine (c1 _).mono ?_; rintro e w' ⟨rfl, rfl⟩) | (go_at_call 26; refine (c2 _).mono ?_; rintro e w' ⟨rfl, rfl⟩))
        go_ret
        exact ⟨rfl, Below.refl _ _⟩
      · rw [hN, Bool.true_and] at hst
        have HN : Hid _ := hst
        rcases hb1 : bLetter (s[k]).toNat with _ | _
        · have hb2 : decide (bDigit (s[k]).toNat < 10) = true := by
            rcases h : decide (bDigit (s[k]).toNat < 10) with _ | _
            · simp [bName, hb1, h] at hN
            · rfl
          rw [hb1] at c1
          rw [hb2] at c2
          clear hst hN
          go_wp2_with (first | (go_at_call 25; refine (c1 _).mono ?_; rintro e w' ⟨rfl, rfl⟩) | (go_at_call 26; refine (c2 _).mono ?_; rintro e w' ⟨rfl, rfl⟩))
          refine ⟨⟨k + 1, by go_num, by omega, HN⟩, by simp [intOf]; omega⟩
        · rw [hb1] at c1
          clear hst hN
          go_wp2_with (first | (go_at_call 25; refine (c1 _).mono ?_; rintro e w' ⟨rfl, rfl⟩) | (go_at_call 26; refine (c2 _).mono ?_; rintro e w' ⟨rfl, rfl⟩))
          refine ⟨⟨k + 1, by go_num, by omega, HN⟩, by simp [intOf]; omega⟩
    · have hst := HK.out
      rw [List.drop_eq_nil_of_le (by simp; omega)] at hst
      simp only [List.all_nil, Bool.true_and] at hst
      subst hst
      clear HK
      go_wp2_with (go_at_call 27; refine (cK _).mono ?_; rintro e w' ⟨rfl, hb⟩)
      go_ret
      exact ⟨rfl, hb⟩
end Go.Proofs.YtjbmpdcgmphhoaaDoor
