/-
  The given answer's Word and Tag.
  What package ctype's functions on texts answer: isDigit, isLetter, isName, isNumbered, Tag.
  What isName, isNumbered and Tag answer.
-/
import Derived.Test.YtaaphipbkpjkjaaGreatDoorChecked
import Derived.Deep.QuietTactic
import Derived.BigQuiet
import Derived.LoopN
import Derived.Below
import Derived.Shelf.Abstract
import Derived.Test.YtaaphipbkpjkjaaGreatDoorKA
namespace Go.Proofs.YtaaphipbkpjkjaaGreatDoor
open Go.RowKit
set_option linter.unusedVariables false

def tDigit (n : Nat) : Bool := decide (48 ≤ n) && decide (n ≤ 57)
def tLetter (n : Nat) : Bool := (decide (97 ≤ n) && decide (n ≤ 122)) || (decide (65 ≤ n) && decide (n ≤ 90)) || n == 95

theorem bool_ret {x y : Bool} (h : x = y) : Ending.returned (.bool x) = .returned (.bool y) := by rw [h]

theorem tDigit_c (n : Nat) (w : World) (h : n < 256) :
    Calls Tryz.prog 107 #[.int .u8 n] w fun e w' => e = .returned (.bool (tDigit n)) ∧ w' = w := by
  go_enter Tryz.func107, Tryz.ntmps107
  go_wp2
  all_goals go_ret
  all_goals refine ⟨bool_ret ?_, rfl⟩
  all_goals (rw [Bool.eq_iff_iff]; simp [tDigit]; omega)

theorem tLetter_c (n : Nat) (w : World) (h : n < 256) :
    Calls Tryz.prog 108 #[.int .u8 n] w fun e w' => e = .returned (.bool (tLetter n)) ∧ w' = w := by
  go_enter Tryz.func108, Tryz.ntmps108
  go_wp2
  all_goals go_ret
  all_goals refine ⟨bool_ret ?_, rfl⟩
  all_goals (rw [Bool.eq_iff_iff]; simp [tLetter]; omega)
end Go.Proofs.YtaaphipbkpjkjaaGreatDoor
namespace Go.Proofs.YtaaphipbkpjkjaaGreatDoor
open Go.RowKit
set_option linter.unusedVariables false
set_option maxRecDepth 100000

def tChar (n : Nat) : Bool := tLetter n || tDigit n
def nameL (l : List UInt8) : Bool := l.all fun c => tChar c.toNat
def digL (l : List UInt8) : Bool := l.all fun c => tDigit c.toNat
/-- A tag without a sharp. -/
def nameP (l : List UInt8) : Bool := match l with | [] => false | c :: r => decide ((c :: r).length ≤ 63) && !tDigit c.toNat && nameL (c :: r)
def numbP (l : List UInt8) : Bool := decide (2 ≤ l.length) && decide (l.length ≤ 10) && (match l with | [] => false | c :: r => c.toNat == 35 && digL r)
def tagP (l : List UInt8) : Bool := nameP l || numbP l

theorem drop_get (s : ByteArray) (k : Nat) (h : k < s.size) : s.data.toList.drop k = s[k] :: s.data.toList.drop (k + 1) := by
  have hl : k < s.data.toList.length := by simpa using h
  rw [List.drop_eq_getElem_cons hl]; simp; rfl

set_option maxHeartbeats 1000000 in
theorem isName_c (s : ByteArray) (w : World) (hs : s.size ≤ 9223372036854775807) :
    Calls Tryz.prog 76 #[.string s] w fun e w' => e = .returned (.bool (nameP s.data.toList)) ∧ w' = w := by
  by_cases h0 : s.size = 0
  · have hl : s.data.toList = [] := by
      have : s.data.toList.length = 0 := by simpa using h0
      exact List.eq_nil_of_length_eq_zero this
    have hnil : s.toList = [] := by rw [ByteArray.toList_eq]; exact hl
    rw [hl]
    go_enter Tryz.func76, Tryz.ntmps76
    go_wp2
    go_ret
    exact ⟨rfl, rfl⟩
  have h0' : 0 < s.size := by omega
  have hcons := drop_get s 0 h0'
  rw [List.drop_zero] at hcons
  have hne : (s.toList == []) = false := by rw [ByteArray.toList_eq, hcons]; rfl
  have hne2 : s.toList.isEmpty = false := by rw [ByteArray.toList_eq, hcons]; rfl
  have hlen : s.data.toList.length = s.size := by simp
  have HI : Hid (nameP s.data.toList = (decide (s.size ≤ 63) && !tDigit (s[0]).toNat && nameL s.data.toList)) := by
    show _ = _
    rw [← hlen, hcons]; rfl
  clear hcons
  have h1 := not_f
  have h2 := not_t
  by_cases hle : s.size ≤ 63
  · have cD := fun W => tDigit_c (s[0]).toNat W (s[0]).toNat_lt
    rcases hd : tDigit (s[0]).toNat with _ | _
    · rw [hd] at cD
      have hL : nameP s.data.toList = nameL s.data.toList := by rw [HI.out, hd]; simp [hle]
      rw [hL]
      clear HI hL
      go_enter Tryz.func76, Tryz.ntmps76
      go_wp2_with (go_at_call 107; refine (cD _).mono ?_; rintro e w' ⟨rfl, rfl⟩)
      clear cD
      go_loop [18] (fun i => ∃ k : Nat, i = .int .i64 k ∧ k ≤ s.size ∧ Hid (nameL s.data.toList = nameL (s.data.toList.drop k))) (fun i => s.size - (intOf i).toNat)
      case atStart => exact ⟨0, rfl, Nat.zero_le _, by simp [Hid]⟩
      case round =>
        obtain ⟨k, rfl, hk, hR⟩ := hrel
        by_cases hlt : k < s.size
        · have HN : Hid (nameL (s.data.toList.drop k) = (tChar (s[k]).toNat && nameL (s.data.toList.drop (k + 1)))) := by
            show _ = _
            rw [drop_get s k hlt]; rfl
          have hn : (s[k]).toNat < 256 := (s[k]).toNat_lt
          have cL := fun W => tLetter_c _ W hn
          have cD := fun W => tDigit_c _ W hn
          unfold tChar at HN
          rcases hl : tLetter (s[k]).toNat with _ | _ <;> rcases hg : tDigit (s[k]).toNat with _ | _ <;> rw [hl] at cL HN <;> rw [hg] at cD HN
          · go_wp2_with (first | (go_at_call 108; refine (cL _).mono ?_; rintro e w' ⟨rfl, rfl⟩) | (go_at_call 107; refine (cD _).mono ?_; rintro e w' ⟨rfl, rfl⟩))
            go_ret
            exact ⟨bool_ret (by rw [hR.out, HN.out]; rfl), rfl⟩
          all_goals go_wp2_with (first | (go_at_call 108; refine (cL _).mono ?_; rintro e w' ⟨rfl, rfl⟩) | (go_at_call 107; refine (cD _).mono ?_; rintro e w' ⟨rfl, rfl⟩))
          all_goals refine ⟨⟨k + 1, by go_num, by omega, ?_⟩, by simp [intOf]; omega⟩
          all_goals (show _ = _; rw [hR.out, HN.out]; rfl)
        · go_wp2
          go_ret
          refine ⟨bool_ret ?_, rfl⟩
          have h1 := hR.out
          rw [List.drop_eq_nil_of_le (by simp only [Array.length_toList]; show s.size ≤ k; omega)] at h1
          rw [h1]; rfl
    · rw [hd] at cD
      go_enter Tryz.func76, Tryz.ntmps76
      go_wp2_with (go_at_call 107; refine (cD _).mono ?_; rintro e w' ⟨rfl, rfl⟩)
      go_ret
      refine ⟨bool_ret ?_, rfl⟩
      rw [HI.out, hd]; simp
  · go_enter Tryz.func76, Tryz.ntmps76
    go_wp2
    go_ret
    refine ⟨bool_ret ?_, rfl⟩
    rw [HI.out]; simp [hle]

set_option maxHeartbeats 1000000 in
theorem isNumbered_c (s : ByteArray) (w : World) (hs : s.size ≤ 9223372036854775807) :
    Calls Tryz.prog 77 #[.string s] w fun e w' => e = .returned (.bool (numbP s.data.toList)) ∧ w' = w := by
  have hlen : s.data.toList.length = s.size := by simp
  have h1 := not_f
  have h2 := not_t
  by_cases h0 : 2 ≤ s.size ∧ s.size ≤ 10
  · obtain ⟨ha, hb⟩ := h0
    have hcons := drop_get s 0 (by omega)
    rw [List.drop_zero] at hcons
    have HI : Hid (numbP s.data.toList = ((s[0]).toNat == 35 && digL (s.data.toList.drop 1))) := by
      show _ = _
      unfold numbP
      rw [hlen]
      simp only [ha, hb, decide_true, Bool.true_and]
      rw [hcons]; simp
    clear hcons
    by_cases h35 : (s[0]).toNat = 35
    · have b35 : ((s[0]).toNat == 35) = true := by simpa using h35
      have hL : numbP s.data.toList = digL (s.data.toList.drop 1) := by rw [HI.out, b35, Bool.true_and]
      rw [hL]
      clear HI hL
      go_enter Tryz.func77, Tryz.ntmps77
      go_wp2
      go_loop [3] (fun i => ∃ k : Nat, i = .int .i64 k ∧ 1 ≤ k ∧ k ≤ s.size ∧ Hid (digL (s.data.toList.drop 1) = digL (s.data.toList.drop k))) (fun i => s.size - (intOf i).toNat)
      case atStart => exact ⟨1, rfl, Nat.le_refl _, by omega, rfl⟩
      case round =>
        obtain ⟨k, rfl, hk1, hk, hR⟩ := hrel
        by_cases hlt : k < s.size
        · have HN : Hid (digL (s.data.toList.drop k) = (tDigit (s[k]).toNat && digL (s.data.toList.drop (k + 1)))) := by
            show _ = _
            rw [drop_get s k hlt]; rfl
          have hn : (s[k]).toNat < 256 := (s[k]).toNat_lt
          have cD := fun W => tDigit_c _ W hn
          rcases hg : tDigit (s[k]).toNat with _ | _ <;> rw [hg] at cD HN
          · go_wp2_with (go_at_call 107; refine (cD _).mono ?_; rintro e w' ⟨rfl, rfl⟩)
            go_ret
            exact ⟨bool_ret (by rw [hR.out, HN.out]; rfl), rfl⟩
          · go_wp2_with (go_at_call 107; refine (cD _).mono ?_; rintro e w' ⟨rfl, rfl⟩)
            refine ⟨⟨k + 1, by go_num, by omega, by omega, ?_⟩, by simp [intOf]; omega⟩
            show _ = _; rw [hR.out, HN.out]; rfl
        · go_wp2
          go_ret
          refine ⟨bool_ret ?_, rfl⟩
          have h1 := hR.out
          have e0 : s.data.toList.drop k = [] := List.drop_eq_nil_of_le (by simp only [Array.length_toList]; show s.size ≤ k; omega)
          rw [e0] at h1
          first | (rw [h1]; rfl) | (rw [← List.drop_one, h1]; rfl)
    · have b35 : ((s[0]).toNat == 35) = false := by simpa using h35
      have b36 : (((s[0]).toNat : Int) != 35) = true := by simp; omega
      go_enter Tryz.func77, Tryz.ntmps77
      go_wp2
      go_ret
      refine ⟨bool_ret ?_, rfl⟩
      rw [HI.out, b35]; rfl
  · have hI : numbP s.data.toList = false := by
      unfold numbP
      rw [hlen]
      rcases Nat.lt_or_ge s.size 2 with h | h
      · simp [show ¬ 2 ≤ s.size by omega]
      · simp [show ¬ s.size ≤ 10 by omega]
    rw [hI]
    rcases Nat.lt_or_ge s.size 2 with h | h
    · go_enter Tryz.func77, Tryz.ntmps77
      go_wp2
      go_ret
      exact ⟨rfl, rfl⟩
    · have h10 : 10 < s.size := by omega
      go_enter Tryz.func77, Tryz.ntmps77
      go_wp2
      go_ret
      exact ⟨rfl, rfl⟩

theorem tag_c (s : ByteArray) (w : World) (hs : s.size ≤ 9223372036854775807) :
    Calls Tryz.prog 47 #[.string s] w fun e w' => e = .returned (.bool (tagP s.data.toList)) ∧ w' = w := by
  have c1 := isName_c s w hs
  have c2 := isNumbered_c s w hs
  unfold tagP
  generalize nameP s.data.toList = x at *
  generalize numbP s.data.toList = y at *
  cases x
  all_goals go_enter Tryz.func47, Tryz.ntmps47
  all_goals go_wp2_with (first | (go_at_call 76; refine c1.mono ?_; rintro e w' ⟨rfl, rfl⟩) | (go_at_call 77; refine c2.mono ?_; rintro e w' ⟨rfl, rfl⟩))
  all_goals go_ret
  all_goals exact ⟨rfl, rfl⟩
end Go.Proofs.YtaaphipbkpjkjaaGreatDoor
namespace Go.Proofs.YtaaphipbkpjkjaaGreatDoor
open Go.RowKit
set_option linter.unusedVariables false
set_option maxRecDepth 100000

theorem refDigit_c (n : Nat) (w : World) (h : n < 256) :
    Calls Tryz.prog 83 #[.int .u8 n] w fun e w' => e = .returned (.bool (tDigit n)) ∧ w' = w := by
  go_enter Tryz.func83, Tryz.ntmps83
  go_wp2
  all_goals go_ret
  all_goals refine ⟨bool_ret ?_, rfl⟩
  all_goals (rw [Bool.eq_iff_iff]; simp [tDigit]; omega)

theorem refLetter_c (n : Nat) (w : World) (h : n < 256) :
    Calls Tryz.prog 111 #[.int .u8 n] w fun e w' => e = .returned (.bool (tLetter n)) ∧ w' = w := by
  go_enter Tryz.func111, Tryz.ntmps111
  go_wp2
  all_goals go_ret
  all_goals refine ⟨bool_ret ?_, rfl⟩
  all_goals (rw [Bool.eq_iff_iff]; simp [tLetter]; omega)

theorem first_letter (n : Nat) : (!tDigit n && (tLetter n || tDigit n)) = tLetter n := by
  rw [Bool.eq_iff_iff]; simp [tLetter, tDigit]; omega
theorem nameP_cons (c : UInt8) (r : List UInt8) : nameP (c :: r) = (decide ((c :: r).length ≤ 63) && tLetter c.toNat && nameL r) := by
  have h := first_letter c.toNat
  show (decide _ && !tDigit c.toNat && ((tChar c.toNat) && nameL r)) = _
  unfold tChar
  rw [← h]
  cases tDigit c.toNat <;> cases tLetter c.toNat <;> simp

set_option maxHeartbeats 1000000 in
theorem refWord_c (s : ByteArray) (w : World) (hs : s.size ≤ 9223372036854775807) :
    Calls Tryz.prog 82 #[.string s] w fun e w' => e = .returned (.bool (nameP s.data.toList)) ∧ w' = w := by
  by_cases h0 : s.size = 0
  · have hl : s.data.toList = [] := by
      have : s.data.toList.length = 0 := by simpa using h0
      exact List.eq_nil_of_length_eq_zero this
    rw [hl]
    go_enter Tryz.func82, Tryz.ntmps82
    go_wp2
    go_ret
    exact ⟨rfl, rfl⟩
  have h0' : 0 < s.size := by omega
  have hcons := drop_get s 0 h0'
  rw [List.drop_zero] at hcons
  have hlen : s.data.toList.length = s.size := by simp
  have HI : Hid (nameP s.data.toList = (decide (s.size ≤ 63) && tLetter (s[0]).toNat && nameL (s.data.toList.drop 1))) := by
    show _ = _
    rw [← hlen, hcons, nameP_cons]; simp
  clear hcons
  have h1 := not_f
  have h2 := not_t
  by_cases hle : s.size ≤ 63
  · have cD := fun W => refLetter_c (s[0]).toNat W (s[0]).toNat_lt
    rcases hd : tLetter (s[0]).toNat with _ | _
    · rw [hd] at cD
      go_enter Tryz.func82, Tryz.ntmps82
      go_wp2_with (go_at_call 111; refine (cD _).mono ?_; rintro e w' ⟨rfl, rfl⟩)
      go_ret
      refine ⟨bool_ret ?_, rfl⟩
      rw [HI.out, hd]; simp
    · rw [hd] at cD
      have hL : nameP s.data.toList = nameL (s.data.toList.drop 1) := by rw [HI.out, hd]; simp [hle]
      rw [hL]
      clear HI hL
      go_enter Tryz.func82, Tryz.ntmps82
      go_wp2_with (go_at_call 111; refine (cD _).mono ?_; rintro e w' ⟨rfl, rfl⟩)
      clear cD
      go_loop [3] (fun i => ∃ k : Nat, i = .int .i64 k ∧ 1 ≤ k ∧ k ≤ s.size ∧ Hid (nameL (s.data.toList.drop 1) = nameL (s.data.toList.drop k))) (fun i => s.size - (intOf i).toNat)
      case atStart => exact ⟨1, rfl, Nat.le_refl _, by omega, rfl⟩
      case round =>
        obtain ⟨k, rfl, hk1, hk, hR⟩ := hrel
        by_cases hlt : k < s.size
        · have HN : Hid (nameL (s.data.toList.drop k) = (tChar (s[k]).toNat && nameL (s.data.toList.drop (k + 1)))) := by
            show _ = _
            rw [drop_get s k hlt]; rfl
          have hn : (s[k]).toNat < 256 := (s[k]).toNat_lt
          have cL := fun W => refLetter_c _ W hn
          have cD := fun W => refDigit_c _ W hn
          unfold tChar at HN
          rcases hl : tLetter (s[k]).toNat with _ | _ <;> rcases hg : tDigit (s[k]).toNat with _ | _ <;> rw [hl] at cL HN <;> rw [hg] at cD HN
          · go_wp2_with (first | (go_at_call 111; refine (cL _).mono ?_; rintro e w' ⟨rfl, rfl⟩) | (go_at_call 83; refine (cD _).mono ?_; rintro e w' ⟨rfl, rfl⟩))
            go_ret
            exact ⟨bool_ret (by rw [hR.out, HN.out]; rfl), rfl⟩
          all_goals go_wp2_with (first | (go_at_call 111; refine (cL _).mono ?_; rintro e w' ⟨rfl, rfl⟩) | (go_at_call 83; refine (cD _).mono ?_; rintro e w' ⟨rfl, rfl⟩))
          all_goals refine ⟨⟨k + 1, by go_num, by omega, by omega, ?_⟩, by simp [intOf]; omega⟩
          all_goals (show _ = _; rw [hR.out, HN.out]; rfl)
        · go_wp2
          go_ret
          refine ⟨bool_ret ?_, rfl⟩
          have h1 := hR.out
          have e0 : s.data.toList.drop k = [] := List.drop_eq_nil_of_le (by simp only [Array.length_toList]; show s.size ≤ k; omega)
          rw [e0] at h1
          first | (rw [h1]; rfl) | (rw [← List.drop_one, h1]; rfl)
  · go_enter Tryz.func82, Tryz.ntmps82
    go_wp2
    go_ret
    refine ⟨bool_ret ?_, rfl⟩
    rw [HI.out]; simp [hle]

set_option maxHeartbeats 1000000 in
theorem refTag_c (s : ByteArray) (w : World) (hs : s.size ≤ 9223372036854775807) :
    Calls Tryz.prog 56 #[.string s] w fun e w' => e = .returned (.bool (tagP s.data.toList)) ∧ w' = w := by
  have hlen : s.data.toList.length = s.size := by simp
  have h1 := not_f
  have h2 := not_t
  have cW := refWord_c s w hs
  by_cases h0 : 2 ≤ s.size ∧ s.size ≤ 10
  · obtain ⟨ha, hb⟩ := h0
    have hcons := drop_get s 0 (by omega)
    rw [List.drop_zero] at hcons
    have HI : Hid (numbP s.data.toList = ((s[0]).toNat == 35 && digL (s.data.toList.drop 1))) := by
      show _ = _
      unfold numbP
      rw [hlen]
      simp only [ha, hb, decide_true, Bool.true_and]
      rw [hcons]; simp
    by_cases h35 : (s[0]).toNat = 35
    · have b35 : ((s[0]).toNat == 35) = true := by simpa using h35
      have hL : tagP s.data.toList = digL (s.data.toList.drop 1) := by
        unfold tagP
        rw [HI.out, b35, Bool.true_and]
        have : nameP s.data.toList = false := by
          rw [hcons, nameP_cons, h35]; simp [tLetter]
        rw [this, Bool.false_or]
      rw [hL]
      clear HI hL hcons cW
      go_enter Tryz.func56, Tryz.ntmps56
      go_wp2
      go_loop [3] (fun i => ∃ k : Nat, i = .int .i64 k ∧ 1 ≤ k ∧ k ≤ s.size ∧ Hid (digL (s.data.toList.drop 1) = digL (s.data.toList.drop k))) (fun i => s.size - (intOf i).toNat)
      case atStart => exact ⟨1, rfl, Nat.le_refl _, by omega, rfl⟩
      case round =>
        obtain ⟨k, rfl, hk1, hk, hR⟩ := hrel
        by_cases hlt : k < s.size
        · have HN : Hid (digL (s.data.toList.drop k) = (tDigit (s[k]).toNat && digL (s.data.toList.drop (k + 1)))) := by
            show _ = _
            rw [drop_get s k hlt]; rfl
          have hn : (s[k]).toNat < 256 := (s[k]).toNat_lt
          have cD := fun W => refDigit_c _ W hn
          rcases hg : tDigit (s[k]).toNat with _ | _ <;> rw [hg] at cD HN
          · go_wp2_with (go_at_call 83; refine (cD _).mono ?_; rintro e w' ⟨rfl, rfl⟩)
            go_ret
            exact ⟨bool_ret (by rw [hR.out, HN.out]; rfl), rfl⟩
          · go_wp2_with (go_at_call 83; refine (cD _).mono ?_; rintro e w' ⟨rfl, rfl⟩)
            refine ⟨⟨k + 1, by go_num, by omega, by omega, ?_⟩, by simp [intOf]; omega⟩
            show _ = _; rw [hR.out, HN.out]; rfl
        · go_wp2
          go_ret
          refine ⟨bool_ret ?_, rfl⟩
          have h1 := hR.out
          have e0 : s.data.toList.drop k = [] := List.drop_eq_nil_of_le (by simp only [Array.length_toList]; show s.size ≤ k; omega)
          rw [e0] at h1
          first | (rw [h1]; rfl) | (rw [← List.drop_one, h1]; rfl)
    · have b35 : ((s[0]).toNat == 35) = false := by simpa using h35
      have b36 : (((s[0]).toNat : Int) != 35) = true := by simp; omega
      have hL : tagP s.data.toList = nameP s.data.toList := by
        unfold tagP
        rw [HI.out, b35]; simp
      rw [hL]
      clear HI hL hcons
      go_enter Tryz.func56, Tryz.ntmps56
      go_wp2_with (go_at_call 82; refine cW.mono ?_; rintro e w' ⟨rfl, rfl⟩)
      go_ret
      exact ⟨rfl, rfl⟩
  · have hI : numbP s.data.toList = false := by
      unfold numbP
      rw [hlen]
      rcases Nat.lt_or_ge s.size 2 with h | h
      · simp [show ¬ 2 ≤ s.size by omega]
      · simp [show ¬ s.size ≤ 10 by omega]
    have hL : tagP s.data.toList = nameP s.data.toList := by
      unfold tagP
      rw [hI]; simp
    rw [hL]
    rcases Nat.lt_or_ge s.size 2 with h | h
    · go_enter Tryz.func56, Tryz.ntmps56
      go_wp2_with (go_at_call 82; refine cW.mono ?_; rintro e w' ⟨rfl, rfl⟩)
      go_ret
      exact ⟨rfl, rfl⟩
    · have h10 : 10 < s.size := by omega
      go_enter Tryz.func56, Tryz.ntmps56
      go_wp2_with (go_at_call 82; refine cW.mono ?_; rintro e w' ⟨rfl, rfl⟩)
      go_ret
      exact ⟨rfl, rfl⟩
end Go.Proofs.YtaaphipbkpjkjaaGreatDoor
