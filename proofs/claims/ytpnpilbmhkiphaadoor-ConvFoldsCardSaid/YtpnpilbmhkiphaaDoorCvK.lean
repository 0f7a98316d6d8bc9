/-
  Kinds: what conv's Promote, Usual and the given answer's tell of them.
-/
import Derived.Test.YtpnpilbmhkiphaaDoorKinds
import Derived.Test.YtpnpilbmhkiphaaDoorWKind
namespace Go.Proofs.YtpnpilbmhkiphaaDoor
open Go.RowKit Go.Maps
set_option linter.unusedVariables false
set_option maxRecDepth 100000

def narrowK (k : Int) : Bool := decide (k < 8) || k == 12
def promP (k bits : Int) : Int := if intK k = true ∧ (narrowK k = true ∨ 0 ≤ bits ∧ bits < 32) then 8 else k
def commonP (a b : Int) : Int := if max a b = 10 ∧ min a b = 9 then 11 else max a b
def usualP (a b : Int) : Int := commonP (promP a (-1)) (promP b (-1))

section
variable {w : World}
theorem cInt_c (k : Int) (w : World) : Calls Tryd.prog 16 #[.int .i64 k] w fun e w' => e = .returned (.bool (intK k)) ∧ w' = w := by
  by_cases h1 : 2 ≤ k
  · by_cases h2 : k ≤ 12
    · have d2 : decide (k ≤ 12) = true := by simpa using h2
      go_enter Tryd.func16, Tryd.ntmps16
      go_wp2
      go_ret
      exact ⟨bool_ret (by simp [intK, h1, h2]), rfl⟩
    · have d2 : decide (k ≤ 12) = false := by simpa using h2
      go_enter Tryd.func16, Tryd.ntmps16
      go_wp2
      go_ret
      exact ⟨bool_ret (by simp [intK, h1, h2]), rfl⟩
  · go_enter Tryd.func16, Tryd.ntmps16
    go_wp2
    go_ret
    exact ⟨bool_ret (by simp [intK]; omega), rfl⟩
theorem rInt_c (k : Int) (w : World) : Calls Tryd.prog 33 #[.int .i64 k] w fun e w' => e = .returned (.bool (intK k)) ∧ w' = w := by
  by_cases h1 : 2 ≤ k
  · by_cases h2 : k ≤ 12
    · have d2 : decide (k ≤ 12) = true := by simpa using h2
      go_enter Tryd.func33, Tryd.ntmps33
      go_wp2
      go_ret
      exact ⟨bool_ret (by simp [intK, h1, h2]), rfl⟩
    · have d2 : decide (k ≤ 12) = false := by simpa using h2
      go_enter Tryd.func33, Tryd.ntmps33
      go_wp2
      go_ret
      exact ⟨bool_ret (by simp [intK, h1, h2]), rfl⟩
  · go_enter Tryd.func33, Tryd.ntmps33
    go_wp2
    go_ret
    exact ⟨bool_ret (by simp [intK]; omega), rfl⟩
theorem cNarrow_c (k : Int) (w : World) : Calls Tryd.prog 37 #[.int .i64 k] w fun e w' => e = .returned (.bool (narrowK k)) ∧ w' = w := by
  by_cases h1 : k < 8
  · go_enter Tryd.func37, Tryd.ntmps37
    go_wp2
    go_ret
    exact ⟨bool_ret (by simp [narrowK, h1]), rfl⟩
  · by_cases h2 : k = 12
    · subst h2
      go_enter Tryd.func37, Tryd.ntmps37
      go_wp2
      go_ret
      exact ⟨bool_ret (by simp [narrowK]), rfl⟩
    · have d2 : (k == 12) = false := by simpa using h2
      go_enter Tryd.func37, Tryd.ntmps37
      go_wp2
      go_ret
      exact ⟨bool_ret (by simp [narrowK, h1, d2]), rfl⟩
theorem cPromote_c (k bits : Int) (w : World) : Calls Tryd.prog 13 #[.int .i64 k, .int .i64 bits] w fun e w' => e = .returned (.int .i64 (promP k bits)) ∧ w' = w := by
  have c1 := cInt_c k w
  have c2 := cNarrow_c k w
  unfold promP
  cases h1 : intK k with
  | false =>
    rw [h1] at c1
    rw [if_neg (by simp)]
    clear c2
    go_enter Tryd.func13, Tryd.ntmps13
    go_wp2_with (go_at_call 16; refine c1.mono ?_; rintro e w' ⟨rfl, rfl⟩)
    go_ret
    exact ⟨rfl, rfl⟩
  | true =>
    rw [h1] at c1
    cases h2 : narrowK k with
    | true =>
      rw [h2] at c2
      rw [if_pos (by simp)]
      go_enter Tryd.func13, Tryd.ntmps13
      go_wp2_with (first | (go_at_call 16; refine c1.mono ?_; rintro e w' ⟨rfl, rfl⟩) | (go_at_call 37; refine c2.mono ?_; rintro e w' ⟨rfl, rfl⟩))
      go_ret
      exact ⟨rfl, rfl⟩
    | false =>
      rw [h2] at c2
      by_cases b1 : 0 ≤ bits
      · have d1 : decide (0 ≤ bits) = true := by simpa using b1
        by_cases b2 : bits < 32
        · have d2 : decide (bits < 32) = true := by simpa using b2
          rw [if_pos (by simp [b1, b2])]
          go_enter Tryd.func13, Tryd.ntmps13
          go_wp2_with (first | (go_at_call 16; refine c1.mono ?_; rintro e w' ⟨rfl, rfl⟩) | (go_at_call 37; refine c2.mono ?_; rintro e w' ⟨rfl, rfl⟩))
          go_ret
          exact ⟨rfl, rfl⟩
        · have d2 : decide (bits < 32) = false := by simpa using b2
          rw [if_neg (by simp; omega)]
          go_enter Tryd.func13, Tryd.ntmps13
          go_wp2_with (first | (go_at_call 16; refine c1.mono ?_; rintro e w' ⟨rfl, rfl⟩) | (go_at_call 37; refine c2.mono ?_; rintro e w' ⟨rfl, rfl⟩))
          go_ret
          exact ⟨rfl, rfl⟩
      · have d1 : decide (0 ≤ bits) = false := by simpa using b1
        rw [if_neg (by simp; omega)]
        go_enter Tryd.func13, Tryd.ntmps13
        go_wp2_with (first | (go_at_call 16; refine c1.mono ?_; rintro e w' ⟨rfl, rfl⟩) | (go_at_call 37; refine c2.mono ?_; rintro e w' ⟨rfl, rfl⟩))
        go_ret
        exact ⟨rfl, rfl⟩
theorem narrow_width {k : Int} (h : intK k = true) : (W.widthOf k < 4 ∨ k = 12) ↔ narrowK k = true := by
  have : 2 ≤ k ∧ k ≤ 12 := by simpa [intK] using h
  unfold W.widthOf narrowK
  simp
  split
  · omega
  · split
    · omega
    · split <;> omega
theorem rPromote_c (k bits : Int) (w : World) : Calls Tryd.prog 14 #[.int .i64 k, .int .i64 bits] w fun e w' => e = .returned (.int .i64 (promP k bits)) ∧ w' = w := by
  have c1 := rInt_c k w
  have c2 := (W.wide_any k).2.1 w
  unfold promP
  cases h1 : intK k with
  | false =>
    rw [h1] at c1
    rw [if_neg (by simp)]
    clear c2
    have hn := not_f
    go_enter Tryd.func14, Tryd.ntmps14
    go_wp2_with (go_at_call 33; refine c1.mono ?_; rintro e w' ⟨rfl, rfl⟩)
    go_ret
    exact ⟨rfl, rfl⟩
  | true =>
    rw [h1] at c1
    have hn := not_t
    have hnw := narrow_width h1
    generalize W.widthOf k = wd at *
    by_cases x1 : wd < 4
    · rw [if_pos ⟨rfl, Or.inl (hnw.1 (Or.inl x1))⟩]
      clear hnw
      go_enter Tryd.func14, Tryd.ntmps14
      go_wp2_with (first | (go_at_call 33; refine c1.mono ?_; rintro e w' ⟨rfl, rfl⟩) | (go_at_call 38; refine c2.mono ?_; rintro e w' ⟨rfl, rfl⟩))
      go_ret
      exact ⟨rfl, rfl⟩
    · by_cases x2 : k = 12
      · rw [if_pos ⟨rfl, Or.inl (hnw.1 (Or.inr x2))⟩]
        have d2 : (k == 12) = true := by simpa using x2
        clear hnw
        subst x2
        go_enter Tryd.func14, Tryd.ntmps14
        go_wp2_with (first | (go_at_call 33; refine c1.mono ?_; rintro e w' ⟨rfl, rfl⟩) | (go_at_call 38; refine c2.mono ?_; rintro e w' ⟨rfl, rfl⟩))
        go_ret
        exact ⟨rfl, rfl⟩
      · have hnn : narrowK k = false := by
          cases hh : narrowK k with
          | false => rfl
          | true => exact absurd (hnw.2 hh) (by omega)
        have d2 : (k == 12) = false := by simpa using x2
        rw [hnn]
        clear hnw
        by_cases b1 : 0 ≤ bits
        · have d1 : decide (0 ≤ bits) = true := by simpa using b1
          by_cases b2 : bits ≤ 31
          · have e2 : decide (bits ≤ 31) = true := by simpa using b2
            rw [if_pos (by simp; omega)]
            go_enter Tryd.func14, Tryd.ntmps14
            go_wp2_with (first | (go_at_call 33; refine c1.mono ?_; rintro e w' ⟨rfl, rfl⟩) | (go_at_call 38; refine c2.mono ?_; rintro e w' ⟨rfl, rfl⟩))
            go_ret
            exact ⟨rfl, rfl⟩
          · have e2 : decide (bits ≤ 31) = false := by simpa using b2
            rw [if_neg (by simp; omega)]
            go_enter Tryd.func14, Tryd.ntmps14
            go_wp2_with (first | (go_at_call 33; refine c1.mono ?_; rintro e w' ⟨rfl, rfl⟩) | (go_at_call 38; refine c2.mono ?_; rintro e w' ⟨rfl, rfl⟩))
            go_ret
            exact ⟨rfl, rfl⟩
        · have d1 : decide (0 ≤ bits) = false := by simpa using b1
          rw [if_neg (by simp; omega)]
          go_enter Tryd.func14, Tryd.ntmps14
          go_wp2_with (first | (go_at_call 33; refine c1.mono ?_; rintro e w' ⟨rfl, rfl⟩) | (go_at_call 38; refine c2.mono ?_; rintro e w' ⟨rfl, rfl⟩))
          go_ret
          exact ⟨rfl, rfl⟩
theorem prom_four {k : Int} (h : intK k = true) : promP k (-1) = 8 ∨ promP k (-1) = 9 ∨ promP k (-1) = 10 ∨ promP k (-1) = 11 := by
  have : 2 ≤ k ∧ k ≤ 12 := by simpa [intK] using h
  unfold promP
  by_cases hn : narrowK k = true
  · rw [if_pos ⟨h, Or.inl hn⟩]; exact Or.inl rfl
  · rw [if_neg (by simp [hn])]
    simp [narrowK] at hn
    omega
end
end Go.Proofs.YtpnpilbmhkiphaaDoor
