/-
  The usual conversion: conv's and the given answer's.
-/
import Derived.Test.YtpnpilbmhkiphaaDoorCvK
namespace Go.Proofs.YtpnpilbmhkiphaaDoor
open Go.RowKit Go.Maps
set_option linter.unusedVariables false
set_option maxRecDepth 100000

def four (x : Int) : Prop := x = 8 ∨ x = 9 ∨ x = 10 ∨ x = 11
def usualV (a b : Int) : Array Value := if intK a = true ∧ intK b = true then #[.int .i64 (usualP a b), .int .i64 0] else #[.int .i64 0, .int .i64 70]
section
set_option maxHeartbeats 4000000 in
theorem common_c (a b : Int) (ha : four a) (hb : four b) (w : World) : Calls Tryd.prog 32 #[.int .i64 a, .int .i64 b] w fun e w' => e = .returned (.int .i64 (commonP a b)) ∧ w' = w := by
  rcases ha with rfl | rfl | rfl | rfl <;> rcases hb with rfl | rfl | rfl | rfl
  all_goals
    go_enter Tryd.func32, Tryd.ntmps32
    go_wp2
    go_ret
    exact ⟨rfl, rfl⟩
theorem usual_no (a b : Int) (h : ¬ (intK a = true ∧ intK b = true)) : usualV a b = #[.int .i64 0, .int .i64 70] := if_neg h
theorem usual_yes {a b : Int} (ha : intK a = true) (hb : intK b = true) : usualV a b = #[.int .i64 (commonP (promP a (-1)) (promP b (-1))), .int .i64 0] := if_pos ⟨ha, hb⟩
theorem cUsual_c (a b : Int) (w : World) : Calls Tryd.prog 10 #[.int .i64 a, .int .i64 b] w fun e w' => e = .returned (.tuple (usualV a b)) ∧ w' = w := by
  have c1 := cInt_c a w
  have c2 := cInt_c b w
  have n1 := not_t
  have n2 := not_f
  cases h1 : intK a with
  | false =>
    rw [h1] at c1
    rw [usual_no a b (by simp [h1])]
    clear c2 h1
    go_enter Tryd.func10, Tryd.ntmps10
    go_wp2_with (go_at_call 16; refine c1.mono ?_; rintro e w' ⟨rfl, rfl⟩)
    go_ret2
    exact ⟨rfl, rfl⟩
  | true =>
    rw [h1] at c1
    cases h2 : intK b with
    | false =>
      rw [h2] at c2
      rw [usual_no a b (by simp [h2])]
      clear h1 h2
      go_enter Tryd.func10, Tryd.ntmps10
      go_wp2_with fail
      refine c1.mono ?_
      rintro e w' ⟨rfl, rfl⟩
      go_wp2_with fail
      refine c2.mono ?_
      rintro e w' ⟨rfl, rfl⟩
      go_wp2
      go_ret2
      exact ⟨rfl, rfl⟩
    | true =>
      rw [h2] at c2
      rw [usual_yes h1 h2]
      have f1 := prom_four h1
      have f2 := prom_four h2
      have p1 := cPromote_c a (-1) w
      have p2 := cPromote_c b (-1) w
      have c3 := common_c _ _ f1 f2 w
      generalize promP a (-1) = x at *
      generalize promP b (-1) = y at *
      clear h1 h2 f1 f2
      go_enter Tryd.func10, Tryd.ntmps10
      go_wp2_with fail
      refine c1.mono ?_
      rintro e w' ⟨rfl, rfl⟩
      go_wp2_with fail
      refine c2.mono ?_
      rintro e w' ⟨rfl, rfl⟩
      clear c1 c2
      go_wp2_with fail
      refine p1.mono ?_
      rintro e w' ⟨rfl, rfl⟩
      go_wp2_with fail
      refine p2.mono ?_
      rintro e w' ⟨rfl, rfl⟩
      go_wp2_with fail
      refine c3.mono ?_
      rintro e w' ⟨rfl, rfl⟩
      go_wp2
      go_ret2
      exact ⟨rfl, rfl⟩
set_option maxHeartbeats 4000000 in
theorem rUsual_c (a b : Int) (w : World) : Calls Tryd.prog 11 #[.int .i64 a, .int .i64 b] w fun e w' => e = .returned (.tuple (usualV a b)) ∧ w' = w := by
  have c1 := rInt_c a w
  have c2 := rInt_c b w
  have n1 := not_t
  have n2 := not_f
  cases h1 : intK a with
  | false =>
    rw [h1] at c1
    rw [usual_no a b (by simp [h1])]
    clear c2 h1
    go_enter Tryd.func11, Tryd.ntmps11
    go_wp2_with (go_at_call 33; refine c1.mono ?_; rintro e w' ⟨rfl, rfl⟩)
    go_ret2
    exact ⟨rfl, rfl⟩
  | true =>
    rw [h1] at c1
    cases h2 : intK b with
    | false =>
      rw [h2] at c2
      rw [usual_no a b (by simp [h2])]
      clear h1 h2
      go_enter Tryd.func11, Tryd.ntmps11
      go_wp2_with fail
      refine c1.mono ?_
      rintro e w' ⟨rfl, rfl⟩
      go_wp2_with fail
      refine c2.mono ?_
      rintro e w' ⟨rfl, rfl⟩
      go_wp2
      go_ret2
      exact ⟨rfl, rfl⟩
    | true =>
      rw [h2] at c2
      rw [usual_yes h1 h2]
      have f1 := prom_four h1
      have f2 := prom_four h2
      have p1 := rPromote_c a (-1) w
      have p2 := rPromote_c b (-1) w
      generalize promP a (-1) = x at *
      generalize promP b (-1) = y at *
      clear h1 h2
      go_enter Tryd.func11, Tryd.ntmps11
      go_wp2_with fail
      refine c1.mono ?_
      rintro e w' ⟨rfl, rfl⟩
      go_wp2_with fail
      refine c2.mono ?_
      rintro e w' ⟨rfl, rfl⟩
      clear c1 c2
      go_wp2_with fail
      refine p1.mono ?_
      rintro e w' ⟨rfl, rfl⟩
      go_wp2_with fail
      refine p2.mono ?_
      rintro e w' ⟨rfl, rfl⟩
      clear p1 p2
      rcases f1 with rfl | rfl | rfl | rfl <;> rcases f2 with rfl | rfl | rfl | rfl
      all_goals
        go_wp2
        go_ret2
        exact ⟨rfl, rfl⟩
end
end Go.Proofs.YtpnpilbmhkiphaaDoor
