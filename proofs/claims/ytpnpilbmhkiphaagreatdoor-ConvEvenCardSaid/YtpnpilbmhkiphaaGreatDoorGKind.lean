/-
  A pair that lies in memory, read as a whole and in parts.
  Kinds: what conv's Promote, Usual and the given answer's tell of them.
  The usual conversion: conv's and the given answer's.
  Operands and pairs as values: what conv's small methods answer.
-/
import Derived.Test.YtpnpilbmhkiphaaGreatDoorKinds
import Derived.Test.YtpnpilbmhkiphaaGreatDoorGW
import Derived.Test.YtpnpilbmhkiphaaGreatDoorRows1
import Derived.Test.YtpnpilbmhkiphaaGreatDoorActs
import Derived.Deep.MidRow
namespace Go.Proofs.YtpnpilbmhkiphaaGreatDoor
open Go.RowKit Go.Maps
set_option linter.unusedVariables false
set_option maxRecDepth 100000

def narrowK (k : Int) : Bool := decide (k < 8) || k == 12
def promP (k bits : Int) : Int := if intK k = true ∧ (narrowK k = true ∨ 0 ≤ bits ∧ bits < 32) then 8 else k
def commonP (a b : Int) : Int := if max a b = 10 ∧ min a b = 9 then 11 else max a b
def usualP (a b : Int) : Int := commonP (promP a (-1)) (promP b (-1))

section
variable {w : World}
theorem cInt_c (k : Int) (w : World) : Calls Tryz.prog 58 #[.int .i64 k] w fun e w' => e = .returned (.bool (intK k)) ∧ w' = w := by
  by_cases h1 : 2 ≤ k
  · by_cases h2 : k ≤ 12
    · have d2 : decide (k ≤ 12) = true := by simpa using h2
      go_enter Tryz.func58, Tryz.ntmps58
      go_wp2
      go_ret
      exact ⟨bool_ret (by simp [intK, h1, h2]), rfl⟩
    · have d2 : decide (k ≤ 12) = false := by simpa using h2
      go_enter Tryz.func58, Tryz.ntmps58
      go_wp2
      go_ret
      exact ⟨bool_ret (by simp [intK, h1, h2]), rfl⟩
  · go_enter Tryz.func58, Tryz.ntmps58
    go_wp2
    go_ret
    exact ⟨bool_ret (by simp [intK]; omega), rfl⟩
theorem rInt_c (k : Int) (w : World) : Calls Tryz.prog 88 #[.int .i64 k] w fun e w' => e = .returned (.bool (intK k)) ∧ w' = w := by
  by_cases h1 : 2 ≤ k
  · by_cases h2 : k ≤ 12
    · have d2 : decide (k ≤ 12) = true := by simpa using h2
      go_enter Tryz.func88, Tryz.ntmps88
      go_wp2
      go_ret
      exact ⟨bool_ret (by simp [intK, h1, h2]), rfl⟩
    · have d2 : decide (k ≤ 12) = false := by simpa using h2
      go_enter Tryz.func88, Tryz.ntmps88
      go_wp2
      go_ret
      exact ⟨bool_ret (by simp [intK, h1, h2]), rfl⟩
  · go_enter Tryz.func88, Tryz.ntmps88
    go_wp2
    go_ret
    exact ⟨bool_ret (by simp [intK]; omega), rfl⟩
theorem cNarrow_c (k : Int) (w : World) : Calls Tryz.prog 60 #[.int .i64 k] w fun e w' => e = .returned (.bool (narrowK k)) ∧ w' = w := by
  by_cases h1 : k < 8
  · go_enter Tryz.func60, Tryz.ntmps60
    go_wp2
    go_ret
    exact ⟨bool_ret (by simp [narrowK, h1]), rfl⟩
  · by_cases h2 : k = 12
    · subst h2
      go_enter Tryz.func60, Tryz.ntmps60
      go_wp2
      go_ret
      exact ⟨bool_ret (by simp [narrowK]), rfl⟩
    · have d2 : (k == 12) = false := by simpa using h2
      go_enter Tryz.func60, Tryz.ntmps60
      go_wp2
      go_ret
      exact ⟨bool_ret (by simp [narrowK, h1, d2]), rfl⟩
theorem cPromote_c (k bits : Int) (w : World) : Calls Tryz.prog 22 #[.int .i64 k, .int .i64 bits] w fun e w' => e = .returned (.int .i64 (promP k bits)) ∧ w' = w := by
  have c1 := cInt_c k w
  have c2 := cNarrow_c k w
  unfold promP
  cases h1 : intK k with
  | false =>
    rw [h1] at c1
    rw [if_neg (by simp)]
    clear c2
    go_enter Tryz.func22, Tryz.ntmps22
    go_wp2_with (go_at_call 58; refine c1.mono ?_; rintro e w' ⟨rfl, rfl⟩)
    go_ret
    exact ⟨rfl, rfl⟩
  | true =>
    rw [h1] at c1
    cases h2 : narrowK k with
    | true =>
      rw [h2] at c2
      rw [if_pos (by simp)]
      go_enter Tryz.func22, Tryz.ntmps22
      go_wp2_with (first | (go_at_call 58; refine c1.mono ?_; rintro e w' ⟨rfl, rfl⟩) | (go_at_call 60; refine c2.mono ?_; rintro e w' ⟨rfl, rfl⟩))
      go_ret
      exact ⟨rfl, rfl⟩
    | false =>
      rw [h2] at c2
      by_cases b1 : 0 ≤ bits
      · have d1 : decide (0 ≤ bits) = true := by simpa using b1
        by_cases b2 : bits < 32
        · have d2 : decide (bits < 32) = true := by simpa using b2
          rw [if_pos (by simp [b1, b2])]
          go_enter Tryz.func22, Tryz.ntmps22
          go_wp2_with (first | (go_at_call 58; refine c1.mono ?_; rintro e w' ⟨rfl, rfl⟩) | (go_at_call 60; refine c2.mono ?_; rintro e w' ⟨rfl, rfl⟩))
          go_ret
          exact ⟨rfl, rfl⟩
        · have d2 : decide (bits < 32) = false := by simpa using b2
          rw [if_neg (by simp; omega)]
          go_enter Tryz.func22, Tryz.ntmps22
          go_wp2_with (first | (go_at_call 58; refine c1.mono ?_; rintro e w' ⟨rfl, rfl⟩) | (go_at_call 60; refine c2.mono ?_; rintro e w' ⟨rfl, rfl⟩))
          go_ret
          exact ⟨rfl, rfl⟩
      · have d1 : decide (0 ≤ bits) = false := by simpa using b1
        rw [if_neg (by simp; omega)]
        go_enter Tryz.func22, Tryz.ntmps22
        go_wp2_with (first | (go_at_call 58; refine c1.mono ?_; rintro e w' ⟨rfl, rfl⟩) | (go_at_call 60; refine c2.mono ?_; rintro e w' ⟨rfl, rfl⟩))
        go_ret
        exact ⟨rfl, rfl⟩
theorem narrow_width {k : Int} (h : intK k = true) : (W.widthOf k < 4 ∨ k = 12) ↔ narrowK k = true := by
  have : 2 ≤ k ∧ k ≤ 12 := by simpa [intK] using h
  unfold W.widthOf narrowK
  simp
  split
  · omega
  · split
    · omega
    · split <;> omega
theorem rPromote_c (k bits : Int) (w : World) : Calls Tryz.prog 44 #[.int .i64 k, .int .i64 bits] w fun e w' => e = .returned (.int .i64 (promP k bits)) ∧ w' = w := by
  have c1 := rInt_c k w
  have c2 := (W.wide_any k).2.1 w
  unfold promP
  cases h1 : intK k with
  | false =>
    rw [h1] at c1
    rw [if_neg (by simp)]
    clear c2
    have hn := not_f
    go_enter Tryz.func44, Tryz.ntmps44
    go_wp2_with (go_at_call 88; refine c1.mono ?_; rintro e w' ⟨rfl, rfl⟩)
    go_ret
    exact ⟨rfl, rfl⟩
  | true =>
    rw [h1] at c1
    have hn := not_t
    have hnw := narrow_width h1
    generalize W.widthOf k = wd at *
    by_cases x1 : wd < 4
    · rw [if_pos ⟨rfl, Or.inl (hnw.1 (Or.inl x1))⟩]
      clear hnw
      go_enter Tryz.func44, Tryz.ntmps44
      go_wp2_with (first | (go_at_call 88; refine c1.mono ?_; rintro e w' ⟨rfl, rfl⟩) | (go_at_call 89; refine c2.mono ?_; rintro e w' ⟨rfl, rfl⟩))
      go_ret
      exact ⟨rfl, rfl⟩
    · by_cases x2 : k = 12
      · rw [if_pos ⟨rfl, Or.inl (hnw.1 (Or.inr x2))⟩]
        have d2 : (k == 12) = true := by simpa using x2
        clear hnw
        subst x2
        go_enter Tryz.func44, Tryz.ntmps44
        go_wp2_with (first | (go_at_call 88; refine c1.mono ?_; rintro e w' ⟨rfl, rfl⟩) | (go_at_call 89; refine c2.mono ?_; rintro e w' ⟨rfl, rfl⟩))
        go_ret
        exact ⟨rfl, rfl⟩
      · have hnn : narrowK k = false := by
          cases hh : narrowK k with
          | false => rfl
          | true => exact absurd (hnw.2 hh) (by omega)
        have d2 : (k == 12) = false := by simpa using x2
        rw [hnn]
        clear hnw
        by_cases b1 : 0 ≤ bits
        · have d1 : decide (0 ≤ bits) = true := by simpa using b1
          by_cases b2 : bits ≤ 31
          · have e2 : decide (bits ≤ 31) = true := by simpa using b2
            rw [if_pos (by simp; omega)]
            go_enter Tryz.func44, Tryz.ntmps44
            go_wp2_with (first | (go_at_call 88; refine c1.mono ?_; rintro e w' ⟨rfl, rfl⟩) | (go_at_call 89; refine c2.mono ?_; rintro e w' ⟨rfl, rfl⟩))
            go_ret
            exact ⟨rfl, rfl⟩
          · have e2 : decide (bits ≤ 31) = false := by simpa using b2
            rw [if_neg (by simp; omega)]
            go_enter Tryz.func44, Tryz.ntmps44
            go_wp2_with (first | (go_at_call 88; refine c1.mono ?_; rintro e w' ⟨rfl, rfl⟩) | (go_at_call 89; refine c2.mono ?_; rintro e w' ⟨rfl, rfl⟩))
            go_ret
            exact ⟨rfl, rfl⟩
        · have d1 : decide (0 ≤ bits) = false := by simpa using b1
          rw [if_neg (by simp; omega)]
          go_enter Tryz.func44, Tryz.ntmps44
          go_wp2_with (first | (go_at_call 88; refine c1.mono ?_; rintro e w' ⟨rfl, rfl⟩) | (go_at_call 89; refine c2.mono ?_; rintro e w' ⟨rfl, rfl⟩))
          go_ret
          exact ⟨rfl, rfl⟩
theorem prom_four {k : Int} (h : intK k = true) : promP k (-1) = 8 ∨ promP k (-1) = 9 ∨ promP k (-1) = 10 ∨ promP k (-1) = 11 := by
  have : 2 ≤ k ∧ k ≤ 12 := by simpa [intK] using h
  unfold promP
  by_cases hn : narrowK k = true
  · rw [if_pos ⟨h, Or.inl hn⟩]; exact Or.inl rfl
  · rw [if_neg (by simp [hn])]
    simp [narrowK] at hn
    omega
end
end Go.Proofs.YtpnpilbmhkiphaaGreatDoor
namespace Go.Proofs.YtpnpilbmhkiphaaGreatDoor
open Go.RowKit Go.Maps
set_option linter.unusedVariables false
set_option maxRecDepth 100000

def four (x : Int) : Prop := x = 8 ∨ x = 9 ∨ x = 10 ∨ x = 11
def usualV (a b : Int) : Array Value := if intK a = true ∧ intK b = true then #[.int .i64 (usualP a b), .int .i64 0] else #[.int .i64 0, .int .i64 70]
section
set_option maxHeartbeats 4000000 in
theorem common_c (a b : Int) (ha : four a) (hb : four b) (w : World) : Calls Tryz.prog 59 #[.int .i64 a, .int .i64 b] w fun e w' => e = .returned (.int .i64 (commonP a b)) ∧ w' = w := by
  rcases ha with rfl | rfl | rfl | rfl <;> rcases hb with rfl | rfl | rfl | rfl
  all_goals
    go_enter Tryz.func59, Tryz.ntmps59
    go_wp2
    go_ret
    exact ⟨rfl, rfl⟩
theorem usual_no (a b : Int) (h : ¬ (intK a = true ∧ intK b = true)) : usualV a b = #[.int .i64 0, .int .i64 70] := if_neg h
theorem usual_yes {a b : Int} (ha : intK a = true) (hb : intK b = true) : usualV a b = #[.int .i64 (commonP (promP a (-1)) (promP b (-1))), .int .i64 0] := if_pos ⟨ha, hb⟩
theorem cUsual_c (a b : Int) (w : World) : Calls Tryz.prog 19 #[.int .i64 a, .int .i64 b] w fun e w' => e = .returned (.tuple (usualV a b)) ∧ w' = w := by
  have c1 := cInt_c a w
  have c2 := cInt_c b w
  have n1 := not_t
  have n2 := not_f
  cases h1 : intK a with
  | false =>
    rw [h1] at c1
    rw [usual_no a b (by simp [h1])]
    clear c2 h1
    go_enter Tryz.func19, Tryz.ntmps19
    go_wp2_with (go_at_call 58; refine c1.mono ?_; rintro e w' ⟨rfl, rfl⟩)
    go_ret2
    exact ⟨rfl, rfl⟩
  | true =>
    rw [h1] at c1
    cases h2 : intK b with
    | false =>
      rw [h2] at c2
      rw [usual_no a b (by simp [h2])]
      clear h1 h2
      go_enter Tryz.func19, Tryz.ntmps19
      go_wp2_with fail
      refine c1.mono ?_
      rintro e w' ⟨rfl, rfl⟩
      go_wp2_with fail
      refine c2.mono ?_
      rintro e w' ⟨rfl, rfl⟩
      go_wp2
      go_ret2
      exact ⟨rfl, rfl⟩
    | true =>
      rw [h2] at c2
      rw [usual_yes h1 h2]
      have f1 := prom_four h1
      have f2 := prom_four h2
      have p1 := cPromote_c a (-1) w
      have p2 := cPromote_c b (-1) w
      have c3 := common_c _ _ f1 f2 w
      generalize promP a (-1) = x at *
      generalize promP b (-1) = y at *
      clear h1 h2 f1 f2
      go_enter Tryz.func19, Tryz.ntmps19
      go_wp2_with fail
      refine c1.mono ?_
      rintro e w' ⟨rfl, rfl⟩
      go_wp2_with fail
      refine c2.mono ?_
      rintro e w' ⟨rfl, rfl⟩
      clear c1 c2
      go_wp2_with fail
      refine p1.mono ?_
      rintro e w' ⟨rfl, rfl⟩
      go_wp2_with fail
      refine p2.mono ?_
      rintro e w' ⟨rfl, rfl⟩
      go_wp2_with fail
      refine c3.mono ?_
      rintro e w' ⟨rfl, rfl⟩
      go_wp2
      go_ret2
      exact ⟨rfl, rfl⟩
set_option maxHeartbeats 4000000 in
theorem rUsual_c (a b : Int) (w : World) : Calls Tryz.prog 51 #[.int .i64 a, .int .i64 b] w fun e w' => e = .returned (.tuple (usualV a b)) ∧ w' = w := by
  have c1 := rInt_c a w
  have c2 := rInt_c b w
  have n1 := not_t
  have n2 := not_f
  cases h1 : intK a with
  | false =>
    rw [h1] at c1
    rw [usual_no a b (by simp [h1])]
    clear c2 h1
    go_enter Tryz.func51, Tryz.ntmps51
    go_wp2_with (go_at_call 88; refine c1.mono ?_; rintro e w' ⟨rfl, rfl⟩)
    go_ret2
    exact ⟨rfl, rfl⟩
  | true =>
    rw [h1] at c1
    cases h2 : intK b with
    | false =>
      rw [h2] at c2
      rw [usual_no a b (by simp [h2])]
      clear h1 h2
      go_enter Tryz.func51, Tryz.ntmps51
      go_wp2_with fail
      refine c1.mono ?_
      rintro e w' ⟨rfl, rfl⟩
      go_wp2_with fail
      refine c2.mono ?_
      rintro e w' ⟨rfl, rfl⟩
      go_wp2
      go_ret2
      exact ⟨rfl, rfl⟩
    | true =>
      rw [h2] at c2
      rw [usual_yes h1 h2]
      have f1 := prom_four h1
      have f2 := prom_four h2
      have p1 := rPromote_c a (-1) w
      have p2 := rPromote_c b (-1) w
      generalize promP a (-1) = x at *
      generalize promP b (-1) = y at *
      clear h1 h2
      go_enter Tryz.func51, Tryz.ntmps51
      go_wp2_with fail
      refine c1.mono ?_
      rintro e w' ⟨rfl, rfl⟩
      go_wp2_with fail
      refine c2.mono ?_
      rintro e w' ⟨rfl, rfl⟩
      clear c1 c2
      go_wp2_with fail
      refine p1.mono ?_
      rintro e w' ⟨rfl, rfl⟩
      go_wp2_with fail
      refine p2.mono ?_
      rintro e w' ⟨rfl, rfl⟩
      clear p1 p2
      rcases f1 with rfl | rfl | rfl | rfl <;> rcases f2 with rfl | rfl | rfl | rfl
      all_goals
        go_wp2
        go_ret2
        exact ⟨rfl, rfl⟩
end
end Go.Proofs.YtpnpilbmhkiphaaGreatDoor
namespace Go.Proofs.YtpnpilbmhkiphaaGreatDoor
open Go.RowKit Go.Maps
set_option linter.unusedVariables false
set_option maxRecDepth 100000

abbrev TO : TypeId := 69
abbrev TP : TypeId := 71
section
theorem below1 (w : World) (A : Obj) : Below w.heap.size w (w.alloc A) := (Below.refl _ w).alloc (Nat.le_refl _) A
theorem box_at {w Y : World} {cs : Array Value} {T : TypeId} (hb : Below (w.alloc (.cells cs T)).heap.size (w.alloc (.cells cs T)) Y) (j : Nat) : Y.cell? ⟨w.heap.size, j, none⟩ = cs[j]? := by
  have e := heap_r0 w (.cells cs T)
  have hlt := lt_of_heap e
  exact (hb.cell (p := ⟨w.heap.size, j, none⟩) hlt).trans (Lib.cell_of_heap e j)
theorem below_box {w Y : World} {A : Obj} (hb : Below (w.alloc A).heap.size (w.alloc A) Y) : Below w.heap.size w Y := (below1 w A).trans (hb.mono (below1 w A).size)
theorem box7 {w Y : World} {x0 x1 x2 x3 x4 x5 x6 : Value} (hb : Below (w.alloc (.cells #[x0, x1, x2, x3, x4, x5, x6] TO)).heap.size (w.alloc (.cells #[x0, x1, x2, x3, x4, x5, x6] TO)) Y) : Y.cell? ⟨w.heap.size, 0, none⟩ = some x0 ∧ Y.cell? ⟨w.heap.size, 1, none⟩ = some x1 ∧ Y.cell? ⟨w.heap.size, 2, none⟩ = some x2 ∧ Y.cell? ⟨w.heap.size, 3, none⟩ = some x3 ∧ Y.cell? ⟨w.heap.size, 4, none⟩ = some x4 ∧ Y.cell? ⟨w.heap.size, 5, none⟩ = some x5 ∧ Y.cell? ⟨w.heap.size, 6, none⟩ = some x6 :=
  ⟨box_at hb 0, box_at hb 1, box_at hb 2, box_at hb 3, box_at hb 4, box_at hb 5, box_at hb 6⟩
set_option maxHeartbeats 1000000 in
theorem oInt_c (i1 k1 e1 n1 : Int) (t1 : ByteArray) (p1 : Option Addr) (a1 u1 : Nat) (d1 : Bool) (w : World) : Calls Tryz.prog 40 #[.agg #[.int .i64 i1, .int .i64 k1, .int .i64 e1, .int .i64 n1, .string t1, .slice p1 a1 u1, .bool d1]] w fun e w' => e = .returned (.bool (intK k1)) ∧ Below w.heap.size w w' := by
  have c := fun W => cInt_c k1 W
  have HB : Hid (Below w.heap.size w (w.alloc (.cells #[.int .i64 i1, .int .i64 k1, .int .i64 e1, .int .i64 n1, .string t1, .slice p1 a1 u1, .bool d1] TO))) := below1 w _
  go_enter Tryz.func40, Tryz.ntmps40
  go_wp2_with fail
  refine (c _).mono ?_
  rintro e w' ⟨rfl, rfl⟩
  go_wp2
  go_ret
  exact ⟨rfl, HB.out⟩
set_option maxHeartbeats 1000000 in
theorem oPtr_c (i1 k1 e1 n1 : Int) (t1 : ByteArray) (p1 : Option Addr) (a1 u1 : Nat) (d1 : Bool) (w : World) : Calls Tryz.prog 53 #[.agg #[.int .i64 i1, .int .i64 k1, .int .i64 e1, .int .i64 n1, .string t1, .slice p1 a1 u1, .bool d1]] w fun e w' => e = .returned (.bool (k1 == 13)) ∧ Below w.heap.size w w' := by
  have HB : Hid (Below w.heap.size w (w.alloc (.cells #[.int .i64 i1, .int .i64 k1, .int .i64 e1, .int .i64 n1, .string t1, .slice p1 a1 u1, .bool d1] TO))) := below1 w _
  go_enter Tryz.func53, Tryz.ntmps53
  go_wp2
  go_ret
  exact ⟨rfl, HB.out⟩
set_option maxHeartbeats 1000000 in
theorem oProm_c (i1 k1 e1 n1 : Int) (t1 : ByteArray) (p1 : Option Addr) (a1 u1 : Nat) (d1 : Bool) (w : World) : Calls Tryz.prog 42 #[.agg #[.int .i64 i1, .int .i64 k1, .int .i64 e1, .int .i64 n1, .string t1, .slice p1 a1 u1, .bool d1]] w fun e w' => e = .returned (.int .i64 (promP k1 (-1))) ∧ Below w.heap.size w w' := by
  have c := fun W => cPromote_c k1 (-1) W
  have HB : Hid (Below w.heap.size w (w.alloc (.cells #[.int .i64 i1, .int .i64 k1, .int .i64 e1, .int .i64 n1, .string t1, .slice p1 a1 u1, .bool d1] TO))) := below1 w _
  go_enter Tryz.func42, Tryz.ntmps42
  go_wp2_with fail
  refine (c _).mono ?_
  rintro e w' ⟨rfl, rfl⟩
  go_wp2
  go_ret
  exact ⟨rfl, HB.out⟩
def toV (k e : Int) : Bool := k == 13 && e == 0
set_option maxHeartbeats 1000000 in
theorem oVoid_c (i1 k1 e1 n1 : Int) (t1 : ByteArray) (p1 : Option Addr) (a1 u1 : Nat) (d1 : Bool) (w : World) : Calls Tryz.prog 48 #[.agg #[.int .i64 i1, .int .i64 k1, .int .i64 e1, .int .i64 n1, .string t1, .slice p1 a1 u1, .bool d1]] w fun e w' => e = .returned (.bool (toV k1 e1)) ∧ Below w.heap.size w w' := by
  have c := fun W => oPtr_c i1 k1 e1 n1 t1 p1 a1 u1 d1 W
  have E0 : Hid (∀ Y, Below (w.alloc (.cells #[.int .i64 i1, .int .i64 k1, .int .i64 e1, .int .i64 n1, .string t1, .slice p1 a1 u1, .bool d1] TO)).heap.size (w.alloc (.cells #[.int .i64 i1, .int .i64 k1, .int .i64 e1, .int .i64 n1, .string t1, .slice p1 a1 u1, .bool d1] TO)) Y → Below w.heap.size w Y) := fun Y h => below_box h
  by_cases hk : k1 = 13
  · subst hk
    have hq : (e1 == 0) = true ∨ (e1 == 0) = false := by cases (e1 == 0) <;> simp
    rw [show toV 13 e1 = (e1 == 0) by simp [toV]]
    by_cases he : e1 = 0
    · subst he
      go_enter Tryz.func48, Tryz.ntmps48
      go_wp2_with fail
      refine (c _).mono ?_
      rintro e w' ⟨rfl, hb⟩
      have HY : Hid (Below w.heap.size w w') := E0.out _ hb
      obtain ⟨q0, q1, q2, q3, q4, q5, q6⟩ := box7 hb
      clear hb c
      go_wp2
      go_ret
      exact ⟨rfl, HY.out⟩
    · have de : (e1 == 0) = false := by simpa using he
      rw [de]
      go_enter Tryz.func48, Tryz.ntmps48
      go_wp2_with fail
      refine (c _).mono ?_
      rintro e w' ⟨rfl, hb⟩
      have HY : Hid (Below w.heap.size w w') := E0.out _ hb
      obtain ⟨q0, q1, q2, q3, q4, q5, q6⟩ := box7 hb
      clear hb c
      go_wp2
      go_ret
      exact ⟨rfl, HY.out⟩
  · have dk : (k1 == 13) = false := by simpa using hk
    rw [show toV k1 e1 = false by simp [toV, dk]]
    rw [dk] at c
    go_enter Tryz.func48, Tryz.ntmps48
    go_wp2_with fail
    refine (c _).mono ?_
    rintro e w' ⟨rfl, hb⟩
    have HY : Hid (Below w.heap.size w w') := E0.out _ hb
    obtain ⟨q0, q1, q2, q3, q4, q5, q6⟩ := box7 hb
    clear hb c
    go_wp2
    go_ret
    exact ⟨rfl, HY.out⟩
end
end Go.Proofs.YtpnpilbmhkiphaaGreatDoor
namespace Go.Proofs.YtpnpilbmhkiphaaGreatDoor
open Go.RowKit Go.Maps
set_option linter.unusedVariables false
set_option maxRecDepth 100000

/-- A load whose answer is told, under a guard that is met. -/
theorem step_load {P : Program} {t ty : TypeId} {p : Operand} {pos : String} {af : Array Edge} {gd : Option (Nat × Bool)} {ops : Array Oper} {rest : List Oper} {tmps : Array Value} {w : World} {Q : Exit → Act → World → Prop} {d : Tmp} {a : Addr} {v : Value}
    (hl : (Instr.loadAt t (.pointer (some a))).run P w = .ok v w) (hw : Region.wanted { dst := some d, op := Op.load t p, type := ty, pos := pos, after := af, guard := gd } (yielded ops tmps) = true)
    (hp : Act.eval ⟨tmps, []⟩ p = .pointer (some a)) (k : wpList P ops Q rest ⟨tmps.setIfInBounds d v, []⟩ w) : wpList P ops Q ({ dst := some d, op := Op.load t p, type := ty, pos := pos, after := af, guard := gd } :: rest) ⟨tmps, []⟩ w :=
  wpList_step fun K hK => by
    rw [if_pos hw]
    unfold Oper.wp execOp
    simp only [hp, Sem.run_bind, Sem.run_pure, hl, Result.andThen_ok]
    exact hK _ _ k
section
variable {Y : World} {g : Nat}
def InP (Y : World) (g : Nat) (cs : Array Value) : Prop := ∀ j, Y.cell? ⟨g, j, none⟩ = cs[j]?
theorem inP_box {w : World} {cs : Array Value} {T : TypeId} (hb : Below (w.alloc (.cells cs T)).heap.size (w.alloc (.cells cs T)) Y) : InP Y w.heap.size cs := box_at hb
theorem inP_below {w : World} {cs : Array Value} (h : InP w g cs) (hg : g < w.heap.size) (hb : Below w.heap.size w Y) : InP Y g cs := fun j => (hb.cell (p := ⟨g, j, none⟩) hg).trans (h j)
theorem range_of {cs : Array Value} (h : InP Y g cs) (o : Nat) (l : List Value) (hl : ∀ j v, l[j]? = some v → cs[o + j]? = some v) : Y.rangeAt g o l := by
  intro j v hj
  rw [h (o + j)]; exact hl j v hj
theorem load_O {i k e n : Int} {t : ByteArray} {p : Option Addr} {a u : Nat} {d : Bool} (o : Nat) (h : Y.rangeAt g o [.int .i64 i, .int .i64 k, .int .i64 e, .int .i64 n, .string t, .slice p a u, .bool d]) :
    (Instr.loadAt TO (.pointer (some ⟨g, o, none⟩))).run Tryz.prog Y = .ok (.agg #[.int .i64 i, .int .i64 k, .int .i64 e, .int .i64 n, .string t, .slice p a u, .bool d]) Y :=
  run_loadAt_mid Y g o TO _ _ h Tryz.underlying69 rfl (by kernel_rfl)
theorem load_P {tp : Option Addr} {op : ByteArray} {i1 k1 e1 n1 : Int} {t1 : ByteArray} {p1 : Option Addr} {a1 u1 : Nat} {d1 : Bool} {i2 k2 e2 n2 : Int} {t2 : ByteArray} {p2 : Option Addr} {a2 u2 : Nat} {d2 : Bool} (h : InP Y g #[.pointer tp, .string op, .int .i64 i1, .int .i64 k1, .int .i64 e1, .int .i64 n1, .string t1, .slice p1 a1 u1, .bool d1, .int .i64 i2, .int .i64 k2, .int .i64 e2, .int .i64 n2, .string t2, .slice p2 a2 u2, .bool d2]) :
    (Instr.loadAt TP (.pointer (some ⟨g, 0, none⟩))).run Tryz.prog Y = .ok (.agg #[.pointer tp, .string op, .int .i64 i1, .int .i64 k1, .int .i64 e1, .int .i64 n1, .string t1, .slice p1 a1 u1, .bool d1, .int .i64 i2, .int .i64 k2, .int .i64 e2, .int .i64 n2, .string t2, .slice p2 a2 u2, .bool d2]) Y ∧ (Instr.loadAt TO (.pointer (some ⟨g, 2, none⟩))).run Tryz.prog Y = .ok (.agg #[.int .i64 i1, .int .i64 k1, .int .i64 e1, .int .i64 n1, .string t1, .slice p1 a1 u1, .bool d1]) Y ∧ (Instr.loadAt TO (.pointer (some ⟨g, 9, none⟩))).run Tryz.prog Y = .ok (.agg #[.int .i64 i2, .int .i64 k2, .int .i64 e2, .int .i64 n2, .string t2, .slice p2 a2 u2, .bool d2]) Y := by
  refine ⟨run_loadAt_mid Y g 0 TP [.pointer tp, .string op, .int .i64 i1, .int .i64 k1, .int .i64 e1, .int .i64 n1, .string t1, .slice p1 a1 u1, .bool d1, .int .i64 i2, .int .i64 k2, .int .i64 e2, .int .i64 n2, .string t2, .slice p2 a2 u2, .bool d2] _ (range_of h 0 _ (fun j v hj => ?_)) Tryz.underlying71 rfl (by kernel_rfl), load_O 2 (range_of h 2 _ (fun j v hj => ?_)), load_O 9 (range_of h 9 _ (fun j v hj => ?_))⟩
  · simpa using hj
  · have hlt := (List.getElem?_eq_some_iff.1 hj).1
    simp at hlt
    have : j = 0 ∨ j = 1 ∨ j = 2 ∨ j = 3 ∨ j = 4 ∨ j = 5 ∨ j = 6 := by omega
    rcases this with rfl | rfl | rfl | rfl | rfl | rfl | rfl <;> simpa using hj
  · have hlt := (List.getElem?_eq_some_iff.1 hj).1
    simp at hlt
    have : j = 0 ∨ j = 1 ∨ j = 2 ∨ j = 3 ∨ j = 4 ∨ j = 5 ∨ j = 6 := by omega
    rcases this with rfl | rfl | rfl | rfl | rfl | rfl | rfl <;> simpa using hj
end
end Go.Proofs.YtpnpilbmhkiphaaGreatDoor
