/-
  What a table tells: Whole, Scalar, Len; isLength; Ptr and Array.
-/
import Derived.Test.YtlcghlfmaohfeaaGreatHDerive
namespace Go.Proofs.YtlcghlfmaohfeaaGreat
open Go.RowKit Go.Maps
set_option linter.unusedVariables false
set_option maxRecDepth 100000

def intK (k : Int) : Bool := decide (2 ≤ k) && decide (k ≤ 12)
theorem isInteger_c (k : Int) (w : World) : Calls Tryz.prog 99 #[.int .i64 k] w fun e w' => e = .returned (.bool (intK k)) ∧ w' = w := by
  go_enter Tryz.func99, Tryz.ntmps99
  go_wp2
  all_goals go_ret
  all_goals refine ⟨bool_ret ?_, rfl⟩
  all_goals (rw [Bool.eq_iff_iff]; simp [intK]; omega)
def recK (k : Int) : Bool := k == 15 || k == 16
theorem isRecord_c (k : Int) (w : World) : Calls Tryz.prog 51 #[.int .i64 k] w fun e w' => e = .returned (.bool (recK k)) ∧ w' = w := by
  go_enter Tryz.func51, Tryz.ntmps51
  go_wp2
  all_goals go_ret
  all_goals refine ⟨bool_ret ?_, rfl⟩
  all_goals (rw [Bool.eq_iff_iff]; simp [recK] <;> omega)
def lenK (n : Int) : Bool := n == -1 || (decide (1 ≤ n) && decide (n ≤ 16384))
theorem isLength_c (k : Int) (w : World) : Calls Tryz.prog 79 #[.int .i64 k] w fun e w' => e = .returned (.bool (lenK k)) ∧ w' = w := by
  go_enter Tryz.func79, Tryz.ntmps79
  go_wp2
  all_goals go_ret
  all_goals refine ⟨bool_ret ?_, rfl⟩
  all_goals (rw [Bool.eq_iff_iff]; simp [lenK]; omega)

section
variable {B : Nat} {w : World} {b mb : Nat} {v : Value} {rs : List (Rw × Value)} {ps : List (Value × Value)}

theorem len_c (h : Tab B w b mb v rs ps) (h0 : 0 < rs.length) :
    Calls Tryz.prog 37 #[.pointer (some ⟨b, 0, none⟩)] w fun e w' => e = .returned (.int .i64 rs.length) ∧ w' = w := by
  have c := made_c h h0
  have h1 := not_t
  have hc := h.c0
  obtain ⟨p, cap, rfl, hcap⟩ := h.sl
  go_enter Tryz.func37, Tryz.ntmps37
  go_wp2_with (go_at_call 50; refine c.mono ?_; rintro e w' ⟨rfl, rfl⟩)
  go_ret
  exact ⟨rfl, rfl⟩

/-- A type's kind, 0 where there is none. -/
def kindP (rs : List (Rw × Value)) (id : Int) : Int := if 0 ≤ id then (match rs[id.toNat]? with | some p => p.1.kind | none => 0) else 0
theorem kindP_some {i : Nat} {p : Rw × Value} (hp : rs[i]? = some p) : kindP rs i = p.1.kind := by simp [kindP, hp]
theorem kindP_none {id : Int} (h : hasP rs.length id = false) : kindP rs id = 0 := by
  unfold kindP
  split
  · rw [List.getElem?_eq_none (by simp [hasP] at h; omega)]
  · rfl
theorem kind_c (h : Tab B w b mb v rs ps) (h0 : 0 < rs.length) (id : Int) :
    Calls Tryz.prog 52 #[.pointer (some ⟨b, 0, none⟩), .int .i64 id] w fun e w' => e = .returned (.int .i64 (kindP rs id)) ∧ w' = w := by
  rcases hh : hasP rs.length id with _ | _
  · rw [kindP_none hh]; exact kind_none h h0 id hh
  · obtain ⟨i, rfl⟩ : ∃ i : Nat, id = i := ⟨id.toNat, by simp [hasP] at hh; omega⟩
    have hi : i < rs.length := by simp [hasP] at hh; omega
    rw [kindP_some (List.getElem?_eq_getElem hi)]
    exact kind_some h i _ (List.getElem?_eq_getElem hi)

theorem scalar_c (h : Tab B w b mb v rs ps) (h0 : 0 < rs.length) (id : Int) :
    Calls Tryz.prog 86 #[.pointer (some ⟨b, 0, none⟩), .int .i64 id] w fun e w' => e = .returned (.bool (intK (kindP rs id) || kindP rs id == 13)) ∧ w' = w := by
  have c := kind_c h h0 id
  have c2 := fun k W => isInteger_c k W
  generalize kindP rs id = k at *
  have c2 := c2 k w
  rcases hI : intK k with _ | _ <;> rw [hI] at c2
  all_goals go_enter Tryz.func86, Tryz.ntmps86
  all_goals go_wp2_with (first | (go_at_call 52; refine c.mono ?_; rintro e w' ⟨rfl, rfl⟩) | (go_at_call 99; refine c2.mono ?_; rintro e w' ⟨rfl, rfl⟩))
  all_goals go_ret
  all_goals refine ⟨bool_ret ?_, rfl⟩
  all_goals first | rfl | (rw [Bool.eq_iff_iff]; simp)

/-- Has a type a size? -/
def wholeR (r : Rw) : Bool := if r.kind = 14 then r.len != -1 else if recK r.kind then r.done else intK r.kind || r.kind == 13
def wholeP (rs : List (Rw × Value)) (id : Int) : Bool := if 0 ≤ id then (match rs[id.toNat]? with | some p => wholeR p.1 | none => false) else false
theorem wholeP_some {i : Nat} {p : Rw × Value} (hp : rs[i]? = some p) : wholeP rs i = wholeR p.1 := by simp [wholeP, hp]
theorem wholeP_none {id : Int} (h : hasP rs.length id = false) : wholeP rs id = false := by
  unfold wholeP
  split
  · rw [List.getElem?_eq_none (by simp [hasP] at h; omega)]
  · rfl

set_option maxHeartbeats 2000000 in
theorem whole_c (h : Tab B w b mb v rs ps) (h0 : 0 < rs.length) (id : Int) :
    Calls Tryz.prog 56 #[.pointer (some ⟨b, 0, none⟩), .int .i64 id] w fun e w' => e = .returned (.bool (wholeP rs id)) ∧ w' = w := by
  have c := kind_c h h0 id
  have c2 := scalar_c h h0 id
  rcases hh : hasP rs.length id with _ | _
  · rw [wholeP_none hh]
    rw [kindP_none hh] at c c2
    go_enter Tryz.func56, Tryz.ntmps56
    go_wp2_with (first | (go_at_call 52; refine c.mono ?_; rintro e w' ⟨rfl, rfl⟩) | (go_at_call 86; refine c2.mono ?_; rintro e w' ⟨rfl, rfl⟩))
    go_ret
    exact ⟨rfl, rfl⟩
  · obtain ⟨i, rfl⟩ : ∃ i : Nat, id = i := ⟨id.toNat, by simp [hasP] at hh; omega⟩
    have hi : i < rs.length := by simp [hasP] at hh; omega
    obtain ⟨p, hp⟩ : ∃ p, rs[i]? = some p := ⟨_, List.getElem?_eq_getElem hi⟩
    rw [kindP_some hp] at c c2
    rw [wholeP_some hp]
    have hc := h.c0
    have hl := h.len
    obtain ⟨g, cap, rfl, hcap, hcell⟩ := h.cell hp
    have a2 := hcell 2 (by omega)
    have a5 := hcell 5 (by omega)
    simp only [rwCells, List.getElem?_cons_succ, List.getElem?_cons_zero] at a2 a5
    clear hcell hp
    obtain ⟨⟨kd, el, ln, tg, mm, dn⟩, s⟩ := p
    simp only at *
    unfold wholeR
    simp only
    by_cases h14 : kd = 14
    · subst h14
      clear c2
      go_enter Tryz.func56, Tryz.ntmps56
      go_wp2_with (first | (go_at_call 52; refine c.mono ?_; rintro e w' ⟨rfl, rfl⟩))
      go_ret
      exact ⟨bool_ret rfl, rfl⟩
    · rw [if_neg h14]
      rcases hr : recK kd with _ | _
      · have h15 : ¬ kd = 15 := by rintro rfl; simp [recK] at hr
        have h16 : ¬ kd = 16 := by rintro rfl; simp [recK] at hr
        have b14 : (kd == 14) = false := by simpa using h14
        have b15 : (kd == 15) = false := by simpa using h15
        have b16 : (kd == 16) = false := by simpa using h16
        generalize (intK kd || kd == 13) = x at *
        go_enter Tryz.func56, Tryz.ntmps56
        go_wp2_with (first | (go_at_call 52; refine c.mono ?_; rintro e w' ⟨rfl, rfl⟩) | (go_at_call 86; refine c2.mono ?_; rintro e w' ⟨rfl, rfl⟩))
        all_goals go_ret
        all_goals exact ⟨by simp, rfl⟩
      · clear c2
        obtain rfl | rfl : kd = 15 ∨ kd = 16 := by simpa [recK] using hr
        all_goals go_enter Tryz.func56, Tryz.ntmps56
        all_goals go_wp2_with (first | (go_at_call 52; refine c.mono ?_; rintro e w' ⟨rfl, rfl⟩))
        all_goals go_ret
        all_goals exact ⟨by simp, rfl⟩
end
end Go.Proofs.YtlcghlfmaohfeaaGreat
