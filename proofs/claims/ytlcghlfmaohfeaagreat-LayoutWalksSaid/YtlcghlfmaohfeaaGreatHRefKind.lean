/-
  The given answer's Has, Kind, Record, Whole, Integer, bits.
-/
import Derived.Test.YtlcghlfmaohfeaaGreatHRefEq
import Derived.Test.YtlcghlfmaohfeaaGreatHGraph
namespace Go.Proofs.YtlcghlfmaohfeaaGreat
open Go.RowKit Go.Maps
set_option linter.unusedVariables false
set_option maxRecDepth 100000

/-- The given answer's table, to be read. -/
structure RT (w : World) (b : Nat) (v : Value) (rs : List (Rw × Value)) : Prop where
  cell : w.cell? ⟨b, 0, none⟩ = some v
  rows : RowSl w v rs
  len : rs.length ≤ 512
theorem RT.below {w w' : World} {b : Nat} {v : Value} {rs : List (Rw × Value)} (h : RT w b v rs) (hb : Below w.heap.size w w') : RT w' b v rs :=
  ⟨(hb.cell (p := ⟨b, 0, none⟩) (World.block_lt_of_cell? w _ h.cell)).trans h.cell, h.rows.below hb, h.len⟩
theorem RT.sl {w : World} {b : Nat} {v : Value} {rs : List (Rw × Value)} (h : RT w b v rs) : ∃ p c, v = .slice p rs.length c ∧ rs.length ≤ c := by
  rcases h.rows.1 with ⟨rfl, rfl⟩ | ⟨g, o, cap, hv, hc, _⟩
  · exact ⟨none, 0, rfl, Nat.le_refl _⟩
  · exact ⟨_, _, hv, hc⟩
theorem RT.at {w : World} {b : Nat} {v : Value} {rs : List (Rw × Value)} (h : RT w b v rs) {i : Nat} {p : Rw × Value} (hp : rs[i]? = some p) :
    ∃ g o c, v = .slice (some ⟨g, o, none⟩) rs.length c ∧ rs.length ≤ c ∧ ∀ j, j < 6 → w.cell? ⟨g, o + i * 6 + j, none⟩ = (rwCells p.1 p.2)[j]? := by
  rcases h.rows.1 with ⟨rfl, rfl⟩ | ⟨g, o, cap, hv, hc, _, hq⟩
  · simp at hp
  · exact ⟨g, o, cap, hv, hc, fun j hj => hq i p hp j hj⟩

section
variable {w : World} {b : Nat} {v : Value} {rs : List (Rw × Value)}
theorem rHas_c (h : RT w b v rs) (id : Int) :
    Calls Tryz.prog 58 #[.pointer (some ⟨b, 0, none⟩), .int .i64 id] w fun e w' => e = .returned (.bool (hasP rs.length id)) ∧ w' = w := by
  have hc := h.cell
  have hl := h.len
  obtain ⟨p, c, rfl, hcap⟩ := h.sl
  go_enter Tryz.func58, Tryz.ntmps58
  go_wp2
  all_goals go_ret
  all_goals refine ⟨bool_ret ?_, rfl⟩
  all_goals (rw [Bool.eq_iff_iff]; simp [hasP]; omega)

theorem rKind_c (h : RT w b v rs) (id : Int) :
    Calls Tryz.prog 67 #[.pointer (some ⟨b, 0, none⟩), .int .i64 id] w fun e w' => e = .returned (.int .i64 (kindP rs id)) ∧ w' = w := by
  have c := rHas_c h id
  have h1 := not_f
  have h2 := not_t
  rcases hh : hasP rs.length id with _ | _
  · rw [kindP_none hh]
    rw [hh] at c
    go_enter Tryz.func67, Tryz.ntmps67
    go_wp2_with (go_at_call 58; refine c.mono ?_; rintro e w' ⟨rfl, rfl⟩)
    go_ret
    exact ⟨rfl, rfl⟩
  · obtain ⟨i, rfl⟩ : ∃ i : Nat, id = i := ⟨id.toNat, by simp [hasP] at hh; omega⟩
    have hi : i < rs.length := by simp [hasP] at hh; omega
    obtain ⟨p, hp⟩ : ∃ p, rs[i]? = some p := ⟨_, List.getElem?_eq_getElem hi⟩
    rw [kindP_some hp]
    rw [hh] at c
    have hc := h.cell
    have hl := h.len
    obtain ⟨g, o, cap, rfl, hcap, hcell⟩ := h.at hp
    have a0 := hcell 0 (by omega)
    simp only [rwCells, Nat.add_zero, List.getElem?_cons_zero] at a0
    clear hcell h
    go_enter Tryz.func67, Tryz.ntmps67
    go_wp2_with (go_at_call 58; refine c.mono ?_; rintro e w' ⟨rfl, rfl⟩)
    go_ret
    exact ⟨rfl, rfl⟩

theorem rRecord_c (h : RT w b v rs) (id : Int) :
    Calls Tryz.prog 33 #[.pointer (some ⟨b, 0, none⟩), .int .i64 id] w fun e w' => e = .returned (.bool (recK (kindP rs id))) ∧ w' = w := by
  have c := rKind_c h id
  generalize kindP rs id = k at *
  go_enter Tryz.func33, Tryz.ntmps33
  go_wp2_with (go_at_call 67; refine c.mono ?_; rintro e w' ⟨rfl, rfl⟩)
  all_goals go_ret
  all_goals refine ⟨bool_ret ?_, rfl⟩
  all_goals (rw [Bool.eq_iff_iff]; simp [recK] <;> omega)

theorem rInteger_c (h : RT w b v rs) (id : Int) :
    Calls Tryz.prog 120 #[.pointer (some ⟨b, 0, none⟩), .int .i64 id] w fun e w' => e = .returned (.bool (intK (kindP rs id))) ∧ w' = w := by
  have c := rKind_c h id
  generalize kindP rs id = k at *
  go_enter Tryz.func120, Tryz.ntmps120
  go_wp2_with (go_at_call 67; refine c.mono ?_; rintro e w' ⟨rfl, rfl⟩)
  all_goals go_ret
  all_goals refine ⟨bool_ret ?_, rfl⟩
  all_goals (rw [Bool.eq_iff_iff]; simp [intK] <;> omega)

/-- Has a type a size, by the given answer? -/
def rWholeR (r : Rw) : Bool := if r.kind = 14 then decide (1 ≤ r.len) else if recK r.kind then r.done else decide (1 < r.kind)
def rWholeP (rs : List (Rw × Value)) (id : Int) : Bool := if 0 ≤ id then (match rs[id.toNat]? with | some p => rWholeR p.1 | none => false) else false
theorem rWholeP_some {i : Nat} {p : Rw × Value} (hp : rs[i]? = some p) : rWholeP rs i = rWholeR p.1 := by simp [rWholeP, hp]
theorem rWholeP_none {id : Int} (h : hasP rs.length id = false) : rWholeP rs id = false := by
  unfold rWholeP
  split
  · rw [List.getElem?_eq_none (by simp [hasP] at h; omega)]
  · rfl

set_option maxHeartbeats 2000000 in
theorem rWhole_c (h : RT w b v rs) (id : Int) :
    Calls Tryz.prog 59 #[.pointer (some ⟨b, 0, none⟩), .int .i64 id] w fun e w' => e = .returned (.bool (rWholeP rs id)) ∧ w' = w := by
  have c := rKind_c h id
  have c2 := rRecord_c h id
  rcases hh : hasP rs.length id with _ | _
  · rw [rWholeP_none hh]
    rw [kindP_none hh] at c c2
    have e : recK 0 = false := rfl
    rw [e] at c2
    go_enter Tryz.func59, Tryz.ntmps59
    go_wp2_with (first | (go_at_call 67; refine c.mono ?_; rintro e w' ⟨rfl, rfl⟩) | (go_at_call 33; refine c2.mono ?_; rintro e w' ⟨rfl, rfl⟩))
    go_ret
    exact ⟨rfl, rfl⟩
  · obtain ⟨i, rfl⟩ : ∃ i : Nat, id = i := ⟨id.toNat, by simp [hasP] at hh; omega⟩
    have hi : i < rs.length := by simp [hasP] at hh; omega
    obtain ⟨p, hp⟩ : ∃ p, rs[i]? = some p := ⟨_, List.getElem?_eq_getElem hi⟩
    rw [kindP_some hp] at c c2
    rw [rWholeP_some hp]
    have hc := h.cell
    have hl := h.len
    obtain ⟨g, o, cap, rfl, hcap, hcell⟩ := h.at hp
    have a2 := hcell 2 (by omega)
    have a5 := hcell 5 (by omega)
    simp only [rwCells, List.getElem?_cons_succ, List.getElem?_cons_zero] at a2 a5
    clear hcell hp h
    obtain ⟨⟨kd, el, ln, tg, mm, dn⟩, s⟩ := p
    simp only at *
    unfold rWholeR
    simp only
    by_cases h14 : kd = 14
    · subst h14
      clear c2
      go_enter Tryz.func59, Tryz.ntmps59
      go_wp2_with (first | (go_at_call 67; refine c.mono ?_; rintro e w' ⟨rfl, rfl⟩))
      go_ret
      exact ⟨bool_ret (by simp), rfl⟩
    · rw [if_neg h14]
      have b14 : (kd == 14) = false := by simpa using h14
      rcases hr : recK kd with _ | _ <;> rw [hr] at c2
      all_goals go_enter Tryz.func59, Tryz.ntmps59
      all_goals go_wp2_with (first | (go_at_call 67; refine c.mono ?_; rintro e w' ⟨rfl, rfl⟩) | (go_at_call 33; refine c2.mono ?_; rintro e w' ⟨rfl, rfl⟩))
      all_goals go_ret
      all_goals exact ⟨bool_ret (by simp), rfl⟩

theorem rWidth_c (k : Int) (w : World) : Calls Tryz.prog 107 #[.int .i64 k] w fun e w' => e = .returned (.int .i64 (widthP k)) ∧ w' = w := by
  by_cases h : 2 ≤ k ∧ k ≤ 13
  · obtain rfl | rfl | rfl | rfl | rfl | rfl | rfl | rfl | rfl | rfl | rfl | rfl : k = 2 ∨ k = 3 ∨ k = 4 ∨ k = 5 ∨ k = 6 ∨ k = 7 ∨ k = 8 ∨ k = 9 ∨ k = 10 ∨ k = 11 ∨ k = 12 ∨ k = 13 := by omega
    all_goals go_enter Tryz.func107, Tryz.ntmps107
    all_goals go_wp2
    all_goals go_ret
    all_goals exact ⟨by simp [widthP], rfl⟩
  · have b2 : (k == 2) = false := by simp; omega
    have b3 : (k == 3) = false := by simp; omega
    have b4 : (k == 4) = false := by simp; omega
    have b5 : (k == 5) = false := by simp; omega
    have b6 : (k == 6) = false := by simp; omega
    have b7 : (k == 7) = false := by simp; omega
    have b8 : (k == 8) = false := by simp; omega
    have b9 : (k == 9) = false := by simp; omega
    have b10 : (k == 10) = false := by simp; omega
    have b11 : (k == 11) = false := by simp; omega
    have b12 : (k == 12) = false := by simp; omega
    have b13 : (k == 13) = false := by simp; omega
    go_enter Tryz.func107, Tryz.ntmps107
    go_wp2
    go_ret
    exact ⟨int_ret (by unfold widthP; repeat' split
                       all_goals omega), rfl⟩

set_option maxHeartbeats 2000000 in
theorem rBits_c (h : RT w b v rs) (id n : Int) :
    Calls Tryz.prog 113 #[.pointer (some ⟨b, 0, none⟩), .int .i64 id, .int .i64 n] w fun e w' => e = .returned (.bool (bitsP (kindP rs id) n)) ∧ w' = w := by
  have c := rKind_c h id
  have c2 := rInteger_c h id
  have c3 := rWidth_c (kindP rs id) w
  have hle := widthP_le (kindP rs id)
  unfold bitsP widestP
  generalize kindP rs id = k at *
  by_cases hn : n = -1
  · subst hn
    clear c c2 c3
    have bm : ∀ x : Bool, ((-1 : Int) == -1 || x) = true := fun _ => rfl
    rw [bm]
    clear bm
    go_enter Tryz.func113, Tryz.ntmps113
    go_wp2
    all_goals go_ret
    all_goals exact ⟨rfl, rfl⟩
  · have bn : (n == -1) = false := by simpa using hn
    by_cases h2 : k = 2
    · subst h2
      have e1 : intK 2 = true := rfl
      have e2 : widthP 2 = 1 := by decide
      rw [e1] at c2
      rw [e2] at c3
      go_enter Tryz.func113, Tryz.ntmps113
      go_wp2_with (first | (go_at_call 67; refine c.mono ?_; rintro e w' ⟨rfl, rfl⟩) | (go_at_call 120; refine c2.mono ?_; rintro e w' ⟨rfl, rfl⟩) | (go_at_call 107; refine c3.mono ?_; rintro e w' ⟨rfl, rfl⟩))
      all_goals go_ret
      all_goals refine ⟨bool_ret ?_, rfl⟩
      all_goals first | rfl | (rw [Bool.eq_iff_iff]; simp; omega)
    · have b2 : (k == 2) = false := by simpa using h2
      rw [if_neg h2]
      generalize widthP k = x at *
      obtain ⟨hx0, hx4⟩ := hle
      rcases hI : intK k with _ | _ <;> rw [hI] at c2
      all_goals go_enter Tryz.func113, Tryz.ntmps113
      all_goals go_wp2_with (first | (go_at_call 67; refine c.mono ?_; rintro e w' ⟨rfl, rfl⟩) | (go_at_call 120; refine c2.mono ?_; rintro e w' ⟨rfl, rfl⟩) | (go_at_call 107; refine c3.mono ?_; rintro e w' ⟨rfl, rfl⟩))
      all_goals go_ret
      all_goals refine ⟨bool_ret ?_, rfl⟩
      all_goals first | rfl | (rw [Bool.eq_iff_iff]; simp; omega)

theorem rLength_c (k : Int) (w : World) : Calls Tryz.prog 74 #[.int .i64 k] w fun e w' => e = .returned (.bool (lenK k)) ∧ w' = w := by
  go_enter Tryz.func74, Tryz.ntmps74
  go_wp2
  all_goals go_ret
  all_goals refine ⟨bool_ret ?_, rfl⟩
  all_goals (rw [Bool.eq_iff_iff]; simp [lenK]; omega)
end
end Go.Proofs.YtlcghlfmaohfeaaGreat
