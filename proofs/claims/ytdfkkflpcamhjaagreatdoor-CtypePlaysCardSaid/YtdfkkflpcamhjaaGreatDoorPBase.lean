/-
  The given answer's functions base and Scalar.
-/
import Derived.Test.YtdfkkflpcamhjaaGreatDoorRefKind
import Derived.Test.YtdfkkflpcamhjaaGreatDoorAround
namespace Go.Proofs.YtdfkkflpcamhjaaGreatDoor
open Go.RowKit Go.Maps
set_option linter.unusedVariables false
set_option maxRecDepth 100000
section
variable {w : World} {b : Nat} {v : Value} {rs : List (Rw × Value)}
theorem rScalar_c (h : RT w b v rs) (id : Int) :
    Calls Tryz.prog 37 #[.pointer (some ⟨b, 0, none⟩), .int .i64 id] w fun e w' => e = .returned (.bool (intK (kindP rs id) || kindP rs id == 13)) ∧ w' = w := by
  have c := rKind_c h id
  generalize kindP rs id = k at *
  go_enter Tryz.func37, Tryz.ntmps37
  go_wp2_with (go_at_call 68; refine c.mono ?_; rintro e w' ⟨rfl, rfl⟩)
  all_goals go_ret
  all_goals refine ⟨bool_ret ?_, rfl⟩
  all_goals (rw [Bool.eq_iff_iff]; simp [intK]; omega)
set_option maxHeartbeats 4000000 in
theorem rBase_low (h : RT w b v rs) (n : Nat) (hn : n < 11) (t : ByteArray) (ht : nameTab[n]? = some t) :
    Calls Tryz.prog 67 #[.pointer (some ⟨b, 0, none⟩), .int .i64 n] w fun e w' => e = .returned (.string t) ∧ Below w.heap.size w w' := by
  have hB : ∀ o, Below w.heap.size w (w.alloc o) := fun o => (Below.refl _ w).alloc (Nat.le_refl _) o
  have HB : Hid (∀ o, Below w.heap.size w (w.alloc o)) := hB
  clear hB h
  have hc : n = 0 ∨ n = 1 ∨ n = 2 ∨ n = 3 ∨ n = 4 ∨ n = 5 ∨ n = 6 ∨ n = 7 ∨ n = 8 ∨ n = 9 ∨ n = 10 := by omega
  rcases hc with rfl | rfl | rfl | rfl | rfl | rfl | rfl | rfl | rfl | rfl | rfl
  all_goals obtain rfl := Option.some.inj ht
  all_goals clear ht hn
  all_goals go_enter Tryz.func67, Tryz.ntmps67
  all_goals go_wp2
  all_goals go_ret
  all_goals exact ⟨rfl, HB.out _⟩
set_option maxHeartbeats 4000000 in
theorem rBase_high (h : RT w b v rs) {i : Nat} {p : Rw × Value} (hp : rs[i]? = some p) (hi : 11 ≤ i) (hk : p.1.kind = 12 ∨ p.1.kind = 15 ∨ p.1.kind = 16) (ht : p.1.tag.size ≤ 100) :
    Calls Tryz.prog 67 #[.pointer (some ⟨b, 0, none⟩), .int .i64 i] w fun e w' => e = .returned (.string (baseP p.1)) ∧ Below w.heap.size w w' := by
  have hlt : i < rs.length := (List.getElem?_eq_some_iff.1 hp).1
  have hB : ∀ o, Below w.heap.size w (w.alloc o) := fun o => (Below.refl _ w).alloc (Nat.le_refl _) o
  have HB : Hid (∀ o, Below w.heap.size w (w.alloc o)) := hB
  have hc0 := h.cell
  have hl := h.len
  obtain ⟨g, o, cap, rfl, hcap, hcell⟩ := h.at hp
  have a0 := hcell 0 (by omega)
  have a3 := hcell 3 (by omega)
  obtain ⟨⟨kd, el, ln, tg, mm, dn⟩, s0⟩ := p
  simp only [rwCells, Nat.add_zero, List.getElem?_cons_zero, List.getElem?_cons_succ] at a0 a3 hk ht ⊢
  obtain ⟨O, hO⟩ : ∃ O, O = Obj.cells #[.string ⟨#[118, 111, 105, 100]⟩, .string ⟨#[95, 66, 111, 111, 108]⟩, .string ⟨#[99, 104, 97, 114]⟩, .string ⟨#[115, 105, 103, 110, 101, 100, 32, 99, 104, 97, 114]⟩, .string ⟨#[117, 110, 115, 105, 103, 110, 101, 100, 32, 99, 104, 97, 114]⟩, .string ⟨#[115, 104, 111, 114, 116]⟩, .string ⟨#[117, 110, 115, 105, 103, 110, 101, 100, 32, 115, 104, 111, 114, 116]⟩, .string ⟨#[105, 110, 116]⟩, .string ⟨#[117, 110, 115, 105, 103, 110, 101, 100, 32, 105, 110, 116]⟩, .string ⟨#[108, 111, 110, 103]⟩, .string ⟨#[117, 110, 115, 105, 103, 110, 101, 100, 32, 108, 111, 110, 103]⟩] 9 := ⟨_, rfl⟩
  have x0 := ((HB.out O).cell (p := ⟨b, 0, none⟩) (World.block_lt_of_cell? w _ hc0)).trans hc0
  have x1 := ((HB.out O).cell (p := ⟨g, o + i * 6, none⟩) (World.block_lt_of_cell? w _ a0)).trans a0
  have x2 := ((HB.out O).cell (p := ⟨g, o + i * 6 + 3, none⟩) (World.block_lt_of_cell? w _ a3)).trans a3
  rw [hO] at x0 x1 x2
  clear hcell h hp hB hc0 a0 a3 hO
  unfold baseP
  simp only
  rcases hk with rfl | rfl | rfl
  · rw [if_pos rfl]
    have k1 := fun W => run_string_add_sum (P := Tryz.prog) W ⟨#[101, 110, 117, 109, 32]⟩ tg (by show 5 + tg.size ≤ _; omega)
    go_enter Tryz.func67, Tryz.ntmps67
    go_wp2
    go_ret
    exact ⟨rfl, HB.out _⟩
  · rw [if_neg (by decide), if_pos rfl]
    have k1 := fun W => run_string_add_sum (P := Tryz.prog) W ⟨#[115, 116, 114, 117, 99, 116, 32]⟩ tg (by show 7 + tg.size ≤ _; omega)
    go_enter Tryz.func67, Tryz.ntmps67
    go_wp2
    go_ret
    exact ⟨rfl, HB.out _⟩
  · rw [if_neg (by decide), if_neg (by decide), if_pos rfl]
    have k1 := fun W => run_string_add_sum (P := Tryz.prog) W ⟨#[117, 110, 105, 111, 110, 32]⟩ tg (by show 6 + tg.size ≤ _; omega)
    go_enter Tryz.func67, Tryz.ntmps67
    go_wp2
    go_ret
    exact ⟨rfl, HB.out _⟩
end
end Go.Proofs.YtdfkkflpcamhjaaGreatDoor
