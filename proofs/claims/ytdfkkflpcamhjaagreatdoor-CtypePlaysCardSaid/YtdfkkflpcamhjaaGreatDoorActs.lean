/-
  What is left of a table's own acts: Basic, Enum, Union, a full table, Complete's refusals.
-/
import Derived.Test.YtdfkkflpcamhjaaGreatDoorPtrArr
import Derived.Test.YtdfkkflpcamhjaaGreatDoorTagged
import Derived.Test.YtdfkkflpcamhjaaGreatDoorComplete
namespace Go.Proofs.YtdfkkflpcamhjaaGreatDoor
open Go.RowKit Go.Maps
set_option linter.unusedVariables false
set_option maxRecDepth 100000

section
variable {B : Nat} {w : World} {b mb : Nat} {v : Value} {rs : List (Rw × Value)} {ps : List (Value × Value)}
theorem basic_c (h : Tab B w b mb v rs ps) (h0 : 0 < rs.length) (k : Int) (hk : wf64 k) :
    Calls Tryz.prog 16 #[.pointer (some ⟨b, 0, none⟩), .int .i64 k] w fun e w' => e = .returned (.tuple (if 1 ≤ k ∧ k ≤ 11 then #[.int .i64 (k - 1), .int .i64 0] else #[.int .i64 0, .int .i64 30])) ∧ w' = w := by
  have c1 := made_c h h0
  have h1 := not_t
  have h2 := not_f
  by_cases hk1 : k < 1
  · rw [if_neg (by omega)]
    go_enter Tryz.func16, Tryz.ntmps16
    go_wp2_with (go_at_call 41; refine c1.mono ?_; rintro e w' ⟨rfl, rfl⟩)
    go_ret2
    exact ⟨rfl, rfl⟩
  by_cases hk2 : 11 < k
  · rw [if_neg (by omega)]
    go_enter Tryz.func16, Tryz.ntmps16
    go_wp2_with (go_at_call 41; refine c1.mono ?_; rintro e w' ⟨rfl, rfl⟩)
    go_ret2
    exact ⟨rfl, rfl⟩
  · have hk3 : 1 ≤ k := by omega
    have hk4 : k ≤ 11 := by omega
    rw [if_pos ⟨hk3, hk4⟩]
    go_enter Tryz.func16, Tryz.ntmps16
    go_wp2_with (go_at_call 41; refine c1.mono ?_; rintro e w' ⟨rfl, rfl⟩)
    go_ret2
    exact ⟨rfl, rfl⟩

theorem enum_of {R : Ending → World → Prop} {a : Value} {s : ByteArray} {x y : Int} (c : Calls Tryz.prog 49 #[a, .int .i64 12, .string s] w fun e w' => e = .returned (.tuple #[.int .i64 x, .int .i64 y]) ∧ R e w') :
    Calls Tryz.prog 18 #[a, .string s] w fun e w' => e = .returned (.tuple #[.int .i64 x, .int .i64 y]) ∧ R e w' := by
  go_enter Tryz.func18, Tryz.ntmps18
  go_wp2_with (go_at_call 49; refine c.mono ?_; rintro e w' ⟨rfl, hR⟩)
  go_ret2
  exact ⟨rfl, hR⟩
theorem union_of {R : Ending → World → Prop} {a : Value} {s : ByteArray} {x y : Int} (c : Calls Tryz.prog 49 #[a, .int .i64 16, .string s] w fun e w' => e = .returned (.tuple #[.int .i64 x, .int .i64 y]) ∧ R e w') :
    Calls Tryz.prog 25 #[a, .string s] w fun e w' => e = .returned (.tuple #[.int .i64 x, .int .i64 y]) ∧ R e w' := by
  go_enter Tryz.func25, Tryz.ntmps25
  go_wp2_with (go_at_call 49; refine c.mono ?_; rintro e w' ⟨rfl, hR⟩)
  go_ret2
  exact ⟨rfl, hR⟩

/-- There is none, and no room for one. -/
theorem derived_full (h : Tab B w b mb v rs ps) {k e n : Int} (hk : wf64 k) (he : wf64 e) (hn : wf64 n) (hno : ∀ kv ∈ ps, kv.1 ≠ keyV k e n) (hl : rs.length = 512) :
    Calls Tryz.prog 52 #[.pointer (some ⟨b, 0, none⟩), keyV k e n] w fun x w' => x = .returned (.tuple #[.int .i64 0, .int .i64 32]) ∧ Below w.heap.size w w' := by
  have h2 := h.alloc (.cells #[.int .i64 k, .int .i64 e, .int .i64 n] TK)
  have hrun := fun q => (h2.drewN q).look_none hk he hn hno
  have hc := h2.c1
  have hbz : ∀ W : World, (Instr.build TR #[(0, .int .i64 k), (1, .int .i64 e), (2, .int .i64 n)]).run Tryz.prog W = .ok (.agg #[.int .i64 k, .int .i64 e, .int .i64 n, .string ⟨#[]⟩, .slice none 0 0, .bool false]) W := fun W => by kernel_rfl
  have cA := fun q => add_full (h2.drewN q) ⟨k, e, n, ⟨#[]⟩, [], false⟩ (.slice none 0 0) hl
  simp only [rwCells] at cA
  unfold keyV at hrun ⊢
  go_enter Tryz.func52, Tryz.ntmps52
  go_wp2
  have HB : Hid (Below w.heap.size w (w.alloc (.cells #[.int .i64 k, .int .i64 e, .int .i64 n] TK))) := (Below.refl _ w).alloc (Nat.le_refl _) _
  have e1 := heap_r0 w (.cells #[.int .i64 k, .int .i64 e, .int .i64 n] TK)
  generalize w.alloc (.cells #[.int .i64 k, .int .i64 e, .int .i64 n] TK) = W at *
  have a0 : W.cell? ⟨w.heap.size, 0, none⟩ = some (.int .i64 k) := by rw [Lib.cell_of_heap e1]; rfl
  have a1 : W.cell? ⟨w.heap.size, 1, none⟩ = some (.int .i64 e) := by rw [Lib.cell_of_heap e1]; rfl
  have a2 : W.cell? ⟨w.heap.size, 2, none⟩ = some (.int .i64 n) := by rw [Lib.cell_of_heap e1]; rfl
  clear e1
  go_quiet (fail)
  go_wp2_with (go_at_call 78; refine (cA _).mono ?_; rintro x w3 ⟨rfl, hb3⟩)
  go_ret2
  exact ⟨rfl, (HB.out.trans (below_drewN _ W nq)).trans (hb3.mono HB.out.size)⟩

theorem complete_type (h : Tab B w b mb v rs ps) (h0 : 0 < rs.length) (x : Value) (id : Int) (hk : recK (kindP rs id) = false) :
    Calls Tryz.prog 26 #[.pointer (some ⟨b, 0, none⟩), .int .i64 id, x] w fun e w' => e = .returned (.int .i64 30) ∧ w' = w := by
  have c1 := made_c h h0
  have c2 := kind_c h h0 id
  have c3 := isRecord_c (kindP rs id) w
  rw [hk] at c3
  have h1 := not_t
  have h2 := not_f
  generalize kindP rs id = k at *
  go_enter Tryz.func26, Tryz.ntmps26
  go_wp2_with (first | (go_at_call 41; refine c1.mono ?_; rintro e w' ⟨rfl, rfl⟩) | (go_at_call 57; refine c2.mono ?_; rintro e w' ⟨rfl, rfl⟩) | (go_at_call 56; refine c3.mono ?_; rintro e w' ⟨rfl, rfl⟩))
  go_ret
  exact ⟨rfl, rfl⟩
theorem complete_done (h : Tab B w b mb v rs ps) (h0 : 0 < rs.length) (x : Value) {i : Nat} {r : Rw} {s0 : Value} (hp : rs[i]? = some (r, s0)) (hk : recK r.kind = true) (hd : r.done = true) :
    Calls Tryz.prog 26 #[.pointer (some ⟨b, 0, none⟩), .int .i64 i, x] w fun e w' => e = .returned (.int .i64 33) ∧ w' = w := by
  have c1 := made_c h h0
  have c2 := kind_some h i _ hp
  have c3 := isRecord_c r.kind w
  rw [hk] at c3
  have hc := h.c0
  have hlt : i < rs.length := (List.getElem?_eq_some_iff.1 hp).1
  have hln := h.len
  obtain ⟨g, cap, rfl, hcap, hcell⟩ := h.cell hp
  have a5 := hcell 5 (by omega)
  simp only [rwCells, List.getElem?_cons_succ, List.getElem?_cons_zero, hd] at a5
  clear hcell hp
  have h1 := not_t
  simp only at c2
  go_enter Tryz.func26, Tryz.ntmps26
  go_wp2_with (first | (go_at_call 41; refine c1.mono ?_; rintro e w' ⟨rfl, rfl⟩) | (go_at_call 57; refine c2.mono ?_; rintro e w' ⟨rfl, rfl⟩) | (go_at_call 56; refine c3.mono ?_; rintro e w' ⟨rfl, rfl⟩))
  go_ret
  exact ⟨rfl, rfl⟩
end
end Go.Proofs.YtdfkkflpcamhjaaGreatDoor
