/-
  The given answer's derived, Ptr, Array.
-/
import Derived.Test.YtdfkkflpcamhjaaGreatDoorRefAdd
import Derived.Test.YtdfkkflpcamhjaaGreatDoorRefKind
import Derived.Test.YtdfkkflpcamhjaaGreatDoorPtrArr
namespace Go.Proofs.YtdfkkflpcamhjaaGreatDoor
open Go.RowKit Go.Maps
set_option linter.unusedVariables false
set_option maxRecDepth 100000

def likeK (k e n : Int) (q : Rw) : Bool := q.kind == k && q.elem == e && q.len == n

section
variable {w : World} {b : Nat} {v : Value} {rs : List (Rw × Value)}
theorem RT.read {w : World} {b : Nat} {v : Value} {rs : List (Rw × Value)} (h : RT w b v rs) (hn : 0 < rs.length) : ∃ g o c, v = .slice (some ⟨g, o, none⟩) rs.length c ∧ rs.length ≤ c ∧ g < w.heap.size ∧ ∀ k q, rs[k]? = some q → ∀ j, j < 6 → w.cell? ⟨g, o + k * 6 + j, none⟩ = (rwCells q.1 q.2)[j]? := by
  rcases h.rows.1 with ⟨_, hh⟩ | ⟨g, o, cap, hv, hc, hg, hq⟩
  · rw [hh] at hn; simp at hn
  · exact ⟨g, o, cap, hv, hc, hg, hq⟩

set_option maxHeartbeats 4000000 in
/-- There is one: the first. -/
theorem rDerived_old (h : RT w b v rs) {k e n : Int} {m : Nat} {p : Rw × Value} (hp : rs[m]? = some p) (hm : likeK k e n p.1 = true) (hfst : ∀ j q, j < m → rs[j]? = some q → likeK k e n q.1 = false) :
    Calls Tryz.prog 53 #[.pointer (some ⟨b, 0, none⟩), .int .i64 k, .int .i64 e, .int .i64 n] w fun x w' => x = .returned (.tuple #[.int .i64 m, .int .i64 0]) ∧ Below w.heap.size w w' := by
  have hlt : m < rs.length := (List.getElem?_eq_some_iff.1 hp).1
  have hl := h.len
  have hc := h.cell
  have hbl := World.block_lt_of_cell? w _ hc
  obtain ⟨g, o, cap, hv, hcap, hg, hcell⟩ := h.read (by omega)
  rw [hv] at hc
  have HC : Hid _ := hcell
  have HF : Hid (∀ j q, j < m → rs[j]? = some q → likeK k e n q.1 = false) := hfst
  have HP : Hid (rs[m]? = some p) := hp
  clear hcell h hfst hp
  go_enter Tryz.func53, Tryz.ntmps53
  go_wp2
  go_loopw [10] (fun j wr => ∃ i : Nat, j = .int .i64 i ∧ i ≤ m ∧ Hid (Below w.heap.size w wr)) (fun j _ => m - (intOf j).toNat)
  case atStart => exact ⟨0, rfl, Nat.zero_le _, Below.refl _ _⟩
  case round =>
    obtain ⟨i, rfl, hi, HW⟩ := hrel
    have hilt : i < rs.length := by omega
    by_cases him : i < m
    · obtain ⟨q, hq⟩ : ∃ q, rs[i]? = some q := ⟨_, List.getElem?_eq_getElem (by omega)⟩
      have y := fun j hj => (HW.out.cell (p := ⟨g, o + i * 6 + j, none⟩) hg).trans (HC.out i q hq j hj)
      have d0 := y 0 (by omega)
      have d1 := y 1 (by omega)
      have d2 := y 2 (by omega)
      simp only [rwCells, Nat.add_zero, List.getElem?_cons_zero, List.getElem?_cons_succ] at d0 d1 d2
      have fb := (HW.out.cell (p := ⟨b, 0, none⟩) hbl).trans hc
      have hq2 := HF.out i q him hq
      obtain ⟨⟨qk, qe, ql, qt, qm, qd⟩, qs⟩ := q
      simp only [likeK] at hq2
      simp only at d0 d1 d2
      clear y hq hc
      by_cases z0 : qk = k
      case neg =>
        have y : (qk == k) = false := by simpa using z0
        go_wp2
        exact ⟨⟨i + 1, by go_num, by omega, HW⟩, by simp [intOf]; omega⟩
      subst z0
      by_cases z1 : qe = e
      case neg =>
        have y : (qe == e) = false := by simpa using z1
        go_wp2
        exact ⟨⟨i + 1, by go_num, by omega, HW⟩, by simp [intOf]; omega⟩
      subst z1
      by_cases z2 : ql = n
      case neg =>
        have y : (ql == n) = false := by simpa using z2
        go_wp2
        exact ⟨⟨i + 1, by go_num, by omega, HW⟩, by simp [intOf]; omega⟩
      subst z2
      simp at hq2
    · obtain rfl : i = m := by omega
      have y := fun j hj => (HW.out.cell (p := ⟨g, o + i * 6 + j, none⟩) hg).trans (HC.out i p HP.out j hj)
      have d0 := y 0 (by omega)
      have d1 := y 1 (by omega)
      have d2 := y 2 (by omega)
      simp only [rwCells, Nat.add_zero, List.getElem?_cons_zero, List.getElem?_cons_succ] at d0 d1 d2
      have fb := (HW.out.cell (p := ⟨b, 0, none⟩) hbl).trans hc
      obtain ⟨⟨qk, qe, ql, qt, qm, qd⟩, qs⟩ := p
      simp only [likeK, Bool.and_eq_true, beq_iff_eq] at hm
      obtain ⟨⟨rfl, rfl⟩, rfl⟩ := hm
      simp only at d0 d1 d2
      clear y hc HF HP
      go_wp2
      go_ret2
      exact ⟨rfl, HW.out⟩

set_option maxHeartbeats 4000000 in
/-- There is none: what add does. -/
theorem rDerived_none {R : World → Ending → World → Prop} (h : RT w b v rs) (hn0 : 0 < rs.length) {k e n : Int} (hfst : ∀ (j : Nat) (q : Rw × Value), rs[j]? = some q → likeK k e n q.1 = false) {x y : Int}
    (c3 : ∀ X, Below w.heap.size w X → Calls Tryz.prog 50 #[.pointer (some ⟨b, 0, none⟩), .agg (rwCells ⟨k, e, n, ⟨#[]⟩, [], false⟩ (.slice none 0 0)).toArray] X fun z w' => z = .returned (.tuple #[.int .i64 x, .int .i64 y]) ∧ R X z w') :
    Calls Tryz.prog 53 #[.pointer (some ⟨b, 0, none⟩), .int .i64 k, .int .i64 e, .int .i64 n] w fun z w' => z = .returned (.tuple #[.int .i64 x, .int .i64 y]) ∧ ∃ X, Below w.heap.size w X ∧ R X z w' := by
  have hl := h.len
  have hc := h.cell
  have hbl := World.block_lt_of_cell? w _ hc
  obtain ⟨g, o, cap, hv, hcap, hg, hcell⟩ := h.read (by omega)
  rw [hv] at hc
  have HC : Hid _ := hcell
  have HF : Hid (∀ (j : Nat) (q : Rw × Value), rs[j]? = some q → likeK k e n q.1 = false) := hfst
  have hbz : ∀ W : World, (Instr.build TR #[(0, .int .i64 k), (1, .int .i64 e), (2, .int .i64 n)]).run Tryz.prog W = .ok (.agg #[.int .i64 k, .int .i64 e, .int .i64 n, .string ⟨#[]⟩, .slice none 0 0, .bool false]) W := fun W => by kernel_rfl
  simp only [rwCells] at c3
  clear hcell h hfst
  go_enter Tryz.func53, Tryz.ntmps53
  go_wp2
  go_loopw [10] (fun j wr => ∃ i : Nat, j = .int .i64 i ∧ i ≤ rs.length ∧ Hid (Below w.heap.size w wr)) (fun j _ => rs.length - (intOf j).toNat)
  case atStart => exact ⟨0, rfl, Nat.zero_le _, Below.refl _ _⟩
  case round =>
    obtain ⟨i, rfl, hi, HW⟩ := hrel
    by_cases hilt : i < rs.length
    · obtain ⟨q, hq⟩ : ∃ q, rs[i]? = some q := ⟨_, List.getElem?_eq_getElem (by omega)⟩
      have y := fun j hj => (HW.out.cell (p := ⟨g, o + i * 6 + j, none⟩) hg).trans (HC.out i q hq j hj)
      have d0 := y 0 (by omega)
      have d1 := y 1 (by omega)
      have d2 := y 2 (by omega)
      simp only [rwCells, Nat.add_zero, List.getElem?_cons_zero, List.getElem?_cons_succ] at d0 d1 d2
      have fb := (HW.out.cell (p := ⟨b, 0, none⟩) hbl).trans hc
      have hq2 := HF.out i q hq
      obtain ⟨⟨qk, qe, ql, qt, qm, qd⟩, qs⟩ := q
      simp only [likeK] at hq2
      simp only at d0 d1 d2
      clear y hq hc c3
      by_cases z0 : qk = k
      case neg =>
        have y : (qk == k) = false := by simpa using z0
        go_wp2
        exact ⟨⟨i + 1, by go_num, by omega, HW⟩, by simp [intOf]; omega⟩
      subst z0
      by_cases z1 : qe = e
      case neg =>
        have y : (qe == e) = false := by simpa using z1
        go_wp2
        exact ⟨⟨i + 1, by go_num, by omega, HW⟩, by simp [intOf]; omega⟩
      subst z1
      by_cases z2 : ql = n
      case neg =>
        have y : (ql == n) = false := by simpa using z2
        go_wp2
        exact ⟨⟨i + 1, by go_num, by omega, HW⟩, by simp [intOf]; omega⟩
      subst z2
      simp at hq2
    · obtain rfl : i = rs.length := by omega
      have fb := (HW.out.cell (p := ⟨b, 0, none⟩) hbl).trans hc
      have c4 := c3 wr HW.out
      clear c3 hc
      go_wp2_with (go_at_call 50; refine c4.mono ?_; rintro z w' ⟨rfl, hR⟩)
      go_ret2
      exact ⟨rfl, wr, HW.out, hR⟩

theorem rPtr_type (h : RT w b v rs) (id : Int) (hid : hasP rs.length id = false) :
    Calls Tryz.prog 21 #[.pointer (some ⟨b, 0, none⟩), .int .i64 id] w fun e w' => e = .returned (.tuple #[.int .i64 0, .int .i64 30]) ∧ w' = w := by
  have c2 := rHas_c h id
  rw [hid] at c2
  have h1 := not_t
  have h2 := not_f
  go_enter Tryz.func21, Tryz.ntmps21
  go_wp2_with (go_at_call 30; refine c2.mono ?_; rintro e w' ⟨rfl, rfl⟩)
  go_ret2
  exact ⟨rfl, rfl⟩
theorem rPtr_of {R : Ending → World → Prop} (h : RT w b v rs) (id : Int) (hid : hasP rs.length id = true)
    {x y : Int} (c : Calls Tryz.prog 53 #[.pointer (some ⟨b, 0, none⟩), .int .i64 13, .int .i64 id, .int .i64 0] w fun e w' => e = .returned (.tuple #[.int .i64 x, .int .i64 y]) ∧ R e w') :
    Calls Tryz.prog 21 #[.pointer (some ⟨b, 0, none⟩), .int .i64 id] w fun e w' => e = .returned (.tuple #[.int .i64 x, .int .i64 y]) ∧ R e w' := by
  have c2 := rHas_c h id
  rw [hid] at c2
  have h1 := not_t
  go_enter Tryz.func21, Tryz.ntmps21
  go_wp2_with (first | (go_at_call 30; refine c2.mono ?_; rintro e w' ⟨rfl, rfl⟩) | (go_at_call 53; refine c.mono ?_; rintro e w' ⟨rfl, hR⟩))
  go_ret2
  exact ⟨rfl, hR⟩
theorem rArray_bad (h : RT w b v rs) (id n : Int) {er : Int} (hb : (hasP rs.length id = false ∧ er = 30) ∨ (hasP rs.length id = true ∧ rWholeP rs id = false ∧ er = 50) ∨ (hasP rs.length id = true ∧ rWholeP rs id = true ∧ lenK n = false ∧ er = 2)) :
    Calls Tryz.prog 23 #[.pointer (some ⟨b, 0, none⟩), .int .i64 id, .int .i64 n] w fun e w' => e = .returned (.tuple #[.int .i64 0, .int .i64 er]) ∧ w' = w := by
  have c2 := rHas_c h id
  have c3 := rWhole_c h id
  have c4 := rLength_c n w
  have h1 := not_t
  have h2 := not_f
  rcases hb with ⟨e1, rfl⟩ | ⟨e1, e2, rfl⟩ | ⟨e1, e2, e3, rfl⟩
  · rw [e1] at c2
    go_enter Tryz.func23, Tryz.ntmps23
    go_wp2_with (go_at_call 30; refine c2.mono ?_; rintro e w' ⟨rfl, rfl⟩)
    go_ret2
    exact ⟨rfl, rfl⟩
  · rw [e1] at c2
    rw [e2] at c3
    go_enter Tryz.func23, Tryz.ntmps23
    go_wp2_with (first | (go_at_call 30; refine c2.mono ?_; rintro e w' ⟨rfl, rfl⟩) | (go_at_call 35; refine c3.mono ?_; rintro e w' ⟨rfl, rfl⟩))
    go_ret2
    exact ⟨rfl, rfl⟩
  · rw [e1] at c2
    rw [e2] at c3
    rw [e3] at c4
    go_enter Tryz.func23, Tryz.ntmps23
    go_wp2_with (first | (go_at_call 30; refine c2.mono ?_; rintro e w' ⟨rfl, rfl⟩) | (go_at_call 35; refine c3.mono ?_; rintro e w' ⟨rfl, rfl⟩) | (go_at_call 55; refine c4.mono ?_; rintro e w' ⟨rfl, rfl⟩))
    go_ret2
    exact ⟨rfl, rfl⟩
theorem rArray_of {R : Ending → World → Prop} (h : RT w b v rs) (id n : Int) (hid : hasP rs.length id = true) (hw : rWholeP rs id = true) (hn : lenK n = true)
    {x y : Int} (c : Calls Tryz.prog 53 #[.pointer (some ⟨b, 0, none⟩), .int .i64 14, .int .i64 id, .int .i64 n] w fun e w' => e = .returned (.tuple #[.int .i64 x, .int .i64 y]) ∧ R e w') :
    Calls Tryz.prog 23 #[.pointer (some ⟨b, 0, none⟩), .int .i64 id, .int .i64 n] w fun e w' => e = .returned (.tuple #[.int .i64 x, .int .i64 y]) ∧ R e w' := by
  have c2 := rHas_c h id
  have c3 := rWhole_c h id
  have c4 := rLength_c n w
  rw [hid] at c2
  rw [hw] at c3
  rw [hn] at c4
  have h1 := not_t
  go_enter Tryz.func23, Tryz.ntmps23
  go_wp2_with (first | (go_at_call 30; refine c2.mono ?_; rintro e w' ⟨rfl, rfl⟩) | (go_at_call 35; refine c3.mono ?_; rintro e w' ⟨rfl, rfl⟩) | (go_at_call 55; refine c4.mono ?_; rintro e w' ⟨rfl, rfl⟩) | (go_at_call 53; refine c.mono ?_; rintro e w' ⟨rfl, hR⟩))
  go_ret2
  exact ⟨rfl, hR⟩
end
end Go.Proofs.YtdfkkflpcamhjaaGreatDoor
