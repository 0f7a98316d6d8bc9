/-
  The given answer's twice: does a pointer or an array come earlier?
-/
import Derived.Test.YtdfkkflpcamhjaaGreatDoorRefShD
namespace Go.Proofs.YtdfkkflpcamhjaaGreatDoor
open Go.RowKit Go.Maps
set_option linter.unusedVariables false
set_option maxRecDepth 100000

def likeR (q r : Rw) : Bool := q.kind == r.kind && q.elem == r.elem && q.len == r.len
def rTwiceB (rs : List (Rw × Value)) (i : Nat) (r : Rw) : Bool := derivd r && (rs.take i).any fun q => likeR q.1 r

section
variable {w : World} {b : Nat} {v : Value} {rs : List (Rw × Value)}
set_option maxHeartbeats 4000000 in
theorem rTwice_c (h : RT w b v rs) {i : Nat} {p : Rw × Value} (hp : rs[i]? = some p) :
    Calls Tryz.prog 44 #[.pointer (some ⟨b, 0, none⟩), .int .i64 i] w fun e w' => e = .returned (.bool (rTwiceB rs i p.1)) ∧ Below w.heap.size w w' := by
  have hlt : i < rs.length := (List.getElem?_eq_some_iff.1 hp).1
  have hl := h.len
  have hc := h.cell
  obtain ⟨g, o, cap, hv, hcap, hcell⟩ := h.at hp
  have hg : g < w.heap.size := World.block_lt_of_cell? w _ ((hcell 0 (by omega)).trans rfl)
  obtain ⟨sp0, sn0, sc0, hs0⟩ := (h.rows.2 p (List.mem_of_getElem? hp)).sl
  obtain ⟨⟨kd, el, ln, tg, mm, dn⟩, s0⟩ := p
  simp only at hs0
  subst hs0
  have HA : Hid (∀ k q, rs[k]? = some q → ∀ j, j < 6 → w.cell? ⟨g, o + k * 6 + j, none⟩ = (rwCells q.1 q.2)[j]?) := by
    intro k q hq j hj
    obtain ⟨g', o', cap', hv', _, hcell'⟩ := h.at hq
    rw [hv] at hv'
    injection hv' with e1 _ _
    injection e1 with e1
    injection e1 with e1 e2
    subst e1 e2
    exact hcell' j hj
  rw [hv] at hc
  have c0 := hcell 0 (by omega)
  have c1 := hcell 1 (by omega)
  have c2 := hcell 2 (by omega)
  have c3 := hcell 3 (by omega)
  have c4 := hcell 4 (by omega)
  have c5 := hcell 5 (by omega)
  simp only [rwCells, Nat.add_zero, List.getElem?_cons_zero, List.getElem?_cons_succ] at c0 c1 c2 c3 c4 c5
  clear hcell
  have hold := heap_r0 w (.cells #[.int .i64 0, .int .i64 0, .int .i64 0, .string ⟨#[]⟩, .slice none 0 0, .bool false] TR)
  have HB : Hid (Below w.heap.size w (w.alloc (.cells #[.int .i64 kd, .int .i64 el, .int .i64 ln, .string tg, .slice sp0 sn0 sc0, .bool dn] TR))) := (Below.refl _ w).alloc (Nat.le_refl _) _
  have E1 := heap_r0 w (.cells #[.int .i64 kd, .int .i64 el, .int .i64 ln, .string tg, .slice sp0 sn0 sc0, .bool dn] TR)
  have hcw : (w.alloc (.cells #[.int .i64 kd, .int .i64 el, .int .i64 ln, .string tg, .slice sp0 sn0 sc0, .bool dn] TR)).cell? ⟨b, 0, none⟩ = some (.slice (some ⟨g, o, none⟩) rs.length cap) := (HB.out.cell (p := ⟨b, 0, none⟩) (World.block_lt_of_cell? w _ hc)).trans hc
  obtain ⟨RES, hRES⟩ : ∃ x, x = rTwiceB rs i ⟨kd, el, ln, tg, mm, dn⟩ := ⟨_, rfl⟩
  rw [← hRES]
  have HR : Hid (RES = _) := hRES
  clear hRES h hp
  go_enter Tryz.func44, Tryz.ntmps44
  go_upto_region 2 with (first | ((with_reducible apply step_store hold); rfl; rfl; kernel_rfl; rfl; kernel_rfl; rw [World.setRow_alloc_new]) | fail)
  generalize w.alloc (.cells #[.int .i64 kd, .int .i64 el, .int .i64 ln, .string tg, .slice sp0 sn0 sc0, .bool dn] TR) = W at *
  have a0 := Lib.cell_of_heap E1 0
  have a1 := Lib.cell_of_heap E1 1
  have a2 := Lib.cell_of_heap E1 2
  simp only [List.getElem?_toArray, List.getElem?_cons_zero, List.getElem?_cons_succ] at a0 a1 a2
  clear c0 c1 c2 c3 c4 c5 hold hc
  have HWsz : Hid (w.heap.size < W.heap.size) := lt_of_heap E1
  clear E1
  by_cases hd : kd = 13 ∨ kd = 14
  case neg =>
    have b13 : (kd != 13) = true := by simp; omega
    have b14 : (kd != 14) = true := by simp; omega
    have hr : RES = false := by rw [HR.out]; simp [rTwiceB, derivd]; omega
    subst hr
    clear HR
    go_wp2
    all_goals go_ret
    all_goals exact ⟨rfl, HB.out⟩
  have hr : RES = (rs.take i).any fun q => likeR q.1 ⟨kd, el, ln, tg, mm, dn⟩ := by
    rw [HR.out]
    have : derivd ⟨kd, el, ln, tg, mm, dn⟩ = true := by simpa [derivd] using hd
    simp [rTwiceB, this]
  have HR2 : Hid (RES = _) := hr
  clear hr HR
  rcases hd with rfl | rfl
  · go_wp2
    go_loopw [6] (fun j wr => ∃ k : Nat, j = .int .i64 k ∧ k ≤ i ∧ Hid (((rs.take k).any fun q => likeR q.1 ⟨13, el, ln, tg, mm, dn⟩) = false) ∧ Hid (Below W.heap.size W wr)) (fun j _ => i - (intOf j).toNat)
    case atStart => exact ⟨0, rfl, Nat.zero_le _, by simp [Hid], Below.refl _ _⟩
    case round =>
      obtain ⟨k, rfl, hk, HN, HW⟩ := hrel
      by_cases hki : k < i
      · obtain ⟨q, hq⟩ : ∃ q, rs[k]? = some q := ⟨_, List.getElem?_eq_getElem (by omega)⟩
        have HX : Hid (∀ x, likeR q.1 ⟨13, el, ln, tg, mm, dn⟩ = x → ((rs.take (k + 1)).any fun q => likeR q.1 ⟨13, el, ln, tg, mm, dn⟩) = x) := by
          intro x hx
          rw [List.take_add_one, hq]
          have := HN.out
          simp only [Option.toList_some, List.any_append, List.any_cons, List.any_nil, this, Bool.false_or, Bool.or_false]
          exact hx
        have hb0 : Below w.heap.size w wr := HB.out.trans (HW.out.mono HB.out.size)
        have y := fun j hj => (hb0.cell (p := ⟨g, o + k * 6 + j, none⟩) hg).trans (HA.out k q hq j hj)
        have d0 := y 0 (by omega)
        have d1 := y 1 (by omega)
        have d2 := y 2 (by omega)
        simp only [rwCells, Nat.add_zero, List.getElem?_cons_zero, List.getElem?_cons_succ] at d0 d1 d2
        have f0 := (HW.out.cell (p := ⟨w.heap.size, 0, none⟩) HWsz.out).trans a0
        have f1 := (HW.out.cell (p := ⟨w.heap.size, 1, none⟩) HWsz.out).trans a1
        have f2 := (HW.out.cell (p := ⟨w.heap.size, 2, none⟩) HWsz.out).trans a2
        have fb := (HW.out.cell (p := ⟨b, 0, none⟩) (World.block_lt_of_cell? W _ hcw)).trans hcw
        have HB0 : Hid (Below w.heap.size w wr) := hb0
        obtain ⟨⟨qk, qe, ql, qt, qm, qd⟩, qs⟩ := q
        simp only [likeR] at HX
        simp only at d0 d1 d2
        clear y hb0 hq a0 a1 a2 hcw
        have step : Hid (∀ n x, ((qk == 13 && qe == el && ql == ln) = x) → x = false → Hid (((rs.take (k + 1)).any fun q => likeR q.1 ⟨13, el, ln, tg, mm, dn⟩) = false) ∧ Hid (Below W.heap.size W (wr.drewN n))) := fun n x h1 h2 => ⟨HX.out false (by rw [← h2]; exact h1), HW.out.trans (below_drewN _ _ _)⟩
        by_cases z0 : qk = 13
        case neg =>
          have y0 : (qk == 13) = false := by simpa using z0
          go_wp2
          go_quiet (fail)
          go_wp2
          exact ⟨⟨k + 1, by go_num, by omega, step.out _ false (by simp [z0]) rfl⟩, by simp [intOf]; omega⟩
        subst z0
        by_cases z1 : qe = el
        case neg =>
          have y1 : (qe == el) = false := by simpa using z1
          go_wp2
          go_quiet (fail)
          go_wp2
          exact ⟨⟨k + 1, by go_num, by omega, step.out _ false (by simp [z1]) rfl⟩, by simp [intOf]; omega⟩
        subst z1
        by_cases z2 : ql = ln
        case neg =>
          have y2 : (ql == ln) = false := by simpa using z2
          go_wp2
          go_quiet (fail)
          go_wp2
          exact ⟨⟨k + 1, by go_num, by omega, step.out _ false (by simp [z2]) rfl⟩, by simp [intOf]; omega⟩
        subst z2
        have ha := HX.out true (by simp)
        have hr : RES = true := by
          rw [HR2.out]
          rw [List.any_eq_true] at ha ⊢
          obtain ⟨z, hz, hz2⟩ := ha
          refine ⟨z, ?_, hz2⟩
          have e : rs.take (k + 1) = (rs.take i).take (k + 1) := by rw [List.take_take, Nat.min_eq_left (by omega)]
          rw [e] at hz
          exact List.mem_of_mem_take hz
        subst hr
        clear HR2 ha HX step
        go_wp2
        go_quiet (fail)
        go_wp2
        go_ret
        exact ⟨rfl, HB0.out.trans (below_drewN _ _ _)⟩
      · obtain rfl : k = i := by omega
        have hr : RES = false := by rw [HR2.out]; exact HN.out
        subst hr
        clear HR2
        go_wp2
        go_ret
        exact ⟨rfl, HB.out.trans (HW.out.mono HB.out.size)⟩
  · go_wp2
    go_loopw [6] (fun j wr => ∃ k : Nat, j = .int .i64 k ∧ k ≤ i ∧ Hid (((rs.take k).any fun q => likeR q.1 ⟨14, el, ln, tg, mm, dn⟩) = false) ∧ Hid (Below W.heap.size W wr)) (fun j _ => i - (intOf j).toNat)
    case atStart => exact ⟨0, rfl, Nat.zero_le _, by simp [Hid], Below.refl _ _⟩
    case round =>
      obtain ⟨k, rfl, hk, HN, HW⟩ := hrel
      by_cases hki : k < i
      · obtain ⟨q, hq⟩ : ∃ q, rs[k]? = some q := ⟨_, List.getElem?_eq_getElem (by omega)⟩
        have HX : Hid (∀ x, likeR q.1 ⟨14, el, ln, tg, mm, dn⟩ = x → ((rs.take (k + 1)).any fun q => likeR q.1 ⟨14, el, ln, tg, mm, dn⟩) = x) := by
          intro x hx
          rw [List.take_add_one, hq]
          have := HN.out
          simp only [Option.toList_some, List.any_append, List.any_cons, List.any_nil, this, Bool.false_or, Bool.or_false]
          exact hx
        have hb0 : Below w.heap.size w wr := HB.out.trans (HW.out.mono HB.out.size)
        have y := fun j hj => (hb0.cell (p := ⟨g, o + k * 6 + j, none⟩) hg).trans (HA.out k q hq j hj)
        have d0 := y 0 (by omega)
        have d1 := y 1 (by omega)
        have d2 := y 2 (by omega)
        simp only [rwCells, Nat.add_zero, List.getElem?_cons_zero, List.getElem?_cons_succ] at d0 d1 d2
        have f0 := (HW.out.cell (p := ⟨w.heap.size, 0, none⟩) HWsz.out).trans a0
        have f1 := (HW.out.cell (p := ⟨w.heap.size, 1, none⟩) HWsz.out).trans a1
        have f2 := (HW.out.cell (p := ⟨w.heap.size, 2, none⟩) HWsz.out).trans a2
        have fb := (HW.out.cell (p := ⟨b, 0, none⟩) (World.block_lt_of_cell? W _ hcw)).trans hcw
        have HB0 : Hid (Below w.heap.size w wr) := hb0
        obtain ⟨⟨qk, qe, ql, qt, qm, qd⟩, qs⟩ := q
        simp only [likeR] at HX
        simp only at d0 d1 d2
        clear y hb0 hq a0 a1 a2 hcw
        have step : Hid (∀ n x, ((qk == 14 && qe == el && ql == ln) = x) → x = false → Hid (((rs.take (k + 1)).any fun q => likeR q.1 ⟨14, el, ln, tg, mm, dn⟩) = false) ∧ Hid (Below W.heap.size W (wr.drewN n))) := fun n x h1 h2 => ⟨HX.out false (by rw [← h2]; exact h1), HW.out.trans (below_drewN _ _ _)⟩
        by_cases z0 : qk = 14
        case neg =>
          have y0 : (qk == 14) = false := by simpa using z0
          go_wp2
          go_quiet (fail)
          go_wp2
          exact ⟨⟨k + 1, by go_num, by omega, step.out _ false (by simp [z0]) rfl⟩, by simp [intOf]; omega⟩
        subst z0
        by_cases z1 : qe = el
        case neg =>
          have y1 : (qe == el) = false := by simpa using z1
          go_wp2
          go_quiet (fail)
          go_wp2
          exact ⟨⟨k + 1, by go_num, by omega, step.out _ false (by simp [z1]) rfl⟩, by simp [intOf]; omega⟩
        subst z1
        by_cases z2 : ql = ln
        case neg =>
          have y2 : (ql == ln) = false := by simpa using z2
          go_wp2
          go_quiet (fail)
          go_wp2
          exact ⟨⟨k + 1, by go_num, by omega, step.out _ false (by simp [z2]) rfl⟩, by simp [intOf]; omega⟩
        subst z2
        have ha := HX.out true (by simp)
        have hr : RES = true := by
          rw [HR2.out]
          rw [List.any_eq_true] at ha ⊢
          obtain ⟨z, hz, hz2⟩ := ha
          refine ⟨z, ?_, hz2⟩
          have e : rs.take (k + 1) = (rs.take i).take (k + 1) := by rw [List.take_take, Nat.min_eq_left (by omega)]
          rw [e] at hz
          exact List.mem_of_mem_take hz
        subst hr
        clear HR2 ha HX step
        go_wp2
        go_quiet (fail)
        go_wp2
        go_ret
        exact ⟨rfl, HB0.out.trans (below_drewN _ _ _)⟩
      · obtain rfl : k = i := by omega
        have hr : RES = false := by rw [HR2.out]; exact HN.out
        subst hr
        clear HR2
        go_wp2
        go_ret
        exact ⟨rfl, HB.out.trans (HW.out.mono HB.out.size)⟩
end
end Go.Proofs.YtdfkkflpcamhjaaGreatDoor
