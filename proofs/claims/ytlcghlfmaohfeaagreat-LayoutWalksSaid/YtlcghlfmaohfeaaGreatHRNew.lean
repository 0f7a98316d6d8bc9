/-
  The given answer's New.
  The given answer's twice: does a pointer or an array come earlier?
  Which rows make a table: the code's answer and the given one are the same. (Pure.)
  Two tables side by side: the program's and the given answer's, with the same rows.
-/
import Derived.Test.YtlcghlfmaohfeaaGreatHRefShD
import Derived.Test.YtlcghlfmaohfeaaGreatHFrom
import Derived.Test.YtlcghlfmaohfeaaGreatHRefEqB
import Derived.Test.YtlcghlfmaohfeaaGreatHLyA
import Derived.Test.YtlcghlfmaohfeaaGreatHRefAdd
import Derived.Test.YtlcghlfmaohfeaaGreatHGraph
namespace Go.Proofs.YtlcghlfmaohfeaaGreat
open Go.RowKit Go.Maps
set_option linter.unusedVariables false
set_option maxRecDepth 100000

def likeR (q r : Rw) : Bool := q.kind == r.kind && q.elem == r.elem && q.len == r.len
def rTwiceB (rs : List (Rw × Value)) (i : Nat) (r : Rw) : Bool := derivd r && (rs.take i).any fun q => likeR q.1 r

section
variable {w : World} {b : Nat} {v : Value} {rs : List (Rw × Value)}
set_option maxHeartbeats 4000000 in
theorem rTwice_c (h : RT w b v rs) {i : Nat} {p : Rw × Value} (hp : rs[i]? = some p) :
    Calls Tryz.prog 43 #[.pointer (some ⟨b, 0, none⟩), .int .i64 i] w fun e w' => e = .returned (.bool (rTwiceB rs i p.1)) ∧ Below w.heap.size w w' := by
  have hlt : i < rs.length := (List.getElem?_eq_some_iff.1 hp).1
  have hl := h.len
  have hc := h.cell
  obtain ⟨g, o, cap, hv, hcap, hcell⟩ := h.at hp
  have hg : g < w.heap.size := World.block_lt_of_cell? w _ ((hcell 0 (by omega)).trans rfl)
  obtain ⟨sp0, sn0, sc0, hs0⟩ := (h.rows.2 p (List.mem_of_getElem? hp)).sl
  obtain ⟨⟨kd, el, ln, tg, mm, dn⟩, s0⟩ := p
  simp only at hs0
  subst hs0
  have HA : Hid (∀ k q, rs[k]? = some q → ∀ j, j < 6 → w.cell? ⟨g, o + k * 6 + j, none⟩ = (rwCells q.1 q.2)[j]?) := by
    intro k q hq j hj
    obtain ⟨g', o', cap', hv', _, hcell'⟩ := h.at hq
    rw [hv] at hv'
    injection hv' with e1 _ _
    injection e1 with e1
    injection e1 with e1 e2
    subst e1 e2
    exact hcell' j hj
  rw [hv] at hc
  have c0 := hcell 0 (by omega)
  have c1 := hcell 1 (by omega)
  have c2 := hcell 2 (by omega)
  have c3 := hcell 3 (by omega)
  have c4 := hcell 4 (by omega)
  have c5 := hcell 5 (by omega)
  simp only [rwCells, Nat.add_zero, List.getElem?_cons_zero, List.getElem?_cons_succ] at c0 c1 c2 c3 c4 c5
  clear hcell
  have hold := heap_r0 w (.cells #[.int .i64 0, .int .i64 0, .int .i64 0, .string ⟨#[]⟩, .slice none 0 0, .bool false] TR)
  have HB : Hid (Below w.heap.size w (w.alloc (.cells #[.int .i64 kd, .int .i64 el, .int .i64 ln, .string tg, .slice sp0 sn0 sc0, .bool dn] TR))) := (Below.refl _ w).alloc (Nat.le_refl _) _
  have E1 := heap_r0 w (.cells #[.int .i64 kd, .int .i64 el, .int .i64 ln, .string tg, .slice sp0 sn0 sc0, .bool dn] TR)
  have hcw : (w.alloc (.cells #[.int .i64 kd, .int .i64 el, .int .i64 ln, .string tg, .slice sp0 sn0 sc0, .bool dn] TR)).cell? ⟨b, 0, none⟩ = some (.slice (some ⟨g, o, none⟩) rs.length cap) := (HB.out.cell (p := ⟨b, 0, none⟩) (World.block_lt_of_cell? w _ hc)).trans hc
  obtain ⟨RES, hRES⟩ : ∃ x, x = rTwiceB rs i ⟨kd, el, ln, tg, mm, dn⟩ := ⟨_, rfl⟩
  rw [← hRES]
  have HR : Hid (RES = _) := hRES
  clear hRES h hp
  go_enter Tryz.func43, Tryz.ntmps43
  go_upto_region 2 with (first | ((with_reducible apply step_store hold); rfl; rfl; kernel_rfl; rfl; kernel_rfl; rw [World.setRow_alloc_new]) | fail)
  generalize w.alloc (.cells #[.int .i64 kd, .int .i64 el, .int .i64 ln, .string tg, .slice sp0 sn0 sc0, .bool dn] TR) = W at *
  have a0 := Lib.cell_of_heap E1 0
  have a1 := Lib.cell_of_heap E1 1
  have a2 := Lib.cell_of_heap E1 2
  simp only [List.getElem?_toArray, List.getElem?_cons_zero, List.getElem?_cons_succ] at a0 a1 a2
  clear c0 c1 c2 c3 c4 c5 hold hc
  have HWsz : Hid (w.heap.size < W.heap.size) := lt_of_heap E1
  clear E1
  by_cases hd : kd = 13 ∨ kd = 14
  case neg =>
    have b13 : (kd != 13) = true := by simp; omega
    have b14 : (kd != 14) = true := by simp; omega
    have hr : RES = false := by rw [HR.out]; simp [rTwiceB, derivd]; omega
    subst hr
    clear HR
    go_wp2
    all_goals go_ret
    all_goals exact ⟨rfl, HB.out⟩
  have hr : RES = (rs.take i).any fun q => likeR q.1 ⟨kd, el, ln, tg, mm, dn⟩ := by
    rw [HR.out]
    have : derivd ⟨kd, el, ln, tg, mm, dn⟩ = true := by simpa [derivd] using hd
    simp [rTwiceB, this]
  have HR2 : Hid (RES = _) := hr
  clear hr HR
  rcases hd with rfl | rfl
  · go_wp2
    go_loopw [6] (fun j wr => ∃ k : Nat, j = .int .i64 k ∧ k ≤ i ∧ Hid (((rs.take k).any fun q => likeR q.1 ⟨13, el, ln, tg, mm, dn⟩) = false) ∧ Hid (Below W.heap.size W wr)) (fun j _ => i - (intOf j).toNat)
    case atStart => exact ⟨0, rfl, Nat.zero_le _, by simp [Hid], Below.refl _ _⟩
    case round =>
      obtain ⟨k, rfl, hk, HN, HW⟩ := hrel
      by_cases hki : k < i
      · obtain ⟨q, hq⟩ : ∃ q, rs[k]? = some q := ⟨_, List.getElem?_eq_getElem (by omega)⟩
        have HX : Hid (∀ x, likeR q.1 ⟨13, el, ln, tg, mm, dn⟩ = x → ((rs.take (k + 1)).any fun q => likeR q.1 ⟨13, el, ln, tg, mm, dn⟩) = x) := by
          intro x hx
          rw [List.take_add_one, hq]
          have := HN.out
          simp only [Option.toList_some, List.any_append, List.any_cons, List.any_nil, this, Bool.false_or, Bool.or_false]
          exact hx
        have hb0 : Below w.heap.size w wr := HB.out.trans (HW.out.mono HB.out.size)
        have y := fun j hj => (hb0.cell (p := ⟨g, o + k * 6 + j, none⟩) hg).trans (HA.out k q hq j hj)
        have d0 := y 0 (by omega)
        have d1 := y 1 (by omega)
        have d2 := y 2 (by omega)
        simp only [rwCells, Nat.add_zero, List.getElem?_cons_zero, List.getElem?_cons_succ] at d0 d1 d2
        have f0 := (HW.out.cell (p := ⟨w.heap.size, 0, none⟩) HWsz.out).trans a0
        have f1 := (HW.out.cell (p := ⟨w.heap.size, 1, none⟩) HWsz.out).trans a1
        have f2 := (HW.out.cell (p := ⟨w.heap.size, 2, none⟩) HWsz.out).trans a2
        have fb := (HW.out.cell (p := ⟨b, 0, none⟩) (World.block_lt_of_cell? W _ hcw)).trans hcw
        have HB0 : Hid (Below w.heap.size w wr) := hb0
        obtain ⟨⟨qk, qe, ql, qt, qm, qd⟩, qs⟩ := q
        simp only [likeR] at HX
        simp only at d0 d1 d2
        clear y hb0 hq a0 a1 a2 hcw
        have step : Hid (∀ n x, ((qk == 13 && qe == el && ql == ln) = x) → x = false → Hid (((rs.take (k + 1)).any fun q => likeR q.1 ⟨13, el, ln, tg, mm, dn⟩) = false) ∧ Hid (Below W.heap.size W (wr.drewN n))) := fun n x h1 h2 => ⟨HX.out false (by rw [← h2]; exact h1), HW.out.trans (below_drewN _ _ _)⟩
        by_cases z0 : qk = 13
        case neg =>
          have y0 : (qk == 13) = false := by simpa using z0
          go_wp2
          go_quiet (fail)
          go_wp2
          exact ⟨⟨k + 1, by go_num, by omega, step.out _ false (by simp [z0]) rfl⟩, by simp [intOf]; omega⟩
        subst z0
        by_cases z1 : qe = el
        case neg =>
          have y1 : (qe == el) = false := by simpa using z1
          go_wp2
          go_quiet (fail)
          go_wp2
          exact ⟨⟨k + 1, by go_num, by omega, step.out _ false (by simp [z1]) rfl⟩, by simp [intOf]; omega⟩
        subst z1
        by_cases z2 : ql = ln
        case neg =>
          have y2 : (ql == ln) = false := by simpa using z2
          go_wp2
          go_quiet (fail)
          go_wp2
          exact ⟨⟨k + 1, by go_num, by omega, step.out _ false (by simp [z2]) rfl⟩, by simp [intOf]; omega⟩
        subst z2
        have ha := HX.out true (by simp)
        have hr : RES = true := by
          rw [HR2.out]
          rw [List.any_eq_true] at ha ⊢
          obtain ⟨z, hz, hz2⟩ := ha
          refine ⟨z, ?_, hz2⟩
          have e : rs.take (k + 1) = (rs.take i).take (k + 1) := by rw [List.take_take, Nat.min_eq_left (by omega)]
          rw [e] at hz
          exact List.mem_of_mem_take hz
        subst hr
        clear HR2 ha HX step
        go_wp2
        go_quiet (fail)
        go_wp2
        go_ret
        exact ⟨rfl, HB0.out.trans (below_drewN _ _ _)⟩
      · obtain rfl : k = i := by omega
        have hr : RES = false := by rw [HR2.out]; exact HN.out
        subst hr
        clear HR2
        go_wp2
        go_ret
        exact ⟨rfl, HB.out.trans (HW.out.mono HB.out.size)⟩
  · go_wp2
    go_loopw [6] (fun j wr => ∃ k : Nat, j = .int .i64 k ∧ k ≤ i ∧ Hid (((rs.take k).any fun q => likeR q.1 ⟨14, el, ln, tg, mm, dn⟩) = false) ∧ Hid (Below W.heap.size W wr)) (fun j _ => i - (intOf j).toNat)
    case atStart => exact ⟨0, rfl, Nat.zero_le _, by simp [Hid], Below.refl _ _⟩
    case round =>
      obtain ⟨k, rfl, hk, HN, HW⟩ := hrel
      by_cases hki : k < i
      · obtain ⟨q, hq⟩ : ∃ q, rs[k]? = some q := ⟨_, List.getElem?_eq_getElem (by omega)⟩
        have HX : Hid (∀ x, likeR q.1 ⟨14, el, ln, tg, mm, dn⟩ = x → ((rs.take (k + 1)).any fun q => likeR q.1 ⟨14, el, ln, tg, mm, dn⟩) = x) := by
          intro x hx
          rw [List.take_add_one, hq]
          have := HN.out
          simp only [Option.toList_some, List.any_append, List.any_cons, List.any_nil, this, Bool.false_or, Bool.or_false]
          exact hx
        have hb0 : Below w.heap.size w wr := HB.out.trans (HW.out.mono HB.out.size)
        have y := fun j hj => (hb0.cell (p := ⟨g, o + k * 6 + j, none⟩) hg).trans (HA.out k q hq j hj)
        have d0 := y 0 (by omega)
        have d1 := y 1 (by omega)
        have d2 := y 2 (by omega)
        simp only [rwCells, Nat.add_zero, List.getElem?_cons_zero, List.getElem?_cons_succ] at d0 d1 d2
        have f0 := (HW.out.cell (p := ⟨w.heap.size, 0, none⟩) HWsz.out).trans a0
        have f1 := (HW.out.cell (p := ⟨w.heap.size, 1, none⟩) HWsz.out).trans a1
        have f2 := (HW.out.cell (p := ⟨w.heap.size, 2, none⟩) HWsz.out).trans a2
        have fb := (HW.out.cell (p := ⟨b, 0, none⟩) (World.block_lt_of_cell? W _ hcw)).trans hcw
        have HB0 : Hid (Below w.heap.size w wr) := hb0
        obtain ⟨⟨qk, qe, ql, qt, qm, qd⟩, qs⟩ := q
        simp only [likeR] at HX
        simp only at d0 d1 d2
        clear y hb0 hq a0 a1 a2 hcw
        have step : Hid (∀ n x, ((qk == 14 && qe == el && ql == ln) = x) → x = false → Hid (((rs.take (k + 1)).any fun q => likeR q.1 ⟨14, el, ln, tg, mm, dn⟩) = false) ∧ Hid (Below W.heap.size W (wr.drewN n))) := fun n x h1 h2 => ⟨HX.out false (by rw [← h2]; exact h1), HW.out.trans (below_drewN _ _ _)⟩
        by_cases z0 : qk = 14
        case neg =>
          have y0 : (qk == 14) = false := by simpa using z0
          go_wp2
          go_quiet (fail)
          go_wp2
          exact ⟨⟨k + 1, by go_num, by omega, step.out _ false (by simp [z0]) rfl⟩, by simp [intOf]; omega⟩
        subst z0
        by_cases z1 : qe = el
        case neg =>
          have y1 : (qe == el) = false := by simpa using z1
          go_wp2
          go_quiet (fail)
          go_wp2
          exact ⟨⟨k + 1, by go_num, by omega, step.out _ false (by simp [z1]) rfl⟩, by simp [intOf]; omega⟩
        subst z1
        by_cases z2 : ql = ln
        case neg =>
          have y2 : (ql == ln) = false := by simpa using z2
          go_wp2
          go_quiet (fail)
          go_wp2
          exact ⟨⟨k + 1, by go_num, by omega, step.out _ false (by simp [z2]) rfl⟩, by simp [intOf]; omega⟩
        subst z2
        have ha := HX.out true (by simp)
        have hr : RES = true := by
          rw [HR2.out]
          rw [List.any_eq_true] at ha ⊢
          obtain ⟨z, hz, hz2⟩ := ha
          refine ⟨z, ?_, hz2⟩
          have e : rs.take (k + 1) = (rs.take i).take (k + 1) := by rw [List.take_take, Nat.min_eq_left (by omega)]
          rw [e] at hz
          exact List.mem_of_mem_take hz
        subst hr
        clear HR2 ha HX step
        go_wp2
        go_quiet (fail)
        go_wp2
        go_ret
        exact ⟨rfl, HB0.out.trans (below_drewN _ _ _)⟩
      · obtain rfl : k = i := by omega
        have hr : RES = false := by rw [HR2.out]; exact HN.out
        subst hr
        clear HR2
        go_wp2
        go_ret
        exact ⟨rfl, HB.out.trans (HW.out.mono HB.out.size)⟩
end
end Go.Proofs.YtlcghlfmaohfeaaGreat
namespace Go.Proofs.YtlcghlfmaohfeaaGreat
open Go.RowKit Go.Maps
set_option linter.unusedVariables false
set_option maxRecDepth 100000

section
variable {rs rs' : List (Rw × Value)}
theorem rWholeP_fst (h : rs'.map (·.1) = rs.map (·.1)) (id : Int) : rWholeP rs' id = rWholeP rs id := by
  unfold rWholeP
  have := fst_at h id.toNat
  split
  · cases h1 : rs'[id.toNat]? <;> cases h2 : rs[id.toNat]? <;> simp [h1, h2] at this ⊢
    rw [this]
  · rfl
theorem rMemberErr_fst (h : rs'.map (·.1) = rs.map (·.1)) (pre : List Mb) (m : Mb) : rMemberErr rs' pre m = rMemberErr rs pre m := by
  unfold rMemberErr
  rw [fst_len h, rWholeP_fst h, kindP_fst h]
theorem rRefusFrom_fst (h : rs'.map (·.1) = rs.map (·.1)) : ∀ (l pre : List Mb), rRefusFrom rs' pre l = rRefusFrom rs pre l
  | [], _ => rfl
  | m :: r, pre => by simp only [rRefusFrom, rMemberErr_fst h, rRefusFrom_fst h r]
theorem rRefusP_fst (h : rs'.map (·.1) = rs.map (·.1)) (l : List Mb) : rRefusP rs' l = rRefusP rs l := by
  unfold rRefusP; rw [rRefusFrom_fst h]
theorem shapedB_fst (h : rs'.map (·.1) = rs.map (·.1)) (i : Nat) (r : Rw) : shapedB rs' i r = shapedB rs i r := by
  unfold shapedB; rw [rRefusP_fst h, rWholeP_fst h]
theorem rTwiceB_fst (h : rs'.map (·.1) = rs.map (·.1)) (i : Nat) (r : Rw) : rTwiceB rs' i r = rTwiceB rs i r := by
  unfold rTwiceB
  have e : ∀ l : List (Rw × Value), ((l.take i).any fun q => likeR q.1 r) = ((l.map (·.1)).take i).any fun q => likeR q r := by
    intro l
    rw [← List.map_take, List.any_map]; rfl
  rw [e, e, h]

/-- Rows whose kind is one, whose length is one. -/
def Sane (r : Rw) : Prop := 1 ≤ r.kind ∧ r.kind ≤ 16 ∧ (r.kind = 14 → lenK r.len = true)
theorem whole_same {r : Rw} (h : Sane r) : wholeR r = rWholeR r := by
  obtain ⟨h1, h2, h3⟩ := h
  unfold wholeR rWholeR
  by_cases h14 : r.kind = 14
  · rw [if_pos h14, if_pos h14]
    have := h3 h14
    simp [lenK] at this
    rw [Bool.eq_iff_iff]; simp; omega
  · rw [if_neg h14, if_neg h14]
    cases hr : recK r.kind
    · simp only [Bool.false_eq_true, if_false]
      simp [recK] at hr
      rw [Bool.eq_iff_iff]; simp [intK]; omega
    · rfl
theorem wholeP_same (h : ∀ p ∈ rs, Sane p.1) (id : Int) : wholeP rs id = rWholeP rs id := by
  unfold wholeP rWholeP
  split
  · cases h1 : rs[id.toNat]? with
    | none => rfl
    | some p => exact whole_same (h p (List.mem_of_getElem? h1))
  · rfl
theorem refus_same (h : ∀ p ∈ rs, Sane p.1) (l : List Mb) : refusP rs l = rRefusP rs l := by
  have e : ∀ (l pre : List Mb), refusFrom rs pre l = rRefusFrom rs pre l := by
    intro l
    induction l with
    | nil => intro pre; rfl
    | cons m t ih =>
      intro pre
      have : memberErr rs pre m = rMemberErr rs pre m := by unfold memberErr rMemberErr; rw [wholeP_same h]
      simp only [refusFrom, rRefusFrom, this, ih]
  unfold refusP rRefusP; rw [e]

theorem enter_sane {ps : List (Value × Value)} {i : Nat} {r : Rw} (h : enterB rs ps i r = true) : Sane r := by
  unfold enterB at h
  by_cases hm : moreP r = true
  · simp [hm] at h
  · have hm' : moreP r = false := by simpa using hm
    simp only [hm', Bool.false_eq_true, if_false] at h
    by_cases hi11 : i < 11
    · rw [if_pos hi11] at h
      have hk : r.kind = 1 + (i : Int) := by simpa using h
      exact ⟨by omega, by omega, fun h => by omega⟩
    · rw [if_neg hi11] at h
      by_cases h12 : r.kind = 12
      · exact ⟨by omega, by omega, fun h => by omega⟩
      · rw [if_neg h12] at h
        by_cases h15 : r.kind = 15 ∨ r.kind = 16
        · exact ⟨by omega, by omega, fun h => by omega⟩
        · rw [if_neg h15] at h
          by_cases h13 : r.kind = 13
          · exact ⟨by omega, by omega, fun h => by omega⟩
          · rw [if_neg h13] at h
            by_cases h14 : r.kind = 14
            · rw [if_pos h14] at h
              simp only [Bool.and_eq_true] at h
              exact ⟨by omega, by omega, fun _ => h.2⟩
            · rw [if_neg h14] at h; cases h
theorem shaped_sane {i : Nat} {r : Rw} (h : shapedB rs i r = true) : Sane r := by
  unfold shapedB at h
  by_cases hi11 : i < 11
  · rw [if_pos hi11] at h
    simp [basicEq] at h
    have hk : r.kind = (i : Int) + 1 := by omega
    exact ⟨by omega, by omega, fun h => by omega⟩
  · rw [if_neg hi11] at h
    by_cases h12 : r.kind = 12
    · exact ⟨by omega, by omega, fun h => by omega⟩
    · rw [if_neg h12] at h
      by_cases h15 : r.kind = 15 ∨ r.kind = 16
      · exact ⟨by omega, by omega, fun h => by omega⟩
      · rw [if_neg h15] at h
        by_cases h13 : r.kind = 13
        · exact ⟨by omega, by omega, fun h => by omega⟩
        · rw [if_neg h13] at h
          by_cases h14 : r.kind = 14
          · rw [if_pos h14] at h
            simp only [Bool.and_eq_true] at h
            exact ⟨by omega, by omega, fun _ => h.1.1.1.2⟩
          · rw [if_neg h14] at h; cases h

theorem twice_same {i : Nat} {r : Rw} (hd : derivd r = true) : twiceB (pairs ((rowsOf rs).take i)) r ↔ ((rs.take i).any fun q => likeR q.1 r) = true := by
  unfold twiceB
  rw [List.any_eq_true]
  constructor
  · rintro ⟨kv, h1, h2⟩
    obtain ⟨j, r', hj, hd', rfl⟩ := mem_pairs.1 h1
    obtain ⟨e1, e2, e3⟩ := keyV_inj h2
    have hj2 : ((rs.take i)[j]?).map (·.1) = some r' := by
      rw [← List.getElem?_map, List.map_take]; exact hj
    cases h3 : (rs.take i)[j]? with
    | none => rw [h3] at hj2; cases hj2
    | some q =>
      rw [h3] at hj2
      have e : q.1 = r' := by simpa using hj2
      exact ⟨q, List.mem_of_getElem? h3, by simp [likeR, e, e1, e2, e3]⟩
  · rintro ⟨q, hq, hl⟩
    simp only [likeR, Bool.and_eq_true, beq_iff_eq] at hl
    obtain ⟨j, hj⟩ := List.mem_iff_getElem?.1 hq
    refine ⟨(keyV q.1.kind q.1.elem q.1.len, .int .i64 j), mem_pairs.2 ⟨j, q.1, ?_, ?_, rfl⟩, ?_⟩
    · show ((rs.map (·.1)).take i)[j]? = _
      rw [← List.map_take, List.getElem?_map, hj]; rfl
    · simp only [derivd] at hd ⊢; rw [hl.1.1]; exact hd
    · simp only; rw [hl.1.1, hl.1.2, hl.2]

theorem pos_not (n : Nat) : decide (0 < n) = !decide (n = 0) := by
  cases n <;> simp

open Classical in
/-- Row by row: entered just if shaped, and none like it ahead. -/
theorem row_same (h : ∀ p ∈ rs, Sane p.1) (i : Nat) (r : Rw) : enterB rs (pairs ((rowsOf rs).take i)) i r = (shapedB rs i r && !rTwiceB rs i r) := by
  unfold enterB shapedB
  rw [refus_same h, wholeP_same h]
  have hmore : moreP r = (moreHead r || (!decide (r.mem.length = 0) && !ownDone r)) := by unfold moreP; rw [pos_not]
  by_cases hi : i < 11
  · rw [if_pos hi, if_pos hi]
    by_cases hk : r.kind = 1 + (i : Int)
    · have h12 : ¬ r.kind = 12 := by omega
      have h13 : ¬ r.kind = 13 := by omega
      have h14 : ¬ r.kind = 14 := by omega
      have h15 : ¬ (r.kind = 15 ∨ r.kind = 16) := by omega
      have hd : rTwiceB rs i r = false := by simp [rTwiceB, derivd, h13, h14]
      have hrec : recK r.kind = false := by simp [recK]; omega
      have hbe : basicEq r ((i : Int) + 1) = (r.elem == 0 && r.len == 0 && r.tag.toList == [] && !r.done && decide (r.mem.length = 0)) := by
        unfold basicEq
        have : (r.kind == (i : Int) + 1) = true := by simp; omega
        rw [this]; simp
      have hmh : moreHead r = !(r.elem == 0 && r.len == 0 && r.tag.toList == [] && r.done == false) := by simp [moreHead, h12, h13, h14, h15]
      have hk2 : (r.kind == 1 + (i : Int)) = true := by simp; omega
      rw [hd, hmore, hmh, hbe, hk2]
      simp only [ownDone, hrec]
      generalize (r.elem == 0) = a
      generalize (r.len == 0) = b
      generalize (r.tag.toList == []) = c
      generalize r.done = d
      generalize decide (r.mem.length = 0) = e
      revert a b c d e; decide
    · have h1 : (r.kind == 1 + (i : Int)) = false := by simpa using hk
      have h2 : (r.kind == (i : Int) + 1) = false := by simp; omega
      simp [basicEq, h1, h2]
  · rw [if_neg hi, if_neg hi]
    by_cases h12 : r.kind = 12
    · have hd : rTwiceB rs i r = false := by simp [rTwiceB, derivd, h12]
      have hrec : recK r.kind = false := by simp [recK, h12]
      have hmh : moreHead r = !(r.elem == 0 && r.len == 0 && r.done == false) := by simp [moreHead, h12]
      rw [hd, hmore, hmh, if_pos h12, if_pos h12]
      simp only [ownDone, hrec, plainB]
      generalize (r.elem == 0) = a
      generalize (r.len == 0) = b
      generalize tagP r.tag.data.toList = c
      generalize r.done = d
      generalize decide (r.mem.length = 0) = e
      revert a b c d e; decide
    rw [if_neg h12, if_neg h12]
    by_cases h15 : r.kind = 15 ∨ r.kind = 16
    · have hd : rTwiceB rs i r = false := by
        have h13 : ¬ r.kind = 13 := by omega
        have h14 : ¬ r.kind = 14 := by omega
        simp [rTwiceB, derivd, h13, h14]
      have hrec : recK r.kind = true := by simpa [recK] using h15
      have hmh : moreHead r = !(r.elem == 0 && r.len == 0) := by
        have h13 : ¬ r.kind = 13 := by omega
        have h14 : ¬ r.kind = 14 := by omega
        simp [moreHead, h12, h13, h14, h15]
      rw [hd, hmore, hmh, if_pos h15, if_pos h15]
      simp only [ownDone, hrec, plainB]
      generalize (r.elem == 0) = a
      generalize (r.len == 0) = b
      generalize tagP r.tag.data.toList = c
      generalize r.done = d
      generalize decide (r.mem.length = 0) = e
      generalize (rRefusP rs r.mem == 0) = f
      revert a b c d e f; decide
    rw [if_neg h15, if_neg h15]
    have hrec : recK r.kind = false := by simp [recK]; omega
    by_cases h13 : r.kind = 13
    · have hdv : derivd r = true := by simp [derivd, h13]
      have hmh : moreHead r = !(r.len == 0 && r.tag.toList == [] && r.done == false) := by simp [moreHead, h13]
      have htw : (if twiceB (pairs ((rowsOf rs).take i)) r then false else (decide (0 ≤ r.elem) && decide (r.elem < (i : Int)))) = (!rTwiceB rs i r && (decide (0 ≤ r.elem) && decide (r.elem < (i : Int)))) := by
        by_cases ht : twiceB (pairs ((rowsOf rs).take i)) r
        · rw [if_pos ht]; simp [rTwiceB, hdv, (twice_same hdv).1 ht]
        · rw [if_neg ht]
          have : ((rs.take i).any fun q => likeR q.1 r) = false := by
            cases hh : (rs.take i).any fun q => likeR q.1 r
            · rfl
            · exact absurd ((twice_same hdv).2 hh) ht
          simp only [rTwiceB, hdv, this]; simp
      rw [hmore, hmh, if_pos h13, if_pos h13, htw]
      simp only [ownDone, hrec, plainB]
      generalize rTwiceB rs i r = t
      generalize decide (0 ≤ r.elem) = a
      generalize decide (r.elem < (i : Int)) = b
      generalize (r.len == 0) = c
      generalize (r.tag.toList == []) = g
      generalize r.done = d
      generalize decide (r.mem.length = 0) = e
      revert t a b c g d e; decide
    rw [if_neg h13, if_neg h13]
    by_cases h14 : r.kind = 14
    · have hdv : derivd r = true := by simp [derivd, h14]
      have hmh : moreHead r = !(r.tag.toList == [] && r.done == false) := by simp [moreHead, h14]
      have htw : (if twiceB (pairs ((rowsOf rs).take i)) r then false else (decide (0 ≤ r.elem) && decide (r.elem < (i : Int)))) = (!rTwiceB rs i r && (decide (0 ≤ r.elem) && decide (r.elem < (i : Int)))) := by
        by_cases ht : twiceB (pairs ((rowsOf rs).take i)) r
        · rw [if_pos ht]; simp [rTwiceB, hdv, (twice_same hdv).1 ht]
        · rw [if_neg ht]
          have : ((rs.take i).any fun q => likeR q.1 r) = false := by
            cases hh : (rs.take i).any fun q => likeR q.1 r
            · rfl
            · exact absurd ((twice_same hdv).2 hh) ht
          simp only [rTwiceB, hdv, this]; simp
      rw [hmore, hmh, if_pos h14, if_pos h14, htw]
      simp only [ownDone, hrec, plainB]
      generalize rTwiceB rs i r = t
      generalize decide (0 ≤ r.elem) = a
      generalize decide (r.elem < (i : Int)) = b
      generalize lenK r.len = c
      generalize (r.tag.toList == []) = g
      generalize r.done = d
      generalize decide (r.mem.length = 0) = e
      generalize rWholeP rs r.elem = f
      revert t a b c g d e f; decide
    · rw [if_neg h14, if_neg h14]; simp

def AllSh (rs : List (Rw × Value)) (k : Nat) : Prop := ∀ i p, i < k → rs[i]? = some p → shapedB rs i p.1 = true ∧ rTwiceB rs i p.1 = false
def RefOK (rs : List (Rw × Value)) : Prop := AllSh rs rs.length ∧ Acyc (partsAt rs) rs.length
theorem allIn_sane (h : AllIn rs rs.length) : ∀ p ∈ rs, Sane p.1 := by
  intro p hp
  obtain ⟨i, hi⟩ := List.mem_iff_getElem?.1 hp
  exact enter_sane (h i p (List.getElem?_eq_some_iff.1 hi).1 hi)
theorem allSh_sane (h : AllSh rs rs.length) : ∀ p ∈ rs, Sane p.1 := by
  intro p hp
  obtain ⟨i, hi⟩ := List.mem_iff_getElem?.1 hp
  exact shaped_sane (h i p (List.getElem?_eq_some_iff.1 hi).1 hi).1
theorem all_same : AllIn rs rs.length ↔ AllSh rs rs.length := by
  constructor
  · intro h i p hi hp
    have := h i p hi hp
    rw [row_same (allIn_sane h)] at this
    simpa using this
  · intro h i p hi hp
    rw [row_same (allSh_sane h)]
    have := h i p hi hp
    simp [this.1, this.2]
theorem ok_same : FromOK rs ↔ RefOK rs := by unfold FromOK RefOK; rw [all_same]
theorem AllSh_fst (h : rs'.map (·.1) = rs.map (·.1)) {k : Nat} (ha : AllSh rs k) : AllSh rs' k := by
  intro i p hi hp
  have e := fst_at h i
  rw [hp] at e
  cases h2 : rs[i]? with
  | none => rw [h2] at e; cases e
  | some q =>
    rw [h2] at e
    have e2 : p.1 = q.1 := by simpa using e
    rw [shapedB_fst h, rTwiceB_fst h, e2]
    exact ha i q hi h2
theorem RefOK_fst (h : rs'.map (·.1) = rs.map (·.1)) (ha : RefOK rs) : RefOK rs' := by
  refine ⟨?_, ?_⟩
  · rw [fst_len h]; exact AllSh_fst h ha.1
  · rw [partsAt_fst h, fst_len h]; exact ha.2
theorem enter_mem14 {ps : List (Value × Value)} {i : Nat} {r : Rw} (h : enterB rs ps i r = true) (hk : r.kind = 14) : r.mem = [] := by
  unfold enterB at h
  by_cases hm : moreP r = true
  · simp [hm] at h
  · exact more_mem (by simpa using hm) (by simp [ownDone, recK, hk])
theorem AllSh_parts (h : AllSh rs rs.length) : (∀ (i : Nat) (p : Rw × Value), rs[i]? = some p → (∀ x ∈ partsR p.1, 0 ≤ x ∧ x < rs.length) ∧ (p.1.kind = 14 → p.1.mem = [])) ∧ ∀ p : Rw × Value, p ∈ rs → p.1.mem.length ≤ 64 := by
  have h2 := AllIn_parts (all_same.2 h)
  refine ⟨fun i p hp => ⟨h2.1 i p hp, fun hk => ?_⟩, h2.2⟩
  exact enter_mem14 (all_same.2 h i p (List.getElem?_eq_some_iff.1 hp).1 hp) hk
end
end Go.Proofs.YtlcghlfmaohfeaaGreat


namespace Go.Proofs.YtlcghlfmaohfeaaGreat
open Go.RowKit Go.Maps
set_option linter.unusedVariables false
set_option maxRecDepth 100000

structure Duo (B : Nat) (w : World) (b mb : Nat) (v : Value) (rs : List (Rw × Value)) (rb : Nat) (rv : Value) (rs2 : List (Rw × Value)) : Prop where
  tab : Tab B w b mb v rs (pairs (rowsOf rs))
  ref : RTab B w rb rv rs2
  same : rs2.map (·.1) = rs.map (·.1)
  apart : ∀ k, v.ownBlock = some k → rv.ownBlock ≠ some k
  len : 11 ≤ rs.length
  small : Small rs
  uniq : Uniq (pairs (rowsOf rs))
  sane : ∀ p ∈ rs, Sane p.1
  ok : FromOK rs

section
variable {B : Nat} {w w' : World} {b mb rb : Nat} {v rv : Value} {rs rs2 : List (Rw × Value)}
theorem ty_ne {w : World} {k : Nat} {c1 c2 : Array Value} {t1 t2 : TypeId} (h1 : w.heap[k]? = some (.cells c1 t1 (0, 0))) (h2 : w.heap[k]? = some (.cells c2 t2 (0, 0))) (hne : t1 ≠ t2) : False := by
  rw [h1] at h2; injection h2 with e; injection e with _ e; exact hne e
theorem map_ne {w : World} {k : Nat} {c1 : Array Value} {t1 : TypeId} {es : Array MapEntry} {ck : Nat} (h1 : w.heap[k]? = some (.cells c1 t1 (0, 0))) (h2 : w.heap[k]? = some (.map es ck)) : False := by
  rw [h1] at h2; cases h2

/-- What the program's table turns leaves the given answer's as it is. -/
theorem Duo.ref_kept (h : Duo B w b mb v rs rb rv rs2) (ht : Turned w w' (own b mb v)) : RTab B w' rb rv rs2 := by
  obtain ⟨es, ck, hm, _⟩ := h.tab.map
  refine h.ref.kept ht ?_ ?_
  · rintro k (rfl | hk) hown
    · rcases hown with rfl | rfl | hv
      · exact ty_ne h.ref.tab h.tab.tab (by decide)
      · exact map_ne h.ref.tab hm
      · obtain ⟨_, cur, hc⟩ := ownsRow_at h.tab.rows hv
        exact ty_ne h.ref.tab hc (by decide)
    · obtain ⟨_, c0, h0⟩ := ownsRow_at h.ref.rows hk
      rcases hown with rfl | rfl | hv
      · exact ty_ne h0 h.tab.tab (by decide)
      · exact map_ne h0 hm
      · exact h.apart k hv hk
  · intro p hp k hk hown
    obtain ⟨_, c0, h0⟩ := ownsRow_at (h.ref.mems p hp) hk
    rcases hown with rfl | rfl | hv
    · exact ty_ne h0 h.tab.tab (by decide)
    · exact map_ne h0 hm
    · obtain ⟨_, cur, hc⟩ := ownsRow_at h.tab.rows hv
      exact ty_ne h0 hc (by decide)
/-- What the given answer's table turns leaves a program's as it is. -/
theorem tab_kept {B' : Nat} {ps : List (Value × Value)} (h : Tab B' w b mb v rs ps) (hr : RTab B w rb rv rs2) (hap : ∀ k, v.ownBlock = some k → rv.ownBlock ≠ some k) (ht : Turned w w' (RTab.rown rb rv)) : Tab B' w' b mb v rs ps := by
  obtain ⟨es, ck, hm, _⟩ := h.map
  refine h.kept ht ?_ ?_
  · rintro k hown (rfl | hk)
    · rcases hown with rfl | rfl | hv
      · exact ty_ne hr.tab h.tab (by decide)
      · exact map_ne hr.tab hm
      · obtain ⟨_, cur, hc⟩ := ownsRow_at h.rows hv
        exact ty_ne hr.tab hc (by decide)
    · obtain ⟨_, c0, h0⟩ := ownsRow_at hr.rows hk
      rcases hown with rfl | rfl | hv
      · exact ty_ne h0 h.tab (by decide)
      · exact map_ne h0 hm
      · exact hap k hv hk
  · intro p hp k hk hown
    obtain ⟨_, c0, h0⟩ := ownsRow_at (h.mems p hp) hk
    rcases hown with rfl | hv
    · exact ty_ne h0 hr.tab (by decide)
    · obtain ⟨_, cur, hc⟩ := ownsRow_at hr.rows hv
      exact ty_ne h0 hc (by decide)
theorem Duo.below (h : Duo B w b mb v rs rb rv rs2) (hb : Below w.heap.size w w') : Duo B w' b mb v rs rb rv rs2 :=
  ⟨h.tab.keptB hb, h.ref.keptB hb, h.same, h.apart, h.len, h.small, h.uniq, h.sane, h.ok⟩
theorem Duo.len2 (h : Duo B w b mb v rs rb rv rs2) : rs2.length = rs.length := fst_len h.same
theorem Duo.rt (h : Duo B w b mb v rs rb rv rs2) : RT w rb rv rs2 := ⟨h.ref.c0, h.ref.rowSl, by have := h.len2; have := h.tab.len; omega⟩

/-- A row more in both. -/
theorem Duo.more {w2 : World} {v' rv' : Value} {r : Rw} {s s2 : Value} (h : Duo B w b mb v rs rb rv rs2)
    (h1 : Tab B w2 b mb v' (rs ++ [(r, s)]) (pairs (rowsOf (rs ++ [(r, s)])))) (h2 : RTab B w2 rb rv' (rs2 ++ [(r, s2)])) (hap : ∀ k, v'.ownBlock = some k → rv'.ownBlock ≠ some k)
    (hm : r.mem.length ≤ 64) (hu : Uniq (pairs (rowsOf (rs ++ [(r, s)])))) (hs : Sane r) (hok : FromOK (rs ++ [(r, s)])) : Duo B w2 b mb v' (rs ++ [(r, s)]) rb rv' (rs2 ++ [(r, s2)]) := by
  refine ⟨h1, h2, by simp [h.same], hap, by have := h.len; simp; omega, ?_, hu, ?_, hok⟩
  · intro p hp
    rw [List.mem_append, List.mem_singleton] at hp
    rcases hp with hp | rfl
    · exact h.small p hp
    · exact hm
  · intro p hp
    rw [List.mem_append, List.mem_singleton] at hp
    rcases hp with hp | rfl
    · exact h.sane p hp
    · exact hs

theorem rowsOf_snoc (r : Rw) (s : Value) : rowsOf (rs ++ [(r, s)]) = rowsOf rs ++ [r] := by simp [rowsOf]
theorem pairs_plain {r : Rw} {s : Value} (hd : derivd r = false) : pairs (rowsOf (rs ++ [(r, s)])) = pairs (rowsOf rs) := by
  rw [rowsOf_snoc, pairs_snoc, hd]; simp
theorem pairs_deriv {r : Rw} {s : Value} (hd : derivd r = true) : pairs (rowsOf (rs ++ [(r, s)])) = pairs (rowsOf rs) ++ [(keyV r.kind r.elem r.len, .int .i64 rs.length)] := by
  rw [rowsOf_snoc, pairs_snoc, hd]; simp [rowsOf]
/-- Is there a pointer or an array like it? By the map and by the rows. -/
theorem pair_row {k e n : Int} (hk : k = 13 ∨ k = 14) {i : Nat} : (keyV k e n, Value.int .i64 i) ∈ pairs (rowsOf rs) ↔ ∃ p, rs[i]? = some p ∧ likeK k e n p.1 = true := by
  rw [mem_pairs]
  constructor
  · rintro ⟨j, r, hj, hd, he⟩
    injection he with e1 e2
    injection e2 with _ e2
    have hij : i = j := by omega
    subst hij
    obtain ⟨a1, a2, a3⟩ := keyV_inj e1
    simp only [rowsOf, List.getElem?_map] at hj
    cases h2 : rs[i]? with
    | none => rw [h2] at hj; cases hj
    | some p =>
      rw [h2] at hj
      have : p.1 = r := by simpa using hj
      exact ⟨p, rfl, by simp [likeK, this, a1, a2, a3]⟩
  · rintro ⟨p, hp, hl⟩
    simp only [likeK, Bool.and_eq_true, beq_iff_eq] at hl
    refine ⟨i, p.1, by simp [rowsOf, hp], ?_, by rw [hl.1.1, hl.1.2, hl.2]⟩
    simp [derivd, hl.1.1]; omega
theorem key_row {k e n : Int} (hk : k = 13 ∨ k = 14) (h : ∃ kv ∈ pairs (rowsOf rs), kv.1 = keyV k e n) : ∃ (i : Nat) (p : Rw × Value), rs[i]? = some p ∧ likeK k e n p.1 = true := by
  obtain ⟨kv, hkv, he⟩ := h
  obtain ⟨j, r, hj, hd, rfl⟩ := mem_pairs.1 hkv
  have : (keyV k e n, Value.int .i64 j) ∈ pairs (rowsOf rs) := by rw [← he]; exact hkv
  obtain ⟨p, hp, hl⟩ := (pair_row hk).1 this
  exact ⟨j, p, hp, hl⟩
end
end Go.Proofs.YtlcghlfmaohfeaaGreat
namespace Go.Proofs.YtlcghlfmaohfeaaGreat
open Go.RowKit Go.Maps
set_option linter.unusedVariables false
set_option maxRecDepth 100000

theorem rtab_empty (w : World) : RTab w.heap.size (w.alloc (.cells #[.slice none 0 0] TT)) w.heap.size (.slice none 0 0) (basicRows 0) :=
  ⟨Nat.le_refl _, heap_r0 w _, World.ownsRow_nil _ _ _ _, fun p hp => by cases hp⟩

end Go.Proofs.YtlcghlfmaohfeaaGreat
