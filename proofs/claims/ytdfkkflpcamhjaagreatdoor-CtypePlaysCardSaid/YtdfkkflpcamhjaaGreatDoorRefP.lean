/-
  Which rows make a table: the code's answer and the given one are the same. (Pure.)
-/
import Derived.Test.YtdfkkflpcamhjaaGreatDoorMFrom
import Derived.Test.YtdfkkflpcamhjaaGreatDoorRefTw
namespace Go.Proofs.YtdfkkflpcamhjaaGreatDoor
open Go.RowKit Go.Maps
set_option linter.unusedVariables false
set_option maxRecDepth 100000

section
variable {rs rs' : List (Rw × Value)}
theorem rWholeP_fst (h : rs'.map (·.1) = rs.map (·.1)) (id : Int) : rWholeP rs' id = rWholeP rs id := by
  unfold rWholeP
  have := fst_at h id.toNat
  split
  · cases h1 : rs'[id.toNat]? <;> cases h2 : rs[id.toNat]? <;> simp [h1, h2] at this ⊢
    rw [this]
  · rfl
theorem rMemberErr_fst (h : rs'.map (·.1) = rs.map (·.1)) (pre : List Mb) (m : Mb) : rMemberErr rs' pre m = rMemberErr rs pre m := by
  unfold rMemberErr
  rw [fst_len h, rWholeP_fst h, kindP_fst h]
theorem rRefusFrom_fst (h : rs'.map (·.1) = rs.map (·.1)) : ∀ (l pre : List Mb), rRefusFrom rs' pre l = rRefusFrom rs pre l
  | [], _ => rfl
  | m :: r, pre => by simp only [rRefusFrom, rMemberErr_fst h, rRefusFrom_fst h r]
theorem rRefusP_fst (h : rs'.map (·.1) = rs.map (·.1)) (l : List Mb) : rRefusP rs' l = rRefusP rs l := by
  unfold rRefusP; rw [rRefusFrom_fst h]
theorem shapedB_fst (h : rs'.map (·.1) = rs.map (·.1)) (i : Nat) (r : Rw) : shapedB rs' i r = shapedB rs i r := by
  unfold shapedB; rw [rRefusP_fst h, rWholeP_fst h]
theorem rTwiceB_fst (h : rs'.map (·.1) = rs.map (·.1)) (i : Nat) (r : Rw) : rTwiceB rs' i r = rTwiceB rs i r := by
  unfold rTwiceB
  have e : ∀ l : List (Rw × Value), ((l.take i).any fun q => likeR q.1 r) = ((l.map (·.1)).take i).any fun q => likeR q r := by
    intro l
    rw [← List.map_take, List.any_map]; rfl
  rw [e, e, h]

/-- Rows whose kind is one, whose length is one. -/
def Sane (r : Rw) : Prop := 1 ≤ r.kind ∧ r.kind ≤ 16 ∧ (r.kind = 14 → lenK r.len = true)
theorem whole_same {r : Rw} (h : Sane r) : wholeR r = rWholeR r := by
  obtain ⟨h1, h2, h3⟩ := h
  unfold wholeR rWholeR
  by_cases h14 : r.kind = 14
  · rw [if_pos h14, if_pos h14]
    have := h3 h14
    simp [lenK] at this
    rw [Bool.eq_iff_iff]; simp; omega
  · rw [if_neg h14, if_neg h14]
    cases hr : recK r.kind
    · simp only [Bool.false_eq_true, if_false]
      simp [recK] at hr
      rw [Bool.eq_iff_iff]; simp [intK]; omega
    · rfl
theorem wholeP_same (h : ∀ p ∈ rs, Sane p.1) (id : Int) : wholeP rs id = rWholeP rs id := by
  unfold wholeP rWholeP
  split
  · cases h1 : rs[id.toNat]? with
    | none => rfl
    | some p => exact whole_same (h p (List.mem_of_getElem? h1))
  · rfl
theorem refus_same (h : ∀ p ∈ rs, Sane p.1) (l : List Mb) : refusP rs l = rRefusP rs l := by
  have e : ∀ (l pre : List Mb), refusFrom rs pre l = rRefusFrom rs pre l := by
    intro l
    induction l with
    | nil => intro pre; rfl
    | cons m t ih =>
      intro pre
      have : memberErr rs pre m = rMemberErr rs pre m := by unfold memberErr rMemberErr; rw [wholeP_same h]
      simp only [refusFrom, rRefusFrom, this, ih]
  unfold refusP rRefusP; rw [e]

theorem enter_sane {ps : List (Value × Value)} {i : Nat} {r : Rw} (h : enterB rs ps i r = true) : Sane r := by
  unfold enterB at h
  by_cases hm : moreP r = true
  · simp [hm] at h
  · have hm' : moreP r = false := by simpa using hm
    simp only [hm', Bool.false_eq_true, if_false] at h
    by_cases hi11 : i < 11
    · rw [if_pos hi11] at h
      have hk : r.kind = 1 + (i : Int) := by simpa using h
      exact ⟨by omega, by omega, fun h => by omega⟩
    · rw [if_neg hi11] at h
      by_cases h12 : r.kind = 12
      · exact ⟨by omega, by omega, fun h => by omega⟩
      · rw [if_neg h12] at h
        by_cases h15 : r.kind = 15 ∨ r.kind = 16
        · exact ⟨by omega, by omega, fun h => by omega⟩
        · rw [if_neg h15] at h
          by_cases h13 : r.kind = 13
          · exact ⟨by omega, by omega, fun h => by omega⟩
          · rw [if_neg h13] at h
            by_cases h14 : r.kind = 14
            · rw [if_pos h14] at h
              simp only [Bool.and_eq_true] at h
              exact ⟨by omega, by omega, fun _ => h.2⟩
            · rw [if_neg h14] at h; cases h
theorem shaped_sane {i : Nat} {r : Rw} (h : shapedB rs i r = true) : Sane r := by
  unfold shapedB at h
  by_cases hi11 : i < 11
  · rw [if_pos hi11] at h
    simp [basicEq] at h
    have hk : r.kind = (i : Int) + 1 := by omega
    exact ⟨by omega, by omega, fun h => by omega⟩
  · rw [if_neg hi11] at h
    by_cases h12 : r.kind = 12
    · exact ⟨by omega, by omega, fun h => by omega⟩
    · rw [if_neg h12] at h
      by_cases h15 : r.kind = 15 ∨ r.kind = 16
      · exact ⟨by omega, by omega, fun h => by omega⟩
      · rw [if_neg h15] at h
        by_cases h13 : r.kind = 13
        · exact ⟨by omega, by omega, fun h => by omega⟩
        · rw [if_neg h13] at h
          by_cases h14 : r.kind = 14
          · rw [if_pos h14] at h
            simp only [Bool.and_eq_true] at h
            exact ⟨by omega, by omega, fun _ => h.1.1.1.2⟩
          · rw [if_neg h14] at h; cases h

theorem twice_same {i : Nat} {r : Rw} (hd : derivd r = true) : twiceB (pairs ((rowsOf rs).take i)) r ↔ ((rs.take i).any fun q => likeR q.1 r) = true := by
  unfold twiceB
  rw [List.any_eq_true]
  constructor
  · rintro ⟨kv, h1, h2⟩
    obtain ⟨j, r', hj, hd', rfl⟩ := mem_pairs.1 h1
    obtain ⟨e1, e2, e3⟩ := keyV_inj h2
    have hj2 : ((rs.take i)[j]?).map (·.1) = some r' := by
      rw [← List.getElem?_map, List.map_take]; exact hj
    cases h3 : (rs.take i)[j]? with
    | none => rw [h3] at hj2; cases hj2
    | some q =>
      rw [h3] at hj2
      have e : q.1 = r' := by simpa using hj2
      exact ⟨q, List.mem_of_getElem? h3, by simp [likeR, e, e1, e2, e3]⟩
  · rintro ⟨q, hq, hl⟩
    simp only [likeR, Bool.and_eq_true, beq_iff_eq] at hl
    obtain ⟨j, hj⟩ := List.mem_iff_getElem?.1 hq
    refine ⟨(keyV q.1.kind q.1.elem q.1.len, .int .i64 j), mem_pairs.2 ⟨j, q.1, ?_, ?_, rfl⟩, ?_⟩
    · show ((rs.map (·.1)).take i)[j]? = _
      rw [← List.map_take, List.getElem?_map, hj]; rfl
    · simp only [derivd] at hd ⊢; rw [hl.1.1]; exact hd
    · simp only; rw [hl.1.1, hl.1.2, hl.2]

theorem pos_not (n : Nat) : decide (0 < n) = !decide (n = 0) := by
  cases n <;> simp

open Classical in
/-- Row by row: entered just if shaped, and none like it ahead. -/
theorem row_same (h : ∀ p ∈ rs, Sane p.1) (i : Nat) (r : Rw) : enterB rs (pairs ((rowsOf rs).take i)) i r = (shapedB rs i r && !rTwiceB rs i r) := by
  unfold enterB shapedB
  rw [refus_same h, wholeP_same h]
  have hmore : moreP r = (moreHead r || (!decide (r.mem.length = 0) && !ownDone r)) := by unfold moreP; rw [pos_not]
  by_cases hi : i < 11
  · rw [if_pos hi, if_pos hi]
    by_cases hk : r.kind = 1 + (i : Int)
    · have h12 : ¬ r.kind = 12 := by omega
      have h13 : ¬ r.kind = 13 := by omega
      have h14 : ¬ r.kind = 14 := by omega
      have h15 : ¬ (r.kind = 15 ∨ r.kind = 16) := by omega
      have hd : rTwiceB rs i r = false := by simp [rTwiceB, derivd, h13, h14]
      have hrec : recK r.kind = false := by simp [recK]; omega
      have hbe : basicEq r ((i : Int) + 1) = (r.elem == 0 && r.len == 0 && r.tag.toList == [] && !r.done && decide (r.mem.length = 0)) := by
        unfold basicEq
        have : (r.kind == (i : Int) + 1) = true := by simp; omega
        rw [this]; simp
      have hmh : moreHead r = !(r.elem == 0 && r.len == 0 && r.tag.toList == [] && r.done == false) := by simp [moreHead, h12, h13, h14, h15]
      have hk2 : (r.kind == 1 + (i : Int)) = true := by simp; omega
      rw [hd, hmore, hmh, hbe, hk2]
      simp only [ownDone, hrec]
      generalize (r.elem == 0) = a
      generalize (r.len == 0) = b
      generalize (r.tag.toList == []) = c
      generalize r.done = d
      generalize decide (r.mem.length = 0) = e
      revert a b c d e; decide
    · have h1 : (r.kind == 1 + (i : Int)) = false := by simpa using hk
      have h2 : (r.kind == (i : Int) + 1) = false := by simp; omega
      simp [basicEq, h1, h2]
  · rw [if_neg hi, if_neg hi]
    by_cases h12 : r.kind = 12
    · have hd : rTwiceB rs i r = false := by simp [rTwiceB, derivd, h12]
      have hrec : recK r.kind = false := by simp [recK, h12]
      have hmh : moreHead r = !(r.elem == 0 && r.len == 0 && r.done == false) := by simp [moreHead, h12]
      rw [hd, hmore, hmh, if_pos h12, if_pos h12]
      simp only [ownDone, hrec, plainB]
      generalize (r.elem == 0) = a
      generalize (r.len == 0) = b
      generalize tagP r.tag.data.toList = c
      generalize r.done = d
      generalize decide (r.mem.length = 0) = e
      revert a b c d e; decide
    rw [if_neg h12, if_neg h12]
    by_cases h15 : r.kind = 15 ∨ r.kind = 16
    · have hd : rTwiceB rs i r = false := by
        have h13 : ¬ r.kind = 13 := by omega
        have h14 : ¬ r.kind = 14 := by omega
        simp [rTwiceB, derivd, h13, h14]
      have hrec : recK r.kind = true := by simpa [recK] using h15
      have hmh : moreHead r = !(r.elem == 0 && r.len == 0) := by
        have h13 : ¬ r.kind = 13 := by omega
        have h14 : ¬ r.kind = 14 := by omega
        simp [moreHead, h12, h13, h14, h15]
      rw [hd, hmore, hmh, if_pos h15, if_pos h15]
      simp only [ownDone, hrec, plainB]
      generalize (r.elem == 0) = a
      generalize (r.len == 0) = b
      generalize tagP r.tag.data.toList = c
      generalize r.done = d
      generalize decide (r.mem.length = 0) = e
      generalize (rRefusP rs r.mem == 0) = f
      revert a b c d e f; decide
    rw [if_neg h15, if_neg h15]
    have hrec : recK r.kind = false := by simp [recK]; omega
    by_cases h13 : r.kind = 13
    · have hdv : derivd r = true := by simp [derivd, h13]
      have hmh : moreHead r = !(r.len == 0 && r.tag.toList == [] && r.done == false) := by simp [moreHead, h13]
      have htw : (if twiceB (pairs ((rowsOf rs).take i)) r then false else (decide (0 ≤ r.elem) && decide (r.elem < (i : Int)))) = (!rTwiceB rs i r && (decide (0 ≤ r.elem) && decide (r.elem < (i : Int)))) := by
        by_cases ht : twiceB (pairs ((rowsOf rs).take i)) r
        · rw [if_pos ht]; simp [rTwiceB, hdv, (twice_same hdv).1 ht]
        · rw [if_neg ht]
          have : ((rs.take i).any fun q => likeR q.1 r) = false := by
            cases hh : (rs.take i).any fun q => likeR q.1 r
            · rfl
            · exact absurd ((twice_same hdv).2 hh) ht
          simp only [rTwiceB, hdv, this]; simp
      rw [hmore, hmh, if_pos h13, if_pos h13, htw]
      simp only [ownDone, hrec, plainB]
      generalize rTwiceB rs i r = t
      generalize decide (0 ≤ r.elem) = a
      generalize decide (r.elem < (i : Int)) = b
      generalize (r.len == 0) = c
      generalize (r.tag.toList == []) = g
      generalize r.done = d
      generalize decide (r.mem.length = 0) = e
      revert t a b c g d e; decide
    rw [if_neg h13, if_neg h13]
    by_cases h14 : r.kind = 14
    · have hdv : derivd r = true := by simp [derivd, h14]
      have hmh : moreHead r = !(r.tag.toList == [] && r.done == false) := by simp [moreHead, h14]
      have htw : (if twiceB (pairs ((rowsOf rs).take i)) r then false else (decide (0 ≤ r.elem) && decide (r.elem < (i : Int)))) = (!rTwiceB rs i r && (decide (0 ≤ r.elem) && decide (r.elem < (i : Int)))) := by
        by_cases ht : twiceB (pairs ((rowsOf rs).take i)) r
        · rw [if_pos ht]; simp [rTwiceB, hdv, (twice_same hdv).1 ht]
        · rw [if_neg ht]
          have : ((rs.take i).any fun q => likeR q.1 r) = false := by
            cases hh : (rs.take i).any fun q => likeR q.1 r
            · rfl
            · exact absurd ((twice_same hdv).2 hh) ht
          simp only [rTwiceB, hdv, this]; simp
      rw [hmore, hmh, if_pos h14, if_pos h14, htw]
      simp only [ownDone, hrec, plainB]
      generalize rTwiceB rs i r = t
      generalize decide (0 ≤ r.elem) = a
      generalize decide (r.elem < (i : Int)) = b
      generalize lenK r.len = c
      generalize (r.tag.toList == []) = g
      generalize r.done = d
      generalize decide (r.mem.length = 0) = e
      generalize rWholeP rs r.elem = f
      revert t a b c g d e f; decide
    · rw [if_neg h14, if_neg h14]; simp

def AllSh (rs : List (Rw × Value)) (k : Nat) : Prop := ∀ i p, i < k → rs[i]? = some p → shapedB rs i p.1 = true ∧ rTwiceB rs i p.1 = false
def RefOK (rs : List (Rw × Value)) : Prop := AllSh rs rs.length ∧ Acyc (partsAt rs) rs.length
theorem allIn_sane (h : AllIn rs rs.length) : ∀ p ∈ rs, Sane p.1 := by
  intro p hp
  obtain ⟨i, hi⟩ := List.mem_iff_getElem?.1 hp
  exact enter_sane (h i p (List.getElem?_eq_some_iff.1 hi).1 hi)
theorem allSh_sane (h : AllSh rs rs.length) : ∀ p ∈ rs, Sane p.1 := by
  intro p hp
  obtain ⟨i, hi⟩ := List.mem_iff_getElem?.1 hp
  exact shaped_sane (h i p (List.getElem?_eq_some_iff.1 hi).1 hi).1
theorem all_same : AllIn rs rs.length ↔ AllSh rs rs.length := by
  constructor
  · intro h i p hi hp
    have := h i p hi hp
    rw [row_same (allIn_sane h)] at this
    simpa using this
  · intro h i p hi hp
    rw [row_same (allSh_sane h)]
    have := h i p hi hp
    simp [this.1, this.2]
theorem ok_same : FromOK rs ↔ RefOK rs := by unfold FromOK RefOK; rw [all_same]
theorem AllSh_fst (h : rs'.map (·.1) = rs.map (·.1)) {k : Nat} (ha : AllSh rs k) : AllSh rs' k := by
  intro i p hi hp
  have e := fst_at h i
  rw [hp] at e
  cases h2 : rs[i]? with
  | none => rw [h2] at e; cases e
  | some q =>
    rw [h2] at e
    have e2 : p.1 = q.1 := by simpa using e
    rw [shapedB_fst h, rTwiceB_fst h, e2]
    exact ha i q hi h2
theorem RefOK_fst (h : rs'.map (·.1) = rs.map (·.1)) (ha : RefOK rs) : RefOK rs' := by
  refine ⟨?_, ?_⟩
  · rw [fst_len h]; exact AllSh_fst h ha.1
  · rw [partsAt_fst h, fst_len h]; exact ha.2
theorem enter_mem14 {ps : List (Value × Value)} {i : Nat} {r : Rw} (h : enterB rs ps i r = true) (hk : r.kind = 14) : r.mem = [] := by
  unfold enterB at h
  by_cases hm : moreP r = true
  · simp [hm] at h
  · exact more_mem (by simpa using hm) (by simp [ownDone, recK, hk])
theorem AllSh_parts (h : AllSh rs rs.length) : (∀ (i : Nat) (p : Rw × Value), rs[i]? = some p → (∀ x ∈ partsR p.1, 0 ≤ x ∧ x < rs.length) ∧ (p.1.kind = 14 → p.1.mem = [])) ∧ ∀ p : Rw × Value, p ∈ rs → p.1.mem.length ≤ 64 := by
  have h2 := AllIn_parts (all_same.2 h)
  refine ⟨fun i p hp => ⟨h2.1 i p hp, fun hk => ?_⟩, h2.2⟩
  exact enter_mem14 (all_same.2 h i p (List.getElem?_eq_some_iff.1 hp).1 hp) hk
end
end Go.Proofs.YtdfkkflpcamhjaaGreatDoor
