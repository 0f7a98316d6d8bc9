/-
  Which rows make a table: what the entered rows are. (Pure.)
-/
import Derived.Test.YtfdjghfgbibedaaDoorEnter
import Derived.Test.YtfdjghfgbibedaaDoorCirc
namespace Go.Proofs.YtfdjghfgbibedaaDoor
open Go.RowKit Go.Maps
set_option linter.unusedVariables false
set_option maxRecDepth 100000

section
variable {rs rs' : List (Rw × Value)}
theorem fst_at (h : rs'.map (·.1) = rs.map (·.1)) (i : Nat) : (rs'[i]?).map (·.1) = (rs[i]?).map (·.1) := by
  have := congrArg (fun l => l[i]?) h
  simpa [List.getElem?_map] using this
theorem fst_len (h : rs'.map (·.1) = rs.map (·.1)) : rs'.length = rs.length := by simpa using congrArg List.length h
theorem kindP_fst (h : rs'.map (·.1) = rs.map (·.1)) (id : Int) : kindP rs' id = kindP rs id := by
  unfold kindP
  have := fst_at h id.toNat
  split
  · cases h1 : rs'[id.toNat]? <;> cases h2 : rs[id.toNat]? <;> simp [h1, h2] at this ⊢
    rw [this]
  · rfl
theorem wholeP_fst (h : rs'.map (·.1) = rs.map (·.1)) (id : Int) : wholeP rs' id = wholeP rs id := by
  unfold wholeP
  have := fst_at h id.toNat
  split
  · cases h1 : rs'[id.toNat]? <;> cases h2 : rs[id.toNat]? <;> simp [h1, h2] at this ⊢
    rw [this]
  · rfl
theorem memberErr_fst (h : rs'.map (·.1) = rs.map (·.1)) (pre : List Mb) (m : Mb) : memberErr rs' pre m = memberErr rs pre m := by
  unfold memberErr
  rw [fst_len h, wholeP_fst h, kindP_fst h]
theorem refusFrom_fst (h : rs'.map (·.1) = rs.map (·.1)) : ∀ (l pre : List Mb), refusFrom rs' pre l = refusFrom rs pre l
  | [], _ => rfl
  | m :: r, pre => by simp only [refusFrom, memberErr_fst h, refusFrom_fst h r]
theorem refusP_fst (h : rs'.map (·.1) = rs.map (·.1)) (l : List Mb) : refusP rs' l = refusP rs l := by
  unfold refusP; rw [refusFrom_fst h]
theorem enterB_fst (h : rs'.map (·.1) = rs.map (·.1)) (ps : List (Value × Value)) (i : Nat) (r : Rw) : enterB rs' ps i r = enterB rs ps i r := by
  unfold enterB; rw [refusP_fst h, wholeP_fst h]
theorem partsAt_fst (h : rs'.map (·.1) = rs.map (·.1)) : partsAt rs' = partsAt rs := by
  funext i
  unfold partsAt
  have := fst_at h i
  cases h1 : rs'[i]? <;> cases h2 : rs[i]? <;> simp [h1, h2] at this ⊢
  rw [this]

theorem refus_err : ∀ (l pre : List Mb), refusFrom rs pre l = 0 → ∀ m ∈ l, ∃ pre', memberErr rs pre' m = 0
  | [], _, _, m, hm => by cases hm
  | a :: r, pre, h, m, hm => by
    simp only [refusFrom] at h
    split at h
    · rename_i h0
      rcases List.mem_cons.1 hm with rfl | hm
      · exact ⟨pre, h0⟩
      · exact refus_err r _ h m hm
    · rename_i h0; exact absurd h h0
theorem memberErr_has {pre : List Mb} {m : Mb} (h : memberErr rs pre m = 0) : hasP rs.length m.type = true := by
  unfold memberErr at h
  split at h
  · cases h
  · rename_i hh; simpa using hh
theorem refus_len {l : List Mb} (h : refusP rs l = 0) : 1 ≤ l.length ∧ l.length ≤ 64 ∧ refusFrom rs [] l = 0 := by
  unfold refusP at h
  split at h
  · cases h
  · rename_i hh; exact ⟨by omega, by omega, h⟩
theorem more_mem {r : Rw} (h : moreP r = false) (hd : ownDone r = false) : r.mem = [] := by
  unfold moreP at h
  simp only [Bool.or_eq_false_iff, Bool.and_eq_false_iff, hd] at h
  have := h.2
  simp at this
  exact this

/-- An entered row's parts are types of the table; its members are few. -/
theorem enter_parts {ps : List (Value × Value)} {i : Nat} {r : Rw} (h : enterB rs ps i r = true) (hi : i < rs.length) : (∀ x ∈ partsR r, 0 ≤ x ∧ x < rs.length) ∧ r.mem.length ≤ 64 := by
  unfold enterB at h
  by_cases hm : moreP r = true
  · simp [hm] at h
  · have hm' : moreP r = false := by simpa using hm
    simp only [hm', Bool.false_eq_true, if_false] at h
    by_cases hi11 : i < 11
    · rw [if_pos hi11] at h
      have hk : r.kind = 1 + (i : Int) := by simpa using h
      have hmem := more_mem hm' (by simp [ownDone, recK, hk]; omega)
      refine ⟨fun x hx => ?_, by rw [hmem]; simp⟩
      unfold partsR at hx
      rw [if_neg (by omega), hmem] at hx
      cases hx
    · rw [if_neg hi11] at h
      by_cases h12 : r.kind = 12
      · have hmem := more_mem hm' (by simp [ownDone, recK, h12])
        refine ⟨fun x hx => ?_, by rw [hmem]; simp⟩
        unfold partsR at hx
        rw [if_neg (by omega), hmem] at hx
        cases hx
      · rw [if_neg h12] at h
        by_cases h15 : r.kind = 15 ∨ r.kind = 16
        · rw [if_pos h15] at h
          simp only [Bool.and_eq_true, Bool.or_eq_true] at h
          rcases h.2 with hd | hd
          · have hd' : r.done = false := by simpa using hd
            have hmem := more_mem hm' (by simp [ownDone, hd'])
            refine ⟨fun x hx => ?_, by rw [hmem]; simp⟩
            unfold partsR at hx
            rw [if_neg (by omega), hmem] at hx
            cases hx
          · obtain ⟨l1, l2, l3⟩ := refus_len (by simpa using hd)
            refine ⟨fun x hx => ?_, l2⟩
            unfold partsR at hx
            rw [if_neg (by omega)] at hx
            obtain ⟨m, hmm, rfl⟩ := List.mem_map.1 hx
            obtain ⟨pre', he⟩ := refus_err r.mem [] l3 m hmm
            have := memberErr_has he
            simp [hasP] at this
            omega
        · rw [if_neg h15] at h
          have hown : ownDone r = false := by
            simp [ownDone, recK]; intro h; omega
          have hmem := more_mem hm' hown
          by_cases h13 : r.kind = 13
          · refine ⟨fun x hx => ?_, by rw [hmem]; simp⟩
            unfold partsR at hx
            rw [if_neg (by omega), hmem] at hx
            cases hx
          · rw [if_neg h13] at h
            by_cases h14 : r.kind = 14
            · rw [if_pos h14] at h
              simp only [Bool.and_eq_true] at h
              refine ⟨fun x hx => ?_, by rw [hmem]; simp⟩
              unfold partsR at hx
              rw [if_pos h14, List.mem_singleton] at hx
              subst hx
              have h1 := h.1.1
              split at h1
              · cases h1
              · simp at h1; omega
            · rw [if_neg h14] at h; cases h

def rowsOf (rs : List (Rw × Value)) : List Rw := rs.map (·.1)
def AllIn (rs : List (Rw × Value)) (k : Nat) : Prop := ∀ i p, i < k → rs[i]? = some p → enterB rs (pairs ((rowsOf rs).take i)) i p.1 = true
def FromOK (rs : List (Rw × Value)) : Prop := AllIn rs rs.length ∧ Acyc (partsAt rs) rs.length
theorem pairs_take {i : Nat} {p : Rw × Value} (hp : rs[i]? = some p) : pairs ((rowsOf rs).take (i + 1)) = pairs ((rowsOf rs).take i) ++ (if derivd p.1 then [(keyV p.1.kind p.1.elem p.1.len, .int .i64 i)] else []) := by
  have hlt : i < rs.length := (List.getElem?_eq_some_iff.1 hp).1
  have e : (rowsOf rs)[i]? = some p.1 := by simp [rowsOf, hp]
  rw [List.take_add_one, e]
  show pairs ((rowsOf rs).take i ++ [p.1]) = _
  rw [pairs_snoc]
  have hl : ((rowsOf rs).take i).length = i := by simp [rowsOf]; omega
  rw [hl]
def Uniq (ps : List (Value × Value)) : Prop := ∀ k a a', (k, a) ∈ ps → (k, a') ∈ ps → a' = a
theorem enter_uniq {ps : List (Value × Value)} {i : Nat} {r : Rw} (h : enterB rs ps i r = true) (hu : Uniq ps) : Uniq (ps ++ (if derivd r then [(keyV r.kind r.elem r.len, .int .i64 i)] else [])) := by
  by_cases hd : derivd r = true
  · have hno : ¬ twiceB ps r := by
      intro ht
      unfold enterB at h
      by_cases hm : moreP r = true
      · simp [hm] at h
      · have hm' : moreP r = false := by simpa using hm
        simp only [hm', Bool.false_eq_true, if_false] at h
        have hk : r.kind = 13 ∨ r.kind = 14 := by simpa [derivd] using hd
        by_cases hi11 : i < 11
        · rw [if_pos hi11] at h
          have : r.kind = 1 + (i : Int) := by simpa using h
          omega
        · rw [if_neg hi11, if_neg (by omega), if_neg (by omega)] at h
          rcases hk with hk | hk
          · rw [if_pos hk, if_pos ht] at h; cases h
          · rw [if_neg (by omega), if_pos hk, if_pos ht] at h; simp at h
    rw [if_pos hd]
    intro k a a' h1 h2
    rw [List.mem_append, List.mem_singleton] at h1 h2
    rcases h1 with h1 | h1 <;> rcases h2 with h2 | h2
    · exact hu k a a' h1 h2
    · cases h2; exact absurd ⟨_, h1, rfl⟩ hno
    · cases h1; exact absurd ⟨_, h2, rfl⟩ hno
    · cases h1; cases h2; rfl
  · rw [if_neg hd]; simpa using hu
end
end Go.Proofs.YtfdjghfgbibedaaDoor
