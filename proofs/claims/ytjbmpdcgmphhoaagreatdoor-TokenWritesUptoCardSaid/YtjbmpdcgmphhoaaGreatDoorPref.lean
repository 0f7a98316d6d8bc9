/-
  What stays of a token and of a gap where the text behind it is cut off, or a blank stands behind it.
-/
import Derived.Test.YtjbmpdcgmphhoaaGreatDoorScanS
namespace Go.Proofs.YtjbmpdcgmphhoaaGreatDoor
set_option linter.unusedVariables false

theorem runLen_take (p : Nat → Bool) : ∀ (l : List UInt8) (e : Nat), runLen p (l.take e) = min (runLen p l) e
  | [], e => by simp [runLen]
  | c :: r, 0 => by simp [runLen]
  | c :: r, e + 1 => by
    simp only [List.take_succ_cons, runLen]
    split
    · rw [runLen_take p r e]; omega
    · simp

theorem runLen_blank (p : Nat → Bool) (b : UInt8) (x : List UInt8) (hb : p b.toNat = false) : ∀ l : List UInt8, runLen p (l ++ b :: x) = runLen p l
  | [] => by simp [runLen, hb]
  | c :: r => by simp only [List.cons_append, runLen]; rw [runLen_blank p b x hb r]

theorem blank_no {b : UInt8} (h : bBlank b.toNat = true) : bName b.toNat = false ∧ (∀ base, base ≤ 16 → bBase base b.toNat = false) := by
  simp only [bBlank, Bool.or_eq_true, Bool.and_eq_true, beq_iff_eq, decide_eq_true_eq] at h
  have hd : bDigit b.toNat = 99 := by
    unfold bDigit
    repeat rw [if_neg (by omega)]
  refine ⟨?_, fun base hb => ?_⟩
  · simp only [bName, bLetter, hd]
    simp only [Bool.or_eq_false_iff, Bool.and_eq_false_iff, decide_eq_false_iff_not, beq_eq_false_iff_ne]
    omega
  · simp only [bBase, hd, decide_eq_false_iff_not]; omega

theorem escdOf_pos {base size : Nat} {d : List UInt8} {b k : Nat} (h : escdOf base size d = some (b, k)) : d ≠ [] ∧ k = size := by
  unfold escdOf at h
  split at h
  · cases h
  · rename_i hd
    simp only [Option.some.injEq, Prod.mk.injEq] at h
    refine ⟨fun e => hd (by simp [e]), h.2.symm⟩

theorem escOf_take {l : List UInt8} {b k : Nat} (h : escOf l = some (b, k)) (e : Nat) (hk : k ≤ e) : escOf (l.take e) = some (b, k) := by
  cases l with
  | nil => cases h
  | cons c r =>
    unfold escOf at h
    simp only at h
    split at h
    · rename_i hi
      simp only [Option.some.injEq, Prod.mk.injEq] at h
      obtain ⟨e', rfl⟩ : ∃ e', e = e' + 1 := ⟨e - 1, by omega⟩
      unfold escOf
      simp only [List.take_succ_cons]
      rw [if_pos hi, h.1, h.2]
    · rename_i hi
      split at h
      · rename_i hx
        have hkk := (escdOf_pos h).2
        obtain ⟨e', rfl⟩ : ∃ e', e = e' + 1 := ⟨e - 1, by omega⟩
        unfold escOf
        simp only [List.take_succ_cons]
        rw [if_neg hi, if_pos hx, runLen_take, Nat.min_eq_left (by omega), List.take_take, Nat.min_eq_left (by omega)]
        exact h
      · rename_i hx
        obtain ⟨hd, hkk⟩ := escdOf_pos h
        have hk0 : 0 < k := by
          rcases Nat.eq_zero_or_pos k with h0 | h0
          · rw [← hkk, h0] at hd; simp at hd
          · exact h0
        obtain ⟨e', rfl⟩ : ∃ e', e = e' + 1 := ⟨e - 1, by omega⟩
        have h3 : ((c :: r).take (e' + 1)).take 3 = ((c :: r).take 3).take (e' + 1) := by rw [List.take_take, List.take_take, Nat.min_comm]
        have hrun : runLen (bBase 8) (((c :: r).take (e' + 1)).take 3) = runLen (bBase 8) ((c :: r).take 3) := by
          rw [h3, runLen_take, Nat.min_eq_left (by omega)]
        have htk : ((c :: r).take (e' + 1)).take (runLen (bBase 8) ((c :: r).take 3)) = (c :: r).take (runLen (bBase 8) ((c :: r).take 3)) := by
          rw [List.take_take, Nat.min_eq_left (by omega)]
        have hc : (c :: r).take (e' + 1) = c :: r.take e' := List.take_succ_cons
        rw [hc] at hrun htk ⊢
        unfold escOf
        simp only
        rw [if_neg hi, if_neg hx, hrun, htk]
        exact h

theorem escOf_blank {l : List UInt8} {b k : Nat} (h : escOf l = some (b, k)) (s : UInt8) (x : List UInt8) (hs : bBlank s.toNat = true) : escOf (l ++ s :: x) = some (b, k) := by
  cases l with
  | nil => cases h
  | cons c r =>
    have hn := (blank_no hs).2
    unfold escOf at h
    simp only at h
    split at h
    · rename_i hi
      unfold escOf
      simp only [List.cons_append]
      rw [if_pos hi]; exact h
    · rename_i hi
      split at h
      · rename_i hx
        unfold escOf
        simp only [List.cons_append]
        rw [if_neg hi, if_pos hx, runLen_blank _ _ _ (hn 16 (by omega)), List.take_append_of_le_length (runLen_le _ _)]
        exact h
      · rename_i hx
        have hrun : runLen (bBase 8) ((c :: r ++ s :: x).take 3) = runLen (bBase 8) ((c :: r).take 3) := by
          rw [runLen_take, runLen_take, runLen_blank _ _ _ (hn 8 (by omega))]
        have htk : (c :: r ++ s :: x).take (runLen (bBase 8) ((c :: r).take 3)) = (c :: r).take (runLen (bBase 8) ((c :: r).take 3)) := by
          refine List.take_append_of_le_length ?_
          rw [runLen_take]
          exact Nat.le_trans (Nat.min_le_left _ _) (runLen_le _ _)
        rw [List.cons_append] at hrun htk ⊢
        unfold escOf
        simp only
        rw [if_neg hi, if_neg hx, hrun, htk]
        exact h

theorem unqF_take : ∀ (n q : Nat) (l t : List UInt8) (m e : Nat), unqF n q l = some (t, m) → m ≤ e → unqF n q (l.take e) = some (t, m)
  | 0, _, _, _, _, _, h, _ => by cases h
  | n + 1, q, [], _, _, _, h, _ => by cases h
  | n + 1, q, c :: r, t, m, e, h, he => by
    have hm : 0 < m := by
      simp only [unqF] at h
      split at h
      · simp only [Option.some.injEq, Prod.mk.injEq] at h; omega
      split at h
      · cases h
      split at h
      · rcases hE : escOf r with _ | ⟨b, k⟩
        · rw [hE] at h; cases h
        · rw [hE] at h
          simp only [Option.map_eq_some_iff, Prod.mk.injEq] at h
          obtain ⟨_, _, _, h2⟩ := h; omega
      · simp only [Option.map_eq_some_iff, Prod.mk.injEq] at h
        obtain ⟨_, _, _, h2⟩ := h; omega
    obtain ⟨e', rfl⟩ : ∃ e', e = e' + 1 := ⟨e - 1, by omega⟩
    simp only [List.take_succ_cons]
    simp only [unqF] at h ⊢
    split at h
    · rename_i hq; rw [if_pos hq]; exact h
    rename_i hq
    rw [if_neg hq]
    split at h
    · cases h
    rename_i hl
    rw [if_neg hl]
    split at h
    · rename_i hb
      rw [if_pos hb]
      rcases hE : escOf r with _ | ⟨b, k⟩
      · rw [hE] at h; cases h
      · rw [hE] at h
        simp only [Option.map_eq_some_iff] at h
        obtain ⟨⟨t', m'⟩, h1, h2⟩ := h
        simp only [Prod.mk.injEq] at h2
        have hE' := escOf_take hE e' (by omega)
        rw [hE']
        have := unqF_take n q (r.drop k) t' m' (e' - k) h1 (by omega)
        simp only [Option.map_eq_some_iff]
        refine ⟨(t', m'), ?_, by simp [h2]⟩
        rw [List.drop_take]; exact this
    · rename_i hb
      rw [if_neg hb]
      simp only [Option.map_eq_some_iff] at h ⊢
      obtain ⟨⟨t', m'⟩, h1, h2⟩ := h
      have h2' := h2
      simp only [Prod.mk.injEq] at h2
      exact ⟨(t', m'), unqF_take n q r t' m' e' h1 (by omega), h2'⟩

theorem unqF_blank (s : UInt8) (x : List UInt8) (hs : bBlank s.toNat = true) : ∀ (n q : Nat) (l t : List UInt8) (m : Nat), unqF n q l = some (t, m) → unqF n q (l ++ s :: x) = some (t, m)
  | 0, _, _, _, _, h => by cases h
  | n + 1, q, [], _, _, h => by cases h
  | n + 1, q, c :: r, t, m, h => by
    simp only [List.cons_append]
    simp only [unqF] at h ⊢
    split at h
    · rename_i hq; rw [if_pos hq]; exact h
    rename_i hq
    rw [if_neg hq]
    split at h
    · cases h
    rename_i hl
    rw [if_neg hl]
    split at h
    · rename_i hb
      rw [if_pos hb]
      rcases hE : escOf r with _ | ⟨b, k⟩
      · rw [hE] at h; cases h
      · rw [hE] at h
        simp only [Option.map_eq_some_iff] at h
        obtain ⟨⟨t', m'⟩, h1, h2⟩ := h
        rw [escOf_blank hE s x hs]
        have hk := (escOf_le hE).2
        have := unqF_blank s x hs n q (r.drop k) t' m' h1
        simp only [Option.map_eq_some_iff]
        refine ⟨(t', m'), ?_, h2⟩
        rw [List.drop_append_of_le_length hk]; exact this
    · rename_i hb
      rw [if_neg hb]
      simp only [Option.map_eq_some_iff] at h ⊢
      obtain ⟨⟨t', m'⟩, h1, h2⟩ := h
      exact ⟨(t', m'), unqF_blank s x hs n q r t' m' h1, h2⟩

theorem unqF_more : ∀ (n k q : Nat) (l : List UInt8) (v : List UInt8 × Nat), unqF n q l = some v → unqF (n + k) q l = some v
  | 0, _, _, _, _, h => by cases h
  | n + 1, k, q, [], _, h => by cases h
  | n + 1, k, q, c :: r, v, h => by
    rw [Nat.succ_add]
    simp only [unqF] at h ⊢
    split at h
    · rename_i hq; rw [if_pos hq]; exact h
    rename_i hq
    rw [if_neg hq]
    split at h
    · cases h
    rename_i hl
    rw [if_neg hl]
    split at h
    · rename_i hb
      rw [if_pos hb]
      rcases hE : escOf r with _ | ⟨b, j⟩
      · rw [hE] at h; cases h
      · rw [hE] at h
        simp only [Option.map_eq_some_iff] at h ⊢
        obtain ⟨a, h1, h2⟩ := h
        exact ⟨a, unqF_more n k q _ a h1, h2⟩
    · rename_i hb
      rw [if_neg hb]
      simp only [Option.map_eq_some_iff] at h ⊢
      obtain ⟨a, h1, h2⟩ := h
      exact ⟨a, unqF_more n k q _ a h1, h2⟩

theorem unq_take {q : Nat} {l t : List UInt8} {m : Nat} (h : unq q l = some (t, m)) (e : Nat) (he : m ≤ e) : unq q (l.take e) = some (t, m) := by
  have := unqF_take _ _ _ _ _ e h he
  unfold unq
  rw [← this]
  refine unqF_enough _ _ _ _ (by omega) ?_
  rw [List.length_take]; omega
theorem unq_blank {q : Nat} {l t : List UInt8} {m : Nat} (h : unq q l = some (t, m)) (s : UInt8) (x : List UInt8) (hs : bBlank s.toNat = true) : unq q (l ++ s :: x) = some (t, m) := by
  have := unqF_blank s x hs _ _ _ _ _ h
  have h2 := unqF_more _ (x.length + 1) _ _ _ this
  unfold unq
  rw [← h2]
  congr 1
  simp only [List.length_append, List.length_cons]; omega

theorem find_same {p p' : List UInt8 → Bool} {y : List UInt8} : ∀ (xs : List (List UInt8)), xs.find? p = some y → (∀ x ∈ xs, p' x = true → p x = true) → p' y = true → xs.find? p' = some y
  | [], h, _, _ => by cases h
  | x :: xs, h, hp, hy => by
    rw [List.find?_cons] at h ⊢
    rcases hx : p x with _ | _
    · rw [hx] at h
      have : p' x = false := by
        rcases h' : p' x with _ | _
        · rfl
        · rw [hp x (by simp) h'] at hx; cases hx
      rw [this]
      exact find_same xs h (fun a ha => hp a (by simp [ha])) hy
    · rw [hx] at h
      cases h
      rw [hy]

theorem signOf_some {l : List UInt8} (h : signOf l ≠ []) : signs.find? (fun x => Lib.hasPrefix l x) = some (signOf l) := by
  unfold signOf at h ⊢
  rcases h' : signs.find? (fun x => Lib.hasPrefix l x) with _ | x
  · rw [h'] at h; exact absurd rfl h
  · rfl

theorem prefix_take {l x : List UInt8} {e : Nat} : x <+: l.take e ↔ x <+: l ∧ x.length ≤ e := by
  constructor
  · intro h
    refine ⟨h.trans (List.take_prefix _ _), ?_⟩
    have := h.length_le
    rw [List.length_take] at this; omega
  · rintro ⟨h1, h2⟩
    rw [List.prefix_take_iff]
    exact ⟨h1, h2⟩

theorem signOf_take {l : List UInt8} (h : signOf l ≠ []) (e : Nat) (he : (signOf l).length ≤ e) : signOf (l.take e) = signOf l := by
  have h1 := signOf_some h
  have h2 := List.find?_some h1
  have h3 : signOf l <+: l := by simpa [Lib.hasPrefix] using h2
  have : signs.find? (fun x => Lib.hasPrefix (l.take e) x) = some (signOf l) := by
    refine find_same _ h1 (fun x _ hx => ?_) ?_
    · simp only [Lib.hasPrefix, List.isPrefixOf_iff_prefix] at hx ⊢
      exact (prefix_take.1 hx).1
    · simp only [Lib.hasPrefix, List.isPrefixOf_iff_prefix]
      exact prefix_take.2 ⟨h3, he⟩
  show (signs.find? (fun x => Lib.hasPrefix (l.take e) x)).getD [] = _
  rw [this]; rfl

theorem signs_noBlank : ∀ x ∈ signs, ∀ c ∈ x, bBlank c.toNat = false := by decide +kernel

theorem prefix_blank {l x y : List UInt8} {s : UInt8} (hx : s ∉ x) (h : x <+: l ++ s :: y) : x <+: l := by
  rcases Nat.lt_or_ge l.length x.length with hl | hl
  · exfalso
    obtain ⟨z, hz⟩ := h
    have h1 : (x ++ z)[l.length]? = some s := by rw [hz]; simp
    rw [List.getElem?_append_left hl] at h1
    exact hx (List.mem_of_getElem? h1)
  · exact List.prefix_of_prefix_length_le h (List.prefix_append _ _) hl

theorem signOf_blank {l : List UInt8} (h : signOf l ≠ []) (s : UInt8) (y : List UInt8) (hs : bBlank s.toNat = true) : signOf (l ++ s :: y) = signOf l := by
  have h1 := signOf_some h
  have h2 := List.find?_some h1
  have h3 : signOf l <+: l := by simpa [Lib.hasPrefix] using h2
  have : signs.find? (fun x => Lib.hasPrefix (l ++ s :: y) x) = some (signOf l) := by
    refine find_same _ h1 (fun x hm hx => ?_) ?_
    · simp only [Lib.hasPrefix, List.isPrefixOf_iff_prefix] at hx ⊢
      exact prefix_blank (fun hc => by have := signs_noBlank x hm s hc; rw [hs] at this; cases this) hx
    · simp only [Lib.hasPrefix, List.isPrefixOf_iff_prefix]
      exact h3.trans (List.prefix_append _ _)
  show (signs.find? (fun x => Lib.hasPrefix (l ++ s :: y) x)).getD [] = _
  rw [this]; rfl
end Go.Proofs.YtjbmpdcgmphhoaaGreatDoor
