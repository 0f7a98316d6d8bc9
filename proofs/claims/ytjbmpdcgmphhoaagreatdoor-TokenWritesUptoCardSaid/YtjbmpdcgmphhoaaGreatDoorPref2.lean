/-
  A token is the same where the text behind it is cut off, or a blank stands behind it; so is a gap.
-/
import Derived.Test.YtjbmpdcgmphhoaaGreatDoorPref
namespace Go.Proofs.YtjbmpdcgmphhoaaGreatDoor
set_option linter.unusedVariables false

theorem runLen_pos {p : Nat → Bool} {c : UInt8} {r : List UInt8} (h : p c.toNat = true) : 0 < runLen p (c :: r) := by
  rw [runLen, if_pos h]; omega

theorem letter_name {n : Nat} (h : bLetter n = true) : bName n = true := by simp [bName, h]
theorem digit_name {n : Nat} (h : bDigit n < 10) : bName n = true := by simp [bName, h]

theorem readT_take {l : List UInt8} {tk : Tk} {m : Nat} (h : readT l = (tk, m, 0)) (hm : 0 < m) (e : Nat) (he : m ≤ e) : readT (l.take e) = (tk, m, 0) := by
  cases l with
  | nil => simp only [readT, Prod.mk.injEq] at h; omega
  | cons c r =>
    obtain ⟨e', rfl⟩ : ∃ e', e = e' + 1 := ⟨e - 1, by omega⟩
    have hT : (c :: r).take (e' + 1) = c :: r.take e' := List.take_succ_cons
    have hN : runLen bName (c :: r) ≤ e' + 1 → runLen bName (c :: r.take e') = runLen bName (c :: r) ∧ nameOf (c :: r.take e') = nameOf (c :: r) := by
      intro h1
      have h2 : runLen bName (c :: r.take e') = runLen bName (c :: r) := by rw [← hT, runLen_take, Nat.min_eq_left h1]
      refine ⟨h2, ?_⟩
      unfold nameOf
      rw [h2, ← hT, List.take_take, Nat.min_eq_left h1]
    rw [hT]
    simp only [readT] at h ⊢
    split at h
    · rename_i hl
      rw [if_pos hl]
      split at h
      · simp only [Prod.mk.injEq] at h; omega
      · rename_i h63
        have h1 : runLen bName (c :: r) = m := by simp only [Prod.mk.injEq] at h; exact h.2.1
        obtain ⟨h2, h3⟩ := hN (by omega)
        rw [h2, h3, if_neg h63]; exact h
    rename_i hl
    rw [if_neg hl]
    split at h
    · rename_i hd
      rw [if_pos hd]
      split at h
      · rename_i hok
        have h1 : runLen bName (c :: r) = m := by simp only [Prod.mk.injEq] at h; exact h.2.1
        obtain ⟨h2, h3⟩ := hN (by omega)
        rw [h2, h3, if_pos hok]; exact h
      · simp only [Prod.mk.injEq] at h; omega
    rename_i hd
    rw [if_neg hd]
    split at h
    · rename_i hq
      rw [if_pos hq]
      rcases hu : unq c.toNat r with _ | ⟨t, k⟩
      · rw [hu] at h; simp only [Prod.mk.injEq] at h; omega
      · rw [hu] at h
        simp only at h
        have hk : 1 + k = m := by
          split at h
          · simp only [Prod.mk.injEq] at h; exact h.2.1
          · split at h
            · simp only [Prod.mk.injEq] at h; exact h.2.1
            · simp only [Prod.mk.injEq] at h; omega
        rw [unq_take hu e' (by omega)]
        exact h
    rename_i hq
    rw [if_neg hq]
    split at h
    · simp only [Prod.mk.injEq] at h; omega
    · rename_i hs
      have hne : signOf (c :: r) ≠ [] := fun e => hs (by simp [e])
      have h1 : (signOf (c :: r)).length = m := by simp only [Prod.mk.injEq] at h; exact h.2.1
      have h2 := signOf_take hne (e' + 1) (by omega)
      rw [hT] at h2
      rw [h2, if_neg hs]; exact h

theorem readT_blank {l : List UInt8} {tk : Tk} {m : Nat} (h : readT l = (tk, m, 0)) (hm : 0 < m) (s : UInt8) (x : List UInt8) (hs : bBlank s.toNat = true) : readT (l ++ s :: x) = (tk, m, 0) := by
  cases l with
  | nil => simp only [readT, Prod.mk.injEq] at h; omega
  | cons c r =>
    have hN : runLen bName (c :: (r ++ s :: x)) = runLen bName (c :: r) ∧ nameOf (c :: (r ++ s :: x)) = nameOf (c :: r) := by
      have h2 : runLen bName (c :: (r ++ s :: x)) = runLen bName (c :: r) := by rw [← List.cons_append, runLen_blank _ _ _ (blank_no hs).1]
      refine ⟨h2, ?_⟩
      unfold nameOf
      rw [h2, ← List.cons_append, List.take_append_of_le_length (runLen_le _ _)]
    obtain ⟨h2, h3⟩ := hN
    rw [List.cons_append]
    simp only [readT] at h ⊢
    rw [h2, h3]
    split at h
    · rename_i hl
      rw [if_pos hl]; exact h
    rename_i hl
    rw [if_neg hl]
    split at h
    · rename_i hd
      rw [if_pos hd]; exact h
    rename_i hd
    rw [if_neg hd]
    split at h
    · rename_i hq
      rw [if_pos hq]
      rcases hu : unq c.toNat r with _ | ⟨t, k⟩
      · rw [hu] at h; simp only [Prod.mk.injEq] at h; omega
      · rw [hu] at h
        rw [unq_blank hu s x hs]
        exact h
    rename_i hq
    rw [if_neg hq]
    split at h
    · simp only [Prod.mk.injEq] at h; omega
    · rename_i hs'
      have hne : signOf (c :: r) ≠ [] := fun e => hs' (by simp [e])
      have h2 := signOf_blank hne s x hs
      rw [List.cons_append] at h2
      rw [h2, if_neg hs']; exact h

theorem hasPrefix_take {l x : List UInt8} {e : Nat} (he : x.length ≤ e) : Lib.hasPrefix (l.take e) x = Lib.hasPrefix l x := by
  rw [Bool.eq_iff_iff]
  simp only [Lib.hasPrefix, List.isPrefixOf_iff_prefix]
  exact ⟨fun h => (prefix_take.1 h).1, fun h => prefix_take.2 ⟨h, he⟩⟩

theorem index_nil {sub : List UInt8} (h : sub ≠ []) : Lib.index [] sub = -1 := by
  unfold Lib.index; cases sub with
  | nil => exact absurd rfl h
  | cons a b => simp

theorem index_take : ∀ (l sub : List UInt8) (e : Nat), 0 ≤ Lib.index l sub → (Lib.index l sub).toNat + sub.length ≤ e → Lib.index (l.take e) sub = Lib.index l sub
  | [], sub, e, _, _ => by rw [List.take_nil]
  | c :: r, sub, 0, h, he => by
    have : sub = [] := by rcases sub with _ | ⟨a, b⟩; rfl; simp only [List.length_cons] at he; omega
    subst this
    simp [Lib.index]
  | c :: r, sub, e + 1, h, he => by
    have hge := Lib.index_ge r sub
    have hp : sub.isPrefixOf (c :: r.take e) = sub.isPrefixOf (c :: r) ∨ e + 1 < sub.length := by
      rcases Nat.lt_or_ge (e + 1) sub.length with h1 | h1
      · exact .inr h1
      · have := hasPrefix_take (l := c :: r) (x := sub) h1
        rw [List.take_succ_cons] at this
        exact .inl this
    rw [List.take_succ_cons]
    rcases hp with hp | hp
    · unfold Lib.index at h he ⊢
      rw [hp]
      split
      · rfl
      · rename_i h0
        rw [if_neg h0] at h he
        split at h
        · simp at h
        · rename_i h1
          rw [if_neg h1] at he
          have h2 : Lib.index r sub ≠ -1 := by simpa using h1
          rw [index_take r sub e (by omega) (by omega)]
    · exfalso; omega

theorem gapF_take : ∀ (n : Nat) (l : List UInt8) (e : Nat), l.length < n → (gapF n l).1 ≤ e → ((gapF n l).2 = true ∨ e = (gapF n l).1) → gapF n (l.take e) = ((gapF n l).1, true)
  | 0, _, _, h, _, _ => by omega
  | n + 1, [], e, _, _, _ => by rw [List.take_nil]; rfl
  | n + 1, c :: r, 0, _, he, hb => by simp [gapF] at he ⊢; omega
  | n + 1, c :: r, e + 1, hn, he, hb => by
    simp only [List.length_cons] at hn
    rw [List.take_succ_cons]
    simp only [gapF] at he hb ⊢
    split
    · rename_i h1
      rw [if_pos h1] at he hb
      rw [gapF_take n r e (by omega) (by simp only at he; omega) (by rcases hb with hb | hb; exact .inl hb; right; simp only at hb; omega)]
    rename_i h1
    rw [if_neg h1] at he hb
    by_cases h2 : Lib.hasPrefix (c :: r) [47, 47] = true
    · rw [if_pos h2] at he hb ⊢
      simp only at he hb
      have hpos := line_pos h2
      have h2' : Lib.hasPrefix (c :: r.take e) [47, 47] = true := by
        have hrr : 2 ≤ runLen bNoLine (c :: r) := by
          simp [Lib.hasPrefix, List.isPrefixOf] at h2
          obtain ⟨h3, h4⟩ := h2
          cases r with
          | nil => simp at h4
          | cons d r' =>
            simp at h4
            rw [runLen, if_pos (by rw [← h3]; decide), runLen, if_pos (by rw [← h4]; decide)]; omega
        rw [← List.take_succ_cons (a := c), hasPrefix_take (by simp; omega)]; exact h2
      have hrun : runLen bNoLine (c :: r.take e) = runLen bNoLine (c :: r) := by rw [← List.take_succ_cons (a := c), runLen_take, Nat.min_eq_left (by omega)]
      have hdr : (c :: r.take e).drop (runLen bNoLine (c :: r)) = ((c :: r).drop (runLen bNoLine (c :: r))).take (e + 1 - runLen bNoLine (c :: r)) := by rw [← List.take_succ_cons (a := c), List.drop_take]
      rw [if_pos h2', hrun, hdr, gapF_take n _ _ (by rw [List.length_drop, List.length_cons]; omega) (by omega) (by rcases hb with hb | hb; exact .inl hb; right; omega)]
    rw [if_neg h2] at he hb ⊢
    have h2' : Lib.hasPrefix (c :: r.take e) [47, 47] ≠ true := by
      intro h
      apply h2
      rw [← List.take_succ_cons (a := c)] at h
      simp only [Lib.hasPrefix, List.isPrefixOf_iff_prefix] at h ⊢
      exact (prefix_take.1 h).1
    rw [if_neg h2']
    by_cases h3 : Lib.hasPrefix (c :: r) [47, 42] = true
    · rw [if_pos h3] at he hb ⊢
      split at hb
      · rename_i hI
        rw [if_pos hI] at he
        simp only at hb
        rcases hb with hb | hb
        · cases hb
        · omega
      · rename_i hI
        rw [if_neg hI] at he ⊢
        simp only at he hb
        have h3' : Lib.hasPrefix (c :: r.take e) [47, 42] = true := by
          rw [← List.take_succ_cons (a := c), hasPrefix_take (by simp; omega)]; exact h3
        have hi : Lib.index ((c :: r.take e).drop 2) [42, 47] = Lib.index ((c :: r).drop 2) [42, 47] := by
          rw [← List.take_succ_cons (a := c), List.drop_take, index_take _ _ _ (by omega) (by simp only [List.length_cons, List.length_nil]; omega)]
        have hdr : (c :: r.take e).drop ((Lib.index ((c :: r).drop 2) [42, 47]).toNat + 4) = ((c :: r).drop ((Lib.index ((c :: r).drop 2) [42, 47]).toNat + 4)).take (e + 1 - ((Lib.index ((c :: r).drop 2) [42, 47]).toNat + 4)) := by rw [← List.take_succ_cons (a := c), List.drop_take]
        rw [if_pos h3', hi, if_neg hI, hdr, gapF_take n _ _ (by rw [List.length_drop, List.length_cons]; omega) (by omega) (by rcases hb with hb | hb; exact .inl hb; right; omega)]
    · rw [if_neg h3] at he hb ⊢
      have h3' : Lib.hasPrefix (c :: r.take e) [47, 42] ≠ true := by
        intro h
        apply h3
        rw [← List.take_succ_cons (a := c)] at h
        simp only [Lib.hasPrefix, List.isPrefixOf_iff_prefix] at h ⊢
        exact (prefix_take.1 h).1
      rw [if_neg h3']

theorem gap_take {l : List UInt8} {e : Nat} (he : (gap l).1 ≤ e) (hb : (gap l).2 = true ∨ e = (gap l).1) : gap (l.take e) = ((gap l).1, true) := by
  unfold gap
  rw [← gapF_take (l.length + 1) l e (by omega) he hb]
  exact gapF_enough _ _ _ (by omega) (by rw [List.length_take]; omega)
end Go.Proofs.YtjbmpdcgmphhoaaGreatDoor
