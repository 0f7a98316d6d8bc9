/-
  The tokens of a text without their spots, read on the rest of the text alone; what two texts have, one behind the other on a line of its own.
-/
import Derived.Test.YtjbmpdcgmphhoaaGreatDoorPref2
namespace Go.Proofs.YtjbmpdcgmphhoaaGreatDoor
set_option linter.unusedVariables false

def toksF : Nat → List UInt8 → Option (List Tk)
  | 0, _ => none
  | n + 1, l =>
    if (gap l).2 = false then none
    else if (readT (l.drop (gap l).1)).2.2 ≠ 0 then none
    else if (readT (l.drop (gap l).1)).2.1 = 0 then some [(readT (l.drop (gap l).1)).1]
    else (toksF n ((l.drop (gap l).1).drop (readT (l.drop (gap l).1)).2.1)).map ((readT (l.drop (gap l).1)).1 :: ·)
def toks (l : List UInt8) : Option (List Tk) := toksF (l.length + 1) l

theorem toksF_enough : ∀ (n m : Nat) (l : List UInt8), l.length < n → l.length < m → toksF n l = toksF m l
  | 0, _, _, h, _ => by omega
  | _, 0, _, _, h => by omega
  | n + 1, m + 1, l, h1, h2 => by
    simp only [toksF]
    split
    · rfl
    split
    · rfl
    split
    · rfl
    · rename_i hz
      have := readT_le (l.drop (gap l).1)
      rw [List.length_drop] at this
      rw [toksF_enough n m _ (by simp only [List.length_drop]; omega) (by simp only [List.length_drop]; omega)]

theorem toks_eq (l : List UInt8) : toks l = if (gap l).2 = false then none
    else if (readT (l.drop (gap l).1)).2.2 ≠ 0 then none
    else if (readT (l.drop (gap l).1)).2.1 = 0 then some [(readT (l.drop (gap l).1)).1]
    else (toks ((l.drop (gap l).1).drop (readT (l.drop (gap l).1)).2.1)).map ((readT (l.drop (gap l).1)).1 :: ·) := by
  show toksF (l.length + 1) l = _
  simp only [toksF]
  split
  · rfl
  split
  · rfl
  split
  · rfl
  · rename_i hz
    have := readT_le (l.drop (gap l).1)
    rw [List.length_drop] at this
    unfold toks
    rw [toksF_enough l.length (((l.drop (gap l).1).drop (readT (l.drop (gap l).1)).2.1).length + 1) _ (by simp only [List.length_drop]; omega) (by simp only [List.length_drop]; omega)]

theorem toks_ne (l : List UInt8) (ts : List Tk) (h : toks l = some ts) : ts ≠ [] := by
  rw [toks_eq] at h
  split at h
  · cases h
  split at h
  · cases h
  split at h
  · cases h; simp
  · simp only [Option.map_eq_some_iff] at h
    obtain ⟨a, _, h⟩ := h
    rw [← h]; simp

theorem scanF_toks (L : List UInt8) : ∀ (n done : Nat) (line col : Int) (prev off : Nat) (r : List Tok), L.length < off + n → scanF L n done line col prev off = .ok r → toks (L.drop off) = some (r.map (·.tk)) ∧ (done ≤ 16384 → done + r.length ≤ 16385)
  | 0, done, line, col, prev, off, r, hn, h => by simp [scanF] at h
  | n + 1, done, line, col, prev, off, r, hn, h => by
    have hg := gap_le (L.drop off)
    rw [List.length_drop] at hg
    have hd : (L.drop off).drop (gap (L.drop off)).1 = L.drop (off + (gap (L.drop off)).1) := by rw [List.drop_drop]
    rw [toks_eq, hd]
    simp only [scanF] at h
    split at h
    · cases h
    rename_i h1
    rw [if_neg h1]
    split at h
    · cases h
    rename_i h2
    rw [if_neg h2]
    split at h
    · cases h
    rename_i h3
    split at h
    · rename_i h4
      cases h
      rw [if_pos h4]
      exact ⟨rfl, fun h => by simpa using h⟩
    · rename_i h4
      rw [if_neg h4, List.drop_drop]
      rcases hX : scanF L n (done + 1) (onLine line (partL L prev (off + (gap (L.drop off)).1))) (onCol col (partL L prev (off + (gap (L.drop off)).1))) (off + (gap (L.drop off)).1) (off + (gap (L.drop off)).1 + (readT (L.drop (off + (gap (L.drop off)).1))).2.1) with f' | r'
      · rw [hX] at h; cases h
      · rw [hX] at h
        cases h
        obtain ⟨h5, h6⟩ := scanF_toks L n (done + 1) _ _ _ _ _ (by omega) hX
        rw [h5]
        refine ⟨rfl, fun hd => ?_⟩
        have := h6 (by omega)
        simp only [List.length_cons]; omega

theorem toks_scanF (L : List UInt8) : ∀ (n done : Nat) (line col : Int) (prev off : Nat) (ts : List Tk), L.length < off + n → off ≤ L.length → toks (L.drop off) = some ts → done + ts.length ≤ 16385 → ∃ r, scanF L n done line col prev off = .ok r ∧ r.map (·.tk) = ts
  | 0, done, line, col, prev, off, ts, hn, ho, h, hk => by omega
  | n + 1, done, line, col, prev, off, ts, hn, ho, h, hk => by
    have hg := gap_le (L.drop off)
    rw [List.length_drop] at hg
    have hd : (L.drop off).drop (gap (L.drop off)).1 = L.drop (off + (gap (L.drop off)).1) := by rw [List.drop_drop]
    rw [toks_eq, hd] at h
    simp only [scanF]
    split at h
    · cases h
    rename_i h1
    rw [if_neg h1]
    split at h
    · cases h
    rename_i h2
    rw [if_neg h2]
    split at h
    · rename_i h4
      cases h
      rw [if_neg (by omega), if_pos h4]
      exact ⟨_, rfl, rfl⟩
    · rename_i h4
      have hrl := readT_le (L.drop (off + (gap (L.drop off)).1))
      rw [List.length_drop] at hrl
      rw [List.drop_drop] at h
      simp only [Option.map_eq_some_iff] at h
      obtain ⟨ts', h5, h6⟩ := h
      have hne := toks_ne _ _ h5
      have hlen : ts.length = ts'.length + 1 := by rw [← h6]; rfl
      have hpos : 0 < ts'.length := by rcases ts' with _ | ⟨a, b⟩; exact absurd rfl hne; simp
      rw [if_neg (by omega), if_neg h4]
      obtain ⟨r, h7, h8⟩ := toks_scanF L n (done + 1) (onLine line (partL L prev (off + (gap (L.drop off)).1))) (onCol col (partL L prev (off + (gap (L.drop off)).1))) (off + (gap (L.drop off)).1) (off + (gap (L.drop off)).1 + (readT (L.drop (off + (gap (L.drop off)).1))).2.1) ts' (by omega) (by omega) h5 (by omega)
      rw [h7]
      refine ⟨_, rfl, ?_⟩
      rw [← h6, ← h8]; rfl

theorem scan_toks {L : List UInt8} {r : List Tok} (h : scan L = .ok r) : toks L = some (r.map (·.tk)) ∧ r.length ≤ 16385 ∧ L.length ≤ 65536 := by
  unfold scan at h
  split at h
  · cases h
  · obtain ⟨h1, h2⟩ := scanF_toks L _ _ _ _ _ _ _ (by omega) h
    have := h2 (by omega)
    exact ⟨h1, by omega, by omega⟩
theorem toks_scan {L : List UInt8} {ts : List Tk} (hL : L.length ≤ 65536) (h : toks L = some ts) (hk : ts.length ≤ 16385) : ∃ r, scan L = .ok r ∧ r.map (·.tk) = ts := by
  unfold scan
  rw [if_neg (by omega)]
  exact toks_scanF L _ _ _ _ _ _ ts (by omega) (by omega) h (by omega)

theorem readT_zero {l : List UInt8} (h1 : (readT l).2.2 = 0) (h2 : (readT l).2.1 = 0) : l = [] := by
  cases l with
  | nil => rfl
  | cons c r =>
    exfalso
    simp only [readT] at h1 h2
    split at h1
    · rename_i hl
      rw [if_pos hl] at h2
      split at h1
      · simp at h1
      · rename_i h63
        rw [if_neg h63] at h2
        have := runLen_pos (r := r) (letter_name hl)
        simp only at h2; omega
    rename_i hl
    rw [if_neg hl] at h2
    split at h1
    · rename_i hd
      rw [if_pos hd] at h2
      split at h1
      · rename_i hok
        rw [if_pos hok] at h2
        have := runLen_pos (r := r) (digit_name hd)
        simp only at h2; omega
      · simp at h1
    rename_i hd
    rw [if_neg hd] at h2
    split at h1
    · rename_i hq
      rw [if_pos hq] at h2
      rcases hu : unq c.toNat r with _ | ⟨t, m⟩
      · rw [hu] at h1; simp at h1
      · rw [hu] at h1 h2
        simp only at h1 h2
        split at h1
        · rename_i h34
          rw [if_pos h34] at h2
          simp only at h2; omega
        · rename_i h34
          rw [if_neg h34] at h2
          split at h1
          · simp only at h2; omega
          · simp at h1
    rename_i hq
    rw [if_neg hq] at h2
    split at h1
    · simp at h1
    · rename_i hs
      rw [if_neg hs] at h2
      apply hs
      simp only [List.length_eq_zero_iff] at h2
      rw [h2]; rfl
theorem readT_nil_iff (l : List UInt8) (h1 : (readT l).2.2 = 0) : (readT l).2.1 = 0 ↔ l = [] := ⟨readT_zero h1, fun h => by rw [h]; rfl⟩

theorem index_app : ∀ (l sub y : List UInt8), 0 ≤ Lib.index l sub → Lib.index (l ++ y) sub = Lib.index l sub
  | [], sub, y, h => by
    have : sub = [] := by
      rcases sub with _ | ⟨a, b⟩
      · rfl
      · rw [index_nil (by simp)] at h; omega
    subst this
    cases y <;> simp [Lib.index]
  | c :: r, sub, y, h => by
    have hge := Lib.index_ge r sub
    rw [List.cons_append]
    unfold Lib.index at h ⊢
    by_cases hp : sub.isPrefixOf (c :: r) = true
    · have hp' : sub.isPrefixOf (c :: (r ++ y)) = true := by
        rw [← List.cons_append, List.isPrefixOf_iff_prefix]
        exact (List.isPrefixOf_iff_prefix.1 hp).trans (List.prefix_append _ _)
      rw [if_pos hp, if_pos hp']
    · rw [if_neg hp] at h
      have h2 : Lib.index r sub ≠ -1 := by
        intro e; rw [e] at h; simp at h
      have hroom := index_room r sub (by omega)
      have hp' : ¬ sub.isPrefixOf (c :: (r ++ y)) = true := by
        intro hp'
        apply hp
        rw [List.isPrefixOf_iff_prefix] at hp' ⊢
        rw [← List.cons_append] at hp'
        exact List.prefix_of_prefix_length_le hp' (List.prefix_append _ _) (by simp only [List.length_cons]; omega)
      rw [if_neg hp, if_neg hp', index_app r sub y (by omega)]

theorem gap_nil : gap [] = (0, true) := rfl

theorem gap_nl (x : List UInt8) : ∀ (n : Nat) (l : List UInt8), l.length < n → (gap l).2 = true →
    gap (l ++ 10 :: x) = if (gap l).1 < l.length then gap l else (l.length + 1 + (gap x).1, (gap x).2)
  | 0, _, h, _ => by omega
  | n + 1, [], _, _ => by
    rw [gap_nil, List.nil_append, gap_cons, if_pos (by decide)]
    simp
  | n + 1, c :: r, hn, hb => by
    simp only [List.length_cons] at hn
    rw [gap_cons] at hb
    rw [List.cons_append, gap_cons c r, gap_cons c (r ++ 10 :: x)]
    by_cases h1 : bBlank c.toNat = true
    · rw [if_pos h1] at hb ⊢
      rw [if_pos h1]
      rw [gap_nl x n r (by omega) hb]
      simp only [List.length_cons]
      split
      · rw [if_pos (by omega)]
      · rw [if_neg (by omega)]; simp only [Prod.mk.injEq, and_true]; omega
    rw [if_neg h1] at hb ⊢
    rw [if_neg h1]
    by_cases h2 : Lib.hasPrefix (c :: r) [47, 47] = true
    · have h2' : Lib.hasPrefix (c :: (r ++ 10 :: x)) [47, 47] = true := by
        rw [← List.cons_append]
        simp only [Lib.hasPrefix, List.isPrefixOf_iff_prefix] at h2 ⊢
        exact h2.trans (List.prefix_append _ _)
      rw [if_pos h2] at hb ⊢
      rw [if_pos h2']
      have hpos := line_pos h2
      have hle := runLen_le bNoLine (c :: r)
      have hrun : runLen bNoLine (c :: (r ++ 10 :: x)) = runLen bNoLine (c :: r) := by rw [← List.cons_append, runLen_blank _ _ _ (by decide)]
      rw [hrun]
      generalize hk : runLen bNoLine (c :: r) = k at *
      have hdr : (c :: (r ++ 10 :: x)).drop k = (c :: r).drop k ++ 10 :: x := by rw [← List.cons_append, List.drop_append_of_le_length hle]
      rw [hdr, gap_nl x n _ (by rw [List.length_drop, List.length_cons]; omega) hb]
      rw [List.length_drop]
      simp only [List.length_cons] at hle ⊢
      have hgl := gap_le ((c :: r).drop k)
      rw [List.length_drop, List.length_cons] at hgl
      split
      · rw [if_pos (by omega)]
      · rw [if_neg (by omega)]; simp only [Prod.mk.injEq, and_true]; omega
    rw [if_neg h2] at hb ⊢
    have h2' : ¬ Lib.hasPrefix (c :: (r ++ 10 :: x)) [47, 47] = true := by
      intro h
      apply h2
      rw [← List.cons_append] at h
      simp only [Lib.hasPrefix, List.isPrefixOf_iff_prefix] at h ⊢
      exact prefix_blank (by decide) h
    rw [if_neg h2']
    by_cases h3 : Lib.hasPrefix (c :: r) [47, 42] = true
    · have h3' : Lib.hasPrefix (c :: (r ++ 10 :: x)) [47, 42] = true := by
        rw [← List.cons_append]
        simp only [Lib.hasPrefix, List.isPrefixOf_iff_prefix] at h3 ⊢
        exact h3.trans (List.prefix_append _ _)
      have h2l : 2 ≤ (c :: r).length := by
        have h4 : [47, 42] <+: c :: r := by simpa [Lib.hasPrefix] using h3
        simpa using h4.length_le
      rw [if_pos h3] at hb ⊢
      rw [if_pos h3']
      split at hb
      · cases hb
      · rename_i hI
        have hroom := index_room ((c :: r).drop 2) [42, 47] (by omega)
        have hi : Lib.index ((c :: (r ++ 10 :: x)).drop 2) [42, 47] = Lib.index ((c :: r).drop 2) [42, 47] := by
          rw [← List.cons_append, List.drop_append_of_le_length h2l, index_app _ _ _ (by omega)]
        rw [if_neg hI, hi, if_neg hI]
        generalize hk : (Lib.index ((c :: r).drop 2) [42, 47]).toNat + 4 = k at *
        have hle : k ≤ (c :: r).length := by
          rw [List.length_drop] at hroom
          simp only [List.length_cons, List.length_nil] at hroom h2l ⊢; omega
        have hdr : (c :: (r ++ 10 :: x)).drop k = (c :: r).drop k ++ 10 :: x := by rw [← List.cons_append, List.drop_append_of_le_length hle]
        rw [hdr, gap_nl x n _ (by rw [List.length_drop, List.length_cons]; omega) hb]
        rw [List.length_drop]
        simp only [List.length_cons] at hle ⊢
        have hgl := gap_le ((c :: r).drop k)
        rw [List.length_drop, List.length_cons] at hgl
        split
        · rw [if_pos (by omega)]
        · rw [if_neg (by omega)]; simp only [Prod.mk.injEq, and_true]; omega
    · have h3' : ¬ Lib.hasPrefix (c :: (r ++ 10 :: x)) [47, 42] = true := by
        intro h
        apply h3
        rw [← List.cons_append] at h
        simp only [Lib.hasPrefix, List.isPrefixOf_iff_prefix] at h ⊢
        exact prefix_blank (by decide) h
      rw [if_neg h3] at hb ⊢
      rw [if_neg h3', if_pos (by simp)]

theorem toks_apart (t : List UInt8) (b : List Tk) (ht : toks t = some b) : ∀ (n : Nat) (s : List UInt8) (a : List Tk), s.length < n → toks s = some a → toks (s ++ 10 :: t) = some (a.dropLast ++ b)
  | 0, _, _, h, _ => by omega
  | n + 1, s, a, hn, hs => by
    rw [toks_eq] at hs
    split at hs
    · cases hs
    rename_i h1
    have hb : (gap s).2 = true := by simpa using h1
    have hgl := gap_le s
    split at hs
    · cases hs
    rename_i h2
    have hc : (readT (s.drop (gap s).1)).2.2 = 0 := by simpa using h2
    split at hs
    · rename_i h3
      have he := readT_zero hc h3
      have hge : s.length ≤ (gap s).1 := by
        have := congrArg List.length he
        rw [List.length_drop] at this; simp at this; omega
      cases hs
      have hG := gap_nl t (s.length + 1) s (by omega) hb
      rw [if_neg (by omega)] at hG
      rw [toks_eq] at ht ⊢
      rw [hG]
      have hd : (s ++ 10 :: t).drop (s.length + 1 + (gap t).1) = t.drop (gap t).1 := by
        rw [← List.drop_drop]
        congr 1
        simp
      simp only [hd]
      simpa using ht
    · rename_i h3
      have hlt : (gap s).1 < s.length := by
        rcases Nat.lt_or_ge (gap s).1 s.length with h | h
        · exact h
        · exfalso; apply h3; rw [List.drop_eq_nil_of_le h]; rfl
      have hG := gap_nl t (s.length + 1) s (by omega) hb
      rw [if_pos hlt] at hG
      simp only [Option.map_eq_some_iff] at hs
      obtain ⟨a', h4, h5⟩ := hs
      have hd : (s ++ 10 :: t).drop (gap s).1 = s.drop (gap s).1 ++ 10 :: t := List.drop_append_of_le_length hgl
      have hR : readT (s.drop (gap s).1) = ((readT (s.drop (gap s).1)).1, (readT (s.drop (gap s).1)).2.1, 0) := by rw [← hc]
      have hrl := readT_le (s.drop (gap s).1)
      have hR' := readT_blank hR (by omega) 10 t (by decide)
      rw [toks_eq, hG, hd, hR']
      simp only
      rw [if_neg h1, if_neg (by simp), if_neg h3, List.drop_append_of_le_length hrl]
      rw [toks_apart t b ht n _ a' (by simp only [List.length_drop] at hrl ⊢; omega) h4]
      have hne := toks_ne _ _ h4
      rw [← h5]
      simp [List.dropLast_cons_of_ne_nil hne]
end Go.Proofs.YtjbmpdcgmphhoaaGreatDoor
