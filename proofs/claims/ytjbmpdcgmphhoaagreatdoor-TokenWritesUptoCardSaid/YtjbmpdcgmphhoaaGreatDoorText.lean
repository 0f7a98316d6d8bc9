/-
  The tokens of joined texts, and of texts with gaps between them.
-/
import Derived.Test.YtjbmpdcgmphhoaaGreatDoorWrit
import Derived.Lib.Join
namespace Go.Proofs.YtjbmpdcgmphhoaaGreatDoor
set_option linter.unusedVariables false

def tkCan (t : Tk) : Bool := canBeP t.kind t.num t.text
def tkText (t : Tk) : List UInt8 := writeP t.kind t.num t.text
/-- All can be, and an end stands last alone. -/
def joinable : List Tk → Bool
  | [] => true
  | [t] => tkCan t
  | t :: r => tkCan t && decide (t.kind ≠ 0) && joinable r
def joinText (l : List Tk) : List UInt8 := [32].intercalate (l.map tkText)
def ended (l : List Tk) : List Tk := match l.getLast? with
  | some t => if t.kind = 0 then l else l ++ [Tk.no]
  | none => [Tk.no]

theorem tk_end {t : Tk} (h : tkCan t = true) (hk : t.kind = 0) : t = Tk.no ∧ tkText t = [] := by
  obtain ⟨k, x, n⟩ := t
  simp only at hk
  subst hk
  obtain ⟨h1, h2, h3⟩ := write_end n x h
  subst h1 h2
  exact ⟨rfl, h3⟩
theorem tk_read {t : Tk} (h : tkCan t = true) (hk : t.kind ≠ 0) : gap (tkText t) = (0, true) ∧ readT (tkText t) = (t, (tkText t).length, 0) ∧ tkText t ≠ [] := write_back t.kind t.num t.text h hk

theorem ended_cons (t : Tk) (r : List Tk) (h : r ≠ []) : ended (t :: r) = t :: ended r := by
  unfold ended
  rw [List.getLast?_cons]
  rcases hr : r.getLast? with _ | u
  · rw [List.getLast?_eq_none_iff] at hr; exact absurd hr h
  · simp only [Option.getD_some]
    split <;> rfl

theorem toks_join : ∀ l : List Tk, joinable l = true → toks (joinText l) = some (ended l)
  | [], _ => rfl
  | [t], h => by
    have hj : joinText [t] = tkText t := by simp [joinText, List.intercalate]
    rw [hj]
    by_cases hk : t.kind = 0
    · obtain ⟨h1, h2⟩ := tk_end h hk
      rw [h2, h1]; rfl
    · obtain ⟨h1, h2, h3⟩ := tk_read h hk
      rw [toks_one h1 h2 h3]
      simp [ended, hk]
  | t :: u :: r, h => by
    simp only [joinable, Bool.and_eq_true, decide_eq_true_eq] at h
    obtain ⟨⟨h0, hk⟩, hr⟩ := h
    obtain ⟨h1, h2, h3⟩ := tk_read h0 hk
    have hj : joinText (t :: u :: r) = tkText t ++ 32 :: joinText (u :: r) := by simp [joinText, List.intercalate]
    rw [hj, ended_cons t (u :: r) (by simp)]
    refine toks_more 32 (by decide) h1 h2 h3 ?_
    rw [toks_blank 32 (by decide)]
    exact toks_join (u :: r) hr

theorem scan_of_toks {L : List UInt8} {ts : List Tk} (hL : L.length ≤ 65536) (h : toks L = some ts) : (ts.length ≤ 16385 ∧ ∃ r, scan L = .ok r ∧ r.map (·.tk) = ts) ∨ (16385 < ts.length ∧ ∃ f, scan L = .error f ∧ f.code = 23) := by
  rcases Nat.lt_or_ge 16385 ts.length with hk | hk
  · right
    refine ⟨hk, ?_⟩
    have aux : ∀ (n done : Nat) (line col : Int) (prev off : Nat) (ts : List Tk), L.length < off + n → off ≤ L.length → toks (L.drop off) = some ts → 16385 < done + ts.length → done ≤ 16384 → ∃ f, scanF L n done line col prev off = .error f ∧ f.code = 23 := by
      intro n
      induction n with
      | zero => intro done line col prev off ts hn ho; omega
      | succ n ih =>
        intro done line col prev off ts hn ho h hk hd
        have hg := gap_le (L.drop off)
        rw [List.length_drop] at hg
        have hdd : (L.drop off).drop (gap (L.drop off)).1 = L.drop (off + (gap (L.drop off)).1) := by rw [List.drop_drop]
        rw [toks_eq, hdd] at h
        simp only [scanF]
        split at h
        · cases h
        rename_i h1
        rw [if_neg h1]
        split at h
        · cases h
        rename_i h2
        rw [if_neg h2]
        split at h
        · rename_i h4
          cases h
          simp only [List.length_cons, List.length_nil] at hk; omega
        · rename_i h4
          have hrl := readT_le (L.drop (off + (gap (L.drop off)).1))
          rw [List.length_drop] at hrl
          rw [List.drop_drop] at h
          simp only [Option.map_eq_some_iff] at h
          obtain ⟨ts', h5, h6⟩ := h
          have hlen : ts.length = ts'.length + 1 := by rw [← h6]; rfl
          by_cases hd' : done = 16384
          · rw [if_pos ⟨by omega, hd'⟩]
            exact ⟨_, rfl, rfl⟩
          · rw [if_neg (fun h => hd' h.2), if_neg h4]
            obtain ⟨f, h7, h8⟩ := ih (done + 1) (onLine line (partL L prev (off + (gap (L.drop off)).1))) (onCol col (partL L prev (off + (gap (L.drop off)).1))) (off + (gap (L.drop off)).1) (off + (gap (L.drop off)).1 + (readT (L.drop (off + (gap (L.drop off)).1))).2.1) ts' (by omega) (by omega) h5 (by omega) (by omega)
            rw [h7]
            exact ⟨f, rfl, h8⟩
    unfold scan
    rw [if_neg (by omega)]
    exact aux _ _ _ _ _ _ ts (by omega) (by omega) h (by omega) (by omega)
  · exact .inl ⟨hk, toks_scan hL h hk⟩

/-! ### Gaps -/
def Silent (g : List UInt8) : Prop := ∀ y, toks (g ++ y) = toks y
theorem silent_of_gap {g : List UInt8} (h : ∀ y, gap (g ++ y) = (g.length + (gap y).1, (gap y).2)) : Silent g := by
  intro y
  rw [toks_eq (g ++ y), toks_eq y, h y]
  simp only
  have : (g ++ y).drop (g.length + (gap y).1) = y.drop (gap y).1 := by rw [← List.drop_drop, List.drop_left]
  rw [this]
theorem silent_blank {s : UInt8} {g : List UInt8} (hs : bBlank s.toNat = true) (h : Silent g) : Silent (s :: g) := by
  intro y
  rw [List.cons_append, toks_blank s hs]
  exact h y
theorem silent_nil : Silent [] := fun y => rfl
theorem silent_app {a b : List UInt8} (ha : Silent a) (hb : Silent b) : Silent (a ++ b) := by
  intro y
  rw [List.append_assoc, ha, hb]

theorem silent_c1 : Silent [47, 42, 34, 42, 47] := by
  apply silent_of_gap
  intro y
  have hi : Lib.index ([47, 42, 34, 42, 47] ++ y |>.drop 2) [42, 47] = 1 := by
    simp [Lib.index]
  rw [show [47, 42, 34, 42, 47] ++ y = 47 :: (42 :: 34 :: 42 :: 47 :: y) from rfl] at hi ⊢
  rw [gap_cons, if_neg (by decide), if_neg (by simp [Lib.hasPrefix]), if_pos (by simp [Lib.hasPrefix]), hi]
  rw [if_neg (by omega)]
  simp
theorem silent_c2 : Silent [47, 42, 42, 42, 47] := by
  apply silent_of_gap
  intro y
  have hi : Lib.index ([47, 42, 42, 42, 47] ++ y |>.drop 2) [42, 47] = 1 := by
    simp [Lib.index]
  rw [show [47, 42, 42, 42, 47] ++ y = 47 :: (42 :: 42 :: 42 :: 47 :: y) from rfl] at hi ⊢
  rw [gap_cons, if_neg (by decide), if_neg (by simp [Lib.hasPrefix]), if_pos (by simp [Lib.hasPrefix]), hi]
  rw [if_neg (by omega)]
  simp
theorem silent_c3 : Silent [47, 42, 42, 47] := by
  apply silent_of_gap
  intro y
  have hi : Lib.index ([47, 42, 42, 47] ++ y |>.drop 2) [42, 47] = 0 := by
    simp [Lib.index]
  rw [show [47, 42, 42, 47] ++ y = 47 :: (42 :: 42 :: 47 :: y) from rfl] at hi ⊢
  rw [gap_cons, if_neg (by decide), if_neg (by simp [Lib.hasPrefix]), if_pos (by simp [Lib.hasPrefix]), hi]
  rw [if_neg (by omega)]
  simp
theorem silent_l : Silent [47, 47, 32, 39, 10] := by
  apply silent_of_gap
  intro y
  have hr : runLen bNoLine ([47, 47, 32, 39, 10] ++ y) = 4 := by
    simp [runLen, bNoLine]
  rw [show [47, 47, 32, 39, 10] ++ y = 47 :: (47 :: 32 :: 39 :: 10 :: y) from rfl] at hr ⊢
  rw [gap_cons, if_neg (by decide), if_pos (by simp [Lib.hasPrefix]), hr]
  simp only [List.drop_succ_cons, List.drop_zero]
  rw [gap_cons 10 y, if_pos (by decide)]
  simp only [List.length_cons, List.length_nil]
  congr 1
  omega

def gapTexts : List (List UInt8) := [[32], [10], [47, 42, 34, 42, 47], [9, 13, 11, 12, 32], [47, 47, 32, 39, 10], [47, 42, 42, 42, 47, 32, 47, 42, 42, 47]]
theorem gaps_silent : ∀ g ∈ gapTexts, Silent g := by
  intro g hg
  simp only [gapTexts, List.mem_cons, List.not_mem_nil, or_false] at hg
  rcases hg with rfl | rfl | rfl | rfl | rfl | rfl
  · exact silent_blank (by decide) silent_nil
  · exact silent_blank (by decide) silent_nil
  · exact silent_c1
  · exact silent_blank (by decide) (silent_blank (by decide) (silent_blank (by decide) (silent_blank (by decide) (silent_blank (by decide) silent_nil))))
  · exact silent_l
  · exact silent_app (a := [47, 42, 42, 42, 47]) silent_c2 (silent_blank (s := 32) (by decide) silent_c3)

/-- Each token's text, a blank and a gap behind it. -/
def gapped : List Tk → List (List UInt8) → List UInt8
  | [], _ => []
  | t :: r, gs => tkText t ++ 32 :: (gs.headD [32] ++ gapped r gs.tail)

theorem toks_gapped : ∀ (l : List Tk) (gs : List (List UInt8)), (∀ g ∈ gs, g ∈ gapTexts) → (∀ t ∈ l.dropLast, tkCan t = true ∧ t.kind ≠ 0) → l.getLast? = some Tk.no → toks (gapped l gs) = some l
  | [], _, _, _, h => by cases h
  | [t], gs, hg, _, h => by
    simp only [List.getLast?_singleton, Option.some.injEq] at h
    subst h
    have hs : Silent (gs.headD [32]) := by
      cases gs with
      | nil => exact gaps_silent [32] (by simp [gapTexts])
      | cons g r => exact gaps_silent g (hg g (by simp))
    have : gapped [Tk.no] gs = 32 :: (gs.headD [32] ++ []) := by simp [gapped, tkText, Tk.no, writeP]
    rw [this, toks_blank 32 (by decide), hs]
    rfl
  | t :: u :: r, gs, hg, hc, h => by
    obtain ⟨h0, hk⟩ := hc t (by simp)
    obtain ⟨h1, h2, h3⟩ := tk_read h0 hk
    have hs : Silent (gs.headD [32]) := by
      cases gs with
      | nil => exact gaps_silent [32] (by simp [gapTexts])
      | cons g r => exact gaps_silent g (hg g (by simp))
    have hT : ∀ g ∈ gs.tail, g ∈ gapTexts := fun g h => hg g (List.mem_of_mem_tail h)
    have ih := toks_gapped (u :: r) gs.tail hT (fun x hx => hc x (by rw [List.dropLast_cons_of_ne_nil (by simp)]; exact List.mem_cons_of_mem _ hx)) (by rw [List.getLast?_cons] at h; simpa [List.getLast?_cons] using h)
    show toks (tkText t ++ 32 :: (gs.headD [32] ++ gapped (u :: r) gs.tail)) = _
    refine toks_more 32 (by decide) h1 h2 h3 ?_
    rw [toks_blank 32 (by decide), hs]
    exact ih

theorem toks_tks : ∀ (n : Nat) (l : List UInt8) (ts : List Tk), l.length < n → toks l = some ts → (∀ t ∈ ts.dropLast, tkCan t = true ∧ t.kind ≠ 0) ∧ ts.getLast? = some Tk.no
  | 0, _, _, h, _ => by omega
  | n + 1, l, ts, hn, h => by
    rw [toks_eq] at h
    split at h
    · cases h
    split at h
    · cases h
    rename_i h2
    have hc : (readT (l.drop (gap l).1)).2.2 = 0 := by simpa using h2
    split at h
    · rename_i h3
      have he := readT_zero hc h3
      cases h
      rw [he]
      exact ⟨fun t ht => by simp at ht, rfl⟩
    · rename_i h3
      simp only [Option.map_eq_some_iff] at h
      obtain ⟨ts', h4, h5⟩ := h
      have hrl := readT_le (l.drop (gap l).1)
      rw [List.length_drop] at hrl
      obtain ⟨i1, i2⟩ := toks_tks n _ ts' (by simp only [List.length_drop]; omega) h4
      have hne := toks_ne _ _ h4
      rw [← h5]
      refine ⟨fun t ht => ?_, ?_⟩
      · rw [List.dropLast_cons_of_ne_nil hne] at ht
        rcases List.mem_cons.1 ht with rfl | ht
        · refine ⟨read_canBe _ hc, fun hk => ?_⟩
          have hcb := read_canBe _ hc
          exact absurd hk (read_kind _ hc h3)
        · exact i1 t ht
      · rw [List.getLast?_cons, i2]; rfl
where
  read_kind (l : List UInt8) (h1 : (readT l).2.2 = 0) (h2 : ¬ (readT l).2.1 = 0) : (readT l).1.kind ≠ 0 := by
    cases l with
    | nil => exact absurd rfl h2
    | cons c r =>
      simp only [readT] at h1 h2 ⊢
      split at h1
      · rename_i hl
        rw [if_pos hl]
        split at h1
        · simp at h1
        · rename_i h63
          rw [if_neg h63]
          simp only
          split <;> omega
      rename_i hl
      rw [if_neg hl]
      split at h1
      · rename_i hd
        rw [if_pos hd]
        split at h1
        · rename_i hok
          rw [if_pos hok]; simp
        · simp at h1
      rename_i hd
      rw [if_neg hd]
      split at h1
      · rename_i hq
        rw [if_pos hq]
        rcases hu : unq c.toNat r with _ | ⟨t, m⟩
        · rw [hu] at h1; simp at h1
        · rw [hu] at h1
          simp only at h1 ⊢
          split at h1
          · rename_i h34
            rw [if_pos h34]; simp
          · rename_i h34
            rw [if_neg h34]
            split at h1
            · simp
            · simp at h1
      rename_i hq
      rw [if_neg hq]
      split at h1
      · simp at h1
      · rename_i hs
        rw [if_neg hs]; simp
end Go.Proofs.YtjbmpdcgmphhoaaGreatDoor
