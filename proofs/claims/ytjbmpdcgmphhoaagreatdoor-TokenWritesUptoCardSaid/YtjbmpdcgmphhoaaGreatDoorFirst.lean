/-
  The fault that a text has is its first: what stands ahead of it is a text without one, and its spot is the one of its place.
-/
import Derived.Test.YtjbmpdcgmphhoaaGreatDoorPref2
namespace Go.Proofs.YtjbmpdcgmphhoaaGreatDoor
set_option linter.unusedVariables false

theorem part_append (L : List UInt8) {a b c : Nat} (h1 : a ≤ b) (h2 : b ≤ c) : (partL L a c).data.toList = (partL L a b).data.toList ++ (partL L b c).data.toList := by
  simp only [partL]
  have h3 : L.drop b = (L.drop a).drop (b - a) := by rw [List.drop_drop]; congr 1; omega
  rw [h3]
  have h4 : c - a = (b - a) + (c - b) := by omega
  rw [h4, List.take_add]

theorem onLine_onLine (L : List UInt8) {a b c : Nat} (line : Int) (h1 : a ≤ b) (h2 : b ≤ c) : onLine (onLine line (partL L a b)) (partL L b c) = onLine line (partL L a c) := by
  unfold onLine
  rw [part_append L h1 h2]
  simp only [Lib.countByte, List.count_append]
  omega

theorem lastIdx_app (a b s : ByteArray) (h : s.data.toList = a.data.toList ++ b.data.toList) (c : Int) : Lib.lastIndexByte s c = if 0 ≤ Lib.lastIndexByte b c then a.size + Lib.lastIndexByte b c else Lib.lastIndexByte a c := by
  have hs : s.size = a.size + b.size := by
    have := congrArg List.length h
    simpa using this
  have ha : ∀ j, j < a.size → s.data[j]! = a.data[j]! := by
    intro j hj
    have h1 : s.data.toList[j]? = a.data.toList[j]? := by rw [h, List.getElem?_append_left (by simpa using hj)]
    rw [getElem!_def, getElem!_def]
    simp only [Array.getElem?_toList] at h1
    rw [h1]
  have hb : ∀ j, j < b.size → s.data[a.size + j]! = b.data[j]! := by
    intro j hj
    have h1 : s.data.toList[a.size + j]? = b.data.toList[j]? := by
      rw [h, List.getElem?_append_right (by simp)]
      congr 1
      simp
    rw [getElem!_def, getElem!_def]
    simp only [Array.getElem?_toList] at h1
    rw [h1]
  rcases Lib.lastIndexByte_spec b c with ⟨hb1, hb2⟩ | ⟨i, hi, hb1, hb2, hb3⟩
  · rw [hb1, if_neg (by omega)]
    rcases Lib.lastIndexByte_spec a c with ⟨ha1, ha2⟩ | ⟨k, hk, ha1, ha2, ha3⟩
    · rw [ha1]
      rcases Lib.lastIndexByte_spec s c with ⟨hs1, _⟩ | ⟨j, hj, hs1, hs2, _⟩
      · exact hs1
      · exfalso
        rcases Nat.lt_or_ge j a.size with h' | h'
        · rw [ha j h'] at hs2; exact ha2 j h' hs2
        · have := hb2 (j - a.size) (by omega)
          rw [← hb (j - a.size) (by omega)] at this
          rw [show a.size + (j - a.size) = j by omega] at this
          exact this hs2
    · rw [ha1]
      rcases Lib.lastIndexByte_spec s c with ⟨hs1, hs2⟩ | ⟨j, hj, hs1, hs2, hs3⟩
      · exfalso; exact hs2 k (by omega) (by rw [ha k hk]; exact ha2)
      · rw [hs1]
        rcases Nat.lt_trichotomy j k with h' | h' | h'
        · exfalso; exact hs3 k h' (by omega) (by rw [ha k hk]; exact ha2)
        · rw [h']
        · exfalso
          rcases Nat.lt_or_ge j a.size with h'' | h''
          · rw [ha j h''] at hs2; exact ha3 j h' h'' hs2
          · have := hb2 (j - a.size) (by omega)
            rw [← hb (j - a.size) (by omega)] at this
            rw [show a.size + (j - a.size) = j by omega] at this
            exact this hs2
  · rw [hb1, if_pos (by omega)]
    rcases Lib.lastIndexByte_spec s c with ⟨hs1, hs2⟩ | ⟨j, hj, hs1, hs2, hs3⟩
    · exfalso; exact hs2 (a.size + i) (by omega) (by rw [hb i hi]; exact hb2)
    · rw [hs1]
      rcases Nat.lt_trichotomy j (a.size + i) with h' | h' | h'
      · exfalso; exact hs3 (a.size + i) h' (by omega) (by rw [hb i hi]; exact hb2)
      · omega
      · exfalso
        have := hb3 (j - a.size) (by omega) (by omega)
        rw [← hb (j - a.size) (by omega)] at this
        rw [show a.size + (j - a.size) = j by omega] at this
        exact this hs2

theorem onCol_onCol (L : List UInt8) {a b c : Nat} (col : Int) (h1 : a ≤ b) (h2 : b ≤ c) : onCol (onCol col (partL L a b)) (partL L b c) = onCol col (partL L a c) := by
  have h := part_append L h1 h2
  have hl := lastIdx_app _ _ _ h 10
  have hs : (partL L a c).size = (partL L a b).size + (partL L b c).size := by
    have := congrArg List.length h
    simpa using this
  rcases Lib.lastIndexByte_spec (partL L a b) 10 with ⟨ha1, _⟩ | ⟨i, hi, ha1, _⟩ <;> rcases Lib.lastIndexByte_spec (partL L b c) 10 with ⟨hb1, _⟩ | ⟨j, hj, hb1, _⟩ <;> rw [ha1, hb1] at hl
  · rw [if_neg (by omega)] at hl
    unfold onCol; rw [ha1, hb1, hl]
    rw [if_neg (by omega), if_neg (by omega), if_neg (by omega), hs]; omega
  · rw [if_pos (by omega)] at hl
    unfold onCol; rw [ha1, hb1, hl]
    rw [if_pos (by omega), if_pos (by omega), hs]; omega
  · rw [if_neg (by omega)] at hl
    unfold onCol; rw [ha1, hb1, hl]
    rw [if_neg (by omega), if_pos (by omega), if_pos (by omega), hs]; omega
  · rw [if_pos (by omega)] at hl
    unfold onCol; rw [ha1, hb1, hl]
    rw [if_pos (by omega), if_pos (by omega), hs]; omega

/-- What is said of the fault of a text: it is a fault, of this place, with this place's spot, and the text ahead of it has none. -/
structure FirstOf (L : List UInt8) (f : Flt) : Prop where
  code : f.code = 25 ∨ f.code = 23 ∨ f.code = 20 ∨ f.code = 21 ∨ f.code = 22 ∨ f.code = 26
  le : f.off ≤ L.length
  line : f.line = onLine 1 (partL L 0 f.off)
  col : f.col = onCol 1 (partL L 0 f.off)

theorem readT_code (l : List UInt8) : (readT l).2.2 = 0 ∨ (readT l).2.2 = 20 ∨ (readT l).2.2 = 21 ∨ (readT l).2.2 = 22 ∨ (readT l).2.2 = 26 := by
  cases l with
  | nil => left; rfl
  | cons c r =>
    simp only [readT]
    split
    · split <;> simp
    split
    · split <;> simp
    split
    · rcases hu : unq c.toNat r with _ | ⟨t, m⟩
      · simp
      · simp only
        split
        · simp
        · split <;> simp
    split <;> simp

theorem scanF_first (L : List UInt8) : ∀ (n done : Nat) (line col : Int) (prev off : Nat) (f : Flt), L.length < off + n → off ≤ L.length → prev ≤ off → line = onLine 1 (partL L 0 prev) → col = onCol 1 (partL L 0 prev) →
    scanF L n done line col prev off = .error f → FirstOf L f ∧ off ≤ f.off ∧ ∀ m, f.off < off + m → ∃ r, scanF (L.take f.off) m done line col prev off = .ok r
  | 0, done, line, col, prev, off, f, hn, ho, _, _, _, _ => by omega
  | n + 1, done, line, col, prev, off, f, hn, ho, hp, hl, hc, h => by
    have hg := gap_le (L.drop off)
    rw [List.length_drop] at hg
    simp only [scanF] at h
    generalize hG : (gap (L.drop off)).1 = g at *
    have hline : onLine line (partL L prev (off + g)) = onLine 1 (partL L 0 (off + g)) := by rw [hl]; exact onLine_onLine L 1 (by omega) (by omega)
    have hcol : onCol col (partL L prev (off + g)) = onCol 1 (partL L 0 (off + g)) := by rw [hc]; exact onCol_onCol L 1 (by omega) (by omega)
    have hhere : ∀ m, off + g < off + m → ((gap (L.drop off)).2 = true ∨ True) → ∃ r, scanF (L.take (off + g)) m done line col prev off = .ok r := by
      intro m hm _
      obtain ⟨m, rfl⟩ : ∃ m', m = m' + 1 := ⟨m - 1, by omega⟩
      have h1 : (L.take (off + g)).drop off = (L.drop off).take g := by rw [List.drop_take]; congr 1; omega
      have h2 : gap ((L.drop off).take g) = (g, true) := by
        have := gap_take (l := L.drop off) (e := g) (by rw [hG]; omega) (.inr hG.symm)
        rw [hG] at this; exact this
      have h3 : (L.take (off + g)).drop (off + g) = [] := by rw [List.drop_take]; simp
      simp only [scanF]
      rw [h1, h2]
      simp only
      rw [h3]
      rw [if_neg (by simp), if_neg (by simp [readT]), if_neg (by simp [readT]), if_pos (by simp [readT])]
      exact ⟨_, rfl⟩
    split at h
    · cases h
      exact ⟨⟨.inl rfl, by show off + g ≤ _; omega, hline, hcol⟩, by show off ≤ off + g; omega, fun m hm => hhere m hm (.inr trivial)⟩
    rename_i hgt
    split at h
    · rename_i hcd
      cases h
      refine ⟨⟨?_, by show off + g ≤ _; omega, hline, hcol⟩, by show off ≤ off + g; omega, fun m hm => hhere m hm (.inr trivial)⟩
      have := readT_code (L.drop (off + g)); simp only; omega
    rename_i hcd
    split at h
    · cases h
      exact ⟨⟨.inr (.inl rfl), by show off + g ≤ _; omega, hline, hcol⟩, by show off ≤ off + g; omega, fun m hm => hhere m hm (.inr trivial)⟩
    rename_i hmany
    split at h
    · cases h
    rename_i hz
    have hrl := readT_le (L.drop (off + g))
    rw [List.length_drop] at hrl
    have hR : readT (L.drop (off + g)) = ((readT (L.drop (off + g))).1, (readT (L.drop (off + g))).2.1, 0) := by
      have h0 : (readT (L.drop (off + g))).2.2 = 0 := by simpa using hcd
      rw [← h0]
    generalize hz' : (readT (L.drop (off + g))).2.1 = z at *
    generalize (readT (L.drop (off + g))).1 = tk at *
    rcases hX : scanF L n (done + 1) (onLine line (partL L prev (off + g))) (onCol col (partL L prev (off + g))) (off + g) (off + g + z) with f' | r
    · rw [hX] at h
      simp only at h
      cases h
      obtain ⟨h1, h2, h3⟩ := scanF_first L n (done + 1) _ _ (off + g) (off + g + z) f (by omega) (by omega) (by omega) hline hcol hX
      refine ⟨h1, by omega, fun m hm => ?_⟩
      obtain ⟨m, rfl⟩ : ∃ m', m = m' + 1 := ⟨m - 1, by omega⟩
      obtain ⟨r, hr⟩ := h3 m (by omega)
      have e1 : (L.take f.off).drop off = (L.drop off).take (f.off - off) := by rw [List.drop_take]
      have e2 : gap ((L.drop off).take (f.off - off)) = (g, true) := by
        have := gap_take (l := L.drop off) (e := f.off - off) (by rw [hG]; omega) (.inl (by simpa using hgt))
        rw [hG] at this; exact this
      have e3 : (L.take f.off).drop (off + g) = (L.drop (off + g)).take (f.off - (off + g)) := by rw [List.drop_take]
      have e4 : readT ((L.drop (off + g)).take (f.off - (off + g))) = (tk, z, 0) := readT_take hR (by omega) _ (by omega)
      have e5 : partL (L.take f.off) prev (off + g) = partL L prev (off + g) := by
        unfold partL
        rw [List.drop_take, List.take_take, Nat.min_eq_left (by omega)]
      simp only [scanF]
      rw [e1, e2]
      simp only
      rw [e3, e4, e5]
      rw [if_neg (by simp), if_neg (by simp), if_neg (by simpa [hR] using hmany), if_neg (by simpa using hz), hr]
      exact ⟨_, rfl⟩
    · rw [hX] at h; cases h

/-- The fault of a text that is not too long. -/
theorem scan_first (L : List UInt8) (f : Flt) (hL : L.length ≤ 65536) (h : scan L = .error f) : FirstOf L f ∧ ∃ r, scan (L.take f.off) = .ok r := by
  unfold scan at h
  rw [if_neg (by omega)] at h
  have h0 : partL L 0 0 = ⟨#[]⟩ := by simp [partL]
  obtain ⟨h1, _, h3⟩ := scanF_first L (L.length + 1) 0 1 1 0 0 f (by omega) (by omega) (by omega) (by rw [h0]; rfl) (by rw [h0]; rfl) h
  refine ⟨h1, ?_⟩
  have hle := h1.le
  have hlen : (L.take f.off).length = f.off := by rw [List.length_take]; omega
  obtain ⟨r, hr⟩ := h3 (f.off + 1) (by omega)
  unfold scan
  rw [hlen, if_neg (by omega)]
  exact ⟨r, hr⟩
theorem scan_long_code (L : List UInt8) (h : 65536 < L.length) : scan L = .error ⟨24, 0, 0, 0⟩ := by unfold scan; rw [if_pos h]
end Go.Proofs.YtjbmpdcgmphhoaaGreatDoor
