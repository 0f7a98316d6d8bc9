/-
  Bounds on the tokens of a text; a gapped text, token by token.
-/
import Derived.Test.YtjbmpdcgmphhoaaGreatDoorText
namespace Go.Proofs.YtjbmpdcgmphhoaaGreatDoor
set_option linter.unusedVariables false

theorem unqF_len : ∀ (n q : Nat) (l t : List UInt8) (m : Nat), unqF n q l = some (t, m) → t.length ≤ m
  | 0, _, _, _, _, h => by cases h
  | n + 1, q, [], _, _, h => by cases h
  | n + 1, q, c :: r, t, m, h => by
    simp only [unqF] at h
    split at h
    · simp only [Option.some.injEq, Prod.mk.injEq] at h; rw [← h.1]; simp
    split at h
    · cases h
    split at h
    · rcases hE : escOf r with _ | ⟨b, k⟩
      · rw [hE] at h; cases h
      · rw [hE] at h
        simp only [Option.map_eq_some_iff] at h
        obtain ⟨⟨t', m'⟩, h1, h2⟩ := h
        have := unqF_len n q (r.drop k) t' m' h1
        simp only [Prod.mk.injEq] at h2
        rw [← h2.1, ← h2.2]; simp only [List.length_cons]; omega
    · simp only [Option.map_eq_some_iff] at h
      obtain ⟨⟨t', m'⟩, h1, h2⟩ := h
      have := unqF_len n q r t' m' h1
      simp only [Prod.mk.injEq] at h2
      rw [← h2.1, ← h2.2]; simp only [List.length_cons]; omega

theorem typeText_len (u l : Bool) : (typeText u l).length ≤ 13 := by cases u <;> cases l <;> decide

theorem read_len (l : List UInt8) : (readT l).1.text.length ≤ l.length + 13 := by
  cases l with
  | nil => simp [readT, Tk.no]
  | cons c r =>
    simp only [readT]
    split
    · split
      · simp [Tk.no]
      · simp only [nameOf]; rw [List.length_take]; omega
    split
    · split
      · simp only [numKind]; have := typeText_len (numU (nameOf (c :: r))) (endL (numEnd (nameOf (c :: r)))); omega
      · simp [Tk.no]
    split
    · rcases hu : unq c.toNat r with _ | ⟨t, m⟩
      · simp [Tk.no]
      · have h1 := unqF_len _ _ _ _ _ hu
        have h2 := unqF_le _ _ _ _ _ hu
        simp only
        split
        · simp only [List.length_cons]; omega
        · split
          · simp
          · simp [Tk.no]
    split
    · simp [Tk.no]
    · have := signOf_le (c :: r); simp only; omega

theorem toks_len : ∀ (n : Nat) (l : List UInt8) (ts : List Tk), l.length < n → toks l = some ts → ∀ t ∈ ts, t.text.length ≤ l.length + 13
  | 0, _, _, h, _ => by omega
  | n + 1, l, ts, hn, h => by
    rw [toks_eq] at h
    split at h
    · cases h
    split at h
    · cases h
    have hrd := read_len (l.drop (gap l).1)
    rw [List.length_drop] at hrd
    split at h
    · cases h
      intro t ht
      simp only [List.mem_singleton] at ht
      subst ht; omega
    · rename_i h3
      simp only [Option.map_eq_some_iff] at h
      obtain ⟨ts', h4, h5⟩ := h
      have hrl := readT_le (l.drop (gap l).1)
      rw [List.length_drop] at hrl
      intro t ht
      rw [← h5] at ht
      rcases List.mem_cons.1 ht with rfl | ht
      · omega
      · have := toks_len n _ ts' (by simp only [List.length_drop]; omega) h4 t ht
        simp only [List.length_drop] at this; omega

theorem toks_can {l : List UInt8} {ts : List Tk} (h : toks l = some ts) : ∀ t ∈ ts, tkCan t = true := by
  obtain ⟨h1, h2⟩ := toks_tks (l.length + 1) l ts (by omega) h
  intro t ht
  have hne := toks_ne _ _ h
  rw [← List.dropLast_concat_getLast hne] at ht
  rcases List.mem_append.1 ht with h' | h'
  · exact (h1 t h').1
  · simp only [List.mem_singleton] at h'
    rw [List.getLast?_eq_some_getLast hne] at h2
    rw [h', Option.some.inj h2]; decide

theorem gapped_snoc : ∀ (l : List Tk) (gs : List (List UInt8)) (t : Tk) (g : List UInt8), l.length = gs.length → gapped (l ++ [t]) (gs ++ [g]) = gapped l gs ++ (tkText t ++ 32 :: g)
  | [], [], t, g, _ => by simp [gapped]
  | [], _ :: _, _, _, h => by simp at h
  | _ :: _, [], _, _, h => by simp at h
  | a :: l, b :: gs, t, g, h => by
    simp only [List.cons_append, gapped, List.headD_cons, List.tail_cons, List.append_assoc]
    rw [gapped_snoc l gs t g (by simpa using h)]

theorem tkText_len (t : Tk) (h : tkCan t = true) : (tkText t).length ≤ 4 * t.text.length + 100 := by
  obtain ⟨k, x, n⟩ := t
  unfold tkCan at h
  unfold tkText
  simp only at h ⊢
  unfold writeP
  have hq : ∀ (q : UInt8) (y : List UInt8), (quoteP q y).length ≤ 4 * y.length + 2 := by
    intro q y
    unfold quoteP
    have : ∀ l : List UInt8, (l.flatMap (quoteB q)).length ≤ 4 * l.length := by
      intro l
      induction l with
      | nil => simp
      | cons c r ih =>
        rw [List.flatMap_cons, List.length_append, List.length_cons]
        have : (quoteB q c).length ≤ 4 := by unfold quoteB; split; simp; split; simp; split <;> simp
        omega
    have := this y
    simp only [List.length_cons, List.length_append, List.length_nil]; omega
  split
  · rename_i h3
    subst h3
    have hn : 0 ≤ n ∧ n ≤ mostOf x := by simpa [canBeP] using h
    obtain ⟨v, rfl⟩ := Int.eq_ofNat_of_zero_le hn.1
    have hv : v < 4294967296 := by
      have h1 : mostOf x ≤ 4294967295 := by unfold mostOf; split; omega; split <;> omega
      omega
    unfold writeNumP Lib.itoa
    rw [if_neg (by omega), decDigits_digs]
    have h1 := digs_len (b := 10) (by omega) 32 v hv
    have h2 : (numSuffix x).length ≤ 2 := by unfold numSuffix; split; simp; split; simp; split <;> simp
    rw [List.length_append]
    simp only [Int.toNat_natCast]
    split
    · simp only [List.length_cons, List.length_nil]; omega
    · omega
  split
  · have := hq 39 [byteOf n]; simp only [List.length_cons, List.length_nil] at this; omega
  split
  · have := hq 34 x; omega
  · omega
end Go.Proofs.YtjbmpdcgmphhoaaGreatDoor
