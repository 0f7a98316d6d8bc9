/-
  A number's digits in a base, and what Scan reads of them: every number of 32 bits can be written, in each base.
-/
import Derived.Test.YtjbmpdcgmphhoaaGreatDoorToks
namespace Go.Proofs.YtjbmpdcgmphhoaaGreatDoor
set_option linter.unusedVariables false

def sym (d : Nat) : UInt8 := if d < 10 then (48 + d).toUInt8 else (87 + d).toUInt8
def digs (b v : Nat) : List UInt8 := if h : v = 0 ∨ b < 2 then [] else digs b (v / b) ++ [sym (v % b)]
termination_by v
decreasing_by exact Nat.div_lt_self (by omega) (by omega)

theorem digs_zero (b : Nat) : digs b 0 = [] := by rw [digs]; simp
theorem digs_pos {b v : Nat} (hv : 0 < v) (hb : 2 ≤ b) : digs b v = digs b (v / b) ++ [sym (v % b)] := by
  rw [digs, dif_neg (by omega)]

theorem sym_spec : ∀ d, d < 16 → bDigit (sym d).toNat = d ∧ bName (sym d).toNat = (decide (d < 10) || bLetter (sym d).toNat) ∧ (d < 10 → (sym d).toNat = 48 + d) ∧ (sym d).toNat ≠ 120 ∧ (sym d).toNat ≠ 88 ∧ bName (sym d).toNat = true := by decide +kernel

theorem digs_len {b : Nat} (hb : 2 ≤ b) : ∀ (k v : Nat), v < 2 ^ k → (digs b v).length ≤ k
  | 0, v, h => by have : v = 0 := by omega
                  subst this; rw [digs_zero]; simp
  | k + 1, v, h => by
    rcases Nat.eq_zero_or_pos v with h0 | h0
    · subst h0; rw [digs_zero]; simp
    · rw [digs_pos h0 hb]
      have h1 : v / b ≤ v / 2 := Nat.div_le_div_left hb (by omega)
      have h2 : v / b < 2 ^ k := by rw [Nat.pow_succ] at h; omega
      have := digs_len hb k (v / b) h2
      simp only [List.length_append, List.length_cons, List.length_nil]; omega

theorem digs_mem {b : Nat} (hb : 2 ≤ b) (h16 : b ≤ 16) : ∀ (k v : Nat), v < 2 ^ k → ∀ c ∈ digs b v, ∃ d, d < b ∧ c = sym d
  | 0, v, h, c, hc => by have : v = 0 := by omega
                         subst this; rw [digs_zero] at hc; cases hc
  | k + 1, v, h, c, hc => by
    rcases Nat.eq_zero_or_pos v with h0 | h0
    · subst h0; rw [digs_zero] at hc; cases hc
    · rw [digs_pos h0 hb] at hc
      have h1 : v / b ≤ v / 2 := Nat.div_le_div_left hb (by omega)
      have h2 : v / b < 2 ^ k := by rw [Nat.pow_succ] at h; omega
      rcases List.mem_append.1 hc with h3 | h3
      · exact digs_mem hb h16 k _ h2 c h3
      · simp only [List.mem_singleton] at h3
        exact ⟨v % b, Nat.mod_lt _ (by omega), h3⟩

theorem digVal_snoc (b most : Nat) : ∀ (l : List UInt8) (c : UInt8) (n : Nat), digVal b most n (l ++ [c]) = if digVal b most n l ≤ most then digVal b most n l * b + bDigit c.toNat else digVal b most n l
  | [], c, n => rfl
  | a :: l, c, n => by
    have e1 : digVal b most n ((a :: l) ++ [c]) = if n ≤ most then digVal b most (n * b + bDigit a.toNat) (l ++ [c]) else n := rfl
    have e2 : digVal b most n (a :: l) = if n ≤ most then digVal b most (n * b + bDigit a.toNat) l else n := rfl
    by_cases h : n ≤ most
    · rw [if_pos h] at e1 e2
      rw [e1, digVal_snoc b most l c _, e2]
    · rw [if_neg h] at e1 e2
      rw [e1, e2, if_neg h]

theorem digVal_digs {b most : Nat} (hb : 2 ≤ b) (h16 : b ≤ 16) : ∀ (k v : Nat), v < 2 ^ k → v ≤ most → digVal b most 0 (digs b v) = v
  | 0, v, h, _ => by have : v = 0 := by omega
                     subst this; rw [digs_zero]; simp [digVal]
  | k + 1, v, h, hm => by
    rcases Nat.eq_zero_or_pos v with h0 | h0
    · subst h0; rw [digs_zero]; simp [digVal]
    · have h1 : v / b ≤ v / 2 := Nat.div_le_div_left hb (by omega)
      have h2 : v / b < 2 ^ k := by rw [Nat.pow_succ] at h; omega
      have h3 : v / b ≤ most := by omega
      rw [digs_pos h0 hb, digVal_snoc, digVal_digs hb h16 k _ h2 h3, if_pos h3, (sym_spec (v % b) (by have := Nat.mod_lt v (show 0 < b by omega); omega)).1]
      have := Nat.div_add_mod v b
      rw [Nat.mul_comm] at this; exact this

theorem digs_head {b : Nat} (hb : 2 ≤ b) (h10 : b ≤ 10) : ∀ (k v : Nat), v < 2 ^ k → 0 < v → ∃ c r, digs b v = c :: r ∧ c.toNat ≠ 48
  | 0, v, h, h0 => by omega
  | k + 1, v, h, h0 => by
    have h1 : v / b ≤ v / 2 := Nat.div_le_div_left hb (by omega)
    have h2 : v / b < 2 ^ k := by rw [Nat.pow_succ] at h; omega
    rw [digs_pos h0 hb]
    rcases Nat.eq_zero_or_pos (v / b) with h3 | h3
    · rw [h3, digs_zero]
      have hlt : v % b < b := Nat.mod_lt _ (by omega)
      have hne : v % b ≠ 0 := by
        intro e
        have := Nat.div_add_mod v b
        rw [h3, e] at this; omega
      refine ⟨sym (v % b), [], rfl, ?_⟩
      have := (sym_spec (v % b) (by omega)).2.2.1 (by omega)
      omega
    · obtain ⟨c, r, h4, h5⟩ := digs_head hb h10 k _ h2 h3
      rw [h4]
      exact ⟨c, _, rfl, h5⟩

theorem runLen_all (p : Nat → Bool) (l : List UInt8) (h : ∀ c ∈ l, p c.toNat = true) : runLen p l = l.length := by
  have := runLen_append p l [] h
  simpa [runLen] using this

theorem digs_base {b v : Nat} (hb : 2 ≤ b) (h16 : b ≤ 16) (hv : v < 4294967296) : ∀ c ∈ digs b v, bBase b c.toNat = true ∧ bName c.toNat = true ∧ c.toNat ≠ 120 ∧ c.toNat ≠ 88 := by
  intro c hc
  obtain ⟨d, hd, rfl⟩ := digs_mem hb h16 32 v hv c hc
  have := sym_spec d (by omega)
  refine ⟨?_, this.2.2.2.2.2, this.2.2.2.1, this.2.2.2.2.1⟩
  simp only [bBase, this.1, decide_eq_true_eq]; exact hd

def intText : List UInt8 := [105, 110, 116]
def uintText : List UInt8 := [117, 110, 115, 105, 103, 110, 101, 100, 32, 105, 110, 116]
def kindOf32 (v : Nat) : List UInt8 := if 2147483647 < v then uintText else intText

theorem typeText_u (u : Bool) : typeText u false = if u then uintText else intText := by cases u <;> decide
theorem mostOf_kind (v : Nat) (hv : v < 4294967296) : (v : Int) ≤ mostOf (kindOf32 v) := by
  unfold kindOf32
  split
  · have : mostOf uintText = 4294967295 := by decide
    omega
  · have : mostOf intText = 2147483647 := by decide
    omega

/-- A text of digits of a base, all of them read as the number. -/
theorem num_plain (l : List UInt8) (v : Nat) (hv : v < 4294967296) (hlen : numLen l = (numDig l).length) (h0 : numDig l ≠ []) (hbase : numBase l ≠ 10) (hval : digVal (numBase l) 4294967295 0 (numDig l) = v) :
    numOk l = true ∧ numKind l = kindOf32 v ∧ numVal l = v := by
  have hV : numVal l = v := by unfold numVal; rw [hlen, List.take_length]; exact hval
  have hE : numEnd l = [] := by unfold numEnd; rw [hlen, List.drop_length]; rfl
  have hU : numU l = decide (2147483647 < v) := by
    unfold numU; rw [hE, hV]
    simp [endU, hbase]
  have hK : numKind l = kindOf32 v := by
    unfold numKind; rw [hU, hE, show endL [] = false by decide, typeText_u]
    unfold kindOf32
    by_cases h : 2147483647 < v <;> simp [h]
  refine ⟨?_, hK, hV⟩
  unfold numOk
  rw [hK, hV, hE, hlen]
  have hne : (numDig l).length ≠ 0 := by simpa using h0
  simp [hne, mostOf_kind v hv, endOk]

theorem num_u (l : List UInt8) (v : Nat) (hv : v < 4294967296) (d : List UInt8) (hd : numDig l = d ++ [117]) (h0 : d ≠ []) (hlen : numLen l = d.length) (hval : digVal (numBase l) 4294967295 0 d = v) :
    numOk l = true ∧ numKind l = uintText ∧ numVal l = v := by
  have hV : numVal l = v := by unfold numVal; rw [hlen, hd, List.take_left]; exact hval
  have hE : numEnd l = [117] := by unfold numEnd; rw [hlen, hd, List.drop_left]; decide
  have hU : numU l = true := by unfold numU; rw [hE]; rfl
  have hK : numKind l = uintText := by unfold numKind; rw [hU, hE]; decide
  refine ⟨?_, hK, hV⟩
  unfold numOk
  rw [hK, hV, hE, hlen]
  have hne : d.length ≠ 0 := by simpa using h0
  have : mostOf uintText = 4294967295 := by decide
  rw [this]
  have h1 : (v : Int) ≤ 4294967295 := by omega
  simp [hne, endOk, h1]

def hexText (v : Nat) : List UInt8 := 48 :: 120 :: (if v = 0 then [48] else digs 16 v)
def octText (v : Nat) : List UInt8 := 48 :: digs 8 v
def decText (v : Nat) : List UInt8 := (if v = 0 then [48] else digs 10 v) ++ [117]

theorem digs_ne {b v : Nat} (hb : 2 ≤ b) (hv : 0 < v) : digs b v ≠ [] := by rw [digs_pos hv hb]; simp

theorem readT_num {l : List UInt8} {k : List UInt8} {v : Nat} (c : UInt8) (r : List UInt8) (hl : l = c :: r) (hd : bDigit c.toNat < 10) (hall : ∀ x ∈ l, bName x.toNat = true) (hok : numOk l = true ∧ numKind l = k ∧ numVal l = v) :
    readT l = (⟨3, k, v⟩, l.length, 0) := by
  have hl' : ¬ bLetter c.toNat = true := by
    unfold bDigit at hd
    unfold bLetter
    simp only [Bool.or_eq_true, Bool.and_eq_true, decide_eq_true_eq, beq_iff_eq]
    split at hd
    · omega
    split at hd
    · omega
    split at hd <;> omega
  have hr := runLen_all bName l hall
  have hn : nameOf l = l := by unfold nameOf; rw [hr, List.take_length]
  obtain ⟨h1, h2, h3⟩ := hok
  rw [hl] at hr hn h1 h2 h3 ⊢
  simp only [readT]
  rw [if_neg hl', if_pos hd, hn, if_pos h1, hr, h2, h3]

def hexDigs (v : Nat) : List UInt8 := if v = 0 then [48] else digs 16 v
theorem hexDigs_spec (v : Nat) (hv : v < 4294967296) : (∀ c ∈ hexDigs v, bBase 16 c.toNat = true ∧ bName c.toNat = true) ∧ digVal 16 4294967295 0 (hexDigs v) = v ∧ hexDigs v ≠ [] := by
  unfold hexDigs
  by_cases h0 : v = 0
  · subst h0; rw [if_pos rfl]; decide
  · rw [if_neg h0]
    have hb := digs_base (b := 16) (by omega) (by omega) hv
    exact ⟨fun c hc => ⟨(hb c hc).1, (hb c hc).2.1⟩, digVal_digs (by omega) (by omega) 32 v hv (by omega), digs_ne (by omega) (by omega)⟩

theorem read_hex (v : Nat) (hv : v < 4294967296) : readT (hexText v) = (⟨3, kindOf32 v, v⟩, (hexText v).length, 0) := by
  obtain ⟨hb, hval, hne⟩ := hexDigs_spec v hv
  have hT : hexText v = 48 :: 120 :: hexDigs v := rfl
  have hD : numDig (hexText v) = hexDigs v := by rw [hT]; simp [numDig, Lib.hasPrefix]
  have hB : numBase (hexText v) = 16 := by rw [hT]; simp [numBase, Lib.hasPrefix]
  have hL : numLen (hexText v) = (numDig (hexText v)).length := by
    unfold numLen; rw [hD, hB]; exact runLen_all _ _ fun c hc => (hb c hc).1
  refine readT_num 48 (120 :: hexDigs v) hT (by decide) ?_ (num_plain (hexText v) v hv hL (by rw [hD]; exact hne) (by rw [hB]; omega) (by rw [hB, hD]; exact hval))
  intro x hx
  rw [hT] at hx
  simp only [List.mem_cons] at hx
  rcases hx with rfl | rfl | hx
  · decide
  · decide
  · exact (hb x hx).2

theorem read_oct (v : Nat) (hv : v < 4294967296) : readT (octText v) = (⟨3, kindOf32 v, v⟩, (octText v).length, 0) := by
  have hb := digs_base (b := 8) (by omega) (by omega) hv
  have hp : ∀ y : UInt8, (y.toNat = 120 ∨ y.toNat = 88) → Lib.hasPrefix (octText v) [48, y] = false := by
    intro y hy
    unfold octText
    rcases hd : digs 8 v with _ | ⟨c, r⟩
    · simp [Lib.hasPrefix]
    · have := hb c (by rw [hd]; simp)
      simp only [Lib.hasPrefix, List.isPrefixOf, beq_self_eq_true, Bool.true_and, Bool.and_true, beq_eq_false_iff_ne]
      intro e
      rw [e] at hy; omega
  have hD : numDig (octText v) = octText v := by unfold numDig; rw [hp 120 (.inl rfl), hp 88 (.inr rfl)]; rfl
  have hB : numBase (octText v) = 8 := by unfold numBase; rw [hp 120 (.inl rfl), hp 88 (.inr rfl)]; simp [octText]
  have hall : ∀ c ∈ octText v, bBase 8 c.toNat = true ∧ bName c.toNat = true := by
    intro c hc
    unfold octText at hc
    simp only [List.mem_cons] at hc
    rcases hc with rfl | hc
    · decide
    · exact ⟨(hb c hc).1, (hb c hc).2.1⟩
  have hL : numLen (octText v) = (numDig (octText v)).length := by
    unfold numLen; rw [hD, hB]; exact runLen_all _ _ fun c hc => (hall c hc).1
  have hval : digVal (numBase (octText v)) 4294967295 0 (numDig (octText v)) = v := by
    rw [hB, hD]
    unfold octText
    rw [digVal, if_pos (by omega)]
    exact digVal_digs (b := 8) (by omega) (by omega) 32 v hv (by omega)
  exact readT_num 48 (digs 8 v) rfl (by decide) (fun x hx => (hall x hx).2) (num_plain (octText v) v hv hL (by rw [hD]; simp [octText]) (by rw [hB]; omega) hval)

theorem read_dec (v : Nat) (hv : v < 4294967296) : readT (decText v) = (⟨3, uintText, v⟩, (decText v).length, 0) := by
  by_cases h0 : v = 0
  · subst h0
    have hT : decText 0 = [48, 117] := by unfold decText; rw [if_pos rfl]; rfl
    rw [hT]
    refine readT_num 48 [117] rfl (by decide) (by decide) (num_u [48, 117] 0 (by omega) [48] (by decide) (by simp) (by decide) (by decide))
  · have hb := digs_base (b := 10) (by omega) (by omega) hv
    obtain ⟨c, r, hcr, hc48⟩ := digs_head (b := 10) (by omega) (by omega) 32 v hv (by omega)
    have hT : decText v = digs 10 v ++ [117] := by unfold decText; rw [if_neg h0]
    have hT' : decText v = c :: (r ++ [117]) := by rw [hT, hcr]; rfl
    have hp : ∀ y : UInt8, Lib.hasPrefix (decText v) [48, y] = false := by
      intro y
      rw [hT']
      simp only [Lib.hasPrefix, List.isPrefixOf, Bool.and_eq_false_iff, beq_eq_false_iff_ne]
      left
      intro e; rw [← e] at hc48; exact hc48 rfl
    have hD : numDig (decText v) = digs 10 v ++ [117] := by unfold numDig; rw [hp 120, hp 88, hT]; rfl
    have hB : numBase (decText v) = 10 := by
      unfold numBase; rw [hp 120, hp 88, hT']
      have : ¬ c = 48 := by intro e; rw [e] at hc48; exact hc48 rfl
      simp [this]
    have hL : numLen (decText v) = (digs 10 v).length := by
      unfold numLen; rw [hD, hB, runLen_append _ _ _ fun c hc => (hb c hc).1]
      have : runLen (bBase 10) [117] = 0 := by decide
      rw [this]; rfl
    refine readT_num c (r ++ [117]) hT' ?_ ?_ (num_u (decText v) v hv (digs 10 v) hD (digs_ne (by omega) (by omega)) hL (by rw [hB]; exact digVal_digs (by omega) (by omega) 32 v hv (by omega)))
    · obtain ⟨d, hd, he⟩ := digs_mem (b := 10) (by omega) (by omega) 32 v hv c (by rw [hcr]; simp)
      rw [he, (sym_spec d (by omega)).1]; exact hd
    · intro x hx
      rw [hT] at hx
      rcases List.mem_append.1 hx with h | h
      · exact (hb x h).2.1
      · simp only [List.mem_singleton] at h; subst h; decide

def numsText (v : Nat) : List UInt8 := hexText v ++ 32 :: (octText v ++ 32 :: decText v)

theorem gap_digit {c : UInt8} {r : List UInt8} (h : bBlank c.toNat = false) (h2 : c.toNat ≠ 47) : gap (c :: r) = (0, true) := by
  have hp : ∀ y : UInt8, Lib.hasPrefix (c :: r) [47, y] = false := by
    intro y
    simp only [Lib.hasPrefix, List.isPrefixOf, Bool.and_eq_false_iff, beq_eq_false_iff_ne]
    left; intro e; rw [← e] at h2; exact h2 rfl
  rw [gap_cons, if_neg (by simp [h]), if_neg (by simp [hp]), if_neg (by simp [hp])]

theorem toks_one {l : List UInt8} {tk : Tk} (hg : gap l = (0, true)) (hr : readT l = (tk, l.length, 0)) (h0 : l ≠ []) : toks l = some [tk, Tk.no] := by
  have hne : l.length ≠ 0 := by simpa using h0
  rw [toks_eq, hg]
  simp only [List.drop_zero, hr]
  rw [if_neg (by simp), if_neg (by simp), if_neg hne, List.drop_length]
  rfl

theorem gap_blank_app {l x : List UInt8} (s : UInt8) (hs : bBlank s.toNat = true) (h0 : l ≠ []) (hg : gap l = (0, true)) : gap (l ++ s :: x) = (0, true) := by
  cases l with
  | nil => exact absurd rfl h0
  | cons c r =>
    rw [gap_cons] at hg
    rw [List.cons_append, gap_cons]
    split at hg
    · simp only [Prod.mk.injEq] at hg; omega
    rename_i h1
    split at hg
    · rename_i h2
      have := line_pos h2
      simp only [Prod.mk.injEq] at hg; omega
    rename_i h2
    split at hg
    · rename_i h3
      split at hg
      · simp at hg
      · simp only [Prod.mk.injEq] at hg; omega
    rename_i h3
    have hp : ∀ y : UInt8, bBlank y.toNat = false → Lib.hasPrefix (c :: r) [47, y] ≠ true → Lib.hasPrefix (c :: (r ++ s :: x)) [47, y] ≠ true := by
      intro y hy hn h
      apply hn
      rw [← List.cons_append] at h
      simp only [Lib.hasPrefix, List.isPrefixOf_iff_prefix] at h ⊢
      refine prefix_blank (s := s) ?_ h
      intro hm
      simp only [List.mem_cons, List.not_mem_nil, or_false] at hm
      rcases hm with e | e
      · rw [e] at hs; exact absurd hs (by decide)
      · rw [e, hy] at hs; cases hs
    rw [if_neg h1, if_neg (hp 47 (by decide) h2), if_neg (hp 42 (by decide) h3)]

theorem toks_more {l x : List UInt8} {tk : Tk} {ts : List Tk} (s : UInt8) (hs : bBlank s.toNat = true) (hg : gap l = (0, true)) (hr : readT l = (tk, l.length, 0)) (h0 : l ≠ []) (hx : toks (s :: x) = some ts) : toks (l ++ s :: x) = some (tk :: ts) := by
  have hne : l.length ≠ 0 := by simpa using h0
  rw [toks_eq, gap_blank_app s hs h0 hg]
  simp only [List.drop_zero]
  rw [readT_blank hr (by omega) s x hs]
  simp only
  rw [if_neg (by simp), if_neg (by simp), if_neg hne, List.drop_left, hx]
  rfl

theorem toks_blank {x : List UInt8} (s : UInt8) (hs : bBlank s.toNat = true) : toks (s :: x) = toks x := by
  rw [toks_eq (s :: x), toks_eq x, gap_cons, if_pos hs]
  simp only
  have : (s :: x).drop (1 + (gap x).1) = x.drop (gap x).1 := by rw [Nat.add_comm, List.drop_succ_cons]
  rw [this]

theorem toks_nums (v : Nat) (hv : v < 4294967296) : toks (numsText v) = some [⟨3, kindOf32 v, v⟩, ⟨3, kindOf32 v, v⟩, ⟨3, uintText, v⟩, Tk.no] := by
  have hgd : gap (decText v) = (0, true) := by
    by_cases h0 : v = 0
    · subst h0
      have hT : decText 0 = [48, 117] := by unfold decText; rw [if_pos rfl]; rfl
      rw [hT]; exact gap_digit (by decide) (by decide)
    · obtain ⟨c, r, hcr, hc48⟩ := digs_head (b := 10) (by omega) (by omega) 32 v hv (by omega)
      have hT : decText v = c :: (r ++ [117]) := by unfold decText; rw [if_neg h0, hcr]; rfl
      rw [hT]
      obtain ⟨d, hd, he⟩ := digs_mem (b := 10) (by omega) (by omega) 32 v hv c (by rw [hcr]; simp)
      have := (sym_spec d (by omega)).2.2.1 hd
      rw [← he] at this
      refine gap_digit ?_ (by omega)
      simp only [bBlank, Bool.or_eq_false_iff, Bool.and_eq_false_iff, beq_eq_false_iff_ne, decide_eq_false_iff_not]; omega
  have h3 := toks_one hgd (read_dec v hv) (by simp [decText])
  have hgo : gap (octText v) = (0, true) := gap_digit (by decide) (by decide)
  have hgh : gap (hexText v) = (0, true) := gap_digit (by decide) (by decide)
  unfold numsText
  refine toks_more 32 (by decide) hgh (read_hex v hv) (by simp [hexText]) ?_
  rw [toks_blank 32 (by decide)]
  refine toks_more 32 (by decide) hgo (read_oct v hv) (by simp [octText]) ?_
  rw [toks_blank 32 (by decide)]
  exact h3

theorem scan_nums (v : Nat) (hv : v < 4294967296) : ∃ r, scan (numsText v) = .ok r ∧ r.map (·.tk) = [⟨3, kindOf32 v, v⟩, ⟨3, kindOf32 v, v⟩, ⟨3, uintText, v⟩, Tk.no] := by
  refine toks_scan ?_ (toks_nums v hv) (by simp)
  have h1 := digs_len (b := 16) (by omega) 32 v hv
  have h2 := digs_len (b := 8) (by omega) 32 v hv
  have h3 := digs_len (b := 10) (by omega) 32 v hv
  unfold numsText hexText octText decText
  simp only [List.length_append, List.length_cons, List.length_nil]
  split
  · simp only [List.length_cons, List.length_nil]; omega
  · omega
end Go.Proofs.YtjbmpdcgmphhoaaGreatDoor
