/-
  A token as text, on lists of bytes; what is written of a token is read as that token; what is read can be written.
-/
import Derived.Test.YtjbmpdcgmphhoaaGreatDoorDigs
import Derived.Test.YtjbmpdcgmphhoaaGreatDoorCanBe
import Derived.Lib.ItoaNum
namespace Go.Proofs.YtjbmpdcgmphhoaaGreatDoor
set_option linter.unusedVariables false

def numSuffix (kind : List UInt8) : List UInt8 := if kind == [108, 111, 110, 103] then [76] else if kind == [117, 110, 115, 105, 103, 110, 101, 100, 32, 105, 110, 116] then [85] else if kind == [117, 110, 115, 105, 103, 110, 101, 100, 32, 108, 111, 110, 103] then [85, 76] else []
def writeNumP (n : Int) (kind : List UInt8) : List UInt8 := Lib.itoa n ++ numSuffix kind
def quoteB (q c : UInt8) : List UInt8 :=
  if c = 10 then [92, 110] else if c = 92 ∨ c = q then [92, c] else if 32 ≤ c.toNat ∧ c.toNat ≤ 126 then [c]
  else [92, (48 + c.toNat / 64).toUInt8, (48 + c.toNat / 8 % 8).toUInt8, (48 + c.toNat % 8).toUInt8]
def quoteP (q : UInt8) (text : List UInt8) : List UInt8 := q :: (text.flatMap (quoteB q) ++ [q])
def byteOf (n : Int) : UInt8 := (n % 256).toNat.toUInt8
/-- A token's text. -/
def writeP (k n : Int) (text : List UInt8) : List UInt8 :=
  if k = 3 then writeNumP n text else if k = 4 then quoteP 39 [byteOf n] else if k = 5 then quoteP 34 text else text

theorem ofNat_sym : ∀ d, d < 10 → UInt8.ofNat (48 + d) = sym d := by decide +kernel
theorem decDigits_digs (u : Nat) : Lib.decDigits u = if u = 0 then [48] else digs 10 u := by
  induction u using Nat.strongRecOn with
  | _ u ih =>
    by_cases h : u < 10
    · rw [Lib.decDigits, dif_pos h, ofNat_sym u h]
      split
      · rename_i h0; subst h0; rfl
      · rename_i h0
        rw [digs_pos (by omega) (by omega), Nat.div_eq_of_lt h, digs_zero, Nat.mod_eq_of_lt h]; rfl
    · rw [Lib.decDigits, dif_neg h, ih (u / 10) (by omega), if_neg (by omega), if_neg (by omega), ofNat_sym _ (by omega)]
      rw [digs_pos (b := 10) (v := u) (by omega) (by omega)]

theorem mostOf_kinds {l : List UInt8} (h : 0 ≤ mostOf l) : l = [105, 110, 116] ∨ l = [108, 111, 110, 103] ∨ l = uintText ∨ l = [117, 110, 115, 105, 103, 110, 101, 100, 32, 108, 111, 110, 103] := by
  unfold mostOf at h
  split at h
  · rename_i h1; simp only [Bool.or_eq_true, beq_iff_eq] at h1
    rcases h1 with h1 | h1
    · exact .inl h1
    · exact .inr (.inl h1)
  split at h
  · rename_i h1; simp only [Bool.or_eq_true, beq_iff_eq] at h1
    rcases h1 with h1 | h1
    · exact .inr (.inr (.inl h1))
    · exact .inr (.inr (.inr h1))
  · omega

theorem num_dec (v : Nat) (kind : List UInt8) (h0 : 0 < v) (hm : (v : Int) ≤ mostOf kind) :
    numOk (digs 10 v ++ numSuffix kind) = true ∧ numKind (digs 10 v ++ numSuffix kind) = kind ∧ numVal (digs 10 v ++ numSuffix kind) = v := by
  have hk := mostOf_kinds (l := kind) (by omega)
  have hv : v < 4294967296 := by
    have h1 : mostOf kind ≤ 4294967295 := by unfold mostOf; split; omega; split <;> omega
    omega
  have hb := digs_base (b := 10) (by omega) (by omega) hv
  obtain ⟨c, r, hcr, hc48⟩ := digs_head (b := 10) (by omega) (by omega) 32 v hv h0
  have hp : ∀ y : UInt8, Lib.hasPrefix (digs 10 v ++ numSuffix kind) [48, y] = false := by
    intro y
    rw [hcr]
    simp only [List.cons_append, Lib.hasPrefix, List.isPrefixOf, Bool.and_eq_false_iff, beq_eq_false_iff_ne]
    left
    intro e; rw [← e] at hc48; exact hc48 rfl
  have hD : numDig (digs 10 v ++ numSuffix kind) = digs 10 v ++ numSuffix kind := by unfold numDig; rw [hp 120, hp 88]; rfl
  have hB : numBase (digs 10 v ++ numSuffix kind) = 10 := by
    unfold numBase; rw [hp 120, hp 88, hcr]
    have : ¬ c = 48 := by intro e; rw [e] at hc48; exact hc48 rfl
    simp [this]
  have hS : runLen (bBase 10) (numSuffix kind) = 0 := by
    rcases hk with rfl | rfl | rfl | rfl <;> decide
  have hL : numLen (digs 10 v ++ numSuffix kind) = (digs 10 v).length := by
    unfold numLen; rw [hD, hB, runLen_append _ _ _ fun c hc => (hb c hc).1, hS]; rfl
  have hV : numVal (digs 10 v ++ numSuffix kind) = v := by
    unfold numVal; rw [hD, hL, hB, List.take_left]
    exact digVal_digs (by omega) (by omega) 32 v hv (by omega)
  have hE : numEnd (digs 10 v ++ numSuffix kind) = low (numSuffix kind) := by unfold numEnd; rw [hD, hL, List.drop_left]
  have hU : numU (digs 10 v ++ numSuffix kind) = endU (low (numSuffix kind)) := by unfold numU; rw [hE, hB]; simp
  have hK : numKind (digs 10 v ++ numSuffix kind) = kind := by
    unfold numKind; rw [hU, hE]
    rcases hk with rfl | rfl | rfl | rfl <;> decide
  refine ⟨?_, hK, hV⟩
  unfold numOk
  rw [hK, hV, hE, hL]
  have hne : (digs 10 v).length ≠ 0 := by rw [hcr]; simp
  have hOk : endOk (low (numSuffix kind)) = true := by rcases hk with rfl | rfl | rfl | rfl <;> decide
  simp [hne, hOk, hm]

theorem num_zero (kind : List UInt8) (hm : 0 ≤ mostOf kind) :
    numOk ([48] ++ numSuffix kind) = true ∧ numKind ([48] ++ numSuffix kind) = kind ∧ numVal ([48] ++ numSuffix kind) = 0 := by
  rcases mostOf_kinds hm with rfl | rfl | rfl | rfl <;> decide

theorem suffix_name (kind : List UInt8) : ∀ c ∈ numSuffix kind, bName c.toNat = true := by
  unfold numSuffix
  split
  · decide
  split
  · decide
  split
  · decide
  · simp

theorem write_num (n : Int) (kind : List UInt8) (h0 : 0 ≤ n) (hm : n ≤ mostOf kind) :
    gap (writeNumP n kind) = (0, true) ∧ readT (writeNumP n kind) = (⟨3, kind, n⟩, (writeNumP n kind).length, 0) ∧ writeNumP n kind ≠ [] := by
  obtain ⟨v, rfl⟩ := Int.eq_ofNat_of_zero_le h0
  have hT : writeNumP v kind = (if v = 0 then [48] else digs 10 v) ++ numSuffix kind := by
    unfold writeNumP Lib.itoa
    rw [if_neg (by omega), decDigits_digs]; rfl
  rw [hT]
  by_cases hz : v = 0
  · subst hz
    rw [if_pos rfl]
    refine ⟨gap_digit (by decide) (by decide), ?_, by simp⟩
    refine readT_num 48 (numSuffix kind) rfl (by decide) ?_ (num_zero kind hm)
    intro x hx
    rcases List.mem_append.1 hx with h | h
    · simp only [List.mem_singleton] at h; subst h; decide
    · exact suffix_name kind x h
  · rw [if_neg hz]
    have hv : v < 4294967296 := by
      have h1 : mostOf kind ≤ 4294967295 := by unfold mostOf; split; omega; split <;> omega
      omega
    have hb := digs_base (b := 10) (by omega) (by omega) hv
    obtain ⟨c, r, hcr, hc48⟩ := digs_head (b := 10) (by omega) (by omega) 32 v hv (by omega)
    obtain ⟨d, hd, he⟩ := digs_mem (b := 10) (by omega) (by omega) 32 v hv c (by rw [hcr]; simp)
    have hc := (sym_spec d (by omega)).2.2.1 hd
    rw [← he] at hc
    have hN := num_dec v kind (by omega) hm
    refine ⟨?_, ?_, by rw [hcr]; simp⟩
    · rw [hcr]
      refine gap_digit ?_ (by omega)
      simp only [bBlank, Bool.or_eq_false_iff, Bool.and_eq_false_iff, beq_eq_false_iff_ne, decide_eq_false_iff_not]; omega
    · refine readT_num c (r ++ numSuffix kind) (by rw [hcr]; rfl) (by rw [he, (sym_spec d (by omega)).1]; exact hd) ?_ hN
      intro x hx
      rcases List.mem_append.1 hx with h | h
      · exact (hb x h).2.1
      · exact suffix_name kind x h

theorem oct_spec : ∀ n : Nat, n < 256 → Lib.indexByte escNames (48 + n / 64).toUInt8 = -1 ∧ ((48 + n / 64).toUInt8).toNat ≠ 120 ∧ bBase 8 ((48 + n / 64).toUInt8).toNat = true ∧ bBase 8 ((48 + n / 8 % 8).toUInt8).toNat = true ∧ bBase 8 ((48 + n % 8).toUInt8).toNat = true
    ∧ escdOf 8 3 [(48 + n / 64).toUInt8, (48 + n / 8 % 8).toUInt8, (48 + n % 8).toUInt8] = some (n, 3) := by decide +kernel

theorem esc_name {c : UInt8} {b k : Nat} (rest : List UInt8) (h1 : 0 ≤ Lib.indexByte escNames c) : escOf (c :: rest) = some ((escBytes.getD (Lib.indexByte escNames c).toNat 0).toNat, 1) := by
  unfold escOf; simp only; rw [if_pos h1]

theorem ofNat_toNat (c : UInt8) : c.toNat.toUInt8 = c := by simp

theorem unq_quoteB (q c : UInt8) (rest : List UInt8) (hq : q = 39 ∨ q = 34) : unq q.toNat (quoteB q c ++ rest) = (unq q.toNat rest).map fun x => (c :: x.1, (quoteB q c).length + x.2) := by
  have hq1 : (92 : UInt8).toNat ≠ q.toNat := by rcases hq with rfl | rfl <;> decide
  have hesc : ∀ (d : UInt8) (r : List UInt8), escOf (d :: rest) = some (c.toNat, 1) → unq q.toNat ([92, d] ++ rest) = (unq q.toNat rest).map fun x => (c :: x.1, [92, d].length + x.2) := by
    intro d _ h
    rw [show [92, d] ++ rest = 92 :: (d :: rest) from rfl, unq_cons, if_neg hq1, if_neg (by decide), if_pos (by decide), h]
    simp only [List.drop_succ_cons, List.drop_zero, ofNat_toNat]
    congr 1
  unfold quoteB
  split
  · rename_i h; subst h
    refine hesc 110 [] ?_
    rw [esc_name (b := 0) (k := 0) rest (by decide)]; rfl
  rename_i h10
  split
  · rename_i h
    refine hesc c [] ?_
    rcases h with h | h
    · subst h; rw [esc_name (b := 0) (k := 0) rest (by decide)]; rfl
    · subst h
      rcases hq with rfl | rfl
      · rw [esc_name (b := 0) (k := 0) rest (by decide)]; rfl
      · rw [esc_name (b := 0) (k := 0) rest (by decide)]; rfl
  rename_i h92
  have hne : ∀ y : UInt8, c ≠ y → c.toNat ≠ y.toNat := fun y h e => h (UInt8.toNat_inj.1 e)
  split
  · rw [show [c] ++ rest = c :: rest from rfl, unq_cons, if_neg (hne q (fun e => h92 (.inr e))), if_neg (show ¬ c.toNat = 10 from hne 10 h10), if_neg (show ¬ c.toNat = 92 from hne 92 (fun e => h92 (.inl e)))]
    rfl
  · obtain ⟨h1, h2, h3, h4, h5, h6⟩ := oct_spec c.toNat (UInt8.toNat_lt c)
    have hE : escOf ((48 + c.toNat / 64).toUInt8 :: (48 + c.toNat / 8 % 8).toUInt8 :: (48 + c.toNat % 8).toUInt8 :: rest) = some (c.toNat, 3) := by
      unfold escOf
      simp only
      rw [if_neg (by rw [h1]; omega), if_neg h2]
      have hr : runLen (bBase 8) (((48 + c.toNat / 64).toUInt8 :: (48 + c.toNat / 8 % 8).toUInt8 :: (48 + c.toNat % 8).toUInt8 :: rest).take 3) = 3 := by
        simp only [List.take_succ_cons, List.take_zero, runLen, h3, h4, h5, if_true]
      rw [hr]
      exact h6
    rw [show ∀ a b d : UInt8, [92, a, b, d] ++ rest = 92 :: (a :: b :: d :: rest) from fun _ _ _ => rfl, unq_cons, if_neg hq1, if_neg (by decide), if_pos (by decide), hE]
    simp only [List.drop_succ_cons, List.drop_zero, ofNat_toNat]
    congr 1

theorem unq_quote (q : UInt8) (hq : q = 39 ∨ q = 34) (rest : List UInt8) : ∀ text : List UInt8, unq q.toNat (text.flatMap (quoteB q) ++ q :: rest) = some (text, (text.flatMap (quoteB q)).length + 1)
  | [] => by rw [List.flatMap_nil, List.nil_append, unq_cons, if_pos rfl]; rfl
  | c :: text => by
    rw [List.flatMap_cons, List.append_assoc, unq_quoteB q c _ hq, unq_quote q hq rest text]
    simp only [Option.map_some, List.length_append]
    congr 2 <;> omega

theorem gap_quote (q : UInt8) (hq : q = 39 ∨ q = 34) (r : List UInt8) : gap (q :: r) = (0, true) := by
  rcases hq with rfl | rfl
  · exact gap_digit (by decide) (by decide)
  · exact gap_digit (by decide) (by decide)

theorem write_str (text : List UInt8) : gap (quoteP 34 text) = (0, true) ∧ readT (quoteP 34 text) = (⟨5, text, 0⟩, (quoteP 34 text).length, 0) ∧ quoteP 34 text ≠ [] := by
  have hu := unq_quote 34 (.inr rfl) [] text
  refine ⟨gap_quote 34 (.inr rfl) _, ?_, by simp [quoteP]⟩
  unfold quoteP
  simp only [readT]
  rw [if_neg (by decide), if_neg (by decide), if_pos (by decide), hu]
  simp only
  rw [if_pos (by decide)]
  simp only [List.length_cons, List.length_append, List.length_nil]
  congr 2
  omega

theorem sbyte_byteOf (n : Int) (h0 : -128 ≤ n) (h1 : n ≤ 127) : sbyte (byteOf n) = n := by
  have hb : (byteOf n).toNat = (n % 256).toNat := by
    unfold byteOf
    have : (n % 256).toNat < 256 := by omega
    simp; omega
  unfold sbyte
  rw [hb]
  split <;> omega

theorem write_chr (n : Int) (h0 : -128 ≤ n) (h1 : n ≤ 127) : gap (quoteP 39 [byteOf n]) = (0, true) ∧ readT (quoteP 39 [byteOf n]) = (⟨4, [], n⟩, (quoteP 39 [byteOf n]).length, 0) ∧ quoteP 39 [byteOf n] ≠ [] := by
  have hu := unq_quote 39 (.inl rfl) [] [byteOf n]
  refine ⟨gap_quote 39 (.inl rfl) _, ?_, by simp [quoteP]⟩
  unfold quoteP
  simp only [readT]
  rw [if_neg (by decide), if_neg (by decide), if_pos (by decide), hu]
  simp only
  rw [if_neg (by decide), sbyte_byteOf n h0 h1]
  simp only [List.length_cons, List.length_append, List.length_nil]
  congr 2
  omega

theorem tk_eta (x : Tk × Nat × Nat) (k n : Int) (t : List UInt8) (m : Nat) (h1 : x.1.kind = k) (h2 : x.1.text = t) (h3 : x.1.num = n) (h4 : x.2.1 = m) (h5 : x.2.2 = 0) : x = (⟨k, t, n⟩, m, 0) := by
  obtain ⟨⟨a, b, c⟩, d, e⟩ := x
  simp only at h1 h2 h3 h4 h5
  subst h1 h2 h3 h4 h5
  rfl

theorem write_signs : ∀ x ∈ signs, gap x = (0, true) ∧ (readT x).1.kind = 6 ∧ (readT x).1.text = x ∧ (readT x).1.num = 0 ∧ (readT x).2.1 = x.length ∧ (readT x).2.2 = 0 ∧ x ≠ [] ∧ signOf x = x := by decide +kernel
theorem write_words : ∀ x ∈ words, gap x = (0, true) ∧ (readT x).1.kind = 2 ∧ (readT x).1.text = x ∧ (readT x).1.num = 0 ∧ (readT x).2.1 = x.length ∧ (readT x).2.2 = 0 ∧ x ≠ [] := by decide +kernel

theorem isWord_mem {l : List UInt8} (h : isWord l = true) : l ∈ words := by
  unfold isWord at h
  simp only [List.any_eq_true, beq_iff_eq] at h
  obtain ⟨x, hx, rfl⟩ := h; exact hx
theorem signOf_mem {l : List UInt8} (h : signOf l ≠ []) : signOf l ∈ signs := List.mem_of_find?_eq_some (signOf_some h)

theorem letter_gap {n : Nat} (h : bLetter n = true) : bBlank n = false ∧ n ≠ 47 := by
  unfold bLetter at h
  simp only [Bool.or_eq_true, Bool.and_eq_true, decide_eq_true_eq, beq_iff_eq] at h
  unfold bBlank
  simp only [Bool.or_eq_false_iff, Bool.and_eq_false_iff, beq_eq_false_iff_ne, decide_eq_false_iff_not]
  omega

theorem write_name (l : List UInt8) (h : isName l = true) : gap l = (0, true) ∧ readT l = (⟨1, l, 0⟩, l.length, 0) ∧ l ≠ [] := by
  cases l with
  | nil => cases h
  | cons c r =>
    simp only [isName, Bool.and_eq_true, decide_eq_true_eq, beq_iff_eq, Bool.not_eq_true'] at h
    obtain ⟨⟨⟨h1, h2⟩, h3⟩, h4⟩ := h
    have hg := letter_gap h1
    refine ⟨gap_digit hg.1 hg.2, ?_, by simp⟩
    have hn : nameOf (c :: r) = c :: r := by unfold nameOf; rw [h3, List.take_length]
    simp only [readT]
    rw [if_pos h1, h3, if_neg (by omega), hn, h4]
    rfl

/-- What is written of a token that can be is read as that token. -/
theorem write_back (k n : Int) (text : List UInt8) (h : canBeP k n text = true) (hk : k ≠ 0) :
    gap (writeP k n text) = (0, true) ∧ readT (writeP k n text) = (⟨k, text, n⟩, (writeP k n text).length, 0) ∧ writeP k n text ≠ [] := by
  unfold canBeP at h
  unfold writeP
  split at h
  · rename_i h3; subst h3
    rw [if_pos rfl]
    simp only [Bool.and_eq_true, decide_eq_true_eq] at h
    exact write_num n text h.1 h.2
  rename_i h3
  rw [if_neg h3]
  split at h
  · rename_i h4; subst h4
    rw [if_pos rfl]
    simp only [Bool.and_eq_true, decide_eq_true_eq, List.isEmpty_iff] at h
    obtain ⟨⟨rfl, h5⟩, h6⟩ := h
    exact write_chr n h5 h6
  rename_i h4
  rw [if_neg h4]
  simp only [Bool.and_eq_true, decide_eq_true_eq] at h
  obtain ⟨rfl, h⟩ := h
  unfold canHaveP at h
  rw [if_neg hk] at h
  split at h
  · rename_i h1; subst h1
    rw [if_neg (by omega)]
    exact write_name text h
  split at h
  · rename_i h2; subst h2
    rw [if_neg (by omega)]
    obtain ⟨a, b, c, d, e, f, g⟩ := write_words text (isWord_mem h)
    exact ⟨a, tk_eta _ _ _ _ _ b c d e f, g⟩
  split at h
  · rename_i h5; subst h5
    rw [if_pos rfl]
    exact write_str text
  split at h
  · rename_i h6; subst h6
    rw [if_neg (by omega)]
    simp only [Bool.and_eq_true, Bool.not_eq_true', beq_iff_eq] at h
    have hne : signOf text ≠ [] := by rw [h.2]; intro e; rw [e] at h; simp at h
    have hm := signOf_mem hne
    rw [h.2] at hm
    obtain ⟨a, b, c, d, e, f, g, _⟩ := write_signs text hm
    exact ⟨a, tk_eta _ _ _ _ _ b c d e f, g⟩
  · cases h

theorem write_end (n : Int) (text : List UInt8) (h : canBeP 0 n text = true) : text = [] ∧ n = 0 ∧ writeP 0 n text = [] := by
  simp [canBeP, canHaveP] at h
  obtain ⟨rfl, rfl⟩ := h
  simp [writeP]

/-- What is read can be. -/
theorem read_canBe (l : List UInt8) (h : (readT l).2.2 = 0) : canBeP (readT l).1.kind (readT l).1.num (readT l).1.text = true := by
  cases l with
  | nil => decide
  | cons c r =>
    simp only [readT] at h ⊢
    split at h
    · rename_i hl
      rw [if_pos hl]
      split at h
      · simp at h
      · rename_i h63
        rw [if_neg h63]
        simp only
        split
        · rename_i hw
          simp [canBeP, canHaveP, hw]
        · rename_i hw
          have hnm : isName (nameOf (c :: r)) = true := by
            have hpos := runLen_pos (r := r) (letter_name hl)
            have hlen : (nameOf (c :: r)).length = runLen bName (c :: r) := by unfold nameOf; rw [List.length_take]; have := runLen_le bName (c :: r); omega
            have hall : runLen bName (nameOf (c :: r)) = (nameOf (c :: r)).length := by
              rw [hlen]; unfold nameOf; rw [runLen_take]; omega
            have hhd : ∃ r', nameOf (c :: r) = c :: r' := by
              unfold nameOf
              obtain ⟨k, hk⟩ : ∃ k, runLen bName (c :: r) = k + 1 := ⟨runLen bName (c :: r) - 1, by omega⟩
              rw [hk, List.take_succ_cons]; exact ⟨_, rfl⟩
            obtain ⟨r', hr'⟩ := hhd
            rw [hr'] at hall hlen hw ⊢
            simp only [isName, hl, hall, Bool.true_and, beq_self_eq_true, Bool.and_true, Bool.and_eq_true, decide_eq_true_eq, Bool.not_eq_true']
            exact ⟨by rw [hlen]; omega, by simpa using hw⟩
          simp [canBeP, canHaveP, hnm]
    rename_i hl
    rw [if_neg hl]
    split at h
    · rename_i hd
      rw [if_pos hd]
      split at h
      · rename_i hok
        rw [if_pos hok]
        unfold numOk at hok
        simp only [Bool.and_eq_true, decide_eq_true_eq] at hok
        simp [canBeP, hok.2]
      · simp at h
    rename_i hd
    rw [if_neg hd]
    split at h
    · rename_i hq
      rw [if_pos hq]
      rcases hu : unq c.toNat r with _ | ⟨t, m⟩
      · rw [hu] at h; simp at h
      · rw [hu] at h
        simp only at h ⊢
        split at h
        · rename_i h34
          rw [if_pos h34]
          simp [canBeP, canHaveP]
        · rename_i h34
          rw [if_neg h34]
          split at h
          · rename_i b
            have hb := UInt8.toNat_lt b
            have : -128 ≤ sbyte b ∧ sbyte b ≤ 127 := by unfold sbyte; split <;> omega
            simp [canBeP, this.1, this.2]
          · simp at h
    rename_i hq
    rw [if_neg hq]
    split at h
    · simp at h
    · rename_i hs
      rw [if_neg hs]
      have hne : signOf (c :: r) ≠ [] := fun e => hs (by simp [e])
      have hss := (write_signs _ (signOf_mem hne)).2.2.2.2.2.2.2
      simp [canBeP, canHaveP, hss, hne]
end Go.Proofs.YtjbmpdcgmphhoaaGreatDoor
