/-
  What a call writes, and its operands, are read: target, field at T and L of package tac's reader.
  Numbers and lines that were written are read again: digits, words, lines.
-/
import Derived.Test.YtaaphipbkpjkjaaGreatDoorKQ
import Derived.Lib.AtoiAllCases
import Derived.Lib.ParseIntBCases
import Derived.Test.YtaaphipbkpjkjaaGreatDoorTeH
namespace Go.Proofs.YtaaphipbkpjkjaaGreatDoor
open Go.RowKit Go.Maps
set_option linter.unusedVariables false
set_option linter.unusedSimpArgs false
set_option maxRecDepth 100000
theorem parseM_snoc (M : Nat) (c : UInt8) : ∀ (l : List UInt8) (a v : Nat), Lib.parseUintM M a l = .ok v → Lib.parseUintM M a (l ++ [c]) = Lib.parseUintM M v [c]
  | [], a, v, h => by
    simp only [Lib.parseUintM] at h
    injection h with h
    subst h; rfl
  | d :: r, a, v, h => by
    rw [Lib.parseUintM] at h
    rw [List.cons_append, Lib.parseUintM]
    split at h
    · rename_i h1
      rw [if_pos h1]
      split at h
      · cases h
      · rename_i h2
        rw [if_neg h2]
        split at h
        · cases h
        · rename_i h3
          rw [if_neg h3]
          exact parseM_snoc M c r _ v h
    · cases h
theorem u8dig {d : Nat} (h : d < 10) : (UInt8.ofNat (48 + d)).toNat = 48 + d := by
  rw [UInt8.toNat_ofNat']; omega
theorem parseM_dec {M : Nat} (hM : M < 18446744073709551616) (u : Nat) (h : u ≤ M) : Lib.parseUintM M 0 (Lib.decDigits u) = .ok u := by
  induction u using Nat.strongRecOn with
  | _ u ih =>
    have one : ∀ (a d : Nat), d < 10 → a * 10 + d ≤ M → Lib.parseUintM M a [UInt8.ofNat (48 + d)] = .ok (a * 10 + d) := fun a d hd hm => by
      rw [Lib.parseUintM, u8dig hd, if_pos (by omega), if_neg (by omega), if_neg (by omega)]
      simp only [Lib.parseUintM]
      congr 1
      omega
    by_cases hu : u < 10
    · rw [Lib.decDigits, dif_pos hu, one 0 u hu (by omega)]; congr 1; omega
    · rw [Lib.decDigits, dif_neg hu, parseM_snoc M _ _ 0 (u / 10) (ih (u / 10) (by omega) (by omega)), one (u / 10) (u % 10) (by omega) (by omega)]
      congr 1; omega
theorem dec_dig (u : Nat) : ∀ c ∈ Lib.decDigits u, 48 ≤ c.toNat ∧ c.toNat ≤ 57 := by
  induction u using Nat.strongRecOn with
  | _ u ih =>
    intro c hc
    by_cases hu : u < 10
    · rw [Lib.decDigits, dif_pos hu] at hc
      simp only [List.mem_cons, List.not_mem_nil, or_false] at hc
      rw [hc, u8dig hu]; omega
    · rw [Lib.decDigits, dif_neg hu] at hc
      rcases List.mem_append.1 hc with hc | hc
      · exact ih (u / 10) (by omega) c hc
      · simp only [List.mem_cons, List.not_mem_nil, or_false] at hc
        rw [hc, u8dig (by omega)]; omega
theorem dec_ne (u : Nat) : Lib.decDigits u ≠ [] := by
  rw [Lib.decDigits]
  split <;> simp
theorem parseMag_dec {u : Nat} (h : u < 18446744073709551616) : Lib.parseMag (Lib.decDigits u) = .ok u := by
  rw [← Lib.parseUintB_64, Lib.parseUintB, if_neg (dec_ne u)]
  exact parseM_dec (by decide) u (by omega)
theorem atoi_itoa {n : Int} (h0 : -9223372036854775808 ≤ n) (h1 : n ≤ 9223372036854775807) : Lib.atoiAll (Lib.itoa n) = .ok n := by
  unfold Lib.itoa
  by_cases hn : n < 0
  · rw [if_pos hn, Lib.atoiAll]
    simp only [show (45 : UInt8).toNat = 45 from rfl, or_true, if_true, parseMag_dec (show n.natAbs < 18446744073709551616 by omega)]
    simp only [not_true, false_and, if_false, true_and]
    rw [if_neg (by omega)]
    congr 1; omega
  · rw [if_neg hn]
    obtain ⟨c, r, e⟩ : ∃ c r, Lib.decDigits n.toNat = c :: r := by
      cases e : Lib.decDigits n.toNat with
      | nil => exact absurd e (dec_ne _)
      | cons c r => exact ⟨c, r, rfl⟩
    have hc := dec_dig n.toNat c (by rw [e]; exact List.mem_cons_self)
    have hp := parseMag_dec (show n.toNat < 18446744073709551616 by omega)
    rw [e] at hp ⊢
    rw [Lib.atoiAll_plain c r (by omega) (by omega), hp]
    show (if 9223372036854775808 ≤ n.toNat then Lib.NumEnd.range else Lib.NumEnd.ok (n.toNat : Int)) = _
    rw [if_neg (by omega)]
    congr 1; omega
theorem parse32 {u : Nat} (h : u < 4294967296) : Lib.parseUintB 32 (Lib.decDigits u) = .ok u := by
  rw [Lib.parseUintB, if_neg (dec_ne u)]
  exact parseM_dec (by decide) u (by omega)
def joinC (c : UInt8) : List ByteArray → List UInt8
  | [] => []
  | a :: r => a.data.toList ++ (if r = [] then [] else c :: joinC c r)
theorem idx_miss {c : UInt8} {l : List UInt8} (h : c ∉ l) : Lib.index l [c] = -1 := Lib.index_none fun j hj => by
  unfold Lib.occAt
  cases e : l.drop j with
  | nil => rfl
  | cons d r =>
    have hd : d ∈ l := List.mem_of_mem_drop (by rw [e]; exact List.mem_cons_self)
    show (c == d && List.isPrefixOf [] r) = false
    have : (c == d) = false := by rw [beq_eq_false_iff_ne]; rintro rfl; exact h hd
    rw [this]; rfl
theorem idx_hit {c : UInt8} {l r : List UInt8} (h : c ∉ l) : Lib.index (l ++ c :: r) [c] = (l.length : Int) := Lib.index_first (by simp) (by simp [Lib.occAt, List.isPrefixOf]) fun j hj => by
  unfold Lib.occAt
  cases e : (l ++ c :: r).drop j with
  | nil => rfl
  | cons d q =>
    have hd : d ∈ l := by
      have : (l ++ c :: r)[j]? = some d := by rw [← List.head?_drop, e]; rfl
      rw [List.getElem?_append_left hj] at this
      exact List.mem_of_getElem? this
    show (c == d && List.isPrefixOf [] q) = false
    have : (c == d) = false := by rw [beq_eq_false_iff_ne]; rintro rfl; exact h hd
    rw [this]; rfl
theorem ba_ext {a b : ByteArray} (h : a.data.toList = b.data.toList) : a = b := by
  obtain ⟨⟨a⟩⟩ := a; obtain ⟨⟨b⟩⟩ := b
  simp only at h; rw [h]
theorem sB_data (s : ByteArray) : sB s.data.toList = s := ba_ext rfl
theorem sB_toList (l : List UInt8) : (sB l).data.toList = l := rfl
theorem splitL_join (c : UInt8) : ∀ (l : List ByteArray), l ≠ [] → (∀ s ∈ l, c ∉ s.data.toList) → splitL (sB (joinC c l)) c = l
  | [], h, _ => absurd rfl h
  | [a], _, h => by
    have e : sB (joinC c [a]) = a := ba_ext (by simp [joinC, sB])
    rw [e]
    have hi : Lib.indexB a ⟨#[c]⟩ = -1 := idx_miss (h a List.mem_cons_self)
    unfold splitL
    rw [Lib.splitB_miss _ _ _ _ hi]
  | a :: b :: r, _, h => by
    have ih := splitL_join c (b :: r) (by simp) (fun s hs => h s (List.mem_cons_of_mem _ hs))
    have e : (sB (joinC c (a :: b :: r))).data.toList = a.data.toList ++ c :: joinC c (b :: r) := by
      rw [sB_toList, joinC, if_neg (by simp)]
    have hi : Lib.indexB (sB (joinC c (a :: b :: r))) ⟨#[c]⟩ = (a.data.toList.length : Int) := by
      unfold Lib.indexB
      rw [e]
      exact idx_hit (h a List.mem_cons_self)
    have e1 : (sB (joinC c (a :: b :: r))).extract 0 (a.data.toList.length + 0) = a := ba_ext (by
      rw [Lib.extract_data, e]; simp)
    have e2 : (sB (joinC c (a :: b :: r))).extract (a.data.toList.length + (⟨#[c]⟩ : ByteArray).size) (sB (joinC c (a :: b :: r))).size = sB (joinC c (b :: r)) := ba_ext (by
      rw [Lib.extract_to_end, e, show (⟨#[c]⟩ : ByteArray).size = 1 from rfl, sB_toList]
      simp [List.drop_append])
    unfold splitL at ih ⊢
    rw [Lib.countB_hit _ _ _ (by show 1 ≤ 1; exact Nat.le_refl _) hi, Nat.add_comm 1, Lib.splitB_hit _ _ _ _ _ hi, e1, e2, ih]
/-- A word without blanks and ends of lines. -/
def Cl (s : ByteArray) : Prop := ∀ c ∈ s.data.toList, 33 ≤ c.toNat
theorem Cl.no {s : ByteArray} (h : Cl s) {c : UInt8} (hc : c.toNat < 33) : c ∉ s.data.toList := fun hm => by have := h c hm; omega
theorem cl_nat (u : Nat) : Cl (natS u) := fun c hc => by have := dec_dig u c hc; omega
theorem cl_dec (n : Int) : Cl (decS n) := fun c hc => by
  have hc : c ∈ Lib.itoa n := hc
  unfold Lib.itoa at hc
  split at hc
  · rcases List.mem_cons.1 hc with rfl | hc
    · decide
    · have := dec_dig _ c hc; omega
  · have := dec_dig _ c hc; omega
theorem pre_data (c : UInt8) (s : ByteArray) : (pre c s).data.toList = c :: s.data.toList := by
  have e : (ByteArray.append ⟨#[c]⟩ s).data.toList = (⟨#[c]⟩ : ByteArray).data.toList ++ s.data.toList := by simp
  exact e
theorem cl_pre {c : UInt8} (hc : 33 ≤ c.toNat) {s : ByteArray} (h : Cl s) : Cl (pre c s) := fun d hd => by
  rw [pre_data] at hd
  rcases List.mem_cons.1 hd with rfl | hd
  · exact hc
  · exact h d hd
theorem cl_sB {l : List UInt8} (h : ∀ c ∈ l, 33 ≤ c.toNat) : Cl (sB l) := h
theorem cl_tag {s : ByteArray} (h : tagP s.data.toList = true) : Cl s := fun c hc => by
  unfold tagP at h
  rcases (Bool.or_eq_true _ _).mp h with h | h
  · unfold nameP at h
    split at h
    · cases h
    · rename_i d r e
      rw [← e] at h
      simp only [Bool.and_eq_true, nameL, List.all_eq_true] at h
      have := h.2 c hc
      simp only [tChar, tLetter, tDigit, Bool.or_eq_true, Bool.and_eq_true, decide_eq_true_eq, beq_iff_eq] at this
      omega
  · unfold numbP at h
    simp only [Bool.and_eq_true] at h
    have h2 := h.2
    split at h2
    · cases h2
    · rename_i d r e
      rw [e] at hc
      simp only [Bool.and_eq_true, digL, List.all_eq_true, beq_iff_eq] at h2
      rcases List.mem_cons.1 hc with rfl | hc
      · omega
      · have := h2.2 c hc
        simp only [tDigit, Bool.and_eq_true, decide_eq_true_eq] at this
        omega
theorem cl_tgt (d : Int) : Cl (tgtW d) := by
  unfold tgtW
  split
  · exact fun c hc => by
      have hc : c ∈ [(45 : UInt8)] := hc
      simp only [List.mem_cons, List.not_mem_nil, or_false] at hc
      rw [hc]; decide
  · exact cl_pre (by decide) (cl_dec d)
theorem cl_op {a : Ar} : ∀ s ∈ opW a, Cl s := fun s hs => by
  unfold opW at hs
  split at hs
  · simp at hs; subst hs; exact cl_pre (by decide) (cl_nat _)
  · split at hs
    · simp at hs; subst hs; exact cl_pre (by decide) (cl_nat _)
    · simp at hs
/-! Numbers read again. -/
theorem numOf_dec {n : Int} (h : I64 n) : numOf (decS n) = some n := by
  unfold numOf
  rw [show (decS n).data.toList = Lib.itoa n from rfl, atoi_itoa h.1 h.2]
  simp
theorem num64_dec {n : Int} (h : I64 n) : num64 (decS n) = some n := by
  unfold num64
  rw [numOf_dec h]
  show (if -9223372036854775808 ≤ n ∧ n ≤ 9223372036854775807 then some n else none) = some n
  rw [if_pos ⟨h.1, h.2⟩]
theorem trim_pre (c : UInt8) (s : ByteArray) : Lib.hasPrefix (pre c s).data.toList [c] = true ∧ (⟨(Lib.trimPrefix (pre c s).data.toList [c]).toArray⟩ : ByteArray) = s := by
  rw [pre_data]
  have h : Lib.hasPrefix (c :: s.data.toList) [c] = true := by simp [Lib.hasPrefix, List.isPrefixOf]
  refine ⟨h, ba_ext ?_⟩
  unfold Lib.trimPrefix
  rw [if_pos h]
  simp
theorem tmp64_pre {n : Int} (h0 : 0 ≤ n) (h1 : n ≤ 9223372036854775807) : tmp64 (pre 116 (decS n)) = some n := by
  have e : tmpOf (pre 116 (decS n)) = some n := by
    unfold tmpOf
    rw [if_pos (trim_pre 116 _).1, (trim_pre 116 _).2, numOf_dec ⟨by omega, h1⟩]
    simp only
    rw [if_pos h0]
  unfold tmp64
  rw [e]
  simp only
  rw [if_pos h1]
theorem bitOf_nat {u : Nat} (h : u < 4294967296) : bitOf (natS u) = some u := by
  unfold bitOf
  rw [show (natS u).data.toList = Lib.decDigits u from rfl, parse32 h]
  simp [h]
theorem opOf_w {a : Ar} (h : ArOK a) (hk : a.kind = 1 ∨ a.kind = 2) : ∃ s, opW a = [s] ∧ opOf s = some a := by
  obtain ⟨k, n⟩ := a
  have h0 : 0 ≤ n := h.1
  have h1 : n < 4294967296 := h.2
  have h2 : n.toNat < 4294967296 := by omega
  have e : ((n.toNat : Nat) : Int) = n := by omega
  simp only at hk
  rcases hk with rfl | rfl
  · refine ⟨_, rfl, ?_⟩
    unfold opOf
    have hn : Lib.hasPrefix (pre 116 (natS n.toNat)).data.toList [35] = false := by rw [pre_data]; simp [Lib.hasPrefix, List.isPrefixOf]
    rw [if_neg (by rw [hn]; simp), if_pos (trim_pre 116 _).1, (trim_pre 116 _).2, bitOf_nat h2]
    simp [e]
  · refine ⟨_, rfl, ?_⟩
    unfold opOf
    rw [if_pos (trim_pre 35 _).1, (trim_pre 35 _).2, bitOf_nat h2]
    simp [e]
/-! Lines. -/
theorem wT_join : ∀ (ws : List ByteArray) (i : Nat), wT i ws = (if i = 0 ∨ ws = [] then [] else [32]) ++ joinC 32 ws
  | [], i => by simp [wT, joinC]
  | s :: r, i => by
    have ih := wT_join r (i + 1)
    simp only [wT, sepW, ih, joinC]
    by_cases h0 : i = 0
    · by_cases hr : r = [] <;> simp [h0, hr, joinC]
    · by_cases hr : r = [] <;> simp [h0, hr, joinC]
/-- A line of words. -/
def lnB (ws : List ByteArray) : ByteArray := sB (joinC 32 ws)
theorem lineT_ln (ws : List ByteArray) : lineT ws = (lnB ws).data.toList ++ [10] := by
  unfold lineT lnB
  rw [wT_join, sB_toList]
  simp
theorem lines_join : ∀ (ls : List (List ByteArray)), ls ≠ [] → ls.flatMap lineT = joinC 10 (ls.map lnB) ++ [10]
  | [], h => absurd rfl h
  | [a], _ => by simp [lineT_ln, joinC]
  | a :: b :: r, _ => by
    have ih := lines_join (b :: r) (by simp)
    rw [List.flatMap_cons, ih, lineT_ln]
    simp [joinC]
theorem joinC_mem {c d : UInt8} : ∀ {l : List ByteArray}, d ∈ joinC c l → d = c ∨ ∃ s ∈ l, d ∈ s.data.toList
  | [], h => by cases h
  | a :: r, h => by
    unfold joinC at h
    rcases List.mem_append.1 h with h | h
    · exact Or.inr ⟨a, List.mem_cons_self, h⟩
    · split at h
      · cases h
      · rcases List.mem_cons.1 h with h | h
        · exact Or.inl h
        · rcases joinC_mem h with h | ⟨s, hs, h⟩
          · exact Or.inl h
          · exact Or.inr ⟨s, List.mem_cons_of_mem _ hs, h⟩
/-- A line that can be read again. -/
structure LnOK (ws : List ByteArray) : Prop where
  ne : ws ≠ []
  cl : ∀ s ∈ ws, Cl s
theorem ln_no10 {ws : List ByteArray} (h : LnOK ws) : (10 : UInt8) ∉ (lnB ws).data.toList := fun hm => by
  rcases joinC_mem hm with e | ⟨s, hs, hd⟩
  · exact absurd e (by decide)
  · exact (h.cl s hs).no (c := 10) (by decide) hd
theorem split_ln {ws : List ByteArray} (h : LnOK ws) : splitL (lnB ws) 32 = ws := splitL_join 32 ws h.ne fun s hs => (h.cl s hs).no (by decide)
theorem cut_ln {s : ByteArray} {r : List ByteArray} (h : Cl s) : cutW (lnB (s :: r)) = s := by
  apply ba_ext
  show (Lib.cut (joinC 32 (s :: r)) [32]).1 = _
  unfold Lib.cut
  by_cases hr : r = []
  · have e : joinC 32 (s :: r) = s.data.toList := by simp [joinC, hr]
    rw [e, if_neg (by rw [idx_miss (h.no (by decide))]; decide)]
  · have e : joinC 32 (s :: r) = s.data.toList ++ 32 :: joinC 32 r := by simp [joinC, hr]
    rw [e, idx_hit (h.no (by decide)), if_pos (by omega)]
    simp
theorem split_lines {ls : List (List ByteArray)} (h : ls ≠ []) (hl : ∀ l ∈ ls, LnOK l) : splitL (sB (joinC 10 (ls.map lnB))) 10 = ls.map lnB :=
  splitL_join 10 _ (by simpa using h) fun s hs => by
    obtain ⟨l, hl', rfl⟩ := List.mem_map.1 hs
    exact ln_no10 (hl l hl')
/-- A text of lines, without its last end of a line. -/
theorem trim_lines {ls : List (List ByteArray)} (h : ls ≠ []) : Lib.hasSuffix (ls.flatMap lineT) [10] = true ∧ (⟨(Lib.trimSuffix (ls.flatMap lineT) [10]).toArray⟩ : ByteArray) = sB (joinC 10 (ls.map lnB)) := by
  rw [lines_join ls h]
  have hs : Lib.hasSuffix (joinC 10 (ls.map lnB) ++ [10]) [10] = true := by
    show List.isSuffixOf [10] _ = true
    rw [List.isSuffixOf_iff_suffix]
    exact ⟨_, rfl⟩
  refine ⟨hs, ba_ext ?_⟩
  show Lib.trimSuffix _ _ = _
  unfold Lib.trimSuffix
  rw [if_pos hs]
  simp [sB]
end Go.Proofs.YtaaphipbkpjkjaaGreatDoor
namespace Go.Proofs.YtaaphipbkpjkjaaGreatDoor
open Go.RowKit Go.Maps
set_option linter.unusedVariables false
set_option linter.unusedSimpArgs false
set_option maxRecDepth 100000
section
variable {w : World} {rb mb xb : Nat} {ls ws : List ByteArray}
set_option maxHeartbeats 4000000 in
theorem target_no {s : ByteArray} {r : List ByteArray} (hR : RdT w rb mb ls (s :: r)) (hs : s = ⟨#[45]⟩) :
    Calls Tryz.prog 159 #[.pointer (some ⟨rb, 0, none⟩)] w fun e w' => e = .returned (.int .i64 (-1)) ∧ RdT w' rb mb ls r ∧ Turned w w' (fun k => k = rb) := by
  subst hs
  have cW := word_c hR
  obtain ⟨⟨lp, lc, wp, wc, hg, hl, hw⟩, hm, hll, hwl⟩ := hR
  obtain ⟨g, o, cs, rfl, hc1, hgs, ho, _⟩ := hw.tail
  have hln : ((⟨#[45]⟩ : ByteArray) :: r).length = r.length + 1 := rfl
  rw [hln] at hg
  have c1 := (Lib.cell_of_heap hg 1).trans rfl
  have a0 := (Lib.cell_of_heap hgs o).trans ho
  have d1 : decide ((0 : Int) < ((r.length : Int) + 1)) = true := by first | (simp; omega) | simp
  have d2 : decide ((r.length : Int) + 1 > 0) = true := by first | (simp; omega) | simp
  clear hg hl hw hm hll hwl hgs ho hln
  go_enter Tryz.func159, Tryz.ntmps159
  go_wp2_with (first | (go_at_call 119; refine cW.mono ?_; rintro e w1 ⟨rfl, hR1, hT1⟩; have HR1 : Hid (RdT w1 rb mb ls r) := hR1; have HT1 : Hid (Turned w w1 (fun k => k = rb)) := hT1; clear hR1 hT1 cW) | fail)
  go_ret
  exact ⟨rfl, HR1.out, HT1.out⟩
set_option maxHeartbeats 4000000 in
theorem target_yes (hX : Tabs w) (hrb : 10 ≤ rb) {s : ByteArray} {r : List ByteArray} (hR : RdT w rb mb ls (s :: r)) (hs : (s.toList == [45]) = false) {n : Int} (h : tmpOf s = some n) (hn1 : n ≤ 9223372036854775807) :
    Calls Tryz.prog 159 #[.pointer (some ⟨rb, 0, none⟩)] w fun e w' => e = .returned (.int .i64 n) ∧ RdT w' rb mb ls r ∧ Turned w w' (fun k => k = rb) := by
  have cW := temp2_c hX hrb hR h hn1
  obtain ⟨⟨lp, lc, wp, wc, hg, hl, hw⟩, hm, hll, hwl⟩ := hR
  obtain ⟨g, o, cs, rfl, hc1, hgs, ho, _⟩ := hw.tail
  have hln : (s :: r).length = r.length + 1 := rfl
  rw [hln] at hg
  have c1 := (Lib.cell_of_heap hg 1).trans rfl
  have a0 := (Lib.cell_of_heap hgs o).trans ho
  have d1 : decide ((0 : Int) < ((r.length : Int) + 1)) = true := by first | (simp; omega) | simp
  have d2 : decide ((r.length : Int) + 1 > 0) = true := by first | (simp; omega) | simp
  clear hg hl hw hm hll hwl hgs ho hln h hX
  go_enter Tryz.func159, Tryz.ntmps159
  go_wp2_with (first | (go_at_call 158; refine cW.mono ?_; rintro e w1 ⟨rfl, hR1, hT1⟩; have HR1 : Hid (RdT w1 rb mb ls r) := hR1; have HT1 : Hid (Turned w w1 (fun k => k = rb)) := hT1; clear hR1 hT1 cW) | fail)
  go_ret
  exact ⟨rfl, HR1.out, HT1.out⟩
theorem Tabs.turnedS {w w' : World} {S : Nat → Prop} (h : Tabs w) (ht : Turned w w' S) (hS : ¬ S 2) : Tabs w' := by
  unfold Tabs Lib.TabIs World.var? at h ⊢
  have hg : Tryz.prog.globalNamed "internal/strconv.uint64pow10" = some 2 := by kernel_rfl
  rw [hg] at h ⊢
  simp only [Option.bind_some] at h ⊢
  have hlt : 2 < w.heap.size := by
    rcases Nat.lt_or_ge 2 w.heap.size with h' | h'
    · exact h'
    · rw [Array.getElem?_eq_none h'] at h; cases h
  rw [ht.block _ hlt hS]; exact h
set_option maxHeartbeats 4000000 in
theorem field_84 (hX : Tabs w) (hrb : 10 ≤ rb) {op bin d ak an bk bn n off width : Int} {sg : Bool} {args : List Ar} {sp : Option Addr} {sn sc : Nat} (hx : w.heap[xb]? = some (.cells #[.int .i64 op, .int .i64 bin, .int .i64 d, .int .i64 ak, .int .u32 an, .int .i64 bk, .int .u32 bn, .int .i64 n, .int .i64 off, .int .i64 width, .bool sg, .slice sp sn sc] TIn (0, 0))) (hxr : xb ≠ rb) {v : Int} (h0 : -1 ≤ v) (h1 : v ≤ 9223372036854775807) {r : List ByteArray} (hR : RdT w rb mb ls (tgtW v :: r)) :
    Calls Tryz.prog 143 #[.pointer (some ⟨rb, 0, none⟩), .pointer (some ⟨xb, 0, none⟩), .int .i32 84] w fun e w' => e = .returned (.tuple #[]) ∧ FldP w w' rb mb xb ls r ⟨op, bin, v, ⟨ak, an⟩, ⟨bk, bn⟩, n, off, width, sg, args⟩ (.slice sp sn sc) := by
  have cC : Calls Tryz.prog 159 #[.pointer (some ⟨rb, 0, none⟩)] w fun e w' => e = .returned (.int .i64 v) ∧ RdT w' rb mb ls r ∧ Turned w w' (fun k => k = rb) := by
    by_cases hv : v < 0
    · obtain rfl : v = -1 := by omega
      exact target_no hR rfl
    · refine target_yes hX hrb hR ?_ ?_ h1
      · unfold tgtW
        rw [if_neg hv, Lib.toList_data, pre_data]
        simp
      · have := tmp64_pre (n := v) (by omega) h1
        unfold tgtW
        rw [if_neg hv]
        exact (tmp64_ok this).1
  have HXX : Hid (_ = _) := hx
  clear hX hR hx
  go_enter Tryz.func143, Tryz.ntmps143
  go_wp2_with (first | (go_at_call 159; refine cC.mono ?_; rintro e w1 ⟨rfl, hR1, hT1⟩; have hx1 := blk_t HXX.out hT1 hxr; have z2 := (Lib.cell_of_heap hx1 2).trans rfl; have y2 := frozen_of hx1 2; have HX1 : Hid (_ = _) := hx1; have HR1 : Hid (RdT w1 rb mb ls r) := hR1; have HT1 : Hid (Turned w w1 (fun k => k = rb)) := hT1; clear hR1 hT1 cC hx1) | fail)
  go_end0
  exact ⟨rfl, fldP_put (x := ⟨op, bin, d, ⟨ak, an⟩, ⟨bk, bn⟩, n, off, width, sg, args⟩) (j := 2) HX1.out HR1.out HT1.out rfl rfl⟩
def wordsAt (w : World) (rb : Nat) : Nat := match w.cell? ⟨rb, 1, none⟩ with
  | some (.slice _ n _) => n
  | _ => 0
theorem wordsAt_eq {w : World} {rb mb : Nat} {ls ws : List ByteArray} (h : RdT w rb mb ls ws) : wordsAt w rb = ws.length := by
  obtain ⟨⟨lp, lc, wp, wc, hg, _⟩, _⟩ := h
  unfold wordsAt
  rw [(Lib.cell_of_heap hg 1).trans rfl]
  rfl
def inC12 (op bin d ak an bk bn n off width : Int) (sg : Bool) (s : Value) : Array Value := #[.int .i64 op, .int .i64 bin, .int .i64 d, .int .i64 ak, .int .u32 an, .int .i64 bk, .int .u32 bn, .int .i64 n, .int .i64 off, .int .i64 width, .bool sg, s]
theorem drop_cons {α : Type} {l : List α} {k : Nat} {a : α} (h : l[k]? = some a) : l.drop k = a :: l.drop (k + 1) := by
  obtain ⟨hk, rfl⟩ := List.getElem?_eq_some_iff.1 h
  exact List.drop_eq_getElem_cons hk
theorem argsC_take {l : List Ar} {k : Nat} {a : Ar} (h : l[k]? = some a) : argsC (l.take (k + 1)) = argsC (l.take k) ++ [.int .i64 a.kind, .int .u32 a.n] := by
  rw [take_succ h]; simp [argsC, arCells]
set_option maxHeartbeats 16000000 in
theorem field_76 (hX : Tabs w) (hrb : 10 ≤ rb) (hxb : 10 ≤ xb) {op bin d ak an bk bn n off width : Int} {sg : Bool} {args : List Ar} (hx : w.heap[xb]? = some (.cells (inC12 op bin d ak an bk bn n off width sg (.slice none 0 0)) TIn (0, 0))) (hxr : xb ≠ rb) (hA : ∀ a ∈ args, ArOK a ∧ (a.kind = 1 ∨ a.kind = 2)) (hal : args.length ≤ 1000000) (hR : RdT w rb mb ls (opsW args)) :
    Calls Tryz.prog 143 #[.pointer (some ⟨rb, 0, none⟩), .pointer (some ⟨xb, 0, none⟩), .int .i32 76] w fun e w' => e = .returned (.tuple #[]) ∧ ∃ sp sc, w'.heap[xb]? = some (.cells (inC12 op bin d ak an bk bn n off width sg (.slice sp args.length sc)) TIn (0, 0)) ∧ (args = [] → sp = none ∧ sc = 0) ∧ w'.ownsRow w.heap.size TAr 2 (.slice sp args.length sc) args.length (argsC args) ∧ RdT w' rb mb ls [] ∧ Turned w w' (fun k => k = rb ∨ k = xb) := by
  have HX : Hid (∀ Y, Turned w Y (fun k => k = rb ∨ k = xb) → Tabs Y) := fun Y hY => hX.turnedS hY (by omega)
  have HXX : Hid (_ = _) := hx
  have HA : Hid (∀ a ∈ args, ArOK a ∧ (a.kind = 1 ∨ a.kind = 2)) := hA
  have HR : Hid (RdT w rb mb ls (opsW args)) := hR
  clear hX hx hA hR
  go_enter Tryz.func143, Tryz.ntmps143
  go_wp2
  go_loopw [83] (fun s83 wr => ∃ (k : Nat) (sp : Option Addr) (sc : Nat), k ≤ args.length ∧ Hid (wr.heap[xb]? = some (.cells (inC12 op bin d ak an bk bn n off width sg (.slice sp k sc)) TIn (0, 0))) ∧ Hid (k = 0 → sp = none ∧ sc = 0) ∧ Hid (wr.ownsRow w.heap.size TAr 2 (.slice sp k sc) k (argsC (args.take k))) ∧ Hid (RdT wr rb mb ls (opsW (args.drop k))) ∧ Hid (Turned w wr (fun k => k = rb ∨ k = xb))) (fun _ wr => wordsAt wr rb)
  case atStart => exact ⟨0, none, 0, Nat.zero_le _, HXX, fun _ => ⟨rfl, rfl⟩, ⟨rfl, Or.inl ⟨rfl, rfl⟩⟩, HR, Turned.refl _ _⟩
  case round =>
    obtain ⟨k, sp, sc, hk, HG, HZ, HO, HRR, HT⟩ := hrel
    by_cases hlt : k < args.length
    · obtain ⟨a, ha⟩ : ∃ a, args[k]? = some a := ⟨_, List.getElem?_eq_getElem hlt⟩
      obtain ⟨s, hs1, hs2⟩ := opOf_w (HA.out a (List.mem_of_getElem? ha)).1 (HA.out a (List.mem_of_getElem? ha)).2
      have hwd : opsW (args.drop k) = s :: opsW (args.drop (k + 1)) := by rw [drop_cons ha]; show opW a ++ _ = _; rw [hs1]; rfl
      have HRR2 : Hid (RdT wr rb mb ls (s :: opsW (args.drop (k + 1)))) := by show RdT _ _ _ _ _; rw [← hwd]; exact HRR.out
      have HLW : Hid (wordsAt wr rb = (opsW (args.drop (k + 1))).length + 1) := wordsAt_eq HRR2.out
      obtain ⟨lp, lc, wp, wc, hrg, _, _⟩ := HRR2.out.ex
      have c1 := (Lib.cell_of_heap hrg 1).trans rfl
      have d1 : decide ((0 : Int) < (((opsW (args.drop (k + 1))).length : Int) + 1)) = true := by first | (simp; omega) | simp
      simp only [List.length_cons] at c1
      have bd : Below wr.heap.size wr wr.drew := (Below.refl _ _).drew
      have HTd : Hid (Turned w wr.drew (fun k => k = rb ∨ k = xb)) := HT.out.bel bd
      have HCO : Hid (Calls Tryz.prog 160 #[.pointer (some ⟨rb, 0, none⟩)] wr.drew fun e w' => e = .returned (.agg #[.int .i64 a.kind, .int .u32 a.n]) ∧ RdT w' rb mb ls (opsW (args.drop (k + 1))) ∧ Turned wr.drew w' (fun k => k = rb)) := operandR_c (HX.out _ HTd.out) hrb (HRR2.out.below bd) hs2
      have HTK : Hid (argsC (args.take (k + 1)) = argsC (args.take k) ++ [.int .i64 a.kind, .int .u32 a.n]) := argsC_take ha
      have hkl : Hid (k ≤ 1000000) := Nat.le_trans hk hal
      have hsz : Hid (w.heap.size ≤ wr.heap.size) := HT.out.size
      have m11 : wr.cell? ⟨xb, 11, none⟩ = some (.slice sp k sc) := (Lib.cell_of_heap HG.out 11).trans rfl
      obtain ⟨rest, hre⟩ : ∃ rest, rest = opsW (args.drop (k + 1)) := ⟨_, rfl⟩
      rw [← hre] at HRR2 HLW c1 d1 HCO
      have HRE : Hid (rest = opsW (args.drop (k + 1))) := hre
      clear hre
      clear hwd hs1 hs2 ha bd hrg HRR hk
      obtain ⟨i0, hi, hz0, hz1, hz2⟩ := info_parts infoAr
      go_upto_region 22 with fail
      go_region_law (first
        | (refine step_call_fn rfl 160 #[.pointer (some ⟨rb, 0, none⟩)] (by kernel_rfl) HCO.out ?_; rintro e w9 ⟨rfl, hR9, hT9⟩; have hT9' : Turned wr w9 (fun k => k = rb) := (Turned.of_below (Below.refl _ wr).drew _).trans hT9 (fun _ _ h => h); have b9 := below1 w9 (.cells #[.int .i64 a.kind, .int .u32 a.n] TAr); have hG9 := blk_t HG.out hT9' hxr; have c9 : w9.cell? ⟨xb, 11, none⟩ = some (.slice sp k sc) := (Lib.cell_of_heap hG9 11).trans rfl; have hG10 := blk_b hG9 b9; have c10 : (w9.alloc (.cells #[.int .i64 a.kind, .int .u32 a.n] TAr)).cell? ⟨xb, 11, none⟩ = some (.slice sp k sc) := (Lib.cell_of_heap hG10 11).trans rfl; have HG10 : Hid ((w9.alloc (.cells #[.int .i64 a.kind, .int .u32 a.n] TAr)).heap[xb]? = some (.cells (inC12 op bin d ak an bk bn n off width sg (.slice sp k sc)) TIn (0, 0))) := hG10; have HR10 : Hid (RdT (w9.alloc (.cells #[.int .i64 a.kind, .int .u32 a.n] TAr)) rb mb ls rest) := hR9.below b9; have HT10 : Hid (Turned w (w9.alloc (.cells #[.int .i64 a.kind, .int .u32 a.n] TAr)) (fun k => k = rb ∨ k = xb)) := (HT.out.trans hT9' (fun _ _ h => Or.inl h)).bel b9; have HO10 : Hid ((w9.alloc (.cells #[.int .i64 a.kind, .int .u32 a.n] TAr)).ownsRow w.heap.size TAr 2 (.slice sp k sc) k (argsC (args.take k))) := ownsRow_turned (ownsRow_turned HO.out hT9' (fun j hj e => by obtain ⟨_, cur, hcur⟩ := ownsRow_at HO.out hj; obtain ⟨lp, lc, wp, wc, hrg, _, _⟩ := HRR2.out.ex; rw [e, hrg] at hcur; injection hcur with q1; injection q1 with _ q2; exact absurd q2 (by decide))) (Turned.of_below b9 (fun _ => False)) (fun _ _ h => h); clear hR9 hT9 hT9' b9 hG9 hG10; refine ⟨_, rfl, ?_⟩)
        | (refine step_append_own_at rfl (.tmp 88) (.tmp 91) TArs rfl w.heap.size TAr i0 _ 2 16 Tryz.underlying41 hi hz0 hz1 hz2 rfl (by decide) _ k _ rfl HO10.out ⟨w9.heap.size, 0, none⟩ 1 1 (#[.int .i64 a.kind, .int .u32 a.n] : Array Value).toList rfl rfl (cells_new _ _ _) (by simp [Value.oneCell']) (by have := hkl.out; unfold maxLen; omega) (by have := hkl.out; omega) (HT10.out.size) ?_; intro v' w11 hown hgrow hnil hat; obtain ⟨p', cap', rfl⟩ := slice_of_own hown; have hG11 : w11.heap[xb]? = some (.cells (inC12 op bin d ak an bk bn n off width sg (.slice sp k sc)) TIn (0, 0)) := (hgrow.block xb (lt_of_heap HG10.out) (fun e => by obtain ⟨_, cur, hcur⟩ := ownsRow_at HO10.out e.symm; rw [HG10.out] at hcur; injection hcur with q1; injection q1 with _ q2; exact absurd q2 (by decide))).trans HG10.out; have c11 : w11.cell? ⟨xb, 11, none⟩ = some (.slice sp k sc) := (Lib.cell_of_heap hG11 11).trans rfl; have f11 := frozen_of hG11 11; have HG11 : Hid (w11.heap[xb]? = some (.cells (inC12 op bin d ak an bk bn n off width sg (.slice sp k sc)) TIn (0, 0))) := hG11; have HOW : Hid (World.ownsRow _ _ _ _ _ _ _) := hown; have HGR : Hid (World.grownBy _ _ _) := hgrow; clear hown hgrow hnil hat hG11))
      all_goals go_wp2
      all_goals
        have t12 : Turned w11 (w11.setCell ⟨xb, 11, none⟩ (.slice p' (k + 1) cap')) (fun k => k = xb) := Turned.setCell w11 xb 11 _ rfl
        have tg : Turned (w9.alloc (.cells #[.int .i64 a.kind, .int .u32 a.n] TAr)) w11 (fun j => (Value.slice sp k sc).ownBlock = some j) := Turned.of_grown HGR.out (fun k e => e)
        have hR11 : RdT w11 rb mb ls rest := HR10.out.offS (ty := TAr) tg (fun k hk => by obtain ⟨_, cur, hcur⟩ := ownsRow_at HO10.out hk; exact ⟨cur, hcur⟩) (by decide) (by decide)
        have hR12 := hR11.off t12 HG11.out (by decide) (by decide)
        have hT11 : Turned w w11 (fun k => k = rb ∨ k = xb) := HT10.out.trans tg (fun i hi hk => by have := (ownsRow_at HO10.out hk).1; omega)
        refine ⟨⟨k + 1, p', cap', by omega, Lib.hid (heap_setCell (j := 11) HG11.out _), Lib.hid (fun e => by omega), Lib.hid ?_, Lib.hid (by rw [← HRE.out]; exact hR12), Lib.hid (hT11.trans t12 (fun i hi e => Or.inr e))⟩, ?_⟩
        · rw [HTK.out]
          refine ownsRow_turned HOW.out t12 (fun j hj e => ?_)
          obtain ⟨_, cur, hcur⟩ := ownsRow_at HOW.out hj
          rw [e, HG11.out] at hcur
          injection hcur with q1
          injection q1 with _ q2
          exact absurd q2 (by decide)
        · rw [HLW.out, wordsAt_eq hR12]; omega
    · obtain rfl : k = args.length := by omega
      have hwd : opsW (args.drop args.length) = [] := by rw [List.drop_length]; rfl
      have HRR2 : Hid (RdT wr rb mb ls []) := by show RdT _ _ _ _ _; rw [← hwd]; exact HRR.out
      obtain ⟨lp, lc, wp, wc, hrg, _, _⟩ := HRR2.out.ex
      have c1 := (Lib.cell_of_heap hrg 1).trans rfl
      simp only [List.length_nil] at c1
      have HO2 := HO.out
      rw [List.take_length] at HO2
      have HO3 : Hid (wr.ownsRow w.heap.size TAr 2 (.slice sp args.length sc) args.length (argsC args)) := HO2
      clear hwd HRR HO HO2 hrg
      go_wp2
      go_end0
      exact ⟨rfl, sp, sc, HG.out, fun e => HZ.out (by rw [e]; rfl), HO3.out, HRR2.out, HT.out⟩
end
end Go.Proofs.YtaaphipbkpjkjaaGreatDoor
