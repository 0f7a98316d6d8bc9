/-
  What package token's baseOf, ending, number answer.
-/
import Derived.Test.YtjbmpdcgmphhoaaGreatDoorWord
import Derived.OwnWalk
namespace Go.Proofs.YtjbmpdcgmphhoaaGreatDoor
open Go.RowKit
set_option linter.unusedVariables false

theorem below_drewN {B : Nat} {a w : World} (h : Below B a w) (q : Nat) : Below B a (w.drewN q) := ⟨h.os, h.tape, h.output, h.size, h.block⟩

theorem below_step {w w1 W w' : World} (h1 : Below w.heap.size w w1) (h : Below w1.heap.size w1 W) (h2 : Below W.heap.size W w') : Below w.heap.size w w' :=
  h1.trans ((h.mono h1.size).trans (h2.mono (Nat.le_trans h1.size h.size)))

def numBase (l : List UInt8) : Nat := if Lib.hasPrefix l [48, 120] || Lib.hasPrefix l [48, 88] then 16 else if l.head? == some 48 then 8 else 10
def digStr (s : ByteArray) : ByteArray := if Lib.hasPrefix s.data.toList [48, 120] || Lib.hasPrefix s.data.toList [48, 88] then s.extract 2 s.size else s

theorem size_of_prefix {s : ByteArray} {p : List UInt8} (h : Lib.hasPrefix s.data.toList p = true) : p.length ≤ s.size := by
  have h1 : p <+: s.data.toList := by simpa [Lib.hasPrefix] using h
  have := h1.length_le
  simpa using this

theorem head_get {s : ByteArray} (h : 0 < s.size) : s.data.toList.head? = some s[0] := by
  have := drop_get s 0 h
  rw [List.drop_zero] at this; rw [this]; rfl

theorem toNat_inj {a : UInt8} {n : Nat} (h : n < 256) : (a == n.toUInt8) = decide ((a.toNat : Int) = n) := by
  rw [Bool.eq_iff_iff]; simp
  constructor
  · rintro rfl; simp; omega
  · intro h1
    have : a.toNat = n := by omega
    rw [← this]; simp

set_option maxRecDepth 100000 in
theorem baseOf_c (s : ByteArray) (w : World) (h0 : 0 < s.size) (hs : s.size ≤ 9223372036854775807) :
    Calls Tryz.prog 77 #[.string s] w fun e w' => e = .returned (.tuple #[.int .i64 (numBase s.data.toList), .string (digStr s)]) ∧ Below w.heap.size w w' := by
  have c1 := fun W => Tryz.strings_HasPrefix s ⟨#[48, 120]⟩ W
  have c2 := fun W => Tryz.strings_HasPrefix s ⟨#[48, 88]⟩ W
  have HB : Hid (Below w.heap.size w w) := Below.refl _ _
  rcases h1 : Lib.hasPrefix s.data.toList [48, 120] with _ | _
  · rcases h2 : Lib.hasPrefix s.data.toList [48, 88] with _ | _
    · by_cases h3 : (s[0]).toNat = 48
      · have e1 : numBase s.data.toList = 8 := by
          have h4 : s[0] = 48 := by rw [← UInt8.toNat_inj]; exact h3
          simp [numBase, h1, h2, head_get h0, h4]
        have e2 : digStr s = s := by simp [digStr, h1, h2]
        rw [e1, e2]
        simp only [h1] at c1; simp only [h2] at c2
        go_enter Tryz.func77, Tryz.ntmps77
        go_wp2_with (go_at_call 31; first | (refine (c1 _).mono ?_; rintro e w' ⟨rfl, rfl⟩) | (refine (c2 _).mono ?_; rintro e w' ⟨rfl, rfl⟩))
        go_ret2
        exact ⟨rfl, HB.out⟩
      · have e1 : numBase s.data.toList = 10 := by
          have h4 : ¬ s[0] = 48 := by rw [← UInt8.toNat_inj]; exact h3
          simp [numBase, h1, h2, head_get h0, h4]
        have e2 : digStr s = s := by simp [digStr, h1, h2]
        rw [e1, e2]
        simp only [h1] at c1; simp only [h2] at c2
        have h3' : ¬ (((s[0]).toNat : Int) = 48) := by omega
        go_enter Tryz.func77, Tryz.ntmps77
        go_wp2_with (go_at_call 31; first | (refine (c1 _).mono ?_; rintro e w' ⟨rfl, rfl⟩) | (refine (c2 _).mono ?_; rintro e w' ⟨rfl, rfl⟩))
        go_ret2
        exact ⟨rfl, HB.out⟩
    · have h2s := size_of_prefix h2
      simp only [List.length_cons, List.length_nil] at h2s
      have e1 : numBase s.data.toList = 16 := by simp [numBase, h2]
      have e2 : digStr s = s.extract 2 s.size := by simp [digStr, h2]
      rw [e1, e2]
      simp only [h1] at c1; simp only [h2] at c2
      go_enter Tryz.func77, Tryz.ntmps77
      go_wp2_with (go_at_call 31; first | (refine (c1 _).mono ?_; rintro e w' ⟨rfl, rfl⟩) | (refine (c2 _).mono ?_; rintro e w' ⟨rfl, rfl⟩))
      go_quiet (fail)
      go_wp2
      go_ret2
      exact ⟨rfl, below_drewN HB.out _⟩
  · have h2s := size_of_prefix h1
    simp only [List.length_cons, List.length_nil] at h2s
    have e1 : numBase s.data.toList = 16 := by simp [numBase, h1]
    have e2 : digStr s = s.extract 2 s.size := by simp [digStr, h1]
    rw [e1, e2]
    simp only [h1] at c1
    go_enter Tryz.func77, Tryz.ntmps77
    go_wp2_with (go_at_call 31; first | (refine (c1 _).mono ?_; rintro e w' ⟨rfl, rfl⟩) | (refine (c2 _).mono ?_; rintro e w' ⟨rfl, rfl⟩))
    go_quiet (fail)
    go_wp2
    go_ret2
    exact ⟨rfl, below_drewN HB.out _⟩

def endU (t : List UInt8) : Bool := t == [117] || t == [117, 108] || t == [108, 117]
def endL (t : List UInt8) : Bool := t == [108] || t == [117, 108] || t == [108, 117]
def endOk (t : List UInt8) : Bool := t == [] || t == [117] || t == [108] || t == [117, 108] || t == [108, 117]
def low (l : List UInt8) : List UInt8 := Lib.toLowerA l

set_option maxRecDepth 100000 in
theorem ending_c (s : ByteArray) (w : World) (hs : s.size ≤ 140737488355328) (hascii : ∀ (j : Nat) (b : UInt8), s.data.toList[j]? = some b → b.toNat < 128) :
    Calls Tryz.prog 79 #[.string s] w fun e w' => e = .returned (.tuple #[.bool (endU (low s.data.toList)), .bool (endL (low s.data.toList)), .bool (endOk (low s.data.toList))]) ∧ Below w.heap.size w w' := by
  have c1 := Tryz.strings_ToLower_ascii s w hs hascii
  obtain ⟨t, ht⟩ : ∃ t : List UInt8, t = low s.data.toList := ⟨_, rfl⟩
  rw [show Lib.toLowerA s.data.toList = t from ht.symm] at c1
  rw [← ht]
  have hl : (ByteArray.mk t.toArray).toList = t := ByteArray.toList_mk t
  clear ht
  by_cases h0 : t = []
  · subst h0
    go_enter Tryz.func79, Tryz.ntmps79
    go_wp2_with (go_at_call 92; refine c1.mono ?_; rintro e w' ⟨rfl, hb⟩)
    go_ret3
    exact ⟨rfl, hb⟩
  by_cases h1 : t = [117]
  · subst h1
    go_enter Tryz.func79, Tryz.ntmps79
    go_wp2_with (go_at_call 92; refine c1.mono ?_; rintro e w' ⟨rfl, hb⟩)
    go_ret3
    exact ⟨rfl, hb⟩
  by_cases h2 : t = [108]
  · subst h2
    go_enter Tryz.func79, Tryz.ntmps79
    go_wp2_with (go_at_call 92; refine c1.mono ?_; rintro e w' ⟨rfl, hb⟩)
    go_ret3
    exact ⟨rfl, hb⟩
  by_cases h3 : t = [117, 108]
  · subst h3
    go_enter Tryz.func79, Tryz.ntmps79
    go_wp2_with (go_at_call 92; refine c1.mono ?_; rintro e w' ⟨rfl, hb⟩)
    go_ret3
    exact ⟨rfl, hb⟩
  by_cases h4 : t = [108, 117]
  · subst h4
    go_enter Tryz.func79, Tryz.ntmps79
    go_wp2_with (go_at_call 92; refine c1.mono ?_; rintro e w' ⟨rfl, hb⟩)
    go_ret3
    exact ⟨rfl, hb⟩
  have e1 : endU t = false := by simp [endU, h1, h3, h4]
  have e2 : endL t = false := by simp [endL, h2, h3, h4]
  have e3 : endOk t = false := by simp [endOk, h0, h1, h2, h3, h4]
  rw [e1, e2, e3]
  have h0' : t.isEmpty = false := by cases t with | nil => exact absurd rfl h0 | cons => rfl
  have h1' : (t == [117]) = false := by simp [h1]
  have h2' : (t == [108]) = false := by simp [h2]
  have h3' : (t == [117, 108]) = false := by simp [h3]
  have h4' : (t == [108, 117]) = false := by simp [h4]
  go_enter Tryz.func79, Tryz.ntmps79
  go_wp2_with (go_at_call 92; refine c1.mono ?_; rintro e w' ⟨rfl, hb⟩)
  go_ret3
  exact ⟨rfl, hb⟩

/-- What token.number answers of a text of letters and digits. -/
def numDig (l : List UInt8) : List UInt8 := if Lib.hasPrefix l [48, 120] || Lib.hasPrefix l [48, 88] then l.drop 2 else l
def numLen (l : List UInt8) : Nat := runLen (bBase (numBase l)) (numDig l)
def numEnd (l : List UInt8) : List UInt8 := low ((numDig l).drop (numLen l))
def numVal (l : List UInt8) : Nat := digVal (numBase l) 4294967295 0 ((numDig l).take (numLen l))
def numU (l : List UInt8) : Bool := endU (numEnd l) || (numBase l != 10 && decide (2147483647 < numVal l))
def numKind (l : List UInt8) : List UInt8 := typeText (numU l) (endL (numEnd l))
def numOk (l : List UInt8) : Bool := !(numLen l == 0 || !endOk (numEnd l)) && decide ((numVal l : Int) ≤ mostOf (numKind l))

theorem extract_list (s : ByteArray) (a b : Nat) : (s.extract a b).data.toList = (s.data.toList.drop a).take (b - a) := by
  simp [ByteArray.extract, ByteArray.copySlice, List.take_drop]

theorem digStr_list (s : ByteArray) : (digStr s).data.toList = numDig s.data.toList := by
  unfold digStr numDig
  split
  · rw [extract_list]; exact List.take_of_length_le (by simp)
  · rfl
theorem digStr_size (s : ByteArray) : (digStr s).size ≤ s.size := by
  have h : (digStr s).data.toList.length ≤ s.data.toList.length := by
    rw [digStr_list]; unfold numDig; split <;> simp
  simpa using h
theorem numBase_le (l : List UInt8) : numBase l ≤ 16 := by unfold numBase; split; omega; split <;> omega
theorem numDig_mem {l : List UInt8} {c : UInt8} (h : c ∈ numDig l) : c ∈ l := by
  unfold numDig at h; split at h
  · exact List.mem_of_mem_drop h
  · exact h

set_option maxRecDepth 100000 in
set_option maxHeartbeats 1000000 in
theorem number_c (s : ByteArray) (w : World) (h0 : 0 < s.size) (hs : s.size ≤ 140737488355328) (hascii : ∀ b ∈ s.data.toList, b.toNat < 128) :
    Calls Tryz.prog 64 #[.string s] w fun e w' => e = .returned (if numLen s.data.toList = 0 ∨ endOk (numEnd s.data.toList) = false then .tuple #[.int .i64 0, .string ⟨#[]⟩, .bool false]
      else .tuple #[.int .i64 (numVal s.data.toList), .string ⟨(numKind s.data.toList).toArray⟩, .bool (decide ((numVal s.data.toList : Int) ≤ mostOf (numKind s.data.toList)))]) ∧ Below w.heap.size w w' := by
  have cB := baseOf_c s w h0 (by omega)
  have hds := digStr_size s
  have hdl := digStr_list s
  have hb16 := numBase_le s.data.toList
  have hlen : numLen s.data.toList = runLen (bBase (numBase s.data.toList)) (digStr s).data.toList := by rw [hdl]; rfl
  have hend : numEnd s.data.toList = low ((digStr s).data.toList.drop (numLen s.data.toList)) := by rw [hdl]; rfl
  have hval : numVal s.data.toList = digVal (numBase s.data.toList) 4294967295 0 ((digStr s).data.toList.take (numLen s.data.toList)) := by rw [hdl]; rfl
  have hmem : ∀ c ∈ (digStr s).data.toList, c.toNat < 128 := fun c hc => hascii c (numDig_mem (by rw [← hdl]; exact hc))
  have hk : numKind s.data.toList = typeText (endU (numEnd s.data.toList) || (numBase s.data.toList != 10 && decide (2147483647 < numVal s.data.toList))) (endL (numEnd s.data.toList)) := rfl
  generalize numKind s.data.toList = kind at *
  generalize numVal s.data.toList = v at *
  generalize numEnd s.data.toList = en at *
  generalize numLen s.data.toList = n at *
  generalize numBase s.data.toList = b at *
  generalize digStr s = d at *
  clear hdl
  have hnd : n ≤ d.size := by rw [hlen]; have := runLen_le (bBase b) d.data.toList; simpa using this
  have cD := fun W => digitsOf_c b W
  have cR : ∀ W : World, Calls Tryz.prog 32 #[.string d, .func (.func 91) #[] #[.pointer (some ⟨W.heap.size, 0, none⟩)]] (W.alloc (.cells #[.int .i64 b] 3)) fun e w' => e = .returned (.int .i64 n) ∧ ∃ q, w' = (W.alloc (.cells #[.int .i64 b] 3)).drewN q := fun W => by
    rw [hlen]; exact run_ofBase b W.heap.size d _ (by omega) (by simp)
  have cE : ∀ W : World, Calls Tryz.prog 79 #[.string (d.extract n d.size)] W fun e w' => e = .returned (.tuple #[.bool (endU en), .bool (endL en), .bool (endOk en)]) ∧ Below W.heap.size W w' := fun W => by
    have hx : (d.extract n d.size).data.toList = d.data.toList.drop n := by rw [extract_list]; exact List.take_of_length_le (by simp)
    have := ending_c (d.extract n d.size) W (by simp; omega) (by rw [hx]; intro j c hj; exact hmem c (List.mem_of_mem_drop (List.mem_of_getElem? hj)))
    rw [hx, ← hend] at this; exact this
  have cV : ∀ W : World, Calls Tryz.prog 80 #[.string (d.extract 0 n), .int .i64 b, .int .i64 4294967295] W fun e w' => e = .returned (.int .i64 v) ∧ w' = W := fun W => by
    have hx : (d.extract 0 n).data.toList = d.data.toList.take n := by rw [extract_list]; simp
    have := value_c b 4294967295 (d.extract 0 n) W (by simp; omega) hb16 (by omega)
    rw [hx, ← hval] at this; exact this
  have cT := fun u W => typeOf_c u (endL en) W
  have cM : ∀ (x : Bool) (W : World), Calls Tryz.prog 51 #[.string ⟨(typeText x (endL en)).toArray⟩] W fun e w' => e = .returned (.int .i64 (mostOf (typeText x (endL en)))) ∧ w' = W := fun x W => most_c ⟨(typeText x (endL en)).toArray⟩ W
  clear hlen hend hval hmem hascii
  generalize endU en = u at *
  generalize endL en = lo at *
  generalize endOk en = ok at *
  have HK : Hid _ := hk
  clear hk
  cases ok
  · rw [if_pos (.inr rfl)]
    go_enter Tryz.func64, Tryz.ntmps64
    go_wp2_with (first | (go_at_call 77; refine cB.mono ?_; rintro e w1 ⟨rfl, hb1⟩) | (go_at_call 78; refine (cD _).mono ?_; rintro e w' ⟨rfl, rfl⟩) | (go_at_call 32; refine (cR _).mono ?_; rintro e w' ⟨rfl, q, rfl⟩) | (go_at_call 79; refine (cE _).mono ?_; rintro e w' ⟨rfl, hb2⟩) | (go_at_call 80; refine (cV _).mono ?_; rintro e w' ⟨rfl, rfl⟩) | (go_at_call 81; refine (cT _ _).mono ?_; rintro e w' ⟨rfl, rfl⟩) | (go_at_call 51; refine (cM _ _).mono ?_; rintro e w' ⟨rfl, rfl⟩))
    all_goals go_ret3
    all_goals exact ⟨rfl, below_step hb1 (below_drewN ((Below.refl _ _).alloc (Nat.le_refl _) _) q) hb2⟩
  · go_enter Tryz.func64, Tryz.ntmps64
    go_wp2_with (first | (go_at_call 77; refine cB.mono ?_; rintro e w1 ⟨rfl, hb1⟩) | (go_at_call 78; refine (cD _).mono ?_; rintro e w' ⟨rfl, rfl⟩) | (go_at_call 32; refine (cR _).mono ?_; rintro e w' ⟨rfl, q, rfl⟩) | (go_at_call 79; refine (cE _).mono ?_; rintro e w' ⟨rfl, hb2⟩) | (go_at_call 80; refine (cV _).mono ?_; rintro e w' ⟨rfl, rfl⟩) | (go_at_call 81; refine (cT _ _).mono ?_; rintro e w' ⟨rfl, rfl⟩) | (go_at_call 51; refine (cM _ _).mono ?_; rintro e w' ⟨rfl, rfl⟩))
    all_goals have HBW : Hid (Below w.heap.size w _) := below_step hb1 (below_drewN ((Below.refl _ _).alloc (Nat.le_refl _) _) q) hb2
    all_goals clear hb1 hb2 cB cD cR cE cV cT cM
    all_goals go_ret3
    all_goals refine ⟨?_, HBW.out⟩
    all_goals clear HBW
    all_goals first
      | rfl
      | (exfalso; simp only [bne_iff_ne, ne_eq, bne_eq_false_iff_eq, Bool.true_eq_false, or_false] at *; omega)
      | (have hx : (b != 10 && decide (2147483647 < v)) = true := by (simp only [bne_iff_ne, Bool.and_eq_true, decide_eq_true_eq, ne_eq]; omega)
         have hk : kind = typeText true lo := by rw [HK.out, hx, Bool.or_true]
         subst hk; rfl)
      | (have hx : (b != 10 && decide (2147483647 < v)) = false := by (rw [Bool.eq_false_iff]; intro hc; simp only [bne_iff_ne, Bool.and_eq_true, decide_eq_true_eq, ne_eq, bne_eq_false_iff_eq] at *; omega)
         have hk : kind = typeText u lo := by rw [HK.out, hx, Bool.or_false]
         subst hk; rfl)
end Go.Proofs.YtjbmpdcgmphhoaaGreatDoor
