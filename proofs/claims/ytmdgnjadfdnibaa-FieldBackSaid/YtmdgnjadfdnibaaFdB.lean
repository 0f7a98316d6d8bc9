/-
  Bits of numbers of 32 bits: what a field's mask, what is taken out of a field and what is laid into one are bit by bit; Go's operations on such numbers as operations on bits.
-/
import Derived.Test.YtmdgnjadfdnibaaProg
import Derived.WalkKit
import Derived.WalkSpells
import Derived.WalkLawsBesides
import Derived.Laws.BitsAllLaws
namespace Go.Proofs.Ytmdgnjadfdnibaa
open Go.RowKit
set_option linter.unusedVariables false
def maskB (b n : Nat) : BitVec 32 := (BitVec.allOnes 32 >>> (32 - n)) <<< b
def takeB (v : BitVec 32) (b n : Nat) (s : Bool) : BitVec 32 := if s then (v <<< (32 - n - b)).sshiftRight (32 - n) else (v <<< (32 - n - b)) >>> (32 - n)
def layB (v : BitVec 32) (b n : Nat) (x : BitVec 32) : BitVec 32 := (v &&& ~~~ maskB b n) ||| ((x <<< b) &&& maskB b n)

theorem maskB_bit (b n i : Nat) (h1 : 1 ≤ n) (h2 : b + n ≤ 32) (hi : i < 32) : (maskB b n).getLsbD i = decide (b ≤ i ∧ i < b + n) := by
  unfold maskB
  rw [BitVec.getLsbD_shiftLeft]
  by_cases h : i < b
  · simp [h]; intro; omega
  · simp only [hi, h, decide_true, decide_false, Bool.not_false, Bool.true_and, BitVec.getLsbD_ushiftRight, BitVec.getLsbD_allOnes]
    congr 1
    apply propext
    omega
theorem takeB_bit (v : BitVec 32) (b n i : Nat) (s : Bool) (h1 : 1 ≤ n) (h2 : b + n ≤ 32) (hi : i < 32) :
    (takeB v b n s).getLsbD i = if i < n then v.getLsbD (b + i) else s && v.getLsbD (b + n - 1) := by
  unfold takeB
  cases s
  · simp only [Bool.false_eq_true, if_false, BitVec.getLsbD_ushiftRight, BitVec.getLsbD_shiftLeft, Bool.false_and]
    by_cases h : i < n
    · have e1 : 32 - n + i < 32 := by omega
      have e2 : ¬ 32 - n + i < 32 - n - b := by omega
      have e3 : 32 - n + i - (32 - n - b) = b + i := by omega
      simp [h, e1, e2, e3]
    · have e1 : ¬ 32 - n + i < 32 := by omega
      simp [h, e1]
  · simp only [if_true, Bool.true_and]
    rw [BitVec.getLsbD_sshiftRight]
    have e0 : ¬ 32 ≤ i := by omega
    simp only [e0, decide_false, Bool.not_false, Bool.true_and]
    by_cases h : i < n
    · have e1 : 32 - n + i < 32 := by omega
      have e2 : ¬ 32 - n + i < 32 - n - b := by omega
      have e3 : 32 - n + i - (32 - n - b) = b + i := by omega
      rw [if_pos h, if_pos e1, BitVec.getLsbD_shiftLeft, e3]
      simp [e1, e2]
    · have e1 : ¬ 32 - n + i < 32 := by omega
      have e2 : ¬ 31 < 32 - n - b := by omega
      have e3 : 31 - (32 - n - b) = b + n - 1 := by omega
      rw [if_neg h, if_neg e1, BitVec.msb_eq_getLsbD_last, BitVec.getLsbD_shiftLeft, e3]
      simp [e2]
theorem layB_bit (v x : BitVec 32) (b n i : Nat) (h1 : 1 ≤ n) (h2 : b + n ≤ 32) (hi : i < 32) :
    (layB v b n x).getLsbD i = if b ≤ i ∧ i < b + n then x.getLsbD (i - b) else v.getLsbD i := by
  unfold layB
  rw [BitVec.getLsbD_or, BitVec.getLsbD_and, BitVec.getLsbD_and, BitVec.getLsbD_not, maskB_bit b n i h1 h2 hi, BitVec.getLsbD_shiftLeft]
  by_cases h : b ≤ i ∧ i < b + n
  · have e1 : ¬ i < b := by omega
    simp [h, hi, e1]
  · simp [h, hi]
/-- The Go operations on numbers of 32 bits, as operations on bits. -/
theorem shl_int (A : BitVec 32) (n : Nat) : (A.toNat : Int) * 2 ^ n % 4294967296 = ((A <<< n).toNat : Int) := by
  rw [BitVec.toNat_shiftLeft, Nat.shiftLeft_eq]
  simp
theorem shr_int (A : BitVec 32) (n : Nat) : (A.toNat : Int) / 2 ^ n = ((A >>> n).toNat : Int) := by
  rw [BitVec.toNat_ushiftRight, Nat.shiftRight_eq_div_pow]
  simp
theorem toInt_wrap (A : BitVec 32) : wrap32 (A.toNat : Int) = A.toInt := by
  rw [BitVec.toInt_eq_toNat_cond]
  have := A.isLt
  unfold wrap32
  split <;> omega
theorem sshr_int (A : BitVec 32) (n : Nat) : wrap32 (A.toNat : Int) / 2 ^ n % 4294967296 = ((A.sshiftRight n).toNat : Int) := by
  have h := BitVec.toInt_sshiftRight (x := A) (n := n)
  rw [toInt_wrap, show A.toInt / 2 ^ n = A.toInt >>> n by rw [Int.shiftRight_eq_div_pow]; simp, ← h, BitVec.toInt_eq_toNat_cond]
  have := (A.sshiftRight n).isLt
  split <;> omega
theorem and_int (A B : BitVec 32) : bits .and .u32 (A.toNat : Int) (B.toNat : Int) = ((A &&& B).toNat : Int) := by
  rw [u32_and_nat _ _ A.isLt B.isLt, BitVec.toNat_and]
theorem or_int (A B : BitVec 32) : bits .or .u32 (A.toNat : Int) (B.toNat : Int) = ((A ||| B).toNat : Int) := by
  rw [u32_or_nat _ _ A.isLt B.isLt, BitVec.toNat_or]
theorem andNot_int (A B : BitVec 32) : bits .andNot .u32 (A.toNat : Int) (B.toNat : Int) = ((A &&& ~~~B).toNat : Int) := by
  rw [u32_andNot_nat _ _ A.isLt B.isLt, BitVec.toNat_and, BitVec.toNat_not]
theorem bv_ext {A B : BitVec 32} (h : ∀ i, i < 32 → A.getLsbD i = B.getLsbD i) : A = B := by
  apply BitVec.eq_of_getLsbD_eq; exact h
/-- One bit as a number. -/
def bitB (c : Bool) : BitVec 32 := if c then 1 else 0
/-- The number whose lowest k bits are told. -/
def buildB (f : Nat → Bool) : Nat → BitVec 32
  | 0 => 0
  | k + 1 => buildB f k ||| (bitB (f k) <<< k)
theorem bitB_bit (c : Bool) (i : Nat) : (bitB c).getLsbD i = (decide (i = 0) && c) := by
  unfold bitB
  cases c <;> simp
theorem buildB_bit (f : Nat → Bool) (k i : Nat) (hi : i < 32) : (buildB f k).getLsbD i = (decide (i < k) && f i) := by
  induction k with
  | zero => simp [buildB]
  | succ k ih =>
    unfold buildB
    rw [BitVec.getLsbD_or, ih, BitVec.getLsbD_shiftLeft, bitB_bit]
    by_cases h : i < k
    · have e : i < k + 1 := by omega
      simp [h, e]
    · by_cases h2 : i = k
      · subst h2; simp [hi]
      · have e : ¬ i < k + 1 := by omega
        have e2 : ¬ i - k = 0 := by omega
        simp [h, e, e2]
theorem buildB_none (f : Nat → Bool) (k : Nat) (hk : k ≤ 32) (h : ∀ i, i < k → f i = false) : buildB f k = 0 := by
  apply bv_ext
  intro i hi
  rw [buildB_bit f k i hi]
  by_cases g : i < k
  · simp [h i g]
  · simp [g]
theorem one_int (V : BitVec 32) (i : Nat) (hi : i < 32) : bits .and .u32 ((V.toNat : Int) / 2 ^ i) 1 = ((bitB (V.getLsbD i)).toNat : Int) := by
  rw [shr_int, show (1 : Int) = ((bitB true).toNat : Int) by decide, and_int]
  congr 2
  apply bv_ext
  intro j hj
  rw [BitVec.getLsbD_and, bitB_bit, bitB_bit, BitVec.getLsbD_ushiftRight]
  by_cases h : j = 0
  · subst h; simp
  · simp [h]
theorem build_step (O : BitVec 32) (c : Bool) (k : Nat) : bits .or .u32 (O.toNat : Int) (((bitB c).toNat : Int) * 2 ^ k % 4294967296) = ((O ||| (bitB c <<< k)).toNat : Int) := by
  rw [shl_int, or_int]
theorem build_mask (b n : Nat) (h1 : 1 ≤ n) (h2 : b + n ≤ 32) : buildB (fun i => decide (b ≤ i)) (b + n) = maskB b n := by
  apply bv_ext
  intro i hi
  rw [buildB_bit _ _ i hi, maskB_bit b n i h1 h2 hi]
  by_cases h : b ≤ i <;> by_cases g : i < b + n <;> simp [h, g]
/-- What the given answer puts together of a number's lowest bits. -/
def extF (V : BitVec 32) (n : Nat) (s : Bool) (i : Nat) : Bool := if i < n then V.getLsbD i else s && V.getLsbD (n - 1)
theorem build_ext (V : BitVec 32) (b n : Nat) (s : Bool) (h1 : 1 ≤ n) (h2 : b + n ≤ 32) : buildB (extF (V >>> b) n s) 32 = takeB V b n s := by
  apply bv_ext
  intro i hi
  rw [buildB_bit _ _ i hi, takeB_bit V b n i s h1 h2 hi]
  unfold extF
  rw [BitVec.getLsbD_ushiftRight, BitVec.getLsbD_ushiftRight, show b + (n - 1) = b + n - 1 by omega]
  simp [hi]
/-- What it puts together where a field is laid. -/
def putF (V X : BitVec 32) (b n i : Nat) : Bool := if b ≤ i ∧ i < b + n then X.getLsbD (i - b) else V.getLsbD i
theorem build_put (V X : BitVec 32) (b n : Nat) (h1 : 1 ≤ n) (h2 : b + n ≤ 32) : buildB (putF V X b n) 32 = layB V b n X := by
  apply bv_ext
  intro i hi
  rw [buildB_bit _ _ i hi, layB_bit V X b n i h1 h2 hi]
  unfold putF
  simp [hi]
end Go.Proofs.Ytmdgnjadfdnibaa
