/-
  Bytes and the numbers that they are: a unit's bits are its bytes' bits; what is laid into a unit's bytes and read again; the bytes that a field does not touch stay; what is read and laid again turns nothing. All over plain numbers.
-/
import Derived.Test.YtmdgnjadfdnibaaFdX
namespace Go.Proofs.Ytmdgnjadfdnibaa
open Go.RowKit
set_option linter.unusedVariables false
theorem byteB_high (z : Int) (h : 0 ≤ z ∧ z < 256) (i : Nat) (hi : 8 ≤ i) : (byteB z).getLsbD i = false := by
  unfold byteB
  rw [BitVec.getLsbD_ofNat, Nat.testBit_lt_two_pow (Nat.lt_of_lt_of_le (show z.toNat < 2 ^ 8 by omega) (Nat.pow_le_pow_right (by decide) hi))]
  simp
theorem unitB_bit (zs : List Int) (o k i : Nat) (hb : ∀ z ∈ zs, 0 ≤ z ∧ z < 256) (hi : i < 32) :
    (unitB zs o k).getLsbD i = (decide (i < 8 * k) && (byteB (zs.getD (o + i / 8) 0)).getLsbD (i % 8)) := by
  induction k with
  | zero => simp [unitB]
  | succ k ih =>
    show (unitB zs o k ||| (byteB (zs.getD (o + k) 0) <<< (8 * k))).getLsbD i = _
    rw [BitVec.getLsbD_or, ih, BitVec.getLsbD_shiftLeft]
    by_cases h : i < 8 * k
    · have e : i < 8 * (k + 1) := by omega
      simp [h, e]
    · by_cases h2 : i < 8 * (k + 1)
      · have e1 : i / 8 = k := by omega
        have e2 : i - 8 * k = i % 8 := by omega
        simp [h, h2, hi, e1, e2]
      · have e3 : 8 ≤ i - 8 * k := by omega
        rw [byteB_high _ (getD_bd hb _) _ e3]
        simp [h, h2]
/-- The byte of a number at that place. -/
theorem byte_bit (R : BitVec 32) (j t : Nat) (ht : t < 8) : (byteB ((R.toNat : Int) / 2 ^ (8 * j) % 256)).getLsbD t = R.getLsbD (8 * j + t) := by
  have e : (R.toNat : Int) / 2 ^ (8 * j) % 256 = (((R >>> (8 * j)) &&& 255#32).toNat : Int) := by
    rw [shr_int, BitVec.toNat_and]
    have h : (R >>> (8 * j)).toNat &&& (255#32).toNat = (R >>> (8 * j)).toNat % 2 ^ 8 := Nat.and_two_pow_sub_one_eq_mod _ 8
    rw [h]; omega
  rw [e]
  unfold byteB
  rw [Int.toNat_natCast, BitVec.ofNat_toNat, BitVec.setWidth_eq, BitVec.getLsbD_and, BitVec.getLsbD_ushiftRight]
  have : (255#32).getLsbD t = true := by
    match t, ht with
    | 0, _ => rfl
    | 1, _ => rfl
    | 2, _ => rfl
    | 3, _ => rfl
    | 4, _ => rfl
    | 5, _ => rfl
    | 6, _ => rfl
    | 7, _ => rfl
  rw [this]; simp
/-- Two bytes with the same eight bits are the same. -/
theorem byte_ext (x y : Int) (hx : 0 ≤ x ∧ x < 256) (hy : 0 ≤ y ∧ y < 256) (h : ∀ t, t < 8 → (byteB x).getLsbD t = (byteB y).getLsbD t) : x = y := by
  have e : byteB x = byteB y := by
    apply bv_ext
    intro i hi
    by_cases g : i < 8
    · exact h i g
    · rw [byteB_high x hx i (by omega), byteB_high y hy i (by omega)]
  rw [← byteB_int x hx, ← byteB_int y hy, e]
theorem unit_set {zs : List Int} {o b n wd : Nat} (hb : ∀ z ∈ zs, 0 ≤ z ∧ z < 256) (ho : o + wd ≤ zs.length) (hw : wd ≤ 4) (h1 : 1 ≤ n) (h2 : b + n ≤ 8 * wd) (X : BitVec 32) : unitB (setB zs o (layB (unitB zs o wd) b n X) wd) o wd = layB (unitB zs o wd) b n X := by
  generalize hR : layB (unitB zs o wd) b n X = R
  apply bv_ext
  intro i hi
  rw [unitB_bit _ _ _ i (setB_bd _ _ _ _ hb) hi]
  by_cases g : i < 8 * wd
  · rw [setB_getD zs o R wd (o + i / 8) ho, if_pos (by omega), show o + i / 8 - o = i / 8 by omega, byte_bit R (i / 8) (i % 8) (by omega), show 8 * (i / 8) + i % 8 = i by omega]
    simp [g]
  · rw [← hR, layB_bit _ _ b n i h1 (by omega) hi, if_neg (by omega), unitB_bit zs o wd i hb hi]
    simp [g]
theorem untouched {zs : List Int} {o b n wd : Nat} (hb : ∀ z ∈ zs, 0 ≤ z ∧ z < 256) (ho : o + wd ≤ zs.length) (hw : wd ≤ 4) (h1 : 1 ≤ n) (h2 : b + n ≤ 8 * wd) (X : BitVec 32) (i : Nat) (hi : i < zs.length) (h : i < o + b / 8 ∨ o + b / 8 + ((b + n - 1) / 8 - b / 8 + 1) ≤ i) :
    (setB zs o (layB (unitB zs o wd) b n X) wd).getD i 0 = zs.getD i 0 := by
  rw [setB_getD zs o _ wd i ho]
  by_cases g : o ≤ i ∧ i < o + wd
  · rw [if_pos g]
    apply byte_ext _ _ (by omega) (getD_bd hb i)
    intro t ht
    rw [byte_bit _ _ t ht, layB_bit _ _ b n _ h1 (by omega) (by omega), if_neg (by omega), unitB_bit zs o wd _ hb (by omega), show o + (8 * (i - o) + t) / 8 = i by omega, show (8 * (i - o) + t) % 8 = t by omega]
    simp only [show 8 * (i - o) + t < 8 * wd by omega, decide_true, Bool.true_and]
  · rw [if_neg g]
theorem set_same {zs : List Int} {o wd : Nat} (hb : ∀ z ∈ zs, 0 ≤ z ∧ z < 256) (ho : o + wd ≤ zs.length) (hw : wd ≤ 4) : setB zs o (unitB zs o wd) wd = zs := by
  apply List.ext_getElem (setB_length _ _ _ _)
  intro i g1 g2
  have e := setB_getD zs o (unitB zs o wd) wd i ho
  rw [List.getD_eq_getElem?_getD, List.getElem?_eq_getElem g1, List.getD_eq_getElem?_getD, List.getElem?_eq_getElem g2] at e
  simp only [Option.getD_some] at e
  rw [e]
  by_cases g : o ≤ i ∧ i < o + wd
  · rw [if_pos g]
    have hz : zs[i] = zs.getD i 0 := by rw [List.getD_eq_getElem?_getD, List.getElem?_eq_getElem g2]; rfl
    rw [hz]
    apply byte_ext _ _ (by omega) (getD_bd hb i)
    intro t ht
    rw [byte_bit _ _ t ht, unitB_bit zs o wd _ hb (by omega), show o + (8 * (i - o) + t) / 8 = i by omega, show (8 * (i - o) + t) % 8 = t by omega]
    simp only [show 8 * (i - o) + t < 8 * wd by omega, decide_true, Bool.true_and]
  · rw [if_neg g]
theorem lay_take (U : BitVec 32) (b n : Nat) (s : Bool) (h1 : 1 ≤ n) (h2 : b + n ≤ 32) : layB U b n (takeB U b n s) = U := by
  apply bv_ext
  intro i hi
  rw [layB_bit _ _ b n i h1 h2 hi]
  by_cases g : b ≤ i ∧ i < b + n
  · rw [if_pos g, takeB_bit _ b n _ s h1 h2 (by omega), if_pos (by omega), show b + (i - b) = i by omega]
  · rw [if_neg g]
theorem take_laid (V X : BitVec 32) (b n : Nat) (s : Bool) (h1 : 1 ≤ n) (h2 : b + n ≤ 32) : takeB (layB V b n X) b n s = takeB X 0 n s := by
  apply bv_ext
  intro i hi
  rw [takeB_bit _ b n i s h1 h2 hi, takeB_bit _ 0 n i s h1 (by omega) hi]
  by_cases p : i < n
  · rw [if_pos p, if_pos p, layB_bit _ _ b n _ h1 h2 (by omega), if_pos (by omega)]
    congr 1; omega
  · rw [if_neg p, if_neg p, layB_bit _ _ b n _ h1 h2 (by omega), if_pos (by omega)]
    congr 2; omega
theorem most_two {n : Nat} (h : FOK 0 n (mostOf 2)) : n = 1 := by
  obtain ⟨_, h2, h3⟩ := h
  have : mostOf 2 = 1 := rfl
  omega
theorem take_one (V : BitVec 32) (b : Nat) (h2 : b + 1 ≤ 32) : takeB V b 1 false = bitB (V.getLsbD b) := by
  apply bv_ext
  intro i hi
  rw [takeB_bit _ b 1 i false (by decide) h2 hi, bitB_bit]
  by_cases p : i = 0
  · subst p; simp
  · simp [p]
theorem boolB_bit (c : Bool) : boolB (bitB c) = bitB c := by cases c <;> decide
theorem boolB_form (X : BitVec 32) : ∃ c, boolB X = bitB c := by
  unfold boolB
  by_cases h : X = 0
  · exact ⟨false, by rw [if_pos h]; rfl⟩
  · exact ⟨true, by rw [if_neg h]; rfl⟩
/-- What was written is read as Value. -/
theorem read_value (U X : BitVec 32) (b n : Nat) (k : Int) (h1 : 1 ≤ n) (h2 : b + n ≤ 32) (h : FOK 0 n (mostOf k)) : takeB (layB U b n (putB k X)) b n (signOf k) = valueB k n X := by
  rw [take_laid _ _ b n _ h1 h2]
  unfold putB valueB
  by_cases g : k = 2
  · subst g
    rw [if_pos rfl, if_pos rfl]
    obtain rfl := most_two h
    obtain ⟨c, hc⟩ := boolB_form X
    rw [hc, show signOf 2 = false from rfl, take_one _ 0 (by decide), bitB_bit]
    simp
  · rw [if_neg g, if_neg g]
/-- What is read and put again turns nothing. -/
theorem put_read (U : BitVec 32) (b n : Nat) (k : Int) (h1 : 1 ≤ n) (h2 : b + n ≤ 32) (h : FOK 0 n (mostOf k)) : layB U b n (putB k (takeB U b n (signOf k))) = U := by
  have e : putB k (takeB U b n (signOf k)) = takeB U b n (signOf k) := by
    unfold putB
    by_cases g : k = 2
    · subst g
      rw [if_pos rfl]
      obtain rfl := most_two h
      rw [show signOf 2 = false from rfl, take_one _ b h2, boolB_bit]
    · rw [if_neg g]
  rw [e, lay_take U b n _ h1 h2]
end Go.Proofs.Ytmdgnjadfdnibaa
