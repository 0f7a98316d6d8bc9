/-
  What the program's functions onUnit and Read of package field answer at every bytes, place and kind; they change nothing that was there.
-/
import Derived.Test.YtmdgnjadfdnibaaFdL
import Derived.LoopN
namespace Go.Proofs.Ytmdgnjadfdnibaa
open Go.RowKit
set_option linter.unusedVariables false
/-- A slice at that address holds these bytes. -/
def Row (w : World) (a : Option Addr) (zs : List Int) : Prop :=
  zs.length ≤ 140737488351232 ∧ (∀ z ∈ zs, 0 ≤ z ∧ z < 256) ∧ (zs = [] ∨ ∃ b off : Nat, a = some ⟨b, off, none⟩ ∧ ∀ i, i < zs.length → w.cell? ⟨b, off + i, none⟩ = some (.int .u8 (zs.getD i 0)))
theorem Row.later {w w' : World} {a : Option Addr} {zs : List Int} (h : Row w a zs) (hb : Below w.heap.size w w') : Row w' a zs := by
  obtain ⟨h1, h2, h3⟩ := h
  refine ⟨h1, h2, ?_⟩
  rcases h3 with h3 | ⟨b, off, rfl, hc⟩
  · exact .inl h3
  · refine .inr ⟨b, off, rfl, fun i hi => ?_⟩
    have hci := hc i hi
    exact (hb.cell (p := ⟨b, off + i, none⟩) (World.block_lt_of_cell? w _ hci)).trans hci
theorem getD_bd {zs : List Int} (h : ∀ z ∈ zs, 0 ≤ z ∧ z < 256) (i : Nat) : 0 ≤ zs.getD i 0 ∧ zs.getD i 0 < 256 := by
  by_cases hi : i < zs.length
  · rw [List.getD_eq_getElem?_getD, List.getElem?_eq_getElem hi]
    exact h _ (List.getElem_mem hi)
  · rw [List.getD_eq_getElem?_getD, List.getElem?_eq_none (by omega)]
    decide
/-- A byte as a number of 32 bits. -/
def byteB (z : Int) : BitVec 32 := BitVec.ofNat 32 z.toNat
theorem byteB_int (z : Int) (h : 0 ≤ z ∧ z < 256) : ((byteB z).toNat : Int) = z := by
  unfold byteB
  rw [BitVec.toNat_ofNat, Nat.mod_eq_of_lt (by omega)]
  omega
/-- The number that so many bytes from there on are, the lowest first. -/
def unitB (zs : List Int) (o : Nat) : Nat → BitVec 32
  | 0 => 0
  | k + 1 => unitB zs o k ||| (byteB (zs.getD (o + k) 0) <<< (8 * k))
theorem unit_step (zs : List Int) (o k : Nat) (hb : ∀ z ∈ zs, 0 ≤ z ∧ z < 256) :
    bits .or .u32 ((unitB zs o k).toNat : Int) (zs.getD (o + k) 0 * 2 ^ (8 * k) % 4294967296) = ((unitB zs o (k + 1)).toNat : Int) := by
  show _ = ((unitB zs o k ||| (byteB (zs.getD (o + k) 0) <<< (8 * k))).toNat : Int)
  rw [← or_int, ← shl_int, byteB_int _ (getD_bd hb _)]
theorem width_bd {k : Int} (h : Whole k) : 1 ≤ widthOf k ∧ widthOf k ≤ 4 := by
  rcases whole_cases h with rfl | rfl | rfl | rfl | rfl | rfl | rfl | rfl | rfl | rfl | rfl <;> decide
theorem whole_of_lies {o b n k : Int} (h : Lies o b n k) : Whole k := by
  by_cases g : Whole k
  · exact g
  · exfalso
    obtain ⟨_, h1, h2, h3⟩ := h
    rw [room_no g] at h3
    omega
set_option maxHeartbeats 4000000 in
theorem onUnit_R (a : Option Addr) (cap : Nat) (zs : List Int) (m t k : Int) (o b n : Nat) (P Q : Option Addr) (R : BitVec 32) (w : World) (hr : Row w a zs) (h : Lies o b n k) (hW : Whole k) (ho : o + widthOf k ≤ zs.length)
    (hF : ∀ W, Below w.heap.size w W → Calls Try.prog 37 #[.int .u32 (unitB zs o (widthOf k)).toNat, .pointer P, .pointer Q] W fun e w' => e = .returned (.int .u32 R.toNat) ∧ Below w.heap.size w w') :
    Calls Try.prog 36 #[.slice a zs.length cap, placeV m t o b n, .int .i64 k, .func (.func 37) #[] #[.pointer P, .pointer Q]] w fun e w' => e = .returned (.tuple #[.int .u32 R.toNat, .int .i64 0]) ∧ Below w.heap.size w w' := by
  have c1 := fun W => width_c k W hW
  have c2 := fun W => lies_yes m t o b n k W h
  obtain ⟨hm, hby, hcase⟩ := hr
  have hwd := width_bd hW
  rcases hcase with hcase | ⟨g, og, rfl, hc⟩
  · exfalso; rw [hcase] at ho; simp at ho; omega
  have hlen : (o : Int) ≤ (zs.length : Int) - (widthOf k : Int) := by omega
  have hb0 : ∀ i, i < zs.length → g < w.heap.size := fun i hi => World.block_lt_of_cell? w _ (hc i hi)
  generalize hwk : widthOf k = wd at *
  have HWK : Hid (widthOf k = wd) := hwk
  have HHO : Hid (o + wd ≤ zs.length) := ho
  generalize hzl : zs.length = len at *
  have HC : Hid (∀ i, i < len → w.cell? ⟨g, og + i, none⟩ = some (.int .u8 (zs.getD i 0))) := hc
  have HBY : Hid (∀ z ∈ zs, 0 ≤ z ∧ z < 256) := hby
  have HB0 : Hid (∀ i, i < len → g < w.heap.size) := hb0
  have HF : Hid (∀ W, Below w.heap.size w W → Calls Try.prog 37 #[.int .u32 (unitB zs o wd).toNat, .pointer P, .pointer Q] W fun e w' => e = .returned (.int .u32 R.toNat) ∧ Below w.heap.size w w') := hF
  clear hc hby hb0 hF hwk ho hW h hzl
  go_enter Try.func36, Try.ntmps36
  go_wp2_with fail
  refine (c1 _).mono ?_; rintro e w' ⟨rfl, rfl⟩
  clear c1
  go_wp2_with fail
  refine (c2 _).mono ?_; rintro e w1 ⟨rfl, hb1⟩
  clear c2
  have HB := boxed_below hb1
  have q2 : w1.cell? ⟨w.heap.size, 2, none⟩ = some (.int .i64 o) := boxed_cell hb1 2
  clear hb1
  go_wp2
  go_loop [11, 29] (fun u i => ∃ j : Nat, j ≤ wd ∧ i = .int .i64 j ∧ u = .int .u32 (unitB zs o j).toNat) (fun _ i => wd - (intOf i).toNat)
  case atStart => exact ⟨0, by omega, rfl, rfl⟩
  case round =>
    obtain ⟨j, hj, rfl, rfl⟩ := hrel
    by_cases hlt : j < wd
    · have hoj : o + j < len := by have := HHO.out; omega
      have HS : Hid _ := unit_step zs o j (HBY.out)
      have q : w1.cell? ⟨g, og + (o + j), none⟩ = some (.int .u8 (zs.getD (o + j) 0)) := (HB.out.cell (p := ⟨g, og + (o + j), none⟩) (HB0.out _ hoj)).trans (HC.out _ hoj)
      have hz := getD_bd HBY.out (o + j)
      generalize zs.getD (o + j) 0 = z at *
      go_wp2
      go_round
      case rel => exact ⟨j + 1, by omega, by go_num, by rw [← HS.out]⟩
      case measure => simp [intOf]; omega
    · have hkk : j = wd := by omega
      subst hkk
      have c3 := HF.out w1 HB.out
      go_wp2_with fail
      refine c3.mono ?_; rintro e w2 ⟨rfl, hb2⟩
      clear c3
      have HB2 : Hid (Below _ _ w2) := hb2
      clear hb2
      go_wp2
      go_ret2
      exact ⟨rfl, HB2.out⟩
set_option maxHeartbeats 4000000 in
theorem onUnit_R_no (a : Option Addr) (cap len : Nat) (m t o b n k : Int) (P Q : Option Addr) (w : World) (hm : len ≤ 140737488351232) (b1 : b < 9223372036854775808) (h : ¬ Lies o b n k) :
    Calls Try.prog 36 #[.slice a len cap, placeV m t o b n, .int .i64 k, .func (.func 37) #[] #[.pointer P, .pointer Q]] w fun e w' => e = .returned (.tuple #[.int .u32 0, .int .i64 80]) ∧ Below w.heap.size w w' := by
  have c1 := fun W => width_other k W
  have c2 := fun W => lies_no m t o b n k W b1 h
  clear h
  go_enter Try.func36, Try.ntmps36
  go_wp2_with fail
  refine (c1 _).mono ?_; rintro e w' ⟨⟨x, rfl, hx0, hx1⟩, rfl⟩
  clear c1
  go_wp2_with fail
  refine (c2 _).mono ?_; rintro e w1 ⟨rfl, hb1⟩
  clear c2
  have HB := boxed_below hb1
  clear hb1
  go_wp2
  go_ret2
  exact ⟨rfl, HB.out⟩
set_option maxHeartbeats 4000000 in
theorem onUnit_R_far (a : Option Addr) (cap len : Nat) (m t o b n k : Int) (P Q : Option Addr) (w : World) (hm : len ≤ 140737488351232) (h : Lies o b n k) (hW : Whole k) (ho : (len : Int) < o + widthOf k) :
    Calls Try.prog 36 #[.slice a len cap, placeV m t o b n, .int .i64 k, .func (.func 37) #[] #[.pointer P, .pointer Q]] w fun e w' => e = .returned (.tuple #[.int .u32 0, .int .i64 80]) ∧ Below w.heap.size w w' := by
  have c1 := fun W => width_c k W hW
  have c2 := fun W => lies_yes m t o b n k W h
  have hwd := width_bd hW
  have hlen : (len : Int) - (widthOf k : Int) < o := by omega
  generalize widthOf k = wd at *
  clear h hW ho
  go_enter Try.func36, Try.ntmps36
  go_wp2_with fail
  refine (c1 _).mono ?_; rintro e w' ⟨rfl, rfl⟩
  clear c1
  go_wp2_with fail
  refine (c2 _).mono ?_; rintro e w1 ⟨rfl, hb1⟩
  clear c2
  have HB := boxed_below hb1
  have q2 : w1.cell? ⟨w.heap.size, 2, none⟩ = some (.int .i64 o) := boxed_cell hb1 2
  clear hb1
  go_wp2
  go_ret2
  exact ⟨rfl, HB.out⟩
set_option maxHeartbeats 4000000 in
theorem onUnit_W (a : Option Addr) (cap : Nat) (zs : List Int) (m t k : Int) (o b n : Nat) (P Q : Option Addr) (R : BitVec 32) (w : World) (hr : Row w a zs) (h : Lies o b n k) (hW : Whole k) (ho : o + widthOf k ≤ zs.length)
    (hF : ∀ W, Below w.heap.size w W → Calls Try.prog 40 #[.int .u32 (unitB zs o (widthOf k)).toNat, .pointer P, .pointer Q] W fun e w' => e = .returned (.int .u32 R.toNat) ∧ Below w.heap.size w w') :
    Calls Try.prog 36 #[.slice a zs.length cap, placeV m t o b n, .int .i64 k, .func (.func 40) #[] #[.pointer P, .pointer Q]] w fun e w' => e = .returned (.tuple #[.int .u32 R.toNat, .int .i64 0]) ∧ Below w.heap.size w w' := by
  have c1 := fun W => width_c k W hW
  have c2 := fun W => lies_yes m t o b n k W h
  obtain ⟨hm, hby, hcase⟩ := hr
  have hwd := width_bd hW
  rcases hcase with hcase | ⟨g, og, rfl, hc⟩
  · exfalso; rw [hcase] at ho; simp at ho; omega
  have hlen : (o : Int) ≤ (zs.length : Int) - (widthOf k : Int) := by omega
  have hb0 : ∀ i, i < zs.length → g < w.heap.size := fun i hi => World.block_lt_of_cell? w _ (hc i hi)
  generalize hwk : widthOf k = wd at *
  have HWK : Hid (widthOf k = wd) := hwk
  have HHO : Hid (o + wd ≤ zs.length) := ho
  generalize hzl : zs.length = len at *
  have HC : Hid (∀ i, i < len → w.cell? ⟨g, og + i, none⟩ = some (.int .u8 (zs.getD i 0))) := hc
  have HBY : Hid (∀ z ∈ zs, 0 ≤ z ∧ z < 256) := hby
  have HB0 : Hid (∀ i, i < len → g < w.heap.size) := hb0
  have HF : Hid (∀ W, Below w.heap.size w W → Calls Try.prog 40 #[.int .u32 (unitB zs o wd).toNat, .pointer P, .pointer Q] W fun e w' => e = .returned (.int .u32 R.toNat) ∧ Below w.heap.size w w') := hF
  clear hc hby hb0 hF hwk ho hW h hzl
  go_enter Try.func36, Try.ntmps36
  go_wp2_with fail
  refine (c1 _).mono ?_; rintro e w' ⟨rfl, rfl⟩
  clear c1
  go_wp2_with fail
  refine (c2 _).mono ?_; rintro e w1 ⟨rfl, hb1⟩
  clear c2
  have HB := boxed_below hb1
  have q2 : w1.cell? ⟨w.heap.size, 2, none⟩ = some (.int .i64 o) := boxed_cell hb1 2
  clear hb1
  go_wp2
  go_loop [11, 29] (fun u i => ∃ j : Nat, j ≤ wd ∧ i = .int .i64 j ∧ u = .int .u32 (unitB zs o j).toNat) (fun _ i => wd - (intOf i).toNat)
  case atStart => exact ⟨0, by omega, rfl, rfl⟩
  case round =>
    obtain ⟨j, hj, rfl, rfl⟩ := hrel
    by_cases hlt : j < wd
    · have hoj : o + j < len := by have := HHO.out; omega
      have HS : Hid _ := unit_step zs o j (HBY.out)
      have q : w1.cell? ⟨g, og + (o + j), none⟩ = some (.int .u8 (zs.getD (o + j) 0)) := (HB.out.cell (p := ⟨g, og + (o + j), none⟩) (HB0.out _ hoj)).trans (HC.out _ hoj)
      have hz := getD_bd HBY.out (o + j)
      generalize zs.getD (o + j) 0 = z at *
      go_wp2
      go_round
      case rel => exact ⟨j + 1, by omega, by go_num, by rw [← HS.out]⟩
      case measure => simp [intOf]; omega
    · have hkk : j = wd := by omega
      subst hkk
      have c3 := HF.out w1 HB.out
      go_wp2_with fail
      refine c3.mono ?_; rintro e w2 ⟨rfl, hb2⟩
      clear c3
      have HB2 : Hid (Below _ _ w2) := hb2
      clear hb2
      go_wp2
      go_ret2
      exact ⟨rfl, HB2.out⟩
set_option maxHeartbeats 4000000 in
theorem onUnit_W_no (a : Option Addr) (cap len : Nat) (m t o b n k : Int) (P Q : Option Addr) (w : World) (hm : len ≤ 140737488351232) (b1 : b < 9223372036854775808) (h : ¬ Lies o b n k) :
    Calls Try.prog 36 #[.slice a len cap, placeV m t o b n, .int .i64 k, .func (.func 40) #[] #[.pointer P, .pointer Q]] w fun e w' => e = .returned (.tuple #[.int .u32 0, .int .i64 80]) ∧ Below w.heap.size w w' := by
  have c1 := fun W => width_other k W
  have c2 := fun W => lies_no m t o b n k W b1 h
  clear h
  go_enter Try.func36, Try.ntmps36
  go_wp2_with fail
  refine (c1 _).mono ?_; rintro e w' ⟨⟨x, rfl, hx0, hx1⟩, rfl⟩
  clear c1
  go_wp2_with fail
  refine (c2 _).mono ?_; rintro e w1 ⟨rfl, hb1⟩
  clear c2
  have HB := boxed_below hb1
  clear hb1
  go_wp2
  go_ret2
  exact ⟨rfl, HB.out⟩
set_option maxHeartbeats 4000000 in
theorem onUnit_W_far (a : Option Addr) (cap len : Nat) (m t o b n k : Int) (P Q : Option Addr) (w : World) (hm : len ≤ 140737488351232) (h : Lies o b n k) (hW : Whole k) (ho : (len : Int) < o + widthOf k) :
    Calls Try.prog 36 #[.slice a len cap, placeV m t o b n, .int .i64 k, .func (.func 40) #[] #[.pointer P, .pointer Q]] w fun e w' => e = .returned (.tuple #[.int .u32 0, .int .i64 80]) ∧ Below w.heap.size w w' := by
  have c1 := fun W => width_c k W hW
  have c2 := fun W => lies_yes m t o b n k W h
  have hwd := width_bd hW
  have hlen : (len : Int) - (widthOf k : Int) < o := by omega
  generalize widthOf k = wd at *
  clear h hW ho
  go_enter Try.func36, Try.ntmps36
  go_wp2_with fail
  refine (c1 _).mono ?_; rintro e w' ⟨rfl, rfl⟩
  clear c1
  go_wp2_with fail
  refine (c2 _).mono ?_; rintro e w1 ⟨rfl, hb1⟩
  clear c2
  have HB := boxed_below hb1
  have q2 : w1.cell? ⟨w.heap.size, 2, none⟩ = some (.int .i64 o) := boxed_cell hb1 2
  clear hb1
  go_wp2
  go_ret2
  exact ⟨rfl, HB.out⟩
end Go.Proofs.Ytmdgnjadfdnibaa
