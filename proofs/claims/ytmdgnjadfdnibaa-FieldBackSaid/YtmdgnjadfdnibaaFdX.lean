/-
  What the program's function Write of package field answers at every bytes, place, kind and number: the bytes in new memory, the unit's turned. It changes nothing that was there.
-/
import Derived.Test.YtmdgnjadfdnibaaFdW
namespace Go.Proofs.Ytmdgnjadfdnibaa
open Go.RowKit
set_option linter.unusedVariables false
theorem heap_r0 (w : World) (A : Obj) : (w.alloc A).heap[w.heap.size]? = some A := by
  show (w.heap.push A)[w.heap.size]? = some A
  simp

theorem copy_new {w w1 : World} {og g cap : Nat} (zs : List Int) (o : Nat) (R : BitVec 32) (hb : Below w.heap.size w w1) (hby : ∀ z ∈ zs, 0 ≤ z ∧ z < 256) (hg : g < w.heap.size) (hc : ∀ i, i < zs.length → w.cell? ⟨g, og + i, none⟩ = some (.int .u8 (zs.getD i 0))) :
    ∃ W2, Sem.run Try.prog (Builtin.copy_ #[39, 39] 3 #[.slice (some ⟨w1.heap.size, 0, none⟩) zs.length zs.length, .slice (some ⟨g, og, none⟩) zs.length cap]) (w1.alloc (.cells (madeCells #[.int .u8 0] zs.length) 5)) = .ok (goInt zs.length) W2 ∧ Laid w1 zs o R 0 W2 := by
  have hrow : (w1.alloc (.cells (madeCells #[.int .u8 0] zs.length) 5)).heap[w1.heap.size]? = some (.cells (madeCells #[.int .u8 0] zs.length) 5 (0, 0)) := heap_r0 w1 _
  have hbel : Below w1.heap.size w1 (w1.alloc (.cells (madeCells #[.int .u8 0] zs.length) 5)) := (Below.refl _ _).alloc (Nat.le_refl _) _
  have e := run_copy_row (P := Try.prog) (w1.alloc (.cells (madeCells #[.int .u8 0] zs.length) 5)) 39 39 3 5 w1.heap.size 0 zs.length zs.length ⟨g, og, none⟩ zs.length cap (madeCells #[.int .u8 0] zs.length) 5 (zs.map (Value.int .u8)) Try.underlying39 size_u8 hrow (by simp) (by
    intro j v hv
    have hj : j < zs.length := by
      have := (List.getElem?_eq_some_iff.1 hv).1
      simpa using this
    rw [show (⟨g, og, none⟩ : Addr).add j = ⟨g, og + j, none⟩ by unfold Addr.add; split <;> simp_all]
    rw [hbel.cell (p := ⟨g, og + j, none⟩) (Nat.lt_of_lt_of_le hg hb.size), hb.cell (p := ⟨g, og + j, none⟩) hg, hc j hj]
    simp only [List.getElem?_map, List.getElem?_eq_getElem hj, Option.map_some] at hv
    rw [← hv]
    simp [List.getD_eq_getElem?_getD, List.getElem?_eq_getElem hj]) (by simp [size_madeCells]) (by intro v hv; simp at hv; obtain ⟨z, _, rfl⟩ := hv; rfl)
  refine ⟨_, by simpa using e, ?_, below_setRow hbel (Nat.le_refl _) _⟩
  rw [setRow_heap _ _ _ _ _ _ hrow]
  simp [setB, size_madeCells]
set_option maxHeartbeats 8000000 in
theorem Write_no2 (a : Option Addr) (cap : Nat) (zs : List Int) (m t k : Int) (o b n : Nat) (X : BitVec 32) (w : World) (hr : Row w a zs) (h : Lies o b n k) (ho : o + widthOf k ≤ zs.length) (h2 : (k == 2) = false) :
    Calls Try.prog 19 #[.slice a zs.length cap, placeV m t o b n, .int .i64 k, .int .u32 X.toNat] w fun e w' => ∃ a' cap', e = .returned (.tuple #[.slice a' zs.length cap', .int .i64 0]) ∧ Row w' a' (setB zs o (layB (unitB zs o (widthOf k)) b n X) (widthOf k)) ∧ Below w.heap.size w w' := by
  have hW := whole_of_lies h
  have hn : 1 ≤ n ∧ b + n ≤ 32 := by
    obtain ⟨_, h1, h2, h3⟩ := h
    have := room_bd k
    omega
  have hrb := hr.2.1
  have hrm := hr.1
  obtain ⟨g, og, rfl, hc⟩ : ∃ g og : Nat, a = some ⟨g, og, none⟩ ∧ ∀ i, i < zs.length → w.cell? ⟨g, og + i, none⟩ = some (.int .u8 (zs.getD i 0)) := by
    rcases hr.2.2 with e | e
    · exfalso; have := width_bd hW; rw [e] at ho; simp at ho; omega
    · exact e
  have c0 := fun Y => convert_2 X Y
  have cW := fun Y => width_c k Y hW
  have c := onUnit_W (some ⟨g, og, none⟩) cap zs m t k o b n (some ⟨w.heap.size, 0, none⟩) (some ⟨w.heap.size + 1, 0, none⟩) (layB (unitB zs o (widthOf k)) b n X) ((w.alloc (.cells (placeCells m t o b n) 41)).alloc (.cells #[.int .u32 X.toNat] 22)) (hr.later (box2_below _ _ _ _ _)) h hW ho (fun W hb => by
    obtain ⟨p, q, _⟩ := box2_cell hb
    refine (writeIn_c _ X b n _ _ W hn.1 hn.2 (by rw [p 3]; rfl) (by rw [p 4]; rfl) (by rw [q 0]; rfl)).mono ?_
    rintro e w' ⟨rfl, hb'⟩
    exact ⟨rfl, hb.trans (hb'.mono hb.size)⟩)
  have hwd := width_bd hW
  have HR : Hid (∀ z ∈ zs, 0 ≤ z ∧ z < 256) := hrb
  have HC : Hid (∀ i, i < zs.length → w.cell? ⟨g, og + i, none⟩ = some (.int .u8 (zs.getD i 0))) := hc
  have HG : Hid (g < w.heap.size) := World.block_lt_of_cell? w _ (hc 0 (by omega))
  clear hr h hW hn hrb hc
  generalize layB (unitB zs o (widthOf k)) b n X = R at *
  generalize widthOf k = wd at *
  have HO : Hid (o + wd ≤ zs.length) := ho
  have hzs : Hid (zs.length = zs.length) := rfl
  obtain ⟨len, hlen⟩ : ∃ len, len = zs.length := ⟨_, rfl⟩
  rw [← hlen] at c hrm ⊢
  have HL : Hid (len = zs.length) := hlen
  have hmk := fun Y => run_make_row' (P := Try.prog) 39 5 (.int .u8 0) 1 Try.underlying39 info_u8 rfl .i64 .i64 len (by omega) (by omega) Y
  clear hlen ho hzs
  go_enter Try.func19, Try.ntmps19
  go_wp2_with fail
  refine c.mono ?_; rintro e w1 ⟨rfl, hb1⟩
  clear c
  have HB1 : Hid (Below w.heap.size w w1) := (box2_cell hb1).2.2
  have q2 : w1.cell? ⟨w.heap.size, 2, none⟩ = some (.int .i64 o) := by rw [(box2_cell hb1).1 2]; rfl
  have hq2 : w.heap.size < w1.heap.size := World.block_lt_of_cell? w1 _ q2
  clear hb1
  obtain ⟨W2, hcp, hL0⟩ := copy_new (w := w) (w1 := w1) (og := og) (cap := cap) zs o R (HB1.out) HR.out HG.out HC.out
  rw [← HL.out] at hcp
  have HL0 : Hid (Laid _ _ _ _ _ _) := hL0
  clear hL0
  go_wp2_with fail
  refine (cW _).mono ?_; rintro e w' ⟨rfl, hw⟩; rw [hw]; clear hw w' cW
  go_wp2
  clear hcp hmk
  go_loopw [38] (fun i wr => ∃ j : Nat, j ≤ wd ∧ i = .int .i64 j ∧ Laid w1 zs o R j wr) (fun i _ => wd - (intOf i).toNat)
  case atStart => exact ⟨0, by omega, rfl, HL0.out⟩
  case round =>
    obtain ⟨j, hj, rfl, hLj⟩ := hrel
    have HLj : Hid (Laid _ _ _ _ _ _) := hLj
    have p2 : wr.cell? ⟨w.heap.size, 2, none⟩ = some (.int .i64 o) := (hLj.below.cell (p := ⟨w.heap.size, 2, none⟩) hq2).trans q2
    by_cases hlt : j < wd
    · have hoj : o + j < len := by have := HO.out; have := HL.out; omega
      have f := frozen_of hLj.row (o + j)
      obtain ⟨old, hold⟩ : ∃ old, wr.cell? ⟨w1.heap.size, o + j, none⟩ = some old := by
        rw [cell_of hLj.row]
        exact ⟨_, Array.getElem?_eq_getElem (by simp [setB_length]; have := HL.out; omega)⟩
      clear hLj
      go_wp2
      go_region
      go_wp2
      go_roundw
      case rel => exact ⟨j + 1, by omega, by go_num, HLj.out.step _⟩
      case measure => simp [intOf]; omega
    · have hkk : j = wd := by omega
      subst hkk
      clear hLj
      go_wp2
      go_ret2
      refine ⟨_, _, rfl, ?_, ?_⟩
      · have hr := HLj.out.row
        refine ⟨by rw [setB_length, ← HL.out]; exact hrm, setB_bd _ _ _ _ HR.out, .inr ⟨w1.heap.size, 0, rfl, fun i hi => ?_⟩⟩
        rw [Nat.zero_add, cell_of hr]
        simp [List.getD_eq_getElem?_getD, List.getElem?_eq_getElem hi]
      · exact HB1.out.trans (HLj.out.below.mono HB1.out.size)
set_option maxHeartbeats 8000000 in
theorem Write_bool (a : Option Addr) (cap : Nat) (zs : List Int) (m t : Int) (o b n : Nat) (X : BitVec 32) (w : World) (hr : Row w a zs) (h : Lies o b n 2) (ho : o + widthOf 2 ≤ zs.length) :
    Calls Try.prog 19 #[.slice a zs.length cap, placeV m t o b n, .int .i64 2, .int .u32 X.toNat] w fun e w' => ∃ a' cap', e = .returned (.tuple #[.slice a' zs.length cap', .int .i64 0]) ∧ Row w' a' (setB zs o (layB (unitB zs o (widthOf 2)) b n (boolB X)) (widthOf 2)) ∧ Below w.heap.size w w' := by
  have hW := whole_of_lies h
  have hn : 1 ≤ n ∧ b + n ≤ 32 := by
    obtain ⟨_, h1, h2, h3⟩ := h
    have := room_bd 2
    omega
  have hrb := hr.2.1
  have hrm := hr.1
  obtain ⟨g, og, rfl, hc⟩ : ∃ g og : Nat, a = some ⟨g, og, none⟩ ∧ ∀ i, i < zs.length → w.cell? ⟨g, og + i, none⟩ = some (.int .u8 (zs.getD i 0)) := by
    rcases hr.2.2 with e | e
    · exfalso; have := width_bd hW; rw [e] at ho; simp at ho; omega
    · exact e
  have c0 := fun Y => convert_2 X Y
  have cW := fun Y => width_c 2 Y hW
  have c := onUnit_W (some ⟨g, og, none⟩) cap zs m t 2 o b n (some ⟨w.heap.size, 0, none⟩) (some ⟨w.heap.size + 1, 0, none⟩) (layB (unitB zs o (widthOf 2)) b n (boolB X)) ((w.alloc (.cells (placeCells m t o b n) 41)).alloc (.cells #[.int .u32 (boolB X).toNat] 22)) (hr.later (box2_below _ _ _ _ _)) h hW ho (fun W hb => by
    obtain ⟨p, q, _⟩ := box2_cell hb
    refine (writeIn_c _ (boolB X) b n _ _ W hn.1 hn.2 (by rw [p 3]; rfl) (by rw [p 4]; rfl) (by rw [q 0]; rfl)).mono ?_
    rintro e w' ⟨rfl, hb'⟩
    exact ⟨rfl, hb.trans (hb'.mono hb.size)⟩)
  have hwd := width_bd hW
  have HR : Hid (∀ z ∈ zs, 0 ≤ z ∧ z < 256) := hrb
  have HC : Hid (∀ i, i < zs.length → w.cell? ⟨g, og + i, none⟩ = some (.int .u8 (zs.getD i 0))) := hc
  have HG : Hid (g < w.heap.size) := World.block_lt_of_cell? w _ (hc 0 (by omega))
  clear hr h hW hn hrb hc
  generalize layB (unitB zs o (widthOf 2)) b n (boolB X) = R at *
  generalize widthOf 2 = wd at *
  have HO : Hid (o + wd ≤ zs.length) := ho
  have hzs : Hid (zs.length = zs.length) := rfl
  obtain ⟨len, hlen⟩ : ∃ len, len = zs.length := ⟨_, rfl⟩
  rw [← hlen] at c hrm ⊢
  have HL : Hid (len = zs.length) := hlen
  have hmk := fun Y => run_make_row' (P := Try.prog) 39 5 (.int .u8 0) 1 Try.underlying39 info_u8 rfl .i64 .i64 len (by omega) (by omega) Y
  clear hlen ho hzs
  go_enter Try.func19, Try.ntmps19
  go_wp2_with fail
  refine (c0 _).mono ?_; rintro e w' ⟨rfl, hw⟩; rw [hw]; clear hw w' c0
  go_wp2_with fail
  refine c.mono ?_; rintro e w1 ⟨rfl, hb1⟩
  clear c
  have HB1 : Hid (Below w.heap.size w w1) := (box2_cell hb1).2.2
  have q2 : w1.cell? ⟨w.heap.size, 2, none⟩ = some (.int .i64 o) := by rw [(box2_cell hb1).1 2]; rfl
  have hq2 : w.heap.size < w1.heap.size := World.block_lt_of_cell? w1 _ q2
  clear hb1
  obtain ⟨W2, hcp, hL0⟩ := copy_new (w := w) (w1 := w1) (og := og) (cap := cap) zs o R (HB1.out) HR.out HG.out HC.out
  rw [← HL.out] at hcp
  have HL0 : Hid (Laid _ _ _ _ _ _) := hL0
  clear hL0
  go_wp2_with fail
  refine (cW _).mono ?_; rintro e w' ⟨rfl, hw⟩; rw [hw]; clear hw w' cW
  go_wp2
  clear hcp hmk
  go_loopw [38] (fun i wr => ∃ j : Nat, j ≤ wd ∧ i = .int .i64 j ∧ Laid w1 zs o R j wr) (fun i _ => wd - (intOf i).toNat)
  case atStart => exact ⟨0, by omega, rfl, HL0.out⟩
  case round =>
    obtain ⟨j, hj, rfl, hLj⟩ := hrel
    have HLj : Hid (Laid _ _ _ _ _ _) := hLj
    have p2 : wr.cell? ⟨w.heap.size, 2, none⟩ = some (.int .i64 o) := (hLj.below.cell (p := ⟨w.heap.size, 2, none⟩) hq2).trans q2
    by_cases hlt : j < wd
    · have hoj : o + j < len := by have := HO.out; have := HL.out; omega
      have f := frozen_of hLj.row (o + j)
      obtain ⟨old, hold⟩ : ∃ old, wr.cell? ⟨w1.heap.size, o + j, none⟩ = some old := by
        rw [cell_of hLj.row]
        exact ⟨_, Array.getElem?_eq_getElem (by simp [setB_length]; have := HL.out; omega)⟩
      clear hLj
      go_wp2
      go_region
      go_wp2
      go_roundw
      case rel => exact ⟨j + 1, by omega, by go_num, HLj.out.step _⟩
      case measure => simp [intOf]; omega
    · have hkk : j = wd := by omega
      subst hkk
      clear hLj
      go_wp2
      go_ret2
      refine ⟨_, _, rfl, ?_, ?_⟩
      · have hr := HLj.out.row
        refine ⟨by rw [setB_length, ← HL.out]; exact hrm, setB_bd _ _ _ _ HR.out, .inr ⟨w1.heap.size, 0, rfl, fun i hi => ?_⟩⟩
        rw [Nat.zero_add, cell_of hr]
        simp [List.getD_eq_getElem?_getD, List.getElem?_eq_getElem hi]
      · exact HB1.out.trans (HLj.out.below.mono HB1.out.size)
set_option maxHeartbeats 4000000 in
theorem Write_bad (a : Option Addr) (cap len : Nat) (m t o b n k : Int) (X : BitVec 32) (w : World) (hm : len ≤ 140737488351232) (b1 : b < 9223372036854775808) (h : Out len o b n k) :
    Calls Try.prog 19 #[.slice a len cap, placeV m t o b n, .int .i64 k, .int .u32 X.toNat] w fun e w' => e = .returned (.tuple #[.slice none 0 0, .int .i64 80]) ∧ Below w.heap.size w w' := by
  have c := fun W P Q => show Calls Try.prog 36 #[.slice a len cap, placeV m t o b n, .int .i64 k, .func (.func 40) #[] #[.pointer P, .pointer Q]] W fun e w' => e = .returned (.tuple #[.int .u32 0, .int .i64 80]) ∧ Below W.heap.size W w' from by
    rcases h with h | ⟨h, g⟩
    · exact onUnit_W_no a cap len m t o b n k P Q W hm b1 h
    · exact onUnit_W_far a cap len m t o b n k P Q W hm h (whole_of_lies h) g
  clear h
  by_cases hk : k = 2
  · subst hk
    have c0 := fun Y => convert_2 X Y
    go_enter Try.func19, Try.ntmps19
    go_wp2_with fail
    refine (c0 _).mono ?_; rintro e w' ⟨rfl, hw⟩; rw [hw]; clear hw w' c0
    go_wp2_with fail
    refine (c _ _ _).mono ?_; rintro e w1 ⟨rfl, hb1⟩
    clear c
    have HB : Hid (Below w.heap.size w w1) := (box2_cell hb1).2.2
    clear hb1
    go_wp2
    go_ret2
    exact ⟨rfl, HB.out⟩
  · have h2 : (k == 2) = false := by simpa using hk
    clear hk
    go_enter Try.func19, Try.ntmps19
    go_wp2_with fail
    refine (c _ _ _).mono ?_; rintro e w1 ⟨rfl, hb1⟩
    clear c
    have HB : Hid (Below w.heap.size w w1) := (box2_cell hb1).2.2
    clear hb1
    go_wp2
    go_ret2
    exact ⟨rfl, HB.out⟩
theorem Write_yes (a : Option Addr) (cap : Nat) (zs : List Int) (m t k : Int) (o b n : Nat) (X : BitVec 32) (w : World) (hr : Row w a zs) (h : Lies o b n k) (ho : o + widthOf k ≤ zs.length) :
    Calls Try.prog 19 #[.slice a zs.length cap, placeV m t o b n, .int .i64 k, .int .u32 X.toNat] w fun e w' => ∃ a' cap', e = .returned (.tuple #[.slice a' zs.length cap', .int .i64 0]) ∧ Row w' a' (setB zs o (layB (unitB zs o (widthOf k)) b n (putB k X)) (widthOf k)) ∧ Below w.heap.size w w' := by
  unfold putB
  by_cases hk : k = 2
  · rw [if_pos hk]
    subst hk
    exact Write_bool a cap zs m t o b n X w hr h ho
  · rw [if_neg hk]
    exact Write_no2 a cap zs m t k o b n X w hr h ho (by simpa using hk)
end Go.Proofs.Ytmdgnjadfdnibaa
