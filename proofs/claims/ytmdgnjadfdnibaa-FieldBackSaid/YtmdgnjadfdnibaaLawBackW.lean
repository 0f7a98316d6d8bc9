/-
  The law FieldBack returns true at every bytes that lie in memory, every place, kind and number, and changes nothing that was there.
-/
import Derived.Test.YtmdgnjadfdnibaaFdP
import Derived.Test.YtmdgnjadfdnibaaFdH
namespace Go.Proofs.Ytmdgnjadfdnibaa
open Go.RowKit
set_option linter.unusedVariables false
set_option maxRecDepth 20000 in
set_option maxHeartbeats 4000000 in
theorem back_out (a : Option Addr) (cap : Nat) (len : Nat) (m t o b n k : Int) (X : BitVec 32) (w : World) (hm : len ≤ 140737488351232) (b1 : b < 9223372036854775808) (h : Out len o b n k) (V e : Int)
    (c2 : ∀ W, Calls Try.prog 15 #[.int .i64 k, .int .i64 n, .int .u32 X.toNat] W fun r w' => r = .returned (.tuple #[.int .u32 V, .int .i64 e]) ∧ w' = W) :
    Calls Try.prog 5 #[.slice a len cap, placeV m t o b n, .int .i64 k, .int .u32 X.toNat] w fun e w' => e = .returned (.bool true) ∧ Below w.heap.size w w' := by
  have c1 := fun W => Write_bad a cap len m t o b n k X W hm b1 h
  clear h
  go_enter Try.func5, Try.ntmps5
  go_wp2_with fail
  refine (c1 _).mono ?_; rintro r w1 ⟨rfl, hb1⟩
  clear c1
  have HB := boxed_below hb1
  have q4 : w1.cell? ⟨w.heap.size, 4, none⟩ = some (.int .i64 n) := boxed_cell hb1 4
  clear hb1
  go_wp2_with fail
  refine (c2 _).mono ?_; rintro r w' ⟨rfl, hw⟩; rw [hw]; clear hw w' c2
  go_wp2_with fail
  refine (num_c _ _).mono ?_; rintro r w' ⟨rfl, hw⟩; rw [hw]; clear hw w'
  go_wp2_with fail
  refine (heads_c _).mono ?_; rintro r w2 ⟨rfl, hb⟩
  have HB2 : Hid (Below w.heap.size w w2) := HB.out.trans (hb.mono HB.out.size)
  clear hb
  go_wp2
  go_ret
  exact ⟨rfl, HB2.out⟩
set_option maxRecDepth 20000 in
set_option maxHeartbeats 4000000 in
theorem back_novalue (a : Option Addr) (cap : Nat) (zs : List Int) (m t k : Int) (o b n : Nat) (X : BitVec 32) (w : World) (hr : Row w a zs) (h : Lies o b n k) (ho : o + widthOf k ≤ zs.length) (g : ¬ FOK 0 n (mostOf k)) :
    Calls Try.prog 5 #[.slice a zs.length cap, placeV m t o b n, .int .i64 k, .int .u32 X.toNat] w fun e w' => e = .returned (.bool true) ∧ Below w.heap.size w w' := by
  have c1 := fun W (hW : Below w.heap.size w W) => Write_yes a cap zs m t k o b n X W (hr.later hW) h ho
  have c2 := fun W => Value_no k n X W g
  clear h ho g hr
  generalize zs.length = len at *
  go_enter Try.func5, Try.ntmps5
  go_wp2_with fail
  refine (c1 _ ((Below.refl _ _).alloc (Nat.le_refl _) _)).mono ?_; rintro r w1 ⟨a', cap', rfl, _, hb1⟩
  clear c1
  have HB := boxed_below hb1
  have q4 : w1.cell? ⟨w.heap.size, 4, none⟩ = some (.int .i64 n) := boxed_cell hb1 4
  clear hb1
  go_wp2_with fail
  refine (c2 _).mono ?_; rintro r w' ⟨rfl, hw⟩; rw [hw]; clear hw w' c2
  go_wp2_with fail
  refine (num_c _ _).mono ?_; rintro r w' ⟨rfl, hw⟩; rw [hw]; clear hw w'
  go_wp2_with fail
  refine (num_c _ _).mono ?_; rintro r w' ⟨rfl, hw⟩; rw [hw]; clear hw w'
  go_wp2_with fail
  refine (heads_c _).mono ?_; rintro r w2 ⟨rfl, hb⟩
  have HB2 : Hid (Below w.heap.size w w2) := HB.out.trans (hb.mono HB.out.size)
  clear hb
  go_wp2
  go_ret
  exact ⟨rfl, HB2.out⟩
theorem row_some {w : World} {a : Option Addr} {zs : List Int} (h : Row w a zs) (hp : 0 < zs.length) : ∃ g o : Nat, a = some ⟨g, o, none⟩ ∧ ∀ i, i < zs.length → w.cell? ⟨g, o + i, none⟩ = some (.int .u8 (zs.getD i 0)) := by
  rcases h.2.2 with e | e
  · rw [e] at hp; simp at hp
  · exact e
set_option maxRecDepth 20000 in
set_option maxHeartbeats 8000000 in
theorem back_yes (a : Option Addr) (cap : Nat) (zs : List Int) (m t k : Int) (o b n : Nat) (X : BitVec 32) (w : World) (hr : Row w a zs) (h : Lies o b n k) (ho : o + widthOf k ≤ zs.length) (h1 : 1 ≤ n) (h2 : b + n ≤ 32) (g : FOK 0 n (mostOf k)) :
    Calls Try.prog 5 #[.slice a zs.length cap, placeV m t o b n, .int .i64 k, .int .u32 X.toNat] w fun e w' => e = .returned (.bool true) ∧ Below w.heap.size w w' := by
  have hW := whole_of_lies h
  have hwd := width_bd hW
  have h3 : b + n ≤ 8 * widthOf k := by
    obtain ⟨_, _, _, q⟩ := h
    unfold roomOf at q
    omega
  have hu := fun i hi hx => untouched hr.2.1 ho hwd.2 h1 h3 (putB k X) i hi hx
  have hs := set_same hr.2.1 ho hwd.2
  have hun := unit_set hr.2.1 ho hwd.2 h1 h3 (putB k X)
  have hrv := read_value (unitB zs o (widthOf k)) X b n k h1 h2 g
  have hpr := put_read (unitB zs o (widthOf k)) b n k h1 h2 g
  have c1 := fun W (hW : Below w.heap.size w W) => Write_yes a cap zs m t k o b n X W (hr.later hW) h ho
  have c2 := fun W => Value_yes k n X W g
  have c3 := fun W a' cap' hR => Read_yes a' cap' (setB zs o (layB (unitB zs o (widthOf k)) b n (putB k X)) (widthOf k)) m t k o b n W hR h (by rw [setB_length]; exact ho)
  have c4 := fun W => Touched_yes m t k o b n W h (by have := hr.1; omega)
  have c5 := fun W (hW : Below w.heap.size w W) => Read_yes a cap zs m t k o b n W (hr.later hW) h ho
  have c6 := fun W (hW : Below w.heap.size w W) => Write_yes a cap zs m t k o b n (takeB (unitB zs o (widthOf k)) b n (signOf k)) W (hr.later hW) h ho
  rw [hun, hrv, setB_length] at c3
  rw [hpr, hs] at c6
  clear hs hun hrv hpr hW h g
  have hlen : (setB zs o (layB (unitB zs o (widthOf k)) b n (putB k X)) (widthOf k)).length = zs.length := setB_length _ _ _ _
  generalize setB zs o (layB (unitB zs o (widthOf k)) b n (putB k X)) (widthOf k) = cs at *
  generalize valueB k n X = V at *
  generalize takeB (unitB zs o (widthOf k)) b n (signOf k) = was at *
  have hpos : 0 < zs.length := by omega
  generalize widthOf k = wd at *
  have hrm := hr.1
  have ho2 : o ≤ zs.length := by omega
  clear h1 h3 ho hwd
  have HR : Hid (Row w a zs) := hr
  clear hr
  have HU : Hid (∀ i, i < zs.length → (i < o + b / 8 ∨ o + b / 8 + ((b + n - 1) / 8 - b / 8 + 1) ≤ i) → cs.getD i 0 = zs.getD i 0) := hu
  clear hu
  obtain ⟨first, hfirst⟩ : ∃ first, first = o + b / 8 := ⟨_, rfl⟩
  obtain ⟨cnt, hcnt⟩ : ∃ cnt, cnt = (b + n - 1) / 8 - b / 8 + 1 := ⟨_, rfl⟩
  rw [← hfirst, ← hcnt] at c4 HU
  have hcnt2 : cnt ≤ 5 := by omega
  have hf2 : first < 9000000000000000000 := by omega
  obtain ⟨len, hl⟩ : ∃ len, len = zs.length := ⟨_, rfl⟩
  have HL : Hid (len = zs.length) := hl
  have HLC : Hid (cs.length = zs.length) := hlen
  rw [← hl] at c1 c3 c5 c6 hrm hpos ⊢
  clear hl hlen hfirst hcnt h2 ho2
  go_enter Try.func5, Try.ntmps5
  go_wp2_with fail
  refine (c1 _ ((Below.refl _ _).alloc (Nat.le_refl _) _)).mono ?_; rintro r w1 ⟨a', cap', rfl, hR1, hb1⟩
  clear c1
  have HB := boxed_below hb1
  have q : ∀ i, w1.cell? ⟨w.heap.size, i, none⟩ = (placeCells m t o b n)[i]? := fun i => boxed_cell hb1 i
  have q0 : w1.cell? ⟨w.heap.size, 0, none⟩ = some (.int .i64 m) := q 0
  have q1 : w1.cell? ⟨w.heap.size, 1, none⟩ = some (.int .i64 t) := q 1
  have q2 : w1.cell? ⟨w.heap.size, 2, none⟩ = some (.int .i64 o) := q 2
  have q3 : w1.cell? ⟨w.heap.size, 3, none⟩ = some (.int .i64 b) := q 3
  have q4 : w1.cell? ⟨w.heap.size, 4, none⟩ = some (.int .i64 n) := q 4
  have hbx : w.heap.size < w1.heap.size := World.block_lt_of_cell? w1 _ q4
  clear q hb1
  have HR1 : Hid (Row w1 a' cs) := hR1
  clear hR1
  go_wp2_with fail
  refine (c2 _).mono ?_; rintro r w' ⟨rfl, hw⟩; rw [hw]; clear hw w' c2
  iterate 2
    go_wp2_with fail
    refine (num_c _ _).mono ?_; rintro r w' ⟨rfl, hw⟩; rw [hw]; clear hw w'
  go_wp2_with fail
  refine (c3 _ a' cap' HR1.out).mono ?_; rintro r w2 ⟨rfl, hb2⟩
  clear c3
  have HB2 : Hid (Below w1.heap.size w1 w2) := hb2
  have p0 : w2.cell? ⟨w.heap.size, 0, none⟩ = some (.int .i64 m) := (hb2.cell (p := ⟨w.heap.size, 0, none⟩) hbx).trans q0
  have p1 : w2.cell? ⟨w.heap.size, 1, none⟩ = some (.int .i64 t) := (hb2.cell (p := ⟨w.heap.size, 1, none⟩) hbx).trans q1
  have p2 : w2.cell? ⟨w.heap.size, 2, none⟩ = some (.int .i64 o) := (hb2.cell (p := ⟨w.heap.size, 2, none⟩) hbx).trans q2
  have p3 : w2.cell? ⟨w.heap.size, 3, none⟩ = some (.int .i64 b) := (hb2.cell (p := ⟨w.heap.size, 3, none⟩) hbx).trans q3
  have p4 : w2.cell? ⟨w.heap.size, 4, none⟩ = some (.int .i64 n) := (hb2.cell (p := ⟨w.heap.size, 4, none⟩) hbx).trans q4
  clear hb2 q0 q1 q2 q3 q4
  go_wp2_with fail
  refine (c4 _).mono ?_; rintro r w3 ⟨rfl, hb3⟩
  clear c4
  have hb13 : Below w1.heap.size w1 w3 := HB2.out.trans (hb3.mono HB2.out.size)
  have hbx2 : w.heap.size < w2.heap.size := Nat.lt_of_lt_of_le hbx HB2.out.size
  have r0 : w3.cell? ⟨w.heap.size, 0, none⟩ = some (.int .i64 m) := (hb3.cell (p := ⟨w.heap.size, 0, none⟩) hbx2).trans p0
  have r1 : w3.cell? ⟨w.heap.size, 1, none⟩ = some (.int .i64 t) := (hb3.cell (p := ⟨w.heap.size, 1, none⟩) hbx2).trans p1
  have r2 : w3.cell? ⟨w.heap.size, 2, none⟩ = some (.int .i64 o) := (hb3.cell (p := ⟨w.heap.size, 2, none⟩) hbx2).trans p2
  have r3 : w3.cell? ⟨w.heap.size, 3, none⟩ = some (.int .i64 b) := (hb3.cell (p := ⟨w.heap.size, 3, none⟩) hbx2).trans p3
  have r4 : w3.cell? ⟨w.heap.size, 4, none⟩ = some (.int .i64 n) := (hb3.cell (p := ⟨w.heap.size, 4, none⟩) hbx2).trans p4
  have HB3 : Hid (Below w.heap.size w w3) := HB.out.trans (hb13.mono HB.out.size)
  have HR3 : Hid (Row w3 a' cs) := HR1.out.later hb13
  clear hb3 hb13 p0 p1 p2 p3 p4 HR1 HB HB2 hbx
  have hbx3 : w.heap.size < w3.heap.size := World.block_lt_of_cell? w3 _ r4
  obtain ⟨ga, oa, rfl, ha⟩ := row_some (HR.out.later HB3.out) (by rw [← HL.out]; exact hpos)
  obtain ⟨gc, oc, rfl, hc⟩ := row_some HR3.out (by rw [HLC.out, ← HL.out]; exact hpos)
  have HA : Hid (∀ i, i < zs.length → w3.cell? ⟨ga, oa + i, none⟩ = some (.int .u8 (zs.getD i 0))) := ha
  have HC : Hid (∀ i, i < cs.length → w3.cell? ⟨gc, oc + i, none⟩ = some (.int .u8 (cs.getD i 0))) := hc
  clear ha hc
  iterate 2
    go_wp2_with fail
    refine (num_c _ _).mono ?_; rintro r w' ⟨rfl, hw⟩; rw [hw]; clear hw w'
  go_wp2
  go_loopw [18] (fun i wr => ∃ j : Nat, j ≤ len ∧ i = .int .i64 j ∧ ∃ nn, wr = w3.drewN nn) (fun i _ => len - (intOf i).toNat)
  case atStart => exact ⟨0, Nat.zero_le _, rfl, 0, rfl⟩
  case round =>
    obtain ⟨j, hj, rfl, nn, rfl⟩ := hrel
    by_cases hlt : j < len
    · have g1 := HC.out j (by rw [HLC.out, ← HL.out]; exact hlt)
      have g2 := HA.out j (by rw [← HL.out]; exact hlt)
      by_cases x1 : j < first
      · rw [HU.out j (by rw [← HL.out]; exact hlt) (.inl x1)] at g1
        generalize zs.getD j 0 = z at *
        have d1 : decide ((j : Int) < first) = true := by simpa using x1
        go_wp2
        go_quiet (fail)
        go_wp2
        go_roundw
        case rel => exact ⟨j + 1, by omega, by go_num, _, rfl⟩
        case measure => simp [intOf]; omega
      · have d1 : decide ((j : Int) < first) = false := by simp; omega
        by_cases x2 : first + cnt ≤ j
        · rw [HU.out j (by rw [← HL.out]; exact hlt) (.inr x2)] at g1
          generalize zs.getD j 0 = z at *
          have d2 : decide ((first : Int) + cnt ≤ j) = true := by simp; omega
          go_wp2
          go_quiet (fail)
          go_wp2
          go_roundw
          case rel => exact ⟨j + 1, by omega, by go_num, _, rfl⟩
          case measure => simp [intOf]; omega
        · have d2 : decide ((first : Int) + cnt ≤ j) = false := by simp; omega
          clear g1 g2
          go_wp2
          go_quiet (fail)
          go_wp2
          go_roundw
          case rel => exact ⟨j + 1, by omega, by go_num, _, rfl⟩
          case measure => simp [intOf]; omega
    · clear HU HC HA
      go_wp2_with fail
      refine (c5 _ (below_drewN HB3.out nn)).mono ?_; rintro r w4 ⟨rfl, hb4⟩
      clear c5
      have s0 : w4.cell? ⟨w.heap.size, 0, none⟩ = some (.int .i64 m) := (hb4.cell (p := ⟨w.heap.size, 0, none⟩) hbx3).trans r0
      have s1 : w4.cell? ⟨w.heap.size, 1, none⟩ = some (.int .i64 t) := (hb4.cell (p := ⟨w.heap.size, 1, none⟩) hbx3).trans r1
      have s2 : w4.cell? ⟨w.heap.size, 2, none⟩ = some (.int .i64 o) := (hb4.cell (p := ⟨w.heap.size, 2, none⟩) hbx3).trans r2
      have s3 : w4.cell? ⟨w.heap.size, 3, none⟩ = some (.int .i64 b) := (hb4.cell (p := ⟨w.heap.size, 3, none⟩) hbx3).trans r3
      have s4 : w4.cell? ⟨w.heap.size, 4, none⟩ = some (.int .i64 n) := (hb4.cell (p := ⟨w.heap.size, 4, none⟩) hbx3).trans r4
      have HB4 : Hid (Below w.heap.size w w4) := (below_drewN HB3.out nn).trans (hb4.mono HB3.out.size)
      clear hb4 r0 r1 r2 r3 r4
      go_wp2_with fail
      refine (c6 _ HB4.out).mono ?_; rintro r w5 ⟨d', capd, rfl, hR5, hb5⟩
      clear c6
      have HR5 : Hid (Row w5 d' zs) := hR5
      have HB5 : Hid (Below w.heap.size w w5) := HB4.out.trans (hb5.mono HB4.out.size)
      clear hR5 hb5
      iterate 2
        go_wp2_with fail
        refine (num_c _ _).mono ?_; rintro r w' ⟨rfl, hw⟩; rw [hw]; clear hw w'
      have cB := bytes_c d' (some ⟨ga, oa, none⟩) capd cap zs w5 HR5.out (HR.out.later HB5.out)
      rw [← HL.out] at cB
      go_wp2_with fail
      refine cB.mono ?_; rintro r w' ⟨rfl, nb, hw⟩; rw [hw]; clear hw w' cB
      go_wp2_with fail
      refine (heads_c _).mono ?_; rintro r w6 ⟨rfl, hb6⟩
      have HB6 : Hid (Below w.heap.size w w6) := (below_drewN HB5.out nb).trans (hb6.mono HB5.out.size)
      clear hb6
      go_wp2
      go_ret
      exact ⟨rfl, HB6.out⟩
theorem back_walk (a : Option Addr) (cap : Nat) (zs : List Int) (m t o b n k : Int) (X : BitVec 32) (w : World) (hr : Row w a zs) (b1 : b < 9223372036854775808) :
    Calls Try.prog 5 #[.slice a zs.length cap, placeV m t o b n, .int .i64 k, .int .u32 X.toNat] w fun e w' => e = .returned (.bool true) ∧ Below w.heap.size w w' := by
  rcases out_or zs.length o b n k with h | ⟨O, B, N, rfl, rfl, rfl, h, ho, h1, h2⟩
  · by_cases g : FOK 0 n (mostOf k)
    · obtain ⟨_, N, _, rfl, _, _⟩ := fok_nat (most_bd k).2 g
      exact back_out a cap zs.length m t o b N k X w hr.1 b1 h _ _ (fun W => Value_yes k N X W g)
    · exact back_out a cap zs.length m t o b n k X w hr.1 b1 h _ _ (fun W => Value_no k n X W g)
  · by_cases g : FOK 0 N (mostOf k)
    · exact back_yes a cap zs m t k O B N X w hr h ho h1 h2 g
    · exact back_novalue a cap zs m t k O B N X w hr h ho g
end Go.Proofs.Ytmdgnjadfdnibaa
