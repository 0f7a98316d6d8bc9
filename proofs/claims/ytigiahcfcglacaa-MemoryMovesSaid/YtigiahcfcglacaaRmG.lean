/-
  The given answer: Copy.
-/
import Derived.Test.YtigiahcfcglacaaRmE
namespace Go.Proofs.Ytigiahcfcglacaa
open Go.RowKit Go.Maps
set_option linter.unusedVariables false
set_option maxRecDepth 100000
section
variable {w wr : World} {rb : Nat} {ys : List Ry} {R : Nat → Prop}
theorem AfterR.src {i1 i2 : Nat} {y1 y2 : Ry} {k1 k2 bk : Bk} (h : AfterR w rb ys R i1 y1 bk wr) (hy1 : ys[i1]? = some y1) (hy2 : ys[i2]? = some y2) (hk1 : y1.bk = some k1) (hk2 : y2.bk = some k2) (hsz : bk.size = k1.size) : CellsAt wr y2.g k2.size (if i1 = i2 then bk else k2).cell := by
  obtain ⟨ow, ho⟩ := h.1.own
  by_cases e : i1 = i2
  · subst e
    rw [hy1] at hy2; cases hy2
    rw [hk1] at hk2; cases hk2
    rw [if_pos rfl, ← hsz]
    exact (ho i1 _ bk (List.getElem?_set_self (List.getElem?_eq_some_iff.1 hy1).1) rfl).cells
  · rw [if_neg e]
    exact (ho i2 y2 k2 (by rw [List.getElem?_set_ne e]; exact hy2) hk2).cells
set_option maxHeartbeats 4000000 in
theorem copyR_1 (h : RX w rb ys R) (p q : Vl) (hp : VlOK p) (hq : VlOK q) (n al : Int) (n0 : -9223372036854775808 ≤ n) (n1 : n < 9223372036854775808) (hr : roomS (stR ys) p n al = none) :
    Calls Try.prog 41 #[.pointer (some ⟨rb, 0, none⟩), .agg #[.int .i64 p.kind, .int .u32 p.v, .int .i64 p.block], .agg #[.int .i64 q.kind, .int .u32 q.v, .int .i64 q.block], .int .i64 n, .int .i64 al] w fun e w' => e = .returned (.int .i64 3) ∧ Below w.heap.size w w' := by
  have hB := box2_below w p q
  obtain ⟨⟨a0, a1, a2⟩, a3, a4, a5⟩ := box2_cells w p q
  have HB : Hid (Below w.heap.size w (box2 w p q)) := hB
  have hsz := box2_size w p q
  have n2 := not_t
  have n3 := not_f
  have c1 := fun Y (hY : Below w.heap.size w Y) => atR_c (h.keptB hY) p hp n al (by omega) (by omega)
  have c2 := fun Y (hY : Below w.heap.size w Y) => atR_c (h.keptB hY) q hq n al (by omega) (by omega)
  simp only [hr, Option.isSome_none] at c1
  clear h hB hr
  obtain ⟨Wz, hW⟩ : ∃ Wz, Wz = box2 w p q := ⟨_, rfl⟩
  go_enter Try.func41, Try.ntmps41
  go_upto_region 1 with (fail)
  refine (?_ : Code.wp _ _ _ _ (box2 w p q))
  rw [← hW] at a0 a1 a2 a3 a4 a5 HB hsz ⊢
  clear hW
  go_wp2_with fail
  refine (c1 _ HB.out).mono ?_; rintro e w1 ⟨rfl, hb1⟩
  have HB1 : Hid (Below w.heap.size w w1) := HB.out.trans (hb1.mono (by omega))
  have k0 := (hb1.cell (p := ⟨w.heap.size, 0, none⟩) (by simp; omega)).trans a0
  have k1 := (hb1.cell (p := ⟨w.heap.size, 1, none⟩) (by simp; omega)).trans a1
  have k2 := (hb1.cell (p := ⟨w.heap.size, 2, none⟩) (by simp; omega)).trans a2
  have k3 := (hb1.cell (p := ⟨w.heap.size + 1, 0, none⟩) (by simp; omega)).trans a3
  have k4 := (hb1.cell (p := ⟨w.heap.size + 1, 1, none⟩) (by simp; omega)).trans a4
  have k5 := (hb1.cell (p := ⟨w.heap.size + 1, 2, none⟩) (by simp; omega)).trans a5
  have hl1 : w.heap.size + 1 < w1.heap.size := World.block_lt_of_cell? w1 _ k3
  clear hb1 c1 a0 a1 a2 a3 a4 a5 HB
  go_wp2
  go_ret
  exact ⟨rfl, HB1.out⟩
set_option maxHeartbeats 4000000 in
theorem copyR_2 (h : RX w rb ys R) (p q : Vl) (hp : VlOK p) (hq : VlOK q) (n al : Int) (n0 : -9223372036854775808 ≤ n) (n1 : n < 9223372036854775808) (k : Bk) (hr : roomS (stR ys) p n al = some k) (hr2 : roomS (stR ys) q n al = none) :
    Calls Try.prog 41 #[.pointer (some ⟨rb, 0, none⟩), .agg #[.int .i64 p.kind, .int .u32 p.v, .int .i64 p.block], .agg #[.int .i64 q.kind, .int .u32 q.v, .int .i64 q.block], .int .i64 n, .int .i64 al] w fun e w' => e = .returned (.int .i64 3) ∧ Below w.heap.size w w' := by
  have hB := box2_below w p q
  obtain ⟨⟨a0, a1, a2⟩, a3, a4, a5⟩ := box2_cells w p q
  have HB : Hid (Below w.heap.size w (box2 w p q)) := hB
  have hsz := box2_size w p q
  have n2 := not_t
  have n3 := not_f
  have c1 := fun Y (hY : Below w.heap.size w Y) => atR_c (h.keptB hY) p hp n al (by omega) (by omega)
  have c2 := fun Y (hY : Below w.heap.size w Y) => atR_c (h.keptB hY) q hq n al (by omega) (by omega)
  simp only [hr, Option.isSome_some] at c1
  simp only [hr2, Option.isSome_none] at c2
  clear h hB hr hr2
  obtain ⟨Wz, hW⟩ : ∃ Wz, Wz = box2 w p q := ⟨_, rfl⟩
  go_enter Try.func41, Try.ntmps41
  go_upto_region 1 with (fail)
  refine (?_ : Code.wp _ _ _ _ (box2 w p q))
  rw [← hW] at a0 a1 a2 a3 a4 a5 HB hsz ⊢
  clear hW
  go_wp2_with fail
  refine (c1 _ HB.out).mono ?_; rintro e w1 ⟨rfl, hb1⟩
  have HB1 : Hid (Below w.heap.size w w1) := HB.out.trans (hb1.mono (by omega))
  have k0 := (hb1.cell (p := ⟨w.heap.size, 0, none⟩) (by simp; omega)).trans a0
  have k1 := (hb1.cell (p := ⟨w.heap.size, 1, none⟩) (by simp; omega)).trans a1
  have k2 := (hb1.cell (p := ⟨w.heap.size, 2, none⟩) (by simp; omega)).trans a2
  have k3 := (hb1.cell (p := ⟨w.heap.size + 1, 0, none⟩) (by simp; omega)).trans a3
  have k4 := (hb1.cell (p := ⟨w.heap.size + 1, 1, none⟩) (by simp; omega)).trans a4
  have k5 := (hb1.cell (p := ⟨w.heap.size + 1, 2, none⟩) (by simp; omega)).trans a5
  have hl1 : w.heap.size + 1 < w1.heap.size := World.block_lt_of_cell? w1 _ k3
  clear hb1 c1 a0 a1 a2 a3 a4 a5 HB
  go_wp2_with fail
  refine (c2 _ HB1.out).mono ?_; rintro e w2 ⟨rfl, hb2⟩
  have HB2 : Hid (Below w.heap.size w w2) := HB1.out.trans (hb2.mono HB1.out.size)
  have m1 := (hb2.cell (p := ⟨w.heap.size, 1, none⟩) (by simp; omega)).trans k1
  have m2 := (hb2.cell (p := ⟨w.heap.size, 2, none⟩) (by simp; omega)).trans k2
  have m4 := (hb2.cell (p := ⟨w.heap.size + 1, 1, none⟩) (by simp; omega)).trans k4
  have m5 := (hb2.cell (p := ⟨w.heap.size + 1, 2, none⟩) (by simp; omega)).trans k5
  have hl2 : w.heap.size + 1 < w2.heap.size := World.block_lt_of_cell? w2 _ m4
  clear hb2 c2 k0 k1 k2 k3 k4 k5 HB1
  go_wp2
  go_ret
  exact ⟨rfl, HB2.out⟩
set_option maxHeartbeats 4000000 in
theorem copyR_3 (h : RX w rb ys R) (p q : Vl) (hp : VlOK p) (hq : VlOK q) (n al : Int) (k k' : Bk) (hmx : k.size ≤ 16384) (hr : roomS (stR ys) p n al = some k) (hr2 : roomS (stR ys) q n al = some k') (hc : clashB p q n = true) (n0 : -9223372036854775808 ≤ n) (n1 : n < 9223372036854775808) :
    Calls Try.prog 41 #[.pointer (some ⟨rb, 0, none⟩), .agg #[.int .i64 p.kind, .int .u32 p.v, .int .i64 p.block], .agg #[.int .i64 q.kind, .int .u32 q.v, .int .i64 q.block], .int .i64 n, .int .i64 al] w fun e w' => e = .returned (.int .i64 3) ∧ Below w.heap.size w w' := by
  have hB := box2_below w p q
  obtain ⟨⟨a0, a1, a2⟩, a3, a4, a5⟩ := box2_cells w p q
  have HB : Hid (Below w.heap.size w (box2 w p q)) := hB
  have hsz := box2_size w p q
  have n2 := not_t
  have n3 := not_f
  have c1 := fun Y (hY : Below w.heap.size w Y) => atR_c (h.keptB hY) p hp n al (by omega) (by omega)
  have c2 := fun Y (hY : Below w.heap.size w Y) => atR_c (h.keptB hY) q hq n al (by omega) (by omega)
  obtain ⟨hvs, _, _, _, _, hn1, hn2⟩ := roomS_some hr
  obtain ⟨hvs2, _, _, _, _, _, hm2⟩ := roomS_some hr2
  simp only [hr, Option.isSome_some] at c1
  simp only [hr2, Option.isSome_some] at c2
  obtain ⟨v0, v1, _, _⟩ := hp
  obtain ⟨u0, u1, _, _⟩ := hq
  have hcl : p.block = q.block ∧ ¬ p.v = q.v ∧ p.v < q.v + n ∧ q.v < p.v + n := by
    simp [clashB] at hc
    obtain ⟨⟨hc1, hc2⟩, hc3⟩ := hc
    refine ⟨hc1, hc2, ?_, ?_⟩ <;> split at hc3 <;> omega
  have t1 : (p.block == q.block) = true := by simpa using hcl.1
  have t2 : (p.v != q.v) = true := by simpa using hcl.2.1
  have t3 : decide (p.v < q.v + n) = true := by simpa using hcl.2.2.1
  have t4 : decide (q.v < p.v + n) = true := by simpa using hcl.2.2.2
  have w1_ : IntKind.i64.wrap p.v = p.v := by rw [IntKind.wrap_i64]; omega
  have w2_ : IntKind.i64.wrap q.v = q.v := by rw [IntKind.wrap_i64]; omega
  clear h hB hr hr2 hc hcl
  obtain ⟨Wz, hW⟩ : ∃ Wz, Wz = box2 w p q := ⟨_, rfl⟩
  go_enter Try.func41, Try.ntmps41
  go_upto_region 1 with (fail)
  refine (?_ : Code.wp _ _ _ _ (box2 w p q))
  rw [← hW] at a0 a1 a2 a3 a4 a5 HB hsz ⊢
  clear hW
  go_wp2_with fail
  refine (c1 _ HB.out).mono ?_; rintro e w1 ⟨rfl, hb1⟩
  have HB1 : Hid (Below w.heap.size w w1) := HB.out.trans (hb1.mono (by omega))
  have k0 := (hb1.cell (p := ⟨w.heap.size, 0, none⟩) (by simp; omega)).trans a0
  have k1 := (hb1.cell (p := ⟨w.heap.size, 1, none⟩) (by simp; omega)).trans a1
  have k2 := (hb1.cell (p := ⟨w.heap.size, 2, none⟩) (by simp; omega)).trans a2
  have k3 := (hb1.cell (p := ⟨w.heap.size + 1, 0, none⟩) (by simp; omega)).trans a3
  have k4 := (hb1.cell (p := ⟨w.heap.size + 1, 1, none⟩) (by simp; omega)).trans a4
  have k5 := (hb1.cell (p := ⟨w.heap.size + 1, 2, none⟩) (by simp; omega)).trans a5
  have hl1 : w.heap.size + 1 < w1.heap.size := World.block_lt_of_cell? w1 _ k3
  clear hb1 c1 a0 a1 a2 a3 a4 a5 HB
  go_wp2_with fail
  refine (c2 _ HB1.out).mono ?_; rintro e w2 ⟨rfl, hb2⟩
  have HB2 : Hid (Below w.heap.size w w2) := HB1.out.trans (hb2.mono HB1.out.size)
  have m1 := (hb2.cell (p := ⟨w.heap.size, 1, none⟩) (by simp; omega)).trans k1
  have m2 := (hb2.cell (p := ⟨w.heap.size, 2, none⟩) (by simp; omega)).trans k2
  have m4 := (hb2.cell (p := ⟨w.heap.size + 1, 1, none⟩) (by simp; omega)).trans k4
  have m5 := (hb2.cell (p := ⟨w.heap.size + 1, 2, none⟩) (by simp; omega)).trans k5
  have hl2 : w.heap.size + 1 < w2.heap.size := World.block_lt_of_cell? w2 _ m4
  clear hb2 c2 k0 k1 k2 k3 k4 k5 HB1
  go_wp2
  go_quiet (fail)
  go_wp2
  go_ret
  exact ⟨rfl, HB2.out.trans ⟨rfl, rfl, rfl, Nat.le_refl _, fun _ _ => rfl⟩⟩
set_option maxHeartbeats 4000000 in
theorem copyR_ok (h : RX w rb ys R) (p q : Vl) (hp : VlOK p) (hq : VlOK q) (n tv fv : Nat) (al : Int) (i1 i2 : Nat) (y1 y2 : Ry) (k1_ k2_ : Bk) (htv : p.v = tv) (hfv : q.v = fv) (hr : roomS (stR ys) p n al = some k1_) (hr2 : roomS (stR ys) q n al = some k2_) (hpb : p.block = (i1 : Int) + 1) (hqb : q.block = (i2 : Int) + 1) (hy1 : ys[i1]? = some y1) (hy2 : ys[i2]? = some y2) (hk1 : y1.bk = some k1_) (hk2 : y2.bk = some k2_) (hc : clashB p q n = false) :
    Calls Try.prog 41 #[.pointer (some ⟨rb, 0, none⟩), .agg #[.int .i64 p.kind, .int .u32 p.v, .int .i64 p.block], .agg #[.int .i64 q.kind, .int .u32 q.v, .int .i64 q.block], .int .i64 n, .int .i64 al] w fun e w' => e = .returned (.int .i64 0) ∧ AfterR w rb ys R i1 y1 (cpy k1_ i1 i2 k2_ tv fv n) w' := by
  have hB := box2_below w p q
  obtain ⟨⟨a0, a1, a2⟩, a3, a4, a5⟩ := box2_cells w p q
  have HB : Hid (Below w.heap.size w (box2 w p q)) := hB
  have hsz := box2_size w p q
  have n2 := not_t
  have n3 := not_f
  obtain ⟨ow, ho⟩ := h.own
  have hmx1 := (ho i1 y1 k1_ hy1 hk1).max
  have hmx2 := (ho i2 y2 k2_ hy2 hk2).max
  obtain ⟨hvs, _, _, _, _, hn1, hn2⟩ := roomS_some hr
  obtain ⟨hvs2, _, _, _, _, _, hm2⟩ := roomS_some hr2
  have hn0 : -9223372036854775808 ≤ (n : Int) := by omega
  have hn9 : (n : Int) < 9223372036854775808 := by omega
  have c1 := fun Y (hY : Below w.heap.size w Y) => atR_c (h.keptB hY) p hp n al hn0 hn9
  have c2 := fun Y (hY : Below w.heap.size w Y) => atR_c (h.keptB hY) q hq n al hn0 hn9
  simp only [hr, Option.isSome_some] at c1
  simp only [hr2, Option.isSome_some] at c2
  obtain ⟨v0, v1, _, _⟩ := hp
  obtain ⟨u0, u1, _, _⟩ := hq
  have hil1 : i1 < ys.length := (List.getElem?_eq_some_iff.1 hy1).1
  have hil2 : i2 < ys.length := (List.getElem?_eq_some_iff.1 hy2).1
  have hlen := h.len
  have H : Hid (RX w rb ys R) := h
  have HY1 : Hid (ys[i1]? = some y1) := hy1
  have HY2 : Hid (ys[i2]? = some y2) := hy2
  have HK1 : Hid (y1.bk = some k1_) := hk1
  have HK2 : Hid (y2.bk = some k2_) := hk2
  have HTV : Hid (p.v = tv) := htv
  have HFV : Hid (q.v = fv) := hfv
  have HPB : Hid (p.block = (i1 : Int) + 1) := hpb
  have HQB : Hid (q.block = (i2 : Int) + 1) := hqb
  have hvn1 : tv + n ≤ k1_.size := by omega
  have hvn2 : fv + n ≤ k2_.size := by omega
  have hdis : (((i1 : Int) + 1 == (i2 : Int) + 1) = false) ∨ (((i1 : Int) + 1 == (i2 : Int) + 1) = true ∧ ((tv : Int) != (fv : Int)) = false) ∨ (((i1 : Int) + 1 == (i2 : Int) + 1) = true ∧ ((tv : Int) != (fv : Int)) = true ∧ decide ((tv : Int) < (fv : Int) + (n : Int)) = false) ∨ (((i1 : Int) + 1 == (i2 : Int) + 1) = true ∧ ((tv : Int) != (fv : Int)) = true ∧ decide ((tv : Int) < (fv : Int) + (n : Int)) = true ∧ decide ((fv : Int) < (tv : Int) + (n : Int)) = false) := by
    rw [← hpb, ← hqb, ← htv, ← hfv]
    by_cases e1 : p.block = q.block
    · by_cases e2 : p.v = q.v
      · right; left; simp [e1, e2]
      · by_cases e3 : p.v < q.v + n
        · right; right; right
          refine ⟨by simpa using e1, by simpa using e2, by simpa using e3, ?_⟩
          by_cases e4 : q.v < p.v + n
          · exfalso
            simp [clashB, e1, e2] at hc
            split at hc <;> omega
          · simpa using e4
        · right; right; left
          exact ⟨by simpa using e1, by simpa using e2, by simpa using e3⟩
    · left; simpa using e1
  have w1_ := wrap_id (n := (tv : Int)) (by omega) (by omega)
  have w2_ := wrap_id (n := (fv : Int)) (by omega) (by omega)
  have w3_ := wrap_id (n := (tv : Int) + (n : Int)) (by omega) (by omega)
  have w4_ := wrap_id (n := (fv : Int) + (n : Int)) (by omega) (by omega)
  have w7_ : ((i1 : Int) + 1 - 1) = (i1 : Int) := by omega
  have w8_ : ((i2 : Int) + 1 - 1) = (i2 : Int) := by omega
  clear h hB hr hr2 hc hy1 hy2 hk1 hk2 htv hfv hpb hqb ho
  obtain ⟨Wz, hW⟩ : ∃ Wz, Wz = box2 w p q := ⟨_, rfl⟩
  go_enter Try.func41, Try.ntmps41
  go_upto_region 1 with (fail)
  refine (?_ : Code.wp _ _ _ _ (box2 w p q))
  rw [← hW] at a0 a1 a2 a3 a4 a5 HB hsz ⊢
  clear hW
  go_wp2_with fail
  refine (c1 _ HB.out).mono ?_; rintro e w1 ⟨rfl, hb1⟩
  have HB1 : Hid (Below w.heap.size w w1) := HB.out.trans (hb1.mono (by omega))
  have k0 := (hb1.cell (p := ⟨w.heap.size, 0, none⟩) (by simp; omega)).trans a0
  have k1 := (hb1.cell (p := ⟨w.heap.size, 1, none⟩) (by simp; omega)).trans a1
  have k2 := (hb1.cell (p := ⟨w.heap.size, 2, none⟩) (by simp; omega)).trans a2
  have k3 := (hb1.cell (p := ⟨w.heap.size + 1, 0, none⟩) (by simp; omega)).trans a3
  have k4 := (hb1.cell (p := ⟨w.heap.size + 1, 1, none⟩) (by simp; omega)).trans a4
  have k5 := (hb1.cell (p := ⟨w.heap.size + 1, 2, none⟩) (by simp; omega)).trans a5
  have hl1 : w.heap.size + 1 < w1.heap.size := World.block_lt_of_cell? w1 _ k3
  clear hb1 c1 a0 a1 a2 a3 a4 a5 HB
  go_wp2_with fail
  refine (c2 _ HB1.out).mono ?_; rintro e w2 ⟨rfl, hb2⟩
  have HB2 : Hid (Below w.heap.size w w2) := HB1.out.trans (hb2.mono HB1.out.size)
  have m1 := (hb2.cell (p := ⟨w.heap.size, 1, none⟩) (by simp; omega)).trans k1
  have m2 := (hb2.cell (p := ⟨w.heap.size, 2, none⟩) (by simp; omega)).trans k2
  have m4 := (hb2.cell (p := ⟨w.heap.size + 1, 1, none⟩) (by simp; omega)).trans k4
  have m5 := (hb2.cell (p := ⟨w.heap.size + 1, 2, none⟩) (by simp; omega)).trans k5
  have hl2 : w.heap.size + 1 < w2.heap.size := World.block_lt_of_cell? w2 _ m4
  clear hb2 c2 k0 k1 k2 k3 k4 k5 HB1
  rw [HTV.out] at m1
  rw [HFV.out] at m4
  rw [HPB.out] at m2
  rw [HQB.out] at m5
  have hP : ¬ R w.heap.size := fun hp => absurd (H.out.lt _ hp) (by omega)
  have hA0 := AfterR.start (H.out.keptB HB2.out) HY1.out HK1.out
  obtain ⟨g1, cap1, f0, f1, hcap1, _⟩ := hA0.facts hil1
  obtain ⟨g2, cap2, e0, _, _, _, hcap2, _, _, e2⟩ := (H.out.keptB HB2.out).row HY2.out
  rw [f0] at e0
  have hgg : g2 = g1 ∧ cap2 = cap1 := by simp at e0; exact ⟨e0.1.symm, e0.2.symm⟩
  obtain ⟨rfl, rfl⟩ := hgg
  unfold ryS at e2
  rw [HK2.out] at e2
  simp only [] at e2
  have HA : Hid (AfterR w2 rb ys R i1 y1 (cpy k1_ i1 i2 k2_ tv fv 0) w2) := hA0
  clear hA0 e0
  rcases hdis with t1 | ⟨t1, t2⟩ | ⟨t1, t2, t3⟩ | ⟨t1, t2, t3, t4⟩
  all_goals
    go_wp2
    go_quiet (fail)
    go_wp2
    go_region
    go_wp2
    go_loopw [15] (fun i_ wr => ∃ (j : Nat), i_ = .int .i64 j ∧ j ≤ n ∧ Hid (AfterR w2 rb ys R i1 y1 (cpy k1_ i1 i2 k2_ tv fv j) wr)) (fun i_ _ => n - (intOf i_).toNat)
    case atStart => exact ⟨0, rfl, Nat.zero_le _, HA.out.below ⟨rfl, rfl, rfl, Nat.le_refl _, fun _ _ => rfl⟩⟩
    case round =>
      obtain ⟨j, rfl, hj, HR⟩ := hrel
      by_cases hlt2 : j < n
      · have hvk1 : tv + j < k1_.size := by omega
        have hvk2 : fv + j < k2_.size := by omega
        obtain ⟨g, cap, _, _, _, fc⟩ := HR.out.facts hil1
        have hszk : (cpy k1_ i1 i2 k2_ tv fv j).size = k1_.size := cpy_size _ _ _ _ _ _ _
        rw [hszk] at fc
        obtain ⟨d0, d1, d2, d3⟩ := fc.cell hvk1
        have ff := fc.frozen
        have hyl := fc.lt
        have fs := HR.out.src HY1.out HY2.out HK1.out HK2.out hszk
        obtain ⟨s0, s1, s2, s3⟩ := fs.cell hvk2
        have w5_ := wrap_id (n := (tv : Int) + (j : Int)) (by omega) (by omega)
        have w6_ := wrap_id (n := (fv : Int) + (j : Int)) (by omega) (by omega)
        have HP : Hid (AfterR w2 rb ys R i1 y1 (cpy k1_ i1 i2 k2_ tv fv (j + 1)) (set4 wr y1.g ((tv + j) * 4) ((if i1 = i2 then cpy k1_ i1 i2 k2_ tv fv j else k2_).cell (fv + j)))) := HR.out.put hil1 (by rw [hszk]; exact hvk1) _
        clear fc fs hszk
        generalize (if i1 = i2 then cpy k1_ i1 i2 k2_ tv fv j else k2_).cell (fv + j) = cc at *
        unfold set4 at HP
        go_wp2
        exact ⟨⟨j + 1, by go_num, by omega, HP.out⟩, by simp [intOf]; omega⟩
      · obtain rfl : j = n := by omega
        go_wp2
        go_ret
        refine ⟨rfl, HR.out.1, (Turned.of_below HB2.out R).trans HR.out.2 (fun _ _ h => h)⟩
end
end Go.Proofs.Ytigiahcfcglacaa
