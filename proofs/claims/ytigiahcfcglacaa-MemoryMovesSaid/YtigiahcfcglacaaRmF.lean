/-
  The given answer: Store.
-/
import Derived.Test.YtigiahcfcglacaaRmE
namespace Go.Proofs.Ytigiahcfcglacaa
open Go.RowKit Go.Maps
set_option linter.unusedVariables false
set_option maxRecDepth 100000
section
variable {w : World} {rb : Nat} {ys : List Ry} {R : Nat → Prop}
set_option maxHeartbeats 1000000 in
theorem storeR_none (h : RX w rb ys R) (p q : Vl) (hp : VlOK p) (n : Int) (n0 : -9223372036854775808 ≤ n) (n1 : n < 9223372036854775808) (hr : roomS (stR ys) p n n = none) :
    Calls Try.prog 40 #[.pointer (some ⟨rb, 0, none⟩), .agg #[.int .i64 p.kind, .int .u32 p.v, .int .i64 p.block], .int .i64 n, .agg #[.int .i64 q.kind, .int .u32 q.v, .int .i64 q.block]] w fun e w' => e = .returned (.int .i64 3) ∧ Below w.heap.size w w' := by
  have hB := box2_below w p q
  obtain ⟨⟨a0, a1, a2⟩, a3, a4, a5⟩ := box2_cells w p q
  have HB : Hid (Below w.heap.size w (box2 w p q)) := hB
  have hsz := box2_size w p q
  have c := atR_c (h.keptB hB) p hp n n n0 n1
  have n3 := not_f
  rw [hr] at c
  simp only [Option.isSome_none] at c
  clear h hB hr
  obtain ⟨Wz, hW⟩ : ∃ Wz, Wz = box2 w p q := ⟨_, rfl⟩
  go_enter Try.func40, Try.ntmps40
  go_upto_region 1 with (fail)
  refine (?_ : Code.wp _ _ _ _ (box2 w p q))
  rw [← hW] at a0 a1 a2 a3 a4 a5 c HB hsz ⊢
  clear hW
  go_wp2_with fail
  refine c.mono ?_; rintro e w1 ⟨rfl, hb1⟩
  have HB1 : Hid (Below w.heap.size w w1) := HB.out.trans (hb1.mono (by omega))
  have k1 := (hb1.cell (p := ⟨w.heap.size, 1, none⟩) (by simp; omega)).trans a1
  have k2 := (hb1.cell (p := ⟨w.heap.size, 2, none⟩) (by simp; omega)).trans a2
  have k3 := (hb1.cell (p := ⟨w.heap.size + 1, 0, none⟩) (by simp; omega)).trans a3
  have k4 := (hb1.cell (p := ⟨w.heap.size + 1, 1, none⟩) (by simp; omega)).trans a4
  have k5 := (hb1.cell (p := ⟨w.heap.size + 1, 2, none⟩) (by simp; omega)).trans a5
  have hl1 : w.heap.size + 1 < w1.heap.size := World.block_lt_of_cell? w1 _ k3
  clear hb1 c a0 a1 a2 a3 a4 a5 HB
  go_wp2
  go_ret
  exact ⟨rfl, HB1.out⟩
set_option maxHeartbeats 1000000 in
theorem storeR_no (h : RX w rb ys R) (p q : Vl) (hp : VlOK p) (n : Int) (n0 : -9223372036854775808 ≤ n) (n1 : n < 9223372036854775808) (k : Bk) (hr : roomS (stR ys) p n n = some k) (hs : storesB q n = false) :
    Calls Try.prog 40 #[.pointer (some ⟨rb, 0, none⟩), .agg #[.int .i64 p.kind, .int .u32 p.v, .int .i64 p.block], .int .i64 n, .agg #[.int .i64 q.kind, .int .u32 q.v, .int .i64 q.block]] w fun e w' => e = .returned (.int .i64 3) ∧ Below w.heap.size w w' := by
  have hB := box2_below w p q
  obtain ⟨⟨a0, a1, a2⟩, a3, a4, a5⟩ := box2_cells w p q
  have HB : Hid (Below w.heap.size w (box2 w p q)) := hB
  have hsz := box2_size w p q
  have c := atR_c (h.keptB hB) p hp n n n0 n1
  have n3 := not_t
  have hq1 : ¬ q.kind = 1 ∧ (¬ q.kind = 2 ∨ ¬ n = 4) := by simp [storesB] at hs; omega
  have t1 : (q.kind != 1) = true := by simpa using hq1.1
  rw [hr] at c
  simp only [Option.isSome_some] at c
  clear h hB hr hs
  by_cases hq2 : q.kind = 2
  · have t2 : (q.kind != 2) = false := by simpa using hq2
    have t3 : (n != 4) = true := by simp; omega
    clear hq1 hq2
    obtain ⟨Wz, hW⟩ : ∃ Wz, Wz = box2 w p q := ⟨_, rfl⟩
    go_enter Try.func40, Try.ntmps40
    go_upto_region 1 with (fail)
    refine (?_ : Code.wp _ _ _ _ (box2 w p q))
    rw [← hW] at a0 a1 a2 a3 a4 a5 c HB hsz ⊢
    clear hW
    go_wp2_with fail
    refine c.mono ?_; rintro e w1 ⟨rfl, hb1⟩
    have HB1 : Hid (Below w.heap.size w w1) := HB.out.trans (hb1.mono (by omega))
    have k1 := (hb1.cell (p := ⟨w.heap.size, 1, none⟩) (by simp; omega)).trans a1
    have k2 := (hb1.cell (p := ⟨w.heap.size, 2, none⟩) (by simp; omega)).trans a2
    have k3 := (hb1.cell (p := ⟨w.heap.size + 1, 0, none⟩) (by simp; omega)).trans a3
    have k4 := (hb1.cell (p := ⟨w.heap.size + 1, 1, none⟩) (by simp; omega)).trans a4
    have k5 := (hb1.cell (p := ⟨w.heap.size + 1, 2, none⟩) (by simp; omega)).trans a5
    have hl1 : w.heap.size + 1 < w1.heap.size := World.block_lt_of_cell? w1 _ k3
    clear hb1 c a0 a1 a2 a3 a4 a5 HB
    go_wp2
    go_ret
    exact ⟨rfl, HB1.out⟩
  · have t2 : (q.kind != 2) = true := by simpa using hq2
    clear hq1 hq2
    obtain ⟨Wz, hW⟩ : ∃ Wz, Wz = box2 w p q := ⟨_, rfl⟩
    go_enter Try.func40, Try.ntmps40
    go_upto_region 1 with (fail)
    refine (?_ : Code.wp _ _ _ _ (box2 w p q))
    rw [← hW] at a0 a1 a2 a3 a4 a5 c HB hsz ⊢
    clear hW
    go_wp2_with fail
    refine c.mono ?_; rintro e w1 ⟨rfl, hb1⟩
    have HB1 : Hid (Below w.heap.size w w1) := HB.out.trans (hb1.mono (by omega))
    have k1 := (hb1.cell (p := ⟨w.heap.size, 1, none⟩) (by simp; omega)).trans a1
    have k2 := (hb1.cell (p := ⟨w.heap.size, 2, none⟩) (by simp; omega)).trans a2
    have k3 := (hb1.cell (p := ⟨w.heap.size + 1, 0, none⟩) (by simp; omega)).trans a3
    have k4 := (hb1.cell (p := ⟨w.heap.size + 1, 1, none⟩) (by simp; omega)).trans a4
    have k5 := (hb1.cell (p := ⟨w.heap.size + 1, 2, none⟩) (by simp; omega)).trans a5
    have hl1 : w.heap.size + 1 < w1.heap.size := World.block_lt_of_cell? w1 _ k3
    clear hb1 c a0 a1 a2 a3 a4 a5 HB
    go_wp2
    go_ret
    exact ⟨rfl, HB1.out⟩
set_option maxHeartbeats 4000000 in
theorem storeR_ptr (h : RX w rb ys R) (p q : Vl) (hp : VlOK p) (hq : VlOK q) (v n : Nat) (hv : p.v = v) (k : Bk) (i : Nat) (y : Ry) (hr : roomS (stR ys) p n n = some k) (hpb : p.block = (i : Int) + 1) (hy : ys[i]? = some y) (hyk : y.bk = some k) (hqk : q.kind = 2) (h4 : n = 4) :
    Calls Try.prog 40 #[.pointer (some ⟨rb, 0, none⟩), .agg #[.int .i64 p.kind, .int .u32 p.v, .int .i64 p.block], .int .i64 n, .agg #[.int .i64 q.kind, .int .u32 q.v, .int .i64 q.block]] w fun e w' => e = .returned (.int .i64 0) ∧ AfterR w rb ys R i y (k.fill v (stCell q) n) w' := by
  have hB := box2_below w p q
  obtain ⟨⟨a0, a1, a2⟩, a3, a4, a5⟩ := box2_cells w p q
  have HB : Hid (Below w.heap.size w (box2 w p q)) := hB
  have hsz := box2_size w p q
  obtain ⟨hvs, _, hw, _, _, hn1, hn2⟩ := roomS_some hr
  have hn3 : n = 1 ∨ n = 2 ∨ n = 4 := by
    have : (n : Int) = 1 ∨ (n : Int) = 2 ∨ (n : Int) = 4 := by simpa [isW] using hw
    omega
  have hn4 : n ≤ 4 := by omega
  obtain ⟨ow, ho⟩ := h.own
  have hmx := (ho i y k hy hyk).max
  have hlen := h.len
  have hil : i < ys.length := (List.getElem?_eq_some_iff.1 hy).1
  have c := atR_c (h.keptB hB) p hp n n (by omega) (by omega)
  have n3 := not_t
  have t1 : (q.kind != 1) = true := by simp [hqk]
  have t2 : (q.kind != 2) = false := by simp [hqk]
  have t4 : (q.kind == 2) = true := by simp [hqk]
  have t3 : ((n : Int) != 4) = false := by simp; omega
  rw [hr] at c
  simp only [Option.isSome_some] at c
  have H : Hid (RX w rb ys R) := h
  have HY : Hid (ys[i]? = some y) := hy
  have HYK : Hid (y.bk = some k) := hyk
  have HQK : Hid (q.kind = 2) := hqk
  have HV : Hid (p.v = v) := hv
  have HPB : Hid (p.block = (i : Int) + 1) := hpb
  have hvn : v + n ≤ k.size := by omega
  have w0_ : ((i : Int) + 1 - 1) = (i : Int) := by omega
  have hbc : ∀ (x : Int) (W : World), (Instr.build TC #[(0, .int .i64 1), (1, .int .u32 x)]).run Try.prog W = .ok (.agg #[.int .i64 1, .int .u32 x, .int .i64 0, .int .i64 0]) W := fun x W => by kernel_rfl
  have hbp : ∀ (x : Int) (W : World), (Instr.build TC #[(0, .int .i64 2), (1, .int .u32 q.v), (2, .int .i64 q.block), (3, .int .i64 x)]).run Try.prog W = .ok (.agg #[.int .i64 2, .int .u32 q.v, .int .i64 q.block, .int .i64 x]) W := fun x W => by kernel_rfl
  have u0 := hq.v0
  have u1 := hq.v1
  clear h hB hr hy hv hpb hyk ho hw hn3 hqk hq h4
  obtain ⟨Wz, hW⟩ : ∃ Wz, Wz = box2 w p q := ⟨_, rfl⟩
  go_enter Try.func40, Try.ntmps40
  go_upto_region 1 with (fail)
  refine (?_ : Code.wp _ _ _ _ (box2 w p q))
  rw [← hW] at a0 a1 a2 a3 a4 a5 c HB hsz ⊢
  clear hW
  go_wp2_with fail
  refine c.mono ?_; rintro e w1 ⟨rfl, hb1⟩
  have HB1 : Hid (Below w.heap.size w w1) := HB.out.trans (hb1.mono (by omega))
  have k1 := (hb1.cell (p := ⟨w.heap.size, 1, none⟩) (by simp; omega)).trans a1
  have k2 := (hb1.cell (p := ⟨w.heap.size, 2, none⟩) (by simp; omega)).trans a2
  have k3 := (hb1.cell (p := ⟨w.heap.size + 1, 0, none⟩) (by simp; omega)).trans a3
  have k4 := (hb1.cell (p := ⟨w.heap.size + 1, 1, none⟩) (by simp; omega)).trans a4
  have k5 := (hb1.cell (p := ⟨w.heap.size + 1, 2, none⟩) (by simp; omega)).trans a5
  have hl1 : w.heap.size + 1 < w1.heap.size := World.block_lt_of_cell? w1 _ k3
  clear hb1 c a0 a1 a2 a3 a4 a5 HB
  rw [HV.out] at k1
  rw [HPB.out] at k2
  have hP : ¬ R w.heap.size := fun hp => absurd (H.out.lt _ hp) (by omega)
  have hP2 : ¬ R (w.heap.size + 1) := fun hp => absurd (H.out.lt _ hp) (by omega)
  have hl0 : w.heap.size < w1.heap.size := by omega
  have hA0 := AfterR.start (H.out.keptB HB1.out) HY.out HYK.out
  obtain ⟨g0, cap0, f0, f1, hcap, _⟩ := hA0.facts hil
  have HA : Hid (AfterR w1 rb ys R i y (k.fill v (stCell q) 0) w1) := by
    show AfterR _ _ _ _ _ _ _ _
    rw [fill_zero]; exact hA0
  clear hA0
  go_wp2
  go_region
  go_wp2
  have HAd : Hid (AfterR w1 rb ys R i y (k.fill v (stCell q) 0) w1.drew) := HA.out.below (Below.refl _ _).drew
  go_loopw [10] (fun i_ wr => ∃ (j : Nat), i_ = .int .i64 j ∧ j ≤ n ∧ Hid (AfterR w1 rb ys R i y (k.fill v (stCell q) j) wr)) (fun i_ _ => n - (intOf i_).toNat)
  case atStart => exact ⟨0, rfl, Nat.zero_le _, HAd⟩
  case round =>
    obtain ⟨j, rfl, hj, HR⟩ := hrel
    by_cases hlt2 : j < n
    · have q1 := (HR.out.cell hl0 hP 1).trans k1
      have q3 := (HR.out.cell hl1 hP2 0).trans k3
      have q4 := (HR.out.cell hl1 hP2 1).trans k4
      have q5 := (HR.out.cell hl1 hP2 2).trans k5
      have l1 : w.heap.size + 1 < wr.heap.size := World.block_lt_of_cell? wr _ q3
      have l0 : w.heap.size < wr.heap.size := by omega
      have hvk : v + j < k.size := by omega
      obtain ⟨g, cap, _, _, _, fc⟩ := HR.out.facts hil
      have hszk : (k.fill v (stCell q) j).size = k.size := rfl
      rw [hszk] at fc
      obtain ⟨d0, d1, d2, d3⟩ := fc.cell hvk
      have ff := fc.frozen
      have hyl := fc.lt
      have w1_ := wrap_id (n := (v : Int)) (by omega) (by omega)
      have w2_ := wrap_id (n := (v : Int) + (j : Int)) (by omega) (by omega)
      have HP : Hid (AfterR w1 rb ys R i y (k.fill v (stCell q) (j + 1)) (set4 wr y.g ((v + j) * 4) (stCell q j))) := by
        show AfterR _ _ _ _ _ _ _ _
        rw [fill_succ]; exact HR.out.put hil hvk (stCell q j)
      clear fc hszk
      have hj4 : j = 0 ∨ j = 1 ∨ j = 2 ∨ j = 3 := by omega
      have HE : stCell q j = ⟨2, q.v, q.block, j⟩ := by simp [stCell, HQK.out]
      rw [HE] at HP
      clear HE
      rcases hj4 with rfl | rfl | rfl | rfl
      · simp only [Nat.add_zero] at d0 d1 d2 d3 HP
        go_wp2
        exact ⟨⟨1, rfl, by omega, HP.out.below ((Below.refl _ _).alloc (Nat.le_refl _) _)⟩, by simp [intOf]; omega⟩
      · go_wp2
        exact ⟨⟨2, rfl, by omega, HP.out.below ((Below.refl _ _).alloc (Nat.le_refl _) _)⟩, by simp [intOf]; omega⟩
      · go_wp2
        exact ⟨⟨3, rfl, by omega, HP.out.below ((Below.refl _ _).alloc (Nat.le_refl _) _)⟩, by simp [intOf]; omega⟩
      · go_wp2
        exact ⟨⟨4, rfl, by omega, HP.out.below ((Below.refl _ _).alloc (Nat.le_refl _) _)⟩, by simp [intOf]; omega⟩
    · obtain rfl : j = n := by omega
      go_wp2
      go_ret
      refine ⟨rfl, HR.out.1, (Turned.of_below HB1.out R).trans HR.out.2 (fun _ _ h => h)⟩
set_option maxHeartbeats 4000000 in
theorem storeR_num (h : RX w rb ys R) (p q : Vl) (hp : VlOK p) (hq : VlOK q) (v n : Nat) (hv : p.v = v) (k : Bk) (i : Nat) (y : Ry) (hr : roomS (stR ys) p n n = some k) (hpb : p.block = (i : Int) + 1) (hy : ys[i]? = some y) (hyk : y.bk = some k) (hqk : q.kind = 1) :
    Calls Try.prog 40 #[.pointer (some ⟨rb, 0, none⟩), .agg #[.int .i64 p.kind, .int .u32 p.v, .int .i64 p.block], .int .i64 n, .agg #[.int .i64 q.kind, .int .u32 q.v, .int .i64 q.block]] w fun e w' => e = .returned (.int .i64 0) ∧ AfterR w rb ys R i y (k.fill v (stCell q) n) w' := by
  have hB := box2_below w p q
  obtain ⟨⟨a0, a1, a2⟩, a3, a4, a5⟩ := box2_cells w p q
  have HB : Hid (Below w.heap.size w (box2 w p q)) := hB
  have hsz := box2_size w p q
  obtain ⟨hvs, _, hw, _, _, hn1, hn2⟩ := roomS_some hr
  have hn3 : n = 1 ∨ n = 2 ∨ n = 4 := by
    have : (n : Int) = 1 ∨ (n : Int) = 2 ∨ (n : Int) = 4 := by simpa [isW] using hw
    omega
  have hn4 : n ≤ 4 := by omega
  obtain ⟨ow, ho⟩ := h.own
  have hmx := (ho i y k hy hyk).max
  have hlen := h.len
  have hil : i < ys.length := (List.getElem?_eq_some_iff.1 hy).1
  have c := atR_c (h.keptB hB) p hp n n (by omega) (by omega)
  have n3 := not_t
  have t1 : (q.kind != 1) = false := by simp [hqk]
  have t2 : (q.kind != 2) = true := by simp [hqk]
  have t4 : (q.kind == 2) = false := by simp [hqk]
  rw [hr] at c
  simp only [Option.isSome_some] at c
  have H : Hid (RX w rb ys R) := h
  have HY : Hid (ys[i]? = some y) := hy
  have HYK : Hid (y.bk = some k) := hyk
  have HQK : Hid (q.kind = 1) := hqk
  have HV : Hid (p.v = v) := hv
  have HPB : Hid (p.block = (i : Int) + 1) := hpb
  have hvn : v + n ≤ k.size := by omega
  have w0_ : ((i : Int) + 1 - 1) = (i : Int) := by omega
  have hbc : ∀ (x : Int) (W : World), (Instr.build TC #[(0, .int .i64 1), (1, .int .u32 x)]).run Try.prog W = .ok (.agg #[.int .i64 1, .int .u32 x, .int .i64 0, .int .i64 0]) W := fun x W => by kernel_rfl
  have hbp : ∀ (x : Int) (W : World), (Instr.build TC #[(0, .int .i64 2), (1, .int .u32 q.v), (2, .int .i64 q.block), (3, .int .i64 x)]).run Try.prog W = .ok (.agg #[.int .i64 2, .int .u32 q.v, .int .i64 q.block, .int .i64 x]) W := fun x W => by kernel_rfl
  have u0 := hq.v0
  have u1 := hq.v1
  clear h hB hr hy hv hpb hyk ho hw hn3 hqk hq
  obtain ⟨Wz, hW⟩ : ∃ Wz, Wz = box2 w p q := ⟨_, rfl⟩
  go_enter Try.func40, Try.ntmps40
  go_upto_region 1 with (fail)
  refine (?_ : Code.wp _ _ _ _ (box2 w p q))
  rw [← hW] at a0 a1 a2 a3 a4 a5 c HB hsz ⊢
  clear hW
  go_wp2_with fail
  refine c.mono ?_; rintro e w1 ⟨rfl, hb1⟩
  have HB1 : Hid (Below w.heap.size w w1) := HB.out.trans (hb1.mono (by omega))
  have k1 := (hb1.cell (p := ⟨w.heap.size, 1, none⟩) (by simp; omega)).trans a1
  have k2 := (hb1.cell (p := ⟨w.heap.size, 2, none⟩) (by simp; omega)).trans a2
  have k3 := (hb1.cell (p := ⟨w.heap.size + 1, 0, none⟩) (by simp; omega)).trans a3
  have k4 := (hb1.cell (p := ⟨w.heap.size + 1, 1, none⟩) (by simp; omega)).trans a4
  have k5 := (hb1.cell (p := ⟨w.heap.size + 1, 2, none⟩) (by simp; omega)).trans a5
  have hl1 : w.heap.size + 1 < w1.heap.size := World.block_lt_of_cell? w1 _ k3
  clear hb1 c a0 a1 a2 a3 a4 a5 HB
  rw [HV.out] at k1
  rw [HPB.out] at k2
  have hP : ¬ R w.heap.size := fun hp => absurd (H.out.lt _ hp) (by omega)
  have hP2 : ¬ R (w.heap.size + 1) := fun hp => absurd (H.out.lt _ hp) (by omega)
  have hl0 : w.heap.size < w1.heap.size := by omega
  have hA0 := AfterR.start (H.out.keptB HB1.out) HY.out HYK.out
  obtain ⟨g0, cap0, f0, f1, hcap, _⟩ := hA0.facts hil
  have HA : Hid (AfterR w1 rb ys R i y (k.fill v (stCell q) 0) w1) := by
    show AfterR _ _ _ _ _ _ _ _
    rw [fill_zero]; exact hA0
  clear hA0
  go_wp2
  go_region
  go_wp2
  have HAd : Hid (AfterR w1 rb ys R i y (k.fill v (stCell q) 0) w1.drew) := HA.out.below (Below.refl _ _).drew
  go_loopw [10] (fun i_ wr => ∃ (j : Nat), i_ = .int .i64 j ∧ j ≤ n ∧ Hid (AfterR w1 rb ys R i y (k.fill v (stCell q) j) wr)) (fun i_ _ => n - (intOf i_).toNat)
  case atStart => exact ⟨0, rfl, Nat.zero_le _, HAd⟩
  case round =>
    obtain ⟨j, rfl, hj, HR⟩ := hrel
    by_cases hlt2 : j < n
    · have q1 := (HR.out.cell hl0 hP 1).trans k1
      have q3 := (HR.out.cell hl1 hP2 0).trans k3
      have q4 := (HR.out.cell hl1 hP2 1).trans k4
      have q5 := (HR.out.cell hl1 hP2 2).trans k5
      have l1 : w.heap.size + 1 < wr.heap.size := World.block_lt_of_cell? wr _ q3
      have l0 : w.heap.size < wr.heap.size := by omega
      have hvk : v + j < k.size := by omega
      obtain ⟨g, cap, _, _, _, fc⟩ := HR.out.facts hil
      have hszk : (k.fill v (stCell q) j).size = k.size := rfl
      rw [hszk] at fc
      obtain ⟨d0, d1, d2, d3⟩ := fc.cell hvk
      have ff := fc.frozen
      have hyl := fc.lt
      have w1_ := wrap_id (n := (v : Int)) (by omega) (by omega)
      have w2_ := wrap_id (n := (v : Int) + (j : Int)) (by omega) (by omega)
      have HP : Hid (AfterR w1 rb ys R i y (k.fill v (stCell q) (j + 1)) (set4 wr y.g ((v + j) * 4) (stCell q j))) := by
        show AfterR _ _ _ _ _ _ _ _
        rw [fill_succ]; exact HR.out.put hil hvk (stCell q j)
      clear fc hszk
      have hj4 : j = 0 ∨ j = 1 ∨ j = 2 ∨ j = 3 := by omega
      have HE : stCell q j = ⟨1, byteAt q.v j, 0, 0⟩ := by simp [stCell, HQK.out]
      rw [HE] at HP
      clear HE
      rcases hj4 with rfl | rfl | rfl | rfl
      · simp only [Nat.add_zero] at d0 d1 d2 d3 HP
        have e : bits .and .u32 q.v 255 = byteAt q.v 0 := by rw [W.mask8 _ (by omega) (by omega)]; simp [byteAt]
        have HEq : Hid (bits .and .u32 q.v 255 = byteAt q.v 0) := e
        clear e
        go_wp2
        rw [HEq.out]
        exact ⟨⟨1, rfl, by omega, HP.out.below ((Below.refl _ _).alloc (Nat.le_refl _) _)⟩, by simp [intOf]; omega⟩
      · have e : bits .and .u32 (q.v / 256) 255 = byteAt q.v 1 := by rw [W.mask8 _ (by omega) (by omega)]; simp [byteAt]
        have HEq : Hid (bits .and .u32 (q.v / 256) 255 = byteAt q.v 1) := e
        clear e
        go_wp2
        rw [HEq.out]
        exact ⟨⟨2, rfl, by omega, HP.out.below ((Below.refl _ _).alloc (Nat.le_refl _) _)⟩, by simp [intOf]; omega⟩
      · have e : bits .and .u32 (q.v / 65536) 255 = byteAt q.v 2 := by rw [W.mask8 _ (by omega) (by omega)]; simp [byteAt]
        have HEq : Hid (bits .and .u32 (q.v / 65536) 255 = byteAt q.v 2) := e
        clear e
        go_wp2
        rw [HEq.out]
        exact ⟨⟨3, rfl, by omega, HP.out.below ((Below.refl _ _).alloc (Nat.le_refl _) _)⟩, by simp [intOf]; omega⟩
      · have e : bits .and .u32 (q.v / 16777216) 255 = byteAt q.v 3 := by rw [W.mask8 _ (by omega) (by omega)]; simp [byteAt]
        have HEq : Hid (bits .and .u32 (q.v / 16777216) 255 = byteAt q.v 3) := e
        clear e
        go_wp2
        rw [HEq.out]
        exact ⟨⟨4, rfl, by omega, HP.out.below ((Below.refl _ _).alloc (Nat.le_refl _) _)⟩, by simp [intOf]; omega⟩
    · obtain rfl : j = n := by omega
      go_wp2
      go_ret
      refine ⟨rfl, HR.out.1, (Turned.of_below HB1.out R).trans HR.out.2 (fun _ _ h => h)⟩
end
end Go.Proofs.Ytigiahcfcglacaa
