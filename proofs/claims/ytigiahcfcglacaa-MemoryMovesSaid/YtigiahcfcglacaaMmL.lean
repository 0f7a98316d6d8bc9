/-
  Store.
-/
import Derived.Test.YtigiahcfcglacaaMmJ
import Derived.Test.YtigiahcfcglacaaMmK
namespace Go.Proofs.Ytigiahcfcglacaa
open Go.RowKit Go.Maps
set_option linter.unusedVariables false
set_option maxRecDepth 100000
def box2 (w : World) (p q : Vl) : World := (w.alloc (.cells #[.int .i64 p.kind, .int .u32 p.v, .int .i64 p.block] TV)).alloc (.cells #[.int .i64 q.kind, .int .u32 q.v, .int .i64 q.block] TV)
theorem box2_size (w : World) (p q : Vl) : (box2 w p q).heap.size = w.heap.size + 2 := by simp [box2]
theorem box2_below (w : World) (p q : Vl) : Below w.heap.size w (box2 w p q) := ((Below.refl _ w).alloc (Nat.le_refl _) _).alloc (by simp) _
theorem box2_cells (w : World) (p q : Vl) : ((box2 w p q).cell? ⟨w.heap.size, 0, none⟩ = some (.int .i64 p.kind) ∧ (box2 w p q).cell? ⟨w.heap.size, 1, none⟩ = some (.int .u32 p.v) ∧ (box2 w p q).cell? ⟨w.heap.size, 2, none⟩ = some (.int .i64 p.block)) ∧
    (box2 w p q).cell? ⟨w.heap.size + 1, 0, none⟩ = some (.int .i64 q.kind) ∧ (box2 w p q).cell? ⟨w.heap.size + 1, 1, none⟩ = some (.int .u32 q.v) ∧ (box2 w p q).cell? ⟨w.heap.size + 1, 2, none⟩ = some (.int .i64 q.block) := by
  have e1 : (box2 w p q).heap[w.heap.size]? = some (.cells #[.int .i64 p.kind, .int .u32 p.v, .int .i64 p.block] TV (0, 0)) := by
    have := Below.heap_alloc (w.alloc (.cells #[.int .i64 p.kind, .int .u32 p.v, .int .i64 p.block] TV)) (.cells #[.int .i64 q.kind, .int .u32 q.v, .int .i64 q.block] TV) w.heap.size (by simp)
    unfold box2
    rw [this]; exact heap_r0 w _
  have e2 : (box2 w p q).heap[w.heap.size + 1]? = some (.cells #[.int .i64 q.kind, .int .u32 q.v, .int .i64 q.block] TV (0, 0)) := by
    have := heap_r0 (w.alloc (.cells #[.int .i64 p.kind, .int .u32 p.v, .int .i64 p.block] TV)) (.cells #[.int .i64 q.kind, .int .u32 q.v, .int .i64 q.block] TV)
    unfold box2
    simpa using this
  refine ⟨⟨?_, ?_, ?_⟩, ?_, ?_, ?_⟩
  · rw [Lib.cell_of_heap e1]; rfl
  · rw [Lib.cell_of_heap e1]; rfl
  · rw [Lib.cell_of_heap e1]; rfl
  · rw [Lib.cell_of_heap e2]; rfl
  · rw [Lib.cell_of_heap e2]; rfl
  · rw [Lib.cell_of_heap e2]; rfl
section
variable {w : World} {b : Nat} {xs : List (Option Bx)} {P : Nat → Prop}
set_option maxHeartbeats 1000000 in
theorem store_none (h : MemX w b xs P) (p q : Vl) (hp : VlOK p) (n : Int) (n0 : -9223372036854775808 ≤ n) (n1 : n < 9223372036854775808) (hr : roomX xs p n n = none) :
    Calls Try.prog 18 #[.pointer (some ⟨b, 0, none⟩), .agg #[.int .i64 p.kind, .int .u32 p.v, .int .i64 p.block], .int .i64 n, .agg #[.int .i64 q.kind, .int .u32 q.v, .int .i64 q.block]] w fun e w' => e = .returned (.int .i64 3) ∧ Below w.heap.size w w' := by
  have hB := box2_below w p q
  have c := room_c (h.keptB hB) p hp n n n0 n1
  obtain ⟨⟨a0, a1, a2⟩, a3, a4, a5⟩ := box2_cells w p q
  have HB : Hid (Below w.heap.size w (box2 w p q)) := hB
  have hsz := box2_size w p q
  have e1 := eq_nil
  rw [hr] at c
  simp only [ptrX, Option.map_none] at c
  clear h hB hr
  obtain ⟨W, hW⟩ : ∃ W, W = box2 w p q := ⟨_, rfl⟩
  go_enter Try.func18, Try.ntmps18
  go_upto_region 1 with (fail)
  refine (?_ : Code.wp _ _ _ _ (box2 w p q))
  rw [← hW] at a0 a1 a2 a3 a4 a5 c HB hsz ⊢
  clear hW
  go_wp2_with fail
  refine c.mono ?_; rintro e w1 ⟨rfl, hb1⟩
  have HB1 : Hid (Below w.heap.size w w1) := HB.out.trans (hb1.mono (by omega))
  clear hb1 c
  go_wp2
  go_ret
  exact ⟨rfl, HB1.out⟩
set_option maxHeartbeats 1000000 in
theorem store_no (h : MemX w b xs P) (p q : Vl) (hp : VlOK p) (n : Int) (n0 : -9223372036854775808 ≤ n) (n1 : n < 9223372036854775808) (x : Bx) (hr : roomX xs p n n = some x) (hs : storesB q n = false) :
    Calls Try.prog 18 #[.pointer (some ⟨b, 0, none⟩), .agg #[.int .i64 p.kind, .int .u32 p.v, .int .i64 p.block], .int .i64 n, .agg #[.int .i64 q.kind, .int .u32 q.v, .int .i64 q.block]] w fun e w' => e = .returned (.int .i64 3) ∧ Below w.heap.size w w' := by
  have hB := box2_below w p q
  have c := room_c (h.keptB hB) p hp n n n0 n1
  obtain ⟨⟨a0, a1, a2⟩, a3, a4, a5⟩ := box2_cells w p q
  have HB : Hid (Below w.heap.size w (box2 w p q)) := hB
  have hsz := box2_size w p q
  have e1 := eq_some
  have n2 := not_f
  have cs := fun Y => stores_c q n Y
  simp only [hs] at cs
  rw [hr] at c
  simp only [ptrX, Option.map_some] at c
  clear h hB hr hs
  obtain ⟨W, hW⟩ : ∃ W, W = box2 w p q := ⟨_, rfl⟩
  go_enter Try.func18, Try.ntmps18
  go_upto_region 1 with (fail)
  refine (?_ : Code.wp _ _ _ _ (box2 w p q))
  rw [← hW] at a0 a1 a2 a3 a4 a5 c HB hsz ⊢
  clear hW
  go_wp2_with fail
  refine c.mono ?_; rintro e w1 ⟨rfl, hb1⟩
  have HB1 : Hid (Below w.heap.size w w1) := HB.out.trans (hb1.mono (by omega))
  have k3 := (hb1.cell (p := ⟨w.heap.size + 1, 0, none⟩) (by simp; omega)).trans a3
  have k4 := (hb1.cell (p := ⟨w.heap.size + 1, 1, none⟩) (by simp; omega)).trans a4
  have k5 := (hb1.cell (p := ⟨w.heap.size + 1, 2, none⟩) (by simp; omega)).trans a5
  clear hb1 c
  go_wp2_with fail
  refine (cs _).mono ?_; rintro e w2 ⟨rfl, hb2⟩
  have HB2 : Hid (Below w.heap.size w w2) := HB1.out.trans (hb2.mono HB1.out.size)
  clear hb2 cs
  go_wp2
  go_ret
  exact ⟨rfl, HB2.out⟩
theorem cellsOf_c (p : Vl) (n : Nat) (w : World) (v0 : 0 ≤ p.v) (v1 : p.v < 4294967296) (hn : n = 1 ∨ n = 2 ∨ n = 4) (hs : storesB p n = true) :
    Calls Try.prog 48 #[.agg #[.int .i64 p.kind, .int .u32 p.v, .int .i64 p.block], .int .i64 n] w fun e w' => ∃ g cap, e = .returned (.slice (some ⟨g, 0, none⟩) n cap) ∧ CellsAt w' g n (stCell p) ∧ w.heap.size ≤ g ∧ Below w.heap.size w w' := by
  by_cases hk : p.kind = 2
  · exact cellsOf_ptr p n w hk (by omega) (by omega)
  · exact cellsOf_num p n w hk v0 v1 hn
set_option maxHeartbeats 2000000 in
theorem store_ok (h : MemX w b xs P) (p q : Vl) (hp : VlOK p) (hq : VlOK q) (v n : Nat) (hv : p.v = v) (x : Bx) (i : Nat) (hr : roomX xs p n n = some x) (hx : xs[i]? = some (some x)) (hs : storesB q n = true) :
    Calls Try.prog 18 #[.pointer (some ⟨b, 0, none⟩), .agg #[.int .i64 p.kind, .int .u32 p.v, .int .i64 p.block], .int .i64 n, .agg #[.int .i64 q.kind, .int .u32 q.v, .int .i64 q.block]] w fun e w' => e = .returned (.int .i64 0) ∧ After w b xs P i x (x.bk.fill v (stCell q) n) w' := by
  have hB := box2_below w p q
  obtain ⟨hvs, _, hw, _, _, hn1, hn2⟩ := roomX_some hr
  have hn3 : n = 1 ∨ n = 2 ∨ n = 4 := by
    have : (n : Int) = 1 ∨ (n : Int) = 2 ∨ (n : Int) = 4 := by simpa [isW] using hw
    omega
  have hmx := (h.at_ hx).max
  have hil : i < xs.length := (List.getElem?_eq_some_iff.1 hx).1
  have c := room_c (h.keptB hB) p hp n n (by omega) (by omega)
  obtain ⟨⟨a0, a1, a2⟩, a3, a4, a5⟩ := box2_cells w p q
  have HB : Hid (Below w.heap.size w (box2 w p q)) := hB
  have hsz := box2_size w p q
  have e1 := eq_some
  have n2 := not_t
  have cs := fun Y => stores_c q n Y
  have cc := fun Y => cellsOf_c q n Y hq.v0 hq.v1 hn3 hs
  simp only [hs] at cs
  rw [hr] at c
  simp only [ptrX, Option.map_some] at c
  have H : Hid (MemX w b xs P) := h
  have HX : Hid (xs[i]? = some (some x)) := hx
  have hvn : v + n ≤ x.bk.size := by omega
  have HV : Hid (p.v = v) := hv
  have hn4 : n ≤ 4 := by omega
  clear h hB hr hx hs hn3 hw hv
  obtain ⟨W, hW⟩ : ∃ W, W = box2 w p q := ⟨_, rfl⟩
  go_enter Try.func18, Try.ntmps18
  go_upto_region 1 with (fail)
  refine (?_ : Code.wp _ _ _ _ (box2 w p q))
  rw [← hW] at a0 a1 a2 a3 a4 a5 c HB hsz ⊢
  clear hW
  go_wp2_with fail
  refine c.mono ?_; rintro e w1 ⟨rfl, hb1⟩
  have HB1 : Hid (Below w.heap.size w w1) := HB.out.trans (hb1.mono (by omega))
  have k1 := (hb1.cell (p := ⟨w.heap.size, 1, none⟩) (by simp; omega)).trans a1
  rw [HV.out] at k1
  have k3 := (hb1.cell (p := ⟨w.heap.size + 1, 0, none⟩) (by simp; omega)).trans a3
  have k4 := (hb1.cell (p := ⟨w.heap.size + 1, 1, none⟩) (by simp; omega)).trans a4
  have k5 := (hb1.cell (p := ⟨w.heap.size + 1, 2, none⟩) (by simp; omega)).trans a5
  have hl1 : w.heap.size + 1 < w1.heap.size := World.block_lt_of_cell? w1 _ k3
  clear hb1 c a0 a1 a2 a3 a4 a5 HB
  go_wp2_with fail
  refine (cs _).mono ?_; rintro e w2 ⟨rfl, hb2⟩
  have HB2 : Hid (Below w.heap.size w w2) := HB1.out.trans (hb2.mono HB1.out.size)
  have m1 := (hb2.cell (p := ⟨w.heap.size, 1, none⟩) (by simp; omega)).trans k1
  have m3 := (hb2.cell (p := ⟨w.heap.size + 1, 0, none⟩) (by simp; omega)).trans k3
  have m4 := (hb2.cell (p := ⟨w.heap.size + 1, 1, none⟩) (by simp; omega)).trans k4
  have m5 := (hb2.cell (p := ⟨w.heap.size + 1, 2, none⟩) (by simp; omega)).trans k5
  have hl2 : w.heap.size + 1 < w2.heap.size := World.block_lt_of_cell? w2 _ m3
  clear hb2 cs k1 k3 k4 k5 HB1
  go_wp2_with fail
  refine (cc _).mono ?_; rintro e w3 ⟨g, cap, rfl, hc3, hg3, hb3⟩
  have HB3 : Hid (Below w.heap.size w w3) := HB2.out.trans (hb3.mono HB2.out.size)
  have k1 := (hb3.cell (p := ⟨w.heap.size, 1, none⟩) (by simp; omega)).trans m1
  have hl3 : w.heap.size < w3.heap.size := World.block_lt_of_cell? w3 _ k1
  have HC3 : Hid (CellsAt w3 g n (stCell q)) := hc3
  have hgl := hc3.lt
  have hP : ¬ P w.heap.size := fun hp => absurd (H.out.lt _ hp) (by omega)
  have hPg : ¬ P g := fun hp => absurd (H.out.lt _ hp) (by omega)
  have HA : Hid (After w3 b xs P i x (x.bk.fill v (stCell q) 0) w3) := by
    show After _ _ _ _ _ _ _ _
    rw [fill_zero]; exact After.start (H.out.keptB HB3.out) HX.out
  clear hb3 cc m1 m3 m4 m5 HB2 hc3
  go_wp2
  go_loopw [29] (fun i_ wr => ∃ (k : Nat), i_ = .int .i64 k ∧ k ≤ n ∧ Hid (After w3 b xs P i x (x.bk.fill v (stCell q) k) wr)) (fun i_ _ => n - (intOf i_).toNat)
  case atStart => exact ⟨0, rfl, Nat.zero_le _, HA⟩
  case round =>
    obtain ⟨k, rfl, hk, HR⟩ := hrel
    by_cases hlt2 : k < n
    · have q1 := (HR.out.cell hl3 hP 1).trans k1
      obtain ⟨s0, s1, s2, s3⟩ := HC3.out.cell hlt2
      have t0 := (HR.out.cell hgl hPg _).trans s0
      have t1 := (HR.out.cell hgl hPg _).trans s1
      have t2 := (HR.out.cell hgl hPg _).trans s2
      have t3 := (HR.out.cell hgl hPg _).trans s3
      have hvk : v + k < x.bk.size := by omega
      have w1_ := wrap_id (n := (v : Int)) (by omega) (by omega)
      have w2_ := wrap_id (n := (v : Int) + (k : Int)) (by omega) (by omega)
      have cp := fun Y (hY : Below wr.heap.size wr Y) => (HR.out.below hY).fill hil hvk
      have hlr : w.heap.size < wr.heap.size := World.block_lt_of_cell? wr _ q1
      have hgr : g < wr.heap.size := World.block_lt_of_cell? wr _ t0
      clear s0 s1 s2 s3
      generalize stCell q k = c at *
      go_wp2_with fail
      refine (cp _ (by repeat (first | exact Below.refl _ _ | refine Below.setCell ?_ (by simp) _ | refine Below.alloc ?_ (by simp) _))).mono ?_; rintro e w4 ⟨rfl, hA3⟩
      have HA3 : Hid (After w3 b xs P i x (x.bk.fill v (stCell q) (k + 1)) w4) := hA3
      clear hA3 cp
      go_wp2
      exact ⟨⟨k + 1, by go_num, by omega, HA3⟩, by simp [intOf]; omega⟩
    · obtain rfl : k = n := by omega
      go_wp2
      go_ret
      refine ⟨rfl, ?_⟩
      obtain ⟨x', P', h1, h2, h3, h4, h5⟩ := HR.out
      exact ⟨x', P', h1, h2, h3, (Turned.of_below HB3.out P).trans h4 (fun _ _ h => h), fun m hm => (h5 m hm).imp id (fun h => Nat.le_trans HB3.out.size h)⟩
end
end Go.Proofs.Ytigiahcfcglacaa
