/-
  Operations of two numbers, of two pointers.
-/
import Derived.Test.YtigiahcfcglacaaMmT
namespace Go.Proofs.Ytigiahcfcglacaa
open Go.RowKit Go.Maps
set_option linter.unusedVariables false
set_option maxRecDepth 100000
section
variable {w : World} {b : Nat} {xs : List (Option Bx)} {P : Nat → Prop}
set_option maxHeartbeats 1000000 in
theorem ofNum_ok (op a c v : Int) (hB0 : ∀ w, Calls Try.prog 52 #[.int .i64 op, .int .u32 a, .int .u32 c] w fun e w' => e = .returned (.tuple #[.int .u32 v, .bool true]) ∧ w' = w) (w : World) :
    Calls Try.prog 25 #[.int .i64 op, .int .u32 a, .int .u32 c] w fun e w' => e = .returned (.tuple #[.agg #[.int .i64 1, .int .u32 v, .int .i64 0], .int .i64 0]) ∧ Below w.heap.size w w' := by
  have HB : Hid (Below w.heap.size w (w.alloc (.cells #[.int .i64 0, .int .u32 0, .int .i64 0] TV))) := (Below.refl _ w).alloc (Nat.le_refl _) _
  have HZ : Hid ((w.alloc (.cells #[.int .i64 0, .int .u32 0, .int .i64 0] TV)).heap[w.heap.size]? = some (.cells #[.int .i64 0, .int .u32 0, .int .i64 0] TV (0, 0))) := heap_r0 w _
  have n2 := not_t
  have n3 := not_f
  have hbz := zeroV_box
  have cN := fun (v : Int) Y => numberOf_c v Y
  go_enter Try.func25, Try.ntmps25
  go_wp2_with fail
  refine (hB0 _).mono ?_; rintro e w' ⟨rfl, hw⟩; rw [hw]; clear hw w' hB0
  go_wp2_with fail
  refine (cN _ _).mono ?_; rintro e w3 ⟨rfl, hb3⟩
  have HBZ : Hid (Below w.heap.size w w3) := HB.out.trans (hb3.mono HB.out.size)
  obtain ⟨tf, t0, t1, t2⟩ := zero_facts ((hb3.block _ (lt_of_heap HZ.out)).trans HZ.out)
  have hl3 : w.heap.size < w3.heap.size := World.block_lt_of_cell? w3 _ t0
  clear hb3 cN
  go_wp2
  exact bodyPost_ret (v := .tuple #[.agg #[.int .i64 1, .int .u32 v, .int .i64 0], .int .i64 0]) (by simp [results, Try.results25, go_sem, t0, t1, t2]) rfl ⟨rfl, (by repeat (first | exact HBZ.out | refine Below.setCell ?_ (by simp <;> omega) _ | refine Below.alloc ?_ (by have := HBZ.out.size; simp; omega) _))⟩
set_option maxHeartbeats 1000000 in
theorem ofNum_no (op a c v : Int) (hB0 : ∀ w, Calls Try.prog 52 #[.int .i64 op, .int .u32 a, .int .u32 c] w fun e w' => e = .returned (.tuple #[.int .u32 v, .bool false]) ∧ w' = w) (w : World) :
    Calls Try.prog 25 #[.int .i64 op, .int .u32 a, .int .u32 c] w fun e w' => e = .returned (.tuple #[.agg #[.int .i64 0, .int .u32 0, .int .i64 0], .int .i64 2]) ∧ Below w.heap.size w w' := by
  have HB : Hid (Below w.heap.size w (w.alloc (.cells #[.int .i64 0, .int .u32 0, .int .i64 0] TV))) := (Below.refl _ w).alloc (Nat.le_refl _) _
  have HZ : Hid ((w.alloc (.cells #[.int .i64 0, .int .u32 0, .int .i64 0] TV)).heap[w.heap.size]? = some (.cells #[.int .i64 0, .int .u32 0, .int .i64 0] TV (0, 0))) := heap_r0 w _
  have n2 := not_t
  have n3 := not_f
  have hbz := zeroV_box
  have cN := fun (v : Int) Y => numberOf_c v Y
  go_enter Try.func25, Try.ntmps25
  go_wp2_with fail
  refine (hB0 _).mono ?_; rintro e w' ⟨rfl, hw⟩; rw [hw]; clear hw w' hB0
  have HBZ := HB
  go_wp2
  exact bodyPost_ret (v := .tuple #[.agg #[.int .i64 0, .int .u32 0, .int .i64 0], .int .i64 2]) (by simp [results, Try.results25, go_sem]) rfl ⟨rfl, (by repeat (first | exact HBZ.out | refine Below.setCell ?_ (by simp <;> omega) _ | refine Below.alloc ?_ (by have := HBZ.out.size; simp; omega) _))⟩
set_option maxHeartbeats 2000000 in
theorem atEnd_c (h : MemX w b xs P) (p : Vl) (hp : VlOK p) (x : Bx) (hg : goodX xs p = some x) :
    Calls Try.prog 54 #[.pointer (some ⟨b, 0, none⟩), .agg #[.int .i64 p.kind, .int .u32 p.v, .int .i64 p.block]] w fun e w' => e = .returned (.bool (decide (p.v = x.bk.size))) ∧ Below w.heap.size w w' := by
  have hB : Below w.heap.size w (w.alloc (.cells #[.int .i64 p.kind, .int .u32 p.v, .int .i64 p.block] TV)) := (Below.refl _ w).alloc (Nat.le_refl _) _
  obtain ⟨a0, a1, a2⟩ := box_cells w p
  obtain ⟨hk2, hvs, i, hi, hx⟩ := goodX_some hg
  have HB : Hid (Below w.heap.size w (w.alloc (.cells #[.int .i64 p.kind, .int .u32 p.v, .int .i64 p.block] TV))) := hB
  have H : Hid (MemX (w.alloc (.cells #[.int .i64 p.kind, .int .u32 p.v, .int .i64 p.block] TV)) b xs P) := h.keptB hB
  have hmx := (h.at_ hx).max
  have HX : Hid (xs[i]? = some (some x)) := hx
  obtain ⟨Wz, hW⟩ : ∃ Wz, Wz = (w.alloc (.cells #[.int .i64 p.kind, .int .u32 p.v, .int .i64 p.block] TV)) := ⟨_, rfl⟩
  have hsz : Wz.heap.size = w.heap.size + 1 := by rw [hW]; simp
  rw [← hW] at a0 a1 a2 HB H
  have hg' := hg
  have cG := fun Y (hY : SA Wz Y) => good_c (H.out.keptB hY.b) p hp
  simp only [hg', ptrX, Option.map_some] at cG
  have w1_ : IntKind.u32.wrap (x.bk.size : Int) = x.bk.size := by simp [IntKind.wrap, IntKind.bits, IntKind.signed]; omega
  have k0 : ∀ Y, SA Wz Y → Y.cell? ⟨w.heap.size, 0, none⟩ = some (.int .i64 p.kind) := fun Y h => (Below.cell h (p := ⟨w.heap.size, 0, none⟩) (by simp; omega)).trans a0
  have k1 : ∀ Y, SA Wz Y → Y.cell? ⟨w.heap.size, 1, none⟩ = some (.int .u32 p.v) := fun Y h => (Below.cell h (p := ⟨w.heap.size, 1, none⟩) (by simp; omega)).trans a1
  have k2 : ∀ Y, SA Wz Y → Y.cell? ⟨w.heap.size, 2, none⟩ = some (.int .i64 p.block) := fun Y h => (Below.cell h (p := ⟨w.heap.size, 2, none⟩) (by simp; omega)).trans a2
  have k3 : ∀ Y, SA Wz Y → Y.cell? ⟨x.bb, 0, none⟩ = some (.int .i64 x.bk.size) := fun Y h => ((H.out.keptB h.b).at_ HX.out).c0
  have HCP : Hid (∀ Y, SA Wz Y → Below w.heap.size w Y) := fun Y h => HB.out.trans (Below.mono h (by omega))
  have HW : SA Wz Wz := SA.refl _
  clear a0 a1 a2 h hB hg hg' hx hi hk2
  go_enter Try.func54, Try.ntmps54
  go_upto_region 1 with (fail)
  refine (?_ : Code.wp _ _ _ _ (w.alloc (.cells #[.int .i64 p.kind, .int .u32 p.v, .int .i64 p.block] TV)))
  rw [← hW]
  clear hW
  go_wp2
  go_region_held3 (fun Y => SA Wz Y) (first | assumption | (with_reducible refine SA.drew ?_; assumption) | (with_reducible refine SA.below ?_ (by assumption); assumption)) ((go_at_call 51; refine (cG _ (by assumption)).mono ?_; rintro e y1 ⟨rfl, hy1⟩))
  rename_i hHeld
  have HBF : Hid (Below w.heap.size w _) := HCP.out _ hHeld
  clear hHeld HW cG k0 k1 k2 k3
  go_wp2
  go_ret
  exact ⟨bool_ret (by rw [Bool.eq_iff_iff]; simp), HBF.out⟩
set_option maxHeartbeats 4000000 in
theorem pp_end1 (p q : Vl) (op : Int) (hne : ¬ p.block = q.block) (cE1 : ∀ Y, Below w.heap.size w Y → Calls Try.prog 54 #[.pointer (some ⟨b, 0, none⟩), .agg #[.int .i64 p.kind, .int .u32 p.v, .int .i64 p.block]] Y fun e w' => e = .returned (.bool true) ∧ Below Y.heap.size Y w') :
    Calls Try.prog 26 #[.pointer (some ⟨b, 0, none⟩), .int .i64 op, .agg #[.int .i64 p.kind, .int .u32 p.v, .int .i64 p.block], .agg #[.int .i64 q.kind, .int .u32 q.v, .int .i64 q.block]] w fun e w' => e = .returned (.tuple #[.agg #[.int .i64 0, .int .u32 0, .int .i64 0], .int .i64 3]) ∧ Below w.heap.size w w' := by
  have hB := BW_below w p q
  obtain ⟨⟨a0, a1, a2⟩, a3, a4, a5⟩ := BW_cells w p q
  have HB : Hid (Below w.heap.size w (BW w p q)) := hB
  have hsz := BW_size w p q
  have HZ : Hid ((BW w p q).heap[w.heap.size + 2]? = some (.cells #[.int .i64 0, .int .u32 0, .int .i64 0] TV (0, 0))) := BW_heap w p q
  have cu := fun Y => undefined_c Y
  have tb : (p.block != q.block) = true := by simpa using hne

  clear hB hne
  obtain ⟨Wz, hW⟩ : ∃ Wz, Wz = BW w p q := ⟨_, rfl⟩
  go_enter Try.func26, Try.ntmps26
  go_upto_region 1 with (fail)
  refine (?_ : Code.wp _ _ _ _ (BW w p q))
  rw [← hW] at a0 a1 a2 a3 a4 a5 HB hsz HZ ⊢
  clear hW
  go_wp2_with fail
  refine (cE1 _ HB.out).mono ?_; rintro e w1 ⟨rfl, hb1⟩
  have HB1 : Hid (Below w.heap.size w w1) := HB.out.trans (hb1.mono HB.out.size)
  have HZ1 : Hid (w1.heap[w.heap.size + 2]? = some (.cells #[.int .i64 0, .int .u32 0, .int .i64 0] TV (0, 0))) := (hb1.block _ (lt_of_heap HZ.out)).trans HZ.out
  have b0 := (hb1.cell (p := ⟨w.heap.size, 0, none⟩) (by have := lt_of_heap HZ.out; simp; omega)).trans a0
  have b1 := (hb1.cell (p := ⟨w.heap.size, 1, none⟩) (by have := lt_of_heap HZ.out; simp; omega)).trans a1
  have b2 := (hb1.cell (p := ⟨w.heap.size, 2, none⟩) (by have := lt_of_heap HZ.out; simp; omega)).trans a2
  have b3 := (hb1.cell (p := ⟨w.heap.size + 1, 0, none⟩) (by have := lt_of_heap HZ.out; simp; omega)).trans a3
  have b4 := (hb1.cell (p := ⟨w.heap.size + 1, 1, none⟩) (by have := lt_of_heap HZ.out; simp; omega)).trans a4
  have b5 := (hb1.cell (p := ⟨w.heap.size + 1, 2, none⟩) (by have := lt_of_heap HZ.out; simp; omega)).trans a5
  clear hb1 cE1
  go_wp2_with fail
  refine (cu _).mono ?_; rintro e w9 ⟨rfl, hb9⟩
  have HBZ : Hid (Below w.heap.size w w9) := HB1.out.trans (hb9.mono HB1.out.size)
  obtain ⟨tf, t0, t1, t2⟩ := zero_facts ((hb9.block _ (lt_of_heap HZ1.out)).trans HZ1.out)
  have hl3 : w.heap.size + 2 < w9.heap.size := World.block_lt_of_cell? w9 _ t0
  clear hb9 cu
  go_wp2
  exact bodyPost_ret (v := .tuple #[.agg #[.int .i64 0, .int .u32 0, .int .i64 0], .int .i64 3]) (by simp [results, Try.results26, go_sem, t0, t1, t2]) rfl ⟨rfl, (by repeat (first | exact HBZ.out | refine Below.setCell ?_ (by simp <;> omega) _ | refine Below.alloc ?_ (by have := HBZ.out.size; simp; omega) _))⟩
set_option maxHeartbeats 4000000 in
theorem pp_end2 (p q : Vl) (op : Int) (hne : ¬ p.block = q.block) (cE1 : ∀ Y, Below w.heap.size w Y → Calls Try.prog 54 #[.pointer (some ⟨b, 0, none⟩), .agg #[.int .i64 p.kind, .int .u32 p.v, .int .i64 p.block]] Y fun e w' => e = .returned (.bool false) ∧ Below Y.heap.size Y w') (cE2 : ∀ Y, Below w.heap.size w Y → Calls Try.prog 54 #[.pointer (some ⟨b, 0, none⟩), .agg #[.int .i64 q.kind, .int .u32 q.v, .int .i64 q.block]] Y fun e w' => e = .returned (.bool true) ∧ Below Y.heap.size Y w') :
    Calls Try.prog 26 #[.pointer (some ⟨b, 0, none⟩), .int .i64 op, .agg #[.int .i64 p.kind, .int .u32 p.v, .int .i64 p.block], .agg #[.int .i64 q.kind, .int .u32 q.v, .int .i64 q.block]] w fun e w' => e = .returned (.tuple #[.agg #[.int .i64 0, .int .u32 0, .int .i64 0], .int .i64 3]) ∧ Below w.heap.size w w' := by
  have hB := BW_below w p q
  obtain ⟨⟨a0, a1, a2⟩, a3, a4, a5⟩ := BW_cells w p q
  have HB : Hid (Below w.heap.size w (BW w p q)) := hB
  have hsz := BW_size w p q
  have HZ : Hid ((BW w p q).heap[w.heap.size + 2]? = some (.cells #[.int .i64 0, .int .u32 0, .int .i64 0] TV (0, 0))) := BW_heap w p q
  have cu := fun Y => undefined_c Y
  have tb : (p.block != q.block) = true := by simpa using hne

  clear hB hne
  obtain ⟨Wz, hW⟩ : ∃ Wz, Wz = BW w p q := ⟨_, rfl⟩
  go_enter Try.func26, Try.ntmps26
  go_upto_region 1 with (fail)
  refine (?_ : Code.wp _ _ _ _ (BW w p q))
  rw [← hW] at a0 a1 a2 a3 a4 a5 HB hsz HZ ⊢
  clear hW
  go_wp2_with fail
  refine (cE1 _ HB.out).mono ?_; rintro e w1 ⟨rfl, hb1⟩
  have HB1 : Hid (Below w.heap.size w w1) := HB.out.trans (hb1.mono HB.out.size)
  have HZ1 : Hid (w1.heap[w.heap.size + 2]? = some (.cells #[.int .i64 0, .int .u32 0, .int .i64 0] TV (0, 0))) := (hb1.block _ (lt_of_heap HZ.out)).trans HZ.out
  have b0 := (hb1.cell (p := ⟨w.heap.size, 0, none⟩) (by have := lt_of_heap HZ.out; simp; omega)).trans a0
  have b1 := (hb1.cell (p := ⟨w.heap.size, 1, none⟩) (by have := lt_of_heap HZ.out; simp; omega)).trans a1
  have b2 := (hb1.cell (p := ⟨w.heap.size, 2, none⟩) (by have := lt_of_heap HZ.out; simp; omega)).trans a2
  have b3 := (hb1.cell (p := ⟨w.heap.size + 1, 0, none⟩) (by have := lt_of_heap HZ.out; simp; omega)).trans a3
  have b4 := (hb1.cell (p := ⟨w.heap.size + 1, 1, none⟩) (by have := lt_of_heap HZ.out; simp; omega)).trans a4
  have b5 := (hb1.cell (p := ⟨w.heap.size + 1, 2, none⟩) (by have := lt_of_heap HZ.out; simp; omega)).trans a5
  clear hb1 cE1
  go_wp2_with fail
  refine (cE2 _ HB1.out).mono ?_; rintro e w2 ⟨rfl, hb2⟩
  have HB2 : Hid (Below w.heap.size w w2) := HB1.out.trans (hb2.mono HB1.out.size)
  have HZ2 : Hid (w2.heap[w.heap.size + 2]? = some (.cells #[.int .i64 0, .int .u32 0, .int .i64 0] TV (0, 0))) := (hb2.block _ (lt_of_heap HZ1.out)).trans HZ1.out
  have c0 := (hb2.cell (p := ⟨w.heap.size, 0, none⟩) (by have := lt_of_heap HZ1.out; simp; omega)).trans b0
  have c1 := (hb2.cell (p := ⟨w.heap.size, 1, none⟩) (by have := lt_of_heap HZ1.out; simp; omega)).trans b1
  have c2 := (hb2.cell (p := ⟨w.heap.size, 2, none⟩) (by have := lt_of_heap HZ1.out; simp; omega)).trans b2
  have c3 := (hb2.cell (p := ⟨w.heap.size + 1, 0, none⟩) (by have := lt_of_heap HZ1.out; simp; omega)).trans b3
  have c4 := (hb2.cell (p := ⟨w.heap.size + 1, 1, none⟩) (by have := lt_of_heap HZ1.out; simp; omega)).trans b4
  have c5 := (hb2.cell (p := ⟨w.heap.size + 1, 2, none⟩) (by have := lt_of_heap HZ1.out; simp; omega)).trans b5
  clear hb2 cE2
  go_wp2_with fail
  refine (cu _).mono ?_; rintro e w9 ⟨rfl, hb9⟩
  have HBZ : Hid (Below w.heap.size w w9) := HB2.out.trans (hb9.mono HB2.out.size)
  obtain ⟨tf, t0, t1, t2⟩ := zero_facts ((hb9.block _ (lt_of_heap HZ2.out)).trans HZ2.out)
  have hl3 : w.heap.size + 2 < w9.heap.size := World.block_lt_of_cell? w9 _ t0
  clear hb9 cu
  go_wp2
  exact bodyPost_ret (v := .tuple #[.agg #[.int .i64 0, .int .u32 0, .int .i64 0], .int .i64 3]) (by simp [results, Try.results26, go_sem, t0, t1, t2]) rfl ⟨rfl, (by repeat (first | exact HBZ.out | refine Below.setCell ?_ (by simp <;> omega) _ | refine Below.alloc ?_ (by have := HBZ.out.size; simp; omega) _))⟩
set_option maxHeartbeats 4000000 in
theorem pp_un (p q : Vl) (op : Int) (hne : ¬ p.block = q.block) (cE1 : ∀ Y, Below w.heap.size w Y → Calls Try.prog 54 #[.pointer (some ⟨b, 0, none⟩), .agg #[.int .i64 p.kind, .int .u32 p.v, .int .i64 p.block]] Y fun e w' => e = .returned (.bool false) ∧ Below Y.heap.size Y w') (cE2 : ∀ Y, Below w.heap.size w Y → Calls Try.prog 54 #[.pointer (some ⟨b, 0, none⟩), .agg #[.int .i64 q.kind, .int .u32 q.v, .int .i64 q.block]] Y fun e w' => e = .returned (.bool false) ∧ Below Y.heap.size Y w') (r : Vl) (st : Int) (cC : ∀ Y, Calls Try.prog 55 #[.int .i64 op] Y fun e w' => e = .returned (.tuple #[.agg #[.int .i64 r.kind, .int .u32 r.v, .int .i64 r.block], .int .i64 st]) ∧ Below Y.heap.size Y w') :
    Calls Try.prog 26 #[.pointer (some ⟨b, 0, none⟩), .int .i64 op, .agg #[.int .i64 p.kind, .int .u32 p.v, .int .i64 p.block], .agg #[.int .i64 q.kind, .int .u32 q.v, .int .i64 q.block]] w fun e w' => e = .returned (.tuple #[.agg #[.int .i64 r.kind, .int .u32 r.v, .int .i64 r.block], .int .i64 st]) ∧ Below w.heap.size w w' := by
  have hB := BW_below w p q
  obtain ⟨⟨a0, a1, a2⟩, a3, a4, a5⟩ := BW_cells w p q
  have HB : Hid (Below w.heap.size w (BW w p q)) := hB
  have hsz := BW_size w p q
  have HZ : Hid ((BW w p q).heap[w.heap.size + 2]? = some (.cells #[.int .i64 0, .int .u32 0, .int .i64 0] TV (0, 0))) := BW_heap w p q
  have cu := fun Y => undefined_c Y
  have tb : (p.block != q.block) = true := by simpa using hne

  clear hB hne
  obtain ⟨Wz, hW⟩ : ∃ Wz, Wz = BW w p q := ⟨_, rfl⟩
  go_enter Try.func26, Try.ntmps26
  go_upto_region 1 with (fail)
  refine (?_ : Code.wp _ _ _ _ (BW w p q))
  rw [← hW] at a0 a1 a2 a3 a4 a5 HB hsz HZ ⊢
  clear hW
  go_wp2_with fail
  refine (cE1 _ HB.out).mono ?_; rintro e w1 ⟨rfl, hb1⟩
  have HB1 : Hid (Below w.heap.size w w1) := HB.out.trans (hb1.mono HB.out.size)
  have HZ1 : Hid (w1.heap[w.heap.size + 2]? = some (.cells #[.int .i64 0, .int .u32 0, .int .i64 0] TV (0, 0))) := (hb1.block _ (lt_of_heap HZ.out)).trans HZ.out
  have b0 := (hb1.cell (p := ⟨w.heap.size, 0, none⟩) (by have := lt_of_heap HZ.out; simp; omega)).trans a0
  have b1 := (hb1.cell (p := ⟨w.heap.size, 1, none⟩) (by have := lt_of_heap HZ.out; simp; omega)).trans a1
  have b2 := (hb1.cell (p := ⟨w.heap.size, 2, none⟩) (by have := lt_of_heap HZ.out; simp; omega)).trans a2
  have b3 := (hb1.cell (p := ⟨w.heap.size + 1, 0, none⟩) (by have := lt_of_heap HZ.out; simp; omega)).trans a3
  have b4 := (hb1.cell (p := ⟨w.heap.size + 1, 1, none⟩) (by have := lt_of_heap HZ.out; simp; omega)).trans a4
  have b5 := (hb1.cell (p := ⟨w.heap.size + 1, 2, none⟩) (by have := lt_of_heap HZ.out; simp; omega)).trans a5
  clear hb1 cE1
  go_wp2_with fail
  refine (cE2 _ HB1.out).mono ?_; rintro e w2 ⟨rfl, hb2⟩
  have HB2 : Hid (Below w.heap.size w w2) := HB1.out.trans (hb2.mono HB1.out.size)
  have HZ2 : Hid (w2.heap[w.heap.size + 2]? = some (.cells #[.int .i64 0, .int .u32 0, .int .i64 0] TV (0, 0))) := (hb2.block _ (lt_of_heap HZ1.out)).trans HZ1.out
  have c0 := (hb2.cell (p := ⟨w.heap.size, 0, none⟩) (by have := lt_of_heap HZ1.out; simp; omega)).trans b0
  have c1 := (hb2.cell (p := ⟨w.heap.size, 1, none⟩) (by have := lt_of_heap HZ1.out; simp; omega)).trans b1
  have c2 := (hb2.cell (p := ⟨w.heap.size, 2, none⟩) (by have := lt_of_heap HZ1.out; simp; omega)).trans b2
  have c3 := (hb2.cell (p := ⟨w.heap.size + 1, 0, none⟩) (by have := lt_of_heap HZ1.out; simp; omega)).trans b3
  have c4 := (hb2.cell (p := ⟨w.heap.size + 1, 1, none⟩) (by have := lt_of_heap HZ1.out; simp; omega)).trans b4
  have c5 := (hb2.cell (p := ⟨w.heap.size + 1, 2, none⟩) (by have := lt_of_heap HZ1.out; simp; omega)).trans b5
  clear hb2 cE2
  go_wp2_with fail
  refine (cC _).mono ?_; rintro e w9 ⟨rfl, hb9⟩
  have HBZ : Hid (Below w.heap.size w w9) := HB2.out.trans (hb9.mono HB2.out.size)
  obtain ⟨tf, t0, t1, t2⟩ := zero_facts ((hb9.block _ (lt_of_heap HZ2.out)).trans HZ2.out)
  have hl3 : w.heap.size + 2 < w9.heap.size := World.block_lt_of_cell? w9 _ t0
  clear hb9 cu
  go_wp2
  exact bodyPost_ret (v := .tuple #[.agg #[.int .i64 r.kind, .int .u32 r.v, .int .i64 r.block], .int .i64 st]) (by simp [results, Try.results26, go_sem, t0, t1, t2]) rfl ⟨rfl, (by repeat (first | exact HBZ.out | refine Below.setCell ?_ (by simp <;> omega) _ | refine Below.alloc ?_ (by have := HBZ.out.size; simp; omega) _))⟩
set_option maxHeartbeats 4000000 in
theorem pp_no (p q : Vl) (op : Int) (heq : p.block = q.block) (ho : ¬ op = 2) (ho2 : op < 14 ∨ 19 < op) :
    Calls Try.prog 26 #[.pointer (some ⟨b, 0, none⟩), .int .i64 op, .agg #[.int .i64 p.kind, .int .u32 p.v, .int .i64 p.block], .agg #[.int .i64 q.kind, .int .u32 q.v, .int .i64 q.block]] w fun e w' => e = .returned (.tuple #[.agg #[.int .i64 0, .int .u32 0, .int .i64 0], .int .i64 3]) ∧ Below w.heap.size w w' := by
  have hB := BW_below w p q
  obtain ⟨⟨a0, a1, a2⟩, a3, a4, a5⟩ := BW_cells w p q
  have HB : Hid (Below w.heap.size w (BW w p q)) := hB
  have hsz := BW_size w p q
  have HZ : Hid ((BW w p q).heap[w.heap.size + 2]? = some (.cells #[.int .i64 0, .int .u32 0, .int .i64 0] TV (0, 0))) := BW_heap w p q
  have cu := fun Y => undefined_c Y
  have tb : (p.block != q.block) = false := by simpa using heq
  have o2 : (op == 2) = false := by simp; omega
  have o14 : (op == 14) = false := by simp; omega
  have o15 : (op == 15) = false := by simp; omega
  have o16 : (op == 16) = false := by simp; omega
  have o17 : (op == 17) = false := by simp; omega
  have o18 : (op == 18) = false := by simp; omega
  have o19 : (op == 19) = false := by simp; omega

  clear hB heq ho ho2
  obtain ⟨Wz, hW⟩ : ∃ Wz, Wz = BW w p q := ⟨_, rfl⟩
  go_enter Try.func26, Try.ntmps26
  go_upto_region 1 with (fail)
  refine (?_ : Code.wp _ _ _ _ (BW w p q))
  rw [← hW] at a0 a1 a2 a3 a4 a5 HB hsz HZ ⊢
  clear hW
  go_wp2_with fail
  refine (cu _).mono ?_; rintro e w9 ⟨rfl, hb9⟩
  have HBZ : Hid (Below w.heap.size w w9) := HB.out.trans (hb9.mono HB.out.size)
  obtain ⟨tf, t0, t1, t2⟩ := zero_facts ((hb9.block _ (lt_of_heap HZ.out)).trans HZ.out)
  have hl3 : w.heap.size + 2 < w9.heap.size := World.block_lt_of_cell? w9 _ t0
  clear hb9 cu
  go_wp2
  exact bodyPost_ret (v := .tuple #[.agg #[.int .i64 0, .int .u32 0, .int .i64 0], .int .i64 3]) (by simp [results, Try.results26, go_sem, t0, t1, t2]) rfl ⟨rfl, (by repeat (first | exact HBZ.out | refine Below.setCell ?_ (by simp <;> omega) _ | refine Below.alloc ?_ (by have := HBZ.out.size; simp; omega) _))⟩
set_option maxHeartbeats 4000000 in
theorem pp_2 (p q : Vl) (op : Int) (heq : p.block = q.block) (ho : op = 2) (r : Vl) (st : Int) (cC : ∀ Y, Calls Try.prog 25 #[.int .i64 op, .int .u32 p.v, .int .u32 q.v] Y fun e w' => e = .returned (.tuple #[.agg #[.int .i64 r.kind, .int .u32 r.v, .int .i64 r.block], .int .i64 st]) ∧ Below Y.heap.size Y w') :
    Calls Try.prog 26 #[.pointer (some ⟨b, 0, none⟩), .int .i64 op, .agg #[.int .i64 p.kind, .int .u32 p.v, .int .i64 p.block], .agg #[.int .i64 q.kind, .int .u32 q.v, .int .i64 q.block]] w fun e w' => e = .returned (.tuple #[.agg #[.int .i64 r.kind, .int .u32 r.v, .int .i64 r.block], .int .i64 st]) ∧ Below w.heap.size w w' := by
  have hB := BW_below w p q
  obtain ⟨⟨a0, a1, a2⟩, a3, a4, a5⟩ := BW_cells w p q
  have HB : Hid (Below w.heap.size w (BW w p q)) := hB
  have hsz := BW_size w p q
  have HZ : Hid ((BW w p q).heap[w.heap.size + 2]? = some (.cells #[.int .i64 0, .int .u32 0, .int .i64 0] TV (0, 0))) := BW_heap w p q
  have cu := fun Y => undefined_c Y
  have tb : (p.block != q.block) = false := by simpa using heq
  have o2 : (op == 2) = true := by simpa using ho

  clear hB heq ho
  obtain ⟨Wz, hW⟩ : ∃ Wz, Wz = BW w p q := ⟨_, rfl⟩
  go_enter Try.func26, Try.ntmps26
  go_upto_region 1 with (fail)
  refine (?_ : Code.wp _ _ _ _ (BW w p q))
  rw [← hW] at a0 a1 a2 a3 a4 a5 HB hsz HZ ⊢
  clear hW
  go_wp2_with fail
  refine (cC _).mono ?_; rintro e w9 ⟨rfl, hb9⟩
  have HBZ : Hid (Below w.heap.size w w9) := HB.out.trans (hb9.mono HB.out.size)
  obtain ⟨tf, t0, t1, t2⟩ := zero_facts ((hb9.block _ (lt_of_heap HZ.out)).trans HZ.out)
  have hl3 : w.heap.size + 2 < w9.heap.size := World.block_lt_of_cell? w9 _ t0
  clear hb9 cu
  go_wp2
  exact bodyPost_ret (v := .tuple #[.agg #[.int .i64 r.kind, .int .u32 r.v, .int .i64 r.block], .int .i64 st]) (by simp [results, Try.results26, go_sem, t0, t1, t2]) rfl ⟨rfl, (by repeat (first | exact HBZ.out | refine Below.setCell ?_ (by simp <;> omega) _ | refine Below.alloc ?_ (by have := HBZ.out.size; simp; omega) _))⟩
set_option maxHeartbeats 4000000 in
theorem pp_14 (p q : Vl) (op : Int) (heq : p.block = q.block) (ho : op = 14) (r : Vl) (st : Int) (cC : ∀ Y, Calls Try.prog 25 #[.int .i64 op, .int .u32 p.v, .int .u32 q.v] Y fun e w' => e = .returned (.tuple #[.agg #[.int .i64 r.kind, .int .u32 r.v, .int .i64 r.block], .int .i64 st]) ∧ Below Y.heap.size Y w') :
    Calls Try.prog 26 #[.pointer (some ⟨b, 0, none⟩), .int .i64 op, .agg #[.int .i64 p.kind, .int .u32 p.v, .int .i64 p.block], .agg #[.int .i64 q.kind, .int .u32 q.v, .int .i64 q.block]] w fun e w' => e = .returned (.tuple #[.agg #[.int .i64 r.kind, .int .u32 r.v, .int .i64 r.block], .int .i64 st]) ∧ Below w.heap.size w w' := by
  have hB := BW_below w p q
  obtain ⟨⟨a0, a1, a2⟩, a3, a4, a5⟩ := BW_cells w p q
  have HB : Hid (Below w.heap.size w (BW w p q)) := hB
  have hsz := BW_size w p q
  have HZ : Hid ((BW w p q).heap[w.heap.size + 2]? = some (.cells #[.int .i64 0, .int .u32 0, .int .i64 0] TV (0, 0))) := BW_heap w p q
  have cu := fun Y => undefined_c Y
  have tb : (p.block != q.block) = false := by simpa using heq
  have o2 : (op == 2) = false := by simp; omega
  have o14 : (op == 14) = true := by simpa using ho

  clear hB heq ho
  obtain ⟨Wz, hW⟩ : ∃ Wz, Wz = BW w p q := ⟨_, rfl⟩
  go_enter Try.func26, Try.ntmps26
  go_upto_region 1 with (fail)
  refine (?_ : Code.wp _ _ _ _ (BW w p q))
  rw [← hW] at a0 a1 a2 a3 a4 a5 HB hsz HZ ⊢
  clear hW
  go_wp2_with fail
  refine (cC _).mono ?_; rintro e w9 ⟨rfl, hb9⟩
  have HBZ : Hid (Below w.heap.size w w9) := HB.out.trans (hb9.mono HB.out.size)
  obtain ⟨tf, t0, t1, t2⟩ := zero_facts ((hb9.block _ (lt_of_heap HZ.out)).trans HZ.out)
  have hl3 : w.heap.size + 2 < w9.heap.size := World.block_lt_of_cell? w9 _ t0
  clear hb9 cu
  go_wp2
  exact bodyPost_ret (v := .tuple #[.agg #[.int .i64 r.kind, .int .u32 r.v, .int .i64 r.block], .int .i64 st]) (by simp [results, Try.results26, go_sem, t0, t1, t2]) rfl ⟨rfl, (by repeat (first | exact HBZ.out | refine Below.setCell ?_ (by simp <;> omega) _ | refine Below.alloc ?_ (by have := HBZ.out.size; simp; omega) _))⟩
set_option maxHeartbeats 4000000 in
theorem pp_15 (p q : Vl) (op : Int) (heq : p.block = q.block) (ho : op = 15) (r : Vl) (st : Int) (cC : ∀ Y, Calls Try.prog 25 #[.int .i64 op, .int .u32 p.v, .int .u32 q.v] Y fun e w' => e = .returned (.tuple #[.agg #[.int .i64 r.kind, .int .u32 r.v, .int .i64 r.block], .int .i64 st]) ∧ Below Y.heap.size Y w') :
    Calls Try.prog 26 #[.pointer (some ⟨b, 0, none⟩), .int .i64 op, .agg #[.int .i64 p.kind, .int .u32 p.v, .int .i64 p.block], .agg #[.int .i64 q.kind, .int .u32 q.v, .int .i64 q.block]] w fun e w' => e = .returned (.tuple #[.agg #[.int .i64 r.kind, .int .u32 r.v, .int .i64 r.block], .int .i64 st]) ∧ Below w.heap.size w w' := by
  have hB := BW_below w p q
  obtain ⟨⟨a0, a1, a2⟩, a3, a4, a5⟩ := BW_cells w p q
  have HB : Hid (Below w.heap.size w (BW w p q)) := hB
  have hsz := BW_size w p q
  have HZ : Hid ((BW w p q).heap[w.heap.size + 2]? = some (.cells #[.int .i64 0, .int .u32 0, .int .i64 0] TV (0, 0))) := BW_heap w p q
  have cu := fun Y => undefined_c Y
  have tb : (p.block != q.block) = false := by simpa using heq
  have o2 : (op == 2) = false := by simp; omega
  have o14 : (op == 14) = false := by simp; omega
  have o15 : (op == 15) = true := by simpa using ho

  clear hB heq ho
  obtain ⟨Wz, hW⟩ : ∃ Wz, Wz = BW w p q := ⟨_, rfl⟩
  go_enter Try.func26, Try.ntmps26
  go_upto_region 1 with (fail)
  refine (?_ : Code.wp _ _ _ _ (BW w p q))
  rw [← hW] at a0 a1 a2 a3 a4 a5 HB hsz HZ ⊢
  clear hW
  go_wp2_with fail
  refine (cC _).mono ?_; rintro e w9 ⟨rfl, hb9⟩
  have HBZ : Hid (Below w.heap.size w w9) := HB.out.trans (hb9.mono HB.out.size)
  obtain ⟨tf, t0, t1, t2⟩ := zero_facts ((hb9.block _ (lt_of_heap HZ.out)).trans HZ.out)
  have hl3 : w.heap.size + 2 < w9.heap.size := World.block_lt_of_cell? w9 _ t0
  clear hb9 cu
  go_wp2
  exact bodyPost_ret (v := .tuple #[.agg #[.int .i64 r.kind, .int .u32 r.v, .int .i64 r.block], .int .i64 st]) (by simp [results, Try.results26, go_sem, t0, t1, t2]) rfl ⟨rfl, (by repeat (first | exact HBZ.out | refine Below.setCell ?_ (by simp <;> omega) _ | refine Below.alloc ?_ (by have := HBZ.out.size; simp; omega) _))⟩
set_option maxHeartbeats 4000000 in
theorem pp_16 (p q : Vl) (op : Int) (heq : p.block = q.block) (ho : op = 16) (r : Vl) (st : Int) (cC : ∀ Y, Calls Try.prog 25 #[.int .i64 op, .int .u32 p.v, .int .u32 q.v] Y fun e w' => e = .returned (.tuple #[.agg #[.int .i64 r.kind, .int .u32 r.v, .int .i64 r.block], .int .i64 st]) ∧ Below Y.heap.size Y w') :
    Calls Try.prog 26 #[.pointer (some ⟨b, 0, none⟩), .int .i64 op, .agg #[.int .i64 p.kind, .int .u32 p.v, .int .i64 p.block], .agg #[.int .i64 q.kind, .int .u32 q.v, .int .i64 q.block]] w fun e w' => e = .returned (.tuple #[.agg #[.int .i64 r.kind, .int .u32 r.v, .int .i64 r.block], .int .i64 st]) ∧ Below w.heap.size w w' := by
  have hB := BW_below w p q
  obtain ⟨⟨a0, a1, a2⟩, a3, a4, a5⟩ := BW_cells w p q
  have HB : Hid (Below w.heap.size w (BW w p q)) := hB
  have hsz := BW_size w p q
  have HZ : Hid ((BW w p q).heap[w.heap.size + 2]? = some (.cells #[.int .i64 0, .int .u32 0, .int .i64 0] TV (0, 0))) := BW_heap w p q
  have cu := fun Y => undefined_c Y
  have tb : (p.block != q.block) = false := by simpa using heq
  have o2 : (op == 2) = false := by simp; omega
  have o14 : (op == 14) = false := by simp; omega
  have o15 : (op == 15) = false := by simp; omega
  have o16 : (op == 16) = true := by simpa using ho

  clear hB heq ho
  obtain ⟨Wz, hW⟩ : ∃ Wz, Wz = BW w p q := ⟨_, rfl⟩
  go_enter Try.func26, Try.ntmps26
  go_upto_region 1 with (fail)
  refine (?_ : Code.wp _ _ _ _ (BW w p q))
  rw [← hW] at a0 a1 a2 a3 a4 a5 HB hsz HZ ⊢
  clear hW
  go_wp2_with fail
  refine (cC _).mono ?_; rintro e w9 ⟨rfl, hb9⟩
  have HBZ : Hid (Below w.heap.size w w9) := HB.out.trans (hb9.mono HB.out.size)
  obtain ⟨tf, t0, t1, t2⟩ := zero_facts ((hb9.block _ (lt_of_heap HZ.out)).trans HZ.out)
  have hl3 : w.heap.size + 2 < w9.heap.size := World.block_lt_of_cell? w9 _ t0
  clear hb9 cu
  go_wp2
  exact bodyPost_ret (v := .tuple #[.agg #[.int .i64 r.kind, .int .u32 r.v, .int .i64 r.block], .int .i64 st]) (by simp [results, Try.results26, go_sem, t0, t1, t2]) rfl ⟨rfl, (by repeat (first | exact HBZ.out | refine Below.setCell ?_ (by simp <;> omega) _ | refine Below.alloc ?_ (by have := HBZ.out.size; simp; omega) _))⟩
set_option maxHeartbeats 4000000 in
theorem pp_17 (p q : Vl) (op : Int) (heq : p.block = q.block) (ho : op = 17) (r : Vl) (st : Int) (cC : ∀ Y, Calls Try.prog 25 #[.int .i64 op, .int .u32 p.v, .int .u32 q.v] Y fun e w' => e = .returned (.tuple #[.agg #[.int .i64 r.kind, .int .u32 r.v, .int .i64 r.block], .int .i64 st]) ∧ Below Y.heap.size Y w') :
    Calls Try.prog 26 #[.pointer (some ⟨b, 0, none⟩), .int .i64 op, .agg #[.int .i64 p.kind, .int .u32 p.v, .int .i64 p.block], .agg #[.int .i64 q.kind, .int .u32 q.v, .int .i64 q.block]] w fun e w' => e = .returned (.tuple #[.agg #[.int .i64 r.kind, .int .u32 r.v, .int .i64 r.block], .int .i64 st]) ∧ Below w.heap.size w w' := by
  have hB := BW_below w p q
  obtain ⟨⟨a0, a1, a2⟩, a3, a4, a5⟩ := BW_cells w p q
  have HB : Hid (Below w.heap.size w (BW w p q)) := hB
  have hsz := BW_size w p q
  have HZ : Hid ((BW w p q).heap[w.heap.size + 2]? = some (.cells #[.int .i64 0, .int .u32 0, .int .i64 0] TV (0, 0))) := BW_heap w p q
  have cu := fun Y => undefined_c Y
  have tb : (p.block != q.block) = false := by simpa using heq
  have o2 : (op == 2) = false := by simp; omega
  have o14 : (op == 14) = false := by simp; omega
  have o15 : (op == 15) = false := by simp; omega
  have o16 : (op == 16) = false := by simp; omega
  have o17 : (op == 17) = true := by simpa using ho

  clear hB heq ho
  obtain ⟨Wz, hW⟩ : ∃ Wz, Wz = BW w p q := ⟨_, rfl⟩
  go_enter Try.func26, Try.ntmps26
  go_upto_region 1 with (fail)
  refine (?_ : Code.wp _ _ _ _ (BW w p q))
  rw [← hW] at a0 a1 a2 a3 a4 a5 HB hsz HZ ⊢
  clear hW
  go_wp2_with fail
  refine (cC _).mono ?_; rintro e w9 ⟨rfl, hb9⟩
  have HBZ : Hid (Below w.heap.size w w9) := HB.out.trans (hb9.mono HB.out.size)
  obtain ⟨tf, t0, t1, t2⟩ := zero_facts ((hb9.block _ (lt_of_heap HZ.out)).trans HZ.out)
  have hl3 : w.heap.size + 2 < w9.heap.size := World.block_lt_of_cell? w9 _ t0
  clear hb9 cu
  go_wp2
  exact bodyPost_ret (v := .tuple #[.agg #[.int .i64 r.kind, .int .u32 r.v, .int .i64 r.block], .int .i64 st]) (by simp [results, Try.results26, go_sem, t0, t1, t2]) rfl ⟨rfl, (by repeat (first | exact HBZ.out | refine Below.setCell ?_ (by simp <;> omega) _ | refine Below.alloc ?_ (by have := HBZ.out.size; simp; omega) _))⟩
set_option maxHeartbeats 4000000 in
theorem pp_18 (p q : Vl) (op : Int) (heq : p.block = q.block) (ho : op = 18) (r : Vl) (st : Int) (cC : ∀ Y, Calls Try.prog 25 #[.int .i64 op, .int .u32 p.v, .int .u32 q.v] Y fun e w' => e = .returned (.tuple #[.agg #[.int .i64 r.kind, .int .u32 r.v, .int .i64 r.block], .int .i64 st]) ∧ Below Y.heap.size Y w') :
    Calls Try.prog 26 #[.pointer (some ⟨b, 0, none⟩), .int .i64 op, .agg #[.int .i64 p.kind, .int .u32 p.v, .int .i64 p.block], .agg #[.int .i64 q.kind, .int .u32 q.v, .int .i64 q.block]] w fun e w' => e = .returned (.tuple #[.agg #[.int .i64 r.kind, .int .u32 r.v, .int .i64 r.block], .int .i64 st]) ∧ Below w.heap.size w w' := by
  have hB := BW_below w p q
  obtain ⟨⟨a0, a1, a2⟩, a3, a4, a5⟩ := BW_cells w p q
  have HB : Hid (Below w.heap.size w (BW w p q)) := hB
  have hsz := BW_size w p q
  have HZ : Hid ((BW w p q).heap[w.heap.size + 2]? = some (.cells #[.int .i64 0, .int .u32 0, .int .i64 0] TV (0, 0))) := BW_heap w p q
  have cu := fun Y => undefined_c Y
  have tb : (p.block != q.block) = false := by simpa using heq
  have o2 : (op == 2) = false := by simp; omega
  have o14 : (op == 14) = false := by simp; omega
  have o15 : (op == 15) = false := by simp; omega
  have o16 : (op == 16) = false := by simp; omega
  have o17 : (op == 17) = false := by simp; omega
  have o18 : (op == 18) = true := by simpa using ho

  clear hB heq ho
  obtain ⟨Wz, hW⟩ : ∃ Wz, Wz = BW w p q := ⟨_, rfl⟩
  go_enter Try.func26, Try.ntmps26
  go_upto_region 1 with (fail)
  refine (?_ : Code.wp _ _ _ _ (BW w p q))
  rw [← hW] at a0 a1 a2 a3 a4 a5 HB hsz HZ ⊢
  clear hW
  go_wp2_with fail
  refine (cC _).mono ?_; rintro e w9 ⟨rfl, hb9⟩
  have HBZ : Hid (Below w.heap.size w w9) := HB.out.trans (hb9.mono HB.out.size)
  obtain ⟨tf, t0, t1, t2⟩ := zero_facts ((hb9.block _ (lt_of_heap HZ.out)).trans HZ.out)
  have hl3 : w.heap.size + 2 < w9.heap.size := World.block_lt_of_cell? w9 _ t0
  clear hb9 cu
  go_wp2
  exact bodyPost_ret (v := .tuple #[.agg #[.int .i64 r.kind, .int .u32 r.v, .int .i64 r.block], .int .i64 st]) (by simp [results, Try.results26, go_sem, t0, t1, t2]) rfl ⟨rfl, (by repeat (first | exact HBZ.out | refine Below.setCell ?_ (by simp <;> omega) _ | refine Below.alloc ?_ (by have := HBZ.out.size; simp; omega) _))⟩
set_option maxHeartbeats 4000000 in
theorem pp_19 (p q : Vl) (op : Int) (heq : p.block = q.block) (ho : op = 19) (r : Vl) (st : Int) (cC : ∀ Y, Calls Try.prog 25 #[.int .i64 op, .int .u32 p.v, .int .u32 q.v] Y fun e w' => e = .returned (.tuple #[.agg #[.int .i64 r.kind, .int .u32 r.v, .int .i64 r.block], .int .i64 st]) ∧ Below Y.heap.size Y w') :
    Calls Try.prog 26 #[.pointer (some ⟨b, 0, none⟩), .int .i64 op, .agg #[.int .i64 p.kind, .int .u32 p.v, .int .i64 p.block], .agg #[.int .i64 q.kind, .int .u32 q.v, .int .i64 q.block]] w fun e w' => e = .returned (.tuple #[.agg #[.int .i64 r.kind, .int .u32 r.v, .int .i64 r.block], .int .i64 st]) ∧ Below w.heap.size w w' := by
  have hB := BW_below w p q
  obtain ⟨⟨a0, a1, a2⟩, a3, a4, a5⟩ := BW_cells w p q
  have HB : Hid (Below w.heap.size w (BW w p q)) := hB
  have hsz := BW_size w p q
  have HZ : Hid ((BW w p q).heap[w.heap.size + 2]? = some (.cells #[.int .i64 0, .int .u32 0, .int .i64 0] TV (0, 0))) := BW_heap w p q
  have cu := fun Y => undefined_c Y
  have tb : (p.block != q.block) = false := by simpa using heq
  have o2 : (op == 2) = false := by simp; omega
  have o14 : (op == 14) = false := by simp; omega
  have o15 : (op == 15) = false := by simp; omega
  have o16 : (op == 16) = false := by simp; omega
  have o17 : (op == 17) = false := by simp; omega
  have o18 : (op == 18) = false := by simp; omega
  have o19 : (op == 19) = true := by simpa using ho

  clear hB heq ho
  obtain ⟨Wz, hW⟩ : ∃ Wz, Wz = BW w p q := ⟨_, rfl⟩
  go_enter Try.func26, Try.ntmps26
  go_upto_region 1 with (fail)
  refine (?_ : Code.wp _ _ _ _ (BW w p q))
  rw [← hW] at a0 a1 a2 a3 a4 a5 HB hsz HZ ⊢
  clear hW
  go_wp2_with fail
  refine (cC _).mono ?_; rintro e w9 ⟨rfl, hb9⟩
  have HBZ : Hid (Below w.heap.size w w9) := HB.out.trans (hb9.mono HB.out.size)
  obtain ⟨tf, t0, t1, t2⟩ := zero_facts ((hb9.block _ (lt_of_heap HZ.out)).trans HZ.out)
  have hl3 : w.heap.size + 2 < w9.heap.size := World.block_lt_of_cell? w9 _ t0
  clear hb9 cu
  go_wp2
  exact bodyPost_ret (v := .tuple #[.agg #[.int .i64 r.kind, .int .u32 r.v, .int .i64 r.block], .int .i64 st]) (by simp [results, Try.results26, go_sem, t0, t1, t2]) rfl ⟨rfl, (by repeat (first | exact HBZ.out | refine Below.setCell ?_ (by simp <;> omega) _ | refine Below.alloc ?_ (by have := HBZ.out.size; simp; omega) _))⟩
end
end Go.Proofs.Ytigiahcfcglacaa
