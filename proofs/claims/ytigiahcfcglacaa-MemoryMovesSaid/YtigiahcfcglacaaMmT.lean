/-
  Bin, by what it calls.
-/
import Derived.Test.YtigiahcfcglacaaMmS
namespace Go.Proofs.Ytigiahcfcglacaa
open Go.RowKit Go.Maps
set_option linter.unusedVariables false
set_option maxRecDepth 100000
section
variable {w : World} {b : Nat} {xs : List (Option Bx)} {P : Nat → Prop}
def BW (w : World) (p q : Vl) : World := (box2 w p q).alloc (.cells #[.int .i64 0, .int .u32 0, .int .i64 0] TV)
theorem BW_below (w : World) (p q : Vl) : Below w.heap.size w (BW w p q) := (box2_below w p q).alloc (box2_below w p q).size _
theorem BW_size (w : World) (p q : Vl) : (BW w p q).heap.size = w.heap.size + 3 := by simp [BW, box2_size]
theorem BW_heap (w : World) (p q : Vl) : (BW w p q).heap[w.heap.size + 2]? = some (.cells #[.int .i64 0, .int .u32 0, .int .i64 0] TV (0, 0)) := by
  have := heap_r0 (box2 w p q) (.cells #[.int .i64 0, .int .u32 0, .int .i64 0] TV)
  rw [box2_size] at this
  exact this
theorem BW_cells (w : World) (p q : Vl) : ((BW w p q).cell? ⟨w.heap.size, 0, none⟩ = some (.int .i64 p.kind) ∧ (BW w p q).cell? ⟨w.heap.size, 1, none⟩ = some (.int .u32 p.v) ∧ (BW w p q).cell? ⟨w.heap.size, 2, none⟩ = some (.int .i64 p.block)) ∧
    (BW w p q).cell? ⟨w.heap.size + 1, 0, none⟩ = some (.int .i64 q.kind) ∧ (BW w p q).cell? ⟨w.heap.size + 1, 1, none⟩ = some (.int .u32 q.v) ∧ (BW w p q).cell? ⟨w.heap.size + 1, 2, none⟩ = some (.int .i64 q.block) := by
  obtain ⟨⟨a0, a1, a2⟩, a3, a4, a5⟩ := box2_cells w p q
  have hb : Below (box2 w p q).heap.size (box2 w p q) (BW w p q) := (Below.refl _ _).alloc (Nat.le_refl _) _
  have hs := box2_size w p q
  exact ⟨⟨(hb.cell (p := ⟨w.heap.size, 0, none⟩) (by simp; omega)).trans a0, (hb.cell (p := ⟨w.heap.size, 1, none⟩) (by simp; omega)).trans a1, (hb.cell (p := ⟨w.heap.size, 2, none⟩) (by simp; omega)).trans a2⟩, (hb.cell (p := ⟨w.heap.size + 1, 0, none⟩) (by simp; omega)).trans a3, (hb.cell (p := ⟨w.heap.size + 1, 1, none⟩) (by simp; omega)).trans a4, (hb.cell (p := ⟨w.heap.size + 1, 2, none⟩) (by simp; omega)).trans a5⟩
set_option maxHeartbeats 4000000 in
theorem bin_op1 (h : MemX w b xs P) (p q : Vl) (op : Int) (hp : VlOK p) (hq : VlOK q) (ho : op < 1) :
    Calls Try.prog 10 #[.pointer (some ⟨b, 0, none⟩), .int .i64 op, .agg #[.int .i64 p.kind, .int .u32 p.v, .int .i64 p.block], .agg #[.int .i64 q.kind, .int .u32 q.v, .int .i64 q.block]] w fun e w' => e = .returned (.tuple #[.agg #[.int .i64 0, .int .u32 0, .int .i64 0], .int .i64 3]) ∧ Below w.heap.size w w' := by
  have hB := BW_below w p q
  obtain ⟨⟨a0, a1, a2⟩, a3, a4, a5⟩ := BW_cells w p q
  have HB : Hid (Below w.heap.size w (BW w p q)) := hB
  have hsz := BW_size w p q
  have HZ : Hid ((BW w p q).heap[w.heap.size + 2]? = some (.cells #[.int .i64 0, .int .u32 0, .int .i64 0] TV (0, 0))) := BW_heap w p q
  have cu := fun Y => undefined_c Y
  have cU1 := fun Y (hY : Below w.heap.size w Y) => usable_c (h.keptB hY) p hp
  have cU2 := fun Y (hY : Below w.heap.size w Y) => usable_c (h.keptB hY) q hq
  have n2 := not_t
  have n3 := not_f
  have o1 : decide (op < 1) = true := by simpa using ho
  clear hB h ho
  obtain ⟨Wz, hW⟩ : ∃ Wz, Wz = BW w p q := ⟨_, rfl⟩
  go_enter Try.func10, Try.ntmps10
  go_upto_region 1 with (fail)
  refine (?_ : Code.wp _ _ _ _ (BW w p q))
  rw [← hW] at a0 a1 a2 a3 a4 a5 HB hsz HZ ⊢
  clear hW
  go_wp2_with fail
  refine (cu _).mono ?_; rintro e w9 ⟨rfl, hb9⟩
  have HBZ : Hid (Below w.heap.size w w9) := HB.out.trans (hb9.mono HB.out.size)
  obtain ⟨tf, t0, t1, t2⟩ := zero_facts ((hb9.block _ (lt_of_heap HZ.out)).trans HZ.out)
  have hl3 : w.heap.size + 2 < w9.heap.size := World.block_lt_of_cell? w9 _ t0
  clear hb9 cu
  go_wp2
  exact bodyPost_ret (v := .tuple #[.agg #[.int .i64 0, .int .u32 0, .int .i64 0], .int .i64 3]) (by simp [results, Try.results10, go_sem, t0, t1, t2]) rfl ⟨rfl, (by repeat (first | exact HBZ.out | refine Below.setCell ?_ (by simp <;> omega) _ | refine Below.alloc ?_ (by have := HBZ.out.size; simp; omega) _))⟩
set_option maxHeartbeats 4000000 in
theorem bin_op2 (h : MemX w b xs P) (p q : Vl) (op : Int) (hp : VlOK p) (hq : VlOK q) (ho : 19 < op) :
    Calls Try.prog 10 #[.pointer (some ⟨b, 0, none⟩), .int .i64 op, .agg #[.int .i64 p.kind, .int .u32 p.v, .int .i64 p.block], .agg #[.int .i64 q.kind, .int .u32 q.v, .int .i64 q.block]] w fun e w' => e = .returned (.tuple #[.agg #[.int .i64 0, .int .u32 0, .int .i64 0], .int .i64 3]) ∧ Below w.heap.size w w' := by
  have hB := BW_below w p q
  obtain ⟨⟨a0, a1, a2⟩, a3, a4, a5⟩ := BW_cells w p q
  have HB : Hid (Below w.heap.size w (BW w p q)) := hB
  have hsz := BW_size w p q
  have HZ : Hid ((BW w p q).heap[w.heap.size + 2]? = some (.cells #[.int .i64 0, .int .u32 0, .int .i64 0] TV (0, 0))) := BW_heap w p q
  have cu := fun Y => undefined_c Y
  have cU1 := fun Y (hY : Below w.heap.size w Y) => usable_c (h.keptB hY) p hp
  have cU2 := fun Y (hY : Below w.heap.size w Y) => usable_c (h.keptB hY) q hq
  have n2 := not_t
  have n3 := not_f
  have o1 : decide (op < 1) = false := by simp; omega
  have o2 : decide (19 < op) = true := by simpa using ho
  clear hB h ho
  obtain ⟨Wz, hW⟩ : ∃ Wz, Wz = BW w p q := ⟨_, rfl⟩
  go_enter Try.func10, Try.ntmps10
  go_upto_region 1 with (fail)
  refine (?_ : Code.wp _ _ _ _ (BW w p q))
  rw [← hW] at a0 a1 a2 a3 a4 a5 HB hsz HZ ⊢
  clear hW
  go_wp2_with fail
  refine (cu _).mono ?_; rintro e w9 ⟨rfl, hb9⟩
  have HBZ : Hid (Below w.heap.size w w9) := HB.out.trans (hb9.mono HB.out.size)
  obtain ⟨tf, t0, t1, t2⟩ := zero_facts ((hb9.block _ (lt_of_heap HZ.out)).trans HZ.out)
  have hl3 : w.heap.size + 2 < w9.heap.size := World.block_lt_of_cell? w9 _ t0
  clear hb9 cu
  go_wp2
  exact bodyPost_ret (v := .tuple #[.agg #[.int .i64 0, .int .u32 0, .int .i64 0], .int .i64 3]) (by simp [results, Try.results10, go_sem, t0, t1, t2]) rfl ⟨rfl, (by repeat (first | exact HBZ.out | refine Below.setCell ?_ (by simp <;> omega) _ | refine Below.alloc ?_ (by have := HBZ.out.size; simp; omega) _))⟩
set_option maxHeartbeats 4000000 in
theorem bin_ua (h : MemX w b xs P) (p q : Vl) (op : Int) (hp : VlOK p) (hq : VlOK q) (ho1 : 1 ≤ op) (ho2 : op ≤ 19) (hu : usX xs p = false) :
    Calls Try.prog 10 #[.pointer (some ⟨b, 0, none⟩), .int .i64 op, .agg #[.int .i64 p.kind, .int .u32 p.v, .int .i64 p.block], .agg #[.int .i64 q.kind, .int .u32 q.v, .int .i64 q.block]] w fun e w' => e = .returned (.tuple #[.agg #[.int .i64 0, .int .u32 0, .int .i64 0], .int .i64 3]) ∧ Below w.heap.size w w' := by
  have hB := BW_below w p q
  obtain ⟨⟨a0, a1, a2⟩, a3, a4, a5⟩ := BW_cells w p q
  have HB : Hid (Below w.heap.size w (BW w p q)) := hB
  have hsz := BW_size w p q
  have HZ : Hid ((BW w p q).heap[w.heap.size + 2]? = some (.cells #[.int .i64 0, .int .u32 0, .int .i64 0] TV (0, 0))) := BW_heap w p q
  have cu := fun Y => undefined_c Y
  have cU1 := fun Y (hY : Below w.heap.size w Y) => usable_c (h.keptB hY) p hp
  have cU2 := fun Y (hY : Below w.heap.size w Y) => usable_c (h.keptB hY) q hq
  have n2 := not_t
  have n3 := not_f
  have o1 : decide (op < 1) = false := by simp; omega
  have o2 : decide (19 < op) = false := by simp; omega
  simp only [hu] at cU1
  clear hB h hu
  obtain ⟨Wz, hW⟩ : ∃ Wz, Wz = BW w p q := ⟨_, rfl⟩
  go_enter Try.func10, Try.ntmps10
  go_upto_region 1 with (fail)
  refine (?_ : Code.wp _ _ _ _ (BW w p q))
  rw [← hW] at a0 a1 a2 a3 a4 a5 HB hsz HZ ⊢
  clear hW
  go_wp2_with fail
  refine (cU1 _ HB.out).mono ?_; rintro e w1 ⟨rfl, hb1⟩
  have HB1 : Hid (Below w.heap.size w w1) := HB.out.trans (hb1.mono HB.out.size)
  have HZ1 : Hid (w1.heap[w.heap.size + 2]? = some (.cells #[.int .i64 0, .int .u32 0, .int .i64 0] TV (0, 0))) := (hb1.block _ (lt_of_heap HZ.out)).trans HZ.out
  have b0 := (hb1.cell (p := ⟨w.heap.size, 0, none⟩) (by have := lt_of_heap HZ.out; simp; omega)).trans a0
  have b1 := (hb1.cell (p := ⟨w.heap.size, 1, none⟩) (by have := lt_of_heap HZ.out; simp; omega)).trans a1
  have b2 := (hb1.cell (p := ⟨w.heap.size, 2, none⟩) (by have := lt_of_heap HZ.out; simp; omega)).trans a2
  have b3 := (hb1.cell (p := ⟨w.heap.size + 1, 0, none⟩) (by have := lt_of_heap HZ.out; simp; omega)).trans a3
  have b4 := (hb1.cell (p := ⟨w.heap.size + 1, 1, none⟩) (by have := lt_of_heap HZ.out; simp; omega)).trans a4
  have b5 := (hb1.cell (p := ⟨w.heap.size + 1, 2, none⟩) (by have := lt_of_heap HZ.out; simp; omega)).trans a5
  clear hb1 cU1
  go_wp2_with fail
  refine (cu _).mono ?_; rintro e w9 ⟨rfl, hb9⟩
  have HBZ : Hid (Below w.heap.size w w9) := HB1.out.trans (hb9.mono HB1.out.size)
  obtain ⟨tf, t0, t1, t2⟩ := zero_facts ((hb9.block _ (lt_of_heap HZ1.out)).trans HZ1.out)
  have hl3 : w.heap.size + 2 < w9.heap.size := World.block_lt_of_cell? w9 _ t0
  clear hb9 cu
  go_wp2
  exact bodyPost_ret (v := .tuple #[.agg #[.int .i64 0, .int .u32 0, .int .i64 0], .int .i64 3]) (by simp [results, Try.results10, go_sem, t0, t1, t2]) rfl ⟨rfl, (by repeat (first | exact HBZ.out | refine Below.setCell ?_ (by simp <;> omega) _ | refine Below.alloc ?_ (by have := HBZ.out.size; simp; omega) _))⟩
set_option maxHeartbeats 4000000 in
theorem bin_ub (h : MemX w b xs P) (p q : Vl) (op : Int) (hp : VlOK p) (hq : VlOK q) (ho1 : 1 ≤ op) (ho2 : op ≤ 19) (hu : usX xs p = true) (hu2 : usX xs q = false) :
    Calls Try.prog 10 #[.pointer (some ⟨b, 0, none⟩), .int .i64 op, .agg #[.int .i64 p.kind, .int .u32 p.v, .int .i64 p.block], .agg #[.int .i64 q.kind, .int .u32 q.v, .int .i64 q.block]] w fun e w' => e = .returned (.tuple #[.agg #[.int .i64 0, .int .u32 0, .int .i64 0], .int .i64 3]) ∧ Below w.heap.size w w' := by
  have hB := BW_below w p q
  obtain ⟨⟨a0, a1, a2⟩, a3, a4, a5⟩ := BW_cells w p q
  have HB : Hid (Below w.heap.size w (BW w p q)) := hB
  have hsz := BW_size w p q
  have HZ : Hid ((BW w p q).heap[w.heap.size + 2]? = some (.cells #[.int .i64 0, .int .u32 0, .int .i64 0] TV (0, 0))) := BW_heap w p q
  have cu := fun Y => undefined_c Y
  have cU1 := fun Y (hY : Below w.heap.size w Y) => usable_c (h.keptB hY) p hp
  have cU2 := fun Y (hY : Below w.heap.size w Y) => usable_c (h.keptB hY) q hq
  have n2 := not_t
  have n3 := not_f
  have o1 : decide (op < 1) = false := by simp; omega
  have o2 : decide (19 < op) = false := by simp; omega
  simp only [hu] at cU1
  simp only [hu2] at cU2
  clear hB h hu hu2
  obtain ⟨Wz, hW⟩ : ∃ Wz, Wz = BW w p q := ⟨_, rfl⟩
  go_enter Try.func10, Try.ntmps10
  go_upto_region 1 with (fail)
  refine (?_ : Code.wp _ _ _ _ (BW w p q))
  rw [← hW] at a0 a1 a2 a3 a4 a5 HB hsz HZ ⊢
  clear hW
  go_wp2_with fail
  refine (cU1 _ HB.out).mono ?_; rintro e w1 ⟨rfl, hb1⟩
  have HB1 : Hid (Below w.heap.size w w1) := HB.out.trans (hb1.mono HB.out.size)
  have HZ1 : Hid (w1.heap[w.heap.size + 2]? = some (.cells #[.int .i64 0, .int .u32 0, .int .i64 0] TV (0, 0))) := (hb1.block _ (lt_of_heap HZ.out)).trans HZ.out
  have b0 := (hb1.cell (p := ⟨w.heap.size, 0, none⟩) (by have := lt_of_heap HZ.out; simp; omega)).trans a0
  have b1 := (hb1.cell (p := ⟨w.heap.size, 1, none⟩) (by have := lt_of_heap HZ.out; simp; omega)).trans a1
  have b2 := (hb1.cell (p := ⟨w.heap.size, 2, none⟩) (by have := lt_of_heap HZ.out; simp; omega)).trans a2
  have b3 := (hb1.cell (p := ⟨w.heap.size + 1, 0, none⟩) (by have := lt_of_heap HZ.out; simp; omega)).trans a3
  have b4 := (hb1.cell (p := ⟨w.heap.size + 1, 1, none⟩) (by have := lt_of_heap HZ.out; simp; omega)).trans a4
  have b5 := (hb1.cell (p := ⟨w.heap.size + 1, 2, none⟩) (by have := lt_of_heap HZ.out; simp; omega)).trans a5
  clear hb1 cU1
  go_wp2_with fail
  refine (cU2 _ HB1.out).mono ?_; rintro e w2 ⟨rfl, hb2⟩
  have HB2 : Hid (Below w.heap.size w w2) := HB1.out.trans (hb2.mono HB1.out.size)
  have HZ2 : Hid (w2.heap[w.heap.size + 2]? = some (.cells #[.int .i64 0, .int .u32 0, .int .i64 0] TV (0, 0))) := (hb2.block _ (lt_of_heap HZ1.out)).trans HZ1.out
  have c0 := (hb2.cell (p := ⟨w.heap.size, 0, none⟩) (by have := lt_of_heap HZ1.out; simp; omega)).trans b0
  have c1 := (hb2.cell (p := ⟨w.heap.size, 1, none⟩) (by have := lt_of_heap HZ1.out; simp; omega)).trans b1
  have c2 := (hb2.cell (p := ⟨w.heap.size, 2, none⟩) (by have := lt_of_heap HZ1.out; simp; omega)).trans b2
  have c3 := (hb2.cell (p := ⟨w.heap.size + 1, 0, none⟩) (by have := lt_of_heap HZ1.out; simp; omega)).trans b3
  have c4 := (hb2.cell (p := ⟨w.heap.size + 1, 1, none⟩) (by have := lt_of_heap HZ1.out; simp; omega)).trans b4
  have c5 := (hb2.cell (p := ⟨w.heap.size + 1, 2, none⟩) (by have := lt_of_heap HZ1.out; simp; omega)).trans b5
  clear hb2 cU2
  go_wp2_with fail
  refine (cu _).mono ?_; rintro e w9 ⟨rfl, hb9⟩
  have HBZ : Hid (Below w.heap.size w w9) := HB2.out.trans (hb9.mono HB2.out.size)
  obtain ⟨tf, t0, t1, t2⟩ := zero_facts ((hb9.block _ (lt_of_heap HZ2.out)).trans HZ2.out)
  have hl3 : w.heap.size + 2 < w9.heap.size := World.block_lt_of_cell? w9 _ t0
  clear hb9 cu
  go_wp2
  exact bodyPost_ret (v := .tuple #[.agg #[.int .i64 0, .int .u32 0, .int .i64 0], .int .i64 3]) (by simp [results, Try.results10, go_sem, t0, t1, t2]) rfl ⟨rfl, (by repeat (first | exact HBZ.out | refine Below.setCell ?_ (by simp <;> omega) _ | refine Below.alloc ?_ (by have := HBZ.out.size; simp; omega) _))⟩
set_option maxHeartbeats 4000000 in
theorem bin_nn (h : MemX w b xs P) (p q : Vl) (op : Int) (hp : VlOK p) (hq : VlOK q) (ho1 : 1 ≤ op) (ho2 : op ≤ 19) (hu : usX xs p = true) (hu2 : usX xs q = true) (hkp : p.kind = 1) (hkq : q.kind = 1) (r : Vl) (st : Int) (cC : ∀ Y, Below w.heap.size w Y → Calls Try.prog 25 #[.int .i64 op, .int .u32 p.v, .int .u32 q.v] Y fun e w' => e = .returned (.tuple #[.agg #[.int .i64 r.kind, .int .u32 r.v, .int .i64 r.block], .int .i64 st]) ∧ Below Y.heap.size Y w') :
    Calls Try.prog 10 #[.pointer (some ⟨b, 0, none⟩), .int .i64 op, .agg #[.int .i64 p.kind, .int .u32 p.v, .int .i64 p.block], .agg #[.int .i64 q.kind, .int .u32 q.v, .int .i64 q.block]] w fun e w' => e = .returned (.tuple #[.agg #[.int .i64 r.kind, .int .u32 r.v, .int .i64 r.block], .int .i64 st]) ∧ Below w.heap.size w w' := by
  have hB := BW_below w p q
  obtain ⟨⟨a0, a1, a2⟩, a3, a4, a5⟩ := BW_cells w p q
  have HB : Hid (Below w.heap.size w (BW w p q)) := hB
  have hsz := BW_size w p q
  have HZ : Hid ((BW w p q).heap[w.heap.size + 2]? = some (.cells #[.int .i64 0, .int .u32 0, .int .i64 0] TV (0, 0))) := BW_heap w p q
  have cu := fun Y => undefined_c Y
  have cU1 := fun Y (hY : Below w.heap.size w Y) => usable_c (h.keptB hY) p hp
  have cU2 := fun Y (hY : Below w.heap.size w Y) => usable_c (h.keptB hY) q hq
  have n2 := not_t
  have n3 := not_f
  have o1 : decide (op < 1) = false := by simp; omega
  have o2 : decide (19 < op) = false := by simp; omega
  simp only [hu] at cU1
  simp only [hu2] at cU2
  have p1 : (p.kind == 1) = true := by simp [hkp]
  have p2 : (p.kind == 2) = false := by simp [hkp]
  have q1 : (q.kind == 1) = true := by simp [hkq]
  have q2 : (q.kind == 2) = false := by simp [hkq]

  clear hB h hu hu2 hkp hkq
  obtain ⟨Wz, hW⟩ : ∃ Wz, Wz = BW w p q := ⟨_, rfl⟩
  go_enter Try.func10, Try.ntmps10
  go_upto_region 1 with (fail)
  refine (?_ : Code.wp _ _ _ _ (BW w p q))
  rw [← hW] at a0 a1 a2 a3 a4 a5 HB hsz HZ ⊢
  clear hW
  go_wp2_with fail
  refine (cU1 _ HB.out).mono ?_; rintro e w1 ⟨rfl, hb1⟩
  have HB1 : Hid (Below w.heap.size w w1) := HB.out.trans (hb1.mono HB.out.size)
  have HZ1 : Hid (w1.heap[w.heap.size + 2]? = some (.cells #[.int .i64 0, .int .u32 0, .int .i64 0] TV (0, 0))) := (hb1.block _ (lt_of_heap HZ.out)).trans HZ.out
  have b0 := (hb1.cell (p := ⟨w.heap.size, 0, none⟩) (by have := lt_of_heap HZ.out; simp; omega)).trans a0
  have b1 := (hb1.cell (p := ⟨w.heap.size, 1, none⟩) (by have := lt_of_heap HZ.out; simp; omega)).trans a1
  have b2 := (hb1.cell (p := ⟨w.heap.size, 2, none⟩) (by have := lt_of_heap HZ.out; simp; omega)).trans a2
  have b3 := (hb1.cell (p := ⟨w.heap.size + 1, 0, none⟩) (by have := lt_of_heap HZ.out; simp; omega)).trans a3
  have b4 := (hb1.cell (p := ⟨w.heap.size + 1, 1, none⟩) (by have := lt_of_heap HZ.out; simp; omega)).trans a4
  have b5 := (hb1.cell (p := ⟨w.heap.size + 1, 2, none⟩) (by have := lt_of_heap HZ.out; simp; omega)).trans a5
  clear hb1 cU1
  go_wp2_with fail
  refine (cU2 _ HB1.out).mono ?_; rintro e w2 ⟨rfl, hb2⟩
  have HB2 : Hid (Below w.heap.size w w2) := HB1.out.trans (hb2.mono HB1.out.size)
  have HZ2 : Hid (w2.heap[w.heap.size + 2]? = some (.cells #[.int .i64 0, .int .u32 0, .int .i64 0] TV (0, 0))) := (hb2.block _ (lt_of_heap HZ1.out)).trans HZ1.out
  have c0 := (hb2.cell (p := ⟨w.heap.size, 0, none⟩) (by have := lt_of_heap HZ1.out; simp; omega)).trans b0
  have c1 := (hb2.cell (p := ⟨w.heap.size, 1, none⟩) (by have := lt_of_heap HZ1.out; simp; omega)).trans b1
  have c2 := (hb2.cell (p := ⟨w.heap.size, 2, none⟩) (by have := lt_of_heap HZ1.out; simp; omega)).trans b2
  have c3 := (hb2.cell (p := ⟨w.heap.size + 1, 0, none⟩) (by have := lt_of_heap HZ1.out; simp; omega)).trans b3
  have c4 := (hb2.cell (p := ⟨w.heap.size + 1, 1, none⟩) (by have := lt_of_heap HZ1.out; simp; omega)).trans b4
  have c5 := (hb2.cell (p := ⟨w.heap.size + 1, 2, none⟩) (by have := lt_of_heap HZ1.out; simp; omega)).trans b5
  clear hb2 cU2
  go_wp2_with fail
  refine (cC _ HB2.out).mono ?_; rintro e w9 ⟨rfl, hb9⟩
  have HBZ : Hid (Below w.heap.size w w9) := HB2.out.trans (hb9.mono HB2.out.size)
  obtain ⟨tf, t0, t1, t2⟩ := zero_facts ((hb9.block _ (lt_of_heap HZ2.out)).trans HZ2.out)
  have hl3 : w.heap.size + 2 < w9.heap.size := World.block_lt_of_cell? w9 _ t0
  clear hb9 cu
  go_wp2
  exact bodyPost_ret (v := .tuple #[.agg #[.int .i64 r.kind, .int .u32 r.v, .int .i64 r.block], .int .i64 st]) (by simp [results, Try.results10, go_sem, t0, t1, t2]) rfl ⟨rfl, (by repeat (first | exact HBZ.out | refine Below.setCell ?_ (by simp <;> omega) _ | refine Below.alloc ?_ (by have := HBZ.out.size; simp; omega) _))⟩
set_option maxHeartbeats 4000000 in
theorem bin_pp (h : MemX w b xs P) (p q : Vl) (op : Int) (hp : VlOK p) (hq : VlOK q) (ho1 : 1 ≤ op) (ho2 : op ≤ 19) (hu : usX xs p = true) (hu2 : usX xs q = true) (hkp : p.kind = 2) (hkq : q.kind = 2) (r : Vl) (st : Int) (cC : ∀ Y, Below w.heap.size w Y → Calls Try.prog 26 #[.pointer (some ⟨b, 0, none⟩), .int .i64 op, .agg #[.int .i64 p.kind, .int .u32 p.v, .int .i64 p.block], .agg #[.int .i64 q.kind, .int .u32 q.v, .int .i64 q.block]] Y fun e w' => e = .returned (.tuple #[.agg #[.int .i64 r.kind, .int .u32 r.v, .int .i64 r.block], .int .i64 st]) ∧ Below Y.heap.size Y w') :
    Calls Try.prog 10 #[.pointer (some ⟨b, 0, none⟩), .int .i64 op, .agg #[.int .i64 p.kind, .int .u32 p.v, .int .i64 p.block], .agg #[.int .i64 q.kind, .int .u32 q.v, .int .i64 q.block]] w fun e w' => e = .returned (.tuple #[.agg #[.int .i64 r.kind, .int .u32 r.v, .int .i64 r.block], .int .i64 st]) ∧ Below w.heap.size w w' := by
  have hB := BW_below w p q
  obtain ⟨⟨a0, a1, a2⟩, a3, a4, a5⟩ := BW_cells w p q
  have HB : Hid (Below w.heap.size w (BW w p q)) := hB
  have hsz := BW_size w p q
  have HZ : Hid ((BW w p q).heap[w.heap.size + 2]? = some (.cells #[.int .i64 0, .int .u32 0, .int .i64 0] TV (0, 0))) := BW_heap w p q
  have cu := fun Y => undefined_c Y
  have cU1 := fun Y (hY : Below w.heap.size w Y) => usable_c (h.keptB hY) p hp
  have cU2 := fun Y (hY : Below w.heap.size w Y) => usable_c (h.keptB hY) q hq
  have n2 := not_t
  have n3 := not_f
  have o1 : decide (op < 1) = false := by simp; omega
  have o2 : decide (19 < op) = false := by simp; omega
  simp only [hu] at cU1
  simp only [hu2] at cU2
  have p1 : (p.kind == 1) = false := by simp [hkp]
  have p2 : (p.kind == 2) = true := by simp [hkp]
  have q1 : (q.kind == 1) = false := by simp [hkq]
  have q2 : (q.kind == 2) = true := by simp [hkq]

  clear hB h hu hu2 hkp hkq
  obtain ⟨Wz, hW⟩ : ∃ Wz, Wz = BW w p q := ⟨_, rfl⟩
  go_enter Try.func10, Try.ntmps10
  go_upto_region 1 with (fail)
  refine (?_ : Code.wp _ _ _ _ (BW w p q))
  rw [← hW] at a0 a1 a2 a3 a4 a5 HB hsz HZ ⊢
  clear hW
  go_wp2_with fail
  refine (cU1 _ HB.out).mono ?_; rintro e w1 ⟨rfl, hb1⟩
  have HB1 : Hid (Below w.heap.size w w1) := HB.out.trans (hb1.mono HB.out.size)
  have HZ1 : Hid (w1.heap[w.heap.size + 2]? = some (.cells #[.int .i64 0, .int .u32 0, .int .i64 0] TV (0, 0))) := (hb1.block _ (lt_of_heap HZ.out)).trans HZ.out
  have b0 := (hb1.cell (p := ⟨w.heap.size, 0, none⟩) (by have := lt_of_heap HZ.out; simp; omega)).trans a0
  have b1 := (hb1.cell (p := ⟨w.heap.size, 1, none⟩) (by have := lt_of_heap HZ.out; simp; omega)).trans a1
  have b2 := (hb1.cell (p := ⟨w.heap.size, 2, none⟩) (by have := lt_of_heap HZ.out; simp; omega)).trans a2
  have b3 := (hb1.cell (p := ⟨w.heap.size + 1, 0, none⟩) (by have := lt_of_heap HZ.out; simp; omega)).trans a3
  have b4 := (hb1.cell (p := ⟨w.heap.size + 1, 1, none⟩) (by have := lt_of_heap HZ.out; simp; omega)).trans a4
  have b5 := (hb1.cell (p := ⟨w.heap.size + 1, 2, none⟩) (by have := lt_of_heap HZ.out; simp; omega)).trans a5
  clear hb1 cU1
  go_wp2_with fail
  refine (cU2 _ HB1.out).mono ?_; rintro e w2 ⟨rfl, hb2⟩
  have HB2 : Hid (Below w.heap.size w w2) := HB1.out.trans (hb2.mono HB1.out.size)
  have HZ2 : Hid (w2.heap[w.heap.size + 2]? = some (.cells #[.int .i64 0, .int .u32 0, .int .i64 0] TV (0, 0))) := (hb2.block _ (lt_of_heap HZ1.out)).trans HZ1.out
  have c0 := (hb2.cell (p := ⟨w.heap.size, 0, none⟩) (by have := lt_of_heap HZ1.out; simp; omega)).trans b0
  have c1 := (hb2.cell (p := ⟨w.heap.size, 1, none⟩) (by have := lt_of_heap HZ1.out; simp; omega)).trans b1
  have c2 := (hb2.cell (p := ⟨w.heap.size, 2, none⟩) (by have := lt_of_heap HZ1.out; simp; omega)).trans b2
  have c3 := (hb2.cell (p := ⟨w.heap.size + 1, 0, none⟩) (by have := lt_of_heap HZ1.out; simp; omega)).trans b3
  have c4 := (hb2.cell (p := ⟨w.heap.size + 1, 1, none⟩) (by have := lt_of_heap HZ1.out; simp; omega)).trans b4
  have c5 := (hb2.cell (p := ⟨w.heap.size + 1, 2, none⟩) (by have := lt_of_heap HZ1.out; simp; omega)).trans b5
  clear hb2 cU2
  go_wp2_with fail
  refine (cC _ HB2.out).mono ?_; rintro e w9 ⟨rfl, hb9⟩
  have HBZ : Hid (Below w.heap.size w w9) := HB2.out.trans (hb9.mono HB2.out.size)
  obtain ⟨tf, t0, t1, t2⟩ := zero_facts ((hb9.block _ (lt_of_heap HZ2.out)).trans HZ2.out)
  have hl3 : w.heap.size + 2 < w9.heap.size := World.block_lt_of_cell? w9 _ t0
  clear hb9 cu
  go_wp2
  exact bodyPost_ret (v := .tuple #[.agg #[.int .i64 r.kind, .int .u32 r.v, .int .i64 r.block], .int .i64 st]) (by simp [results, Try.results10, go_sem, t0, t1, t2]) rfl ⟨rfl, (by repeat (first | exact HBZ.out | refine Below.setCell ?_ (by simp <;> omega) _ | refine Below.alloc ?_ (by have := HBZ.out.size; simp; omega) _))⟩
set_option maxHeartbeats 4000000 in
theorem bin_pn (h : MemX w b xs P) (p q : Vl) (op : Int) (hp : VlOK p) (hq : VlOK q) (ho1 : 1 ≤ op) (ho2 : op ≤ 19) (hu : usX xs p = true) (hu2 : usX xs q = true) (hkp : p.kind = 2) (hkq : q.kind = 1) (r : Vl) (st : Int) (cC : ∀ Y, Below w.heap.size w Y → Calls Try.prog 27 #[.pointer (some ⟨b, 0, none⟩), .int .i64 op, .agg #[.int .i64 p.kind, .int .u32 p.v, .int .i64 p.block], .int .u32 q.v] Y fun e w' => e = .returned (.tuple #[.agg #[.int .i64 r.kind, .int .u32 r.v, .int .i64 r.block], .int .i64 st]) ∧ Below Y.heap.size Y w') :
    Calls Try.prog 10 #[.pointer (some ⟨b, 0, none⟩), .int .i64 op, .agg #[.int .i64 p.kind, .int .u32 p.v, .int .i64 p.block], .agg #[.int .i64 q.kind, .int .u32 q.v, .int .i64 q.block]] w fun e w' => e = .returned (.tuple #[.agg #[.int .i64 r.kind, .int .u32 r.v, .int .i64 r.block], .int .i64 st]) ∧ Below w.heap.size w w' := by
  have hB := BW_below w p q
  obtain ⟨⟨a0, a1, a2⟩, a3, a4, a5⟩ := BW_cells w p q
  have HB : Hid (Below w.heap.size w (BW w p q)) := hB
  have hsz := BW_size w p q
  have HZ : Hid ((BW w p q).heap[w.heap.size + 2]? = some (.cells #[.int .i64 0, .int .u32 0, .int .i64 0] TV (0, 0))) := BW_heap w p q
  have cu := fun Y => undefined_c Y
  have cU1 := fun Y (hY : Below w.heap.size w Y) => usable_c (h.keptB hY) p hp
  have cU2 := fun Y (hY : Below w.heap.size w Y) => usable_c (h.keptB hY) q hq
  have n2 := not_t
  have n3 := not_f
  have o1 : decide (op < 1) = false := by simp; omega
  have o2 : decide (19 < op) = false := by simp; omega
  simp only [hu] at cU1
  simp only [hu2] at cU2
  have p1 : (p.kind == 1) = false := by simp [hkp]
  have p2 : (p.kind == 2) = true := by simp [hkp]
  have q1 : (q.kind == 1) = true := by simp [hkq]
  have q2 : (q.kind == 2) = false := by simp [hkq]

  clear hB h hu hu2 hkp hkq
  obtain ⟨Wz, hW⟩ : ∃ Wz, Wz = BW w p q := ⟨_, rfl⟩
  go_enter Try.func10, Try.ntmps10
  go_upto_region 1 with (fail)
  refine (?_ : Code.wp _ _ _ _ (BW w p q))
  rw [← hW] at a0 a1 a2 a3 a4 a5 HB hsz HZ ⊢
  clear hW
  go_wp2_with fail
  refine (cU1 _ HB.out).mono ?_; rintro e w1 ⟨rfl, hb1⟩
  have HB1 : Hid (Below w.heap.size w w1) := HB.out.trans (hb1.mono HB.out.size)
  have HZ1 : Hid (w1.heap[w.heap.size + 2]? = some (.cells #[.int .i64 0, .int .u32 0, .int .i64 0] TV (0, 0))) := (hb1.block _ (lt_of_heap HZ.out)).trans HZ.out
  have b0 := (hb1.cell (p := ⟨w.heap.size, 0, none⟩) (by have := lt_of_heap HZ.out; simp; omega)).trans a0
  have b1 := (hb1.cell (p := ⟨w.heap.size, 1, none⟩) (by have := lt_of_heap HZ.out; simp; omega)).trans a1
  have b2 := (hb1.cell (p := ⟨w.heap.size, 2, none⟩) (by have := lt_of_heap HZ.out; simp; omega)).trans a2
  have b3 := (hb1.cell (p := ⟨w.heap.size + 1, 0, none⟩) (by have := lt_of_heap HZ.out; simp; omega)).trans a3
  have b4 := (hb1.cell (p := ⟨w.heap.size + 1, 1, none⟩) (by have := lt_of_heap HZ.out; simp; omega)).trans a4
  have b5 := (hb1.cell (p := ⟨w.heap.size + 1, 2, none⟩) (by have := lt_of_heap HZ.out; simp; omega)).trans a5
  clear hb1 cU1
  go_wp2_with fail
  refine (cU2 _ HB1.out).mono ?_; rintro e w2 ⟨rfl, hb2⟩
  have HB2 : Hid (Below w.heap.size w w2) := HB1.out.trans (hb2.mono HB1.out.size)
  have HZ2 : Hid (w2.heap[w.heap.size + 2]? = some (.cells #[.int .i64 0, .int .u32 0, .int .i64 0] TV (0, 0))) := (hb2.block _ (lt_of_heap HZ1.out)).trans HZ1.out
  have c0 := (hb2.cell (p := ⟨w.heap.size, 0, none⟩) (by have := lt_of_heap HZ1.out; simp; omega)).trans b0
  have c1 := (hb2.cell (p := ⟨w.heap.size, 1, none⟩) (by have := lt_of_heap HZ1.out; simp; omega)).trans b1
  have c2 := (hb2.cell (p := ⟨w.heap.size, 2, none⟩) (by have := lt_of_heap HZ1.out; simp; omega)).trans b2
  have c3 := (hb2.cell (p := ⟨w.heap.size + 1, 0, none⟩) (by have := lt_of_heap HZ1.out; simp; omega)).trans b3
  have c4 := (hb2.cell (p := ⟨w.heap.size + 1, 1, none⟩) (by have := lt_of_heap HZ1.out; simp; omega)).trans b4
  have c5 := (hb2.cell (p := ⟨w.heap.size + 1, 2, none⟩) (by have := lt_of_heap HZ1.out; simp; omega)).trans b5
  clear hb2 cU2
  go_wp2_with fail
  refine (cC _ HB2.out).mono ?_; rintro e w9 ⟨rfl, hb9⟩
  have HBZ : Hid (Below w.heap.size w w9) := HB2.out.trans (hb9.mono HB2.out.size)
  obtain ⟨tf, t0, t1, t2⟩ := zero_facts ((hb9.block _ (lt_of_heap HZ2.out)).trans HZ2.out)
  have hl3 : w.heap.size + 2 < w9.heap.size := World.block_lt_of_cell? w9 _ t0
  clear hb9 cu
  go_wp2
  exact bodyPost_ret (v := .tuple #[.agg #[.int .i64 r.kind, .int .u32 r.v, .int .i64 r.block], .int .i64 st]) (by simp [results, Try.results10, go_sem, t0, t1, t2]) rfl ⟨rfl, (by repeat (first | exact HBZ.out | refine Below.setCell ?_ (by simp <;> omega) _ | refine Below.alloc ?_ (by have := HBZ.out.size; simp; omega) _))⟩
set_option maxHeartbeats 4000000 in
theorem bin_np2 (h : MemX w b xs P) (p q : Vl) (op : Int) (hp : VlOK p) (hq : VlOK q) (ho1 : 1 ≤ op) (ho2 : op ≤ 19) (hu : usX xs p = true) (hu2 : usX xs q = true) (hkp : p.kind = 1) (hkq : q.kind = 2) (ho : op = 2) :
    Calls Try.prog 10 #[.pointer (some ⟨b, 0, none⟩), .int .i64 op, .agg #[.int .i64 p.kind, .int .u32 p.v, .int .i64 p.block], .agg #[.int .i64 q.kind, .int .u32 q.v, .int .i64 q.block]] w fun e w' => e = .returned (.tuple #[.agg #[.int .i64 0, .int .u32 0, .int .i64 0], .int .i64 3]) ∧ Below w.heap.size w w' := by
  have hB := BW_below w p q
  obtain ⟨⟨a0, a1, a2⟩, a3, a4, a5⟩ := BW_cells w p q
  have HB : Hid (Below w.heap.size w (BW w p q)) := hB
  have hsz := BW_size w p q
  have HZ : Hid ((BW w p q).heap[w.heap.size + 2]? = some (.cells #[.int .i64 0, .int .u32 0, .int .i64 0] TV (0, 0))) := BW_heap w p q
  have cu := fun Y => undefined_c Y
  have cU1 := fun Y (hY : Below w.heap.size w Y) => usable_c (h.keptB hY) p hp
  have cU2 := fun Y (hY : Below w.heap.size w Y) => usable_c (h.keptB hY) q hq
  have n2 := not_t
  have n3 := not_f
  have o1 : decide (op < 1) = false := by simp; omega
  have o2 : decide (19 < op) = false := by simp; omega
  simp only [hu] at cU1
  simp only [hu2] at cU2
  have p1 : (p.kind == 1) = true := by simp [hkp]
  have p2 : (p.kind == 2) = false := by simp [hkp]
  have q1 : (q.kind == 1) = false := by simp [hkq]
  have q2 : (q.kind == 2) = true := by simp [hkq]
  have ob : (op == 2) = true := by simpa using ho
  clear hB h hu hu2 hkp hkq ho
  obtain ⟨Wz, hW⟩ : ∃ Wz, Wz = BW w p q := ⟨_, rfl⟩
  go_enter Try.func10, Try.ntmps10
  go_upto_region 1 with (fail)
  refine (?_ : Code.wp _ _ _ _ (BW w p q))
  rw [← hW] at a0 a1 a2 a3 a4 a5 HB hsz HZ ⊢
  clear hW
  go_wp2_with fail
  refine (cU1 _ HB.out).mono ?_; rintro e w1 ⟨rfl, hb1⟩
  have HB1 : Hid (Below w.heap.size w w1) := HB.out.trans (hb1.mono HB.out.size)
  have HZ1 : Hid (w1.heap[w.heap.size + 2]? = some (.cells #[.int .i64 0, .int .u32 0, .int .i64 0] TV (0, 0))) := (hb1.block _ (lt_of_heap HZ.out)).trans HZ.out
  have b0 := (hb1.cell (p := ⟨w.heap.size, 0, none⟩) (by have := lt_of_heap HZ.out; simp; omega)).trans a0
  have b1 := (hb1.cell (p := ⟨w.heap.size, 1, none⟩) (by have := lt_of_heap HZ.out; simp; omega)).trans a1
  have b2 := (hb1.cell (p := ⟨w.heap.size, 2, none⟩) (by have := lt_of_heap HZ.out; simp; omega)).trans a2
  have b3 := (hb1.cell (p := ⟨w.heap.size + 1, 0, none⟩) (by have := lt_of_heap HZ.out; simp; omega)).trans a3
  have b4 := (hb1.cell (p := ⟨w.heap.size + 1, 1, none⟩) (by have := lt_of_heap HZ.out; simp; omega)).trans a4
  have b5 := (hb1.cell (p := ⟨w.heap.size + 1, 2, none⟩) (by have := lt_of_heap HZ.out; simp; omega)).trans a5
  clear hb1 cU1
  go_wp2_with fail
  refine (cU2 _ HB1.out).mono ?_; rintro e w2 ⟨rfl, hb2⟩
  have HB2 : Hid (Below w.heap.size w w2) := HB1.out.trans (hb2.mono HB1.out.size)
  have HZ2 : Hid (w2.heap[w.heap.size + 2]? = some (.cells #[.int .i64 0, .int .u32 0, .int .i64 0] TV (0, 0))) := (hb2.block _ (lt_of_heap HZ1.out)).trans HZ1.out
  have c0 := (hb2.cell (p := ⟨w.heap.size, 0, none⟩) (by have := lt_of_heap HZ1.out; simp; omega)).trans b0
  have c1 := (hb2.cell (p := ⟨w.heap.size, 1, none⟩) (by have := lt_of_heap HZ1.out; simp; omega)).trans b1
  have c2 := (hb2.cell (p := ⟨w.heap.size, 2, none⟩) (by have := lt_of_heap HZ1.out; simp; omega)).trans b2
  have c3 := (hb2.cell (p := ⟨w.heap.size + 1, 0, none⟩) (by have := lt_of_heap HZ1.out; simp; omega)).trans b3
  have c4 := (hb2.cell (p := ⟨w.heap.size + 1, 1, none⟩) (by have := lt_of_heap HZ1.out; simp; omega)).trans b4
  have c5 := (hb2.cell (p := ⟨w.heap.size + 1, 2, none⟩) (by have := lt_of_heap HZ1.out; simp; omega)).trans b5
  clear hb2 cU2
  go_wp2_with fail
  refine (cu _).mono ?_; rintro e w9 ⟨rfl, hb9⟩
  have HBZ : Hid (Below w.heap.size w w9) := HB2.out.trans (hb9.mono HB2.out.size)
  obtain ⟨tf, t0, t1, t2⟩ := zero_facts ((hb9.block _ (lt_of_heap HZ2.out)).trans HZ2.out)
  have hl3 : w.heap.size + 2 < w9.heap.size := World.block_lt_of_cell? w9 _ t0
  clear hb9 cu
  go_wp2
  exact bodyPost_ret (v := .tuple #[.agg #[.int .i64 0, .int .u32 0, .int .i64 0], .int .i64 3]) (by simp [results, Try.results10, go_sem, t0, t1, t2]) rfl ⟨rfl, (by repeat (first | exact HBZ.out | refine Below.setCell ?_ (by simp <;> omega) _ | refine Below.alloc ?_ (by have := HBZ.out.size; simp; omega) _))⟩
set_option maxHeartbeats 4000000 in
theorem bin_np (h : MemX w b xs P) (p q : Vl) (op : Int) (hp : VlOK p) (hq : VlOK q) (ho1 : 1 ≤ op) (ho2 : op ≤ 19) (hu : usX xs p = true) (hu2 : usX xs q = true) (hkp : p.kind = 1) (hkq : q.kind = 2) (ho : ¬ op = 2) (r : Vl) (st : Int) (cC : ∀ Y, Below w.heap.size w Y → Calls Try.prog 27 #[.pointer (some ⟨b, 0, none⟩), .int .i64 op, .agg #[.int .i64 q.kind, .int .u32 q.v, .int .i64 q.block], .int .u32 p.v] Y fun e w' => e = .returned (.tuple #[.agg #[.int .i64 r.kind, .int .u32 r.v, .int .i64 r.block], .int .i64 st]) ∧ Below Y.heap.size Y w') :
    Calls Try.prog 10 #[.pointer (some ⟨b, 0, none⟩), .int .i64 op, .agg #[.int .i64 p.kind, .int .u32 p.v, .int .i64 p.block], .agg #[.int .i64 q.kind, .int .u32 q.v, .int .i64 q.block]] w fun e w' => e = .returned (.tuple #[.agg #[.int .i64 r.kind, .int .u32 r.v, .int .i64 r.block], .int .i64 st]) ∧ Below w.heap.size w w' := by
  have hB := BW_below w p q
  obtain ⟨⟨a0, a1, a2⟩, a3, a4, a5⟩ := BW_cells w p q
  have HB : Hid (Below w.heap.size w (BW w p q)) := hB
  have hsz := BW_size w p q
  have HZ : Hid ((BW w p q).heap[w.heap.size + 2]? = some (.cells #[.int .i64 0, .int .u32 0, .int .i64 0] TV (0, 0))) := BW_heap w p q
  have cu := fun Y => undefined_c Y
  have cU1 := fun Y (hY : Below w.heap.size w Y) => usable_c (h.keptB hY) p hp
  have cU2 := fun Y (hY : Below w.heap.size w Y) => usable_c (h.keptB hY) q hq
  have n2 := not_t
  have n3 := not_f
  have o1 : decide (op < 1) = false := by simp; omega
  have o2 : decide (19 < op) = false := by simp; omega
  simp only [hu] at cU1
  simp only [hu2] at cU2
  have p1 : (p.kind == 1) = true := by simp [hkp]
  have p2 : (p.kind == 2) = false := by simp [hkp]
  have q1 : (q.kind == 1) = false := by simp [hkq]
  have q2 : (q.kind == 2) = true := by simp [hkq]
  have ob : (op == 2) = false := by simpa using ho
  clear hB h hu hu2 hkp hkq ho
  obtain ⟨Wz, hW⟩ : ∃ Wz, Wz = BW w p q := ⟨_, rfl⟩
  go_enter Try.func10, Try.ntmps10
  go_upto_region 1 with (fail)
  refine (?_ : Code.wp _ _ _ _ (BW w p q))
  rw [← hW] at a0 a1 a2 a3 a4 a5 HB hsz HZ ⊢
  clear hW
  go_wp2_with fail
  refine (cU1 _ HB.out).mono ?_; rintro e w1 ⟨rfl, hb1⟩
  have HB1 : Hid (Below w.heap.size w w1) := HB.out.trans (hb1.mono HB.out.size)
  have HZ1 : Hid (w1.heap[w.heap.size + 2]? = some (.cells #[.int .i64 0, .int .u32 0, .int .i64 0] TV (0, 0))) := (hb1.block _ (lt_of_heap HZ.out)).trans HZ.out
  have b0 := (hb1.cell (p := ⟨w.heap.size, 0, none⟩) (by have := lt_of_heap HZ.out; simp; omega)).trans a0
  have b1 := (hb1.cell (p := ⟨w.heap.size, 1, none⟩) (by have := lt_of_heap HZ.out; simp; omega)).trans a1
  have b2 := (hb1.cell (p := ⟨w.heap.size, 2, none⟩) (by have := lt_of_heap HZ.out; simp; omega)).trans a2
  have b3 := (hb1.cell (p := ⟨w.heap.size + 1, 0, none⟩) (by have := lt_of_heap HZ.out; simp; omega)).trans a3
  have b4 := (hb1.cell (p := ⟨w.heap.size + 1, 1, none⟩) (by have := lt_of_heap HZ.out; simp; omega)).trans a4
  have b5 := (hb1.cell (p := ⟨w.heap.size + 1, 2, none⟩) (by have := lt_of_heap HZ.out; simp; omega)).trans a5
  clear hb1 cU1
  go_wp2_with fail
  refine (cU2 _ HB1.out).mono ?_; rintro e w2 ⟨rfl, hb2⟩
  have HB2 : Hid (Below w.heap.size w w2) := HB1.out.trans (hb2.mono HB1.out.size)
  have HZ2 : Hid (w2.heap[w.heap.size + 2]? = some (.cells #[.int .i64 0, .int .u32 0, .int .i64 0] TV (0, 0))) := (hb2.block _ (lt_of_heap HZ1.out)).trans HZ1.out
  have c0 := (hb2.cell (p := ⟨w.heap.size, 0, none⟩) (by have := lt_of_heap HZ1.out; simp; omega)).trans b0
  have c1 := (hb2.cell (p := ⟨w.heap.size, 1, none⟩) (by have := lt_of_heap HZ1.out; simp; omega)).trans b1
  have c2 := (hb2.cell (p := ⟨w.heap.size, 2, none⟩) (by have := lt_of_heap HZ1.out; simp; omega)).trans b2
  have c3 := (hb2.cell (p := ⟨w.heap.size + 1, 0, none⟩) (by have := lt_of_heap HZ1.out; simp; omega)).trans b3
  have c4 := (hb2.cell (p := ⟨w.heap.size + 1, 1, none⟩) (by have := lt_of_heap HZ1.out; simp; omega)).trans b4
  have c5 := (hb2.cell (p := ⟨w.heap.size + 1, 2, none⟩) (by have := lt_of_heap HZ1.out; simp; omega)).trans b5
  clear hb2 cU2
  go_wp2_with fail
  refine (cC _ HB2.out).mono ?_; rintro e w9 ⟨rfl, hb9⟩
  have HBZ : Hid (Below w.heap.size w w9) := HB2.out.trans (hb9.mono HB2.out.size)
  obtain ⟨tf, t0, t1, t2⟩ := zero_facts ((hb9.block _ (lt_of_heap HZ2.out)).trans HZ2.out)
  have hl3 : w.heap.size + 2 < w9.heap.size := World.block_lt_of_cell? w9 _ t0
  clear hb9 cu
  go_wp2
  exact bodyPost_ret (v := .tuple #[.agg #[.int .i64 r.kind, .int .u32 r.v, .int .i64 r.block], .int .i64 st]) (by simp [results, Try.results10, go_sem, t0, t1, t2]) rfl ⟨rfl, (by repeat (first | exact HBZ.out | refine Below.setCell ?_ (by simp <;> omega) _ | refine Below.alloc ?_ (by have := HBZ.out.size; simp; omega) _))⟩
set_option maxHeartbeats 1000000 in
theorem truth_no (h : MemX w b xs P) (p : Vl) (hp : VlOK p) (hu : usX xs p = false) :
    Calls Try.prog 20 #[.pointer (some ⟨b, 0, none⟩), .agg #[.int .i64 p.kind, .int .u32 p.v, .int .i64 p.block]] w fun e w' => e = .returned (.tuple #[.bool false, .int .i64 3]) ∧ Below w.heap.size w w' := by
  have hB : Below w.heap.size w (w.alloc (.cells #[.int .i64 p.kind, .int .u32 p.v, .int .i64 p.block] TV)) := (Below.refl _ w).alloc (Nat.le_refl _) _
  obtain ⟨a0, a1, a2⟩ := box_cells w p
  have c := usable_c (h.keptB hB) p hp
  have HB : Hid (Below w.heap.size w (w.alloc (.cells #[.int .i64 p.kind, .int .u32 p.v, .int .i64 p.block] TV))) := hB
  have n2 := not_t
  have n3 := not_f
  rw [hu] at c

  clear h hB hu
  go_enter Try.func20, Try.ntmps20
  go_wp2_with fail
  refine c.mono ?_; rintro e w1 ⟨rfl, hb1⟩
  have HB1 : Hid (Below w.heap.size w w1) := HB.out.trans (hb1.mono HB.out.size)
  have k0 := (hb1.cell (p := ⟨w.heap.size, 0, none⟩) (by simp)).trans a0
  have k1 := (hb1.cell (p := ⟨w.heap.size, 1, none⟩) (by simp)).trans a1
  clear hb1 c
  go_wp2
  go_ret2
  exact ⟨rfl, HB1.out⟩
set_option maxHeartbeats 1000000 in
theorem truth_ptr (h : MemX w b xs P) (p : Vl) (hp : VlOK p) (hu : usX xs p = true) (hk : p.kind = 2) :
    Calls Try.prog 20 #[.pointer (some ⟨b, 0, none⟩), .agg #[.int .i64 p.kind, .int .u32 p.v, .int .i64 p.block]] w fun e w' => e = .returned (.tuple #[.bool true, .int .i64 0]) ∧ Below w.heap.size w w' := by
  have hB : Below w.heap.size w (w.alloc (.cells #[.int .i64 p.kind, .int .u32 p.v, .int .i64 p.block] TV)) := (Below.refl _ w).alloc (Nat.le_refl _) _
  obtain ⟨a0, a1, a2⟩ := box_cells w p
  have c := usable_c (h.keptB hB) p hp
  have HB : Hid (Below w.heap.size w (w.alloc (.cells #[.int .i64 p.kind, .int .u32 p.v, .int .i64 p.block] TV))) := hB
  have n2 := not_t
  have n3 := not_f
  rw [hu] at c
  have hk1 : (p.kind == 2) = true := by simpa using hk
  clear h hB hu hk
  go_enter Try.func20, Try.ntmps20
  go_wp2_with fail
  refine c.mono ?_; rintro e w1 ⟨rfl, hb1⟩
  have HB1 : Hid (Below w.heap.size w w1) := HB.out.trans (hb1.mono HB.out.size)
  have k0 := (hb1.cell (p := ⟨w.heap.size, 0, none⟩) (by simp)).trans a0
  have k1 := (hb1.cell (p := ⟨w.heap.size, 1, none⟩) (by simp)).trans a1
  clear hb1 c
  go_wp2
  go_ret2
  exact ⟨rfl, HB1.out⟩
set_option maxHeartbeats 1000000 in
theorem truth_num0 (h : MemX w b xs P) (p : Vl) (hp : VlOK p) (hu : usX xs p = true) (hk : p.kind = 1) (hv : p.v = 0) :
    Calls Try.prog 20 #[.pointer (some ⟨b, 0, none⟩), .agg #[.int .i64 p.kind, .int .u32 p.v, .int .i64 p.block]] w fun e w' => e = .returned (.tuple #[.bool false, .int .i64 0]) ∧ Below w.heap.size w w' := by
  have hB : Below w.heap.size w (w.alloc (.cells #[.int .i64 p.kind, .int .u32 p.v, .int .i64 p.block] TV)) := (Below.refl _ w).alloc (Nat.le_refl _) _
  obtain ⟨a0, a1, a2⟩ := box_cells w p
  have c := usable_c (h.keptB hB) p hp
  have HB : Hid (Below w.heap.size w (w.alloc (.cells #[.int .i64 p.kind, .int .u32 p.v, .int .i64 p.block] TV))) := hB
  have n2 := not_t
  have n3 := not_f
  rw [hu] at c
  have hk1 : (p.kind == 2) = false := by simp [hk]
  have hv1 : (p.v != 0) = false := by simpa using hv
  clear h hB hu hk hv
  go_enter Try.func20, Try.ntmps20
  go_wp2_with fail
  refine c.mono ?_; rintro e w1 ⟨rfl, hb1⟩
  have HB1 : Hid (Below w.heap.size w w1) := HB.out.trans (hb1.mono HB.out.size)
  have k0 := (hb1.cell (p := ⟨w.heap.size, 0, none⟩) (by simp)).trans a0
  have k1 := (hb1.cell (p := ⟨w.heap.size, 1, none⟩) (by simp)).trans a1
  clear hb1 c
  go_wp2
  go_ret2
  exact ⟨rfl, HB1.out⟩
set_option maxHeartbeats 1000000 in
theorem truth_num1 (h : MemX w b xs P) (p : Vl) (hp : VlOK p) (hu : usX xs p = true) (hk : p.kind = 1) (hv : ¬ p.v = 0) :
    Calls Try.prog 20 #[.pointer (some ⟨b, 0, none⟩), .agg #[.int .i64 p.kind, .int .u32 p.v, .int .i64 p.block]] w fun e w' => e = .returned (.tuple #[.bool true, .int .i64 0]) ∧ Below w.heap.size w w' := by
  have hB : Below w.heap.size w (w.alloc (.cells #[.int .i64 p.kind, .int .u32 p.v, .int .i64 p.block] TV)) := (Below.refl _ w).alloc (Nat.le_refl _) _
  obtain ⟨a0, a1, a2⟩ := box_cells w p
  have c := usable_c (h.keptB hB) p hp
  have HB : Hid (Below w.heap.size w (w.alloc (.cells #[.int .i64 p.kind, .int .u32 p.v, .int .i64 p.block] TV))) := hB
  have n2 := not_t
  have n3 := not_f
  rw [hu] at c
  have hk1 : (p.kind == 2) = false := by simp [hk]
  have hv1 : (p.v != 0) = true := by simpa using hv
  clear h hB hu hk hv
  go_enter Try.func20, Try.ntmps20
  go_wp2_with fail
  refine c.mono ?_; rintro e w1 ⟨rfl, hb1⟩
  have HB1 : Hid (Below w.heap.size w w1) := HB.out.trans (hb1.mono HB.out.size)
  have k0 := (hb1.cell (p := ⟨w.heap.size, 0, none⟩) (by simp)).trans a0
  have k1 := (hb1.cell (p := ⟨w.heap.size, 1, none⟩) (by simp)).trans a1
  clear hb1 c
  go_wp2
  go_ret2
  exact ⟨rfl, HB1.out⟩
end
end Go.Proofs.Ytigiahcfcglacaa
