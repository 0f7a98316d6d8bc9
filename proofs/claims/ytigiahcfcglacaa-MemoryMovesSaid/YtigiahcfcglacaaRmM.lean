/-
  The given answer: operations of two good pointers.
-/
import Derived.Test.YtigiahcfcglacaaRmL
import Derived.Test.YtigiahcfcglacaaMmW
namespace Go.Proofs.Ytigiahcfcglacaa
open Go.RowKit Go.Maps
set_option linter.unusedVariables false
set_option maxRecDepth 100000
section
variable {w : World} {rb : Nat} {ys : List Ry} {R : Nat → Prop}
theorem eqb (x y : Bool) (W : World) : (binOp BinOp.eql 4 (.bool x) (.bool y)).run Try.prog W = .ok (.bool (x == y)) W := by cases x <;> cases y <;> kernel_rfl
set_option maxHeartbeats 4000000 in
theorem rp_end1_14 (p q : Vl) (op : Int) (ho : op = 14) (hne : ¬ p.block = q.block) (cE1 : ∀ Y, Below w.heap.size w Y → Calls Try.prog 82 #[.pointer (some ⟨rb, 0, none⟩), .agg #[.int .i64 p.kind, .int .u32 p.v, .int .i64 p.block]] Y fun e w' => e = .returned (.bool true) ∧ Below Y.heap.size Y w') :
    Calls Try.prog 68 #[.pointer (some ⟨rb, 0, none⟩), .int .i64 op, .agg #[.int .i64 p.kind, .int .u32 p.v, .int .i64 p.block], .agg #[.int .i64 q.kind, .int .u32 q.v, .int .i64 q.block]] w fun e w' => e = .returned (.tuple #[.agg #[.int .i64 0, .int .u32 0, .int .i64 0], .int .i64 3]) ∧ Below w.heap.size w w' := by
  have hB := BW_below w p q
  obtain ⟨⟨a0, a1, a2⟩, a3, a4, a5⟩ := BW_cells w p q
  have HB : Hid (Below w.heap.size w (BW w p q)) := hB
  have hsz := BW_size w p q
  have HZ : Hid ((BW w p q).heap[w.heap.size + 2]? = some (.cells #[.int .i64 0, .int .u32 0, .int .i64 0] TV (0, 0))) := BW_heap w p q
  have n2 := not_t
  have n3 := not_f
  have hbz := zeroV_box
  have ct := fun Y => tru_true Y
  have cf := fun Y => tru_false Y
  have cN := fun (v : Int) Y => num_c v Y
  have eb := eqb
  have tb : (p.block == q.block) = false := by simpa using hne
  have o14 : (op == 14) = true := by simpa using ho
  have o15 : (op == 15) = false := by simp; omega
  have o2 : (op == 2) = false := by simp; omega
  have o16 : (op == 16) = false := by simp; omega
  have o17 : (op == 17) = false := by simp; omega
  have o18 : (op == 18) = false := by simp; omega
  have o19 : (op == 19) = false := by simp; omega

  clear hB hne ho
  obtain ⟨Wz, hW⟩ : ∃ Wz, Wz = BW w p q := ⟨_, rfl⟩
  go_enter Try.func68, Try.ntmps68
  go_upto_region 1 with (fail)
  refine (?_ : Code.wp _ _ _ _ (BW w p q))
  rw [← hW] at a0 a1 a2 a3 a4 a5 HB hsz HZ ⊢
  clear hW
  go_wp2_with fail
  refine (cE1 _ HB.out).mono ?_; rintro e w1 ⟨rfl, hb1⟩
  have HB1 : Hid (Below w.heap.size w w1) := HB.out.trans (hb1.mono HB.out.size)
  have HZ1 : Hid (w1.heap[w.heap.size + 2]? = some (.cells #[.int .i64 0, .int .u32 0, .int .i64 0] TV (0, 0))) := (hb1.block _ (lt_of_heap HZ.out)).trans HZ.out
  have b0 := (hb1.cell (p := ⟨w.heap.size, 0, none⟩) (by have := lt_of_heap HZ.out; simp; omega)).trans a0
  have b1 := (hb1.cell (p := ⟨w.heap.size, 1, none⟩) (by have := lt_of_heap HZ.out; simp; omega)).trans a1
  have b2 := (hb1.cell (p := ⟨w.heap.size, 2, none⟩) (by have := lt_of_heap HZ.out; simp; omega)).trans a2
  have b3 := (hb1.cell (p := ⟨w.heap.size + 1, 0, none⟩) (by have := lt_of_heap HZ.out; simp; omega)).trans a3
  have b4 := (hb1.cell (p := ⟨w.heap.size + 1, 1, none⟩) (by have := lt_of_heap HZ.out; simp; omega)).trans a4
  have b5 := (hb1.cell (p := ⟨w.heap.size + 1, 2, none⟩) (by have := lt_of_heap HZ.out; simp; omega)).trans a5
  clear hb1 cE1
  have HBZ := HB1
  obtain ⟨tf, t0, t1, t2⟩ := zero_facts HZ1.out
  have hlz := lt_of_heap HZ1.out
  go_wp2
  exact bodyPost_ret (v := .tuple #[.agg #[.int .i64 0, .int .u32 0, .int .i64 0], .int .i64 3]) (by simp [results, Try.results68, go_sem, t0, t1, t2]) rfl ⟨rfl, (by repeat (first | exact HBZ.out | refine Below.setCell ?_ (by simp <;> omega) _ | refine Below.alloc ?_ (by have := HBZ.out.size; simp; omega) _))⟩
set_option maxHeartbeats 4000000 in
theorem rp_end2_14 (p q : Vl) (op : Int) (ho : op = 14) (hne : ¬ p.block = q.block) (cE1 : ∀ Y, Below w.heap.size w Y → Calls Try.prog 82 #[.pointer (some ⟨rb, 0, none⟩), .agg #[.int .i64 p.kind, .int .u32 p.v, .int .i64 p.block]] Y fun e w' => e = .returned (.bool false) ∧ Below Y.heap.size Y w') (cE2 : ∀ Y, Below w.heap.size w Y → Calls Try.prog 82 #[.pointer (some ⟨rb, 0, none⟩), .agg #[.int .i64 q.kind, .int .u32 q.v, .int .i64 q.block]] Y fun e w' => e = .returned (.bool true) ∧ Below Y.heap.size Y w') :
    Calls Try.prog 68 #[.pointer (some ⟨rb, 0, none⟩), .int .i64 op, .agg #[.int .i64 p.kind, .int .u32 p.v, .int .i64 p.block], .agg #[.int .i64 q.kind, .int .u32 q.v, .int .i64 q.block]] w fun e w' => e = .returned (.tuple #[.agg #[.int .i64 0, .int .u32 0, .int .i64 0], .int .i64 3]) ∧ Below w.heap.size w w' := by
  have hB := BW_below w p q
  obtain ⟨⟨a0, a1, a2⟩, a3, a4, a5⟩ := BW_cells w p q
  have HB : Hid (Below w.heap.size w (BW w p q)) := hB
  have hsz := BW_size w p q
  have HZ : Hid ((BW w p q).heap[w.heap.size + 2]? = some (.cells #[.int .i64 0, .int .u32 0, .int .i64 0] TV (0, 0))) := BW_heap w p q
  have n2 := not_t
  have n3 := not_f
  have hbz := zeroV_box
  have ct := fun Y => tru_true Y
  have cf := fun Y => tru_false Y
  have cN := fun (v : Int) Y => num_c v Y
  have eb := eqb
  have tb : (p.block == q.block) = false := by simpa using hne
  have o14 : (op == 14) = true := by simpa using ho
  have o15 : (op == 15) = false := by simp; omega
  have o2 : (op == 2) = false := by simp; omega
  have o16 : (op == 16) = false := by simp; omega
  have o17 : (op == 17) = false := by simp; omega
  have o18 : (op == 18) = false := by simp; omega
  have o19 : (op == 19) = false := by simp; omega

  clear hB hne ho
  obtain ⟨Wz, hW⟩ : ∃ Wz, Wz = BW w p q := ⟨_, rfl⟩
  go_enter Try.func68, Try.ntmps68
  go_upto_region 1 with (fail)
  refine (?_ : Code.wp _ _ _ _ (BW w p q))
  rw [← hW] at a0 a1 a2 a3 a4 a5 HB hsz HZ ⊢
  clear hW
  go_wp2_with fail
  refine (cE1 _ HB.out).mono ?_; rintro e w1 ⟨rfl, hb1⟩
  have HB1 : Hid (Below w.heap.size w w1) := HB.out.trans (hb1.mono HB.out.size)
  have HZ1 : Hid (w1.heap[w.heap.size + 2]? = some (.cells #[.int .i64 0, .int .u32 0, .int .i64 0] TV (0, 0))) := (hb1.block _ (lt_of_heap HZ.out)).trans HZ.out
  have b0 := (hb1.cell (p := ⟨w.heap.size, 0, none⟩) (by have := lt_of_heap HZ.out; simp; omega)).trans a0
  have b1 := (hb1.cell (p := ⟨w.heap.size, 1, none⟩) (by have := lt_of_heap HZ.out; simp; omega)).trans a1
  have b2 := (hb1.cell (p := ⟨w.heap.size, 2, none⟩) (by have := lt_of_heap HZ.out; simp; omega)).trans a2
  have b3 := (hb1.cell (p := ⟨w.heap.size + 1, 0, none⟩) (by have := lt_of_heap HZ.out; simp; omega)).trans a3
  have b4 := (hb1.cell (p := ⟨w.heap.size + 1, 1, none⟩) (by have := lt_of_heap HZ.out; simp; omega)).trans a4
  have b5 := (hb1.cell (p := ⟨w.heap.size + 1, 2, none⟩) (by have := lt_of_heap HZ.out; simp; omega)).trans a5
  clear hb1 cE1
  go_wp2_with fail
  refine (cE2 _ HB1.out).mono ?_; rintro e w2 ⟨rfl, hb2⟩
  have HB2 : Hid (Below w.heap.size w w2) := HB1.out.trans (hb2.mono HB1.out.size)
  have HZ2 : Hid (w2.heap[w.heap.size + 2]? = some (.cells #[.int .i64 0, .int .u32 0, .int .i64 0] TV (0, 0))) := (hb2.block _ (lt_of_heap HZ1.out)).trans HZ1.out
  have c0 := (hb2.cell (p := ⟨w.heap.size, 0, none⟩) (by have := lt_of_heap HZ1.out; simp; omega)).trans b0
  have c1 := (hb2.cell (p := ⟨w.heap.size, 1, none⟩) (by have := lt_of_heap HZ1.out; simp; omega)).trans b1
  have c2 := (hb2.cell (p := ⟨w.heap.size, 2, none⟩) (by have := lt_of_heap HZ1.out; simp; omega)).trans b2
  have c3 := (hb2.cell (p := ⟨w.heap.size + 1, 0, none⟩) (by have := lt_of_heap HZ1.out; simp; omega)).trans b3
  have c4 := (hb2.cell (p := ⟨w.heap.size + 1, 1, none⟩) (by have := lt_of_heap HZ1.out; simp; omega)).trans b4
  have c5 := (hb2.cell (p := ⟨w.heap.size + 1, 2, none⟩) (by have := lt_of_heap HZ1.out; simp; omega)).trans b5
  clear hb2 cE2
  have HBZ := HB2
  obtain ⟨tf, t0, t1, t2⟩ := zero_facts HZ2.out
  have hlz := lt_of_heap HZ2.out
  go_wp2
  exact bodyPost_ret (v := .tuple #[.agg #[.int .i64 0, .int .u32 0, .int .i64 0], .int .i64 3]) (by simp [results, Try.results68, go_sem, t0, t1, t2]) rfl ⟨rfl, (by repeat (first | exact HBZ.out | refine Below.setCell ?_ (by simp <;> omega) _ | refine Below.alloc ?_ (by have := HBZ.out.size; simp; omega) _))⟩
set_option maxHeartbeats 4000000 in
theorem rp_un_14 (p q : Vl) (op : Int) (ho : op = 14) (hne : ¬ p.block = q.block) (cE1 : ∀ Y, Below w.heap.size w Y → Calls Try.prog 82 #[.pointer (some ⟨rb, 0, none⟩), .agg #[.int .i64 p.kind, .int .u32 p.v, .int .i64 p.block]] Y fun e w' => e = .returned (.bool false) ∧ Below Y.heap.size Y w') (cE2 : ∀ Y, Below w.heap.size w Y → Calls Try.prog 82 #[.pointer (some ⟨rb, 0, none⟩), .agg #[.int .i64 q.kind, .int .u32 q.v, .int .i64 q.block]] Y fun e w' => e = .returned (.bool false) ∧ Below Y.heap.size Y w') :
    Calls Try.prog 68 #[.pointer (some ⟨rb, 0, none⟩), .int .i64 op, .agg #[.int .i64 p.kind, .int .u32 p.v, .int .i64 p.block], .agg #[.int .i64 q.kind, .int .u32 q.v, .int .i64 q.block]] w fun e w' => e = .returned (.tuple #[.agg #[.int .i64 1, .int .u32 0, .int .i64 0], .int .i64 0]) ∧ Below w.heap.size w w' := by
  have hB := BW_below w p q
  obtain ⟨⟨a0, a1, a2⟩, a3, a4, a5⟩ := BW_cells w p q
  have HB : Hid (Below w.heap.size w (BW w p q)) := hB
  have hsz := BW_size w p q
  have HZ : Hid ((BW w p q).heap[w.heap.size + 2]? = some (.cells #[.int .i64 0, .int .u32 0, .int .i64 0] TV (0, 0))) := BW_heap w p q
  have n2 := not_t
  have n3 := not_f
  have hbz := zeroV_box
  have ct := fun Y => tru_true Y
  have cf := fun Y => tru_false Y
  have cN := fun (v : Int) Y => num_c v Y
  have eb := eqb
  have tb : (p.block == q.block) = false := by simpa using hne
  have o14 : (op == 14) = true := by simpa using ho
  have o15 : (op == 15) = false := by simp; omega
  have o2 : (op == 2) = false := by simp; omega
  have o16 : (op == 16) = false := by simp; omega
  have o17 : (op == 17) = false := by simp; omega
  have o18 : (op == 18) = false := by simp; omega
  have o19 : (op == 19) = false := by simp; omega

  clear hB hne ho
  obtain ⟨Wz, hW⟩ : ∃ Wz, Wz = BW w p q := ⟨_, rfl⟩
  go_enter Try.func68, Try.ntmps68
  go_upto_region 1 with (fail)
  refine (?_ : Code.wp _ _ _ _ (BW w p q))
  rw [← hW] at a0 a1 a2 a3 a4 a5 HB hsz HZ ⊢
  clear hW
  go_wp2_with fail
  refine (cE1 _ HB.out).mono ?_; rintro e w1 ⟨rfl, hb1⟩
  have HB1 : Hid (Below w.heap.size w w1) := HB.out.trans (hb1.mono HB.out.size)
  have HZ1 : Hid (w1.heap[w.heap.size + 2]? = some (.cells #[.int .i64 0, .int .u32 0, .int .i64 0] TV (0, 0))) := (hb1.block _ (lt_of_heap HZ.out)).trans HZ.out
  have b0 := (hb1.cell (p := ⟨w.heap.size, 0, none⟩) (by have := lt_of_heap HZ.out; simp; omega)).trans a0
  have b1 := (hb1.cell (p := ⟨w.heap.size, 1, none⟩) (by have := lt_of_heap HZ.out; simp; omega)).trans a1
  have b2 := (hb1.cell (p := ⟨w.heap.size, 2, none⟩) (by have := lt_of_heap HZ.out; simp; omega)).trans a2
  have b3 := (hb1.cell (p := ⟨w.heap.size + 1, 0, none⟩) (by have := lt_of_heap HZ.out; simp; omega)).trans a3
  have b4 := (hb1.cell (p := ⟨w.heap.size + 1, 1, none⟩) (by have := lt_of_heap HZ.out; simp; omega)).trans a4
  have b5 := (hb1.cell (p := ⟨w.heap.size + 1, 2, none⟩) (by have := lt_of_heap HZ.out; simp; omega)).trans a5
  clear hb1 cE1
  go_wp2_with fail
  refine (cE2 _ HB1.out).mono ?_; rintro e w2 ⟨rfl, hb2⟩
  have HB2 : Hid (Below w.heap.size w w2) := HB1.out.trans (hb2.mono HB1.out.size)
  have HZ2 : Hid (w2.heap[w.heap.size + 2]? = some (.cells #[.int .i64 0, .int .u32 0, .int .i64 0] TV (0, 0))) := (hb2.block _ (lt_of_heap HZ1.out)).trans HZ1.out
  have c0 := (hb2.cell (p := ⟨w.heap.size, 0, none⟩) (by have := lt_of_heap HZ1.out; simp; omega)).trans b0
  have c1 := (hb2.cell (p := ⟨w.heap.size, 1, none⟩) (by have := lt_of_heap HZ1.out; simp; omega)).trans b1
  have c2 := (hb2.cell (p := ⟨w.heap.size, 2, none⟩) (by have := lt_of_heap HZ1.out; simp; omega)).trans b2
  have c3 := (hb2.cell (p := ⟨w.heap.size + 1, 0, none⟩) (by have := lt_of_heap HZ1.out; simp; omega)).trans b3
  have c4 := (hb2.cell (p := ⟨w.heap.size + 1, 1, none⟩) (by have := lt_of_heap HZ1.out; simp; omega)).trans b4
  have c5 := (hb2.cell (p := ⟨w.heap.size + 1, 2, none⟩) (by have := lt_of_heap HZ1.out; simp; omega)).trans b5
  clear hb2 cE2
  go_wp2_with fail
  refine (cf _).mono ?_; rintro e w9 ⟨rfl, hb9⟩
  have HBZ : Hid (Below w.heap.size w w9) := HB2.out.trans (hb9.mono HB2.out.size)
  obtain ⟨tf, t0, t1, t2⟩ := zero_facts ((hb9.block _ (lt_of_heap HZ2.out)).trans HZ2.out)
  have hl3 : w.heap.size + 2 < w9.heap.size := World.block_lt_of_cell? w9 _ t0
  clear hb9
  go_wp2
  exact bodyPost_ret (v := .tuple #[.agg #[.int .i64 1, .int .u32 0, .int .i64 0], .int .i64 0]) (by simp [results, Try.results68, go_sem, t0, t1, t2]) rfl ⟨rfl, (by repeat (first | exact HBZ.out | refine Below.setCell ?_ (by simp <;> omega) _ | refine Below.alloc ?_ (by have := HBZ.out.size; simp; omega) _))⟩
set_option maxHeartbeats 4000000 in
theorem rp_eq_14_s (p q : Vl) (op : Int) (ho : op = 14) (heq : p.block = q.block) (hv : p.v = q.v) :
    Calls Try.prog 68 #[.pointer (some ⟨rb, 0, none⟩), .int .i64 op, .agg #[.int .i64 p.kind, .int .u32 p.v, .int .i64 p.block], .agg #[.int .i64 q.kind, .int .u32 q.v, .int .i64 q.block]] w fun e w' => e = .returned (.tuple #[.agg #[.int .i64 1, .int .u32 1, .int .i64 0], .int .i64 0]) ∧ Below w.heap.size w w' := by
  have hB := BW_below w p q
  obtain ⟨⟨a0, a1, a2⟩, a3, a4, a5⟩ := BW_cells w p q
  have HB : Hid (Below w.heap.size w (BW w p q)) := hB
  have hsz := BW_size w p q
  have HZ : Hid ((BW w p q).heap[w.heap.size + 2]? = some (.cells #[.int .i64 0, .int .u32 0, .int .i64 0] TV (0, 0))) := BW_heap w p q
  have n2 := not_t
  have n3 := not_f
  have hbz := zeroV_box
  have ct := fun Y => tru_true Y
  have cf := fun Y => tru_false Y
  have cN := fun (v : Int) Y => num_c v Y
  have eb := eqb
  have tb : (p.block == q.block) = true := by simpa using heq
  have o14 : (op == 14) = true := by simpa using ho
  have o15 : (op == 15) = false := by simp; omega
  have o2 : (op == 2) = false := by simp; omega
  have o16 : (op == 16) = false := by simp; omega
  have o17 : (op == 17) = false := by simp; omega
  have o18 : (op == 18) = false := by simp; omega
  have o19 : (op == 19) = false := by simp; omega
  have tv : (p.v == q.v) = true := by simpa using hv

  clear hB heq ho hv
  obtain ⟨Wz, hW⟩ : ∃ Wz, Wz = BW w p q := ⟨_, rfl⟩
  go_enter Try.func68, Try.ntmps68
  go_upto_region 1 with (fail)
  refine (?_ : Code.wp _ _ _ _ (BW w p q))
  rw [← hW] at a0 a1 a2 a3 a4 a5 HB hsz HZ ⊢
  clear hW
  go_wp2_with fail
  refine (ct _).mono ?_; rintro e w9 ⟨rfl, hb9⟩
  have HBZ : Hid (Below w.heap.size w w9) := HB.out.trans (hb9.mono HB.out.size)
  obtain ⟨tf, t0, t1, t2⟩ := zero_facts ((hb9.block _ (lt_of_heap HZ.out)).trans HZ.out)
  have hl3 : w.heap.size + 2 < w9.heap.size := World.block_lt_of_cell? w9 _ t0
  clear hb9
  go_wp2
  exact bodyPost_ret (v := .tuple #[.agg #[.int .i64 1, .int .u32 1, .int .i64 0], .int .i64 0]) (by simp [results, Try.results68, go_sem, t0, t1, t2]) rfl ⟨rfl, (by repeat (first | exact HBZ.out | refine Below.setCell ?_ (by simp <;> omega) _ | refine Below.alloc ?_ (by have := HBZ.out.size; simp; omega) _))⟩
set_option maxHeartbeats 4000000 in
theorem rp_eq_14_d (p q : Vl) (op : Int) (ho : op = 14) (heq : p.block = q.block) (hv : ¬ p.v = q.v) :
    Calls Try.prog 68 #[.pointer (some ⟨rb, 0, none⟩), .int .i64 op, .agg #[.int .i64 p.kind, .int .u32 p.v, .int .i64 p.block], .agg #[.int .i64 q.kind, .int .u32 q.v, .int .i64 q.block]] w fun e w' => e = .returned (.tuple #[.agg #[.int .i64 1, .int .u32 0, .int .i64 0], .int .i64 0]) ∧ Below w.heap.size w w' := by
  have hB := BW_below w p q
  obtain ⟨⟨a0, a1, a2⟩, a3, a4, a5⟩ := BW_cells w p q
  have HB : Hid (Below w.heap.size w (BW w p q)) := hB
  have hsz := BW_size w p q
  have HZ : Hid ((BW w p q).heap[w.heap.size + 2]? = some (.cells #[.int .i64 0, .int .u32 0, .int .i64 0] TV (0, 0))) := BW_heap w p q
  have n2 := not_t
  have n3 := not_f
  have hbz := zeroV_box
  have ct := fun Y => tru_true Y
  have cf := fun Y => tru_false Y
  have cN := fun (v : Int) Y => num_c v Y
  have eb := eqb
  have tb : (p.block == q.block) = true := by simpa using heq
  have o14 : (op == 14) = true := by simpa using ho
  have o15 : (op == 15) = false := by simp; omega
  have o2 : (op == 2) = false := by simp; omega
  have o16 : (op == 16) = false := by simp; omega
  have o17 : (op == 17) = false := by simp; omega
  have o18 : (op == 18) = false := by simp; omega
  have o19 : (op == 19) = false := by simp; omega
  have tv : (p.v == q.v) = false := by simpa using hv

  clear hB heq ho hv
  obtain ⟨Wz, hW⟩ : ∃ Wz, Wz = BW w p q := ⟨_, rfl⟩
  go_enter Try.func68, Try.ntmps68
  go_upto_region 1 with (fail)
  refine (?_ : Code.wp _ _ _ _ (BW w p q))
  rw [← hW] at a0 a1 a2 a3 a4 a5 HB hsz HZ ⊢
  clear hW
  go_wp2_with fail
  refine (cf _).mono ?_; rintro e w9 ⟨rfl, hb9⟩
  have HBZ : Hid (Below w.heap.size w w9) := HB.out.trans (hb9.mono HB.out.size)
  obtain ⟨tf, t0, t1, t2⟩ := zero_facts ((hb9.block _ (lt_of_heap HZ.out)).trans HZ.out)
  have hl3 : w.heap.size + 2 < w9.heap.size := World.block_lt_of_cell? w9 _ t0
  clear hb9
  go_wp2
  exact bodyPost_ret (v := .tuple #[.agg #[.int .i64 1, .int .u32 0, .int .i64 0], .int .i64 0]) (by simp [results, Try.results68, go_sem, t0, t1, t2]) rfl ⟨rfl, (by repeat (first | exact HBZ.out | refine Below.setCell ?_ (by simp <;> omega) _ | refine Below.alloc ?_ (by have := HBZ.out.size; simp; omega) _))⟩
set_option maxHeartbeats 4000000 in
theorem rp_end1_15 (p q : Vl) (op : Int) (ho : op = 15) (hne : ¬ p.block = q.block) (cE1 : ∀ Y, Below w.heap.size w Y → Calls Try.prog 82 #[.pointer (some ⟨rb, 0, none⟩), .agg #[.int .i64 p.kind, .int .u32 p.v, .int .i64 p.block]] Y fun e w' => e = .returned (.bool true) ∧ Below Y.heap.size Y w') :
    Calls Try.prog 68 #[.pointer (some ⟨rb, 0, none⟩), .int .i64 op, .agg #[.int .i64 p.kind, .int .u32 p.v, .int .i64 p.block], .agg #[.int .i64 q.kind, .int .u32 q.v, .int .i64 q.block]] w fun e w' => e = .returned (.tuple #[.agg #[.int .i64 0, .int .u32 0, .int .i64 0], .int .i64 3]) ∧ Below w.heap.size w w' := by
  have hB := BW_below w p q
  obtain ⟨⟨a0, a1, a2⟩, a3, a4, a5⟩ := BW_cells w p q
  have HB : Hid (Below w.heap.size w (BW w p q)) := hB
  have hsz := BW_size w p q
  have HZ : Hid ((BW w p q).heap[w.heap.size + 2]? = some (.cells #[.int .i64 0, .int .u32 0, .int .i64 0] TV (0, 0))) := BW_heap w p q
  have n2 := not_t
  have n3 := not_f
  have hbz := zeroV_box
  have ct := fun Y => tru_true Y
  have cf := fun Y => tru_false Y
  have cN := fun (v : Int) Y => num_c v Y
  have eb := eqb
  have tb : (p.block == q.block) = false := by simpa using hne
  have o14 : (op == 14) = false := by simp; omega
  have o15 : (op == 15) = true := by simpa using ho
  have o2 : (op == 2) = false := by simp; omega
  have o16 : (op == 16) = false := by simp; omega
  have o17 : (op == 17) = false := by simp; omega
  have o18 : (op == 18) = false := by simp; omega
  have o19 : (op == 19) = false := by simp; omega

  clear hB hne ho
  obtain ⟨Wz, hW⟩ : ∃ Wz, Wz = BW w p q := ⟨_, rfl⟩
  go_enter Try.func68, Try.ntmps68
  go_upto_region 1 with (fail)
  refine (?_ : Code.wp _ _ _ _ (BW w p q))
  rw [← hW] at a0 a1 a2 a3 a4 a5 HB hsz HZ ⊢
  clear hW
  go_wp2_with fail
  refine (cE1 _ HB.out).mono ?_; rintro e w1 ⟨rfl, hb1⟩
  have HB1 : Hid (Below w.heap.size w w1) := HB.out.trans (hb1.mono HB.out.size)
  have HZ1 : Hid (w1.heap[w.heap.size + 2]? = some (.cells #[.int .i64 0, .int .u32 0, .int .i64 0] TV (0, 0))) := (hb1.block _ (lt_of_heap HZ.out)).trans HZ.out
  have b0 := (hb1.cell (p := ⟨w.heap.size, 0, none⟩) (by have := lt_of_heap HZ.out; simp; omega)).trans a0
  have b1 := (hb1.cell (p := ⟨w.heap.size, 1, none⟩) (by have := lt_of_heap HZ.out; simp; omega)).trans a1
  have b2 := (hb1.cell (p := ⟨w.heap.size, 2, none⟩) (by have := lt_of_heap HZ.out; simp; omega)).trans a2
  have b3 := (hb1.cell (p := ⟨w.heap.size + 1, 0, none⟩) (by have := lt_of_heap HZ.out; simp; omega)).trans a3
  have b4 := (hb1.cell (p := ⟨w.heap.size + 1, 1, none⟩) (by have := lt_of_heap HZ.out; simp; omega)).trans a4
  have b5 := (hb1.cell (p := ⟨w.heap.size + 1, 2, none⟩) (by have := lt_of_heap HZ.out; simp; omega)).trans a5
  clear hb1 cE1
  have HBZ := HB1
  obtain ⟨tf, t0, t1, t2⟩ := zero_facts HZ1.out
  have hlz := lt_of_heap HZ1.out
  go_wp2
  exact bodyPost_ret (v := .tuple #[.agg #[.int .i64 0, .int .u32 0, .int .i64 0], .int .i64 3]) (by simp [results, Try.results68, go_sem, t0, t1, t2]) rfl ⟨rfl, (by repeat (first | exact HBZ.out | refine Below.setCell ?_ (by simp <;> omega) _ | refine Below.alloc ?_ (by have := HBZ.out.size; simp; omega) _))⟩
set_option maxHeartbeats 4000000 in
theorem rp_end2_15 (p q : Vl) (op : Int) (ho : op = 15) (hne : ¬ p.block = q.block) (cE1 : ∀ Y, Below w.heap.size w Y → Calls Try.prog 82 #[.pointer (some ⟨rb, 0, none⟩), .agg #[.int .i64 p.kind, .int .u32 p.v, .int .i64 p.block]] Y fun e w' => e = .returned (.bool false) ∧ Below Y.heap.size Y w') (cE2 : ∀ Y, Below w.heap.size w Y → Calls Try.prog 82 #[.pointer (some ⟨rb, 0, none⟩), .agg #[.int .i64 q.kind, .int .u32 q.v, .int .i64 q.block]] Y fun e w' => e = .returned (.bool true) ∧ Below Y.heap.size Y w') :
    Calls Try.prog 68 #[.pointer (some ⟨rb, 0, none⟩), .int .i64 op, .agg #[.int .i64 p.kind, .int .u32 p.v, .int .i64 p.block], .agg #[.int .i64 q.kind, .int .u32 q.v, .int .i64 q.block]] w fun e w' => e = .returned (.tuple #[.agg #[.int .i64 0, .int .u32 0, .int .i64 0], .int .i64 3]) ∧ Below w.heap.size w w' := by
  have hB := BW_below w p q
  obtain ⟨⟨a0, a1, a2⟩, a3, a4, a5⟩ := BW_cells w p q
  have HB : Hid (Below w.heap.size w (BW w p q)) := hB
  have hsz := BW_size w p q
  have HZ : Hid ((BW w p q).heap[w.heap.size + 2]? = some (.cells #[.int .i64 0, .int .u32 0, .int .i64 0] TV (0, 0))) := BW_heap w p q
  have n2 := not_t
  have n3 := not_f
  have hbz := zeroV_box
  have ct := fun Y => tru_true Y
  have cf := fun Y => tru_false Y
  have cN := fun (v : Int) Y => num_c v Y
  have eb := eqb
  have tb : (p.block == q.block) = false := by simpa using hne
  have o14 : (op == 14) = false := by simp; omega
  have o15 : (op == 15) = true := by simpa using ho
  have o2 : (op == 2) = false := by simp; omega
  have o16 : (op == 16) = false := by simp; omega
  have o17 : (op == 17) = false := by simp; omega
  have o18 : (op == 18) = false := by simp; omega
  have o19 : (op == 19) = false := by simp; omega

  clear hB hne ho
  obtain ⟨Wz, hW⟩ : ∃ Wz, Wz = BW w p q := ⟨_, rfl⟩
  go_enter Try.func68, Try.ntmps68
  go_upto_region 1 with (fail)
  refine (?_ : Code.wp _ _ _ _ (BW w p q))
  rw [← hW] at a0 a1 a2 a3 a4 a5 HB hsz HZ ⊢
  clear hW
  go_wp2_with fail
  refine (cE1 _ HB.out).mono ?_; rintro e w1 ⟨rfl, hb1⟩
  have HB1 : Hid (Below w.heap.size w w1) := HB.out.trans (hb1.mono HB.out.size)
  have HZ1 : Hid (w1.heap[w.heap.size + 2]? = some (.cells #[.int .i64 0, .int .u32 0, .int .i64 0] TV (0, 0))) := (hb1.block _ (lt_of_heap HZ.out)).trans HZ.out
  have b0 := (hb1.cell (p := ⟨w.heap.size, 0, none⟩) (by have := lt_of_heap HZ.out; simp; omega)).trans a0
  have b1 := (hb1.cell (p := ⟨w.heap.size, 1, none⟩) (by have := lt_of_heap HZ.out; simp; omega)).trans a1
  have b2 := (hb1.cell (p := ⟨w.heap.size, 2, none⟩) (by have := lt_of_heap HZ.out; simp; omega)).trans a2
  have b3 := (hb1.cell (p := ⟨w.heap.size + 1, 0, none⟩) (by have := lt_of_heap HZ.out; simp; omega)).trans a3
  have b4 := (hb1.cell (p := ⟨w.heap.size + 1, 1, none⟩) (by have := lt_of_heap HZ.out; simp; omega)).trans a4
  have b5 := (hb1.cell (p := ⟨w.heap.size + 1, 2, none⟩) (by have := lt_of_heap HZ.out; simp; omega)).trans a5
  clear hb1 cE1
  go_wp2_with fail
  refine (cE2 _ HB1.out).mono ?_; rintro e w2 ⟨rfl, hb2⟩
  have HB2 : Hid (Below w.heap.size w w2) := HB1.out.trans (hb2.mono HB1.out.size)
  have HZ2 : Hid (w2.heap[w.heap.size + 2]? = some (.cells #[.int .i64 0, .int .u32 0, .int .i64 0] TV (0, 0))) := (hb2.block _ (lt_of_heap HZ1.out)).trans HZ1.out
  have c0 := (hb2.cell (p := ⟨w.heap.size, 0, none⟩) (by have := lt_of_heap HZ1.out; simp; omega)).trans b0
  have c1 := (hb2.cell (p := ⟨w.heap.size, 1, none⟩) (by have := lt_of_heap HZ1.out; simp; omega)).trans b1
  have c2 := (hb2.cell (p := ⟨w.heap.size, 2, none⟩) (by have := lt_of_heap HZ1.out; simp; omega)).trans b2
  have c3 := (hb2.cell (p := ⟨w.heap.size + 1, 0, none⟩) (by have := lt_of_heap HZ1.out; simp; omega)).trans b3
  have c4 := (hb2.cell (p := ⟨w.heap.size + 1, 1, none⟩) (by have := lt_of_heap HZ1.out; simp; omega)).trans b4
  have c5 := (hb2.cell (p := ⟨w.heap.size + 1, 2, none⟩) (by have := lt_of_heap HZ1.out; simp; omega)).trans b5
  clear hb2 cE2
  have HBZ := HB2
  obtain ⟨tf, t0, t1, t2⟩ := zero_facts HZ2.out
  have hlz := lt_of_heap HZ2.out
  go_wp2
  exact bodyPost_ret (v := .tuple #[.agg #[.int .i64 0, .int .u32 0, .int .i64 0], .int .i64 3]) (by simp [results, Try.results68, go_sem, t0, t1, t2]) rfl ⟨rfl, (by repeat (first | exact HBZ.out | refine Below.setCell ?_ (by simp <;> omega) _ | refine Below.alloc ?_ (by have := HBZ.out.size; simp; omega) _))⟩
set_option maxHeartbeats 4000000 in
theorem rp_un_15 (p q : Vl) (op : Int) (ho : op = 15) (hne : ¬ p.block = q.block) (cE1 : ∀ Y, Below w.heap.size w Y → Calls Try.prog 82 #[.pointer (some ⟨rb, 0, none⟩), .agg #[.int .i64 p.kind, .int .u32 p.v, .int .i64 p.block]] Y fun e w' => e = .returned (.bool false) ∧ Below Y.heap.size Y w') (cE2 : ∀ Y, Below w.heap.size w Y → Calls Try.prog 82 #[.pointer (some ⟨rb, 0, none⟩), .agg #[.int .i64 q.kind, .int .u32 q.v, .int .i64 q.block]] Y fun e w' => e = .returned (.bool false) ∧ Below Y.heap.size Y w') :
    Calls Try.prog 68 #[.pointer (some ⟨rb, 0, none⟩), .int .i64 op, .agg #[.int .i64 p.kind, .int .u32 p.v, .int .i64 p.block], .agg #[.int .i64 q.kind, .int .u32 q.v, .int .i64 q.block]] w fun e w' => e = .returned (.tuple #[.agg #[.int .i64 1, .int .u32 1, .int .i64 0], .int .i64 0]) ∧ Below w.heap.size w w' := by
  have hB := BW_below w p q
  obtain ⟨⟨a0, a1, a2⟩, a3, a4, a5⟩ := BW_cells w p q
  have HB : Hid (Below w.heap.size w (BW w p q)) := hB
  have hsz := BW_size w p q
  have HZ : Hid ((BW w p q).heap[w.heap.size + 2]? = some (.cells #[.int .i64 0, .int .u32 0, .int .i64 0] TV (0, 0))) := BW_heap w p q
  have n2 := not_t
  have n3 := not_f
  have hbz := zeroV_box
  have ct := fun Y => tru_true Y
  have cf := fun Y => tru_false Y
  have cN := fun (v : Int) Y => num_c v Y
  have eb := eqb
  have tb : (p.block == q.block) = false := by simpa using hne
  have o14 : (op == 14) = false := by simp; omega
  have o15 : (op == 15) = true := by simpa using ho
  have o2 : (op == 2) = false := by simp; omega
  have o16 : (op == 16) = false := by simp; omega
  have o17 : (op == 17) = false := by simp; omega
  have o18 : (op == 18) = false := by simp; omega
  have o19 : (op == 19) = false := by simp; omega

  clear hB hne ho
  obtain ⟨Wz, hW⟩ : ∃ Wz, Wz = BW w p q := ⟨_, rfl⟩
  go_enter Try.func68, Try.ntmps68
  go_upto_region 1 with (fail)
  refine (?_ : Code.wp _ _ _ _ (BW w p q))
  rw [← hW] at a0 a1 a2 a3 a4 a5 HB hsz HZ ⊢
  clear hW
  go_wp2_with fail
  refine (cE1 _ HB.out).mono ?_; rintro e w1 ⟨rfl, hb1⟩
  have HB1 : Hid (Below w.heap.size w w1) := HB.out.trans (hb1.mono HB.out.size)
  have HZ1 : Hid (w1.heap[w.heap.size + 2]? = some (.cells #[.int .i64 0, .int .u32 0, .int .i64 0] TV (0, 0))) := (hb1.block _ (lt_of_heap HZ.out)).trans HZ.out
  have b0 := (hb1.cell (p := ⟨w.heap.size, 0, none⟩) (by have := lt_of_heap HZ.out; simp; omega)).trans a0
  have b1 := (hb1.cell (p := ⟨w.heap.size, 1, none⟩) (by have := lt_of_heap HZ.out; simp; omega)).trans a1
  have b2 := (hb1.cell (p := ⟨w.heap.size, 2, none⟩) (by have := lt_of_heap HZ.out; simp; omega)).trans a2
  have b3 := (hb1.cell (p := ⟨w.heap.size + 1, 0, none⟩) (by have := lt_of_heap HZ.out; simp; omega)).trans a3
  have b4 := (hb1.cell (p := ⟨w.heap.size + 1, 1, none⟩) (by have := lt_of_heap HZ.out; simp; omega)).trans a4
  have b5 := (hb1.cell (p := ⟨w.heap.size + 1, 2, none⟩) (by have := lt_of_heap HZ.out; simp; omega)).trans a5
  clear hb1 cE1
  go_wp2_with fail
  refine (cE2 _ HB1.out).mono ?_; rintro e w2 ⟨rfl, hb2⟩
  have HB2 : Hid (Below w.heap.size w w2) := HB1.out.trans (hb2.mono HB1.out.size)
  have HZ2 : Hid (w2.heap[w.heap.size + 2]? = some (.cells #[.int .i64 0, .int .u32 0, .int .i64 0] TV (0, 0))) := (hb2.block _ (lt_of_heap HZ1.out)).trans HZ1.out
  have c0 := (hb2.cell (p := ⟨w.heap.size, 0, none⟩) (by have := lt_of_heap HZ1.out; simp; omega)).trans b0
  have c1 := (hb2.cell (p := ⟨w.heap.size, 1, none⟩) (by have := lt_of_heap HZ1.out; simp; omega)).trans b1
  have c2 := (hb2.cell (p := ⟨w.heap.size, 2, none⟩) (by have := lt_of_heap HZ1.out; simp; omega)).trans b2
  have c3 := (hb2.cell (p := ⟨w.heap.size + 1, 0, none⟩) (by have := lt_of_heap HZ1.out; simp; omega)).trans b3
  have c4 := (hb2.cell (p := ⟨w.heap.size + 1, 1, none⟩) (by have := lt_of_heap HZ1.out; simp; omega)).trans b4
  have c5 := (hb2.cell (p := ⟨w.heap.size + 1, 2, none⟩) (by have := lt_of_heap HZ1.out; simp; omega)).trans b5
  clear hb2 cE2
  go_wp2_with fail
  refine (ct _).mono ?_; rintro e w9 ⟨rfl, hb9⟩
  have HBZ : Hid (Below w.heap.size w w9) := HB2.out.trans (hb9.mono HB2.out.size)
  obtain ⟨tf, t0, t1, t2⟩ := zero_facts ((hb9.block _ (lt_of_heap HZ2.out)).trans HZ2.out)
  have hl3 : w.heap.size + 2 < w9.heap.size := World.block_lt_of_cell? w9 _ t0
  clear hb9
  go_wp2
  exact bodyPost_ret (v := .tuple #[.agg #[.int .i64 1, .int .u32 1, .int .i64 0], .int .i64 0]) (by simp [results, Try.results68, go_sem, t0, t1, t2]) rfl ⟨rfl, (by repeat (first | exact HBZ.out | refine Below.setCell ?_ (by simp <;> omega) _ | refine Below.alloc ?_ (by have := HBZ.out.size; simp; omega) _))⟩
set_option maxHeartbeats 4000000 in
theorem rp_eq_15_s (p q : Vl) (op : Int) (ho : op = 15) (heq : p.block = q.block) (hv : p.v = q.v) :
    Calls Try.prog 68 #[.pointer (some ⟨rb, 0, none⟩), .int .i64 op, .agg #[.int .i64 p.kind, .int .u32 p.v, .int .i64 p.block], .agg #[.int .i64 q.kind, .int .u32 q.v, .int .i64 q.block]] w fun e w' => e = .returned (.tuple #[.agg #[.int .i64 1, .int .u32 0, .int .i64 0], .int .i64 0]) ∧ Below w.heap.size w w' := by
  have hB := BW_below w p q
  obtain ⟨⟨a0, a1, a2⟩, a3, a4, a5⟩ := BW_cells w p q
  have HB : Hid (Below w.heap.size w (BW w p q)) := hB
  have hsz := BW_size w p q
  have HZ : Hid ((BW w p q).heap[w.heap.size + 2]? = some (.cells #[.int .i64 0, .int .u32 0, .int .i64 0] TV (0, 0))) := BW_heap w p q
  have n2 := not_t
  have n3 := not_f
  have hbz := zeroV_box
  have ct := fun Y => tru_true Y
  have cf := fun Y => tru_false Y
  have cN := fun (v : Int) Y => num_c v Y
  have eb := eqb
  have tb : (p.block == q.block) = true := by simpa using heq
  have o14 : (op == 14) = false := by simp; omega
  have o15 : (op == 15) = true := by simpa using ho
  have o2 : (op == 2) = false := by simp; omega
  have o16 : (op == 16) = false := by simp; omega
  have o17 : (op == 17) = false := by simp; omega
  have o18 : (op == 18) = false := by simp; omega
  have o19 : (op == 19) = false := by simp; omega
  have tv : (p.v == q.v) = true := by simpa using hv

  clear hB heq ho hv
  obtain ⟨Wz, hW⟩ : ∃ Wz, Wz = BW w p q := ⟨_, rfl⟩
  go_enter Try.func68, Try.ntmps68
  go_upto_region 1 with (fail)
  refine (?_ : Code.wp _ _ _ _ (BW w p q))
  rw [← hW] at a0 a1 a2 a3 a4 a5 HB hsz HZ ⊢
  clear hW
  go_wp2_with fail
  refine (cf _).mono ?_; rintro e w9 ⟨rfl, hb9⟩
  have HBZ : Hid (Below w.heap.size w w9) := HB.out.trans (hb9.mono HB.out.size)
  obtain ⟨tf, t0, t1, t2⟩ := zero_facts ((hb9.block _ (lt_of_heap HZ.out)).trans HZ.out)
  have hl3 : w.heap.size + 2 < w9.heap.size := World.block_lt_of_cell? w9 _ t0
  clear hb9
  go_wp2
  exact bodyPost_ret (v := .tuple #[.agg #[.int .i64 1, .int .u32 0, .int .i64 0], .int .i64 0]) (by simp [results, Try.results68, go_sem, t0, t1, t2]) rfl ⟨rfl, (by repeat (first | exact HBZ.out | refine Below.setCell ?_ (by simp <;> omega) _ | refine Below.alloc ?_ (by have := HBZ.out.size; simp; omega) _))⟩
set_option maxHeartbeats 4000000 in
theorem rp_eq_15_d (p q : Vl) (op : Int) (ho : op = 15) (heq : p.block = q.block) (hv : ¬ p.v = q.v) :
    Calls Try.prog 68 #[.pointer (some ⟨rb, 0, none⟩), .int .i64 op, .agg #[.int .i64 p.kind, .int .u32 p.v, .int .i64 p.block], .agg #[.int .i64 q.kind, .int .u32 q.v, .int .i64 q.block]] w fun e w' => e = .returned (.tuple #[.agg #[.int .i64 1, .int .u32 1, .int .i64 0], .int .i64 0]) ∧ Below w.heap.size w w' := by
  have hB := BW_below w p q
  obtain ⟨⟨a0, a1, a2⟩, a3, a4, a5⟩ := BW_cells w p q
  have HB : Hid (Below w.heap.size w (BW w p q)) := hB
  have hsz := BW_size w p q
  have HZ : Hid ((BW w p q).heap[w.heap.size + 2]? = some (.cells #[.int .i64 0, .int .u32 0, .int .i64 0] TV (0, 0))) := BW_heap w p q
  have n2 := not_t
  have n3 := not_f
  have hbz := zeroV_box
  have ct := fun Y => tru_true Y
  have cf := fun Y => tru_false Y
  have cN := fun (v : Int) Y => num_c v Y
  have eb := eqb
  have tb : (p.block == q.block) = true := by simpa using heq
  have o14 : (op == 14) = false := by simp; omega
  have o15 : (op == 15) = true := by simpa using ho
  have o2 : (op == 2) = false := by simp; omega
  have o16 : (op == 16) = false := by simp; omega
  have o17 : (op == 17) = false := by simp; omega
  have o18 : (op == 18) = false := by simp; omega
  have o19 : (op == 19) = false := by simp; omega
  have tv : (p.v == q.v) = false := by simpa using hv

  clear hB heq ho hv
  obtain ⟨Wz, hW⟩ : ∃ Wz, Wz = BW w p q := ⟨_, rfl⟩
  go_enter Try.func68, Try.ntmps68
  go_upto_region 1 with (fail)
  refine (?_ : Code.wp _ _ _ _ (BW w p q))
  rw [← hW] at a0 a1 a2 a3 a4 a5 HB hsz HZ ⊢
  clear hW
  go_wp2_with fail
  refine (ct _).mono ?_; rintro e w9 ⟨rfl, hb9⟩
  have HBZ : Hid (Below w.heap.size w w9) := HB.out.trans (hb9.mono HB.out.size)
  obtain ⟨tf, t0, t1, t2⟩ := zero_facts ((hb9.block _ (lt_of_heap HZ.out)).trans HZ.out)
  have hl3 : w.heap.size + 2 < w9.heap.size := World.block_lt_of_cell? w9 _ t0
  clear hb9
  go_wp2
  exact bodyPost_ret (v := .tuple #[.agg #[.int .i64 1, .int .u32 1, .int .i64 0], .int .i64 0]) (by simp [results, Try.results68, go_sem, t0, t1, t2]) rfl ⟨rfl, (by repeat (first | exact HBZ.out | refine Below.setCell ?_ (by simp <;> omega) _ | refine Below.alloc ?_ (by have := HBZ.out.size; simp; omega) _))⟩
set_option maxHeartbeats 4000000 in
theorem rp_sub (p q : Vl) (op : Int) (ho : op = 2) (heq : p.block = q.block) :
    Calls Try.prog 68 #[.pointer (some ⟨rb, 0, none⟩), .int .i64 op, .agg #[.int .i64 p.kind, .int .u32 p.v, .int .i64 p.block], .agg #[.int .i64 q.kind, .int .u32 q.v, .int .i64 q.block]] w fun e w' => e = .returned (.tuple #[.agg #[.int .i64 1, .int .u32 ((p.v - q.v) % 4294967296), .int .i64 0], .int .i64 0]) ∧ Below w.heap.size w w' := by
  have hB := BW_below w p q
  obtain ⟨⟨a0, a1, a2⟩, a3, a4, a5⟩ := BW_cells w p q
  have HB : Hid (Below w.heap.size w (BW w p q)) := hB
  have hsz := BW_size w p q
  have HZ : Hid ((BW w p q).heap[w.heap.size + 2]? = some (.cells #[.int .i64 0, .int .u32 0, .int .i64 0] TV (0, 0))) := BW_heap w p q
  have n2 := not_t
  have n3 := not_f
  have hbz := zeroV_box
  have ct := fun Y => tru_true Y
  have cf := fun Y => tru_false Y
  have cN := fun (v : Int) Y => num_c v Y
  have eb := eqb
  have tb : (p.block == q.block) = true := by simpa using heq
  have o14 : (op == 14) = false := by simp; omega
  have o15 : (op == 15) = false := by simp; omega
  have o2 : (op == 2) = true := by simpa using ho
  have o16 : (op == 16) = false := by simp; omega
  have o17 : (op == 17) = false := by simp; omega
  have o18 : (op == 18) = false := by simp; omega
  have o19 : (op == 19) = false := by simp; omega

  clear hB heq ho
  obtain ⟨Wz, hW⟩ : ∃ Wz, Wz = BW w p q := ⟨_, rfl⟩
  go_enter Try.func68, Try.ntmps68
  go_upto_region 1 with (fail)
  refine (?_ : Code.wp _ _ _ _ (BW w p q))
  rw [← hW] at a0 a1 a2 a3 a4 a5 HB hsz HZ ⊢
  clear hW
  go_wp2_with fail
  refine (cN _ _).mono ?_; rintro e w9 ⟨rfl, hb9⟩
  have HBZ : Hid (Below w.heap.size w w9) := HB.out.trans (hb9.mono HB.out.size)
  obtain ⟨tf, t0, t1, t2⟩ := zero_facts ((hb9.block _ (lt_of_heap HZ.out)).trans HZ.out)
  have hl3 : w.heap.size + 2 < w9.heap.size := World.block_lt_of_cell? w9 _ t0
  clear hb9
  go_wp2
  exact bodyPost_ret (v := .tuple #[.agg #[.int .i64 1, .int .u32 ((p.v - q.v) % 4294967296), .int .i64 0], .int .i64 0]) (by simp [results, Try.results68, go_sem, t0, t1, t2]) rfl ⟨rfl, (by repeat (first | exact HBZ.out | refine Below.setCell ?_ (by simp <;> omega) _ | refine Below.alloc ?_ (by have := HBZ.out.size; simp; omega) _))⟩
set_option maxHeartbeats 4000000 in
theorem rp_16_y (p q : Vl) (op : Int) (ho : op = 16) (heq : p.block = q.block) (hv : p.v < q.v) :
    Calls Try.prog 68 #[.pointer (some ⟨rb, 0, none⟩), .int .i64 op, .agg #[.int .i64 p.kind, .int .u32 p.v, .int .i64 p.block], .agg #[.int .i64 q.kind, .int .u32 q.v, .int .i64 q.block]] w fun e w' => e = .returned (.tuple #[.agg #[.int .i64 1, .int .u32 1, .int .i64 0], .int .i64 0]) ∧ Below w.heap.size w w' := by
  have hB := BW_below w p q
  obtain ⟨⟨a0, a1, a2⟩, a3, a4, a5⟩ := BW_cells w p q
  have HB : Hid (Below w.heap.size w (BW w p q)) := hB
  have hsz := BW_size w p q
  have HZ : Hid ((BW w p q).heap[w.heap.size + 2]? = some (.cells #[.int .i64 0, .int .u32 0, .int .i64 0] TV (0, 0))) := BW_heap w p q
  have n2 := not_t
  have n3 := not_f
  have hbz := zeroV_box
  have ct := fun Y => tru_true Y
  have cf := fun Y => tru_false Y
  have cN := fun (v : Int) Y => num_c v Y
  have eb := eqb
  have tb : (p.block == q.block) = true := by simpa using heq
  have o14 : (op == 14) = false := by simp; omega
  have o15 : (op == 15) = false := by simp; omega
  have o2 : (op == 2) = false := by simp; omega
  have o16 : (op == 16) = true := by simpa using ho
  have o17 : (op == 17) = false := by simp; omega
  have o18 : (op == 18) = false := by simp; omega
  have o19 : (op == 19) = false := by simp; omega
  have tv : decide (p.v < q.v) = true := by simpa using hv

  clear hB heq ho hv
  obtain ⟨Wz, hW⟩ : ∃ Wz, Wz = BW w p q := ⟨_, rfl⟩
  go_enter Try.func68, Try.ntmps68
  go_upto_region 1 with (fail)
  refine (?_ : Code.wp _ _ _ _ (BW w p q))
  rw [← hW] at a0 a1 a2 a3 a4 a5 HB hsz HZ ⊢
  clear hW
  go_wp2_with fail
  refine (ct _).mono ?_; rintro e w9 ⟨rfl, hb9⟩
  have HBZ : Hid (Below w.heap.size w w9) := HB.out.trans (hb9.mono HB.out.size)
  obtain ⟨tf, t0, t1, t2⟩ := zero_facts ((hb9.block _ (lt_of_heap HZ.out)).trans HZ.out)
  have hl3 : w.heap.size + 2 < w9.heap.size := World.block_lt_of_cell? w9 _ t0
  clear hb9
  go_wp2
  exact bodyPost_ret (v := .tuple #[.agg #[.int .i64 1, .int .u32 1, .int .i64 0], .int .i64 0]) (by simp [results, Try.results68, go_sem, t0, t1, t2]) rfl ⟨rfl, (by repeat (first | exact HBZ.out | refine Below.setCell ?_ (by simp <;> omega) _ | refine Below.alloc ?_ (by have := HBZ.out.size; simp; omega) _))⟩
set_option maxHeartbeats 4000000 in
theorem rp_16_n (p q : Vl) (op : Int) (ho : op = 16) (heq : p.block = q.block) (hv : ¬ p.v < q.v) :
    Calls Try.prog 68 #[.pointer (some ⟨rb, 0, none⟩), .int .i64 op, .agg #[.int .i64 p.kind, .int .u32 p.v, .int .i64 p.block], .agg #[.int .i64 q.kind, .int .u32 q.v, .int .i64 q.block]] w fun e w' => e = .returned (.tuple #[.agg #[.int .i64 1, .int .u32 0, .int .i64 0], .int .i64 0]) ∧ Below w.heap.size w w' := by
  have hB := BW_below w p q
  obtain ⟨⟨a0, a1, a2⟩, a3, a4, a5⟩ := BW_cells w p q
  have HB : Hid (Below w.heap.size w (BW w p q)) := hB
  have hsz := BW_size w p q
  have HZ : Hid ((BW w p q).heap[w.heap.size + 2]? = some (.cells #[.int .i64 0, .int .u32 0, .int .i64 0] TV (0, 0))) := BW_heap w p q
  have n2 := not_t
  have n3 := not_f
  have hbz := zeroV_box
  have ct := fun Y => tru_true Y
  have cf := fun Y => tru_false Y
  have cN := fun (v : Int) Y => num_c v Y
  have eb := eqb
  have tb : (p.block == q.block) = true := by simpa using heq
  have o14 : (op == 14) = false := by simp; omega
  have o15 : (op == 15) = false := by simp; omega
  have o2 : (op == 2) = false := by simp; omega
  have o16 : (op == 16) = true := by simpa using ho
  have o17 : (op == 17) = false := by simp; omega
  have o18 : (op == 18) = false := by simp; omega
  have o19 : (op == 19) = false := by simp; omega
  have tv : decide (p.v < q.v) = false := by simpa using hv

  clear hB heq ho hv
  obtain ⟨Wz, hW⟩ : ∃ Wz, Wz = BW w p q := ⟨_, rfl⟩
  go_enter Try.func68, Try.ntmps68
  go_upto_region 1 with (fail)
  refine (?_ : Code.wp _ _ _ _ (BW w p q))
  rw [← hW] at a0 a1 a2 a3 a4 a5 HB hsz HZ ⊢
  clear hW
  go_wp2_with fail
  refine (cf _).mono ?_; rintro e w9 ⟨rfl, hb9⟩
  have HBZ : Hid (Below w.heap.size w w9) := HB.out.trans (hb9.mono HB.out.size)
  obtain ⟨tf, t0, t1, t2⟩ := zero_facts ((hb9.block _ (lt_of_heap HZ.out)).trans HZ.out)
  have hl3 : w.heap.size + 2 < w9.heap.size := World.block_lt_of_cell? w9 _ t0
  clear hb9
  go_wp2
  exact bodyPost_ret (v := .tuple #[.agg #[.int .i64 1, .int .u32 0, .int .i64 0], .int .i64 0]) (by simp [results, Try.results68, go_sem, t0, t1, t2]) rfl ⟨rfl, (by repeat (first | exact HBZ.out | refine Below.setCell ?_ (by simp <;> omega) _ | refine Below.alloc ?_ (by have := HBZ.out.size; simp; omega) _))⟩
set_option maxHeartbeats 4000000 in
theorem rp_17_y (p q : Vl) (op : Int) (ho : op = 17) (heq : p.block = q.block) (hv : p.v < q.v) :
    Calls Try.prog 68 #[.pointer (some ⟨rb, 0, none⟩), .int .i64 op, .agg #[.int .i64 p.kind, .int .u32 p.v, .int .i64 p.block], .agg #[.int .i64 q.kind, .int .u32 q.v, .int .i64 q.block]] w fun e w' => e = .returned (.tuple #[.agg #[.int .i64 1, .int .u32 1, .int .i64 0], .int .i64 0]) ∧ Below w.heap.size w w' := by
  have hB := BW_below w p q
  obtain ⟨⟨a0, a1, a2⟩, a3, a4, a5⟩ := BW_cells w p q
  have HB : Hid (Below w.heap.size w (BW w p q)) := hB
  have hsz := BW_size w p q
  have HZ : Hid ((BW w p q).heap[w.heap.size + 2]? = some (.cells #[.int .i64 0, .int .u32 0, .int .i64 0] TV (0, 0))) := BW_heap w p q
  have n2 := not_t
  have n3 := not_f
  have hbz := zeroV_box
  have ct := fun Y => tru_true Y
  have cf := fun Y => tru_false Y
  have cN := fun (v : Int) Y => num_c v Y
  have eb := eqb
  have tb : (p.block == q.block) = true := by simpa using heq
  have o14 : (op == 14) = false := by simp; omega
  have o15 : (op == 15) = false := by simp; omega
  have o2 : (op == 2) = false := by simp; omega
  have o16 : (op == 16) = false := by simp; omega
  have o17 : (op == 17) = true := by simpa using ho
  have o18 : (op == 18) = false := by simp; omega
  have o19 : (op == 19) = false := by simp; omega
  have tv : decide (p.v < q.v) = true := by simpa using hv

  clear hB heq ho hv
  obtain ⟨Wz, hW⟩ : ∃ Wz, Wz = BW w p q := ⟨_, rfl⟩
  go_enter Try.func68, Try.ntmps68
  go_upto_region 1 with (fail)
  refine (?_ : Code.wp _ _ _ _ (BW w p q))
  rw [← hW] at a0 a1 a2 a3 a4 a5 HB hsz HZ ⊢
  clear hW
  go_wp2_with fail
  refine (ct _).mono ?_; rintro e w9 ⟨rfl, hb9⟩
  have HBZ : Hid (Below w.heap.size w w9) := HB.out.trans (hb9.mono HB.out.size)
  obtain ⟨tf, t0, t1, t2⟩ := zero_facts ((hb9.block _ (lt_of_heap HZ.out)).trans HZ.out)
  have hl3 : w.heap.size + 2 < w9.heap.size := World.block_lt_of_cell? w9 _ t0
  clear hb9
  go_wp2
  exact bodyPost_ret (v := .tuple #[.agg #[.int .i64 1, .int .u32 1, .int .i64 0], .int .i64 0]) (by simp [results, Try.results68, go_sem, t0, t1, t2]) rfl ⟨rfl, (by repeat (first | exact HBZ.out | refine Below.setCell ?_ (by simp <;> omega) _ | refine Below.alloc ?_ (by have := HBZ.out.size; simp; omega) _))⟩
set_option maxHeartbeats 4000000 in
theorem rp_17_n (p q : Vl) (op : Int) (ho : op = 17) (heq : p.block = q.block) (hv : ¬ p.v < q.v) :
    Calls Try.prog 68 #[.pointer (some ⟨rb, 0, none⟩), .int .i64 op, .agg #[.int .i64 p.kind, .int .u32 p.v, .int .i64 p.block], .agg #[.int .i64 q.kind, .int .u32 q.v, .int .i64 q.block]] w fun e w' => e = .returned (.tuple #[.agg #[.int .i64 1, .int .u32 0, .int .i64 0], .int .i64 0]) ∧ Below w.heap.size w w' := by
  have hB := BW_below w p q
  obtain ⟨⟨a0, a1, a2⟩, a3, a4, a5⟩ := BW_cells w p q
  have HB : Hid (Below w.heap.size w (BW w p q)) := hB
  have hsz := BW_size w p q
  have HZ : Hid ((BW w p q).heap[w.heap.size + 2]? = some (.cells #[.int .i64 0, .int .u32 0, .int .i64 0] TV (0, 0))) := BW_heap w p q
  have n2 := not_t
  have n3 := not_f
  have hbz := zeroV_box
  have ct := fun Y => tru_true Y
  have cf := fun Y => tru_false Y
  have cN := fun (v : Int) Y => num_c v Y
  have eb := eqb
  have tb : (p.block == q.block) = true := by simpa using heq
  have o14 : (op == 14) = false := by simp; omega
  have o15 : (op == 15) = false := by simp; omega
  have o2 : (op == 2) = false := by simp; omega
  have o16 : (op == 16) = false := by simp; omega
  have o17 : (op == 17) = true := by simpa using ho
  have o18 : (op == 18) = false := by simp; omega
  have o19 : (op == 19) = false := by simp; omega
  have tv : decide (p.v < q.v) = false := by simpa using hv

  clear hB heq ho hv
  obtain ⟨Wz, hW⟩ : ∃ Wz, Wz = BW w p q := ⟨_, rfl⟩
  go_enter Try.func68, Try.ntmps68
  go_upto_region 1 with (fail)
  refine (?_ : Code.wp _ _ _ _ (BW w p q))
  rw [← hW] at a0 a1 a2 a3 a4 a5 HB hsz HZ ⊢
  clear hW
  go_wp2_with fail
  refine (cf _).mono ?_; rintro e w9 ⟨rfl, hb9⟩
  have HBZ : Hid (Below w.heap.size w w9) := HB.out.trans (hb9.mono HB.out.size)
  obtain ⟨tf, t0, t1, t2⟩ := zero_facts ((hb9.block _ (lt_of_heap HZ.out)).trans HZ.out)
  have hl3 : w.heap.size + 2 < w9.heap.size := World.block_lt_of_cell? w9 _ t0
  clear hb9
  go_wp2
  exact bodyPost_ret (v := .tuple #[.agg #[.int .i64 1, .int .u32 0, .int .i64 0], .int .i64 0]) (by simp [results, Try.results68, go_sem, t0, t1, t2]) rfl ⟨rfl, (by repeat (first | exact HBZ.out | refine Below.setCell ?_ (by simp <;> omega) _ | refine Below.alloc ?_ (by have := HBZ.out.size; simp; omega) _))⟩
set_option maxHeartbeats 4000000 in
theorem rp_18_y (p q : Vl) (op : Int) (ho : op = 18) (heq : p.block = q.block) (hv : p.v ≤ q.v) :
    Calls Try.prog 68 #[.pointer (some ⟨rb, 0, none⟩), .int .i64 op, .agg #[.int .i64 p.kind, .int .u32 p.v, .int .i64 p.block], .agg #[.int .i64 q.kind, .int .u32 q.v, .int .i64 q.block]] w fun e w' => e = .returned (.tuple #[.agg #[.int .i64 1, .int .u32 1, .int .i64 0], .int .i64 0]) ∧ Below w.heap.size w w' := by
  have hB := BW_below w p q
  obtain ⟨⟨a0, a1, a2⟩, a3, a4, a5⟩ := BW_cells w p q
  have HB : Hid (Below w.heap.size w (BW w p q)) := hB
  have hsz := BW_size w p q
  have HZ : Hid ((BW w p q).heap[w.heap.size + 2]? = some (.cells #[.int .i64 0, .int .u32 0, .int .i64 0] TV (0, 0))) := BW_heap w p q
  have n2 := not_t
  have n3 := not_f
  have hbz := zeroV_box
  have ct := fun Y => tru_true Y
  have cf := fun Y => tru_false Y
  have cN := fun (v : Int) Y => num_c v Y
  have eb := eqb
  have tb : (p.block == q.block) = true := by simpa using heq
  have o14 : (op == 14) = false := by simp; omega
  have o15 : (op == 15) = false := by simp; omega
  have o2 : (op == 2) = false := by simp; omega
  have o16 : (op == 16) = false := by simp; omega
  have o17 : (op == 17) = false := by simp; omega
  have o18 : (op == 18) = true := by simpa using ho
  have o19 : (op == 19) = false := by simp; omega
  have tv : decide (p.v ≤ q.v) = true := by simpa using hv

  clear hB heq ho hv
  obtain ⟨Wz, hW⟩ : ∃ Wz, Wz = BW w p q := ⟨_, rfl⟩
  go_enter Try.func68, Try.ntmps68
  go_upto_region 1 with (fail)
  refine (?_ : Code.wp _ _ _ _ (BW w p q))
  rw [← hW] at a0 a1 a2 a3 a4 a5 HB hsz HZ ⊢
  clear hW
  go_wp2_with fail
  refine (ct _).mono ?_; rintro e w9 ⟨rfl, hb9⟩
  have HBZ : Hid (Below w.heap.size w w9) := HB.out.trans (hb9.mono HB.out.size)
  obtain ⟨tf, t0, t1, t2⟩ := zero_facts ((hb9.block _ (lt_of_heap HZ.out)).trans HZ.out)
  have hl3 : w.heap.size + 2 < w9.heap.size := World.block_lt_of_cell? w9 _ t0
  clear hb9
  go_wp2
  exact bodyPost_ret (v := .tuple #[.agg #[.int .i64 1, .int .u32 1, .int .i64 0], .int .i64 0]) (by simp [results, Try.results68, go_sem, t0, t1, t2]) rfl ⟨rfl, (by repeat (first | exact HBZ.out | refine Below.setCell ?_ (by simp <;> omega) _ | refine Below.alloc ?_ (by have := HBZ.out.size; simp; omega) _))⟩
set_option maxHeartbeats 4000000 in
theorem rp_18_n (p q : Vl) (op : Int) (ho : op = 18) (heq : p.block = q.block) (hv : ¬ p.v ≤ q.v) :
    Calls Try.prog 68 #[.pointer (some ⟨rb, 0, none⟩), .int .i64 op, .agg #[.int .i64 p.kind, .int .u32 p.v, .int .i64 p.block], .agg #[.int .i64 q.kind, .int .u32 q.v, .int .i64 q.block]] w fun e w' => e = .returned (.tuple #[.agg #[.int .i64 1, .int .u32 0, .int .i64 0], .int .i64 0]) ∧ Below w.heap.size w w' := by
  have hB := BW_below w p q
  obtain ⟨⟨a0, a1, a2⟩, a3, a4, a5⟩ := BW_cells w p q
  have HB : Hid (Below w.heap.size w (BW w p q)) := hB
  have hsz := BW_size w p q
  have HZ : Hid ((BW w p q).heap[w.heap.size + 2]? = some (.cells #[.int .i64 0, .int .u32 0, .int .i64 0] TV (0, 0))) := BW_heap w p q
  have n2 := not_t
  have n3 := not_f
  have hbz := zeroV_box
  have ct := fun Y => tru_true Y
  have cf := fun Y => tru_false Y
  have cN := fun (v : Int) Y => num_c v Y
  have eb := eqb
  have tb : (p.block == q.block) = true := by simpa using heq
  have o14 : (op == 14) = false := by simp; omega
  have o15 : (op == 15) = false := by simp; omega
  have o2 : (op == 2) = false := by simp; omega
  have o16 : (op == 16) = false := by simp; omega
  have o17 : (op == 17) = false := by simp; omega
  have o18 : (op == 18) = true := by simpa using ho
  have o19 : (op == 19) = false := by simp; omega
  have tv : decide (p.v ≤ q.v) = false := by simpa using hv

  clear hB heq ho hv
  obtain ⟨Wz, hW⟩ : ∃ Wz, Wz = BW w p q := ⟨_, rfl⟩
  go_enter Try.func68, Try.ntmps68
  go_upto_region 1 with (fail)
  refine (?_ : Code.wp _ _ _ _ (BW w p q))
  rw [← hW] at a0 a1 a2 a3 a4 a5 HB hsz HZ ⊢
  clear hW
  go_wp2_with fail
  refine (cf _).mono ?_; rintro e w9 ⟨rfl, hb9⟩
  have HBZ : Hid (Below w.heap.size w w9) := HB.out.trans (hb9.mono HB.out.size)
  obtain ⟨tf, t0, t1, t2⟩ := zero_facts ((hb9.block _ (lt_of_heap HZ.out)).trans HZ.out)
  have hl3 : w.heap.size + 2 < w9.heap.size := World.block_lt_of_cell? w9 _ t0
  clear hb9
  go_wp2
  exact bodyPost_ret (v := .tuple #[.agg #[.int .i64 1, .int .u32 0, .int .i64 0], .int .i64 0]) (by simp [results, Try.results68, go_sem, t0, t1, t2]) rfl ⟨rfl, (by repeat (first | exact HBZ.out | refine Below.setCell ?_ (by simp <;> omega) _ | refine Below.alloc ?_ (by have := HBZ.out.size; simp; omega) _))⟩
set_option maxHeartbeats 4000000 in
theorem rp_19_y (p q : Vl) (op : Int) (ho : op = 19) (heq : p.block = q.block) (hv : p.v ≤ q.v) :
    Calls Try.prog 68 #[.pointer (some ⟨rb, 0, none⟩), .int .i64 op, .agg #[.int .i64 p.kind, .int .u32 p.v, .int .i64 p.block], .agg #[.int .i64 q.kind, .int .u32 q.v, .int .i64 q.block]] w fun e w' => e = .returned (.tuple #[.agg #[.int .i64 1, .int .u32 1, .int .i64 0], .int .i64 0]) ∧ Below w.heap.size w w' := by
  have hB := BW_below w p q
  obtain ⟨⟨a0, a1, a2⟩, a3, a4, a5⟩ := BW_cells w p q
  have HB : Hid (Below w.heap.size w (BW w p q)) := hB
  have hsz := BW_size w p q
  have HZ : Hid ((BW w p q).heap[w.heap.size + 2]? = some (.cells #[.int .i64 0, .int .u32 0, .int .i64 0] TV (0, 0))) := BW_heap w p q
  have n2 := not_t
  have n3 := not_f
  have hbz := zeroV_box
  have ct := fun Y => tru_true Y
  have cf := fun Y => tru_false Y
  have cN := fun (v : Int) Y => num_c v Y
  have eb := eqb
  have tb : (p.block == q.block) = true := by simpa using heq
  have o14 : (op == 14) = false := by simp; omega
  have o15 : (op == 15) = false := by simp; omega
  have o2 : (op == 2) = false := by simp; omega
  have o16 : (op == 16) = false := by simp; omega
  have o17 : (op == 17) = false := by simp; omega
  have o18 : (op == 18) = false := by simp; omega
  have o19 : (op == 19) = true := by simpa using ho
  have tv : decide (p.v ≤ q.v) = true := by simpa using hv

  clear hB heq ho hv
  obtain ⟨Wz, hW⟩ : ∃ Wz, Wz = BW w p q := ⟨_, rfl⟩
  go_enter Try.func68, Try.ntmps68
  go_upto_region 1 with (fail)
  refine (?_ : Code.wp _ _ _ _ (BW w p q))
  rw [← hW] at a0 a1 a2 a3 a4 a5 HB hsz HZ ⊢
  clear hW
  go_wp2_with fail
  refine (ct _).mono ?_; rintro e w9 ⟨rfl, hb9⟩
  have HBZ : Hid (Below w.heap.size w w9) := HB.out.trans (hb9.mono HB.out.size)
  obtain ⟨tf, t0, t1, t2⟩ := zero_facts ((hb9.block _ (lt_of_heap HZ.out)).trans HZ.out)
  have hl3 : w.heap.size + 2 < w9.heap.size := World.block_lt_of_cell? w9 _ t0
  clear hb9
  go_wp2
  exact bodyPost_ret (v := .tuple #[.agg #[.int .i64 1, .int .u32 1, .int .i64 0], .int .i64 0]) (by simp [results, Try.results68, go_sem, t0, t1, t2]) rfl ⟨rfl, (by repeat (first | exact HBZ.out | refine Below.setCell ?_ (by simp <;> omega) _ | refine Below.alloc ?_ (by have := HBZ.out.size; simp; omega) _))⟩
set_option maxHeartbeats 4000000 in
theorem rp_19_n (p q : Vl) (op : Int) (ho : op = 19) (heq : p.block = q.block) (hv : ¬ p.v ≤ q.v) :
    Calls Try.prog 68 #[.pointer (some ⟨rb, 0, none⟩), .int .i64 op, .agg #[.int .i64 p.kind, .int .u32 p.v, .int .i64 p.block], .agg #[.int .i64 q.kind, .int .u32 q.v, .int .i64 q.block]] w fun e w' => e = .returned (.tuple #[.agg #[.int .i64 1, .int .u32 0, .int .i64 0], .int .i64 0]) ∧ Below w.heap.size w w' := by
  have hB := BW_below w p q
  obtain ⟨⟨a0, a1, a2⟩, a3, a4, a5⟩ := BW_cells w p q
  have HB : Hid (Below w.heap.size w (BW w p q)) := hB
  have hsz := BW_size w p q
  have HZ : Hid ((BW w p q).heap[w.heap.size + 2]? = some (.cells #[.int .i64 0, .int .u32 0, .int .i64 0] TV (0, 0))) := BW_heap w p q
  have n2 := not_t
  have n3 := not_f
  have hbz := zeroV_box
  have ct := fun Y => tru_true Y
  have cf := fun Y => tru_false Y
  have cN := fun (v : Int) Y => num_c v Y
  have eb := eqb
  have tb : (p.block == q.block) = true := by simpa using heq
  have o14 : (op == 14) = false := by simp; omega
  have o15 : (op == 15) = false := by simp; omega
  have o2 : (op == 2) = false := by simp; omega
  have o16 : (op == 16) = false := by simp; omega
  have o17 : (op == 17) = false := by simp; omega
  have o18 : (op == 18) = false := by simp; omega
  have o19 : (op == 19) = true := by simpa using ho
  have tv : decide (p.v ≤ q.v) = false := by simpa using hv

  clear hB heq ho hv
  obtain ⟨Wz, hW⟩ : ∃ Wz, Wz = BW w p q := ⟨_, rfl⟩
  go_enter Try.func68, Try.ntmps68
  go_upto_region 1 with (fail)
  refine (?_ : Code.wp _ _ _ _ (BW w p q))
  rw [← hW] at a0 a1 a2 a3 a4 a5 HB hsz HZ ⊢
  clear hW
  go_wp2_with fail
  refine (cf _).mono ?_; rintro e w9 ⟨rfl, hb9⟩
  have HBZ : Hid (Below w.heap.size w w9) := HB.out.trans (hb9.mono HB.out.size)
  obtain ⟨tf, t0, t1, t2⟩ := zero_facts ((hb9.block _ (lt_of_heap HZ.out)).trans HZ.out)
  have hl3 : w.heap.size + 2 < w9.heap.size := World.block_lt_of_cell? w9 _ t0
  clear hb9
  go_wp2
  exact bodyPost_ret (v := .tuple #[.agg #[.int .i64 1, .int .u32 0, .int .i64 0], .int .i64 0]) (by simp [results, Try.results68, go_sem, t0, t1, t2]) rfl ⟨rfl, (by repeat (first | exact HBZ.out | refine Below.setCell ?_ (by simp <;> omega) _ | refine Below.alloc ?_ (by have := HBZ.out.size; simp; omega) _))⟩
set_option maxHeartbeats 4000000 in
theorem rp_no_2 (p q : Vl) (op : Int) (ho : op = 2) (hne : ¬ p.block = q.block) :
    Calls Try.prog 68 #[.pointer (some ⟨rb, 0, none⟩), .int .i64 op, .agg #[.int .i64 p.kind, .int .u32 p.v, .int .i64 p.block], .agg #[.int .i64 q.kind, .int .u32 q.v, .int .i64 q.block]] w fun e w' => e = .returned (.tuple #[.agg #[.int .i64 0, .int .u32 0, .int .i64 0], .int .i64 3]) ∧ Below w.heap.size w w' := by
  have hB := BW_below w p q
  obtain ⟨⟨a0, a1, a2⟩, a3, a4, a5⟩ := BW_cells w p q
  have HB : Hid (Below w.heap.size w (BW w p q)) := hB
  have hsz := BW_size w p q
  have HZ : Hid ((BW w p q).heap[w.heap.size + 2]? = some (.cells #[.int .i64 0, .int .u32 0, .int .i64 0] TV (0, 0))) := BW_heap w p q
  have n2 := not_t
  have n3 := not_f
  have hbz := zeroV_box
  have ct := fun Y => tru_true Y
  have cf := fun Y => tru_false Y
  have cN := fun (v : Int) Y => num_c v Y
  have eb := eqb
  have tb : (p.block == q.block) = false := by simpa using hne
  have o14 : (op == 14) = false := by simp; omega
  have o15 : (op == 15) = false := by simp; omega
  have o2 : (op == 2) = true := by simpa using ho
  have o16 : (op == 16) = false := by simp; omega
  have o17 : (op == 17) = false := by simp; omega
  have o18 : (op == 18) = false := by simp; omega
  have o19 : (op == 19) = false := by simp; omega

  clear hB hne ho
  obtain ⟨Wz, hW⟩ : ∃ Wz, Wz = BW w p q := ⟨_, rfl⟩
  go_enter Try.func68, Try.ntmps68
  go_upto_region 1 with (fail)
  refine (?_ : Code.wp _ _ _ _ (BW w p q))
  rw [← hW] at a0 a1 a2 a3 a4 a5 HB hsz HZ ⊢
  clear hW
  have HBZ := HB
  obtain ⟨tf, t0, t1, t2⟩ := zero_facts HZ.out
  have hlz := lt_of_heap HZ.out
  go_wp2
  exact bodyPost_ret (v := .tuple #[.agg #[.int .i64 0, .int .u32 0, .int .i64 0], .int .i64 3]) (by simp [results, Try.results68, go_sem, t0, t1, t2]) rfl ⟨rfl, (by repeat (first | exact HBZ.out | refine Below.setCell ?_ (by simp <;> omega) _ | refine Below.alloc ?_ (by have := HBZ.out.size; simp; omega) _))⟩
set_option maxHeartbeats 4000000 in
theorem rp_no_16 (p q : Vl) (op : Int) (ho : op = 16) (hne : ¬ p.block = q.block) :
    Calls Try.prog 68 #[.pointer (some ⟨rb, 0, none⟩), .int .i64 op, .agg #[.int .i64 p.kind, .int .u32 p.v, .int .i64 p.block], .agg #[.int .i64 q.kind, .int .u32 q.v, .int .i64 q.block]] w fun e w' => e = .returned (.tuple #[.agg #[.int .i64 0, .int .u32 0, .int .i64 0], .int .i64 3]) ∧ Below w.heap.size w w' := by
  have hB := BW_below w p q
  obtain ⟨⟨a0, a1, a2⟩, a3, a4, a5⟩ := BW_cells w p q
  have HB : Hid (Below w.heap.size w (BW w p q)) := hB
  have hsz := BW_size w p q
  have HZ : Hid ((BW w p q).heap[w.heap.size + 2]? = some (.cells #[.int .i64 0, .int .u32 0, .int .i64 0] TV (0, 0))) := BW_heap w p q
  have n2 := not_t
  have n3 := not_f
  have hbz := zeroV_box
  have ct := fun Y => tru_true Y
  have cf := fun Y => tru_false Y
  have cN := fun (v : Int) Y => num_c v Y
  have eb := eqb
  have tb : (p.block == q.block) = false := by simpa using hne
  have o14 : (op == 14) = false := by simp; omega
  have o15 : (op == 15) = false := by simp; omega
  have o2 : (op == 2) = false := by simp; omega
  have o16 : (op == 16) = true := by simpa using ho
  have o17 : (op == 17) = false := by simp; omega
  have o18 : (op == 18) = false := by simp; omega
  have o19 : (op == 19) = false := by simp; omega

  clear hB hne ho
  obtain ⟨Wz, hW⟩ : ∃ Wz, Wz = BW w p q := ⟨_, rfl⟩
  go_enter Try.func68, Try.ntmps68
  go_upto_region 1 with (fail)
  refine (?_ : Code.wp _ _ _ _ (BW w p q))
  rw [← hW] at a0 a1 a2 a3 a4 a5 HB hsz HZ ⊢
  clear hW
  have HBZ := HB
  obtain ⟨tf, t0, t1, t2⟩ := zero_facts HZ.out
  have hlz := lt_of_heap HZ.out
  go_wp2
  exact bodyPost_ret (v := .tuple #[.agg #[.int .i64 0, .int .u32 0, .int .i64 0], .int .i64 3]) (by simp [results, Try.results68, go_sem, t0, t1, t2]) rfl ⟨rfl, (by repeat (first | exact HBZ.out | refine Below.setCell ?_ (by simp <;> omega) _ | refine Below.alloc ?_ (by have := HBZ.out.size; simp; omega) _))⟩
set_option maxHeartbeats 4000000 in
theorem rp_no_17 (p q : Vl) (op : Int) (ho : op = 17) (hne : ¬ p.block = q.block) :
    Calls Try.prog 68 #[.pointer (some ⟨rb, 0, none⟩), .int .i64 op, .agg #[.int .i64 p.kind, .int .u32 p.v, .int .i64 p.block], .agg #[.int .i64 q.kind, .int .u32 q.v, .int .i64 q.block]] w fun e w' => e = .returned (.tuple #[.agg #[.int .i64 0, .int .u32 0, .int .i64 0], .int .i64 3]) ∧ Below w.heap.size w w' := by
  have hB := BW_below w p q
  obtain ⟨⟨a0, a1, a2⟩, a3, a4, a5⟩ := BW_cells w p q
  have HB : Hid (Below w.heap.size w (BW w p q)) := hB
  have hsz := BW_size w p q
  have HZ : Hid ((BW w p q).heap[w.heap.size + 2]? = some (.cells #[.int .i64 0, .int .u32 0, .int .i64 0] TV (0, 0))) := BW_heap w p q
  have n2 := not_t
  have n3 := not_f
  have hbz := zeroV_box
  have ct := fun Y => tru_true Y
  have cf := fun Y => tru_false Y
  have cN := fun (v : Int) Y => num_c v Y
  have eb := eqb
  have tb : (p.block == q.block) = false := by simpa using hne
  have o14 : (op == 14) = false := by simp; omega
  have o15 : (op == 15) = false := by simp; omega
  have o2 : (op == 2) = false := by simp; omega
  have o16 : (op == 16) = false := by simp; omega
  have o17 : (op == 17) = true := by simpa using ho
  have o18 : (op == 18) = false := by simp; omega
  have o19 : (op == 19) = false := by simp; omega

  clear hB hne ho
  obtain ⟨Wz, hW⟩ : ∃ Wz, Wz = BW w p q := ⟨_, rfl⟩
  go_enter Try.func68, Try.ntmps68
  go_upto_region 1 with (fail)
  refine (?_ : Code.wp _ _ _ _ (BW w p q))
  rw [← hW] at a0 a1 a2 a3 a4 a5 HB hsz HZ ⊢
  clear hW
  have HBZ := HB
  obtain ⟨tf, t0, t1, t2⟩ := zero_facts HZ.out
  have hlz := lt_of_heap HZ.out
  go_wp2
  exact bodyPost_ret (v := .tuple #[.agg #[.int .i64 0, .int .u32 0, .int .i64 0], .int .i64 3]) (by simp [results, Try.results68, go_sem, t0, t1, t2]) rfl ⟨rfl, (by repeat (first | exact HBZ.out | refine Below.setCell ?_ (by simp <;> omega) _ | refine Below.alloc ?_ (by have := HBZ.out.size; simp; omega) _))⟩
set_option maxHeartbeats 4000000 in
theorem rp_no_18 (p q : Vl) (op : Int) (ho : op = 18) (hne : ¬ p.block = q.block) :
    Calls Try.prog 68 #[.pointer (some ⟨rb, 0, none⟩), .int .i64 op, .agg #[.int .i64 p.kind, .int .u32 p.v, .int .i64 p.block], .agg #[.int .i64 q.kind, .int .u32 q.v, .int .i64 q.block]] w fun e w' => e = .returned (.tuple #[.agg #[.int .i64 0, .int .u32 0, .int .i64 0], .int .i64 3]) ∧ Below w.heap.size w w' := by
  have hB := BW_below w p q
  obtain ⟨⟨a0, a1, a2⟩, a3, a4, a5⟩ := BW_cells w p q
  have HB : Hid (Below w.heap.size w (BW w p q)) := hB
  have hsz := BW_size w p q
  have HZ : Hid ((BW w p q).heap[w.heap.size + 2]? = some (.cells #[.int .i64 0, .int .u32 0, .int .i64 0] TV (0, 0))) := BW_heap w p q
  have n2 := not_t
  have n3 := not_f
  have hbz := zeroV_box
  have ct := fun Y => tru_true Y
  have cf := fun Y => tru_false Y
  have cN := fun (v : Int) Y => num_c v Y
  have eb := eqb
  have tb : (p.block == q.block) = false := by simpa using hne
  have o14 : (op == 14) = false := by simp; omega
  have o15 : (op == 15) = false := by simp; omega
  have o2 : (op == 2) = false := by simp; omega
  have o16 : (op == 16) = false := by simp; omega
  have o17 : (op == 17) = false := by simp; omega
  have o18 : (op == 18) = true := by simpa using ho
  have o19 : (op == 19) = false := by simp; omega

  clear hB hne ho
  obtain ⟨Wz, hW⟩ : ∃ Wz, Wz = BW w p q := ⟨_, rfl⟩
  go_enter Try.func68, Try.ntmps68
  go_upto_region 1 with (fail)
  refine (?_ : Code.wp _ _ _ _ (BW w p q))
  rw [← hW] at a0 a1 a2 a3 a4 a5 HB hsz HZ ⊢
  clear hW
  have HBZ := HB
  obtain ⟨tf, t0, t1, t2⟩ := zero_facts HZ.out
  have hlz := lt_of_heap HZ.out
  go_wp2
  exact bodyPost_ret (v := .tuple #[.agg #[.int .i64 0, .int .u32 0, .int .i64 0], .int .i64 3]) (by simp [results, Try.results68, go_sem, t0, t1, t2]) rfl ⟨rfl, (by repeat (first | exact HBZ.out | refine Below.setCell ?_ (by simp <;> omega) _ | refine Below.alloc ?_ (by have := HBZ.out.size; simp; omega) _))⟩
set_option maxHeartbeats 4000000 in
theorem rp_no_19 (p q : Vl) (op : Int) (ho : op = 19) (hne : ¬ p.block = q.block) :
    Calls Try.prog 68 #[.pointer (some ⟨rb, 0, none⟩), .int .i64 op, .agg #[.int .i64 p.kind, .int .u32 p.v, .int .i64 p.block], .agg #[.int .i64 q.kind, .int .u32 q.v, .int .i64 q.block]] w fun e w' => e = .returned (.tuple #[.agg #[.int .i64 0, .int .u32 0, .int .i64 0], .int .i64 3]) ∧ Below w.heap.size w w' := by
  have hB := BW_below w p q
  obtain ⟨⟨a0, a1, a2⟩, a3, a4, a5⟩ := BW_cells w p q
  have HB : Hid (Below w.heap.size w (BW w p q)) := hB
  have hsz := BW_size w p q
  have HZ : Hid ((BW w p q).heap[w.heap.size + 2]? = some (.cells #[.int .i64 0, .int .u32 0, .int .i64 0] TV (0, 0))) := BW_heap w p q
  have n2 := not_t
  have n3 := not_f
  have hbz := zeroV_box
  have ct := fun Y => tru_true Y
  have cf := fun Y => tru_false Y
  have cN := fun (v : Int) Y => num_c v Y
  have eb := eqb
  have tb : (p.block == q.block) = false := by simpa using hne
  have o14 : (op == 14) = false := by simp; omega
  have o15 : (op == 15) = false := by simp; omega
  have o2 : (op == 2) = false := by simp; omega
  have o16 : (op == 16) = false := by simp; omega
  have o17 : (op == 17) = false := by simp; omega
  have o18 : (op == 18) = false := by simp; omega
  have o19 : (op == 19) = true := by simpa using ho

  clear hB hne ho
  obtain ⟨Wz, hW⟩ : ∃ Wz, Wz = BW w p q := ⟨_, rfl⟩
  go_enter Try.func68, Try.ntmps68
  go_upto_region 1 with (fail)
  refine (?_ : Code.wp _ _ _ _ (BW w p q))
  rw [← hW] at a0 a1 a2 a3 a4 a5 HB hsz HZ ⊢
  clear hW
  have HBZ := HB
  obtain ⟨tf, t0, t1, t2⟩ := zero_facts HZ.out
  have hlz := lt_of_heap HZ.out
  go_wp2
  exact bodyPost_ret (v := .tuple #[.agg #[.int .i64 0, .int .u32 0, .int .i64 0], .int .i64 3]) (by simp [results, Try.results68, go_sem, t0, t1, t2]) rfl ⟨rfl, (by repeat (first | exact HBZ.out | refine Below.setCell ?_ (by simp <;> omega) _ | refine Below.alloc ?_ (by have := HBZ.out.size; simp; omega) _))⟩
set_option maxHeartbeats 4000000 in
theorem rp_other (p q : Vl) (op : Int) (ho : ¬ op = 2) (ho2 : op < 14 ∨ 19 < op) :
    Calls Try.prog 68 #[.pointer (some ⟨rb, 0, none⟩), .int .i64 op, .agg #[.int .i64 p.kind, .int .u32 p.v, .int .i64 p.block], .agg #[.int .i64 q.kind, .int .u32 q.v, .int .i64 q.block]] w fun e w' => e = .returned (.tuple #[.agg #[.int .i64 0, .int .u32 0, .int .i64 0], .int .i64 3]) ∧ Below w.heap.size w w' := by
  have hB := BW_below w p q
  obtain ⟨⟨a0, a1, a2⟩, a3, a4, a5⟩ := BW_cells w p q
  have HB : Hid (Below w.heap.size w (BW w p q)) := hB
  have hsz := BW_size w p q
  have HZ : Hid ((BW w p q).heap[w.heap.size + 2]? = some (.cells #[.int .i64 0, .int .u32 0, .int .i64 0] TV (0, 0))) := BW_heap w p q
  have n2 := not_t
  have n3 := not_f
  have hbz := zeroV_box
  have ct := fun Y => tru_true Y
  have cf := fun Y => tru_false Y
  have cN := fun (v : Int) Y => num_c v Y
  have eb := eqb
  have o14 : (op == 14) = false := by simp; omega
  have o15 : (op == 15) = false := by simp; omega
  have o2 : (op == 2) = false := by simp; omega
  have o16 : (op == 16) = false := by simp; omega
  have o17 : (op == 17) = false := by simp; omega
  have o18 : (op == 18) = false := by simp; omega
  have o19 : (op == 19) = false := by simp; omega

  clear hB ho ho2
  obtain ⟨Wz, hW⟩ : ∃ Wz, Wz = BW w p q := ⟨_, rfl⟩
  go_enter Try.func68, Try.ntmps68
  go_upto_region 1 with (fail)
  refine (?_ : Code.wp _ _ _ _ (BW w p q))
  rw [← hW] at a0 a1 a2 a3 a4 a5 HB hsz HZ ⊢
  clear hW
  have HBZ := HB
  obtain ⟨tf, t0, t1, t2⟩ := zero_facts HZ.out
  have hlz := lt_of_heap HZ.out
  go_wp2
  exact bodyPost_ret (v := .tuple #[.agg #[.int .i64 0, .int .u32 0, .int .i64 0], .int .i64 3]) (by simp [results, Try.results68, go_sem, t0, t1, t2]) rfl ⟨rfl, (by repeat (first | exact HBZ.out | refine Below.setCell ?_ (by simp <;> omega) _ | refine Below.alloc ?_ (by have := HBZ.out.size; simp; omega) _))⟩
end
end Go.Proofs.Ytigiahcfcglacaa
