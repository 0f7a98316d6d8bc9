/-
  Binary: by the pair, rule's answer and what that answers.
  comparison: two numbers.
  arithmetic and difference where no row fits; what rule answers.
-/
import Derived.Test.YtpnpilbmhkiphaaGreatDoorGSize
namespace Go.Proofs.YtpnpilbmhkiphaaGreatDoor
open Go.RowKit Go.Maps
set_option linter.unusedVariables false
set_option maxRecDepth 100000

section
variable {w : World}
def S2 (g : Nat) (tp : Option Addr) (op : ByteArray) (Y : World) : Prop := Y.cell? ⟨g, 0, none⟩ = some (.pointer tp) ∧ Y.cell? ⟨g, 1, none⟩ = some (.string op)
theorem S2.drew {g : Nat} {tp : Option Addr} {op : ByteArray} {Y : World} (h : S2 g tp op Y) : S2 g tp op Y.drew := h
theorem S2.set {g h j : Nat} {tp : Option Addr} {op : ByteArray} {Y : World} {x : Value} (hne : g ≠ h) (k : S2 g tp op Y) : S2 g tp op (Y.setCell ⟨h, j, none⟩ x) := by
  have e := heap_setCell_other Y ⟨h, j, none⟩ g x hne
  exact ⟨by rw [← k.1]; simp only [World.cell?, e], by rw [← k.2]; simp only [World.cell?, e]⟩
theorem build_Op3 (m : Int) (W : World) : (Instr.build TOp #[(3, .int .i64 m)]).run Tryz.prog W = .ok (.agg #[.int .i64 0, .int .i64 0, .int .i64 0, .int .i64 m, .int .i64 0]) W := by kernel_rfl
set_option maxHeartbeats 4000000 in
theorem comp_int {tp : Option Addr} {op : ByteArray} {i1 k1 e1 n1 : Int} {t1 : ByteArray} {p1 : Option Addr} {a1 u1 : Nat} {d1 : Bool} {i2 k2 e2 n2 : Int} {t2 : ByteArray} {p2 : Option Addr} {a2 u2 : Nat} {d2 : Bool} {m on bn : Int} {sg : Bool} (h1 : intK k1 = true) (h2 : intK k2 = true)
    (cI : ∀ Y, Below w.heap.size w Y → Calls Tryz.prog 115 #[.agg #[.pointer tp, .string op, .int .i64 i1, .int .i64 k1, .int .i64 e1, .int .i64 n1, .string t1, .slice p1 a1 u1, .bool d1, .int .i64 i2, .int .i64 k2, .int .i64 e2, .int .i64 n2, .string t2, .slice p2 a2 u2, .bool d2]] Y fun e w' => e = .returned (.int .i64 m) ∧ Below Y.heap.size Y w')
    (cSg : ∀ Y, Calls Tryz.prog 112 #[.int .i64 (usualP k1 k2)] Y fun e w' => e = .returned (.bool sg) ∧ w' = Y)
    (cOp : ∀ Y, Calls Tryz.prog 113 #[.string op, .bool sg] Y fun e w' => e = .returned (.int .i64 on) ∧ w' = Y)
    (cB : ∀ Y, Below w.heap.size w Y → Calls Tryz.prog 41 #[.pointer tp, .int .i64 (usualP k1 k2)] Y fun e w' => e = .returned (.int .i64 bn) ∧ w' = Y) (z : Bool) :
    ∀ Y, Below w.heap.size w Y → Calls Tryz.prog 116 #[.agg #[.pointer tp, .string op, .int .i64 i1, .int .i64 k1, .int .i64 e1, .int .i64 n1, .string t1, .slice p1 a1 u1, .bool d1, .int .i64 i2, .int .i64 k2, .int .i64 e2, .int .i64 n2, .string t2, .slice p2 a2 u2, .bool d2], .bool z] Y fun e w' => e = .returned (.tuple #[.agg #[.int .i64 on, .int .i64 bn, .int .i64 bn, .int .i64 m, .int .i64 0], .int .i64 0]) ∧ Below Y.heap.size Y w' := by
  intro w0 hw0
  have c1 := fun Y => pInts_c tp op i1 k1 e1 n1 t1 p1 a1 u1 d1 i2 k2 e2 n2 t2 p2 a2 u2 d2 Y
  have c2 := fun Y => pUsual_c tp op i1 k1 e1 n1 t1 p1 a1 u1 d1 i2 k2 e2 n2 t2 p2 a2 u2 d2 h1 h2 Y
  rw [h1, h2] at c1
  have hB : Below w0.heap.size w0 ((w0.alloc (.cells #[.pointer tp, .string op, .int .i64 i1, .int .i64 k1, .int .i64 e1, .int .i64 n1, .string t1, .slice p1 a1 u1, .bool d1, .int .i64 i2, .int .i64 k2, .int .i64 e2, .int .i64 n2, .string t2, .slice p2 a2 u2, .bool d2] TP)).alloc (.cells #[.int .i64 0, .int .i64 0, .int .i64 0, .int .i64 0, .int .i64 0] TOp)) := (below1 w0 _).alloc (below1 w0 _).size _
  have G0 : Hid (_ = _) := heap_s1 w0 (.cells #[.pointer tp, .string op, .int .i64 i1, .int .i64 k1, .int .i64 e1, .int .i64 n1, .string t1, .slice p1 a1 u1, .bool d1, .int .i64 i2, .int .i64 k2, .int .i64 e2, .int .i64 n2, .string t2, .slice p2 a2 u2, .bool d2] TP) (.cells #[.int .i64 0, .int .i64 0, .int .i64 0, .int .i64 0, .int .i64 0] TOp)
  have G1 : Hid (_ = _) := heap_s2 w0 (.cells #[.pointer tp, .string op, .int .i64 i1, .int .i64 k1, .int .i64 e1, .int .i64 n1, .string t1, .slice p1 a1 u1, .bool d1, .int .i64 i2, .int .i64 k2, .int .i64 e2, .int .i64 n2, .string t2, .slice p2 a2 u2, .bool d2] TP) (.cells #[.int .i64 0, .int .i64 0, .int .i64 0, .int .i64 0, .int .i64 0] TOp)
  have HB : Hid (Below _ _ _) := hB
  have HW0 : Hid (Below w.heap.size w w0) := hw0
  have hbo := build_Op3
  obtain ⟨L0, L1, L2⟩ := load_P (fun j => Lib.cell_of_heap G0.out j)
  have CI := cI _ (hw0.trans (hB.mono hw0.size))
  have CB : Hid (∀ Y, Below w.heap.size w Y → Calls Tryz.prog 41 #[.pointer tp, .int .i64 (usualP k1 k2)] Y fun e w' => e = .returned (.int .i64 bn) ∧ w' = Y) := cB
  generalize usualP k1 k2 = uk at *
  clear hB hw0 cI cB
  go_enter Tryz.func116, Tryz.ntmps116
  go_wp2_with (first | ((with_reducible apply step_load L0); rfl; rfl) | fail)
  generalize (w0.alloc (.cells #[.pointer tp, .string op, .int .i64 i1, .int .i64 k1, .int .i64 e1, .int .i64 n1, .string t1, .slice p1 a1 u1, .bool d1, .int .i64 i2, .int .i64 k2, .int .i64 e2, .int .i64 n2, .string t2, .slice p2 a2 u2, .bool d2] TP)).alloc (.cells #[.int .i64 0, .int .i64 0, .int .i64 0, .int .i64 0, .int .i64 0] TOp) = W at *
  refine CI.mono ?_
  rintro e w2 ⟨rfl, hb2⟩
  have hold := heap_r0 w2 (.cells #[.int .i64 0, .int .i64 0, .int .i64 0, .int .i64 0, .int .i64 0] TOp)
  have hB3 := below1 w2 (.cells #[.int .i64 0, .int .i64 0, .int .i64 0, .int .i64 m, .int .i64 0] TOp)
  have hB23 := hb2.trans (hB3.mono hb2.size)
  clear L0 L1 L2
  obtain ⟨L0, L1, L2⟩ := load_P (fun j => cell_b G0.out hB23 j)
  have N3 : Hid (_ = _) := heap_r0 w2 (.cells #[.int .i64 0, .int .i64 0, .int .i64 0, .int .i64 m, .int .i64 0] TOp)
  have H3 : Hid (Below W.heap.size W (w2.alloc (.cells #[.int .i64 0, .int .i64 0, .int .i64 0, .int .i64 m, .int .i64 0] TOp))) := hB23
  have hgw : w0.heap.size + 1 < w2.heap.size := Nat.lt_of_lt_of_le (lt_of_heap G1.out) hb2.size
  clear hb2 hB3 hB23 CI
  go_wp2_with (first | ((with_reducible apply step_store hold); rfl; rfl; kernel_rfl; rfl; kernel_rfl; rw [World.setRow_alloc_new]) | ((with_reducible apply step_load L0); rfl; rfl) | fail)
  generalize w2.alloc (.cells #[.int .i64 0, .int .i64 0, .int .i64 0, .int .i64 m, .int .i64 0] TOp) = W3 at *
  clear hold
  refine (c1 _).mono ?_
  rintro e w4 ⟨rfl, hb4⟩
  have H4 : Hid (Below W.heap.size W w4) := H3.out.trans (hb4.mono H3.out.size)
  have N4 : Hid (_ = _) := blk_b N3.out hb4
  clear L0 L1 L2 hb4 c1 N3 H3
  obtain ⟨L0, L1, L2⟩ := load_P (fun j => cell_b G0.out H4.out j)
  go_wp2_with (first | ((with_reducible apply step_load L0); rfl; rfl) | fail)
  refine (c2 _).mono ?_
  rintro e w5 ⟨rfl, hb5⟩
  have H5 : Hid (Below W.heap.size W w5) := H4.out.trans (hb5.mono H4.out.size)
  have N5 : Hid (w5.heap[w2.heap.size]? = some (.cells #[.int .i64 0, .int .i64 0, .int .i64 0, .int .i64 m, .int .i64 0] TOp (0, 0))) := blk_b N4.out hb5
  clear L0 L1 L2 hb5 c2 N4 H4
  have x0 := cell_b G0.out H5.out 0
  have x1 := cell_b G0.out H5.out 1
  have y0 := Lib.cell_of_heap N5.out 0
  have y1 := Lib.cell_of_heap N5.out 1
  simp only [List.getElem?_toArray, List.getElem?_cons_succ, List.getElem?_cons_zero] at x0 x1 y0 y1
  have z0 : w5.frozen? ⟨w2.heap.size, 0, none⟩ = false := frozen_of N5.out 0
  have z1 : w5.frozen? ⟨w2.heap.size, 1, none⟩ = false := frozen_of N5.out 1
  have cB := CB.out w5.drew (HW0.out.trans ((HB.out.trans ((H5.out.trans (below_drew _ w5)).mono HB.out.size)).mono HW0.out.size))
  go_wp2_with fail
  have HS2 : S2 w0.heap.size tp op w5 := ⟨x0, x1⟩
  have hs0 : ∀ Y, S2 w0.heap.size tp op Y → Y.cell? ⟨w0.heap.size, 0, none⟩ = some (.pointer tp) := fun Y h => h.1
  have hs1 : ∀ Y, S2 w0.heap.size tp op Y → Y.cell? ⟨w0.heap.size, 1, none⟩ = some (.string op) := fun Y h => h.2
  have hne : w0.heap.size ≠ w2.heap.size := by omega
  clear x0 x1
  go_region_held3 (fun Y => S2 w0.heap.size tp op Y) (first | assumption | exact S2.drew HS2 | exact S2.drew (S2.set hne HS2) | exact S2.drew (S2.set hne (S2.set hne HS2))) (first
    | (go_at_call 112; refine (cSg _).mono ?_; rintro e y1 ⟨rfl, hq⟩; rw [hq])
    | (go_at_call 113; refine (cOp _).mono ?_; rintro e y1 ⟨rfl, hq⟩; rw [hq])
    | (go_at_call 41; refine cB.mono ?_; rintro e y1 ⟨rfl, hq⟩; rw [hq]))
  have K0 := heap_setCell (j := 0) N5.out (.int .i64 on)
  have K1 := heap_setCell (j := 1) K0 (.int .i64 bn)
  simp only [List.setIfInBounds_toArray, List.set_cons_zero, List.set_cons_succ] at K1
  have e0 := heap_setCell_other w5 ⟨w2.heap.size, 0, none⟩ (w0.heap.size + 1) (.int .i64 on) (by show w0.heap.size + 1 ≠ w2.heap.size; omega)
  have e1 := heap_setCell_other (w5.setCell ⟨w2.heap.size, 0, none⟩ (.int .i64 on)) ⟨w2.heap.size, 1, none⟩ (w0.heap.size + 1) (.int .i64 bn) (by show w0.heap.size + 1 ≠ w2.heap.size; omega)
  have R6 := (e1.trans e0).trans (blk_b G1.out H5.out)
  have hw2 : w0.heap.size ≤ w2.heap.size := by omega
  have HB6 : Hid (Below w0.heap.size w0 (((w5.setCell ⟨w2.heap.size, 0, none⟩ (.int .i64 on)).setCell ⟨w2.heap.size, 1, none⟩ (.int .i64 bn)).drew)) :=
    (((HB.out.trans (H5.out.mono HB.out.size)).setCell (p := ⟨w2.heap.size, 0, none⟩) hw2 _).setCell (p := ⟨w2.heap.size, 1, none⟩) hw2 _).trans ⟨rfl, rfl, rfl, Nat.le_refl _, fun _ _ => rfl⟩
  have HK1 : Hid ((((w5.setCell ⟨w2.heap.size, 0, none⟩ (.int .i64 on)).setCell ⟨w2.heap.size, 1, none⟩ (.int .i64 bn)).drew).heap[w2.heap.size]? = some (.cells #[.int .i64 on, .int .i64 bn, .int .i64 0, .int .i64 m, .int .i64 0] TOp (0, 0))) := K1
  have HR6 : Hid ((((w5.setCell ⟨w2.heap.size, 0, none⟩ (.int .i64 on)).setCell ⟨w2.heap.size, 1, none⟩ (.int .i64 bn)).drew).heap[w0.heap.size + 1]? = some (.cells #[.int .i64 0, .int .i64 0, .int .i64 0, .int .i64 0, .int .i64 0] TOp (0, 0))) := R6
  clear K0 K1 e0 e1 R6 y0 z0 z1 HS2 hs0 hs1 cB
  generalize ((w5.setCell ⟨w2.heap.size, 0, none⟩ (.int .i64 on)).setCell ⟨w2.heap.size, 1, none⟩ (.int .i64 bn)).drew = W6 at *
  have b1 := Lib.cell_of_heap HK1.out 1
  have b2 := Lib.cell_of_heap HK1.out 2
  simp only [List.getElem?_toArray, List.getElem?_cons_succ, List.getElem?_cons_zero] at b1 b2
  have f2 : W6.frozen? ⟨w2.heap.size, 2, none⟩ = false := frozen_of HK1.out 2
  have K2 := heap_setCell (j := 2) HK1.out (.int .i64 bn)
  simp only [List.setIfInBounds_toArray, List.set_cons_zero, List.set_cons_succ] at K2
  have s0 := Lib.cell_of_heap K2 0
  have s1 := Lib.cell_of_heap K2 1
  have s2 := Lib.cell_of_heap K2 2
  have s3 := Lib.cell_of_heap K2 3
  have s4 := Lib.cell_of_heap K2 4
  simp only [List.getElem?_toArray, List.getElem?_cons_succ, List.getElem?_cons_zero] at s0 s1 s2 s3 s4
  have E7 : Hid ((W6.setCell ⟨w2.heap.size, 2, none⟩ (.int .i64 bn)).heap[w0.heap.size + 1]? = some (.cells #[.int .i64 0, .int .i64 0, .int .i64 0, .int .i64 0, .int .i64 0] TOp (0, 0))) := (heap_setCell_other W6 ⟨w2.heap.size, 2, none⟩ (w0.heap.size + 1) (.int .i64 bn) (by show w0.heap.size + 1 ≠ w2.heap.size; omega)).trans HR6.out
  have HB7 : Hid (Below w0.heap.size w0 (W6.setCell ⟨w2.heap.size, 2, none⟩ (.int .i64 bn))) := HB6.out.setCell (p := ⟨w2.heap.size, 2, none⟩) hw2 _
  clear K2 HK1 HR6 HB6
  go_wp2_with ((with_reducible apply step_store E7.out); rfl; rfl; kernel_rfl; rfl; kernel_rfl)
  refine ret_op (p := 4) (q := 5) rfl rfl (setRow_heap _ _ _ _ _ _ E7.out) rfl ?_
  exact ⟨rfl, below_setRow HB7.out (by omega) _⟩
end
end Go.Proofs.YtpnpilbmhkiphaaGreatDoor
namespace Go.Proofs.YtpnpilbmhkiphaaGreatDoor
open Go.RowKit Go.Maps
set_option linter.unusedVariables false
set_option maxRecDepth 100000

section
variable {w : World}
set_option maxHeartbeats 2000000 in
theorem arith_no {tp : Option Addr} {op : ByteArray} {i1 k1 e1 n1 : Int} {t1 : ByteArray} {p1 : Option Addr} {a1 u1 : Nat} {d1 : Bool} {i2 k2 e2 n2 : Int} {t2 : ByteArray} {p2 : Option Addr} {a2 u2 : Nat} {d2 : Bool} (hk : (intK k1 && intK k2) = false) :
    ∀ Y, Below w.heap.size w Y → Calls Tryz.prog 74 #[.agg #[.pointer tp, .string op, .int .i64 i1, .int .i64 k1, .int .i64 e1, .int .i64 n1, .string t1, .slice p1 a1 u1, .bool d1, .int .i64 i2, .int .i64 k2, .int .i64 e2, .int .i64 n2, .string t2, .slice p2 a2 u2, .bool d2]] Y fun e w' => e = .returned (.tuple #[.agg #[.int .i64 0, .int .i64 0, .int .i64 0, .int .i64 0, .int .i64 0], .int .i64 70]) ∧ Below Y.heap.size Y w' := by
  intro w0 hw0
  have c1 := fun Y => pInts_c tp op i1 k1 e1 n1 t1 p1 a1 u1 d1 i2 k2 e2 n2 t2 p2 a2 u2 d2 Y
  rw [hk] at c1
  have c2 := fun Y => nothing_c tp op i1 k1 e1 n1 t1 p1 a1 u1 d1 i2 k2 e2 n2 t2 p2 a2 u2 d2 Y
  unfold zeroOper at c2
  have hB : Below w0.heap.size w0 ((w0.alloc (.cells #[.pointer tp, .string op, .int .i64 i1, .int .i64 k1, .int .i64 e1, .int .i64 n1, .string t1, .slice p1 a1 u1, .bool d1, .int .i64 i2, .int .i64 k2, .int .i64 e2, .int .i64 n2, .string t2, .slice p2 a2 u2, .bool d2] TP)).alloc (.cells #[.int .i64 0, .int .i64 0, .int .i64 0, .int .i64 0, .int .i64 0] TOp)) := (below1 w0 _).alloc (below1 w0 _).size _
  have G0 : Hid (_ = _) := heap_s1 w0 (.cells #[.pointer tp, .string op, .int .i64 i1, .int .i64 k1, .int .i64 e1, .int .i64 n1, .string t1, .slice p1 a1 u1, .bool d1, .int .i64 i2, .int .i64 k2, .int .i64 e2, .int .i64 n2, .string t2, .slice p2 a2 u2, .bool d2] TP) (.cells #[.int .i64 0, .int .i64 0, .int .i64 0, .int .i64 0, .int .i64 0] TOp)
  have G1 : Hid (_ = _) := heap_s2 w0 (.cells #[.pointer tp, .string op, .int .i64 i1, .int .i64 k1, .int .i64 e1, .int .i64 n1, .string t1, .slice p1 a1 u1, .bool d1, .int .i64 i2, .int .i64 k2, .int .i64 e2, .int .i64 n2, .string t2, .slice p2 a2 u2, .bool d2] TP) (.cells #[.int .i64 0, .int .i64 0, .int .i64 0, .int .i64 0, .int .i64 0] TOp)
  have HB : Hid (Below _ _ _) := hB
  have hnf := not_f
  obtain ⟨L0, L1, L2⟩ := load_P (fun j => Lib.cell_of_heap G0.out j)
  clear hB hw0
  go_enter Tryz.func74, Tryz.ntmps74
  go_wp2_with (first | ((with_reducible apply step_load L0); rfl; rfl) | fail)
  generalize (w0.alloc (.cells #[.pointer tp, .string op, .int .i64 i1, .int .i64 k1, .int .i64 e1, .int .i64 n1, .string t1, .slice p1 a1 u1, .bool d1, .int .i64 i2, .int .i64 k2, .int .i64 e2, .int .i64 n2, .string t2, .slice p2 a2 u2, .bool d2] TP)).alloc (.cells #[.int .i64 0, .int .i64 0, .int .i64 0, .int .i64 0, .int .i64 0] TOp) = W at *
  refine (c1 _).mono ?_
  rintro e w1 ⟨rfl, hb⟩
  have Hw1 : Hid (Below W.heap.size W w1) := hb
  clear hb c1 L0 L1 L2
  obtain ⟨L0, L1, L2⟩ := load_P (fun j => cell_b G0.out Hw1.out j)
  go_wp2_with (first | ((with_reducible apply step_load L0); rfl; rfl) | fail)
  refine (c2 _).mono ?_
  rintro e w2 ⟨rfl, hb⟩
  have Hw2 : Hid (Below W.heap.size W w2) := Hw1.out.trans (hb.mono Hw1.out.size)
  clear hb c2 L0 L1 L2
  obtain ⟨L0, L1, L2⟩ := load_P (fun j => cell_b G0.out Hw2.out j)
  have E : Hid (_ = _) := blk_b G1.out Hw2.out
  have HBF : Hid (Below w0.heap.size w0 w2) := HB.out.trans (Hw2.out.mono HB.out.size)
  clear L0 L1 L2
  go_wp2_with ((with_reducible apply step_store E.out); rfl; rfl; kernel_rfl; rfl; kernel_rfl)
  refine ret_op (p := 2) (q := 3) rfl rfl (setRow_heap _ _ _ _ _ _ E.out) rfl ?_
  exact ⟨rfl, below_setRow HBF.out (by omega) _⟩
set_option maxHeartbeats 2000000 in
theorem diff_no {tp : Option Addr} {op : ByteArray} {i1 k1 e1 n1 : Int} {t1 : ByteArray} {p1 : Option Addr} {a1 u1 : Nat} {d1 : Bool} {i2 k2 e2 n2 : Int} {t2 : ByteArray} {p2 : Option Addr} {a2 u2 : Nat} {d2 : Bool} (h1 : k1 = 13) (h2 : k2 = 13) (hi : (i1 == i2) = false) :
    ∀ Y, Below w.heap.size w Y → Calls Tryz.prog 76 #[.agg #[.pointer tp, .string op, .int .i64 i1, .int .i64 k1, .int .i64 e1, .int .i64 n1, .string t1, .slice p1 a1 u1, .bool d1, .int .i64 i2, .int .i64 k2, .int .i64 e2, .int .i64 n2, .string t2, .slice p2 a2 u2, .bool d2]] Y fun e w' => e = .returned (.tuple #[.agg #[.int .i64 0, .int .i64 0, .int .i64 0, .int .i64 0, .int .i64 0], .int .i64 70]) ∧ Below Y.heap.size Y w' := by
  intro w0 hw0
  have c1 := fun Y => oPtr_c i1 k1 e1 n1 t1 p1 a1 u1 d1 Y
  rw [show (k1 == 13) = true by simp [h1]] at c1
  have c2 := fun Y => oInt_c i2 k2 e2 n2 t2 p2 a2 u2 d2 Y
  rw [show intK k2 = false by simp [intK, h2]] at c2
  have c3 := fun Y => pPtrs_c tp op i1 k1 e1 n1 t1 p1 a1 u1 d1 i2 k2 e2 n2 t2 p2 a2 u2 d2 Y
  rw [show (k1 == 13 && k2 == 13) = true by simp [h1, h2]] at c3
  have c4 := fun Y => pSame_c tp op i1 k1 e1 n1 t1 p1 a1 u1 d1 i2 k2 e2 n2 t2 p2 a2 u2 d2 Y
  rw [hi] at c4
  have c5 := fun (Y : World) => arith_no (w := Y) (tp := tp) (op := op) (i1 := i1) (e1 := e1) (n1 := n1) (t1 := t1) (p1 := p1) (a1 := a1) (u1 := u1) (d1 := d1) (i2 := i2) (e2 := e2) (n2 := n2) (t2 := t2) (p2 := p2) (a2 := a2) (u2 := u2) (d2 := d2) (show (intK k1 && intK k2) = false by simp [intK, h1, h2]) Y (Below.refl _ _)
  clear h1 h2 hi
  have hB : Below w0.heap.size w0 ((w0.alloc (.cells #[.pointer tp, .string op, .int .i64 i1, .int .i64 k1, .int .i64 e1, .int .i64 n1, .string t1, .slice p1 a1 u1, .bool d1, .int .i64 i2, .int .i64 k2, .int .i64 e2, .int .i64 n2, .string t2, .slice p2 a2 u2, .bool d2] TP)).alloc (.cells #[.int .i64 0, .int .i64 0, .int .i64 0, .int .i64 0, .int .i64 0] TOp)) := (below1 w0 _).alloc (below1 w0 _).size _
  have G0 : Hid (_ = _) := heap_s1 w0 (.cells #[.pointer tp, .string op, .int .i64 i1, .int .i64 k1, .int .i64 e1, .int .i64 n1, .string t1, .slice p1 a1 u1, .bool d1, .int .i64 i2, .int .i64 k2, .int .i64 e2, .int .i64 n2, .string t2, .slice p2 a2 u2, .bool d2] TP) (.cells #[.int .i64 0, .int .i64 0, .int .i64 0, .int .i64 0, .int .i64 0] TOp)
  have G1 : Hid (_ = _) := heap_s2 w0 (.cells #[.pointer tp, .string op, .int .i64 i1, .int .i64 k1, .int .i64 e1, .int .i64 n1, .string t1, .slice p1 a1 u1, .bool d1, .int .i64 i2, .int .i64 k2, .int .i64 e2, .int .i64 n2, .string t2, .slice p2 a2 u2, .bool d2] TP) (.cells #[.int .i64 0, .int .i64 0, .int .i64 0, .int .i64 0, .int .i64 0] TOp)
  have HB : Hid (Below _ _ _) := hB
  have hnf := not_f
  obtain ⟨L0, L1, L2⟩ := load_P (fun j => Lib.cell_of_heap G0.out j)
  clear hB hw0
  go_enter Tryz.func76, Tryz.ntmps76
  go_wp2_with (first | ((with_reducible apply step_load L1); rfl; rfl) | fail)
  generalize (w0.alloc (.cells #[.pointer tp, .string op, .int .i64 i1, .int .i64 k1, .int .i64 e1, .int .i64 n1, .string t1, .slice p1 a1 u1, .bool d1, .int .i64 i2, .int .i64 k2, .int .i64 e2, .int .i64 n2, .string t2, .slice p2 a2 u2, .bool d2] TP)).alloc (.cells #[.int .i64 0, .int .i64 0, .int .i64 0, .int .i64 0, .int .i64 0] TOp) = W at *
  refine (c1 _).mono ?_
  rintro e w1 ⟨rfl, hb⟩
  have Hw1 : Hid (Below W.heap.size W w1) := hb
  clear hb c1 L0 L1 L2
  obtain ⟨L0, L1, L2⟩ := load_P (fun j => cell_b G0.out Hw1.out j)
  go_wp2_with (first | ((with_reducible apply step_load L2); rfl; rfl) | fail)
  refine (c2 _).mono ?_
  rintro e w2 ⟨rfl, hb⟩
  have Hw2 : Hid (Below W.heap.size W w2) := Hw1.out.trans (hb.mono Hw1.out.size)
  clear hb c2 L0 L1 L2
  obtain ⟨L0, L1, L2⟩ := load_P (fun j => cell_b G0.out Hw2.out j)
  go_wp2_with (first | ((with_reducible apply step_load L0); rfl; rfl) | fail)
  refine (c3 _).mono ?_
  rintro e w3 ⟨rfl, hb⟩
  have Hw3 : Hid (Below W.heap.size W w3) := Hw2.out.trans (hb.mono Hw2.out.size)
  clear hb c3 L0 L1 L2
  obtain ⟨L0, L1, L2⟩ := load_P (fun j => cell_b G0.out Hw3.out j)
  go_wp2_with (first | ((with_reducible apply step_load L0); rfl; rfl) | fail)
  refine (c4 _).mono ?_
  rintro e w4 ⟨rfl, hb⟩
  have Hw4 : Hid (Below W.heap.size W w4) := Hw3.out.trans (hb.mono Hw3.out.size)
  clear hb c4 L0 L1 L2
  obtain ⟨L0, L1, L2⟩ := load_P (fun j => cell_b G0.out Hw4.out j)
  go_wp2_with (first | ((with_reducible apply step_load L0); rfl; rfl) | fail)
  refine (c5 _).mono ?_
  rintro e w5 ⟨rfl, hb⟩
  have Hw5 : Hid (Below W.heap.size W w5) := Hw4.out.trans (hb.mono Hw4.out.size)
  clear hb c5 L0 L1 L2
  obtain ⟨L0, L1, L2⟩ := load_P (fun j => cell_b G0.out Hw5.out j)
  have E : Hid (_ = _) := blk_b G1.out Hw5.out
  have HBF : Hid (Below w0.heap.size w0 w5) := HB.out.trans (Hw5.out.mono HB.out.size)
  clear L0 L1 L2
  go_wp2_with ((with_reducible apply step_store E.out); rfl; rfl; kernel_rfl; rfl; kernel_rfl)
  refine ret_op (p := 2) (q := 3) rfl rfl (setRow_heap _ _ _ _ _ _ E.out) rfl ?_
  exact ⟨rfl, below_setRow HBF.out (by omega) _⟩
set_option maxHeartbeats 2000000 in
theorem rule_plus {tp : Option Addr} {i1 k1 e1 n1 : Int} {t1 : ByteArray} {p1 : Option Addr} {a1 u1 : Nat} {d1 : Bool} {i2 k2 e2 n2 : Int} {t2 : ByteArray} {p2 : Option Addr} {a2 u2 : Nat} {d2 : Bool} : ∀ Y : World, Calls Tryz.prog 32 #[.agg #[.pointer tp, .string ⟨#[43]⟩, .int .i64 i1, .int .i64 k1, .int .i64 e1, .int .i64 n1, .string t1, .slice p1 a1 u1, .bool d1, .int .i64 i2, .int .i64 k2, .int .i64 e2, .int .i64 n2, .string t2, .slice p2 a2 u2, .bool d2]] Y fun e w' => e = .returned (.func (.func 75) #[.agg #[.pointer tp, .string ⟨#[43]⟩, .int .i64 i1, .int .i64 k1, .int .i64 e1, .int .i64 n1, .string t1, .slice p1 a1 u1, .bool d1, .int .i64 i2, .int .i64 k2, .int .i64 e2, .int .i64 n2, .string t2, .slice p2 a2 u2, .bool d2]] #[]) ∧ Below Y.heap.size Y w' := by
  intro w0
  have HB : Hid (Below w0.heap.size w0 (w0.alloc (.cells #[.pointer tp, .string ⟨#[43]⟩, .int .i64 i1, .int .i64 k1, .int .i64 e1, .int .i64 n1, .string t1, .slice p1 a1 u1, .bool d1, .int .i64 i2, .int .i64 k2, .int .i64 e2, .int .i64 n2, .string t2, .slice p2 a2 u2, .bool d2] TP))) := below1 w0 _
  obtain ⟨L0, L1, L2⟩ := load_P (Y := w0.alloc (.cells #[.pointer tp, .string ⟨#[43]⟩, .int .i64 i1, .int .i64 k1, .int .i64 e1, .int .i64 n1, .string t1, .slice p1 a1 u1, .bool d1, .int .i64 i2, .int .i64 k2, .int .i64 e2, .int .i64 n2, .string t2, .slice p2 a2 u2, .bool d2] TP)) (g := w0.heap.size) (fun j => Lib.cell_of_heap (heap_r0 w0 (.cells #[.pointer tp, .string ⟨#[43]⟩, .int .i64 i1, .int .i64 k1, .int .i64 e1, .int .i64 n1, .string t1, .slice p1 a1 u1, .bool d1, .int .i64 i2, .int .i64 k2, .int .i64 e2, .int .i64 n2, .string t2, .slice p2 a2 u2, .bool d2] TP)) j)
  go_enter Tryz.func32, Tryz.ntmps32
  go_wp2_with (first | ((with_reducible apply step_load L0); rfl; rfl) | fail)
  go_ret
  exact ⟨rfl, HB.out⟩
set_option maxHeartbeats 2000000 in
theorem rule_minus {tp : Option Addr} {i1 k1 e1 n1 : Int} {t1 : ByteArray} {p1 : Option Addr} {a1 u1 : Nat} {d1 : Bool} {i2 k2 e2 n2 : Int} {t2 : ByteArray} {p2 : Option Addr} {a2 u2 : Nat} {d2 : Bool} : ∀ Y : World, Calls Tryz.prog 32 #[.agg #[.pointer tp, .string ⟨#[45]⟩, .int .i64 i1, .int .i64 k1, .int .i64 e1, .int .i64 n1, .string t1, .slice p1 a1 u1, .bool d1, .int .i64 i2, .int .i64 k2, .int .i64 e2, .int .i64 n2, .string t2, .slice p2 a2 u2, .bool d2]] Y fun e w' => e = .returned (.func (.func 76) #[.agg #[.pointer tp, .string ⟨#[45]⟩, .int .i64 i1, .int .i64 k1, .int .i64 e1, .int .i64 n1, .string t1, .slice p1 a1 u1, .bool d1, .int .i64 i2, .int .i64 k2, .int .i64 e2, .int .i64 n2, .string t2, .slice p2 a2 u2, .bool d2]] #[]) ∧ Below Y.heap.size Y w' := by
  intro w0
  have HB : Hid (Below w0.heap.size w0 (w0.alloc (.cells #[.pointer tp, .string ⟨#[45]⟩, .int .i64 i1, .int .i64 k1, .int .i64 e1, .int .i64 n1, .string t1, .slice p1 a1 u1, .bool d1, .int .i64 i2, .int .i64 k2, .int .i64 e2, .int .i64 n2, .string t2, .slice p2 a2 u2, .bool d2] TP))) := below1 w0 _
  obtain ⟨L0, L1, L2⟩ := load_P (Y := w0.alloc (.cells #[.pointer tp, .string ⟨#[45]⟩, .int .i64 i1, .int .i64 k1, .int .i64 e1, .int .i64 n1, .string t1, .slice p1 a1 u1, .bool d1, .int .i64 i2, .int .i64 k2, .int .i64 e2, .int .i64 n2, .string t2, .slice p2 a2 u2, .bool d2] TP)) (g := w0.heap.size) (fun j => Lib.cell_of_heap (heap_r0 w0 (.cells #[.pointer tp, .string ⟨#[45]⟩, .int .i64 i1, .int .i64 k1, .int .i64 e1, .int .i64 n1, .string t1, .slice p1 a1 u1, .bool d1, .int .i64 i2, .int .i64 k2, .int .i64 e2, .int .i64 n2, .string t2, .slice p2 a2 u2, .bool d2] TP)) j)
  go_enter Tryz.func32, Tryz.ntmps32
  go_wp2_with (first | ((with_reducible apply step_load L0); rfl; rfl) | fail)
  go_ret
  exact ⟨rfl, HB.out⟩
set_option maxHeartbeats 2000000 in
theorem rule_less {tp : Option Addr} {i1 k1 e1 n1 : Int} {t1 : ByteArray} {p1 : Option Addr} {a1 u1 : Nat} {d1 : Bool} {i2 k2 e2 n2 : Int} {t2 : ByteArray} {p2 : Option Addr} {a2 u2 : Nat} {d2 : Bool} : ∀ Y : World, Calls Tryz.prog 32 #[.agg #[.pointer tp, .string ⟨#[60]⟩, .int .i64 i1, .int .i64 k1, .int .i64 e1, .int .i64 n1, .string t1, .slice p1 a1 u1, .bool d1, .int .i64 i2, .int .i64 k2, .int .i64 e2, .int .i64 n2, .string t2, .slice p2 a2 u2, .bool d2]] Y fun e w' => e = .returned (.func (.func 79) #[.agg #[.pointer tp, .string ⟨#[60]⟩, .int .i64 i1, .int .i64 k1, .int .i64 e1, .int .i64 n1, .string t1, .slice p1 a1 u1, .bool d1, .int .i64 i2, .int .i64 k2, .int .i64 e2, .int .i64 n2, .string t2, .slice p2 a2 u2, .bool d2]] #[]) ∧ Below Y.heap.size Y w' := by
  intro w0
  have HB : Hid (Below w0.heap.size w0 (w0.alloc (.cells #[.pointer tp, .string ⟨#[60]⟩, .int .i64 i1, .int .i64 k1, .int .i64 e1, .int .i64 n1, .string t1, .slice p1 a1 u1, .bool d1, .int .i64 i2, .int .i64 k2, .int .i64 e2, .int .i64 n2, .string t2, .slice p2 a2 u2, .bool d2] TP))) := below1 w0 _
  obtain ⟨L0, L1, L2⟩ := load_P (Y := w0.alloc (.cells #[.pointer tp, .string ⟨#[60]⟩, .int .i64 i1, .int .i64 k1, .int .i64 e1, .int .i64 n1, .string t1, .slice p1 a1 u1, .bool d1, .int .i64 i2, .int .i64 k2, .int .i64 e2, .int .i64 n2, .string t2, .slice p2 a2 u2, .bool d2] TP)) (g := w0.heap.size) (fun j => Lib.cell_of_heap (heap_r0 w0 (.cells #[.pointer tp, .string ⟨#[60]⟩, .int .i64 i1, .int .i64 k1, .int .i64 e1, .int .i64 n1, .string t1, .slice p1 a1 u1, .bool d1, .int .i64 i2, .int .i64 k2, .int .i64 e2, .int .i64 n2, .string t2, .slice p2 a2 u2, .bool d2] TP)) j)
  go_enter Tryz.func32, Tryz.ntmps32
  go_wp2_with (first | ((with_reducible apply step_load L0); rfl; rfl) | fail)
  go_ret
  exact ⟨rfl, HB.out⟩
end
end Go.Proofs.YtpnpilbmhkiphaaGreatDoor
namespace Go.Proofs.YtpnpilbmhkiphaaGreatDoor
open Go.RowKit Go.Maps
set_option linter.unusedVariables false
set_option maxRecDepth 100000

section
variable {w : World}
set_option maxHeartbeats 4000000 in
theorem binary_sum {tp : Option Addr} {op : ByteArray} {x y : Int} {i1 k1 e1 n1 : Int} {t1 : ByteArray} {d1 : Bool} {i2 k2 e2 n2 : Int} {t2 : ByteArray} {d2 : Bool} {q0 q1 q2 q3 q4 er : Int}
    (cP : ∀ Y, Below w.heap.size w Y → Calls Tryz.prog 31 #[.pointer tp, .int .i64 x, .int .i64 y] Y fun e w' => (∃ p1 a1 u1 p2 a2 u2, e = .returned (.tuple #[.agg #[.pointer tp, .string ⟨#[]⟩, .int .i64 i1, .int .i64 k1, .int .i64 e1, .int .i64 n1, .string t1, .slice p1 a1 u1, .bool d1, .int .i64 i2, .int .i64 k2, .int .i64 e2, .int .i64 n2, .string t2, .slice p2 a2 u2, .bool d2], .int .i64 0])) ∧ Below Y.heap.size Y w')
    (cR : ∀ p1 a1 u1 p2 a2 u2, ∀ Y : World, Calls Tryz.prog 32 #[.agg #[.pointer tp, .string op, .int .i64 i1, .int .i64 k1, .int .i64 e1, .int .i64 n1, .string t1, .slice p1 a1 u1, .bool d1, .int .i64 i2, .int .i64 k2, .int .i64 e2, .int .i64 n2, .string t2, .slice p2 a2 u2, .bool d2]] Y fun e w' => e = .returned (.func (.func 75) #[.agg #[.pointer tp, .string op, .int .i64 i1, .int .i64 k1, .int .i64 e1, .int .i64 n1, .string t1, .slice p1 a1 u1, .bool d1, .int .i64 i2, .int .i64 k2, .int .i64 e2, .int .i64 n2, .string t2, .slice p2 a2 u2, .bool d2]] #[]) ∧ Below Y.heap.size Y w')
    (cF : ∀ p1 a1 u1 p2 a2 u2, ∀ Y, Below w.heap.size w Y → Calls Tryz.prog 75 #[.agg #[.pointer tp, .string op, .int .i64 i1, .int .i64 k1, .int .i64 e1, .int .i64 n1, .string t1, .slice p1 a1 u1, .bool d1, .int .i64 i2, .int .i64 k2, .int .i64 e2, .int .i64 n2, .string t2, .slice p2 a2 u2, .bool d2]] Y fun e w' => e = .returned (.tuple #[.agg #[.int .i64 q0, .int .i64 q1, .int .i64 q2, .int .i64 q3, .int .i64 q4], .int .i64 er]) ∧ Below Y.heap.size Y w') :
    ∀ Y, Below w.heap.size w Y → Calls Tryz.prog 7 #[.pointer tp, .string op, .int .i64 x, .int .i64 y] Y fun e w' => e = .returned (.tuple #[.agg #[.int .i64 q0, .int .i64 q1, .int .i64 q2, .int .i64 q3, .int .i64 q4], .int .i64 er]) ∧ Below Y.heap.size Y w' := by
  intro w0 hw0
  have hB := below1 w0 (.cells #[.int .i64 0, .int .i64 0, .int .i64 0, .int .i64 0, .int .i64 0] TOp)
  have E0 : Hid (_ = _) := heap_r0 w0 (.cells #[.int .i64 0, .int .i64 0, .int .i64 0, .int .i64 0, .int .i64 0] TOp)
  have HB : Hid (Below w0.heap.size w0 (w0.alloc (.cells #[.int .i64 0, .int .i64 0, .int .i64 0, .int .i64 0, .int .i64 0] TOp))) := hB
  have HW0 : Hid (Below w.heap.size w w0) := hw0
  have c1 := cP _ (hw0.trans (hB.mono hw0.size))
  have CR : Hid (∀ p1 a1 u1 p2 a2 u2, ∀ Y : World, Calls Tryz.prog 32 #[.agg #[.pointer tp, .string op, .int .i64 i1, .int .i64 k1, .int .i64 e1, .int .i64 n1, .string t1, .slice p1 a1 u1, .bool d1, .int .i64 i2, .int .i64 k2, .int .i64 e2, .int .i64 n2, .string t2, .slice p2 a2 u2, .bool d2]] Y fun e w' => e = .returned (.func (.func 75) #[.agg #[.pointer tp, .string op, .int .i64 i1, .int .i64 k1, .int .i64 e1, .int .i64 n1, .string t1, .slice p1 a1 u1, .bool d1, .int .i64 i2, .int .i64 k2, .int .i64 e2, .int .i64 n2, .string t2, .slice p2 a2 u2, .bool d2]] #[]) ∧ Below Y.heap.size Y w') := cR
  have CF : Hid (∀ p1 a1 u1 p2 a2 u2, ∀ Y, Below w.heap.size w Y → Calls Tryz.prog 75 #[.agg #[.pointer tp, .string op, .int .i64 i1, .int .i64 k1, .int .i64 e1, .int .i64 n1, .string t1, .slice p1 a1 u1, .bool d1, .int .i64 i2, .int .i64 k2, .int .i64 e2, .int .i64 n2, .string t2, .slice p2 a2 u2, .bool d2]] Y fun e w' => e = .returned (.tuple #[.agg #[.int .i64 q0, .int .i64 q1, .int .i64 q2, .int .i64 q3, .int .i64 q4], .int .i64 er]) ∧ Below Y.heap.size Y w') := cF
  clear hB hw0 cP cR cF
  go_enter Tryz.func7, Tryz.ntmps7
  go_wp2_with fail
  generalize w0.alloc (.cells #[.int .i64 0, .int .i64 0, .int .i64 0, .int .i64 0, .int .i64 0] TOp) = W at *
  refine c1.mono ?_
  rintro e w2 ⟨⟨p1, a1, u1, p2, a2, u2, rfl⟩, hb2⟩
  have hold := heap_r0 w2 (.cells #[.pointer none, .string ⟨#[]⟩, .int .i64 0, .int .i64 0, .int .i64 0, .int .i64 0, .string ⟨#[]⟩, .slice none 0 0, .bool false, .int .i64 0, .int .i64 0, .int .i64 0, .int .i64 0, .string ⟨#[]⟩, .slice none 0 0, .bool false] TP)
  have hB3 := below1 w2 (.cells #[.pointer tp, .string op, .int .i64 i1, .int .i64 k1, .int .i64 e1, .int .i64 n1, .string t1, .slice p1 a1 u1, .bool d1, .int .i64 i2, .int .i64 k2, .int .i64 e2, .int .i64 n2, .string t2, .slice p2 a2 u2, .bool d2] TP)
  have hB23 := hb2.trans (hB3.mono hb2.size)
  obtain ⟨L0, L1, L2⟩ := load_P (fun j => Lib.cell_of_heap (heap_r0 w2 (.cells #[.pointer tp, .string op, .int .i64 i1, .int .i64 k1, .int .i64 e1, .int .i64 n1, .string t1, .slice p1 a1 u1, .bool d1, .int .i64 i2, .int .i64 k2, .int .i64 e2, .int .i64 n2, .string t2, .slice p2 a2 u2, .bool d2] TP)) j)
  have E4 : Hid ((w2.alloc (.cells #[.pointer tp, .string op, .int .i64 i1, .int .i64 k1, .int .i64 e1, .int .i64 n1, .string t1, .slice p1 a1 u1, .bool d1, .int .i64 i2, .int .i64 k2, .int .i64 e2, .int .i64 n2, .string t2, .slice p2 a2 u2, .bool d2] TP)).heap[w0.heap.size]? = some (.cells #[.int .i64 0, .int .i64 0, .int .i64 0, .int .i64 0, .int .i64 0] TOp (0, 0))) := blk_b E0.out hB23
  have HB4 : Hid (Below w0.heap.size w0 (w2.alloc (.cells #[.pointer tp, .string op, .int .i64 i1, .int .i64 k1, .int .i64 e1, .int .i64 n1, .string t1, .slice p1 a1 u1, .bool d1, .int .i64 i2, .int .i64 k2, .int .i64 e2, .int .i64 n2, .string t2, .slice p2 a2 u2, .bool d2] TP))) := HB.out.trans (hB23.mono HB.out.size)
  clear c1 hb2 hB3 hB23 E0 HB
  go_wp2_with (first | ((with_reducible apply step_store hold); rfl; rfl; kernel_rfl; rfl; kernel_rfl; rw [World.setRow_alloc_new]) | ((with_reducible apply step_load L0); rfl; rfl) | fail)
  generalize w2.alloc (.cells #[.pointer tp, .string op, .int .i64 i1, .int .i64 k1, .int .i64 e1, .int .i64 n1, .string t1, .slice p1 a1 u1, .bool d1, .int .i64 i2, .int .i64 k2, .int .i64 e2, .int .i64 n2, .string t2, .slice p2 a2 u2, .bool d2] TP) = W4 at *
  clear hold L0 L1 L2
  refine (CR.out _ _ _ _ _ _ _).mono ?_
  rintro e w5 ⟨rfl, hb5⟩
  have E5 : Hid (_ = _) := blk_b E4.out hb5
  have HB5 : Hid (Below w0.heap.size w0 w5) := HB4.out.trans (hb5.mono HB4.out.size)
  clear hb5 E4 HB4 CR
  go_wp2_with fail
  refine (CF.out _ _ _ _ _ _ _ (HW0.out.trans (HB5.out.mono HW0.out.size))).mono ?_
  rintro e w6 ⟨rfl, hb6⟩
  have E6 : Hid (_ = _) := blk_b E5.out hb6
  have HB6 : Hid (Below w0.heap.size w0 w6) := HB5.out.trans (hb6.mono HB5.out.size)
  clear hb6 E5 HB5 CF
  go_wp2_with ((with_reducible apply step_store E6.out); rfl; rfl; kernel_rfl; rfl; kernel_rfl)
  refine ret_op (p := 8) (q := 9) rfl rfl (setRow_heap _ _ _ _ _ _ E6.out) rfl ?_
  exact ⟨rfl, below_setRow HB6.out (Nat.le_refl _) _⟩
set_option maxHeartbeats 4000000 in
theorem binary_diff {tp : Option Addr} {op : ByteArray} {x y : Int} {i1 k1 e1 n1 : Int} {t1 : ByteArray} {d1 : Bool} {i2 k2 e2 n2 : Int} {t2 : ByteArray} {d2 : Bool} {q0 q1 q2 q3 q4 er : Int}
    (cP : ∀ Y, Below w.heap.size w Y → Calls Tryz.prog 31 #[.pointer tp, .int .i64 x, .int .i64 y] Y fun e w' => (∃ p1 a1 u1 p2 a2 u2, e = .returned (.tuple #[.agg #[.pointer tp, .string ⟨#[]⟩, .int .i64 i1, .int .i64 k1, .int .i64 e1, .int .i64 n1, .string t1, .slice p1 a1 u1, .bool d1, .int .i64 i2, .int .i64 k2, .int .i64 e2, .int .i64 n2, .string t2, .slice p2 a2 u2, .bool d2], .int .i64 0])) ∧ Below Y.heap.size Y w')
    (cR : ∀ p1 a1 u1 p2 a2 u2, ∀ Y : World, Calls Tryz.prog 32 #[.agg #[.pointer tp, .string op, .int .i64 i1, .int .i64 k1, .int .i64 e1, .int .i64 n1, .string t1, .slice p1 a1 u1, .bool d1, .int .i64 i2, .int .i64 k2, .int .i64 e2, .int .i64 n2, .string t2, .slice p2 a2 u2, .bool d2]] Y fun e w' => e = .returned (.func (.func 76) #[.agg #[.pointer tp, .string op, .int .i64 i1, .int .i64 k1, .int .i64 e1, .int .i64 n1, .string t1, .slice p1 a1 u1, .bool d1, .int .i64 i2, .int .i64 k2, .int .i64 e2, .int .i64 n2, .string t2, .slice p2 a2 u2, .bool d2]] #[]) ∧ Below Y.heap.size Y w')
    (cF : ∀ p1 a1 u1 p2 a2 u2, ∀ Y, Below w.heap.size w Y → Calls Tryz.prog 76 #[.agg #[.pointer tp, .string op, .int .i64 i1, .int .i64 k1, .int .i64 e1, .int .i64 n1, .string t1, .slice p1 a1 u1, .bool d1, .int .i64 i2, .int .i64 k2, .int .i64 e2, .int .i64 n2, .string t2, .slice p2 a2 u2, .bool d2]] Y fun e w' => e = .returned (.tuple #[.agg #[.int .i64 q0, .int .i64 q1, .int .i64 q2, .int .i64 q3, .int .i64 q4], .int .i64 er]) ∧ Below Y.heap.size Y w') :
    ∀ Y, Below w.heap.size w Y → Calls Tryz.prog 7 #[.pointer tp, .string op, .int .i64 x, .int .i64 y] Y fun e w' => e = .returned (.tuple #[.agg #[.int .i64 q0, .int .i64 q1, .int .i64 q2, .int .i64 q3, .int .i64 q4], .int .i64 er]) ∧ Below Y.heap.size Y w' := by
  intro w0 hw0
  have hB := below1 w0 (.cells #[.int .i64 0, .int .i64 0, .int .i64 0, .int .i64 0, .int .i64 0] TOp)
  have E0 : Hid (_ = _) := heap_r0 w0 (.cells #[.int .i64 0, .int .i64 0, .int .i64 0, .int .i64 0, .int .i64 0] TOp)
  have HB : Hid (Below w0.heap.size w0 (w0.alloc (.cells #[.int .i64 0, .int .i64 0, .int .i64 0, .int .i64 0, .int .i64 0] TOp))) := hB
  have HW0 : Hid (Below w.heap.size w w0) := hw0
  have c1 := cP _ (hw0.trans (hB.mono hw0.size))
  have CR : Hid (∀ p1 a1 u1 p2 a2 u2, ∀ Y : World, Calls Tryz.prog 32 #[.agg #[.pointer tp, .string op, .int .i64 i1, .int .i64 k1, .int .i64 e1, .int .i64 n1, .string t1, .slice p1 a1 u1, .bool d1, .int .i64 i2, .int .i64 k2, .int .i64 e2, .int .i64 n2, .string t2, .slice p2 a2 u2, .bool d2]] Y fun e w' => e = .returned (.func (.func 76) #[.agg #[.pointer tp, .string op, .int .i64 i1, .int .i64 k1, .int .i64 e1, .int .i64 n1, .string t1, .slice p1 a1 u1, .bool d1, .int .i64 i2, .int .i64 k2, .int .i64 e2, .int .i64 n2, .string t2, .slice p2 a2 u2, .bool d2]] #[]) ∧ Below Y.heap.size Y w') := cR
  have CF : Hid (∀ p1 a1 u1 p2 a2 u2, ∀ Y, Below w.heap.size w Y → Calls Tryz.prog 76 #[.agg #[.pointer tp, .string op, .int .i64 i1, .int .i64 k1, .int .i64 e1, .int .i64 n1, .string t1, .slice p1 a1 u1, .bool d1, .int .i64 i2, .int .i64 k2, .int .i64 e2, .int .i64 n2, .string t2, .slice p2 a2 u2, .bool d2]] Y fun e w' => e = .returned (.tuple #[.agg #[.int .i64 q0, .int .i64 q1, .int .i64 q2, .int .i64 q3, .int .i64 q4], .int .i64 er]) ∧ Below Y.heap.size Y w') := cF
  clear hB hw0 cP cR cF
  go_enter Tryz.func7, Tryz.ntmps7
  go_wp2_with fail
  generalize w0.alloc (.cells #[.int .i64 0, .int .i64 0, .int .i64 0, .int .i64 0, .int .i64 0] TOp) = W at *
  refine c1.mono ?_
  rintro e w2 ⟨⟨p1, a1, u1, p2, a2, u2, rfl⟩, hb2⟩
  have hold := heap_r0 w2 (.cells #[.pointer none, .string ⟨#[]⟩, .int .i64 0, .int .i64 0, .int .i64 0, .int .i64 0, .string ⟨#[]⟩, .slice none 0 0, .bool false, .int .i64 0, .int .i64 0, .int .i64 0, .int .i64 0, .string ⟨#[]⟩, .slice none 0 0, .bool false] TP)
  have hB3 := below1 w2 (.cells #[.pointer tp, .string op, .int .i64 i1, .int .i64 k1, .int .i64 e1, .int .i64 n1, .string t1, .slice p1 a1 u1, .bool d1, .int .i64 i2, .int .i64 k2, .int .i64 e2, .int .i64 n2, .string t2, .slice p2 a2 u2, .bool d2] TP)
  have hB23 := hb2.trans (hB3.mono hb2.size)
  obtain ⟨L0, L1, L2⟩ := load_P (fun j => Lib.cell_of_heap (heap_r0 w2 (.cells #[.pointer tp, .string op, .int .i64 i1, .int .i64 k1, .int .i64 e1, .int .i64 n1, .string t1, .slice p1 a1 u1, .bool d1, .int .i64 i2, .int .i64 k2, .int .i64 e2, .int .i64 n2, .string t2, .slice p2 a2 u2, .bool d2] TP)) j)
  have E4 : Hid ((w2.alloc (.cells #[.pointer tp, .string op, .int .i64 i1, .int .i64 k1, .int .i64 e1, .int .i64 n1, .string t1, .slice p1 a1 u1, .bool d1, .int .i64 i2, .int .i64 k2, .int .i64 e2, .int .i64 n2, .string t2, .slice p2 a2 u2, .bool d2] TP)).heap[w0.heap.size]? = some (.cells #[.int .i64 0, .int .i64 0, .int .i64 0, .int .i64 0, .int .i64 0] TOp (0, 0))) := blk_b E0.out hB23
  have HB4 : Hid (Below w0.heap.size w0 (w2.alloc (.cells #[.pointer tp, .string op, .int .i64 i1, .int .i64 k1, .int .i64 e1, .int .i64 n1, .string t1, .slice p1 a1 u1, .bool d1, .int .i64 i2, .int .i64 k2, .int .i64 e2, .int .i64 n2, .string t2, .slice p2 a2 u2, .bool d2] TP))) := HB.out.trans (hB23.mono HB.out.size)
  clear c1 hb2 hB3 hB23 E0 HB
  go_wp2_with (first | ((with_reducible apply step_store hold); rfl; rfl; kernel_rfl; rfl; kernel_rfl; rw [World.setRow_alloc_new]) | ((with_reducible apply step_load L0); rfl; rfl) | fail)
  generalize w2.alloc (.cells #[.pointer tp, .string op, .int .i64 i1, .int .i64 k1, .int .i64 e1, .int .i64 n1, .string t1, .slice p1 a1 u1, .bool d1, .int .i64 i2, .int .i64 k2, .int .i64 e2, .int .i64 n2, .string t2, .slice p2 a2 u2, .bool d2] TP) = W4 at *
  clear hold L0 L1 L2
  refine (CR.out _ _ _ _ _ _ _).mono ?_
  rintro e w5 ⟨rfl, hb5⟩
  have E5 : Hid (_ = _) := blk_b E4.out hb5
  have HB5 : Hid (Below w0.heap.size w0 w5) := HB4.out.trans (hb5.mono HB4.out.size)
  clear hb5 E4 HB4 CR
  go_wp2_with fail
  refine (CF.out _ _ _ _ _ _ _ (HW0.out.trans (HB5.out.mono HW0.out.size))).mono ?_
  rintro e w6 ⟨rfl, hb6⟩
  have E6 : Hid (_ = _) := blk_b E5.out hb6
  have HB6 : Hid (Below w0.heap.size w0 w6) := HB5.out.trans (hb6.mono HB5.out.size)
  clear hb6 E5 HB5 CF
  go_wp2_with ((with_reducible apply step_store E6.out); rfl; rfl; kernel_rfl; rfl; kernel_rfl)
  refine ret_op (p := 8) (q := 9) rfl rfl (setRow_heap _ _ _ _ _ _ E6.out) rfl ?_
  exact ⟨rfl, below_setRow HB6.out (Nat.le_refl _) _⟩
set_option maxHeartbeats 4000000 in
theorem binary_order {tp : Option Addr} {op : ByteArray} {x y : Int} {i1 k1 e1 n1 : Int} {t1 : ByteArray} {d1 : Bool} {i2 k2 e2 n2 : Int} {t2 : ByteArray} {d2 : Bool} {q0 q1 q2 q3 q4 er : Int}
    (cP : ∀ Y, Below w.heap.size w Y → Calls Tryz.prog 31 #[.pointer tp, .int .i64 x, .int .i64 y] Y fun e w' => (∃ p1 a1 u1 p2 a2 u2, e = .returned (.tuple #[.agg #[.pointer tp, .string ⟨#[]⟩, .int .i64 i1, .int .i64 k1, .int .i64 e1, .int .i64 n1, .string t1, .slice p1 a1 u1, .bool d1, .int .i64 i2, .int .i64 k2, .int .i64 e2, .int .i64 n2, .string t2, .slice p2 a2 u2, .bool d2], .int .i64 0])) ∧ Below Y.heap.size Y w')
    (cR : ∀ p1 a1 u1 p2 a2 u2, ∀ Y : World, Calls Tryz.prog 32 #[.agg #[.pointer tp, .string op, .int .i64 i1, .int .i64 k1, .int .i64 e1, .int .i64 n1, .string t1, .slice p1 a1 u1, .bool d1, .int .i64 i2, .int .i64 k2, .int .i64 e2, .int .i64 n2, .string t2, .slice p2 a2 u2, .bool d2]] Y fun e w' => e = .returned (.func (.func 79) #[.agg #[.pointer tp, .string op, .int .i64 i1, .int .i64 k1, .int .i64 e1, .int .i64 n1, .string t1, .slice p1 a1 u1, .bool d1, .int .i64 i2, .int .i64 k2, .int .i64 e2, .int .i64 n2, .string t2, .slice p2 a2 u2, .bool d2]] #[]) ∧ Below Y.heap.size Y w')
    (cF : ∀ p1 a1 u1 p2 a2 u2, ∀ Y, Below w.heap.size w Y → Calls Tryz.prog 79 #[.agg #[.pointer tp, .string op, .int .i64 i1, .int .i64 k1, .int .i64 e1, .int .i64 n1, .string t1, .slice p1 a1 u1, .bool d1, .int .i64 i2, .int .i64 k2, .int .i64 e2, .int .i64 n2, .string t2, .slice p2 a2 u2, .bool d2]] Y fun e w' => e = .returned (.tuple #[.agg #[.int .i64 q0, .int .i64 q1, .int .i64 q2, .int .i64 q3, .int .i64 q4], .int .i64 er]) ∧ Below Y.heap.size Y w') :
    ∀ Y, Below w.heap.size w Y → Calls Tryz.prog 7 #[.pointer tp, .string op, .int .i64 x, .int .i64 y] Y fun e w' => e = .returned (.tuple #[.agg #[.int .i64 q0, .int .i64 q1, .int .i64 q2, .int .i64 q3, .int .i64 q4], .int .i64 er]) ∧ Below Y.heap.size Y w' := by
  intro w0 hw0
  have hB := below1 w0 (.cells #[.int .i64 0, .int .i64 0, .int .i64 0, .int .i64 0, .int .i64 0] TOp)
  have E0 : Hid (_ = _) := heap_r0 w0 (.cells #[.int .i64 0, .int .i64 0, .int .i64 0, .int .i64 0, .int .i64 0] TOp)
  have HB : Hid (Below w0.heap.size w0 (w0.alloc (.cells #[.int .i64 0, .int .i64 0, .int .i64 0, .int .i64 0, .int .i64 0] TOp))) := hB
  have HW0 : Hid (Below w.heap.size w w0) := hw0
  have c1 := cP _ (hw0.trans (hB.mono hw0.size))
  have CR : Hid (∀ p1 a1 u1 p2 a2 u2, ∀ Y : World, Calls Tryz.prog 32 #[.agg #[.pointer tp, .string op, .int .i64 i1, .int .i64 k1, .int .i64 e1, .int .i64 n1, .string t1, .slice p1 a1 u1, .bool d1, .int .i64 i2, .int .i64 k2, .int .i64 e2, .int .i64 n2, .string t2, .slice p2 a2 u2, .bool d2]] Y fun e w' => e = .returned (.func (.func 79) #[.agg #[.pointer tp, .string op, .int .i64 i1, .int .i64 k1, .int .i64 e1, .int .i64 n1, .string t1, .slice p1 a1 u1, .bool d1, .int .i64 i2, .int .i64 k2, .int .i64 e2, .int .i64 n2, .string t2, .slice p2 a2 u2, .bool d2]] #[]) ∧ Below Y.heap.size Y w') := cR
  have CF : Hid (∀ p1 a1 u1 p2 a2 u2, ∀ Y, Below w.heap.size w Y → Calls Tryz.prog 79 #[.agg #[.pointer tp, .string op, .int .i64 i1, .int .i64 k1, .int .i64 e1, .int .i64 n1, .string t1, .slice p1 a1 u1, .bool d1, .int .i64 i2, .int .i64 k2, .int .i64 e2, .int .i64 n2, .string t2, .slice p2 a2 u2, .bool d2]] Y fun e w' => e = .returned (.tuple #[.agg #[.int .i64 q0, .int .i64 q1, .int .i64 q2, .int .i64 q3, .int .i64 q4], .int .i64 er]) ∧ Below Y.heap.size Y w') := cF
  clear hB hw0 cP cR cF
  go_enter Tryz.func7, Tryz.ntmps7
  go_wp2_with fail
  generalize w0.alloc (.cells #[.int .i64 0, .int .i64 0, .int .i64 0, .int .i64 0, .int .i64 0] TOp) = W at *
  refine c1.mono ?_
  rintro e w2 ⟨⟨p1, a1, u1, p2, a2, u2, rfl⟩, hb2⟩
  have hold := heap_r0 w2 (.cells #[.pointer none, .string ⟨#[]⟩, .int .i64 0, .int .i64 0, .int .i64 0, .int .i64 0, .string ⟨#[]⟩, .slice none 0 0, .bool false, .int .i64 0, .int .i64 0, .int .i64 0, .int .i64 0, .string ⟨#[]⟩, .slice none 0 0, .bool false] TP)
  have hB3 := below1 w2 (.cells #[.pointer tp, .string op, .int .i64 i1, .int .i64 k1, .int .i64 e1, .int .i64 n1, .string t1, .slice p1 a1 u1, .bool d1, .int .i64 i2, .int .i64 k2, .int .i64 e2, .int .i64 n2, .string t2, .slice p2 a2 u2, .bool d2] TP)
  have hB23 := hb2.trans (hB3.mono hb2.size)
  obtain ⟨L0, L1, L2⟩ := load_P (fun j => Lib.cell_of_heap (heap_r0 w2 (.cells #[.pointer tp, .string op, .int .i64 i1, .int .i64 k1, .int .i64 e1, .int .i64 n1, .string t1, .slice p1 a1 u1, .bool d1, .int .i64 i2, .int .i64 k2, .int .i64 e2, .int .i64 n2, .string t2, .slice p2 a2 u2, .bool d2] TP)) j)
  have E4 : Hid ((w2.alloc (.cells #[.pointer tp, .string op, .int .i64 i1, .int .i64 k1, .int .i64 e1, .int .i64 n1, .string t1, .slice p1 a1 u1, .bool d1, .int .i64 i2, .int .i64 k2, .int .i64 e2, .int .i64 n2, .string t2, .slice p2 a2 u2, .bool d2] TP)).heap[w0.heap.size]? = some (.cells #[.int .i64 0, .int .i64 0, .int .i64 0, .int .i64 0, .int .i64 0] TOp (0, 0))) := blk_b E0.out hB23
  have HB4 : Hid (Below w0.heap.size w0 (w2.alloc (.cells #[.pointer tp, .string op, .int .i64 i1, .int .i64 k1, .int .i64 e1, .int .i64 n1, .string t1, .slice p1 a1 u1, .bool d1, .int .i64 i2, .int .i64 k2, .int .i64 e2, .int .i64 n2, .string t2, .slice p2 a2 u2, .bool d2] TP))) := HB.out.trans (hB23.mono HB.out.size)
  clear c1 hb2 hB3 hB23 E0 HB
  go_wp2_with (first | ((with_reducible apply step_store hold); rfl; rfl; kernel_rfl; rfl; kernel_rfl; rw [World.setRow_alloc_new]) | ((with_reducible apply step_load L0); rfl; rfl) | fail)
  generalize w2.alloc (.cells #[.pointer tp, .string op, .int .i64 i1, .int .i64 k1, .int .i64 e1, .int .i64 n1, .string t1, .slice p1 a1 u1, .bool d1, .int .i64 i2, .int .i64 k2, .int .i64 e2, .int .i64 n2, .string t2, .slice p2 a2 u2, .bool d2] TP) = W4 at *
  clear hold L0 L1 L2
  refine (CR.out _ _ _ _ _ _ _).mono ?_
  rintro e w5 ⟨rfl, hb5⟩
  have E5 : Hid (_ = _) := blk_b E4.out hb5
  have HB5 : Hid (Below w0.heap.size w0 w5) := HB4.out.trans (hb5.mono HB4.out.size)
  clear hb5 E4 HB4 CR
  go_wp2_with fail
  refine (CF.out _ _ _ _ _ _ _ (HW0.out.trans (HB5.out.mono HW0.out.size))).mono ?_
  rintro e w6 ⟨rfl, hb6⟩
  have E6 : Hid (_ = _) := blk_b E5.out hb6
  have HB6 : Hid (Below w0.heap.size w0 w6) := HB5.out.trans (hb6.mono HB5.out.size)
  clear hb6 E5 HB5 CF
  go_wp2_with ((with_reducible apply step_store E6.out); rfl; rfl; kernel_rfl; rfl; kernel_rfl)
  refine ret_op (p := 8) (q := 9) rfl rfl (setRow_heap _ _ _ _ _ _ E6.out) rfl ?_
  exact ⟨rfl, below_setRow HB6.out (Nat.le_refl _) _⟩
end
end Go.Proofs.YtpnpilbmhkiphaaGreatDoor
