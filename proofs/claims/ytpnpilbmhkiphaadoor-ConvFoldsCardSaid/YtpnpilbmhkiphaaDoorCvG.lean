/-
  arithmetic and difference where no row fits; what rule answers.
-/
import Derived.Test.YtpnpilbmhkiphaaDoorCvC
namespace Go.Proofs.YtpnpilbmhkiphaaDoor
open Go.RowKit Go.Maps
set_option linter.unusedVariables false
set_option maxRecDepth 100000

section
variable {w : World}
set_option maxHeartbeats 2000000 in
theorem arith_no {tp : Option Addr} {op : ByteArray} {i1 k1 e1 n1 : Int} {t1 : ByteArray} {p1 : Option Addr} {a1 u1 : Nat} {d1 : Bool} {i2 k2 e2 n2 : Int} {t2 : ByteArray} {p2 : Option Addr} {a2 u2 : Nat} {d2 : Bool} (hk : (intK k1 && intK k2) = false) :
    ∀ Y, Below w.heap.size w Y → Calls Tryd.prog 68 #[.agg #[.pointer tp, .string op, .int .i64 i1, .int .i64 k1, .int .i64 e1, .int .i64 n1, .string t1, .slice p1 a1 u1, .bool d1, .int .i64 i2, .int .i64 k2, .int .i64 e2, .int .i64 n2, .string t2, .slice p2 a2 u2, .bool d2]] Y fun e w' => e = .returned (.tuple #[.agg #[.int .i64 0, .int .i64 0, .int .i64 0, .int .i64 0, .int .i64 0], .int .i64 70]) ∧ Below Y.heap.size Y w' := by
  intro w0 hw0
  have c1 := fun Y => pInts_c tp op i1 k1 e1 n1 t1 p1 a1 u1 d1 i2 k2 e2 n2 t2 p2 a2 u2 d2 Y
  rw [hk] at c1
  have c2 := fun Y => nothing_c tp op i1 k1 e1 n1 t1 p1 a1 u1 d1 i2 k2 e2 n2 t2 p2 a2 u2 d2 Y
  unfold zeroOper at c2
  have hB : Below w0.heap.size w0 ((w0.alloc (.cells #[.pointer tp, .string op, .int .i64 i1, .int .i64 k1, .int .i64 e1, .int .i64 n1, .string t1, .slice p1 a1 u1, .bool d1, .int .i64 i2, .int .i64 k2, .int .i64 e2, .int .i64 n2, .string t2, .slice p2 a2 u2, .bool d2] TP)).alloc (.cells #[.int .i64 0, .int .i64 0, .int .i64 0, .int .i64 0, .int .i64 0] TOp)) := (below1 w0 _).alloc (below1 w0 _).size _
  have G0 : Hid (_ = _) := heap_s1 w0 (.cells #[.pointer tp, .string op, .int .i64 i1, .int .i64 k1, .int .i64 e1, .int .i64 n1, .string t1, .slice p1 a1 u1, .bool d1, .int .i64 i2, .int .i64 k2, .int .i64 e2, .int .i64 n2, .string t2, .slice p2 a2 u2, .bool d2] TP) (.cells #[.int .i64 0, .int .i64 0, .int .i64 0, .int .i64 0, .int .i64 0] TOp)
  have G1 : Hid (_ = _) := heap_s2 w0 (.cells #[.pointer tp, .string op, .int .i64 i1, .int .i64 k1, .int .i64 e1, .int .i64 n1, .string t1, .slice p1 a1 u1, .bool d1, .int .i64 i2, .int .i64 k2, .int .i64 e2, .int .i64 n2, .string t2, .slice p2 a2 u2, .bool d2] TP) (.cells #[.int .i64 0, .int .i64 0, .int .i64 0, .int .i64 0, .int .i64 0] TOp)
  have HB : Hid (Below _ _ _) := hB
  have hnf := not_f
  obtain ⟨L0, L1, L2⟩ := load_P (fun j => Lib.cell_of_heap G0.out j)
  clear hB hw0
  go_enter Tryd.func68, Tryd.ntmps68
  go_wp2_with (first | ((with_reducible apply step_load L0); rfl; rfl) | fail)
  generalize (w0.alloc (.cells #[.pointer tp, .string op, .int .i64 i1, .int .i64 k1, .int .i64 e1, .int .i64 n1, .string t1, .slice p1 a1 u1, .bool d1, .int .i64 i2, .int .i64 k2, .int .i64 e2, .int .i64 n2, .string t2, .slice p2 a2 u2, .bool d2] TP)).alloc (.cells #[.int .i64 0, .int .i64 0, .int .i64 0, .int .i64 0, .int .i64 0] TOp) = W at *
  refine (c1 _).mono ?_
  rintro e w1 ⟨rfl, hb⟩
  have Hw1 : Hid (Below W.heap.size W w1) := hb
  clear hb c1 L0 L1 L2
  obtain ⟨L0, L1, L2⟩ := load_P (fun j => cell_b G0.out Hw1.out j)
  go_wp2_with (first | ((with_reducible apply step_load L0); rfl; rfl) | fail)
  refine (c2 _).mono ?_
  rintro e w2 ⟨rfl, hb⟩
  have Hw2 : Hid (Below W.heap.size W w2) := Hw1.out.trans (hb.mono Hw1.out.size)
  clear hb c2 L0 L1 L2
  obtain ⟨L0, L1, L2⟩ := load_P (fun j => cell_b G0.out Hw2.out j)
  have E : Hid (_ = _) := blk_b G1.out Hw2.out
  have HBF : Hid (Below w0.heap.size w0 w2) := HB.out.trans (Hw2.out.mono HB.out.size)
  clear L0 L1 L2
  go_wp2_with ((with_reducible apply step_store E.out); rfl; rfl; kernel_rfl; rfl; kernel_rfl)
  refine ret_op (p := 2) (q := 3) rfl rfl (setRow_heap _ _ _ _ _ _ E.out) rfl ?_
  exact ⟨rfl, below_setRow HBF.out (by omega) _⟩
set_option maxHeartbeats 2000000 in
theorem diff_no {tp : Option Addr} {op : ByteArray} {i1 k1 e1 n1 : Int} {t1 : ByteArray} {p1 : Option Addr} {a1 u1 : Nat} {d1 : Bool} {i2 k2 e2 n2 : Int} {t2 : ByteArray} {p2 : Option Addr} {a2 u2 : Nat} {d2 : Bool} (h1 : k1 = 13) (h2 : k2 = 13) (hi : (i1 == i2) = false) :
    ∀ Y, Below w.heap.size w Y → Calls Tryd.prog 70 #[.agg #[.pointer tp, .string op, .int .i64 i1, .int .i64 k1, .int .i64 e1, .int .i64 n1, .string t1, .slice p1 a1 u1, .bool d1, .int .i64 i2, .int .i64 k2, .int .i64 e2, .int .i64 n2, .string t2, .slice p2 a2 u2, .bool d2]] Y fun e w' => e = .returned (.tuple #[.agg #[.int .i64 0, .int .i64 0, .int .i64 0, .int .i64 0, .int .i64 0], .int .i64 70]) ∧ Below Y.heap.size Y w' := by
  intro w0 hw0
  have c1 := fun Y => oPtr_c i1 k1 e1 n1 t1 p1 a1 u1 d1 Y
  rw [show (k1 == 13) = true by simp [h1]] at c1
  have c2 := fun Y => oInt_c i2 k2 e2 n2 t2 p2 a2 u2 d2 Y
  rw [show intK k2 = false by simp [intK, h2]] at c2
  have c3 := fun Y => pPtrs_c tp op i1 k1 e1 n1 t1 p1 a1 u1 d1 i2 k2 e2 n2 t2 p2 a2 u2 d2 Y
  rw [show (k1 == 13 && k2 == 13) = true by simp [h1, h2]] at c3
  have c4 := fun Y => pSame_c tp op i1 k1 e1 n1 t1 p1 a1 u1 d1 i2 k2 e2 n2 t2 p2 a2 u2 d2 Y
  rw [hi] at c4
  have c5 := fun (Y : World) => arith_no (w := Y) (tp := tp) (op := op) (i1 := i1) (e1 := e1) (n1 := n1) (t1 := t1) (p1 := p1) (a1 := a1) (u1 := u1) (d1 := d1) (i2 := i2) (e2 := e2) (n2 := n2) (t2 := t2) (p2 := p2) (a2 := a2) (u2 := u2) (d2 := d2) (show (intK k1 && intK k2) = false by simp [intK, h1, h2]) Y (Below.refl _ _)
  clear h1 h2 hi
  have hB : Below w0.heap.size w0 ((w0.alloc (.cells #[.pointer tp, .string op, .int .i64 i1, .int .i64 k1, .int .i64 e1, .int .i64 n1, .string t1, .slice p1 a1 u1, .bool d1, .int .i64 i2, .int .i64 k2, .int .i64 e2, .int .i64 n2, .string t2, .slice p2 a2 u2, .bool d2] TP)).alloc (.cells #[.int .i64 0, .int .i64 0, .int .i64 0, .int .i64 0, .int .i64 0] TOp)) := (below1 w0 _).alloc (below1 w0 _).size _
  have G0 : Hid (_ = _) := heap_s1 w0 (.cells #[.pointer tp, .string op, .int .i64 i1, .int .i64 k1, .int .i64 e1, .int .i64 n1, .string t1, .slice p1 a1 u1, .bool d1, .int .i64 i2, .int .i64 k2, .int .i64 e2, .int .i64 n2, .string t2, .slice p2 a2 u2, .bool d2] TP) (.cells #[.int .i64 0, .int .i64 0, .int .i64 0, .int .i64 0, .int .i64 0] TOp)
  have G1 : Hid (_ = _) := heap_s2 w0 (.cells #[.pointer tp, .string op, .int .i64 i1, .int .i64 k1, .int .i64 e1, .int .i64 n1, .string t1, .slice p1 a1 u1, .bool d1, .int .i64 i2, .int .i64 k2, .int .i64 e2, .int .i64 n2, .string t2, .slice p2 a2 u2, .bool d2] TP) (.cells #[.int .i64 0, .int .i64 0, .int .i64 0, .int .i64 0, .int .i64 0] TOp)
  have HB : Hid (Below _ _ _) := hB
  have hnf := not_f
  obtain ⟨L0, L1, L2⟩ := load_P (fun j => Lib.cell_of_heap G0.out j)
  clear hB hw0
  go_enter Tryd.func70, Tryd.ntmps70
  go_wp2_with (first | ((with_reducible apply step_load L1); rfl; rfl) | fail)
  generalize (w0.alloc (.cells #[.pointer tp, .string op, .int .i64 i1, .int .i64 k1, .int .i64 e1, .int .i64 n1, .string t1, .slice p1 a1 u1, .bool d1, .int .i64 i2, .int .i64 k2, .int .i64 e2, .int .i64 n2, .string t2, .slice p2 a2 u2, .bool d2] TP)).alloc (.cells #[.int .i64 0, .int .i64 0, .int .i64 0, .int .i64 0, .int .i64 0] TOp) = W at *
  refine (c1 _).mono ?_
  rintro e w1 ⟨rfl, hb⟩
  have Hw1 : Hid (Below W.heap.size W w1) := hb
  clear hb c1 L0 L1 L2
  obtain ⟨L0, L1, L2⟩ := load_P (fun j => cell_b G0.out Hw1.out j)
  go_wp2_with (first | ((with_reducible apply step_load L2); rfl; rfl) | fail)
  refine (c2 _).mono ?_
  rintro e w2 ⟨rfl, hb⟩
  have Hw2 : Hid (Below W.heap.size W w2) := Hw1.out.trans (hb.mono Hw1.out.size)
  clear hb c2 L0 L1 L2
  obtain ⟨L0, L1, L2⟩ := load_P (fun j => cell_b G0.out Hw2.out j)
  go_wp2_with (first | ((with_reducible apply step_load L0); rfl; rfl) | fail)
  refine (c3 _).mono ?_
  rintro e w3 ⟨rfl, hb⟩
  have Hw3 : Hid (Below W.heap.size W w3) := Hw2.out.trans (hb.mono Hw2.out.size)
  clear hb c3 L0 L1 L2
  obtain ⟨L0, L1, L2⟩ := load_P (fun j => cell_b G0.out Hw3.out j)
  go_wp2_with (first | ((with_reducible apply step_load L0); rfl; rfl) | fail)
  refine (c4 _).mono ?_
  rintro e w4 ⟨rfl, hb⟩
  have Hw4 : Hid (Below W.heap.size W w4) := Hw3.out.trans (hb.mono Hw3.out.size)
  clear hb c4 L0 L1 L2
  obtain ⟨L0, L1, L2⟩ := load_P (fun j => cell_b G0.out Hw4.out j)
  go_wp2_with (first | ((with_reducible apply step_load L0); rfl; rfl) | fail)
  refine (c5 _).mono ?_
  rintro e w5 ⟨rfl, hb⟩
  have Hw5 : Hid (Below W.heap.size W w5) := Hw4.out.trans (hb.mono Hw4.out.size)
  clear hb c5 L0 L1 L2
  obtain ⟨L0, L1, L2⟩ := load_P (fun j => cell_b G0.out Hw5.out j)
  have E : Hid (_ = _) := blk_b G1.out Hw5.out
  have HBF : Hid (Below w0.heap.size w0 w5) := HB.out.trans (Hw5.out.mono HB.out.size)
  clear L0 L1 L2
  go_wp2_with ((with_reducible apply step_store E.out); rfl; rfl; kernel_rfl; rfl; kernel_rfl)
  refine ret_op (p := 2) (q := 3) rfl rfl (setRow_heap _ _ _ _ _ _ E.out) rfl ?_
  exact ⟨rfl, below_setRow HBF.out (by omega) _⟩
set_option maxHeartbeats 2000000 in
theorem rule_plus {tp : Option Addr} {i1 k1 e1 n1 : Int} {t1 : ByteArray} {p1 : Option Addr} {a1 u1 : Nat} {d1 : Bool} {i2 k2 e2 n2 : Int} {t2 : ByteArray} {p2 : Option Addr} {a2 u2 : Nat} {d2 : Bool} : ∀ Y : World, Calls Tryd.prog 45 #[.agg #[.pointer tp, .string ⟨#[43]⟩, .int .i64 i1, .int .i64 k1, .int .i64 e1, .int .i64 n1, .string t1, .slice p1 a1 u1, .bool d1, .int .i64 i2, .int .i64 k2, .int .i64 e2, .int .i64 n2, .string t2, .slice p2 a2 u2, .bool d2]] Y fun e w' => e = .returned (.func (.func 69) #[.agg #[.pointer tp, .string ⟨#[43]⟩, .int .i64 i1, .int .i64 k1, .int .i64 e1, .int .i64 n1, .string t1, .slice p1 a1 u1, .bool d1, .int .i64 i2, .int .i64 k2, .int .i64 e2, .int .i64 n2, .string t2, .slice p2 a2 u2, .bool d2]] #[]) ∧ Below Y.heap.size Y w' := by
  intro w0
  have HB : Hid (Below w0.heap.size w0 (w0.alloc (.cells #[.pointer tp, .string ⟨#[43]⟩, .int .i64 i1, .int .i64 k1, .int .i64 e1, .int .i64 n1, .string t1, .slice p1 a1 u1, .bool d1, .int .i64 i2, .int .i64 k2, .int .i64 e2, .int .i64 n2, .string t2, .slice p2 a2 u2, .bool d2] TP))) := below1 w0 _
  obtain ⟨L0, L1, L2⟩ := load_P (Y := w0.alloc (.cells #[.pointer tp, .string ⟨#[43]⟩, .int .i64 i1, .int .i64 k1, .int .i64 e1, .int .i64 n1, .string t1, .slice p1 a1 u1, .bool d1, .int .i64 i2, .int .i64 k2, .int .i64 e2, .int .i64 n2, .string t2, .slice p2 a2 u2, .bool d2] TP)) (g := w0.heap.size) (fun j => Lib.cell_of_heap (heap_r0 w0 (.cells #[.pointer tp, .string ⟨#[43]⟩, .int .i64 i1, .int .i64 k1, .int .i64 e1, .int .i64 n1, .string t1, .slice p1 a1 u1, .bool d1, .int .i64 i2, .int .i64 k2, .int .i64 e2, .int .i64 n2, .string t2, .slice p2 a2 u2, .bool d2] TP)) j)
  go_enter Tryd.func45, Tryd.ntmps45
  go_wp2_with (first | ((with_reducible apply step_load L0); rfl; rfl) | fail)
  go_ret
  exact ⟨rfl, HB.out⟩
set_option maxHeartbeats 2000000 in
theorem rule_minus {tp : Option Addr} {i1 k1 e1 n1 : Int} {t1 : ByteArray} {p1 : Option Addr} {a1 u1 : Nat} {d1 : Bool} {i2 k2 e2 n2 : Int} {t2 : ByteArray} {p2 : Option Addr} {a2 u2 : Nat} {d2 : Bool} : ∀ Y : World, Calls Tryd.prog 45 #[.agg #[.pointer tp, .string ⟨#[45]⟩, .int .i64 i1, .int .i64 k1, .int .i64 e1, .int .i64 n1, .string t1, .slice p1 a1 u1, .bool d1, .int .i64 i2, .int .i64 k2, .int .i64 e2, .int .i64 n2, .string t2, .slice p2 a2 u2, .bool d2]] Y fun e w' => e = .returned (.func (.func 70) #[.agg #[.pointer tp, .string ⟨#[45]⟩, .int .i64 i1, .int .i64 k1, .int .i64 e1, .int .i64 n1, .string t1, .slice p1 a1 u1, .bool d1, .int .i64 i2, .int .i64 k2, .int .i64 e2, .int .i64 n2, .string t2, .slice p2 a2 u2, .bool d2]] #[]) ∧ Below Y.heap.size Y w' := by
  intro w0
  have HB : Hid (Below w0.heap.size w0 (w0.alloc (.cells #[.pointer tp, .string ⟨#[45]⟩, .int .i64 i1, .int .i64 k1, .int .i64 e1, .int .i64 n1, .string t1, .slice p1 a1 u1, .bool d1, .int .i64 i2, .int .i64 k2, .int .i64 e2, .int .i64 n2, .string t2, .slice p2 a2 u2, .bool d2] TP))) := below1 w0 _
  obtain ⟨L0, L1, L2⟩ := load_P (Y := w0.alloc (.cells #[.pointer tp, .string ⟨#[45]⟩, .int .i64 i1, .int .i64 k1, .int .i64 e1, .int .i64 n1, .string t1, .slice p1 a1 u1, .bool d1, .int .i64 i2, .int .i64 k2, .int .i64 e2, .int .i64 n2, .string t2, .slice p2 a2 u2, .bool d2] TP)) (g := w0.heap.size) (fun j => Lib.cell_of_heap (heap_r0 w0 (.cells #[.pointer tp, .string ⟨#[45]⟩, .int .i64 i1, .int .i64 k1, .int .i64 e1, .int .i64 n1, .string t1, .slice p1 a1 u1, .bool d1, .int .i64 i2, .int .i64 k2, .int .i64 e2, .int .i64 n2, .string t2, .slice p2 a2 u2, .bool d2] TP)) j)
  go_enter Tryd.func45, Tryd.ntmps45
  go_wp2_with (first | ((with_reducible apply step_load L0); rfl; rfl) | fail)
  go_ret
  exact ⟨rfl, HB.out⟩
set_option maxHeartbeats 2000000 in
theorem rule_less {tp : Option Addr} {i1 k1 e1 n1 : Int} {t1 : ByteArray} {p1 : Option Addr} {a1 u1 : Nat} {d1 : Bool} {i2 k2 e2 n2 : Int} {t2 : ByteArray} {p2 : Option Addr} {a2 u2 : Nat} {d2 : Bool} : ∀ Y : World, Calls Tryd.prog 45 #[.agg #[.pointer tp, .string ⟨#[60]⟩, .int .i64 i1, .int .i64 k1, .int .i64 e1, .int .i64 n1, .string t1, .slice p1 a1 u1, .bool d1, .int .i64 i2, .int .i64 k2, .int .i64 e2, .int .i64 n2, .string t2, .slice p2 a2 u2, .bool d2]] Y fun e w' => e = .returned (.func (.func 73) #[.agg #[.pointer tp, .string ⟨#[60]⟩, .int .i64 i1, .int .i64 k1, .int .i64 e1, .int .i64 n1, .string t1, .slice p1 a1 u1, .bool d1, .int .i64 i2, .int .i64 k2, .int .i64 e2, .int .i64 n2, .string t2, .slice p2 a2 u2, .bool d2]] #[]) ∧ Below Y.heap.size Y w' := by
  intro w0
  have HB : Hid (Below w0.heap.size w0 (w0.alloc (.cells #[.pointer tp, .string ⟨#[60]⟩, .int .i64 i1, .int .i64 k1, .int .i64 e1, .int .i64 n1, .string t1, .slice p1 a1 u1, .bool d1, .int .i64 i2, .int .i64 k2, .int .i64 e2, .int .i64 n2, .string t2, .slice p2 a2 u2, .bool d2] TP))) := below1 w0 _
  obtain ⟨L0, L1, L2⟩ := load_P (Y := w0.alloc (.cells #[.pointer tp, .string ⟨#[60]⟩, .int .i64 i1, .int .i64 k1, .int .i64 e1, .int .i64 n1, .string t1, .slice p1 a1 u1, .bool d1, .int .i64 i2, .int .i64 k2, .int .i64 e2, .int .i64 n2, .string t2, .slice p2 a2 u2, .bool d2] TP)) (g := w0.heap.size) (fun j => Lib.cell_of_heap (heap_r0 w0 (.cells #[.pointer tp, .string ⟨#[60]⟩, .int .i64 i1, .int .i64 k1, .int .i64 e1, .int .i64 n1, .string t1, .slice p1 a1 u1, .bool d1, .int .i64 i2, .int .i64 k2, .int .i64 e2, .int .i64 n2, .string t2, .slice p2 a2 u2, .bool d2] TP)) j)
  go_enter Tryd.func45, Tryd.ntmps45
  go_wp2_with (first | ((with_reducible apply step_load L0); rfl; rfl) | fail)
  go_ret
  exact ⟨rfl, HB.out⟩
end
end Go.Proofs.YtpnpilbmhkiphaaDoor
