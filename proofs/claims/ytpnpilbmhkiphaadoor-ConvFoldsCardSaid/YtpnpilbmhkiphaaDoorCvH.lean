/-
  Binary: by the pair, rule's answer and what that answers.
-/
import Derived.Test.YtpnpilbmhkiphaaDoorCvG
namespace Go.Proofs.YtpnpilbmhkiphaaDoor
open Go.RowKit Go.Maps
set_option linter.unusedVariables false
set_option maxRecDepth 100000

section
variable {w : World}
set_option maxHeartbeats 4000000 in
theorem binary_sum {tp : Option Addr} {op : ByteArray} {x y : Int} {i1 k1 e1 n1 : Int} {t1 : ByteArray} {d1 : Bool} {i2 k2 e2 n2 : Int} {t2 : ByteArray} {d2 : Bool} {q0 q1 q2 q3 q4 er : Int}
    (cP : ∀ Y, Below w.heap.size w Y → Calls Tryd.prog 44 #[.pointer tp, .int .i64 x, .int .i64 y] Y fun e w' => (∃ p1 a1 u1 p2 a2 u2, e = .returned (.tuple #[.agg #[.pointer tp, .string ⟨#[]⟩, .int .i64 i1, .int .i64 k1, .int .i64 e1, .int .i64 n1, .string t1, .slice p1 a1 u1, .bool d1, .int .i64 i2, .int .i64 k2, .int .i64 e2, .int .i64 n2, .string t2, .slice p2 a2 u2, .bool d2], .int .i64 0])) ∧ Below Y.heap.size Y w')
    (cR : ∀ p1 a1 u1 p2 a2 u2, ∀ Y : World, Calls Tryd.prog 45 #[.agg #[.pointer tp, .string op, .int .i64 i1, .int .i64 k1, .int .i64 e1, .int .i64 n1, .string t1, .slice p1 a1 u1, .bool d1, .int .i64 i2, .int .i64 k2, .int .i64 e2, .int .i64 n2, .string t2, .slice p2 a2 u2, .bool d2]] Y fun e w' => e = .returned (.func (.func 69) #[.agg #[.pointer tp, .string op, .int .i64 i1, .int .i64 k1, .int .i64 e1, .int .i64 n1, .string t1, .slice p1 a1 u1, .bool d1, .int .i64 i2, .int .i64 k2, .int .i64 e2, .int .i64 n2, .string t2, .slice p2 a2 u2, .bool d2]] #[]) ∧ Below Y.heap.size Y w')
    (cF : ∀ p1 a1 u1 p2 a2 u2, ∀ Y, Below w.heap.size w Y → Calls Tryd.prog 69 #[.agg #[.pointer tp, .string op, .int .i64 i1, .int .i64 k1, .int .i64 e1, .int .i64 n1, .string t1, .slice p1 a1 u1, .bool d1, .int .i64 i2, .int .i64 k2, .int .i64 e2, .int .i64 n2, .string t2, .slice p2 a2 u2, .bool d2]] Y fun e w' => e = .returned (.tuple #[.agg #[.int .i64 q0, .int .i64 q1, .int .i64 q2, .int .i64 q3, .int .i64 q4], .int .i64 er]) ∧ Below Y.heap.size Y w') :
    ∀ Y, Below w.heap.size w Y → Calls Tryd.prog 23 #[.pointer tp, .string op, .int .i64 x, .int .i64 y] Y fun e w' => e = .returned (.tuple #[.agg #[.int .i64 q0, .int .i64 q1, .int .i64 q2, .int .i64 q3, .int .i64 q4], .int .i64 er]) ∧ Below Y.heap.size Y w' := by
  intro w0 hw0
  have hB := below1 w0 (.cells #[.int .i64 0, .int .i64 0, .int .i64 0, .int .i64 0, .int .i64 0] TOp)
  have E0 : Hid (_ = _) := heap_r0 w0 (.cells #[.int .i64 0, .int .i64 0, .int .i64 0, .int .i64 0, .int .i64 0] TOp)
  have HB : Hid (Below w0.heap.size w0 (w0.alloc (.cells #[.int .i64 0, .int .i64 0, .int .i64 0, .int .i64 0, .int .i64 0] TOp))) := hB
  have HW0 : Hid (Below w.heap.size w w0) := hw0
  have c1 := cP _ (hw0.trans (hB.mono hw0.size))
  have CR : Hid (∀ p1 a1 u1 p2 a2 u2, ∀ Y : World, Calls Tryd.prog 45 #[.agg #[.pointer tp, .string op, .int .i64 i1, .int .i64 k1, .int .i64 e1, .int .i64 n1, .string t1, .slice p1 a1 u1, .bool d1, .int .i64 i2, .int .i64 k2, .int .i64 e2, .int .i64 n2, .string t2, .slice p2 a2 u2, .bool d2]] Y fun e w' => e = .returned (.func (.func 69) #[.agg #[.pointer tp, .string op, .int .i64 i1, .int .i64 k1, .int .i64 e1, .int .i64 n1, .string t1, .slice p1 a1 u1, .bool d1, .int .i64 i2, .int .i64 k2, .int .i64 e2, .int .i64 n2, .string t2, .slice p2 a2 u2, .bool d2]] #[]) ∧ Below Y.heap.size Y w') := cR
  have CF : Hid (∀ p1 a1 u1 p2 a2 u2, ∀ Y, Below w.heap.size w Y → Calls Tryd.prog 69 #[.agg #[.pointer tp, .string op, .int .i64 i1, .int .i64 k1, .int .i64 e1, .int .i64 n1, .string t1, .slice p1 a1 u1, .bool d1, .int .i64 i2, .int .i64 k2, .int .i64 e2, .int .i64 n2, .string t2, .slice p2 a2 u2, .bool d2]] Y fun e w' => e = .returned (.tuple #[.agg #[.int .i64 q0, .int .i64 q1, .int .i64 q2, .int .i64 q3, .int .i64 q4], .int .i64 er]) ∧ Below Y.heap.size Y w') := cF
  clear hB hw0 cP cR cF
  go_enter Tryd.func23, Tryd.ntmps23
  go_wp2_with fail
  generalize w0.alloc (.cells #[.int .i64 0, .int .i64 0, .int .i64 0, .int .i64 0, .int .i64 0] TOp) = W at *
  refine c1.mono ?_
  rintro e w2 ⟨⟨p1, a1, u1, p2, a2, u2, rfl⟩, hb2⟩
  have hold := heap_r0 w2 (.cells #[.pointer none, .string ⟨#[]⟩, .int .i64 0, .int .i64 0, .int .i64 0, .int .i64 0, .string ⟨#[]⟩, .slice none 0 0, .bool false, .int .i64 0, .int .i64 0, .int .i64 0, .int .i64 0, .string ⟨#[]⟩, .slice none 0 0, .bool false] TP)
  have hB3 := below1 w2 (.cells #[.pointer tp, .string op, .int .i64 i1, .int .i64 k1, .int .i64 e1, .int .i64 n1, .string t1, .slice p1 a1 u1, .bool d1, .int .i64 i2, .int .i64 k2, .int .i64 e2, .int .i64 n2, .string t2, .slice p2 a2 u2, .bool d2] TP)
  have hB23 := hb2.trans (hB3.mono hb2.size)
  obtain ⟨L0, L1, L2⟩ := load_P (fun j => Lib.cell_of_heap (heap_r0 w2 (.cells #[.pointer tp, .string op, .int .i64 i1, .int .i64 k1, .int .i64 e1, .int .i64 n1, .string t1, .slice p1 a1 u1, .bool d1, .int .i64 i2, .int .i64 k2, .int .i64 e2, .int .i64 n2, .string t2, .slice p2 a2 u2, .bool d2] TP)) j)
  have E4 : Hid ((w2.alloc (.cells #[.pointer tp, .string op, .int .i64 i1, .int .i64 k1, .int .i64 e1, .int .i64 n1, .string t1, .slice p1 a1 u1, .bool d1, .int .i64 i2, .int .i64 k2, .int .i64 e2, .int .i64 n2, .string t2, .slice p2 a2 u2, .bool d2] TP)).heap[w0.heap.size]? = some (.cells #[.int .i64 0, .int .i64 0, .int .i64 0, .int .i64 0, .int .i64 0] TOp (0, 0))) := blk_b E0.out hB23
  have HB4 : Hid (Below w0.heap.size w0 (w2.alloc (.cells #[.pointer tp, .string op, .int .i64 i1, .int .i64 k1, .int .i64 e1, .int .i64 n1, .string t1, .slice p1 a1 u1, .bool d1, .int .i64 i2, .int .i64 k2, .int .i64 e2, .int .i64 n2, .string t2, .slice p2 a2 u2, .bool d2] TP))) := HB.out.trans (hB23.mono HB.out.size)
  clear c1 hb2 hB3 hB23 E0 HB
  go_wp2_with (first | ((with_reducible apply step_store hold); rfl; rfl; kernel_rfl; rfl; kernel_rfl; rw [World.setRow_alloc_new]) | ((with_reducible apply step_load L0); rfl; rfl) | fail)
  generalize w2.alloc (.cells #[.pointer tp, .string op, .int .i64 i1, .int .i64 k1, .int .i64 e1, .int .i64 n1, .string t1, .slice p1 a1 u1, .bool d1, .int .i64 i2, .int .i64 k2, .int .i64 e2, .int .i64 n2, .string t2, .slice p2 a2 u2, .bool d2] TP) = W4 at *
  clear hold L0 L1 L2
  refine (CR.out _ _ _ _ _ _ _).mono ?_
  rintro e w5 ⟨rfl, hb5⟩
  have E5 : Hid (_ = _) := blk_b E4.out hb5
  have HB5 : Hid (Below w0.heap.size w0 w5) := HB4.out.trans (hb5.mono HB4.out.size)
  clear hb5 E4 HB4 CR
  go_wp2_with fail
  refine (CF.out _ _ _ _ _ _ _ (HW0.out.trans (HB5.out.mono HW0.out.size))).mono ?_
  rintro e w6 ⟨rfl, hb6⟩
  have E6 : Hid (_ = _) := blk_b E5.out hb6
  have HB6 : Hid (Below w0.heap.size w0 w6) := HB5.out.trans (hb6.mono HB5.out.size)
  clear hb6 E5 HB5 CF
  go_wp2_with ((with_reducible apply step_store E6.out); rfl; rfl; kernel_rfl; rfl; kernel_rfl)
  refine ret_op (p := 8) (q := 9) rfl rfl (setRow_heap _ _ _ _ _ _ E6.out) rfl ?_
  exact ⟨rfl, below_setRow HB6.out (Nat.le_refl _) _⟩
set_option maxHeartbeats 4000000 in
theorem binary_diff {tp : Option Addr} {op : ByteArray} {x y : Int} {i1 k1 e1 n1 : Int} {t1 : ByteArray} {d1 : Bool} {i2 k2 e2 n2 : Int} {t2 : ByteArray} {d2 : Bool} {q0 q1 q2 q3 q4 er : Int}
    (cP : ∀ Y, Below w.heap.size w Y → Calls Tryd.prog 44 #[.pointer tp, .int .i64 x, .int .i64 y] Y fun e w' => (∃ p1 a1 u1 p2 a2 u2, e = .returned (.tuple #[.agg #[.pointer tp, .string ⟨#[]⟩, .int .i64 i1, .int .i64 k1, .int .i64 e1, .int .i64 n1, .string t1, .slice p1 a1 u1, .bool d1, .int .i64 i2, .int .i64 k2, .int .i64 e2, .int .i64 n2, .string t2, .slice p2 a2 u2, .bool d2], .int .i64 0])) ∧ Below Y.heap.size Y w')
    (cR : ∀ p1 a1 u1 p2 a2 u2, ∀ Y : World, Calls Tryd.prog 45 #[.agg #[.pointer tp, .string op, .int .i64 i1, .int .i64 k1, .int .i64 e1, .int .i64 n1, .string t1, .slice p1 a1 u1, .bool d1, .int .i64 i2, .int .i64 k2, .int .i64 e2, .int .i64 n2, .string t2, .slice p2 a2 u2, .bool d2]] Y fun e w' => e = .returned (.func (.func 70) #[.agg #[.pointer tp, .string op, .int .i64 i1, .int .i64 k1, .int .i64 e1, .int .i64 n1, .string t1, .slice p1 a1 u1, .bool d1, .int .i64 i2, .int .i64 k2, .int .i64 e2, .int .i64 n2, .string t2, .slice p2 a2 u2, .bool d2]] #[]) ∧ Below Y.heap.size Y w')
    (cF : ∀ p1 a1 u1 p2 a2 u2, ∀ Y, Below w.heap.size w Y → Calls Tryd.prog 70 #[.agg #[.pointer tp, .string op, .int .i64 i1, .int .i64 k1, .int .i64 e1, .int .i64 n1, .string t1, .slice p1 a1 u1, .bool d1, .int .i64 i2, .int .i64 k2, .int .i64 e2, .int .i64 n2, .string t2, .slice p2 a2 u2, .bool d2]] Y fun e w' => e = .returned (.tuple #[.agg #[.int .i64 q0, .int .i64 q1, .int .i64 q2, .int .i64 q3, .int .i64 q4], .int .i64 er]) ∧ Below Y.heap.size Y w') :
    ∀ Y, Below w.heap.size w Y → Calls Tryd.prog 23 #[.pointer tp, .string op, .int .i64 x, .int .i64 y] Y fun e w' => e = .returned (.tuple #[.agg #[.int .i64 q0, .int .i64 q1, .int .i64 q2, .int .i64 q3, .int .i64 q4], .int .i64 er]) ∧ Below Y.heap.size Y w' := by
  intro w0 hw0
  have hB := below1 w0 (.cells #[.int .i64 0, .int .i64 0, .int .i64 0, .int .i64 0, .int .i64 0] TOp)
  have E0 : Hid (_ = _) := heap_r0 w0 (.cells #[.int .i64 0, .int .i64 0, .int .i64 0, .int .i64 0, .int .i64 0] TOp)
  have HB : Hid (Below w0.heap.size w0 (w0.alloc (.cells #[.int .i64 0, .int .i64 0, .int .i64 0, .int .i64 0, .int .i64 0] TOp))) := hB
  have HW0 : Hid (Below w.heap.size w w0) := hw0
  have c1 := cP _ (hw0.trans (hB.mono hw0.size))
  have CR : Hid (∀ p1 a1 u1 p2 a2 u2, ∀ Y : World, Calls Tryd.prog 45 #[.agg #[.pointer tp, .string op, .int .i64 i1, .int .i64 k1, .int .i64 e1, .int .i64 n1, .string t1, .slice p1 a1 u1, .bool d1, .int .i64 i2, .int .i64 k2, .int .i64 e2, .int .i64 n2, .string t2, .slice p2 a2 u2, .bool d2]] Y fun e w' => e = .returned (.func (.func 70) #[.agg #[.pointer tp, .string op, .int .i64 i1, .int .i64 k1, .int .i64 e1, .int .i64 n1, .string t1, .slice p1 a1 u1, .bool d1, .int .i64 i2, .int .i64 k2, .int .i64 e2, .int .i64 n2, .string t2, .slice p2 a2 u2, .bool d2]] #[]) ∧ Below Y.heap.size Y w') := cR
  have CF : Hid (∀ p1 a1 u1 p2 a2 u2, ∀ Y, Below w.heap.size w Y → Calls Tryd.prog 70 #[.agg #[.pointer tp, .string op, .int .i64 i1, .int .i64 k1, .int .i64 e1, .int .i64 n1, .string t1, .slice p1 a1 u1, .bool d1, .int .i64 i2, .int .i64 k2, .int .i64 e2, .int .i64 n2, .string t2, .slice p2 a2 u2, .bool d2]] Y fun e w' => e = .returned (.tuple #[.agg #[.int .i64 q0, .int .i64 q1, .int .i64 q2, .int .i64 q3, .int .i64 q4], .int .i64 er]) ∧ Below Y.heap.size Y w') := cF
  clear hB hw0 cP cR cF
  go_enter Tryd.func23, Tryd.ntmps23
  go_wp2_with fail
  generalize w0.alloc (.cells #[.int .i64 0, .int .i64 0, .int .i64 0, .int .i64 0, .int .i64 0] TOp) = W at *
  refine c1.mono ?_
  rintro e w2 ⟨⟨p1, a1, u1, p2, a2, u2, rfl⟩, hb2⟩
  have hold := heap_r0 w2 (.cells #[.pointer none, .string ⟨#[]⟩, .int .i64 0, .int .i64 0, .int .i64 0, .int .i64 0, .string ⟨#[]⟩, .slice none 0 0, .bool false, .int .i64 0, .int .i64 0, .int .i64 0, .int .i64 0, .string ⟨#[]⟩, .slice none 0 0, .bool false] TP)
  have hB3 := below1 w2 (.cells #[.pointer tp, .string op, .int .i64 i1, .int .i64 k1, .int .i64 e1, .int .i64 n1, .string t1, .slice p1 a1 u1, .bool d1, .int .i64 i2, .int .i64 k2, .int .i64 e2, .int .i64 n2, .string t2, .slice p2 a2 u2, .bool d2] TP)
  have hB23 := hb2.trans (hB3.mono hb2.size)
  obtain ⟨L0, L1, L2⟩ := load_P (fun j => Lib.cell_of_heap (heap_r0 w2 (.cells #[.pointer tp, .string op, .int .i64 i1, .int .i64 k1, .int .i64 e1, .int .i64 n1, .string t1, .slice p1 a1 u1, .bool d1, .int .i64 i2, .int .i64 k2, .int .i64 e2, .int .i64 n2, .string t2, .slice p2 a2 u2, .bool d2] TP)) j)
  have E4 : Hid ((w2.alloc (.cells #[.pointer tp, .string op, .int .i64 i1, .int .i64 k1, .int .i64 e1, .int .i64 n1, .string t1, .slice p1 a1 u1, .bool d1, .int .i64 i2, .int .i64 k2, .int .i64 e2, .int .i64 n2, .string t2, .slice p2 a2 u2, .bool d2] TP)).heap[w0.heap.size]? = some (.cells #[.int .i64 0, .int .i64 0, .int .i64 0, .int .i64 0, .int .i64 0] TOp (0, 0))) := blk_b E0.out hB23
  have HB4 : Hid (Below w0.heap.size w0 (w2.alloc (.cells #[.pointer tp, .string op, .int .i64 i1, .int .i64 k1, .int .i64 e1, .int .i64 n1, .string t1, .slice p1 a1 u1, .bool d1, .int .i64 i2, .int .i64 k2, .int .i64 e2, .int .i64 n2, .string t2, .slice p2 a2 u2, .bool d2] TP))) := HB.out.trans (hB23.mono HB.out.size)
  clear c1 hb2 hB3 hB23 E0 HB
  go_wp2_with (first | ((with_reducible apply step_store hold); rfl; rfl; kernel_rfl; rfl; kernel_rfl; rw [World.setRow_alloc_new]) | ((with_reducible apply step_load L0); rfl; rfl) | fail)
  generalize w2.alloc (.cells #[.pointer tp, .string op, .int .i64 i1, .int .i64 k1, .int .i64 e1, .int .i64 n1, .string t1, .slice p1 a1 u1, .bool d1, .int .i64 i2, .int .i64 k2, .int .i64 e2, .int .i64 n2, .string t2, .slice p2 a2 u2, .bool d2] TP) = W4 at *
  clear hold L0 L1 L2
  refine (CR.out _ _ _ _ _ _ _).mono ?_
  rintro e w5 ⟨rfl, hb5⟩
  have E5 : Hid (_ = _) := blk_b E4.out hb5
  have HB5 : Hid (Below w0.heap.size w0 w5) := HB4.out.trans (hb5.mono HB4.out.size)
  clear hb5 E4 HB4 CR
  go_wp2_with fail
  refine (CF.out _ _ _ _ _ _ _ (HW0.out.trans (HB5.out.mono HW0.out.size))).mono ?_
  rintro e w6 ⟨rfl, hb6⟩
  have E6 : Hid (_ = _) := blk_b E5.out hb6
  have HB6 : Hid (Below w0.heap.size w0 w6) := HB5.out.trans (hb6.mono HB5.out.size)
  clear hb6 E5 HB5 CF
  go_wp2_with ((with_reducible apply step_store E6.out); rfl; rfl; kernel_rfl; rfl; kernel_rfl)
  refine ret_op (p := 8) (q := 9) rfl rfl (setRow_heap _ _ _ _ _ _ E6.out) rfl ?_
  exact ⟨rfl, below_setRow HB6.out (Nat.le_refl _) _⟩
set_option maxHeartbeats 4000000 in
theorem binary_order {tp : Option Addr} {op : ByteArray} {x y : Int} {i1 k1 e1 n1 : Int} {t1 : ByteArray} {d1 : Bool} {i2 k2 e2 n2 : Int} {t2 : ByteArray} {d2 : Bool} {q0 q1 q2 q3 q4 er : Int}
    (cP : ∀ Y, Below w.heap.size w Y → Calls Tryd.prog 44 #[.pointer tp, .int .i64 x, .int .i64 y] Y fun e w' => (∃ p1 a1 u1 p2 a2 u2, e = .returned (.tuple #[.agg #[.pointer tp, .string ⟨#[]⟩, .int .i64 i1, .int .i64 k1, .int .i64 e1, .int .i64 n1, .string t1, .slice p1 a1 u1, .bool d1, .int .i64 i2, .int .i64 k2, .int .i64 e2, .int .i64 n2, .string t2, .slice p2 a2 u2, .bool d2], .int .i64 0])) ∧ Below Y.heap.size Y w')
    (cR : ∀ p1 a1 u1 p2 a2 u2, ∀ Y : World, Calls Tryd.prog 45 #[.agg #[.pointer tp, .string op, .int .i64 i1, .int .i64 k1, .int .i64 e1, .int .i64 n1, .string t1, .slice p1 a1 u1, .bool d1, .int .i64 i2, .int .i64 k2, .int .i64 e2, .int .i64 n2, .string t2, .slice p2 a2 u2, .bool d2]] Y fun e w' => e = .returned (.func (.func 73) #[.agg #[.pointer tp, .string op, .int .i64 i1, .int .i64 k1, .int .i64 e1, .int .i64 n1, .string t1, .slice p1 a1 u1, .bool d1, .int .i64 i2, .int .i64 k2, .int .i64 e2, .int .i64 n2, .string t2, .slice p2 a2 u2, .bool d2]] #[]) ∧ Below Y.heap.size Y w')
    (cF : ∀ p1 a1 u1 p2 a2 u2, ∀ Y, Below w.heap.size w Y → Calls Tryd.prog 73 #[.agg #[.pointer tp, .string op, .int .i64 i1, .int .i64 k1, .int .i64 e1, .int .i64 n1, .string t1, .slice p1 a1 u1, .bool d1, .int .i64 i2, .int .i64 k2, .int .i64 e2, .int .i64 n2, .string t2, .slice p2 a2 u2, .bool d2]] Y fun e w' => e = .returned (.tuple #[.agg #[.int .i64 q0, .int .i64 q1, .int .i64 q2, .int .i64 q3, .int .i64 q4], .int .i64 er]) ∧ Below Y.heap.size Y w') :
    ∀ Y, Below w.heap.size w Y → Calls Tryd.prog 23 #[.pointer tp, .string op, .int .i64 x, .int .i64 y] Y fun e w' => e = .returned (.tuple #[.agg #[.int .i64 q0, .int .i64 q1, .int .i64 q2, .int .i64 q3, .int .i64 q4], .int .i64 er]) ∧ Below Y.heap.size Y w' := by
  intro w0 hw0
  have hB := below1 w0 (.cells #[.int .i64 0, .int .i64 0, .int .i64 0, .int .i64 0, .int .i64 0] TOp)
  have E0 : Hid (_ = _) := heap_r0 w0 (.cells #[.int .i64 0, .int .i64 0, .int .i64 0, .int .i64 0, .int .i64 0] TOp)
  have HB : Hid (Below w0.heap.size w0 (w0.alloc (.cells #[.int .i64 0, .int .i64 0, .int .i64 0, .int .i64 0, .int .i64 0] TOp))) := hB
  have HW0 : Hid (Below w.heap.size w w0) := hw0
  have c1 := cP _ (hw0.trans (hB.mono hw0.size))
  have CR : Hid (∀ p1 a1 u1 p2 a2 u2, ∀ Y : World, Calls Tryd.prog 45 #[.agg #[.pointer tp, .string op, .int .i64 i1, .int .i64 k1, .int .i64 e1, .int .i64 n1, .string t1, .slice p1 a1 u1, .bool d1, .int .i64 i2, .int .i64 k2, .int .i64 e2, .int .i64 n2, .string t2, .slice p2 a2 u2, .bool d2]] Y fun e w' => e = .returned (.func (.func 73) #[.agg #[.pointer tp, .string op, .int .i64 i1, .int .i64 k1, .int .i64 e1, .int .i64 n1, .string t1, .slice p1 a1 u1, .bool d1, .int .i64 i2, .int .i64 k2, .int .i64 e2, .int .i64 n2, .string t2, .slice p2 a2 u2, .bool d2]] #[]) ∧ Below Y.heap.size Y w') := cR
  have CF : Hid (∀ p1 a1 u1 p2 a2 u2, ∀ Y, Below w.heap.size w Y → Calls Tryd.prog 73 #[.agg #[.pointer tp, .string op, .int .i64 i1, .int .i64 k1, .int .i64 e1, .int .i64 n1, .string t1, .slice p1 a1 u1, .bool d1, .int .i64 i2, .int .i64 k2, .int .i64 e2, .int .i64 n2, .string t2, .slice p2 a2 u2, .bool d2]] Y fun e w' => e = .returned (.tuple #[.agg #[.int .i64 q0, .int .i64 q1, .int .i64 q2, .int .i64 q3, .int .i64 q4], .int .i64 er]) ∧ Below Y.heap.size Y w') := cF
  clear hB hw0 cP cR cF
  go_enter Tryd.func23, Tryd.ntmps23
  go_wp2_with fail
  generalize w0.alloc (.cells #[.int .i64 0, .int .i64 0, .int .i64 0, .int .i64 0, .int .i64 0] TOp) = W at *
  refine c1.mono ?_
  rintro e w2 ⟨⟨p1, a1, u1, p2, a2, u2, rfl⟩, hb2⟩
  have hold := heap_r0 w2 (.cells #[.pointer none, .string ⟨#[]⟩, .int .i64 0, .int .i64 0, .int .i64 0, .int .i64 0, .string ⟨#[]⟩, .slice none 0 0, .bool false, .int .i64 0, .int .i64 0, .int .i64 0, .int .i64 0, .string ⟨#[]⟩, .slice none 0 0, .bool false] TP)
  have hB3 := below1 w2 (.cells #[.pointer tp, .string op, .int .i64 i1, .int .i64 k1, .int .i64 e1, .int .i64 n1, .string t1, .slice p1 a1 u1, .bool d1, .int .i64 i2, .int .i64 k2, .int .i64 e2, .int .i64 n2, .string t2, .slice p2 a2 u2, .bool d2] TP)
  have hB23 := hb2.trans (hB3.mono hb2.size)
  obtain ⟨L0, L1, L2⟩ := load_P (fun j => Lib.cell_of_heap (heap_r0 w2 (.cells #[.pointer tp, .string op, .int .i64 i1, .int .i64 k1, .int .i64 e1, .int .i64 n1, .string t1, .slice p1 a1 u1, .bool d1, .int .i64 i2, .int .i64 k2, .int .i64 e2, .int .i64 n2, .string t2, .slice p2 a2 u2, .bool d2] TP)) j)
  have E4 : Hid ((w2.alloc (.cells #[.pointer tp, .string op, .int .i64 i1, .int .i64 k1, .int .i64 e1, .int .i64 n1, .string t1, .slice p1 a1 u1, .bool d1, .int .i64 i2, .int .i64 k2, .int .i64 e2, .int .i64 n2, .string t2, .slice p2 a2 u2, .bool d2] TP)).heap[w0.heap.size]? = some (.cells #[.int .i64 0, .int .i64 0, .int .i64 0, .int .i64 0, .int .i64 0] TOp (0, 0))) := blk_b E0.out hB23
  have HB4 : Hid (Below w0.heap.size w0 (w2.alloc (.cells #[.pointer tp, .string op, .int .i64 i1, .int .i64 k1, .int .i64 e1, .int .i64 n1, .string t1, .slice p1 a1 u1, .bool d1, .int .i64 i2, .int .i64 k2, .int .i64 e2, .int .i64 n2, .string t2, .slice p2 a2 u2, .bool d2] TP))) := HB.out.trans (hB23.mono HB.out.size)
  clear c1 hb2 hB3 hB23 E0 HB
  go_wp2_with (first | ((with_reducible apply step_store hold); rfl; rfl; kernel_rfl; rfl; kernel_rfl; rw [World.setRow_alloc_new]) | ((with_reducible apply step_load L0); rfl; rfl) | fail)
  generalize w2.alloc (.cells #[.pointer tp, .string op, .int .i64 i1, .int .i64 k1, .int .i64 e1, .int .i64 n1, .string t1, .slice p1 a1 u1, .bool d1, .int .i64 i2, .int .i64 k2, .int .i64 e2, .int .i64 n2, .string t2, .slice p2 a2 u2, .bool d2] TP) = W4 at *
  clear hold L0 L1 L2
  refine (CR.out _ _ _ _ _ _ _).mono ?_
  rintro e w5 ⟨rfl, hb5⟩
  have E5 : Hid (_ = _) := blk_b E4.out hb5
  have HB5 : Hid (Below w0.heap.size w0 w5) := HB4.out.trans (hb5.mono HB4.out.size)
  clear hb5 E4 HB4 CR
  go_wp2_with fail
  refine (CF.out _ _ _ _ _ _ _ (HW0.out.trans (HB5.out.mono HW0.out.size))).mono ?_
  rintro e w6 ⟨rfl, hb6⟩
  have E6 : Hid (_ = _) := blk_b E5.out hb6
  have HB6 : Hid (Below w0.heap.size w0 w6) := HB5.out.trans (hb6.mono HB5.out.size)
  clear hb6 E5 HB5 CF
  go_wp2_with ((with_reducible apply step_store E6.out); rfl; rfl; kernel_rfl; rfl; kernel_rfl)
  refine ret_op (p := 8) (q := 9) rfl rfl (setRow_heap _ _ _ _ _ _ E6.out) rfl ?_
  exact ⟨rfl, below_setRow HB6.out (Nat.le_refl _) _⟩
end
end Go.Proofs.YtpnpilbmhkiphaaDoor
