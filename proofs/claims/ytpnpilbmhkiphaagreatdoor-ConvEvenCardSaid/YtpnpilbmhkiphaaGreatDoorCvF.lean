/-
  order of two numbers; difference of two pointers that are not of one type; what rule answers.
-/
import Derived.Test.YtpnpilbmhkiphaaGreatDoorCvD
import Derived.Test.YtpnpilbmhkiphaaGreatDoorGOps
namespace Go.Proofs.YtpnpilbmhkiphaaGreatDoor
open Go.RowKit Go.Maps
set_option linter.unusedVariables false
set_option maxRecDepth 100000

section
variable {w : World}
set_option maxHeartbeats 4000000 in
theorem order_of {tp : Option Addr} {op : ByteArray} {i1 k1 e1 n1 : Int} {t1 : ByteArray} {p1 : Option Addr} {a1 u1 : Nat} {d1 : Bool} {i2 k2 e2 n2 : Int} {t2 : ByteArray} {p2 : Option Addr} {a2 u2 : Nat} {d2 : Bool} {q0 q1 q2 q3 q4 : Int} (hk : (k1 == 13 && k2 == 13) = false)
    (cC : ∀ Y, Below w.heap.size w Y → Calls Tryz.prog 116 #[.agg #[.pointer tp, .string op, .int .i64 i1, .int .i64 k1, .int .i64 e1, .int .i64 n1, .string t1, .slice p1 a1 u1, .bool d1, .int .i64 i2, .int .i64 k2, .int .i64 e2, .int .i64 n2, .string t2, .slice p2 a2 u2, .bool d2], .bool false] Y fun e w' => e = .returned (.tuple #[.agg #[.int .i64 q0, .int .i64 q1, .int .i64 q2, .int .i64 q3, .int .i64 q4], .int .i64 0]) ∧ Below Y.heap.size Y w') :
    ∀ Y, Below w.heap.size w Y → Calls Tryz.prog 79 #[.agg #[.pointer tp, .string op, .int .i64 i1, .int .i64 k1, .int .i64 e1, .int .i64 n1, .string t1, .slice p1 a1 u1, .bool d1, .int .i64 i2, .int .i64 k2, .int .i64 e2, .int .i64 n2, .string t2, .slice p2 a2 u2, .bool d2]] Y fun e w' => e = .returned (.tuple #[.agg #[.int .i64 q0, .int .i64 q1, .int .i64 q2, .int .i64 q3, .int .i64 q4], .int .i64 0]) ∧ Below Y.heap.size Y w' := by
  intro w0 hw0
  have c1 := fun Y => pPtrs_c tp op i1 k1 e1 n1 t1 p1 a1 u1 d1 i2 k2 e2 n2 t2 p2 a2 u2 d2 Y
  rw [hk] at c1
  have hB : Below w0.heap.size w0 ((w0.alloc (.cells #[.pointer tp, .string op, .int .i64 i1, .int .i64 k1, .int .i64 e1, .int .i64 n1, .string t1, .slice p1 a1 u1, .bool d1, .int .i64 i2, .int .i64 k2, .int .i64 e2, .int .i64 n2, .string t2, .slice p2 a2 u2, .bool d2] TP)).alloc (.cells #[.int .i64 0, .int .i64 0, .int .i64 0, .int .i64 0, .int .i64 0] TOp)) := (below1 w0 _).alloc (below1 w0 _).size _
  have G0 : Hid (_ = _) := heap_s1 w0 (.cells #[.pointer tp, .string op, .int .i64 i1, .int .i64 k1, .int .i64 e1, .int .i64 n1, .string t1, .slice p1 a1 u1, .bool d1, .int .i64 i2, .int .i64 k2, .int .i64 e2, .int .i64 n2, .string t2, .slice p2 a2 u2, .bool d2] TP) (.cells #[.int .i64 0, .int .i64 0, .int .i64 0, .int .i64 0, .int .i64 0] TOp)
  have G1 : Hid (_ = _) := heap_s2 w0 (.cells #[.pointer tp, .string op, .int .i64 i1, .int .i64 k1, .int .i64 e1, .int .i64 n1, .string t1, .slice p1 a1 u1, .bool d1, .int .i64 i2, .int .i64 k2, .int .i64 e2, .int .i64 n2, .string t2, .slice p2 a2 u2, .bool d2] TP) (.cells #[.int .i64 0, .int .i64 0, .int .i64 0, .int .i64 0, .int .i64 0] TOp)
  have HW0 : Hid (Below w.heap.size w w0) := hw0
  have CC : Hid (∀ Y, Below w.heap.size w Y → Calls Tryz.prog 116 #[.agg #[.pointer tp, .string op, .int .i64 i1, .int .i64 k1, .int .i64 e1, .int .i64 n1, .string t1, .slice p1 a1 u1, .bool d1, .int .i64 i2, .int .i64 k2, .int .i64 e2, .int .i64 n2, .string t2, .slice p2 a2 u2, .bool d2], .bool false] Y fun e w' => e = .returned (.tuple #[.agg #[.int .i64 q0, .int .i64 q1, .int .i64 q2, .int .i64 q3, .int .i64 q4], .int .i64 0]) ∧ Below Y.heap.size Y w') := cC
  have HSP : SP w0 w0.heap.size #[.pointer tp, .string op, .int .i64 i1, .int .i64 k1, .int .i64 e1, .int .i64 n1, .string t1, .slice p1 a1 u1, .bool d1, .int .i64 i2, .int .i64 k2, .int .i64 e2, .int .i64 n2, .string t2, .slice p2 a2 u2, .bool d2] ((w0.alloc (.cells #[.pointer tp, .string op, .int .i64 i1, .int .i64 k1, .int .i64 e1, .int .i64 n1, .string t1, .slice p1 a1 u1, .bool d1, .int .i64 i2, .int .i64 k2, .int .i64 e2, .int .i64 n2, .string t2, .slice p2 a2 u2, .bool d2] TP)).alloc (.cells #[.int .i64 0, .int .i64 0, .int .i64 0, .int .i64 0, .int .i64 0] TOp)) := ⟨fun j => Lib.cell_of_heap G0.out j, hB, _, rfl, G1.out⟩
  have hc0 : ∀ Y, SP w0 w0.heap.size #[.pointer tp, .string op, .int .i64 i1, .int .i64 k1, .int .i64 e1, .int .i64 n1, .string t1, .slice p1 a1 u1, .bool d1, .int .i64 i2, .int .i64 k2, .int .i64 e2, .int .i64 n2, .string t2, .slice p2 a2 u2, .bool d2] Y → Y.cell? ⟨w0.heap.size, 0, none⟩ = some (.pointer tp) := fun Y h => h.1 0
  have hc1 : ∀ Y, SP w0 w0.heap.size #[.pointer tp, .string op, .int .i64 i1, .int .i64 k1, .int .i64 e1, .int .i64 n1, .string t1, .slice p1 a1 u1, .bool d1, .int .i64 i2, .int .i64 k2, .int .i64 e2, .int .i64 n2, .string t2, .slice p2 a2 u2, .bool d2] Y → Y.cell? ⟨w0.heap.size, 1, none⟩ = some (.string op) := fun Y h => h.1 1
  have hc2 : ∀ Y, SP w0 w0.heap.size #[.pointer tp, .string op, .int .i64 i1, .int .i64 k1, .int .i64 e1, .int .i64 n1, .string t1, .slice p1 a1 u1, .bool d1, .int .i64 i2, .int .i64 k2, .int .i64 e2, .int .i64 n2, .string t2, .slice p2 a2 u2, .bool d2] Y → Y.cell? ⟨w0.heap.size, 2, none⟩ = some (.int .i64 i1) := fun Y h => h.1 2
  have hc3 : ∀ Y, SP w0 w0.heap.size #[.pointer tp, .string op, .int .i64 i1, .int .i64 k1, .int .i64 e1, .int .i64 n1, .string t1, .slice p1 a1 u1, .bool d1, .int .i64 i2, .int .i64 k2, .int .i64 e2, .int .i64 n2, .string t2, .slice p2 a2 u2, .bool d2] Y → Y.cell? ⟨w0.heap.size, 3, none⟩ = some (.int .i64 k1) := fun Y h => h.1 3
  have hc4 : ∀ Y, SP w0 w0.heap.size #[.pointer tp, .string op, .int .i64 i1, .int .i64 k1, .int .i64 e1, .int .i64 n1, .string t1, .slice p1 a1 u1, .bool d1, .int .i64 i2, .int .i64 k2, .int .i64 e2, .int .i64 n2, .string t2, .slice p2 a2 u2, .bool d2] Y → Y.cell? ⟨w0.heap.size, 4, none⟩ = some (.int .i64 e1) := fun Y h => h.1 4
  have hc5 : ∀ Y, SP w0 w0.heap.size #[.pointer tp, .string op, .int .i64 i1, .int .i64 k1, .int .i64 e1, .int .i64 n1, .string t1, .slice p1 a1 u1, .bool d1, .int .i64 i2, .int .i64 k2, .int .i64 e2, .int .i64 n2, .string t2, .slice p2 a2 u2, .bool d2] Y → Y.cell? ⟨w0.heap.size, 5, none⟩ = some (.int .i64 n1) := fun Y h => h.1 5
  have hc6 : ∀ Y, SP w0 w0.heap.size #[.pointer tp, .string op, .int .i64 i1, .int .i64 k1, .int .i64 e1, .int .i64 n1, .string t1, .slice p1 a1 u1, .bool d1, .int .i64 i2, .int .i64 k2, .int .i64 e2, .int .i64 n2, .string t2, .slice p2 a2 u2, .bool d2] Y → Y.cell? ⟨w0.heap.size, 6, none⟩ = some (.string t1) := fun Y h => h.1 6
  have hc7 : ∀ Y, SP w0 w0.heap.size #[.pointer tp, .string op, .int .i64 i1, .int .i64 k1, .int .i64 e1, .int .i64 n1, .string t1, .slice p1 a1 u1, .bool d1, .int .i64 i2, .int .i64 k2, .int .i64 e2, .int .i64 n2, .string t2, .slice p2 a2 u2, .bool d2] Y → Y.cell? ⟨w0.heap.size, 7, none⟩ = some (.slice p1 a1 u1) := fun Y h => h.1 7
  have hc8 : ∀ Y, SP w0 w0.heap.size #[.pointer tp, .string op, .int .i64 i1, .int .i64 k1, .int .i64 e1, .int .i64 n1, .string t1, .slice p1 a1 u1, .bool d1, .int .i64 i2, .int .i64 k2, .int .i64 e2, .int .i64 n2, .string t2, .slice p2 a2 u2, .bool d2] Y → Y.cell? ⟨w0.heap.size, 8, none⟩ = some (.bool d1) := fun Y h => h.1 8
  have hc9 : ∀ Y, SP w0 w0.heap.size #[.pointer tp, .string op, .int .i64 i1, .int .i64 k1, .int .i64 e1, .int .i64 n1, .string t1, .slice p1 a1 u1, .bool d1, .int .i64 i2, .int .i64 k2, .int .i64 e2, .int .i64 n2, .string t2, .slice p2 a2 u2, .bool d2] Y → Y.cell? ⟨w0.heap.size, 9, none⟩ = some (.int .i64 i2) := fun Y h => h.1 9
  have hc10 : ∀ Y, SP w0 w0.heap.size #[.pointer tp, .string op, .int .i64 i1, .int .i64 k1, .int .i64 e1, .int .i64 n1, .string t1, .slice p1 a1 u1, .bool d1, .int .i64 i2, .int .i64 k2, .int .i64 e2, .int .i64 n2, .string t2, .slice p2 a2 u2, .bool d2] Y → Y.cell? ⟨w0.heap.size, 10, none⟩ = some (.int .i64 k2) := fun Y h => h.1 10
  have hc11 : ∀ Y, SP w0 w0.heap.size #[.pointer tp, .string op, .int .i64 i1, .int .i64 k1, .int .i64 e1, .int .i64 n1, .string t1, .slice p1 a1 u1, .bool d1, .int .i64 i2, .int .i64 k2, .int .i64 e2, .int .i64 n2, .string t2, .slice p2 a2 u2, .bool d2] Y → Y.cell? ⟨w0.heap.size, 11, none⟩ = some (.int .i64 e2) := fun Y h => h.1 11
  have hc12 : ∀ Y, SP w0 w0.heap.size #[.pointer tp, .string op, .int .i64 i1, .int .i64 k1, .int .i64 e1, .int .i64 n1, .string t1, .slice p1 a1 u1, .bool d1, .int .i64 i2, .int .i64 k2, .int .i64 e2, .int .i64 n2, .string t2, .slice p2 a2 u2, .bool d2] Y → Y.cell? ⟨w0.heap.size, 12, none⟩ = some (.int .i64 n2) := fun Y h => h.1 12
  have hc13 : ∀ Y, SP w0 w0.heap.size #[.pointer tp, .string op, .int .i64 i1, .int .i64 k1, .int .i64 e1, .int .i64 n1, .string t1, .slice p1 a1 u1, .bool d1, .int .i64 i2, .int .i64 k2, .int .i64 e2, .int .i64 n2, .string t2, .slice p2 a2 u2, .bool d2] Y → Y.cell? ⟨w0.heap.size, 13, none⟩ = some (.string t2) := fun Y h => h.1 13
  have hc14 : ∀ Y, SP w0 w0.heap.size #[.pointer tp, .string op, .int .i64 i1, .int .i64 k1, .int .i64 e1, .int .i64 n1, .string t1, .slice p1 a1 u1, .bool d1, .int .i64 i2, .int .i64 k2, .int .i64 e2, .int .i64 n2, .string t2, .slice p2 a2 u2, .bool d2] Y → Y.cell? ⟨w0.heap.size, 14, none⟩ = some (.slice p2 a2 u2) := fun Y h => h.1 14
  have hc15 : ∀ Y, SP w0 w0.heap.size #[.pointer tp, .string op, .int .i64 i1, .int .i64 k1, .int .i64 e1, .int .i64 n1, .string t1, .slice p1 a1 u1, .bool d1, .int .i64 i2, .int .i64 k2, .int .i64 e2, .int .i64 n2, .string t2, .slice p2 a2 u2, .bool d2] Y → Y.cell? ⟨w0.heap.size, 15, none⟩ = some (.bool d2) := fun Y h => h.1 15
  clear hB hw0 cC G0 G1
  go_enter Tryz.func79, Tryz.ntmps79
  go_wp2_with fail
  generalize (w0.alloc (.cells #[.pointer tp, .string op, .int .i64 i1, .int .i64 k1, .int .i64 e1, .int .i64 n1, .string t1, .slice p1 a1 u1, .bool d1, .int .i64 i2, .int .i64 k2, .int .i64 e2, .int .i64 n2, .string t2, .slice p2 a2 u2, .bool d2] TP)).alloc (.cells #[.int .i64 0, .int .i64 0, .int .i64 0, .int .i64 0, .int .i64 0] TOp) = W at *
  obtain ⟨x0, x1, x2, x3, x4, x5, x6, x7, x8, x9, x10, x11, x12, x13, x14, x15⟩ := inP16 HSP.1
  have HSP0 : Hid (SP w0 w0.heap.size #[.pointer tp, .string op, .int .i64 i1, .int .i64 k1, .int .i64 e1, .int .i64 n1, .string t1, .slice p1 a1 u1, .bool d1, .int .i64 i2, .int .i64 k2, .int .i64 e2, .int .i64 n2, .string t2, .slice p2 a2 u2, .bool d2] W) := HSP
  clear hc0 hc1 hc2 hc3 hc4 hc5 hc6 hc7 hc8 hc9 hc10 hc11 hc12 hc13 hc14 hc15 HSP
  go_region_with (first
    | (go_at_call 54; refine (c1 _).mono ?_; rintro e w4 ⟨rfl, hb4⟩; have HS4 : Hid (SP w0 w0.heap.size #[.pointer tp, .string op, .int .i64 i1, .int .i64 k1, .int .i64 e1, .int .i64 n1, .string t1, .slice p1 a1 u1, .bool d1, .int .i64 i2, .int .i64 k2, .int .i64 e2, .int .i64 n2, .string t2, .slice p2 a2 u2, .bool d2] w4) := (SP.drew HSP0.out).below hb4; obtain ⟨r0, r1, r2, r3, r4, r5, r6, r7, r8, r9, r10, r11, r12, r13, r14, r15⟩ := inP16 HS4.out.1; clear hb4)
    | (go_at_call 116; refine (CC.out _ (HW0.out.trans ((SP.b HS4.out).mono HW0.out.size))).mono ?_; rintro e w5 ⟨rfl, hb5⟩; have HS5 : Hid (SP w0 w0.heap.size #[.pointer tp, .string op, .int .i64 i1, .int .i64 k1, .int .i64 e1, .int .i64 n1, .string t1, .slice p1 a1 u1, .bool d1, .int .i64 i2, .int .i64 k2, .int .i64 e2, .int .i64 n2, .string t2, .slice p2 a2 u2, .bool d2] w5) := HS4.out.below hb5; obtain ⟨y0, y1, y2, y3, y4, s0, s1, s2, s3, s4, f0, f1, f2, f3, f4⟩ := SP.opn HS5.out; clear hb5))
  all_goals
    have HBF : Hid (Below w0.heap.size w0 (((((w5.setCell ⟨w0.heap.size + 1, 0, none⟩ (.int .i64 q0)).setCell ⟨w0.heap.size + 1, 1, none⟩ (.int .i64 q1)).setCell ⟨w0.heap.size + 1, 2, none⟩ (.int .i64 q2)).setCell ⟨w0.heap.size + 1, 3, none⟩ (.int .i64 q3)).setCell ⟨w0.heap.size + 1, 4, none⟩ (.int .i64 q4))) := SP.b (SP.setCell (SP.setCell (SP.setCell (SP.setCell (SP.setCell HS5.out)))))
    obtain ⟨_, _, d, hd, hE⟩ := HS5.out
    have HF : Hid (_ = _) := five_set (x0 := .int .i64 q0) (x1 := .int .i64 q1) (x2 := .int .i64 q2) (x3 := .int .i64 q3) (x4 := .int .i64 q4) hd hE
    clear HS4 HS5 HSP0 hE s0 s1 s2 s3 s4 f0 f1 f2 f3 f4 x0 x1 x2 x3 x4 x5 x6 x7 x8 x9 x10 x11 x12 x13 x14 x15 r0 r1 r2 r3 r4 r5 r6 r7 r8 r9 r10 r11 r12 r13 r14 r15 c1 CC
    go_wp2_with fail
    refine ret_op (p := 2) (q := 3) rfl rfl HF.out rfl ?_
    exact ⟨rfl, HBF.out⟩
end
end Go.Proofs.YtpnpilbmhkiphaaGreatDoor
