/-
  sum: a pointer and a number.
-/
import Derived.Test.YtpnpilbmhkiphaaGreatDoorGSize
namespace Go.Proofs.YtpnpilbmhkiphaaGreatDoor
open Go.RowKit Go.Maps
set_option linter.unusedVariables false
set_option maxRecDepth 100000

section
variable {w : World}
theorem inP16 {Y : World} {g : Nat} {x0 x1 x2 x3 x4 x5 x6 x7 x8 x9 x10 x11 x12 x13 x14 x15 : Value} (h : InP Y g #[x0, x1, x2, x3, x4, x5, x6, x7, x8, x9, x10, x11, x12, x13, x14, x15]) : Y.cell? ⟨g, 0, none⟩ = some x0 ∧ Y.cell? ⟨g, 1, none⟩ = some x1 ∧ Y.cell? ⟨g, 2, none⟩ = some x2 ∧ Y.cell? ⟨g, 3, none⟩ = some x3 ∧ Y.cell? ⟨g, 4, none⟩ = some x4 ∧ Y.cell? ⟨g, 5, none⟩ = some x5 ∧ Y.cell? ⟨g, 6, none⟩ = some x6 ∧ Y.cell? ⟨g, 7, none⟩ = some x7 ∧ Y.cell? ⟨g, 8, none⟩ = some x8 ∧ Y.cell? ⟨g, 9, none⟩ = some x9 ∧ Y.cell? ⟨g, 10, none⟩ = some x10 ∧ Y.cell? ⟨g, 11, none⟩ = some x11 ∧ Y.cell? ⟨g, 12, none⟩ = some x12 ∧ Y.cell? ⟨g, 13, none⟩ = some x13 ∧ Y.cell? ⟨g, 14, none⟩ = some x14 ∧ Y.cell? ⟨g, 15, none⟩ = some x15 := ⟨h 0, h 1, h 2, h 3, h 4, h 5, h 6, h 7, h 8, h 9, h 10, h 11, h 12, h 13, h 14, h 15⟩
theorem cells5 {Y : World} {g : Nat} {T : TypeId} {x0 x1 x2 x3 x4 : Value} (h : Y.heap[g]? = some (.cells #[x0, x1, x2, x3, x4] T (0, 0))) : Y.cell? ⟨g, 0, none⟩ = some x0 ∧ Y.cell? ⟨g, 1, none⟩ = some x1 ∧ Y.cell? ⟨g, 2, none⟩ = some x2 ∧ Y.cell? ⟨g, 3, none⟩ = some x3 ∧ Y.cell? ⟨g, 4, none⟩ = some x4 ∧ Y.frozen? ⟨g, 0, none⟩ = false ∧ Y.frozen? ⟨g, 1, none⟩ = false ∧ Y.frozen? ⟨g, 2, none⟩ = false ∧ Y.frozen? ⟨g, 3, none⟩ = false ∧ Y.frozen? ⟨g, 4, none⟩ = false :=
  ⟨Lib.cell_of_heap h 0, Lib.cell_of_heap h 1, Lib.cell_of_heap h 2, Lib.cell_of_heap h 3, Lib.cell_of_heap h 4, frozen_of h 0, frozen_of h 1, frozen_of h 2, frozen_of h 3, frozen_of h 4⟩
def SP (w0 : World) (g : Nat) (cs : Array Value) (Y : World) : Prop := InP Y g cs ∧ Below w0.heap.size w0 Y ∧ ∃ d : Array Value, d.size = 5 ∧ Y.heap[g + 1]? = some (.cells d TOp (0, 0))
theorem SP.drew {w0 : World} {g : Nat} {cs : Array Value} {Y : World} (h : SP w0 g cs Y) : SP w0 g cs Y.drew := ⟨h.1, h.2.1.trans ⟨rfl, rfl, rfl, Nat.le_refl _, fun _ _ => rfl⟩, h.2.2⟩
theorem SP.b {w0 : World} {g : Nat} {cs : Array Value} {Y : World} (h : SP w0 g cs Y) : Below w0.heap.size w0 Y := h.2.1
theorem SP.below {w0 : World} {g : Nat} {cs : Array Value} {Y Z : World} (h : SP w0 g cs Y) (hb : Below Y.heap.size Y Z) : SP w0 g cs Z := by
  obtain ⟨h1, h2, d, hd, h3⟩ := h
  have hlt := lt_of_heap h3
  exact ⟨fun j => (hb.cell (p := ⟨g, j, none⟩) (Nat.lt_of_succ_lt hlt)).trans (h1 j), h2.trans (hb.mono h2.size), d, hd, blk_b h3 hb⟩
def cv (Y : World) (g j : Nat) : Value := (Y.cell? ⟨g, j, none⟩).getD undef
theorem SP.at {w0 : World} {g : Nat} {cs : Array Value} {Y : World} (h : SP w0 g cs Y) (j : Nat) (hj : j < 5) : Y.cell? ⟨g + 1, j, none⟩ = some (cv Y (g + 1) j) := by
  obtain ⟨_, _, d, hd, h3⟩ := h
  have e := Lib.cell_of_heap h3 j
  have : d[j]? = some d[j] := Array.getElem?_eq_getElem (by omega)
  rw [this] at e
  unfold cv
  rw [e]; rfl
theorem SP.opn {w0 : World} {g : Nat} {cs : Array Value} {Y : World} (h : SP w0 g cs Y) : ∃ y0 y1 y2 y3 y4, Y.cell? ⟨g + 1, 0, none⟩ = some y0 ∧ Y.cell? ⟨g + 1, 1, none⟩ = some y1 ∧ Y.cell? ⟨g + 1, 2, none⟩ = some y2 ∧ Y.cell? ⟨g + 1, 3, none⟩ = some y3 ∧ Y.cell? ⟨g + 1, 4, none⟩ = some y4 ∧ Y.frozen? ⟨g + 1, 0, none⟩ = false ∧ Y.frozen? ⟨g + 1, 1, none⟩ = false ∧ Y.frozen? ⟨g + 1, 2, none⟩ = false ∧ Y.frozen? ⟨g + 1, 3, none⟩ = false ∧ Y.frozen? ⟨g + 1, 4, none⟩ = false := by
  have h0 := h
  obtain ⟨_, _, d, hd, h3⟩ := h
  exact ⟨_, _, _, _, _, h0.at 0 (by omega), h0.at 1 (by omega), h0.at 2 (by omega), h0.at 3 (by omega), h0.at 4 (by omega), frozen_of h3 0, frozen_of h3 1, frozen_of h3 2, frozen_of h3 3, frozen_of h3 4⟩
theorem SP.fr {w0 : World} {g : Nat} {cs : Array Value} {Y : World} (h : SP w0 g cs Y) (j : Nat) : Y.frozen? ⟨g + 1, j, none⟩ = false := by
  obtain ⟨_, _, d, hd, h3⟩ := h
  exact frozen_of h3 j
theorem SP.setCell {w0 : World} {cs : Array Value} {Y : World} {j : Nat} {x : Value} (h : SP w0 w0.heap.size cs Y) : SP w0 w0.heap.size cs (Y.setCell ⟨w0.heap.size + 1, j, none⟩ x) := by
  obtain ⟨h1, h2, d, hd, h3⟩ := h
  refine ⟨fun k => ?_, h2.setCell (by show w0.heap.size ≤ w0.heap.size + 1; omega) _, d.setIfInBounds j x, by simpa using hd, heap_setCell h3 x⟩
  rw [← h1 k]
  have e := heap_setCell_other Y ⟨w0.heap.size + 1, j, none⟩ w0.heap.size x (by show w0.heap.size ≠ w0.heap.size + 1; omega)
  simp only [World.cell?, e]
/-- The block of the answer, behind a store of five cells. -/
theorem five_set {Y : World} {g : Nat} {d : Array Value} {T : TypeId} {x0 x1 x2 x3 x4 : Value} (hd : d.size = 5) (h : Y.heap[g]? = some (.cells d T (0, 0))) :
    (((((Y.setCell ⟨g, 0, none⟩ x0).setCell ⟨g, 1, none⟩ x1).setCell ⟨g, 2, none⟩ x2).setCell ⟨g, 3, none⟩ x3).setCell ⟨g, 4, none⟩ x4).heap[g]? = some (.cells #[x0, x1, x2, x3, x4] T (0, 0)) := by
  have e := heap_setCell (j := 4) (heap_setCell (j := 3) (heap_setCell (j := 2) (heap_setCell (j := 1) (heap_setCell (j := 0) h x0) x1) x2) x3) x4
  rw [e]
  obtain ⟨l⟩ := d
  rcases l with _ | ⟨a, _ | ⟨b, _ | ⟨c, _ | ⟨f, _ | ⟨k, _ | ⟨z, r⟩⟩⟩⟩⟩⟩ <;> simp at hd ⊢
theorem build_Op4 (q0 q1 q2 q3 : Int) (W : World) : (Instr.build TOp #[(0, .int .i64 q0), (1, .int .i64 q1), (2, .int .i64 q2), (3, .int .i64 q3)]).run Tryz.prog W = .ok (.agg #[.int .i64 q0, .int .i64 q1, .int .i64 q2, .int .i64 q3, .int .i64 0]) W := by kernel_rfl
set_option maxHeartbeats 2000000 in
theorem sum_ptr {tp : Option Addr} {op : ByteArray} {i1 k1 e1 n1 : Int} {t1 : ByteArray} {p1 : Option Addr} {a1 u1 : Nat} {d1 : Bool} {i2 k2 e2 n2 : Int} {t2 : ByteArray} {p2 : Option Addr} {a2 u2 : Nat} {d2 : Bool} {n m : Int} (hk : intK k2 = true)
    (cI : ∀ Y, Below w.heap.size w Y → Calls Tryz.prog 115 #[.agg #[.pointer tp, .string op, .int .i64 i1, .int .i64 13, .int .i64 e1, .int .i64 n1, .string t1, .slice p1 a1 u1, .bool d1, .int .i64 i2, .int .i64 k2, .int .i64 e2, .int .i64 n2, .string t2, .slice p2 a2 u2, .bool d2]] Y fun e w' => e = .returned (.int .i64 m) ∧ Below Y.heap.size Y w')
    (cS : ∀ Y, Below w.heap.size w Y → Calls Tryz.prog 114 #[.agg #[.pointer tp, .string op, .int .i64 i1, .int .i64 13, .int .i64 e1, .int .i64 n1, .string t1, .slice p1 a1 u1, .bool d1, .int .i64 i2, .int .i64 k2, .int .i64 e2, .int .i64 n2, .string t2, .slice p2 a2 u2, .bool d2], .agg #[.int .i64 i1, .int .i64 13, .int .i64 e1, .int .i64 n1, .string t1, .slice p1 a1 u1, .bool d1], .agg #[.int .i64 1, .int .i64 i1, .int .i64 m, .int .i64 i1, .int .i64 0]] Y fun e w' => e = .returned (.tuple #[.agg #[.int .i64 1, .int .i64 i1, .int .i64 m, .int .i64 i1, .int .i64 n], .int .i64 0]) ∧ Below Y.heap.size Y w') :
    ∀ Y, Below w.heap.size w Y → Calls Tryz.prog 75 #[.agg #[.pointer tp, .string op, .int .i64 i1, .int .i64 13, .int .i64 e1, .int .i64 n1, .string t1, .slice p1 a1 u1, .bool d1, .int .i64 i2, .int .i64 k2, .int .i64 e2, .int .i64 n2, .string t2, .slice p2 a2 u2, .bool d2]] Y fun e w' => e = .returned (.tuple #[.agg #[.int .i64 1, .int .i64 i1, .int .i64 m, .int .i64 i1, .int .i64 n], .int .i64 0]) ∧ Below Y.heap.size Y w' := by
  intro w0 hw0
  have c1 := fun Y => oPtr_c i1 13 e1 n1 t1 p1 a1 u1 d1 Y
  have c2 := fun Y => oInt_c i2 k2 e2 n2 t2 p2 a2 u2 d2 Y
  rw [hk] at c2
  have hB : Below w0.heap.size w0 ((w0.alloc (.cells #[.pointer tp, .string op, .int .i64 i1, .int .i64 13, .int .i64 e1, .int .i64 n1, .string t1, .slice p1 a1 u1, .bool d1, .int .i64 i2, .int .i64 k2, .int .i64 e2, .int .i64 n2, .string t2, .slice p2 a2 u2, .bool d2] TP)).alloc (.cells #[.int .i64 0, .int .i64 0, .int .i64 0, .int .i64 0, .int .i64 0] TOp)) := (below1 w0 _).alloc (below1 w0 _).size _
  have G0 : Hid (_ = _) := heap_s1 w0 (.cells #[.pointer tp, .string op, .int .i64 i1, .int .i64 13, .int .i64 e1, .int .i64 n1, .string t1, .slice p1 a1 u1, .bool d1, .int .i64 i2, .int .i64 k2, .int .i64 e2, .int .i64 n2, .string t2, .slice p2 a2 u2, .bool d2] TP) (.cells #[.int .i64 0, .int .i64 0, .int .i64 0, .int .i64 0, .int .i64 0] TOp)
  have G1 : Hid (_ = _) := heap_s2 w0 (.cells #[.pointer tp, .string op, .int .i64 i1, .int .i64 13, .int .i64 e1, .int .i64 n1, .string t1, .slice p1 a1 u1, .bool d1, .int .i64 i2, .int .i64 k2, .int .i64 e2, .int .i64 n2, .string t2, .slice p2 a2 u2, .bool d2] TP) (.cells #[.int .i64 0, .int .i64 0, .int .i64 0, .int .i64 0, .int .i64 0] TOp)
  have HB : Hid (Below _ _ _) := hB
  have HW0 : Hid (Below w.heap.size w w0) := hw0
  have hbo := build_Op4
  obtain ⟨L0, L1, L2⟩ := load_P (fun j => Lib.cell_of_heap G0.out j)
  have CI : Hid (∀ Y, Below w.heap.size w Y → Calls Tryz.prog 115 #[.agg #[.pointer tp, .string op, .int .i64 i1, .int .i64 13, .int .i64 e1, .int .i64 n1, .string t1, .slice p1 a1 u1, .bool d1, .int .i64 i2, .int .i64 k2, .int .i64 e2, .int .i64 n2, .string t2, .slice p2 a2 u2, .bool d2]] Y fun e w' => e = .returned (.int .i64 m) ∧ Below Y.heap.size Y w') := cI
  have CS : Hid (∀ Y, Below w.heap.size w Y → Calls Tryz.prog 114 #[.agg #[.pointer tp, .string op, .int .i64 i1, .int .i64 13, .int .i64 e1, .int .i64 n1, .string t1, .slice p1 a1 u1, .bool d1, .int .i64 i2, .int .i64 k2, .int .i64 e2, .int .i64 n2, .string t2, .slice p2 a2 u2, .bool d2], .agg #[.int .i64 i1, .int .i64 13, .int .i64 e1, .int .i64 n1, .string t1, .slice p1 a1 u1, .bool d1], .agg #[.int .i64 1, .int .i64 i1, .int .i64 m, .int .i64 i1, .int .i64 0]] Y fun e w' => e = .returned (.tuple #[.agg #[.int .i64 1, .int .i64 i1, .int .i64 m, .int .i64 i1, .int .i64 n], .int .i64 0]) ∧ Below Y.heap.size Y w') := cS
  clear hB hw0 cI cS
  go_enter Tryz.func75, Tryz.ntmps75
  go_wp2_with (first | ((with_reducible apply step_load L1); rfl; rfl) | fail)
  generalize (w0.alloc (.cells #[.pointer tp, .string op, .int .i64 i1, .int .i64 13, .int .i64 e1, .int .i64 n1, .string t1, .slice p1 a1 u1, .bool d1, .int .i64 i2, .int .i64 k2, .int .i64 e2, .int .i64 n2, .string t2, .slice p2 a2 u2, .bool d2] TP)).alloc (.cells #[.int .i64 0, .int .i64 0, .int .i64 0, .int .i64 0, .int .i64 0] TOp) = W at *
  refine (c1 _).mono ?_
  rintro e w2 ⟨rfl, hb2⟩
  clear L0 L1 L2
  obtain ⟨L0, L1, L2⟩ := load_P (fun j => cell_b G0.out hb2 j)
  have H2 : Hid (Below W.heap.size W w2) := hb2
  clear c1 hb2
  go_wp2_with (first | ((with_reducible apply step_load L2); rfl; rfl) | fail)
  refine (c2 _).mono ?_
  rintro e w3 ⟨rfl, hb3⟩
  have H3 : Hid (Below W.heap.size W w3) := H2.out.trans (hb3.mono H2.out.size)
  clear c2 hb3 L0 L1 L2 H2
  go_wp2_with fail
  have HSP : SP w0 w0.heap.size #[.pointer tp, .string op, .int .i64 i1, .int .i64 13, .int .i64 e1, .int .i64 n1, .string t1, .slice p1 a1 u1, .bool d1, .int .i64 i2, .int .i64 k2, .int .i64 e2, .int .i64 n2, .string t2, .slice p2 a2 u2, .bool d2] w3 := ⟨fun j => cell_b G0.out H3.out j, HB.out.trans (H3.out.mono HB.out.size), _, rfl, blk_b G1.out H3.out⟩
  have hc0 : ∀ Y, SP w0 w0.heap.size #[.pointer tp, .string op, .int .i64 i1, .int .i64 13, .int .i64 e1, .int .i64 n1, .string t1, .slice p1 a1 u1, .bool d1, .int .i64 i2, .int .i64 k2, .int .i64 e2, .int .i64 n2, .string t2, .slice p2 a2 u2, .bool d2] Y → Y.cell? ⟨w0.heap.size, 0, none⟩ = some (.pointer tp) := fun Y h => h.1 0
  have hc1 : ∀ Y, SP w0 w0.heap.size #[.pointer tp, .string op, .int .i64 i1, .int .i64 13, .int .i64 e1, .int .i64 n1, .string t1, .slice p1 a1 u1, .bool d1, .int .i64 i2, .int .i64 k2, .int .i64 e2, .int .i64 n2, .string t2, .slice p2 a2 u2, .bool d2] Y → Y.cell? ⟨w0.heap.size, 1, none⟩ = some (.string op) := fun Y h => h.1 1
  have hc2 : ∀ Y, SP w0 w0.heap.size #[.pointer tp, .string op, .int .i64 i1, .int .i64 13, .int .i64 e1, .int .i64 n1, .string t1, .slice p1 a1 u1, .bool d1, .int .i64 i2, .int .i64 k2, .int .i64 e2, .int .i64 n2, .string t2, .slice p2 a2 u2, .bool d2] Y → Y.cell? ⟨w0.heap.size, 2, none⟩ = some (.int .i64 i1) := fun Y h => h.1 2
  have hc3 : ∀ Y, SP w0 w0.heap.size #[.pointer tp, .string op, .int .i64 i1, .int .i64 13, .int .i64 e1, .int .i64 n1, .string t1, .slice p1 a1 u1, .bool d1, .int .i64 i2, .int .i64 k2, .int .i64 e2, .int .i64 n2, .string t2, .slice p2 a2 u2, .bool d2] Y → Y.cell? ⟨w0.heap.size, 3, none⟩ = some (.int .i64 13) := fun Y h => h.1 3
  have hc4 : ∀ Y, SP w0 w0.heap.size #[.pointer tp, .string op, .int .i64 i1, .int .i64 13, .int .i64 e1, .int .i64 n1, .string t1, .slice p1 a1 u1, .bool d1, .int .i64 i2, .int .i64 k2, .int .i64 e2, .int .i64 n2, .string t2, .slice p2 a2 u2, .bool d2] Y → Y.cell? ⟨w0.heap.size, 4, none⟩ = some (.int .i64 e1) := fun Y h => h.1 4
  have hc5 : ∀ Y, SP w0 w0.heap.size #[.pointer tp, .string op, .int .i64 i1, .int .i64 13, .int .i64 e1, .int .i64 n1, .string t1, .slice p1 a1 u1, .bool d1, .int .i64 i2, .int .i64 k2, .int .i64 e2, .int .i64 n2, .string t2, .slice p2 a2 u2, .bool d2] Y → Y.cell? ⟨w0.heap.size, 5, none⟩ = some (.int .i64 n1) := fun Y h => h.1 5
  have hc6 : ∀ Y, SP w0 w0.heap.size #[.pointer tp, .string op, .int .i64 i1, .int .i64 13, .int .i64 e1, .int .i64 n1, .string t1, .slice p1 a1 u1, .bool d1, .int .i64 i2, .int .i64 k2, .int .i64 e2, .int .i64 n2, .string t2, .slice p2 a2 u2, .bool d2] Y → Y.cell? ⟨w0.heap.size, 6, none⟩ = some (.string t1) := fun Y h => h.1 6
  have hc7 : ∀ Y, SP w0 w0.heap.size #[.pointer tp, .string op, .int .i64 i1, .int .i64 13, .int .i64 e1, .int .i64 n1, .string t1, .slice p1 a1 u1, .bool d1, .int .i64 i2, .int .i64 k2, .int .i64 e2, .int .i64 n2, .string t2, .slice p2 a2 u2, .bool d2] Y → Y.cell? ⟨w0.heap.size, 7, none⟩ = some (.slice p1 a1 u1) := fun Y h => h.1 7
  have hc8 : ∀ Y, SP w0 w0.heap.size #[.pointer tp, .string op, .int .i64 i1, .int .i64 13, .int .i64 e1, .int .i64 n1, .string t1, .slice p1 a1 u1, .bool d1, .int .i64 i2, .int .i64 k2, .int .i64 e2, .int .i64 n2, .string t2, .slice p2 a2 u2, .bool d2] Y → Y.cell? ⟨w0.heap.size, 8, none⟩ = some (.bool d1) := fun Y h => h.1 8
  have hc9 : ∀ Y, SP w0 w0.heap.size #[.pointer tp, .string op, .int .i64 i1, .int .i64 13, .int .i64 e1, .int .i64 n1, .string t1, .slice p1 a1 u1, .bool d1, .int .i64 i2, .int .i64 k2, .int .i64 e2, .int .i64 n2, .string t2, .slice p2 a2 u2, .bool d2] Y → Y.cell? ⟨w0.heap.size, 9, none⟩ = some (.int .i64 i2) := fun Y h => h.1 9
  have hc10 : ∀ Y, SP w0 w0.heap.size #[.pointer tp, .string op, .int .i64 i1, .int .i64 13, .int .i64 e1, .int .i64 n1, .string t1, .slice p1 a1 u1, .bool d1, .int .i64 i2, .int .i64 k2, .int .i64 e2, .int .i64 n2, .string t2, .slice p2 a2 u2, .bool d2] Y → Y.cell? ⟨w0.heap.size, 10, none⟩ = some (.int .i64 k2) := fun Y h => h.1 10
  have hc11 : ∀ Y, SP w0 w0.heap.size #[.pointer tp, .string op, .int .i64 i1, .int .i64 13, .int .i64 e1, .int .i64 n1, .string t1, .slice p1 a1 u1, .bool d1, .int .i64 i2, .int .i64 k2, .int .i64 e2, .int .i64 n2, .string t2, .slice p2 a2 u2, .bool d2] Y → Y.cell? ⟨w0.heap.size, 11, none⟩ = some (.int .i64 e2) := fun Y h => h.1 11
  have hc12 : ∀ Y, SP w0 w0.heap.size #[.pointer tp, .string op, .int .i64 i1, .int .i64 13, .int .i64 e1, .int .i64 n1, .string t1, .slice p1 a1 u1, .bool d1, .int .i64 i2, .int .i64 k2, .int .i64 e2, .int .i64 n2, .string t2, .slice p2 a2 u2, .bool d2] Y → Y.cell? ⟨w0.heap.size, 12, none⟩ = some (.int .i64 n2) := fun Y h => h.1 12
  have hc13 : ∀ Y, SP w0 w0.heap.size #[.pointer tp, .string op, .int .i64 i1, .int .i64 13, .int .i64 e1, .int .i64 n1, .string t1, .slice p1 a1 u1, .bool d1, .int .i64 i2, .int .i64 k2, .int .i64 e2, .int .i64 n2, .string t2, .slice p2 a2 u2, .bool d2] Y → Y.cell? ⟨w0.heap.size, 13, none⟩ = some (.string t2) := fun Y h => h.1 13
  have hc14 : ∀ Y, SP w0 w0.heap.size #[.pointer tp, .string op, .int .i64 i1, .int .i64 13, .int .i64 e1, .int .i64 n1, .string t1, .slice p1 a1 u1, .bool d1, .int .i64 i2, .int .i64 k2, .int .i64 e2, .int .i64 n2, .string t2, .slice p2 a2 u2, .bool d2] Y → Y.cell? ⟨w0.heap.size, 14, none⟩ = some (.slice p2 a2 u2) := fun Y h => h.1 14
  have hc15 : ∀ Y, SP w0 w0.heap.size #[.pointer tp, .string op, .int .i64 i1, .int .i64 13, .int .i64 e1, .int .i64 n1, .string t1, .slice p1 a1 u1, .bool d1, .int .i64 i2, .int .i64 k2, .int .i64 e2, .int .i64 n2, .string t2, .slice p2 a2 u2, .bool d2] Y → Y.cell? ⟨w0.heap.size, 15, none⟩ = some (.bool d2) := fun Y h => h.1 15
  clear G0 G1 H3
  go_region_held3 (fun Y => SP w0 w0.heap.size #[.pointer tp, .string op, .int .i64 i1, .int .i64 13, .int .i64 e1, .int .i64 n1, .string t1, .slice p1 a1 u1, .bool d1, .int .i64 i2, .int .i64 k2, .int .i64 e2, .int .i64 n2, .string t2, .slice p2 a2 u2, .bool d2] Y) (first | (with_reducible refine SP.setCell (SP.setCell (SP.setCell (SP.setCell (SP.setCell ?_)))); assumption) | (with_reducible refine SP.drew ?_; assumption) | (with_reducible refine SP.below ?_ (by assumption); assumption)) (first
    | (go_at_call 115; refine (CI.out _ (HW0.out.trans ((SP.b (by assumption)).mono HW0.out.size))).mono ?_; rintro e w4 ⟨rfl, hb4⟩)
    | (go_at_call 114; refine (CS.out _ (HW0.out.trans ((SP.b (by assumption)).mono HW0.out.size))).mono ?_; rintro e w5 ⟨rfl, hb5⟩; obtain ⟨y0, y1, y2, y3, y4, s0, s1, s2, s3, s4, f0, f1, f2, f3, f4⟩ := SP.opn (SP.below (w0 := w0) (g := w0.heap.size) (cs := #[.pointer tp, .string op, .int .i64 i1, .int .i64 13, .int .i64 e1, .int .i64 n1, .string t1, .slice p1 a1 u1, .bool d1, .int .i64 i2, .int .i64 k2, .int .i64 e2, .int .i64 n2, .string t2, .slice p2 a2 u2, .bool d2]) (by assumption) hb5)))
  rename_i hHeld
  have HBF : Hid (Below w0.heap.size w0 _) := SP.b hHeld
  obtain ⟨_, _, d, hd, hE⟩ := ((SP.drew HSP).below hb4).below hb5
  have HF : Hid (_ = _) := five_set (x0 := .int .i64 1) (x1 := .int .i64 i1) (x2 := .int .i64 m) (x3 := .int .i64 i1) (x4 := .int .i64 n) hd hE
  clear hHeld HSP hE hb4 hb5 s0 s1 s2 s3 s4 f0 f1 f2 f3 f4 hc0 hc1 hc2 hc3 hc4 hc5 hc6 hc7 hc8 hc9 hc10 hc11 hc12 hc13 hc14 hc15
  go_wp2_with fail
  refine ret_op (p := 2) (q := 3) rfl rfl HF.out rfl ?_
  exact ⟨rfl, HBF.out⟩
end
end Go.Proofs.YtpnpilbmhkiphaaGreatDoor
