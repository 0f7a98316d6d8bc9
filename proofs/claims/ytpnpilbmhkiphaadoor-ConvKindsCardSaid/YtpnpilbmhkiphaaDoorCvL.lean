/-
  A pair that lies in memory, read as a whole and in parts.
-/
import Derived.Test.YtpnpilbmhkiphaaDoorCvA
import Derived.Deep.MidRow
namespace Go.Proofs.YtpnpilbmhkiphaaDoor
open Go.RowKit Go.Maps
set_option linter.unusedVariables false
set_option maxRecDepth 100000

/-- A load whose answer is told, under a guard that is met. -/
theorem step_load {P : Program} {t ty : TypeId} {p : Operand} {pos : String} {af : Array Edge} {gd : Option (Nat × Bool)} {ops : Array Oper} {rest : List Oper} {tmps : Array Value} {w : World} {Q : Exit → Act → World → Prop} {d : Tmp} {a : Addr} {v : Value}
    (hl : (Instr.loadAt t (.pointer (some a))).run P w = .ok v w) (hw : Region.wanted { dst := some d, op := Op.load t p, type := ty, pos := pos, after := af, guard := gd } (yielded ops tmps) = true)
    (hp : Act.eval ⟨tmps, []⟩ p = .pointer (some a)) (k : wpList P ops Q rest ⟨tmps.setIfInBounds d v, []⟩ w) : wpList P ops Q ({ dst := some d, op := Op.load t p, type := ty, pos := pos, after := af, guard := gd } :: rest) ⟨tmps, []⟩ w :=
  wpList_step fun K hK => by
    rw [if_pos hw]
    unfold Oper.wp execOp
    simp only [hp, Sem.run_bind, Sem.run_pure, hl, Result.andThen_ok]
    exact hK _ _ k
section
variable {Y : World} {g : Nat}
def InP (Y : World) (g : Nat) (cs : Array Value) : Prop := ∀ j, Y.cell? ⟨g, j, none⟩ = cs[j]?
theorem inP_box {w : World} {cs : Array Value} {T : TypeId} (hb : Below (w.alloc (.cells cs T)).heap.size (w.alloc (.cells cs T)) Y) : InP Y w.heap.size cs := box_at hb
theorem inP_below {w : World} {cs : Array Value} (h : InP w g cs) (hg : g < w.heap.size) (hb : Below w.heap.size w Y) : InP Y g cs := fun j => (hb.cell (p := ⟨g, j, none⟩) hg).trans (h j)
theorem range_of {cs : Array Value} (h : InP Y g cs) (o : Nat) (l : List Value) (hl : ∀ j v, l[j]? = some v → cs[o + j]? = some v) : Y.rangeAt g o l := by
  intro j v hj
  rw [h (o + j)]; exact hl j v hj
theorem load_O {i k e n : Int} {t : ByteArray} {p : Option Addr} {a u : Nat} {d : Bool} (o : Nat) (h : Y.rangeAt g o [.int .i64 i, .int .i64 k, .int .i64 e, .int .i64 n, .string t, .slice p a u, .bool d]) :
    (Instr.loadAt TO (.pointer (some ⟨g, o, none⟩))).run Tryd.prog Y = .ok (.agg #[.int .i64 i, .int .i64 k, .int .i64 e, .int .i64 n, .string t, .slice p a u, .bool d]) Y :=
  run_loadAt_mid Y g o TO _ _ h Tryd.underlying76 rfl (by kernel_rfl)
theorem load_P {tp : Option Addr} {op : ByteArray} {i1 k1 e1 n1 : Int} {t1 : ByteArray} {p1 : Option Addr} {a1 u1 : Nat} {d1 : Bool} {i2 k2 e2 n2 : Int} {t2 : ByteArray} {p2 : Option Addr} {a2 u2 : Nat} {d2 : Bool} (h : InP Y g #[.pointer tp, .string op, .int .i64 i1, .int .i64 k1, .int .i64 e1, .int .i64 n1, .string t1, .slice p1 a1 u1, .bool d1, .int .i64 i2, .int .i64 k2, .int .i64 e2, .int .i64 n2, .string t2, .slice p2 a2 u2, .bool d2]) :
    (Instr.loadAt TP (.pointer (some ⟨g, 0, none⟩))).run Tryd.prog Y = .ok (.agg #[.pointer tp, .string op, .int .i64 i1, .int .i64 k1, .int .i64 e1, .int .i64 n1, .string t1, .slice p1 a1 u1, .bool d1, .int .i64 i2, .int .i64 k2, .int .i64 e2, .int .i64 n2, .string t2, .slice p2 a2 u2, .bool d2]) Y ∧ (Instr.loadAt TO (.pointer (some ⟨g, 2, none⟩))).run Tryd.prog Y = .ok (.agg #[.int .i64 i1, .int .i64 k1, .int .i64 e1, .int .i64 n1, .string t1, .slice p1 a1 u1, .bool d1]) Y ∧ (Instr.loadAt TO (.pointer (some ⟨g, 9, none⟩))).run Tryd.prog Y = .ok (.agg #[.int .i64 i2, .int .i64 k2, .int .i64 e2, .int .i64 n2, .string t2, .slice p2 a2 u2, .bool d2]) Y := by
  refine ⟨run_loadAt_mid Y g 0 TP [.pointer tp, .string op, .int .i64 i1, .int .i64 k1, .int .i64 e1, .int .i64 n1, .string t1, .slice p1 a1 u1, .bool d1, .int .i64 i2, .int .i64 k2, .int .i64 e2, .int .i64 n2, .string t2, .slice p2 a2 u2, .bool d2] _ (range_of h 0 _ (fun j v hj => ?_)) Tryd.underlying78 rfl (by kernel_rfl), load_O 2 (range_of h 2 _ (fun j v hj => ?_)), load_O 9 (range_of h 9 _ (fun j v hj => ?_))⟩
  · simpa using hj
  · have hlt := (List.getElem?_eq_some_iff.1 hj).1
    simp at hlt
    have : j = 0 ∨ j = 1 ∨ j = 2 ∨ j = 3 ∨ j = 4 ∨ j = 5 ∨ j = 6 := by omega
    rcases this with rfl | rfl | rfl | rfl | rfl | rfl | rfl <;> simpa using hj
  · have hlt := (List.getElem?_eq_some_iff.1 hj).1
    simp at hlt
    have : j = 0 ∨ j = 1 ∨ j = 2 ∨ j = 3 ∨ j = 4 ∨ j = 5 ∨ j = 6 := by omega
    rcases this with rfl | rfl | rfl | rfl | rfl | rfl | rfl <;> simpa using hj
end
end Go.Proofs.YtpnpilbmhkiphaaDoor
