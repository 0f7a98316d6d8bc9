/-
  What conv's operators do with two operands: the parts that heads asks.
-/
import Derived.Test.YtpnpilbmhkiphaaDoorCvP
import Derived.Test.YtpnpilbmhkiphaaDoorCvR
import Derived.Deep.RegionWith
import Derived.Deep.RegionHeld3
namespace Go.Proofs.YtpnpilbmhkiphaaDoor
open Go.RowKit Go.Maps
set_option linter.unusedVariables false
set_option maxRecDepth 100000

abbrev TOp : TypeId := 55
def zeroOper : Value := .agg #[.int .i64 0, .int .i64 0, .int .i64 0, .int .i64 0, .int .i64 0]
section
variable {w : World}
theorem build_Op0 (W : World) : (Instr.build TOp #[]).run Tryd.prog W = .ok (.agg #[.int .i64 0, .int .i64 0, .int .i64 0, .int .i64 0, .int .i64 0]) W := by kernel_rfl
theorem ret_op {fn : Func} {R : Ending → World → Prop} {tmps : Array Value} {w : World} {g p q : Nat} {cs : Array Value} (hres : fn.results = #[.cell p TOp, .tmp q]) (hp : tmps.getD p undef = .pointer (some ⟨g, 0, none⟩)) (hg : w.heap[g]? = some (.cells cs TOp (0, 0))) (hcs : cs.size = 5)
    (hR : R (.returned (.tuple #[.agg cs, tmps.getD q undef])) w) : bodyPost Tryd.prog fn R .ret ⟨tmps, []⟩ w :=
  ret_st hres hp (run_loadVar_row _ _ _ _ _ (0, 0) _ hg Tryd.underlying55 rfl (by rw [hcs]; kernel_rfl)) hR
set_option maxHeartbeats 1000000 in
theorem nothing_c (tp : Option Addr) (op : ByteArray) (i1 k1 e1 n1 : Int) (t1 : ByteArray) (p1 : Option Addr) (a1 u1 : Nat) (d1 : Bool) (i2 k2 e2 n2 : Int) (t2 : ByteArray) (p2 : Option Addr) (a2 u2 : Nat) (d2 : Bool) (w : World) : Calls Tryd.prog 74 #[.agg #[.pointer tp, .string op, .int .i64 i1, .int .i64 k1, .int .i64 e1, .int .i64 n1, .string t1, .slice p1 a1 u1, .bool d1, .int .i64 i2, .int .i64 k2, .int .i64 e2, .int .i64 n2, .string t2, .slice p2 a2 u2, .bool d2]] w fun e w' => e = .returned (.tuple #[zeroOper, .int .i64 70]) ∧ Below w.heap.size w w' := by
  have hbz := build_Op0
  have hB : Below w.heap.size w ((w.alloc (.cells #[.pointer tp, .string op, .int .i64 i1, .int .i64 k1, .int .i64 e1, .int .i64 n1, .string t1, .slice p1 a1 u1, .bool d1, .int .i64 i2, .int .i64 k2, .int .i64 e2, .int .i64 n2, .string t2, .slice p2 a2 u2, .bool d2] TP)).alloc (.cells #[.int .i64 0, .int .i64 0, .int .i64 0, .int .i64 0, .int .i64 0] TOp)) := (below1 w _).alloc (below1 w _).size _
  have hold := heap_r0 (w.alloc (.cells #[.pointer tp, .string op, .int .i64 i1, .int .i64 k1, .int .i64 e1, .int .i64 n1, .string t1, .slice p1 a1 u1, .bool d1, .int .i64 i2, .int .i64 k2, .int .i64 e2, .int .i64 n2, .string t2, .slice p2 a2 u2, .bool d2] TP)) (.cells #[.int .i64 0, .int .i64 0, .int .i64 0, .int .i64 0, .int .i64 0] TOp)
  rw [show (w.alloc (.cells #[.pointer tp, .string op, .int .i64 i1, .int .i64 k1, .int .i64 e1, .int .i64 n1, .string t1, .slice p1 a1 u1, .bool d1, .int .i64 i2, .int .i64 k2, .int .i64 e2, .int .i64 n2, .string t2, .slice p2 a2 u2, .bool d2] TP)).heap.size = w.heap.size + 1 from Array.size_push _] at hold
  have HB : Hid (Below _ _ _) := hB
  clear hB
  unfold zeroOper
  go_enter Tryd.func74, Tryd.ntmps74
  go_wp2_with ((with_reducible apply step_store hold); rfl; rfl; kernel_rfl; rfl; kernel_rfl)
  refine ret_op (p := 2) (q := 3) rfl rfl (setRow_heap _ _ _ _ _ _ hold) rfl ?_
  exact ⟨rfl, below_setRow HB.out (by omega) _⟩
theorem cBasic_of {tp : Value} {k n : Int} (h : ∀ W, Below w.heap.size w W → Calls Tryd.prog 77 #[tp, .int .i64 k] W fun e w' => e = .returned (.tuple #[.int .i64 n, .int .i64 0]) ∧ w' = W) (htp : ∃ q, tp = .pointer q) :
    ∀ W, Below w.heap.size w W → Calls Tryd.prog 48 #[tp, .int .i64 k] W fun e w' => e = .returned (.int .i64 n) ∧ w' = W := by
  intro W hW
  have c := h W hW
  obtain ⟨q, rfl⟩ := htp
  clear h
  go_enter Tryd.func48, Tryd.ntmps48
  go_wp2_with fail
  refine c.mono ?_
  rintro e w' ⟨rfl, rfl⟩
  go_wp2
  go_ret
  exact ⟨rfl, rfl⟩
theorem intType_of {tp : Option Addr} {op : ByteArray} {i1 k1 e1 n1 : Int} {t1 : ByteArray} {p1 : Option Addr} {a1 u1 : Nat} {d1 : Bool} {i2 k2 e2 n2 : Int} {t2 : ByteArray} {p2 : Option Addr} {a2 u2 : Nat} {d2 : Bool} {n : Int} (h : ∀ W, Below w.heap.size w W → Calls Tryd.prog 48 #[.pointer tp, .int .i64 8] W fun e w' => e = .returned (.int .i64 n) ∧ w' = W) :
    ∀ W, Below w.heap.size w W → Calls Tryd.prog 83 #[.agg #[.pointer tp, .string op, .int .i64 i1, .int .i64 k1, .int .i64 e1, .int .i64 n1, .string t1, .slice p1 a1 u1, .bool d1, .int .i64 i2, .int .i64 k2, .int .i64 e2, .int .i64 n2, .string t2, .slice p2 a2 u2, .bool d2]] W fun e w' => e = .returned (.int .i64 n) ∧ Below W.heap.size W w' := by
  intro W hW
  have c := h (W.alloc (.cells #[.pointer tp, .string op, .int .i64 i1, .int .i64 k1, .int .i64 e1, .int .i64 n1, .string t1, .slice p1 a1 u1, .bool d1, .int .i64 i2, .int .i64 k2, .int .i64 e2, .int .i64 n2, .string t2, .slice p2 a2 u2, .bool d2] TP)) (hW.trans ((below1 W _).mono hW.size))
  have HB : Hid (Below W.heap.size W (W.alloc (.cells #[.pointer tp, .string op, .int .i64 i1, .int .i64 k1, .int .i64 e1, .int .i64 n1, .string t1, .slice p1 a1 u1, .bool d1, .int .i64 i2, .int .i64 k2, .int .i64 e2, .int .i64 n2, .string t2, .slice p2 a2 u2, .bool d2] TP))) := below1 W _
  clear h
  go_enter Tryd.func83, Tryd.ntmps83
  go_wp2_with fail
  refine c.mono ?_
  rintro e w' ⟨rfl, rfl⟩
  go_wp2
  go_ret
  exact ⟨rfl, HB.out⟩
end
end Go.Proofs.YtpnpilbmhkiphaaDoor
