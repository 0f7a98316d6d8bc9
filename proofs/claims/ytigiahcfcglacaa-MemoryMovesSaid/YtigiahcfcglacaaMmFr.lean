/-
  Values that came in as arguments.
-/
import Derived.Test.YtigiahcfcglacaaMmA
import Derived.ProofKit
import Derived.OpenShut
import Derived.Stop.Joined
import Derived.SizedLaws
namespace Go.Proofs.Ytigiahcfcglacaa
open Go.ChangeShapes Go.WideShapes Go.ChangeAt Go.RowKit
set_option linter.unusedVariables false
theorem ownK : ownKnob Try.prog.godebug = none := by kernel_rfl
theorem laidOut : laidOutB Try.prog = true := by kernel_rfl
theorem cells_int : Try.prog.cellsOf 3 = 1 := by kernel_rfl
theorem cells_kind : Try.prog.cellsOf 23 = 1 := by kernel_rfl
theorem cells_u32 : Try.prog.cellsOf 24 = 1 := by kernel_rfl
theorem cells_val : Try.prog.cellsOf TV = 3 := by kernel_rfl
theorem list3 {α : Type} {l : List α} (h : l.length = 3) : ∃ a b c, l = [a, b, c] := by
  match l, h with
  | [a, b, c], _ => exact ⟨a, b, c, rfl⟩
theorem bd_u32 {a : Int} (h : (Lit.int .u32 a).wf = true) : 0 ≤ a ∧ a < 4294967296 := by
  simp [Lit.wf, IntKind.min, IntKind.max, IntKind.bits, IntKind.signed] at h; omega
theorem bd_i64 {a : Int} (h : (Lit.int .i64 a).wf = true) : -9223372036854775808 ≤ a ∧ a < 9223372036854775808 := by
  simp [Lit.wf, IntKind.min, IntKind.max, IntKind.bits, IntKind.signed] at h; omega
theorem open_val {H : Type} {enc : TypeId × Value → H} {w : World} {base : Nat} {spare : Nat → Bool} {held : Bool} {fuel : Nat} {cs : List Value} {x : DataW H × List MemPlace} (h : DataW.trod enc Try.prog w base spare held fuel TV cs = some x) :
    ∃ p : Vl, cs = [.int .i64 p.kind, .int .u32 p.v, .int .i64 p.block] ∧ 0 ≤ p.v ∧ p.v < 4294967296 ∧ -9223372036854775808 ≤ p.block ∧ p.block < 9223372036854775808 ∧ -9223372036854775808 ≤ p.kind ∧ p.kind < 9223372036854775808 := by
  obtain ⟨xs, n, rfl, rfl, hl, hlen, hf⟩ := DataW.trod_struct Try.underlying26 h
  rw [cells_val] at hl
  have f0 : DataW.trod enc Try.prog w base spare held n 23 ((cs.drop 0).take (Try.prog.cellsOf 23)) = xs[0]? := hf 0 _ rfl
  have f1 : DataW.trod enc Try.prog w base spare held n 24 ((cs.drop 1).take (Try.prog.cellsOf 24)) = xs[1]? := hf 1 _ rfl
  have f2 : DataW.trod enc Try.prog w base spare held n 3 ((cs.drop 2).take (Try.prog.cellsOf 3)) = xs[2]? := hf 2 _ rfl
  rw [cells_kind] at f0
  rw [cells_u32] at f1
  rw [cells_int] at f2
  obtain ⟨c0, c1, c2, rfl⟩ := list3 hl
  obtain ⟨y0, y1, y2, rfl⟩ := list3 hlen
  simp only [List.drop_zero, List.drop_succ_cons, List.take_succ_cons, List.take_zero, List.getElem?_cons_zero, List.getElem?_cons_succ] at f0 f1 f2
  obtain ⟨m, e0, d0, w0⟩ := DataW.trod_int Try.underlying23 f0
  obtain ⟨t, e1, d1, w1⟩ := DataW.trod_int Try.underlying24 f1
  obtain ⟨o, e2, d2, w2⟩ := DataW.trod_int Try.underlying3 f2
  cases e0; cases e1; cases e2
  have b0 := bd_i64 w0
  have b1 := bd_u32 w1
  have b2 := bd_i64 w2
  exact ⟨⟨m, t, o⟩, rfl, b1.1, b1.2, b2.1, b2.2, b0.1, b0.2⟩
theorem val_arg {H : Type} {enc : TypeId × Value → H} {w : World} {base : Nat} {spare : Nat → Bool} {held : Bool} {cs : Array Value} {d : DataW H} {pl : List MemPlace} (h : DataW.Trod enc Try.prog w base spare held TV (.agg cs) d pl) :
    ∃ p : Vl, cs = #[.int .i64 p.kind, .int .u32 p.v, .int .i64 p.block] ∧ 0 ≤ p.v ∧ p.v < 4294967296 ∧ -9223372036854775808 ≤ p.block ∧ p.block < 9223372036854775808 ∧ -9223372036854775808 ≤ p.kind ∧ p.kind < 9223372036854775808 := by
  obtain ⟨fuel, hf⟩ := h
  obtain ⟨p, hc, r⟩ := open_val hf
  have hc' : cs.toList = [.int .i64 p.kind, .int .u32 p.v, .int .i64 p.block] := by simpa [Value.cells] using hc
  exact ⟨p, by apply Array.toList_inj.1; rw [hc'], r⟩
end Go.Proofs.Ytigiahcfcglacaa
