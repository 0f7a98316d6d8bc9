/-
  The law ConvNobody's own walk.
-/
import Derived.Test.YtpnpilbmhkiphaaDoorCvT
namespace Go.Proofs.YtpnpilbmhkiphaaDoor
open Go.RowKit Go.Maps
set_option linter.unusedVariables false
set_option maxRecDepth 100000

theorem eqZ (W : World) : (binOp BinOp.eql TOp (.agg #[.int .i64 0, .int .i64 0, .int .i64 0, .int .i64 0, .int .i64 0]) (.agg #[.int .i64 0, .int .i64 0, .int .i64 0, .int .i64 0, .int .i64 0])).run Tryd.prog W = .ok (.bool true) W := by kernel_rfl
set_option maxHeartbeats 4000000 in
theorem cNobody_c {v : Value} {w : World} (h : NoT v w) (hv : ∃ q, v = .pointer q) (op : ByteArray) (a b : Int) :
    Calls Tryd.prog 15 #[v, .string op, .int .i64 a, .int .i64 b] w fun e w' => e = .returned (.bool true) ∧ Below w.heap.size w w' := by
  have c1 := binary_no h hv op a b
  unfold zeroOper at c1
  have H0 : Hid (NoT v w) := h
  obtain ⟨q, rfl⟩ := hv
  have cU := fun Y (hY : NoT (.pointer q) Y) => unary_no hY ⟨_, rfl⟩ op a
  have cC := fun Y (hY : NoT (.pointer q) Y) => cond_no hY ⟨_, rfl⟩ a b
  have cA := fun Y (hY : NoT (.pointer q) Y) => assign_no hY ⟨_, rfl⟩ a b
  have cK := fun Y (hY : NoT (.pointer q) Y) => cast_no hY ⟨_, rfl⟩ a b
  have hbo := build_Op0
  have heq := eqZ
  clear h
  go_enter Tryd.func15, Tryd.ntmps15
  go_wp2_with fail
  refine c1.mono ?_
  rintro e w1 ⟨rfl, hb1⟩
  have hold := heap_r0 w1 (.cells #[.int .i64 0, .int .i64 0, .int .i64 0, .int .i64 0, .int .i64 0] TOp)
  have G2 : Hid (_ = _) := heap_r0 w1 (.cells #[.int .i64 0, .int .i64 0, .int .i64 0, .int .i64 0, .int .i64 0] TOp)
  have H2 : Hid (Below w.heap.size w (w1.alloc (.cells #[.int .i64 0, .int .i64 0, .int .i64 0, .int .i64 0, .int .i64 0] TOp))) := hb1.trans ((below1 w1 _).mono hb1.size)
  clear hb1 c1
  go_wp2_with (first | ((with_reducible apply step_store hold); rfl; rfl; kernel_rfl; rfl; kernel_rfl; rw [World.setRow_alloc_new]) | fail)
  generalize w1.alloc (.cells #[.int .i64 0, .int .i64 0, .int .i64 0, .int .i64 0, .int .i64 0] TOp) = w2 at *
  clear hold
  refine (cU _ (noT_below H0.out H2.out)).mono ?_
  rintro e w3 ⟨rfl, hb3⟩
  have H3 : Hid (Below w.heap.size w w3) := H2.out.trans (hb3.mono H2.out.size)
  have G3 : Hid (_ = _) := blk_b G2.out hb3
  clear hb3 G2 cU
  go_wp2_with fail
  refine (cC _ (noT_below H0.out H3.out)).mono ?_
  rintro e w4 ⟨rfl, hb4⟩
  have H4 : Hid (Below w.heap.size w w4) := H3.out.trans (hb4.mono H3.out.size)
  obtain ⟨s0, s1, s2, s3, s4, _⟩ := cells5 (blk_b G3.out hb4)
  clear hb4 G3 cC
  go_wp2_with fail
  refine (cA _ (noT_below H0.out H4.out)).mono ?_
  rintro e w5 ⟨rfl, hb5⟩
  have H5 : Hid (Below w.heap.size w w5) := H4.out.trans (hb5.mono H4.out.size)
  clear hb5 cA s0 s1 s2 s3 s4 heq hbo
  go_wp2_with fail
  refine (cK _ (noT_below H0.out H5.out)).mono ?_
  rintro e w6 ⟨rfl, hb6⟩
  have H6 : Hid (Below w.heap.size w w6) := H5.out.trans (hb6.mono H5.out.size)
  clear hb6 cK
  go_wp2
  go_ret
  exact ⟨rfl, H6.out⟩
set_option maxHeartbeats 2000000 in
theorem convNobody_c (op : ByteArray) (a b : Int) (w : World) (hN : W.NamesIn w) (hz : 0 < w.heap.size) :
    Calls Tryd.prog 5 #[.string op, .int .i64 a, .int .i64 b] w fun e w' => e = .returned (.bool true) ∧ Below w.heap.size w w' := by
  have c1 := cNobody_c (v := .pointer none) (w := w) (Or.inl rfl) ⟨_, rfl⟩ op a b
  have hbt : ∀ W : World, (Instr.build 46 #[]).run Tryd.prog W = .ok (.agg #[.slice none 0 0, .map none]) W := fun W => by kernel_rfl
  have HN : Hid (W.NamesIn w) := hN
  clear hN
  go_enter Tryd.func5, Tryd.ntmps5
  go_wp2_with fail
  refine c1.mono ?_
  rintro e w1 ⟨rfl, hb1⟩
  have c2 := cNobody_c (v := .pointer (some ⟨w1.heap.size, 0, none⟩)) (w := w1.alloc (.cells #[.slice none 0 0, .map none] 46)) (Or.inr ⟨_, rfl, by rw [Lib.cell_of_heap (heap_r0 w1 _)]; rfl⟩) ⟨_, rfl⟩ op a b
  have HB1 : Hid (Below w.heap.size w (w1.alloc (.cells #[.slice none 0 0, .map none] 46))) := hb1.trans ((below1 w1 _).mono hb1.size)
  clear c1 hb1
  go_wp2_with fail
  refine c2.mono ?_
  rintro e w2 ⟨rfl, hb2⟩
  have HB2 : Hid (Below w.heap.size w w2) := HB1.out.trans (hb2.mono HB1.out.size)
  have c3 := cHeads_c w2 (names_b HN.out hz HB2.out) (Nat.lt_of_lt_of_le hz HB2.out.size)
  clear c2 hb2 HB1
  go_wp2_with fail
  refine c3.mono ?_
  rintro e w3 ⟨rfl, hb3⟩
  have HB3 : Hid (Below w.heap.size w w3) := HB2.out.trans (hb3.mono HB2.out.size)
  clear hb3 c3
  go_wp2
  go_ret
  exact ⟨rfl, HB3.out⟩
end Go.Proofs.YtpnpilbmhkiphaaDoor
