/-
  A table that no call made is refused by all of package layout: the law's own walk.
-/
import Derived.Test.YtcapcjeadmlefabHLyNo
namespace Go.Proofs.Ytcapcjeadmlefab
open Go.RowKit Go.Maps
set_option linter.unusedVariables false
set_option maxRecDepth 100000
section
variable {v : Value} {w : World}
set_option maxHeartbeats 8000000 in
theorem nobody_c (h : NoT v w) (id : Int) (nm : ByteArray) (hops : Value) : Calls Try.prog 11 #[v, .int .i64 id, .string nm, hops] w fun e w' => e = .returned (.bool true) ∧ Below w.heap.size w w' := by
  have H0 : Hid (NoT v w) := h
  have c1 := size_no h id
  clear h
  go_enter Try.func11, Try.ntmps11
  go_wp2_with fail
  refine c1.mono ?_
  rintro e w1 ⟨rfl, hb1⟩
  have B1 : Hid (Below w.heap.size w w1) := hb1
  have c2 := align_no (H0.out.below B1.out) id
  clear c1 hb1
  go_wp2_with fail
  refine c2.mono ?_
  rintro e w2 ⟨rfl, hb2⟩
  have B2 : Hid (Below w.heap.size w w2) := B1.out.trans (hb2.mono B1.out.size)
  have c3 := places_no (H0.out.below B2.out) id
  clear c2 hb2 B1
  go_wp2_with fail
  refine c3.mono ?_
  rintro e w3 ⟨rfl, hb3⟩
  have B3 : Hid (Below w.heap.size w w3) := B2.out.trans (hb3.mono B2.out.size)
  have c4 := find_no (H0.out.below B3.out) id nm
  clear c3 hb3 B2
  go_wp2_with fail
  refine c4.mono ?_
  rintro e w4 ⟨rfl, hb4⟩
  have hold4 := heap_r0 w4 (.cells #[.int .i64 0, .int .i64 0, .int .i64 0, .int .i64 0, .int .i64 0] TPl)
  have b5 := below1 w4 (.cells #[.int .i64 0, .int .i64 0, .int .i64 0, .int .i64 0, .int .i64 0] TPl)
  have P5 : Hid (_ = _) := heap_r0 w4 (.cells #[.int .i64 0, .int .i64 0, .int .i64 0, .int .i64 0, .int .i64 0] TPl)
  have B5 : Hid (Below w.heap.size w (w4.alloc (.cells #[.int .i64 0, .int .i64 0, .int .i64 0, .int .i64 0, .int .i64 0] TPl))) := (B3.out.trans (hb4.mono B3.out.size)).trans (b5.mono (Nat.le_trans B3.out.size hb4.size))
  clear c4 hb4 b5 B3
  go_wp2_with (first | ((with_reducible apply step_store hold4); rfl; rfl; kernel_rfl; rfl; kernel_rfl; rw [World.setRow_alloc_new]) | fail)
  refine (?_ : Calls _ _ _ (w4.alloc (.cells #[.int .i64 0, .int .i64 0, .int .i64 0, .int .i64 0, .int .i64 0] TPl)) _)
  generalize hg5 : w4.heap.size = g5 at *
  generalize w4.alloc (.cells #[.int .i64 0, .int .i64 0, .int .i64 0, .int .i64 0, .int .i64 0] TPl) = W5 at *
  refine (walk_no (H0.out.below B5.out) id hops).mono ?_
  rintro e w6 ⟨rfl, hb6⟩
  have hold6 := heap_r0 w6 (.cells #[.int .i64 0, .int .i64 0, .int .i64 0, .int .i64 0, .int .i64 0] TPl)
  have b7 := below1 w6 (.cells #[.int .i64 0, .int .i64 0, .int .i64 0, .int .i64 0, .int .i64 0] TPl)
  have Q7 : Hid (_ = _) := heap_r0 w6 (.cells #[.int .i64 0, .int .i64 0, .int .i64 0, .int .i64 0, .int .i64 0] TPl)
  have P7 : Hid (_ = _) := blk_b (blk_b P5.out hb6) b7
  have B7 : Hid (Below w.heap.size w (w6.alloc (.cells #[.int .i64 0, .int .i64 0, .int .i64 0, .int .i64 0, .int .i64 0] TPl))) := (B5.out.trans (hb6.mono B5.out.size)).trans (b7.mono (Nat.le_trans B5.out.size hb6.size))
  clear hb6 b7 B5 P5 hold4
  go_wp2_with (first | ((with_reducible apply step_store hold6); rfl; rfl; kernel_rfl; rfl; kernel_rfl; rw [World.setRow_alloc_new]) | fail)
  refine (?_ : Calls _ _ _ (w6.alloc (.cells #[.int .i64 0, .int .i64 0, .int .i64 0, .int .i64 0, .int .i64 0] TPl)) _)
  generalize hg7 : w6.heap.size = g7 at *
  generalize w6.alloc (.cells #[.int .i64 0, .int .i64 0, .int .i64 0, .int .i64 0, .int .i64 0] TPl) = W7 at *
  refine (gaps_no (H0.out.below B7.out) id).mono ?_
  rintro e w8 ⟨rfl, hb8⟩
  have P8 := blk_b P7.out hb8
  have Q8 := blk_b Q7.out hb8
  have p0 := Lib.cell_of_heap P8 0
  have p1 := Lib.cell_of_heap P8 1
  have p2 := Lib.cell_of_heap P8 2
  have p3 := Lib.cell_of_heap P8 3
  have p4 := Lib.cell_of_heap P8 4
  have q0 := Lib.cell_of_heap Q8 0
  have q1 := Lib.cell_of_heap Q8 1
  have q2 := Lib.cell_of_heap Q8 2
  have q3 := Lib.cell_of_heap Q8 3
  have q4 := Lib.cell_of_heap Q8 4
  simp only [List.getElem?_toArray, List.getElem?_cons_zero, List.getElem?_cons_succ] at p0 p1 p2 p3 p4 q0 q1 q2 q3 q4
  have B8 : Hid (Below w.heap.size w w8) := B7.out.trans (hb8.mono B7.out.size)
  clear hb8 P8 Q8 P7 Q7 B7 hold6 H0
  have hbz : ∀ Y : World, (Instr.build TPl #[]).run Try.prog Y = .ok (.agg #[.int .i64 0, .int .i64 0, .int .i64 0, .int .i64 0, .int .i64 0]) Y := fun Y => by kernel_rfl
  have heq : ∀ Y : World, (binOp BinOp.eql TPl (.agg #[.int .i64 0, .int .i64 0, .int .i64 0, .int .i64 0, .int .i64 0]) (.agg #[.int .i64 0, .int .i64 0, .int .i64 0, .int .i64 0, .int .i64 0])).run Try.prog Y = .ok (.bool true) Y := fun Y => by kernel_rfl
  have n1 := not_f
  go_wp2
  go_ret
  exact ⟨rfl, B8.out⟩
end
set_option maxHeartbeats 4000000 in
theorem layoutNobody_c (id : Int) (nm : ByteArray) (hops : Value) (w : World) : Calls Try.prog 4 #[.int .i64 id, .string nm, hops] w fun e w' => e = .returned (.bool true) ∧ Below w.heap.size w w' := by
  have hbt : ∀ Y : World, (Instr.build 56 #[]).run Try.prog Y = .ok (.agg #[.slice none 0 0, .map none]) Y := fun Y => by kernel_rfl
  go_enter Try.func4, Try.ntmps4
  go_wp2_with fail
  refine (nobody_c (v := .pointer none) (.inl rfl) id nm hops).mono ?_
  rintro e w1 ⟨rfl, hb1⟩
  have B1 : Hid (Below w.heap.size w w1) := hb1
  have N2 := heap_r0 w1 (.cells #[.slice none 0 0, .map none] 56)
  have b2 := below1 w1 (.cells #[.slice none 0 0, .map none] 56)
  have c2 := nobody_c (v := .pointer (some ⟨w1.heap.size, 0, none⟩)) (w := w1.alloc (.cells #[.slice none 0 0, .map none] 56)) (.inr ⟨_, rfl, (Lib.cell_of_heap N2 0).trans rfl⟩) id nm hops
  have B2 : Hid (Below w.heap.size w (w1.alloc (.cells #[.slice none 0 0, .map none] 56))) := B1.out.trans (b2.mono B1.out.size)
  clear hb1 B1 N2 b2
  go_wp2_with fail
  refine c2.mono ?_
  rintro e w3 ⟨rfl, hb3⟩
  have B3 : Hid (Below w.heap.size w w3) := B2.out.trans (hb3.mono B2.out.size)
  clear c2 hb3 B2
  go_wp2_with fail
  refine (heads_c w3).mono ?_
  rintro e w4 ⟨rfl, hb4⟩
  have B4 : Hid (Below w.heap.size w w4) := B3.out.trans (hb4.mono B3.out.size)
  clear hb4 B3
  go_wp2
  go_ret
  exact ⟨rfl, B4.out⟩
end Go.Proofs.Ytcapcjeadmlefab
