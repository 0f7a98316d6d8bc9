/-
  The law LayoutWalksOn's own walk.
-/
import Derived.Test.YtkobggbipoappaaLyOn
import Derived.Test.YtkobggbipoappaaHRowOpen
import Derived.BigQuiet
import Derived.WalkKit
namespace Go.Proofs.Ytkobggbipoappaa
open Go.RowKit Go.Maps
set_option linter.unusedVariables false
set_option maxRecDepth 100000
theorem below_grown {B : Nat} {W w w' : World} {row : Option Nat} (hb : Below B W w) (hB : B ≤ w.heap.size) (hg : w.grownBy w' row) (hr : ∀ k, row = some k → B ≤ k) : Below B W w' :=
  ⟨hg.os.trans hb.os, hg.tape.trans hb.tape, hg.output.trans hb.output, Nat.le_trans hb.size hg.size, fun k hk => (hg.block k (by omega) (fun e => by have := hr k e.symm; omega)).trans (hb.block k hk)⟩
section
variable {w : World}
set_option maxHeartbeats 16000000 in
theorem walksOn_c {v x1 x2 : Value} {rs : List (Rw × Value)} {f s : List Hp} (h : RowIn w v rs) (hl : rs.length * 72 ≤ 140737488355328) (hO : ∀ p ∈ rs, Okay p.1) (id : Int) (h1 : HopIn w x1 f) (h2 : HopIn w x2 s) (hfs : (f.length + s.length) * 24 ≤ 140737488355328) :
    Calls Try.prog 4 #[v, .int .i64 id, x1, x2] w fun e w' => e = .returned (.bool true) ∧ Below w.heap.size w w' := by
  have cB := both_c h hl hO
  have HH : Hid (∀ Y, Below w.heap.size w Y → Calls Try.prog 8 #[] Y fun e w' => e = .returned (.bool true) ∧ Below w.heap.size w w') := fun Y hY => (heads_c Y).mono fun e w' ⟨he, hb⟩ => ⟨he, hY.trans (hb.mono hY.size)⟩
  have HM1 : Hid (HopIn w x1 f) := h1
  have HM2 : Hid (HopIn w x2 s) := h2
  have nt := not_t
  have nf := not_f
  clear h hl hO h1 h2
  go_enter Try.func4, Try.ntmps4
  go_wp2_with fail
  refine cB.mono ?_
  rintro e w1 ⟨rfl | ⟨b, mb, tv, trs, rb, rv, rrs, rfl, hD⟩, hb1⟩
  · have H1 : Hid (Below w.heap.size w w1) := hb1
    clear hb1 cB
    go_wp2_with fail
    refine (HH.out _ H1.out).mono ?_
    rintro e wz ⟨rfl, hbz⟩
    have HZ : Hid (Below w.heap.size w wz) := hbz
    clear hbz
    go_wp2
    go_ret
    exact ⟨rfl, HZ.out⟩
  have H1 : Hid (Below w.heap.size w w1) := hb1
  have h0 : 0 < trs.length := by have := hD.len; omega
  obtain ⟨M, hM⟩ := meas_exists hD.ok
  have HF : Hid (∀ (W : World) (x : Value) (l : List Hp) (j : Int), Below w1.heap.size w1 W → HopIn W x l → l.length ≤ 9223372036854775807 → Calls Try.prog 12 #[.pointer (some ⟨b, 0, none⟩), .int .i64 j, x] W fun e w' => e = .returned (.tuple #[.agg (plV (walkR trs M j l).1), .int .i64 (walkR trs M j l).2]) ∧ Below W.heap.size W w') := fun W x l j hW hx hll => walk_any (hD.tab.keptB hW) h0 hD.small hD.ok hM j hx hll
  have HON : Hid ((walkR trs M id f).2 = 0 → (walkR trs M id f).1.bits ≤ 0 → (walkR trs M (walkR trs M id f).1.type s = (pl0, 30) ∧ walkR trs M id (f ++ s) = (pl0, 30)) ∨ ∃ x y, walkR trs M (walkR trs M id f).1.type s = (y, 0) ∧ walkR trs M id (f ++ s) = (x, 0) ∧ x.off = (walkR trs M id f).1.off + y.off ∧ x.bit = y.bit ∧ x.bits = y.bits ∧ x.type = y.type ∧ 0 ≤ x.off ∧ x.off ≤ 16384) := fun a b => walks_on hD.ok hM s a b
  have c1 := HF.out w1 x1 f id (Below.refl _ _) (HM1.out.below H1.out) (by omega)
  clear cB hD hb1 hM
  generalize hPE : walkR trs M id f = PE at *
  obtain ⟨P, E⟩ := PE
  simp only at c1 HON
  go_wp2_with fail
  refine c1.mono ?_
  rintro e w2 ⟨rfl, hb2⟩
  have hold2 := heap_r0 w2 (.cells #[.int .i64 0, .int .i64 0, .int .i64 0, .int .i64 0, .int .i64 0] TPl)
  have b3 := below1 w2 (.cells #[.int .i64 P.mem, .int .i64 P.type, .int .i64 P.off, .int .i64 P.bit, .int .i64 P.bits] TPl)
  have N3 := heap_r0 w2 (.cells #[.int .i64 P.mem, .int .i64 P.type, .int .i64 P.off, .int .i64 P.bit, .int .i64 P.bits] TPl)
  have B3 : Hid (Below w1.heap.size w1 (w2.alloc (.cells #[.int .i64 P.mem, .int .i64 P.type, .int .i64 P.off, .int .i64 P.bit, .int .i64 P.bits] TPl))) := hb2.trans (b3.mono hb2.size)
  have H3 : Hid (Below w.heap.size w (w2.alloc (.cells #[.int .i64 P.mem, .int .i64 P.type, .int .i64 P.off, .int .i64 P.bit, .int .i64 P.bits] TPl))) := H1.out.trans (B3.out.mono H1.out.size)
  have z4 := Lib.cell_of_heap N3 4
  have z1 := Lib.cell_of_heap N3 1
  simp only [List.getElem?_toArray, List.getElem?_cons_zero, List.getElem?_cons_succ] at z4 z1
  have HN3 : Hid (_ = _) := N3
  clear c1 hb2 b3 N3
  by_cases hE : E = 0
  · subst hE
    by_cases hbt : 0 < P.bits
    · have hd1 : decide (0 < P.bits) = true := by simpa using hbt
      clear HON
      go_wp2_with (first | ((with_reducible apply step_store hold2); rfl; rfl; kernel_rfl; rfl; kernel_rfl; rw [World.setRow_alloc_new]) | fail)
      refine (HH.out _ H3.out).mono ?_
      rintro e wz ⟨rfl, hbz⟩
      have HZ : Hid (Below w.heap.size w wz) := hbz
      clear hbz
      go_wp2
      go_ret
      exact ⟨rfl, HZ.out⟩
    · have hd1 : decide (0 < P.bits) = false := by simpa using hbt
      have hon := HON.out rfl (by omega)
      clear HON
      go_upto_region 7 with (first | ((with_reducible apply step_store hold2); rfl; rfl; kernel_rfl; rfl; kernel_rfl; rw [World.setRow_alloc_new]) | fail)
      generalize w2.alloc (.cells #[.int .i64 P.mem, .int .i64 P.type, .int .i64 P.off, .int .i64 P.bit, .int .i64 P.bits] TPl) = W3 at *
      have c2 := HF.out W3 x2 s P.type B3.out (HM2.out.below H3.out) (by omega)
      generalize hQE : walkR trs M P.type s = QE at *
      obtain ⟨Q, F⟩ := QE
      simp only at c2
      go_wp2_with fail
      refine c2.mono ?_
      rintro e w4 ⟨rfl, hb4⟩
      have hold4 := heap_r0 w4 (.cells #[.int .i64 0, .int .i64 0, .int .i64 0, .int .i64 0, .int .i64 0] TPl)
      have b5 := below1 w4 (.cells #[.int .i64 Q.mem, .int .i64 Q.type, .int .i64 Q.off, .int .i64 Q.bit, .int .i64 Q.bits] TPl)
      have N5 : Hid (_ = _) := heap_r0 w4 (.cells #[.int .i64 Q.mem, .int .i64 Q.type, .int .i64 Q.off, .int .i64 Q.bit, .int .i64 Q.bits] TPl)
      have B5 : Hid (Below w1.heap.size w1 (w4.alloc (.cells #[.int .i64 Q.mem, .int .i64 Q.type, .int .i64 Q.off, .int .i64 Q.bit, .int .i64 Q.bits] TPl))) := (B3.out.trans (hb4.mono B3.out.size)).trans (b5.mono (Nat.le_trans B3.out.size hb4.size))
      have H5 : Hid (Below w.heap.size w (w4.alloc (.cells #[.int .i64 Q.mem, .int .i64 Q.type, .int .i64 Q.off, .int .i64 Q.bit, .int .i64 Q.bits] TPl))) := H1.out.trans (B5.out.mono H1.out.size)
      have G5 : Hid (_ = _) := blk_b (blk_b HN3.out hb4) b5
      clear c2 hb4 b5 z4 z1 HN3 H3
      go_upto_region 8 with (first | ((with_reducible apply step_store hold4); rfl; rfl; kernel_rfl; rfl; kernel_rfl; rw [World.setRow_alloc_new]) | fail)
      generalize w4.alloc (.cells #[.int .i64 Q.mem, .int .i64 Q.type, .int .i64 Q.off, .int .i64 Q.bit, .int .i64 Q.bits] TPl) = W5 at *
      have HO0 : Hid ((W5.alloc (.cells #[] THop)).ownsRow W5.heap.size THop 2 (.slice (some ⟨W5.heap.size, 0, none⟩) 0 0) 0 []) := ⟨rfl, .inr ⟨W5.heap.size, 0, #[], rfl, Nat.le_refl _, heap_r0 W5 _, Nat.le_refl _, by unfold maxLen; omega, rfl, rfl⟩⟩
      have HB0 : Hid (Below W5.heap.size W5 (W5.alloc (.cells #[] THop))) := below1 W5 _
      have HI5 : Hid (HopIn W5 x2 s) := HM2.out.below H5.out
      have HI1 : Hid (HopIn (W5.alloc (.cells #[] THop)) x1 f) := (HM1.out.below H5.out).below HB0.out
      have HZ6 : Hid (W5.heap.size ≤ (W5.alloc (.cells #[] THop)).heap.size) := HB0.out.size
      rcases hon with ⟨hq, hr⟩ | ⟨⟨xm, xt, xo, xb, xs⟩, y, hq, hr, e1, e2, e3, e4, e5, e6⟩
      · obtain ⟨rfl, rfl⟩ := Prod.mk.inj hq
        clear hq
        go_wp2_with (first
          | (at_builtin; refine append_hops rfl (.tmp 53) (.tmp 54) rfl W5.heap.size (.slice (some ⟨W5.heap.size, 0, none⟩) 0 0) 0 [] rfl HO0.out (xv := x1) (l := f) rfl HI1.out (by omega) HZ6.out ?_; intro v1 w6 ho1 hg1; have HO1 : Hid (w6.ownsRow W5.heap.size THop 2 v1 (0 + f.length) ([] ++ hopsC f)) := ho1; have HB6 : Hid (Below W5.heap.size W5 w6) := below_grown HB0.out HZ6.out hg1 (fun k e => by cases e; exact Nat.le_refl _); have HI2 : Hid (HopIn w6 x2 s) := HI5.out.below HB6.out; clear ho1 hg1)
          | (at_builtin; refine append_hops rfl (.tmp 55) (.tmp 56) rfl W5.heap.size v1 (0 + f.length) ([] ++ hopsC f) rfl HO1.out (xv := x2) (l := s) rfl HI2.out (by omega) HB6.out.size ?_; intro v2 w7 ho2 hg2; have HO2 : Hid (w7.ownsRow W5.heap.size THop 2 v2 (0 + f.length + s.length) ([] ++ hopsC f ++ hopsC s)) := ho2; have HB7 : Hid (Below W5.heap.size W5 w7) := below_grown HB6.out HB6.out.size hg2 (fun k e => (ownsRow_at HO1.out e).1); clear ho2 hg2)
          | fail)
        have c3 := HF.out w7 v2 (f ++ s) id (B5.out.trans (HB7.out.mono B5.out.size)) (.inl (HopSl.of_own (by have q := HO2.out; rw [List.nil_append, hopsC_append, Nat.zero_add] at q; rw [List.length_append]; exact q))) (by rw [List.length_append]; omega)
        rw [hr] at c3
        refine c3.mono ?_
        rintro e w8 ⟨rfl, hb8⟩
        have HB8 : Hid (Below W5.heap.size W5 w8) := HB7.out.trans (hb8.mono HB7.out.size)
        clear c3 hb8 HO2 HO1 HB7 HB6 HO0 HB0 HI5 HI1 HI2 HZ6 HF
        have hold8 := heap_r0 w8 (.cells #[.int .i64 0, .int .i64 0, .int .i64 0, .int .i64 0, .int .i64 0] TPl)
        have H9 : Hid (Below w.heap.size w (w8.alloc (.cells #[.int .i64 0, .int .i64 0, .int .i64 0, .int .i64 0, .int .i64 0] TPl))) := (H5.out.trans (HB8.out.mono H5.out.size)).trans ((below1 w8 _).mono (Nat.le_trans H5.out.size HB8.out.size))
        go_wp2_with (first | ((with_reducible apply step_store hold8); rfl; rfl; kernel_rfl; rfl; kernel_rfl; rw [World.setRow_alloc_new]) | fail)
        refine (HH.out _ H9.out).mono ?_
        rintro e wz ⟨rfl, hbz⟩
        have HZ : Hid (Below w.heap.size w wz) := hbz
        clear hbz
        go_wp2
        go_ret
        exact ⟨rfl, HZ.out⟩
      · obtain ⟨rfl, rfl⟩ := Prod.mk.inj hq
        clear hq
        simp only at e1 e2 e3 e4 e5 e6
        subst e1 e2 e3 e4
        have hw1 : IntKind.i64.wrap (P.off + Q.off) = P.off + Q.off := wrap_id e5 (by omega)
        go_wp2_with (first
          | (at_builtin; refine append_hops rfl (.tmp 53) (.tmp 54) rfl W5.heap.size (.slice (some ⟨W5.heap.size, 0, none⟩) 0 0) 0 [] rfl HO0.out (xv := x1) (l := f) rfl HI1.out (by omega) HZ6.out ?_; intro v1 w6 ho1 hg1; have HO1 : Hid (w6.ownsRow W5.heap.size THop 2 v1 (0 + f.length) ([] ++ hopsC f)) := ho1; have HB6 : Hid (Below W5.heap.size W5 w6) := below_grown HB0.out HZ6.out hg1 (fun k e => by cases e; exact Nat.le_refl _); have HI2 : Hid (HopIn w6 x2 s) := HI5.out.below HB6.out; clear ho1 hg1)
          | (at_builtin; refine append_hops rfl (.tmp 55) (.tmp 56) rfl W5.heap.size v1 (0 + f.length) ([] ++ hopsC f) rfl HO1.out (xv := x2) (l := s) rfl HI2.out (by omega) HB6.out.size ?_; intro v2 w7 ho2 hg2; have HO2 : Hid (w7.ownsRow W5.heap.size THop 2 v2 (0 + f.length + s.length) ([] ++ hopsC f ++ hopsC s)) := ho2; have HB7 : Hid (Below W5.heap.size W5 w7) := below_grown HB6.out HB6.out.size hg2 (fun k e => (ownsRow_at HO1.out e).1); clear ho2 hg2)
          | fail)
        have c3 := HF.out w7 v2 (f ++ s) id (B5.out.trans (HB7.out.mono B5.out.size)) (.inl (HopSl.of_own (by have q := HO2.out; rw [List.nil_append, hopsC_append, Nat.zero_add] at q; rw [List.length_append]; exact q))) (by rw [List.length_append]; omega)
        rw [hr] at c3
        refine c3.mono ?_
        rintro e w8 ⟨rfl, hb8⟩
        have HB8 : Hid (Below W5.heap.size W5 w8) := HB7.out.trans (hb8.mono HB7.out.size)
        clear c3 hb8 HO2 HO1 HB7 HB6 HO0 HB0 HI5 HI1 HI2 HZ6 HF
        have hold8 := heap_r0 w8 (.cells #[.int .i64 0, .int .i64 0, .int .i64 0, .int .i64 0, .int .i64 0] TPl)
        have b9 := below1 w8 (.cells #[.int .i64 xm, .int .i64 Q.type, .int .i64 (P.off + Q.off), .int .i64 Q.bit, .int .i64 Q.bits] TPl)
        have N9 := heap_r0 w8 (.cells #[.int .i64 xm, .int .i64 Q.type, .int .i64 (P.off + Q.off), .int .i64 Q.bit, .int .i64 Q.bits] TPl)
        have H9 : Hid (Below w.heap.size w (w8.alloc (.cells #[.int .i64 xm, .int .i64 Q.type, .int .i64 (P.off + Q.off), .int .i64 Q.bit, .int .i64 Q.bits] TPl))) := (H5.out.trans (HB8.out.mono H5.out.size)).trans (b9.mono (Nat.le_trans H5.out.size HB8.out.size))
        have P9 := blk_b (blk_b G5.out HB8.out) b9
        have Q9 := blk_b (blk_b N5.out HB8.out) b9
        have p2 := Lib.cell_of_heap P9 2
        have q1 := Lib.cell_of_heap Q9 1
        have q2 := Lib.cell_of_heap Q9 2
        have q3 := Lib.cell_of_heap Q9 3
        have q4 := Lib.cell_of_heap Q9 4
        have r1 := Lib.cell_of_heap N9 1
        have r2 := Lib.cell_of_heap N9 2
        have r3 := Lib.cell_of_heap N9 3
        have r4 := Lib.cell_of_heap N9 4
        simp only [List.getElem?_toArray, List.getElem?_cons_zero, List.getElem?_cons_succ] at p2 q1 q2 q3 q4 r1 r2 r3 r4
        clear b9 N9 P9 Q9
        go_wp2_with (first | ((with_reducible apply step_store hold8); rfl; rfl; kernel_rfl; rfl; kernel_rfl; rw [World.setRow_alloc_new]) | fail)
        refine (HH.out _ H9.out).mono ?_
        rintro e wz ⟨rfl, hbz⟩
        have HZ : Hid (Below w.heap.size w wz) := hbz
        clear hbz
        go_wp2
        go_ret
        exact ⟨rfl, HZ.out⟩
  · have hd1 : (E != 0) = true := by simpa using hE
    clear HON
    go_wp2_with (first | ((with_reducible apply step_store hold2); rfl; rfl; kernel_rfl; rfl; kernel_rfl; rw [World.setRow_alloc_new]) | fail)
    refine (HH.out _ H3.out).mono ?_
    rintro e wz ⟨rfl, hbz⟩
    have HZ : Hid (Below w.heap.size w wz) := hbz
    clear hbz
    go_wp2
    go_ret
    exact ⟨rfl, HZ.out⟩
end
end Go.Proofs.Ytkobggbipoappaa
