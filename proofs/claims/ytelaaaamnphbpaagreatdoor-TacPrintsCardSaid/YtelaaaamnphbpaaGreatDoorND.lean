/- The given answer's Same. -/
import Derived.Test.YtelaaaamnphbpaaGreatDoorKL
namespace Go.Proofs.YtelaaaamnphbpaaGreatDoor
set_option maxHeartbeats 8000000
open Go.RowKit Go.Maps
set_option linter.unusedVariables false
set_option linter.unusedSimpArgs false
set_option maxRecDepth 100000
theorem neAr (k n : Int) (Y : World) : (binOp .neq TAr (.agg #[.int .i64 k, .int .u32 n]) (.agg #[.int .i64 k, .int .u32 n])).run Tryz.prog Y = .ok (.bool false) Y := by
 have hT : Tryz.prog.underlying TAr = some (.struct (Tryz.prog.fieldsOf TAr)) := by kernel_rfl
 have hp : Tryz.prog.stoodInHeld TAr = false := by kernel_rfl
 have h3 := Tryz.underlying37
 have h9 := Tryz.underlying38
 rw [run_neq_struct, run_equalIn_agg _ 9999 _ _ _ hT hp]
 simp only [Program.fieldsOf, Tryz.underlying40]
 go_simp
theorem sameB_refl (x : In) : sameB x x = true := by unfold sameB arEq; simp
theorem shrow12 {W : World} {g o : Nat} (x : In) (p : Option Addr) (c : Nat) (hg : g < W.heap.size) (hc : ∀ j, j < 12 → W.cell? ⟨g, o + j, none⟩ = (inCells x (.slice p x.args.length c))[j]?) :
 (∀ Y, SH W Y → Y.cell? ⟨g, o, none⟩ = some (.int .i64 x.op)) ∧ (∀ Y, SH W Y → Y.cell? ⟨g, o + 1, none⟩ = some (.int .i64 x.bin)) ∧ (∀ Y, SH W Y → Y.cell? ⟨g, o + 2, none⟩ = some (.int .i64 x.d)) ∧ (∀ Y, SH W Y → Y.cell? ⟨g, o + 3, none⟩ = some (.int .i64 x.a.kind)) ∧ (∀ Y, SH W Y → Y.cell? ⟨g, o + 4, none⟩ = some (.int .u32 x.a.n)) ∧ (∀ Y, SH W Y → Y.cell? ⟨g, o + 5, none⟩ = some (.int .i64 x.b.kind)) ∧ (∀ Y, SH W Y → Y.cell? ⟨g, o + 6, none⟩ = some (.int .u32 x.b.n)) ∧ (∀ Y, SH W Y → Y.cell? ⟨g, o + 7, none⟩ = some (.int .i64 x.n)) ∧ (∀ Y, SH W Y → Y.cell? ⟨g, o + 8, none⟩ = some (.int .i64 x.off)) ∧ (∀ Y, SH W Y → Y.cell? ⟨g, o + 9, none⟩ = some (.int .i64 x.width)) ∧ (∀ Y, SH W Y → Y.cell? ⟨g, o + 10, none⟩ = some (.bool x.sg)) ∧ (∀ Y, SH W Y → Y.cell? ⟨g, o + 11, none⟩ = some (.slice p x.args.length c)) :=
 ⟨fun Y h => (Below.cell h (p := ⟨g, _, none⟩) hg).trans (hc 0 (by omega)), fun Y h => (Below.cell h (p := ⟨g, _, none⟩) hg).trans (hc 1 (by omega)), fun Y h => (Below.cell h (p := ⟨g, _, none⟩) hg).trans (hc 2 (by omega)), fun Y h => (Below.cell h (p := ⟨g, _, none⟩) hg).trans (hc 3 (by omega)), fun Y h => (Below.cell h (p := ⟨g, _, none⟩) hg).trans (hc 4 (by omega)), fun Y h => (Below.cell h (p := ⟨g, _, none⟩) hg).trans (hc 5 (by omega)), fun Y h => (Below.cell h (p := ⟨g, _, none⟩) hg).trans (hc 6 (by omega)), fun Y h => (Below.cell h (p := ⟨g, _, none⟩) hg).trans (hc 7 (by omega)), fun Y h => (Below.cell h (p := ⟨g, _, none⟩) hg).trans (hc 8 (by omega)), fun Y h => (Below.cell h (p := ⟨g, _, none⟩) hg).trans (hc 9 (by omega)), fun Y h => (Below.cell h (p := ⟨g, _, none⟩) hg).trans (hc 10 (by omega)), fun Y h => (Below.cell h (p := ⟨g, _, none⟩) hg).trans (hc 11 (by omega))⟩
theorem shrow6 {W : World} {g o : Nat} (f : Fn) (hg : g < W.heap.size) (hc : ∀ j, j < 6 → W.cell? ⟨g, o + j, none⟩ = (fnC f)[j]?) :
 (∀ Y, SH W Y → Y.cell? ⟨g, o, none⟩ = some (.string f.nm)) ∧ (∀ Y, SH W Y → Y.cell? ⟨g, o + 1, none⟩ = some (.int .i64 f.pr)) ∧ (∀ Y, SH W Y → Y.cell? ⟨g, o + 2, none⟩ = some (.int .i64 f.tp)) ∧ (∀ Y, SH W Y → Y.cell? ⟨g, o + 3, none⟩ = some (.bool f.gv)) ∧ (∀ Y, SH W Y → Y.cell? ⟨g, o + 4, none⟩ = some (.slice f.sp f.sn f.sc)) ∧ (∀ Y, SH W Y → Y.cell? ⟨g, o + 5, none⟩ = some (.slice f.cp f.cn f.cc)) :=
 ⟨fun Y h => (Below.cell h (p := ⟨g, _, none⟩) hg).trans (hc 0 (by omega)), fun Y h => (Below.cell h (p := ⟨g, _, none⟩) hg).trans (hc 1 (by omega)), fun Y h => (Below.cell h (p := ⟨g, _, none⟩) hg).trans (hc 2 (by omega)), fun Y h => (Below.cell h (p := ⟨g, _, none⟩) hg).trans (hc 3 (by omega)), fun Y h => (Below.cell h (p := ⟨g, _, none⟩) hg).trans (hc 4 (by omega)), fun Y h => (Below.cell h (p := ⟨g, _, none⟩) hg).trans (hc 5 (by omega))⟩
section
variable {w : World}
theorem rSameT_c {x : In} {p1 p2 : Option Addr} {c1 c2 : Nat} (hA1 : ArgV w (.slice p1 x.args.length c1) x.args) (hA2 : ArgV w (.slice p2 x.args.length c2) x.args) (hl : x.args.length ≤ 9223372036854775806) :
 Calls Tryz.prog 59 #[.agg (inCells x (.slice p1 x.args.length c1)).toArray, .agg (inCells x (.slice p2 x.args.length c2)).toArray] w fun e w' => e = .returned (.bool true) ∧ Below w.heap.size w w' := by
 have b1 := below1 w (.cells (inCells x (.slice p1 x.args.length c1)).toArray TIn)
 have b2 := below1 (w.alloc (.cells (inCells x (.slice p1 x.args.length c1)).toArray TIn)) (.cells (inCells x (.slice p2 x.args.length c2)).toArray TIn)
 have N1 := blk_b (heap_r0 w (.cells (inCells x (.slice p1 x.args.length c1)).toArray TIn)) b2
 have N2 := heap_r0 (w.alloc (.cells (inCells x (.slice p1 x.args.length c1)).toArray TIn)) (.cells (inCells x (.slice p2 x.args.length c2)).toArray TIn)
 have hz : (w.alloc (.cells (inCells x (.slice p1 x.args.length c1)).toArray TIn)).heap.size = w.heap.size + 1 := by simp
 rw [hz] at N2
 have hb := b1.trans (b2.mono b1.size)
 obtain ⟨x0, x1, x2, x3, x4, x5, x6, x7, x8, x9, x10, x11⟩ := cells12 N1
 obtain ⟨y0, y1, y2, y3, y4, y5, y6, y7, y8, y9, y10, y11⟩ := cells12 N2
 have HB : Hid (Below w.heap.size w ((w.alloc (.cells (inCells x (.slice p1 x.args.length c1)).toArray TIn)).alloc (.cells (inCells x (.slice p2 x.args.length c2)).toArray TIn))) := hb
 have HN1 : Hid (_ = _) := N1
 have HN2 : Hid (_ = _) := N2
 have HA1 : Hid (∀ Y, Below w.heap.size w Y → ArgV Y (.slice p1 x.args.length c1) x.args) := fun Y hY => hA1.below hY
 have HA2 : Hid (∀ Y, Below w.heap.size w Y → ArgV Y (.slice p2 x.args.length c2) x.args) := fun Y hY => hA2.below hY
 have cS := rSame_c x x (.slice p1 x.args.length c1) (.slice p2 x.args.length c2) ((w.alloc (.cells (inCells x (.slice p1 x.args.length c1)).toArray TIn)).alloc (.cells (inCells x (.slice p2 x.args.length c2)).toArray TIn))
 rw [sameB_refl] at cS
 have nt := not_t
 have ne := neAr
 clear b1 b2 N1 N2 hb hz hA1 hA2
 go_enter Tryz.func59, Tryz.ntmps59
 go_upto_region 1 with (fail)
 refine (?_ : Code.wp _ _ _ _ ((w.alloc (.cells (inCells x (.slice p1 x.args.length c1)).toArray TIn)).alloc (.cells (inCells x (.slice p2 x.args.length c2)).toArray TIn)))
 generalize (w.alloc (.cells (inCells x (.slice p1 x.args.length c1)).toArray TIn)).alloc (.cells (inCells x (.slice p2 x.args.length c2)).toArray TIn) = W1 at *
 unfold inCells at cS
 have nn : (((x.args.length : Int)) != (x.args.length : Int)) = false := by simp
 go_wp2_with (first | (go_at_call 90; refine cS.mono ?_; rintro e w2 ⟨rfl, hb2⟩; have HB2 : Hid (Below w.heap.size w w2) := HB.out.trans (hb2.mono HB.out.size); have n1 := blk_b HN1.out hb2; have n2 := blk_b HN2.out hb2; have u11 : w2.cell? ⟨w.heap.size, 11, none⟩ = some (.slice p1 x.args.length c1) := (Lib.cell_of_heap n1 11).trans rfl; have v11 : w2.cell? ⟨w.heap.size + 1, 11, none⟩ = some (.slice p2 x.args.length c2) := (Lib.cell_of_heap n2 11).trans rfl; clear hb2 cS n1 n2) | fail)
 go_loopw [5] (fun iv wr => ∃ k : Nat, iv = .int .i64 k ∧ k ≤ x.args.length ∧ Hid (Below w2.heap.size w2 wr)) (fun iv _ => x.args.length - (intOf iv).toNat)
 case atStart => exact ⟨0, rfl, Nat.zero_le _, Below.refl _ _⟩
 case round =>
  obtain ⟨k, rfl, hk, HK⟩ := hrel
  have HBr : Hid (Below w.heap.size w wr) := HB2.out.trans (HK.out.mono HB2.out.size)
  have a1 := blk_cell u11 HK.out
  have a2 := blk_cell v11 HK.out
  by_cases hlt : k < x.args.length
  ·obtain ⟨a, ha⟩ : ∃ a, x.args[k]? = some a := ⟨_, List.getElem?_eq_getElem hlt⟩
   obtain ⟨_, _, e1, ⟨q1, _⟩, hr1⟩ := HA1.out wr HBr.out
   injection e1 with e1 _ e3
   subst e1 e3
   obtain ⟨_, _, e1, ⟨q2, _⟩, hr2⟩ := HA2.out wr HBr.out
   injection e1 with e1 _ e3
   subst e1 e3
   obtain ⟨g1, o1, rfl, hg1, hc1⟩ := hr1 k a ha
   obtain ⟨g2, o2, rfl, hg2, hc2⟩ := hr2 k a ha
   have z0 := hc1 0 (by omega)
   have z1 := hc1 1 (by omega)
   have t0 := hc2 0 (by omega)
   have t1 := hc2 1 (by omega)
   simp only [arCells, List.getElem?_cons_zero, List.getElem?_cons_succ, Nat.add_zero] at z0 z1 t0 t1
   clear hr1 hr2 hc1 hc2 ha
   go_upto_region 6 with (fail)
   go_quiet (fail)
   go_wp2
   exact ⟨⟨k + 1, by go_num, by omega, by show Below _ _ _; exact HK.out.trans (below_drewN _ wr _)⟩, by simp [intOf]; omega⟩
  ·obtain rfl : k = x.args.length := by omega
   go_wp2
   go_ret
   exact ⟨rfl, HBr.out⟩
end
end Go.Proofs.YtelaaaamnphbpaaGreatDoor
namespace Go.Proofs.YtelaaaamnphbpaaGreatDoor
set_option maxHeartbeats 8000000
open Go.RowKit Go.Maps
set_option linter.unusedVariables false
set_option linter.unusedSimpArgs false
set_option maxRecDepth 100000
section
variable {w : World}
theorem rSameF_c {x y : In} {p1 p2 : Option Addr} {n1 n2 c1 c2 : Nat} (h : (sameB x y && decide (n1 = n2)) = false) :
 Calls Tryz.prog 59 #[.agg (inCells x (.slice p1 n1 c1)).toArray, .agg (inCells y (.slice p2 n2 c2)).toArray] w fun e w' => e = .returned (.bool false) ∧ Below w.heap.size w w' := by
 have b1 := below1 w (.cells (inCells x (.slice p1 n1 c1)).toArray TIn)
 have b2 := below1 (w.alloc (.cells (inCells x (.slice p1 n1 c1)).toArray TIn)) (.cells (inCells y (.slice p2 n2 c2)).toArray TIn)
 have N1 := blk_b (heap_r0 w (.cells (inCells x (.slice p1 n1 c1)).toArray TIn)) b2
 have N2 := heap_r0 (w.alloc (.cells (inCells x (.slice p1 n1 c1)).toArray TIn)) (.cells (inCells y (.slice p2 n2 c2)).toArray TIn)
 have hz : (w.alloc (.cells (inCells x (.slice p1 n1 c1)).toArray TIn)).heap.size = w.heap.size + 1 := by simp
 rw [hz] at N2
 have hb := b1.trans (b2.mono b1.size)
 obtain ⟨x0, x1, x2, x3, x4, x5, x6, x7, x8, x9, x10, x11⟩ := cells12 N1
 obtain ⟨y0, y1, y2, y3, y4, y5, y6, y7, y8, y9, y10, y11⟩ := cells12 N2
 have HB : Hid (Below w.heap.size w ((w.alloc (.cells (inCells x (.slice p1 n1 c1)).toArray TIn)).alloc (.cells (inCells y (.slice p2 n2 c2)).toArray TIn))) := hb
 have HN1 : Hid (_ = _) := N1
 have HN2 : Hid (_ = _) := N2
 have cS := rSame_c x y (.slice p1 n1 c1) (.slice p2 n2 c2) ((w.alloc (.cells (inCells x (.slice p1 n1 c1)).toArray TIn)).alloc (.cells (inCells y (.slice p2 n2 c2)).toArray TIn))
 have nt := not_t
 have nf := not_f
 obtain ⟨SB, hSB⟩ : ∃ b, b = sameB x y := ⟨_, rfl⟩
 rw [← hSB] at cS h
 clear b1 b2 N1 N2 hb hz hSB
 cases SB with
 | false =>
  clear h
  go_enter Tryz.func59, Tryz.ntmps59
  go_upto_region 1 with (fail)
  refine (?_ : Code.wp _ _ _ _ ((w.alloc (.cells (inCells x (.slice p1 n1 c1)).toArray TIn)).alloc (.cells (inCells y (.slice p2 n2 c2)).toArray TIn)))
  generalize (w.alloc (.cells (inCells x (.slice p1 n1 c1)).toArray TIn)).alloc (.cells (inCells y (.slice p2 n2 c2)).toArray TIn) = W1 at *
  unfold inCells at cS
  go_wp2_with (first | (go_at_call 90; refine cS.mono ?_; rintro e w2 ⟨rfl, hb2⟩; have HB2 : Hid (Below w.heap.size w w2) := HB.out.trans (hb2.mono HB.out.size); clear hb2 cS) | fail)
  go_ret
  exact ⟨rfl, HB2.out⟩
 | true =>
  have hne : n1 ≠ n2 := by simpa using h
  have nn : ((n1 : Int) != (n2 : Int)) = true := by simp; omega
  clear h hne
  go_enter Tryz.func59, Tryz.ntmps59
  go_upto_region 1 with (fail)
  refine (?_ : Code.wp _ _ _ _ ((w.alloc (.cells (inCells x (.slice p1 n1 c1)).toArray TIn)).alloc (.cells (inCells y (.slice p2 n2 c2)).toArray TIn)))
  generalize (w.alloc (.cells (inCells x (.slice p1 n1 c1)).toArray TIn)).alloc (.cells (inCells y (.slice p2 n2 c2)).toArray TIn) = W1 at *
  unfold inCells at cS
  go_wp2_with (first | (go_at_call 90; refine cS.mono ?_; rintro e w2 ⟨rfl, hb2⟩; have HB2 : Hid (Below w.heap.size w w2) := HB.out.trans (hb2.mono HB.out.size); have n1' := blk_b HN1.out hb2; have n2' := blk_b HN2.out hb2; have u11 : w2.cell? ⟨w.heap.size, 11, none⟩ = some (.slice p1 n1 c1) := (Lib.cell_of_heap n1' 11).trans rfl; have v11 : w2.cell? ⟨w.heap.size + 1, 11, none⟩ = some (.slice p2 n2 c2) := (Lib.cell_of_heap n2' 11).trans rfl; clear hb2 cS n1' n2') | fail)
  go_ret
  exact ⟨rfl, HB2.out⟩
end
end Go.Proofs.YtelaaaamnphbpaaGreatDoor