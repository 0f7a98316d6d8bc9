/-
  The given answer's Prog: two programs without objects that are the same.
  The given answer's Same: two instructions that are the same.
  The given answer's Func: two functions that are the same.
-/
import Derived.Test.YtaaphipbkpjkjaaGreatDoorKL
import Derived.Deep.RegionHeld3
import Derived.Test.YtaaphipbkpjkjaaGreatDoorKK
namespace Go.Proofs.YtaaphipbkpjkjaaGreatDoor
open Go.RowKit Go.Maps
set_option linter.unusedVariables false
set_option linter.unusedSimpArgs false
set_option maxRecDepth 100000
theorem neAr (k n : Int) (Y : World) : (binOp .neq TAr (.agg #[.int .i64 k, .int .u32 n]) (.agg #[.int .i64 k, .int .u32 n])).run Tryz.prog Y = .ok (.bool false) Y := by
  have hT : Tryz.prog.underlying TAr = some (.struct (Tryz.prog.fieldsOf TAr)) := by kernel_rfl
  have hp : Tryz.prog.stoodInHeld TAr = false := by kernel_rfl
  have h3 := Tryz.underlying37
  have h9 := Tryz.underlying38
  rw [run_neq_struct, run_equalIn_agg _ 9999 _ _ _ hT hp]
  simp only [Program.fieldsOf, Tryz.underlying40]
  go_simp
theorem sameB_refl (x : In) : sameB x x = true := by unfold sameB arEq; simp
theorem shrow12 {W : World} {g o : Nat} (x : In) (p : Option Addr) (c : Nat) (hg : g < W.heap.size) (hc : ∀ j, j < 12 → W.cell? ⟨g, o + j, none⟩ = (inCells x (.slice p x.args.length c))[j]?) :
    (∀ Y, SH W Y → Y.cell? ⟨g, o, none⟩ = some (.int .i64 x.op)) ∧ (∀ Y, SH W Y → Y.cell? ⟨g, o + 1, none⟩ = some (.int .i64 x.bin)) ∧ (∀ Y, SH W Y → Y.cell? ⟨g, o + 2, none⟩ = some (.int .i64 x.d)) ∧ (∀ Y, SH W Y → Y.cell? ⟨g, o + 3, none⟩ = some (.int .i64 x.a.kind)) ∧ (∀ Y, SH W Y → Y.cell? ⟨g, o + 4, none⟩ = some (.int .u32 x.a.n)) ∧ (∀ Y, SH W Y → Y.cell? ⟨g, o + 5, none⟩ = some (.int .i64 x.b.kind)) ∧ (∀ Y, SH W Y → Y.cell? ⟨g, o + 6, none⟩ = some (.int .u32 x.b.n)) ∧ (∀ Y, SH W Y → Y.cell? ⟨g, o + 7, none⟩ = some (.int .i64 x.n)) ∧ (∀ Y, SH W Y → Y.cell? ⟨g, o + 8, none⟩ = some (.int .i64 x.off)) ∧ (∀ Y, SH W Y → Y.cell? ⟨g, o + 9, none⟩ = some (.int .i64 x.width)) ∧ (∀ Y, SH W Y → Y.cell? ⟨g, o + 10, none⟩ = some (.bool x.sg)) ∧ (∀ Y, SH W Y → Y.cell? ⟨g, o + 11, none⟩ = some (.slice p x.args.length c)) :=
  ⟨fun Y h => (Below.cell h (p := ⟨g, _, none⟩) hg).trans (hc 0 (by omega)), fun Y h => (Below.cell h (p := ⟨g, _, none⟩) hg).trans (hc 1 (by omega)), fun Y h => (Below.cell h (p := ⟨g, _, none⟩) hg).trans (hc 2 (by omega)), fun Y h => (Below.cell h (p := ⟨g, _, none⟩) hg).trans (hc 3 (by omega)), fun Y h => (Below.cell h (p := ⟨g, _, none⟩) hg).trans (hc 4 (by omega)), fun Y h => (Below.cell h (p := ⟨g, _, none⟩) hg).trans (hc 5 (by omega)), fun Y h => (Below.cell h (p := ⟨g, _, none⟩) hg).trans (hc 6 (by omega)), fun Y h => (Below.cell h (p := ⟨g, _, none⟩) hg).trans (hc 7 (by omega)), fun Y h => (Below.cell h (p := ⟨g, _, none⟩) hg).trans (hc 8 (by omega)), fun Y h => (Below.cell h (p := ⟨g, _, none⟩) hg).trans (hc 9 (by omega)), fun Y h => (Below.cell h (p := ⟨g, _, none⟩) hg).trans (hc 10 (by omega)), fun Y h => (Below.cell h (p := ⟨g, _, none⟩) hg).trans (hc 11 (by omega))⟩
theorem shrow6 {W : World} {g o : Nat} (f : Fn) (hg : g < W.heap.size) (hc : ∀ j, j < 6 → W.cell? ⟨g, o + j, none⟩ = (fnC f)[j]?) :
    (∀ Y, SH W Y → Y.cell? ⟨g, o, none⟩ = some (.string f.nm)) ∧ (∀ Y, SH W Y → Y.cell? ⟨g, o + 1, none⟩ = some (.int .i64 f.pr)) ∧ (∀ Y, SH W Y → Y.cell? ⟨g, o + 2, none⟩ = some (.int .i64 f.tp)) ∧ (∀ Y, SH W Y → Y.cell? ⟨g, o + 3, none⟩ = some (.bool f.gv)) ∧ (∀ Y, SH W Y → Y.cell? ⟨g, o + 4, none⟩ = some (.slice f.sp f.sn f.sc)) ∧ (∀ Y, SH W Y → Y.cell? ⟨g, o + 5, none⟩ = some (.slice f.cp f.cn f.cc)) :=
  ⟨fun Y h => (Below.cell h (p := ⟨g, _, none⟩) hg).trans (hc 0 (by omega)), fun Y h => (Below.cell h (p := ⟨g, _, none⟩) hg).trans (hc 1 (by omega)), fun Y h => (Below.cell h (p := ⟨g, _, none⟩) hg).trans (hc 2 (by omega)), fun Y h => (Below.cell h (p := ⟨g, _, none⟩) hg).trans (hc 3 (by omega)), fun Y h => (Below.cell h (p := ⟨g, _, none⟩) hg).trans (hc 4 (by omega)), fun Y h => (Below.cell h (p := ⟨g, _, none⟩) hg).trans (hc 5 (by omega))⟩
section
variable {w : World}
set_option maxHeartbeats 8000000 in
theorem rSameT_c {x : In} {p1 p2 : Option Addr} {c1 c2 : Nat} (hA1 : ArgV w (.slice p1 x.args.length c1) x.args) (hA2 : ArgV w (.slice p2 x.args.length c2) x.args) (hl : x.args.length ≤ 9223372036854775806) :
    Calls Tryz.prog 59 #[.agg (inCells x (.slice p1 x.args.length c1)).toArray, .agg (inCells x (.slice p2 x.args.length c2)).toArray] w fun e w' => e = .returned (.bool true) ∧ Below w.heap.size w w' := by
  have b1 := below1 w (.cells (inCells x (.slice p1 x.args.length c1)).toArray TIn)
  have b2 := below1 (w.alloc (.cells (inCells x (.slice p1 x.args.length c1)).toArray TIn)) (.cells (inCells x (.slice p2 x.args.length c2)).toArray TIn)
  have N1 := blk_b (heap_r0 w (.cells (inCells x (.slice p1 x.args.length c1)).toArray TIn)) b2
  have N2 := heap_r0 (w.alloc (.cells (inCells x (.slice p1 x.args.length c1)).toArray TIn)) (.cells (inCells x (.slice p2 x.args.length c2)).toArray TIn)
  have hz : (w.alloc (.cells (inCells x (.slice p1 x.args.length c1)).toArray TIn)).heap.size = w.heap.size + 1 := by simp
  rw [hz] at N2
  have hb := b1.trans (b2.mono b1.size)
  obtain ⟨x0, x1, x2, x3, x4, x5, x6, x7, x8, x9, x10, x11⟩ := cells12 N1
  obtain ⟨y0, y1, y2, y3, y4, y5, y6, y7, y8, y9, y10, y11⟩ := cells12 N2
  have HB : Hid (Below w.heap.size w ((w.alloc (.cells (inCells x (.slice p1 x.args.length c1)).toArray TIn)).alloc (.cells (inCells x (.slice p2 x.args.length c2)).toArray TIn))) := hb
  have HN1 : Hid (_ = _) := N1
  have HN2 : Hid (_ = _) := N2
  have HA1 : Hid (∀ Y, Below w.heap.size w Y → ArgV Y (.slice p1 x.args.length c1) x.args) := fun Y hY => hA1.below hY
  have HA2 : Hid (∀ Y, Below w.heap.size w Y → ArgV Y (.slice p2 x.args.length c2) x.args) := fun Y hY => hA2.below hY
  have cS := rSame_c x x (.slice p1 x.args.length c1) (.slice p2 x.args.length c2) ((w.alloc (.cells (inCells x (.slice p1 x.args.length c1)).toArray TIn)).alloc (.cells (inCells x (.slice p2 x.args.length c2)).toArray TIn))
  rw [sameB_refl] at cS
  have nt := not_t
  have ne := neAr
  clear b1 b2 N1 N2 hb hz hA1 hA2
  go_enter Tryz.func59, Tryz.ntmps59
  go_upto_region 1 with (fail)
  refine (?_ : Code.wp _ _ _ _ ((w.alloc (.cells (inCells x (.slice p1 x.args.length c1)).toArray TIn)).alloc (.cells (inCells x (.slice p2 x.args.length c2)).toArray TIn)))
  generalize (w.alloc (.cells (inCells x (.slice p1 x.args.length c1)).toArray TIn)).alloc (.cells (inCells x (.slice p2 x.args.length c2)).toArray TIn) = W1 at *
  unfold inCells at cS
  have nn : (((x.args.length : Int)) != (x.args.length : Int)) = false := by simp
  go_wp2_with (first | (go_at_call 90; refine cS.mono ?_; rintro e w2 ⟨rfl, hb2⟩; have HB2 : Hid (Below w.heap.size w w2) := HB.out.trans (hb2.mono HB.out.size); have n1 := blk_b HN1.out hb2; have n2 := blk_b HN2.out hb2; have u11 : w2.cell? ⟨w.heap.size, 11, none⟩ = some (.slice p1 x.args.length c1) := (Lib.cell_of_heap n1 11).trans rfl; have v11 : w2.cell? ⟨w.heap.size + 1, 11, none⟩ = some (.slice p2 x.args.length c2) := (Lib.cell_of_heap n2 11).trans rfl; clear hb2 cS n1 n2) | fail)
  go_loopw [5] (fun iv wr => ∃ k : Nat, iv = .int .i64 k ∧ k ≤ x.args.length ∧ Hid (Below w2.heap.size w2 wr)) (fun iv _ => x.args.length - (intOf iv).toNat)
  case atStart => exact ⟨0, rfl, Nat.zero_le _, Below.refl _ _⟩
  case round =>
    obtain ⟨k, rfl, hk, HK⟩ := hrel
    have HBr : Hid (Below w.heap.size w wr) := HB2.out.trans (HK.out.mono HB2.out.size)
    have a1 := blk_cell u11 HK.out
    have a2 := blk_cell v11 HK.out
    by_cases hlt : k < x.args.length
    · obtain ⟨a, ha⟩ : ∃ a, x.args[k]? = some a := ⟨_, List.getElem?_eq_getElem hlt⟩
      obtain ⟨_, _, e1, ⟨q1, _⟩, hr1⟩ := HA1.out wr HBr.out
      injection e1 with e1 _ e3
      subst e1 e3
      obtain ⟨_, _, e1, ⟨q2, _⟩, hr2⟩ := HA2.out wr HBr.out
      injection e1 with e1 _ e3
      subst e1 e3
      obtain ⟨g1, o1, rfl, hg1, hc1⟩ := hr1 k a ha
      obtain ⟨g2, o2, rfl, hg2, hc2⟩ := hr2 k a ha
      have z0 := hc1 0 (by omega)
      have z1 := hc1 1 (by omega)
      have t0 := hc2 0 (by omega)
      have t1 := hc2 1 (by omega)
      simp only [arCells, List.getElem?_cons_zero, List.getElem?_cons_succ, Nat.add_zero] at z0 z1 t0 t1
      clear hr1 hr2 hc1 hc2 ha
      go_upto_region 6 with (fail)
      go_quiet (fail)
      go_wp2
      exact ⟨⟨k + 1, by go_num, by omega, by show Below _ _ _; exact HK.out.trans (below_drewN _ wr _)⟩, by simp [intOf]; omega⟩
    · obtain rfl : k = x.args.length := by omega
      go_wp2
      go_ret
      exact ⟨rfl, HBr.out⟩
end
end Go.Proofs.YtaaphipbkpjkjaaGreatDoor
namespace Go.Proofs.YtaaphipbkpjkjaaGreatDoor
open Go.RowKit Go.Maps
set_option linter.unusedVariables false
set_option linter.unusedSimpArgs false
set_option maxRecDepth 100000
theorem neSl (a b : Int) (Y : World) : (binOp .neq TSl (.agg #[.int .i64 a, .int .i64 b]) (.agg #[.int .i64 a, .int .i64 b])).run Tryz.prog Y = .ok (.bool false) Y := by
  have hT : Tryz.prog.underlying TSl = some (.struct (Tryz.prog.fieldsOf TSl)) := by kernel_rfl
  have hp : Tryz.prog.stoodInHeld TSl = false := by kernel_rfl
  have h3 := Tryz.underlying3
  rw [run_neq_struct, run_equalIn_agg _ 9999 _ _ _ hT hp]
  simp only [Program.fieldsOf, Tryz.underlying94]
  go_simp
section
variable {w : World}
set_option maxHeartbeats 16000000 in
theorem rFuncT_c {nm : ByteArray} {pr tp : Int} {gv : Bool} {sls : List Slt} {c1 c2 : List Iw} {s1 s2 k1 k2 : Option Addr} {t1 t2 l1 l2 : Nat} (hs1 : RowV slC 2 w s1 t1 sls) (hs2 : RowV slC 2 w s2 t2 sls) (hsl : sls.length ≤ 9223372036854775806)
    (hk1 : RowV iwC 12 w k1 l1 c1) (hk2 : RowV iwC 12 w k2 l2 c2) (hcl : c1.length ≤ 9223372036854775806) (he : c1.map Iw.x = c2.map Iw.x) (hi1 : ∀ i ∈ c1, InOK w i.x i.xp i.xc) (hi2 : ∀ i ∈ c2, InOK w i.x i.xp i.xc) :
    Calls Tryz.prog 37 #[.agg #[.string nm, .int .i64 pr, .int .i64 tp, .bool gv, .slice s1 sls.length t1, .slice k1 c1.length l1], .agg #[.string nm, .int .i64 pr, .int .i64 tp, .bool gv, .slice s2 sls.length t2, .slice k2 c1.length l2]] w fun e w' => e = .returned (.bool true) ∧ Below w.heap.size w w' := by
  have hcc : c1.length = c2.length := by have := congrArg List.length he; simpa using this
  have b1 := below1 w (.cells #[.string nm, .int .i64 pr, .int .i64 tp, .bool gv, .slice s1 sls.length t1, .slice k1 c1.length l1] TFn)
  have b2 := below1 (w.alloc (.cells #[.string nm, .int .i64 pr, .int .i64 tp, .bool gv, .slice s1 sls.length t1, .slice k1 c1.length l1] TFn)) (.cells #[.string nm, .int .i64 pr, .int .i64 tp, .bool gv, .slice s2 sls.length t2, .slice k2 c1.length l2] TFn)
  have N1 := blk_b (heap_r0 w (.cells #[.string nm, .int .i64 pr, .int .i64 tp, .bool gv, .slice s1 sls.length t1, .slice k1 c1.length l1] TFn)) b2
  have N2 := heap_r0 (w.alloc (.cells #[.string nm, .int .i64 pr, .int .i64 tp, .bool gv, .slice s1 sls.length t1, .slice k1 c1.length l1] TFn)) (.cells #[.string nm, .int .i64 pr, .int .i64 tp, .bool gv, .slice s2 sls.length t2, .slice k2 c1.length l2] TFn)
  have hz : (w.alloc (.cells #[.string nm, .int .i64 pr, .int .i64 tp, .bool gv, .slice s1 sls.length t1, .slice k1 c1.length l1] TFn)).heap.size = w.heap.size + 1 := by simp
  rw [hz] at N2
  have HB : Hid (Below w.heap.size w ((w.alloc (.cells #[.string nm, .int .i64 pr, .int .i64 tp, .bool gv, .slice s1 sls.length t1, .slice k1 c1.length l1] TFn)).alloc (.cells #[.string nm, .int .i64 pr, .int .i64 tp, .bool gv, .slice s2 sls.length t2, .slice k2 c1.length l2] TFn))) := b1.trans (b2.mono b1.size)
  have x0 := (Lib.cell_of_heap N1 0).trans rfl
  have x1 := (Lib.cell_of_heap N1 1).trans rfl
  have x2 := (Lib.cell_of_heap N1 2).trans rfl
  have x3 := (Lib.cell_of_heap N1 3).trans rfl
  have x4 := (Lib.cell_of_heap N1 4).trans rfl
  have x5 := (Lib.cell_of_heap N1 5).trans rfl
  have y0 := (Lib.cell_of_heap N2 0).trans rfl
  have y1 := (Lib.cell_of_heap N2 1).trans rfl
  have y2 := (Lib.cell_of_heap N2 2).trans rfl
  have y3 := (Lib.cell_of_heap N2 3).trans rfl
  have y4 := (Lib.cell_of_heap N2 4).trans rfl
  have y5 := (Lib.cell_of_heap N2 5).trans rfl
  have HS1 : Hid (∀ Y, Below w.heap.size w Y → RowV slC 2 Y s1 t1 sls) := fun Y hY => hs1.below hY
  have HS2 : Hid (∀ Y, Below w.heap.size w Y → RowV slC 2 Y s2 t2 sls) := fun Y hY => hs2.below hY
  have HK1 : Hid (∀ Y, Below w.heap.size w Y → RowV iwC 12 Y k1 l1 c1) := fun Y hY => hk1.below hY
  have HK2 : Hid (∀ Y, Below w.heap.size w Y → RowV iwC 12 Y k2 l2 c2) := fun Y hY => hk2.below hY
  have HI1 : Hid (∀ i ∈ c1, InOK w i.x i.xp i.xc) := hi1
  have HI2 : Hid (∀ i ∈ c2, InOK w i.x i.xp i.xc) := hi2
  have HE : Hid (c1.map Iw.x = c2.map Iw.x) := he
  have HCC : Hid (c1.length = c2.length) := hcc
  have nn1 : (!nm.toList == nm.toList) = false := by simp
  have nn2 : (pr != pr) = false := by simp
  have nn3 : (tp != tp) = false := by simp
  have nn4 : (gv != gv) = false := by simp
  have nn5 : ((sls.length : Int) != (sls.length : Int)) = false := by simp
  have nn6 : ((c1.length : Int) != (c1.length : Int)) = false := by simp
  have ne := neSl
  clear b1 b2 N1 N2 hz hs1 hs2 hk1 hk2 he hi1 hi2 hcc
  go_enter Tryz.func37, Tryz.ntmps37
  go_upto_region 1 with (fail)
  refine (?_ : Code.wp _ _ _ _ ((w.alloc (.cells #[.string nm, .int .i64 pr, .int .i64 tp, .bool gv, .slice s1 sls.length t1, .slice k1 c1.length l1] TFn)).alloc (.cells #[.string nm, .int .i64 pr, .int .i64 tp, .bool gv, .slice s2 sls.length t2, .slice k2 c1.length l2] TFn)))
  generalize (w.alloc (.cells #[.string nm, .int .i64 pr, .int .i64 tp, .bool gv, .slice s1 sls.length t1, .slice k1 c1.length l1] TFn)).alloc (.cells #[.string nm, .int .i64 pr, .int .i64 tp, .bool gv, .slice s2 sls.length t2, .slice k2 c1.length l2] TFn) = W1 at *
  go_wp2
  clear nn1 nn2 nn3 nn4 nn5 nn6 x0 x1 x2 x3 y0 y1 y2 y3
  go_loopw [5] (fun iv wr => ∃ k : Nat, iv = .int .i64 k ∧ k ≤ sls.length ∧ Hid (Below W1.heap.size W1 wr)) (fun iv _ => sls.length - (intOf iv).toNat)
  case atStart => exact ⟨0, rfl, Nat.zero_le _, Below.refl _ _⟩
  case round =>
    obtain ⟨k, rfl, hk, HK⟩ := hrel
    have HBr : Hid (Below w.heap.size w wr) := HB.out.trans (HK.out.mono HB.out.size)
    have a1 := blk_cell x4 HK.out
    have a2 := blk_cell y4 HK.out
    by_cases hlt : k < sls.length
    · obtain ⟨a, ha⟩ : ∃ a, sls[k]? = some a := ⟨_, List.getElem?_eq_getElem hlt⟩
      obtain ⟨g1, o1, rfl, hg1, hc1⟩ := (HS1.out wr HBr.out).2 k a ha
      obtain ⟨g2, o2, rfl, hg2, hc2⟩ := (HS2.out wr HBr.out).2 k a ha
      have q1 := (HS1.out wr HBr.out).1.1
      have q2 := (HS2.out wr HBr.out).1.1
      have z0 := hc1 0 (by omega)
      have z1 := hc1 1 (by omega)
      have t0 := hc2 0 (by omega)
      have t1 := hc2 1 (by omega)
      simp only [slC, List.getElem?_cons_zero, List.getElem?_cons_succ, Nat.add_zero] at z0 z1 t0 t1
      clear hc1 hc2 ha
      go_upto_region 6 with (fail)
      go_quiet (fail)
      go_wp2
      exact ⟨⟨k + 1, by go_num, by omega, by show Below _ _ _; exact HK.out.trans (below_drewN _ wr _)⟩, by simp [intOf]; omega⟩
    · obtain ⟨W7, hW7⟩ : ∃ W7, W7 = wr := ⟨_, rfl⟩
      have b5 := blk_cell x5 HK.out
      have d5 := blk_cell y5 HK.out
      have hge : ¬ ((k : Int) < (sls.length : Int)) := by omega
      rw [← hW7] at HK HBr a1 a2 b5 d5 ⊢
      clear hW7 x4 y4 x5 y5
      go_wp2
      go_loopw [6] (fun iv wr => ∃ k : Nat, iv = .int .i64 k ∧ k ≤ c1.length ∧ Hid (Below W7.heap.size W7 wr)) (fun iv _ => c1.length - (intOf iv).toNat)
      case atStart => exact ⟨0, rfl, Nat.zero_le _, Below.refl _ _⟩
      case round =>
        rename World => wr
        obtain ⟨k, rfl, hk, HK2'⟩ := hrel
        have HB9 : Hid (Below w.heap.size w wr) := HBr.out.trans (HK2'.out.mono HBr.out.size)
        have e1 := blk_cell b5 HK2'.out
        have e2 := blk_cell d5 HK2'.out
        by_cases hlt : k < c1.length
        · obtain ⟨r, hr⟩ : ∃ r, c1[k]? = some r := ⟨_, List.getElem?_eq_getElem hlt⟩
          obtain ⟨r2, hr2, hxe⟩ : ∃ r2, c2[k]? = some r2 ∧ r2.x = r.x := by
            have h1 : (c1.map Iw.x)[k]? = some r.x := by rw [List.getElem?_map, hr]; rfl
            rw [HE.out, List.getElem?_map] at h1
            obtain ⟨r2, h2, h3⟩ := Option.map_eq_some_iff.1 h1
            exact ⟨r2, h2, h3⟩
          obtain ⟨rx, rp, rc⟩ := r
          obtain ⟨qx, qp, qc⟩ := r2
          simp only at hxe
          subst hxe
          obtain ⟨g1, o1, hk1e, hg1, hc1⟩ := (HK1.out wr HB9.out).2 k _ hr
          obtain ⟨g2, o2, hk2e, hg2, hc2⟩ := (HK2.out wr HB9.out).2 k _ hr2
          subst hk1e hk2e
          have q1 := (HK1.out wr HB9.out).1.1
          have q2 := (HK2.out wr HB9.out).1.1
          rw [← HCC.out] at q2
          have E1 : ∀ Y, SH wr Y → Y.cell? ⟨w.heap.size, 5, none⟩ = some (.slice (some ⟨g1, o1, none⟩) c1.length l1) := fun Y h => blk_cell e1 h
          have E2 : ∀ Y, SH wr Y → Y.cell? ⟨w.heap.size + 1, 5, none⟩ = some (.slice (some ⟨g2, o2, none⟩) c1.length l2) := fun Y h => blk_cell e2 h
          obtain ⟨m1_0, m1_1, m1_2, m1_3, m1_4, m1_5, m1_6, m1_7, m1_8, m1_9, m1_10, m1_11⟩ := shrow12 qx rp rc hg1 hc1
          obtain ⟨m2_0, m2_1, m2_2, m2_3, m2_4, m2_5, m2_6, m2_7, m2_8, m2_9, m2_10, m2_11⟩ := shrow12 qx qp qc hg2 hc2
          have CS : Hid (∀ Y, SH wr Y → Calls Tryz.prog 59 #[.agg #[.int .i64 qx.op, .int .i64 qx.bin, .int .i64 qx.d, .int .i64 qx.a.kind, .int .u32 qx.a.n, .int .i64 qx.b.kind, .int .u32 qx.b.n, .int .i64 qx.n, .int .i64 qx.off, .int .i64 qx.width, .bool qx.sg, .slice rp qx.args.length rc], .agg #[.int .i64 qx.op, .int .i64 qx.bin, .int .i64 qx.d, .int .i64 qx.a.kind, .int .u32 qx.a.n, .int .i64 qx.b.kind, .int .u32 qx.b.n, .int .i64 qx.n, .int .i64 qx.off, .int .i64 qx.width, .bool qx.sg, .slice qp qx.args.length qc]] Y fun e w' => e = .returned (.bool true) ∧ Below Y.heap.size Y w') := fun Y h => rSameT_c ((HI1.out _ (List.mem_of_getElem? hr)).ar.below (HB9.out.trans (Below.mono h HB9.out.size))) ((HI2.out _ (List.mem_of_getElem? hr2)).ar.below (HB9.out.trans (Below.mono h HB9.out.size))) (HI1.out _ (List.mem_of_getElem? hr)).al
          have nt := not_t
          have HSH : SH wr wr := Below.refl _ _
          clear hc1 hc2 hr hr2 e1 e2
          go_upto_region 11 with (fail)
          go_region_held3 (fun Y => SH wr Y) (with_reducible first | assumption | (refine SH.drew ?_; assumption) | (refine SH.below ?_ (by assumption); assumption)) (first
            | (go_at_call 59; refine (CS.out _ ?_).mono ?_; (with_reducible first | assumption | (refine SH.drew ?_; assumption)); rintro e y1 ⟨rfl, hy1⟩))
          all_goals go_wp2_with fail
          exact ⟨⟨k + 1, by go_num, by omega, HK2'.out.trans (Below.mono (SH.below (SH.drew HSH) hy1) HK2'.out.size)⟩, by simp [intOf]; omega⟩
        · have hge : ¬ ((k : Int) < (c1.length : Int)) := by omega
          go_wp2
          go_ret
          exact ⟨rfl, HB9.out⟩
end
end Go.Proofs.YtaaphipbkpjkjaaGreatDoor
namespace Go.Proofs.YtaaphipbkpjkjaaGreatDoor
open Go.RowKit Go.Maps
set_option linter.unusedVariables false
set_option linter.unusedSimpArgs false
set_option maxRecDepth 100000
/-- Two functions that are the same, wherever their rows lie. -/
structure FgEq (a b : Fg) : Prop where
  nm : b.f.nm = a.f.nm
  pr : b.f.pr = a.f.pr
  tp : b.f.tp = a.f.tp
  gv : b.f.gv = a.f.gv
  sl : b.sls = a.sls
  co : a.code.map Iw.x = b.code.map Iw.x
section
variable {w : World}
theorem rFuncE_c {a b : Fg} (he : FgEq a b) (ha : FgOK w a) (hb : FgOK w b) :
    Calls Tryz.prog 37 #[.agg #[.string a.f.nm, .int .i64 a.f.pr, .int .i64 a.f.tp, .bool a.f.gv, .slice a.f.sp a.f.sn a.f.sc, .slice a.f.cp a.f.cn a.f.cc], .agg #[.string b.f.nm, .int .i64 b.f.pr, .int .i64 b.f.tp, .bool b.f.gv, .slice b.f.sp b.f.sn b.f.sc, .slice b.f.cp b.f.cn b.f.cc]] w fun e w' => e = .returned (.bool true) ∧ Below w.heap.size w w' := by
  have hcc : b.code.length = a.code.length := by have := congrArg List.length he.co; simpa using this.symm
  have hs2 := hb.sl
  rw [he.sl] at hs2
  rw [he.nm, he.pr, he.tp, he.gv, ha.sn, hb.sn, he.sl, ha.cn, hb.cn, hcc]
  exact rFuncT_c ha.sl hs2 ha.sm ha.cr hb.cr ha.cm he.co ha.ci hb.ci
set_option maxHeartbeats 16000000 in
theorem rProgT_c {mn : Int} {p1 p2 f1 f2 : Option Addr} {c1 c2 t1 t2 : Nat} {l1 l2 : List Fg} (hf1 : RowV fgC 6 w f1 t1 l1) (hf2 : RowV fgC 6 w f2 t2 l2) (hl : l1.length ≤ 9223372036854775806) (hll : l1.length = l2.length)
    (he : ∀ (k : Nat) (a b : Fg), l1[k]? = some a → l2[k]? = some b → FgEq a b) (hi1 : ∀ q ∈ l1, FgOK w q) (hi2 : ∀ q ∈ l2, FgOK w q) :
    Calls Tryz.prog 16 #[.agg #[.slice p1 0 c1, .slice f1 l1.length t1, .int .i64 mn], .agg #[.slice p2 0 c2, .slice f2 l1.length t2, .int .i64 mn]] w fun e w' => e = .returned (.bool true) ∧ Below w.heap.size w w' := by
  have b1 := below1 w (.cells #[.slice p1 0 c1, .slice f1 l1.length t1, .int .i64 mn] TPg)
  have b2 := below1 (w.alloc (.cells #[.slice p1 0 c1, .slice f1 l1.length t1, .int .i64 mn] TPg)) (.cells #[.slice p2 0 c2, .slice f2 l1.length t2, .int .i64 mn] TPg)
  have N1 := blk_b (heap_r0 w (.cells #[.slice p1 0 c1, .slice f1 l1.length t1, .int .i64 mn] TPg)) b2
  have N2 := heap_r0 (w.alloc (.cells #[.slice p1 0 c1, .slice f1 l1.length t1, .int .i64 mn] TPg)) (.cells #[.slice p2 0 c2, .slice f2 l1.length t2, .int .i64 mn] TPg)
  have hz : (w.alloc (.cells #[.slice p1 0 c1, .slice f1 l1.length t1, .int .i64 mn] TPg)).heap.size = w.heap.size + 1 := by simp
  rw [hz] at N2
  have HB : Hid (Below w.heap.size w ((w.alloc (.cells #[.slice p1 0 c1, .slice f1 l1.length t1, .int .i64 mn] TPg)).alloc (.cells #[.slice p2 0 c2, .slice f2 l1.length t2, .int .i64 mn] TPg))) := b1.trans (b2.mono b1.size)
  have x0 := (Lib.cell_of_heap N1 0).trans rfl
  have x1 := (Lib.cell_of_heap N1 1).trans rfl
  have x2 := (Lib.cell_of_heap N1 2).trans rfl
  have y0 := (Lib.cell_of_heap N2 0).trans rfl
  have y1 := (Lib.cell_of_heap N2 1).trans rfl
  have y2 := (Lib.cell_of_heap N2 2).trans rfl
  have HK1 : Hid (∀ Y, Below w.heap.size w Y → RowV fgC 6 Y f1 t1 l1) := fun Y hY => hf1.below hY
  have HK2 : Hid (∀ Y, Below w.heap.size w Y → RowV fgC 6 Y f2 t2 l2) := fun Y hY => hf2.below hY
  have HI1 : Hid (∀ q ∈ l1, FgOK w q) := hi1
  have HI2 : Hid (∀ q ∈ l2, FgOK w q) := hi2
  have HE : Hid (∀ (k : Nat) (a b : Fg), l1[k]? = some a → l2[k]? = some b → FgEq a b) := he
  have HLL : Hid (l1.length = l2.length) := hll
  have nn1 : (mn != mn) = false := by simp
  have nn2 : ((l1.length : Int) != (l1.length : Int)) = false := by simp
  clear b1 b2 N1 N2 hz hf1 hf2 he hi1 hi2 hll
  go_enter Tryz.func16, Tryz.ntmps16
  go_upto_region 1 with (fail)
  refine (?_ : Code.wp _ _ _ _ ((w.alloc (.cells #[.slice p1 0 c1, .slice f1 l1.length t1, .int .i64 mn] TPg)).alloc (.cells #[.slice p2 0 c2, .slice f2 l1.length t2, .int .i64 mn] TPg)))
  generalize ((w.alloc (.cells #[.slice p1 0 c1, .slice f1 l1.length t1, .int .i64 mn] TPg)).alloc (.cells #[.slice p2 0 c2, .slice f2 l1.length t2, .int .i64 mn] TPg)) = W1 at *
  go_wp2
  clear nn1 nn2 x2 y2
  go_loopw [5] (fun iv wr => iv = .int .i64 0 ∧ wr = W1) (fun iv _ => 0)
  case atStart => exact ⟨rfl, rfl⟩
  case round =>
    obtain ⟨rfl, rfl⟩ := hrel
    go_wp2
    clear x0 y0
    go_loopw [9] (fun iv wx => ∃ k : Nat, iv = .int .i64 k ∧ k ≤ l1.length ∧ Hid (Below wr.heap.size wr wx)) (fun iv _ => l1.length - (intOf iv).toNat)
    case atStart => exact ⟨0, rfl, Nat.zero_le _, Below.refl _ _⟩
    case round =>
      rename World => wx
      obtain ⟨k, rfl, hk, HX⟩ := hrel
      have HB9 : Hid (Below w.heap.size w wx) := HB.out.trans (HX.out.mono HB.out.size)
      have e1 := blk_cell x1 HX.out
      have e2 := blk_cell y1 HX.out
      by_cases hlt : k < l1.length
      · obtain ⟨a, ha⟩ : ∃ r, l1[k]? = some r := ⟨_, List.getElem?_eq_getElem hlt⟩
        obtain ⟨b, hb⟩ : ∃ r, l2[k]? = some r := ⟨_, List.getElem?_eq_getElem (by have := HLL.out; omega)⟩
        obtain ⟨g1, o1, hk1e, hg1, hc1⟩ := (HK1.out wx HB9.out).2 k _ ha
        obtain ⟨g2, o2, hk2e, hg2, hc2⟩ := (HK2.out wx HB9.out).2 k _ hb
        subst hk1e hk2e
        have q1 := (HK1.out wx HB9.out).1.1
        have q2 := (HK2.out wx HB9.out).1.1
        rw [← HLL.out] at q2
        have E1 : ∀ Y, SH wx Y → Y.cell? ⟨w.heap.size, 1, none⟩ = some (.slice (some ⟨g1, o1, none⟩) l1.length t1) := fun Y h => blk_cell e1 h
        have E2 : ∀ Y, SH wx Y → Y.cell? ⟨w.heap.size + 1, 1, none⟩ = some (.slice (some ⟨g2, o2, none⟩) l1.length t2) := fun Y h => blk_cell e2 h
        obtain ⟨m1_0, m1_1, m1_2, m1_3, m1_4, m1_5⟩ := shrow6 a.f hg1 hc1
        obtain ⟨m2_0, m2_1, m2_2, m2_3, m2_4, m2_5⟩ := shrow6 b.f hg2 hc2
        have CS : Hid (∀ Y, SH wx Y → Calls Tryz.prog 37 #[.agg #[.string a.f.nm, .int .i64 a.f.pr, .int .i64 a.f.tp, .bool a.f.gv, .slice a.f.sp a.f.sn a.f.sc, .slice a.f.cp a.f.cn a.f.cc], .agg #[.string b.f.nm, .int .i64 b.f.pr, .int .i64 b.f.tp, .bool b.f.gv, .slice b.f.sp b.f.sn b.f.sc, .slice b.f.cp b.f.cn b.f.cc]] Y fun e w' => e = .returned (.bool true) ∧ Below Y.heap.size Y w') := fun Y h => rFuncE_c (HE.out k a b ha hb) ((HI1.out _ (List.mem_of_getElem? ha)).below (HB9.out.trans (Below.mono h HB9.out.size))) ((HI2.out _ (List.mem_of_getElem? hb)).below (HB9.out.trans (Below.mono h HB9.out.size)))
        have nt := not_t
        have HSH : SH wx wx := Below.refl _ _
        clear hc1 hc2 ha hb e1 e2
        go_upto_region 17 with (fail)
        go_region_held3 (fun Y => SH wx Y) (with_reducible first | assumption | (refine SH.drew ?_; assumption) | (refine SH.below ?_ (by assumption); assumption)) (first
          | (go_at_call 37; refine (CS.out _ ?_).mono ?_; (with_reducible first | assumption | (refine SH.drew ?_; assumption)); rintro e y1 ⟨rfl, hy1⟩))
        all_goals go_wp2_with fail
        exact ⟨⟨k + 1, by go_num, by omega, HX.out.trans (Below.mono (SH.below (SH.drew HSH) hy1) HX.out.size)⟩, by simp [intOf]; omega⟩
      · have hge : ¬ ((k : Int) < (l1.length : Int)) := by omega
        go_wp2
        go_ret
        exact ⟨rfl, HB9.out⟩
end
end Go.Proofs.YtaaphipbkpjkjaaGreatDoor
