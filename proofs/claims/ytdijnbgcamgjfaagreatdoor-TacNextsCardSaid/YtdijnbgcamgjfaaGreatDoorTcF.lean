/-
  The given answer's Prog: two programs without objects that are the same.
-/
import Derived.Test.YtdijnbgcamgjfaaGreatDoorTcE
import Derived.Test.YtdijnbgcamgjfaaGreatDoorKK
namespace Go.Proofs.YtdijnbgcamgjfaaGreatDoor
open Go.RowKit Go.Maps
set_option linter.unusedVariables false
set_option linter.unusedSimpArgs false
set_option maxRecDepth 100000
/-- Two functions that are the same, wherever their rows lie. -/
structure FgEq (a b : Fg) : Prop where
  nm : b.f.nm = a.f.nm
  pr : b.f.pr = a.f.pr
  tp : b.f.tp = a.f.tp
  gv : b.f.gv = a.f.gv
  sl : b.sls = a.sls
  co : a.code.map Iw.x = b.code.map Iw.x
section
variable {w : World}
theorem rFuncE_c {a b : Fg} (he : FgEq a b) (ha : FgOK w a) (hb : FgOK w b) :
    Calls Tryz.prog 37 #[.agg #[.string a.f.nm, .int .i64 a.f.pr, .int .i64 a.f.tp, .bool a.f.gv, .slice a.f.sp a.f.sn a.f.sc, .slice a.f.cp a.f.cn a.f.cc], .agg #[.string b.f.nm, .int .i64 b.f.pr, .int .i64 b.f.tp, .bool b.f.gv, .slice b.f.sp b.f.sn b.f.sc, .slice b.f.cp b.f.cn b.f.cc]] w fun e w' => e = .returned (.bool true) ∧ Below w.heap.size w w' := by
  have hcc : b.code.length = a.code.length := by have := congrArg List.length he.co; simpa using this.symm
  have hs2 := hb.sl
  rw [he.sl] at hs2
  rw [he.nm, he.pr, he.tp, he.gv, ha.sn, hb.sn, he.sl, ha.cn, hb.cn, hcc]
  exact rFuncT_c ha.sl hs2 ha.sm ha.cr hb.cr ha.cm he.co ha.ci hb.ci
set_option maxHeartbeats 16000000 in
theorem rProgT_c {mn : Int} {p1 p2 f1 f2 : Option Addr} {c1 c2 t1 t2 : Nat} {l1 l2 : List Fg} (hf1 : RowV fgC 6 w f1 t1 l1) (hf2 : RowV fgC 6 w f2 t2 l2) (hl : l1.length ≤ 9223372036854775806) (hll : l1.length = l2.length)
    (he : ∀ (k : Nat) (a b : Fg), l1[k]? = some a → l2[k]? = some b → FgEq a b) (hi1 : ∀ q ∈ l1, FgOK w q) (hi2 : ∀ q ∈ l2, FgOK w q) :
    Calls Tryz.prog 16 #[.agg #[.slice p1 0 c1, .slice f1 l1.length t1, .int .i64 mn], .agg #[.slice p2 0 c2, .slice f2 l1.length t2, .int .i64 mn]] w fun e w' => e = .returned (.bool true) ∧ Below w.heap.size w w' := by
  have b1 := below1 w (.cells #[.slice p1 0 c1, .slice f1 l1.length t1, .int .i64 mn] TPg)
  have b2 := below1 (w.alloc (.cells #[.slice p1 0 c1, .slice f1 l1.length t1, .int .i64 mn] TPg)) (.cells #[.slice p2 0 c2, .slice f2 l1.length t2, .int .i64 mn] TPg)
  have N1 := blk_b (heap_r0 w (.cells #[.slice p1 0 c1, .slice f1 l1.length t1, .int .i64 mn] TPg)) b2
  have N2 := heap_r0 (w.alloc (.cells #[.slice p1 0 c1, .slice f1 l1.length t1, .int .i64 mn] TPg)) (.cells #[.slice p2 0 c2, .slice f2 l1.length t2, .int .i64 mn] TPg)
  have hz : (w.alloc (.cells #[.slice p1 0 c1, .slice f1 l1.length t1, .int .i64 mn] TPg)).heap.size = w.heap.size + 1 := by simp
  rw [hz] at N2
  have HB : Hid (Below w.heap.size w ((w.alloc (.cells #[.slice p1 0 c1, .slice f1 l1.length t1, .int .i64 mn] TPg)).alloc (.cells #[.slice p2 0 c2, .slice f2 l1.length t2, .int .i64 mn] TPg))) := b1.trans (b2.mono b1.size)
  have x0 := (Lib.cell_of_heap N1 0).trans rfl
  have x1 := (Lib.cell_of_heap N1 1).trans rfl
  have x2 := (Lib.cell_of_heap N1 2).trans rfl
  have y0 := (Lib.cell_of_heap N2 0).trans rfl
  have y1 := (Lib.cell_of_heap N2 1).trans rfl
  have y2 := (Lib.cell_of_heap N2 2).trans rfl
  have HK1 : Hid (∀ Y, Below w.heap.size w Y → RowV fgC 6 Y f1 t1 l1) := fun Y hY => hf1.below hY
  have HK2 : Hid (∀ Y, Below w.heap.size w Y → RowV fgC 6 Y f2 t2 l2) := fun Y hY => hf2.below hY
  have HI1 : Hid (∀ q ∈ l1, FgOK w q) := hi1
  have HI2 : Hid (∀ q ∈ l2, FgOK w q) := hi2
  have HE : Hid (∀ (k : Nat) (a b : Fg), l1[k]? = some a → l2[k]? = some b → FgEq a b) := he
  have HLL : Hid (l1.length = l2.length) := hll
  have nn1 : (mn != mn) = false := by simp
  have nn2 : ((l1.length : Int) != (l1.length : Int)) = false := by simp
  clear b1 b2 N1 N2 hz hf1 hf2 he hi1 hi2 hll
  go_enter Tryz.func16, Tryz.ntmps16
  go_upto_region 1 with (fail)
  refine (?_ : Code.wp _ _ _ _ ((w.alloc (.cells #[.slice p1 0 c1, .slice f1 l1.length t1, .int .i64 mn] TPg)).alloc (.cells #[.slice p2 0 c2, .slice f2 l1.length t2, .int .i64 mn] TPg)))
  generalize ((w.alloc (.cells #[.slice p1 0 c1, .slice f1 l1.length t1, .int .i64 mn] TPg)).alloc (.cells #[.slice p2 0 c2, .slice f2 l1.length t2, .int .i64 mn] TPg)) = W1 at *
  go_wp2
  clear nn1 nn2 x2 y2
  go_loopw [5] (fun iv wr => iv = .int .i64 0 ∧ wr = W1) (fun iv _ => 0)
  case atStart => exact ⟨rfl, rfl⟩
  case round =>
    obtain ⟨rfl, rfl⟩ := hrel
    go_wp2
    clear x0 y0
    go_loopw [9] (fun iv wx => ∃ k : Nat, iv = .int .i64 k ∧ k ≤ l1.length ∧ Hid (Below wr.heap.size wr wx)) (fun iv _ => l1.length - (intOf iv).toNat)
    case atStart => exact ⟨0, rfl, Nat.zero_le _, Below.refl _ _⟩
    case round =>
      rename World => wx
      obtain ⟨k, rfl, hk, HX⟩ := hrel
      have HB9 : Hid (Below w.heap.size w wx) := HB.out.trans (HX.out.mono HB.out.size)
      have e1 := blk_cell x1 HX.out
      have e2 := blk_cell y1 HX.out
      by_cases hlt : k < l1.length
      · obtain ⟨a, ha⟩ : ∃ r, l1[k]? = some r := ⟨_, List.getElem?_eq_getElem hlt⟩
        obtain ⟨b, hb⟩ : ∃ r, l2[k]? = some r := ⟨_, List.getElem?_eq_getElem (by have := HLL.out; omega)⟩
        obtain ⟨g1, o1, hk1e, hg1, hc1⟩ := (HK1.out wx HB9.out).2 k _ ha
        obtain ⟨g2, o2, hk2e, hg2, hc2⟩ := (HK2.out wx HB9.out).2 k _ hb
        subst hk1e hk2e
        have q1 := (HK1.out wx HB9.out).1.1
        have q2 := (HK2.out wx HB9.out).1.1
        rw [← HLL.out] at q2
        have E1 : ∀ Y, SH wx Y → Y.cell? ⟨w.heap.size, 1, none⟩ = some (.slice (some ⟨g1, o1, none⟩) l1.length t1) := fun Y h => blk_cell e1 h
        have E2 : ∀ Y, SH wx Y → Y.cell? ⟨w.heap.size + 1, 1, none⟩ = some (.slice (some ⟨g2, o2, none⟩) l1.length t2) := fun Y h => blk_cell e2 h
        have m1_0 : ∀ Y, SH wx Y → Y.cell? ⟨g1, o1 + k * 6, none⟩ = some (.string a.f.nm) := fun Y h => (Below.cell h (p := ⟨g1, _, none⟩) hg1).trans (hc1 0 (by omega))
        have m1_1 : ∀ Y, SH wx Y → Y.cell? ⟨g1, o1 + k * 6 + 1, none⟩ = some (.int .i64 a.f.pr) := fun Y h => (Below.cell h (p := ⟨g1, _, none⟩) hg1).trans (hc1 1 (by omega))
        have m1_2 : ∀ Y, SH wx Y → Y.cell? ⟨g1, o1 + k * 6 + 2, none⟩ = some (.int .i64 a.f.tp) := fun Y h => (Below.cell h (p := ⟨g1, _, none⟩) hg1).trans (hc1 2 (by omega))
        have m1_3 : ∀ Y, SH wx Y → Y.cell? ⟨g1, o1 + k * 6 + 3, none⟩ = some (.bool a.f.gv) := fun Y h => (Below.cell h (p := ⟨g1, _, none⟩) hg1).trans (hc1 3 (by omega))
        have m1_4 : ∀ Y, SH wx Y → Y.cell? ⟨g1, o1 + k * 6 + 4, none⟩ = some (.slice a.f.sp a.f.sn a.f.sc) := fun Y h => (Below.cell h (p := ⟨g1, _, none⟩) hg1).trans (hc1 4 (by omega))
        have m1_5 : ∀ Y, SH wx Y → Y.cell? ⟨g1, o1 + k * 6 + 5, none⟩ = some (.slice a.f.cp a.f.cn a.f.cc) := fun Y h => (Below.cell h (p := ⟨g1, _, none⟩) hg1).trans (hc1 5 (by omega))
        have m2_0 : ∀ Y, SH wx Y → Y.cell? ⟨g2, o2 + k * 6, none⟩ = some (.string b.f.nm) := fun Y h => (Below.cell h (p := ⟨g2, _, none⟩) hg2).trans (hc2 0 (by omega))
        have m2_1 : ∀ Y, SH wx Y → Y.cell? ⟨g2, o2 + k * 6 + 1, none⟩ = some (.int .i64 b.f.pr) := fun Y h => (Below.cell h (p := ⟨g2, _, none⟩) hg2).trans (hc2 1 (by omega))
        have m2_2 : ∀ Y, SH wx Y → Y.cell? ⟨g2, o2 + k * 6 + 2, none⟩ = some (.int .i64 b.f.tp) := fun Y h => (Below.cell h (p := ⟨g2, _, none⟩) hg2).trans (hc2 2 (by omega))
        have m2_3 : ∀ Y, SH wx Y → Y.cell? ⟨g2, o2 + k * 6 + 3, none⟩ = some (.bool b.f.gv) := fun Y h => (Below.cell h (p := ⟨g2, _, none⟩) hg2).trans (hc2 3 (by omega))
        have m2_4 : ∀ Y, SH wx Y → Y.cell? ⟨g2, o2 + k * 6 + 4, none⟩ = some (.slice b.f.sp b.f.sn b.f.sc) := fun Y h => (Below.cell h (p := ⟨g2, _, none⟩) hg2).trans (hc2 4 (by omega))
        have m2_5 : ∀ Y, SH wx Y → Y.cell? ⟨g2, o2 + k * 6 + 5, none⟩ = some (.slice b.f.cp b.f.cn b.f.cc) := fun Y h => (Below.cell h (p := ⟨g2, _, none⟩) hg2).trans (hc2 5 (by omega))
        have CS : Hid (∀ Y, SH wx Y → Calls Tryz.prog 37 #[.agg #[.string a.f.nm, .int .i64 a.f.pr, .int .i64 a.f.tp, .bool a.f.gv, .slice a.f.sp a.f.sn a.f.sc, .slice a.f.cp a.f.cn a.f.cc], .agg #[.string b.f.nm, .int .i64 b.f.pr, .int .i64 b.f.tp, .bool b.f.gv, .slice b.f.sp b.f.sn b.f.sc, .slice b.f.cp b.f.cn b.f.cc]] Y fun e w' => e = .returned (.bool true) ∧ Below Y.heap.size Y w') := fun Y h => rFuncE_c (HE.out k a b ha hb) ((HI1.out _ (List.mem_of_getElem? ha)).below (HB9.out.trans (Below.mono h HB9.out.size))) ((HI2.out _ (List.mem_of_getElem? hb)).below (HB9.out.trans (Below.mono h HB9.out.size)))
        have nt := not_t
        have HSH : SH wx wx := Below.refl _ _
        clear hc1 hc2 ha hb e1 e2
        go_upto_region 17 with (fail)
        go_region_held3 (fun Y => SH wx Y) (with_reducible first | assumption | (refine SH.drew ?_; assumption) | (refine SH.below ?_ (by assumption); assumption)) (first
          | (go_at_call 37; refine (CS.out _ ?_).mono ?_; (with_reducible first | assumption | (refine SH.drew ?_; assumption)); rintro e y1 ⟨rfl, hy1⟩))
        all_goals go_wp2_with fail
        exact ⟨⟨k + 1, by go_num, by omega, HX.out.trans (Below.mono (SH.below (SH.drew HSH) hy1) HX.out.size)⟩, by simp [intOf]; omega⟩
      · have hge : ¬ ((k : Int) < (l1.length : Int)) := by omega
        go_wp2
        go_ret
        exact ⟨rfl, HB9.out⟩
end
end Go.Proofs.YtdijnbgcamgjfaaGreatDoor
