/-
  heads of the laws of stage 13.
-/
import Derived.Test.YtaaphipbkpjkjaaGreatDoorKU
namespace Go.Proofs.YtaaphipbkpjkjaaGreatDoor
open Go.RowKit Go.Maps
set_option linter.unusedVariables false
set_option linter.unusedSimpArgs false
set_option maxRecDepth 100000
theorem head_textG (vp : Option Addr) (vc : Nat) : printT (headP vp vc) = headS ∧ printE (headP vp vc) = 0 := by
  unfold printT printE
  rw [head_check, head_lines]
  exact ⟨rfl, rfl⟩
theorem head_inN1 : InN hi1 := by constructor <;> first | decide | (unfold ArOK; decide)
theorem head_inN2 : InN hi2 := by constructor <;> first | decide | (unfold ArOK; decide)
theorem head_pgP (vp : Option Addr) (vc : Nat) : PgP (headP vp vc) := by
  refine ⟨fun q hq => ?_, show I64 0 from ⟨by decide, by decide⟩⟩
  obtain rfl := List.mem_singleton.1 hq
  refine ⟨show (4 : Nat) ≤ 100000 by decide, show I64 0 from ⟨by decide, by decide⟩, show I64 1 from ⟨by decide, by decide⟩, (fun s hs => by cases hs), fun i hi => ?_⟩
  simp only [oneF, List.map_cons, List.map_nil, List.mem_cons, List.not_mem_nil, or_false] at hi
  rcases hi with rfl | rfl
  · exact ⟨head_inN1, by decide, by decide⟩
  · exact ⟨head_inN2, by decide, by decide⟩
theorem head_pgOK {W : World} {b c : Nat} (h1 : W.heap[b]? = some (.cells #[.int .i64 1, .int .i64 0, .int .i64 0, .int .i64 2, .int .u32 5, .int .i64 0, .int .u32 0, .int .i64 0, .int .i64 0, .int .i64 0, .bool false, .slice none 0 0, .int .i64 9, .int .i64 0, .int .i64 (-1), .int .i64 1, .int .u32 0, .int .i64 0, .int .u32 0, .int .i64 0, .int .i64 0, .int .i64 0, .bool false, .slice none 0 0] TIn (0, 0))) (h2 : W.heap[c]? = some (.cells #[.string ⟨#[109, 97, 105, 110]⟩, .int .i64 0, .int .i64 1, .bool true, .slice none 0 0, .slice (some ⟨b, 0, none⟩) 2 2] TFn (0, 0))) :
    PgOK W (headP (some ⟨b, 0, none⟩) 2) ⟨none, 0, some ⟨c, 0, none⟩, 1⟩ :=
  pgOK_one (B := 0) (by decide) head_ins (by decide) ⟨rfl, Or.inr ⟨c, 1, _, rfl, Nat.zero_le _, h2, Nat.le_refl _, by decide, rfl, rfl⟩⟩ ⟨rfl, Or.inr ⟨b, 2, _, rfl, Nat.zero_le _, h1, Nat.le_refl _, by decide, rfl, rfl⟩⟩
section
variable {w : World}
set_option maxHeartbeats 16000000 in
theorem heads_c (hP : PrW w) (hM : MaxIn w) (hg : 10 ≤ w.heap.size) :
    Calls Tryz.prog 10 #[] w fun e w' => e = .returned (.bool true) ∧ Below w.heap.size w w' := by
  have z1 : (w.alloc (.cells #[.int .i64 1, .int .i64 0, .int .i64 0, .int .i64 2, .int .u32 5, .int .i64 0, .int .u32 0, .int .i64 0, .int .i64 0, .int .i64 0, .bool false, .slice none 0 0, .int .i64 9, .int .i64 0, .int .i64 (-1), .int .i64 1, .int .u32 0, .int .i64 0, .int .u32 0, .int .i64 0, .int .i64 0, .int .i64 0, .bool false, .slice none 0 0] TIn)).heap.size = w.heap.size + 1 := by simp
  have z2 : ((w.alloc (.cells #[.int .i64 1, .int .i64 0, .int .i64 0, .int .i64 2, .int .u32 5, .int .i64 0, .int .u32 0, .int .i64 0, .int .i64 0, .int .i64 0, .bool false, .slice none 0 0, .int .i64 9, .int .i64 0, .int .i64 (-1), .int .i64 1, .int .u32 0, .int .i64 0, .int .u32 0, .int .i64 0, .int .i64 0, .int .i64 0, .bool false, .slice none 0 0] TIn)).alloc (.cells #[.string ⟨#[109, 97, 105, 110]⟩, .int .i64 0, .int .i64 1, .bool true, .slice none 0 0, .slice (some ⟨w.heap.size, 0, none⟩) 2 2] TFn)).heap.size = w.heap.size + 1 + 1 := by simp
  have b1 := below1 w (.cells #[.int .i64 1, .int .i64 0, .int .i64 0, .int .i64 2, .int .u32 5, .int .i64 0, .int .u32 0, .int .i64 0, .int .i64 0, .int .i64 0, .bool false, .slice none 0 0, .int .i64 9, .int .i64 0, .int .i64 (-1), .int .i64 1, .int .u32 0, .int .i64 0, .int .u32 0, .int .i64 0, .int .i64 0, .int .i64 0, .bool false, .slice none 0 0] TIn)
  have b2 := below1 (w.alloc (.cells #[.int .i64 1, .int .i64 0, .int .i64 0, .int .i64 2, .int .u32 5, .int .i64 0, .int .u32 0, .int .i64 0, .int .i64 0, .int .i64 0, .bool false, .slice none 0 0, .int .i64 9, .int .i64 0, .int .i64 (-1), .int .i64 1, .int .u32 0, .int .i64 0, .int .u32 0, .int .i64 0, .int .i64 0, .int .i64 0, .bool false, .slice none 0 0] TIn)) (.cells #[.string ⟨#[109, 97, 105, 110]⟩, .int .i64 0, .int .i64 1, .bool true, .slice none 0 0, .slice (some ⟨w.heap.size, 0, none⟩) 2 2] TFn)
  have b3 := below1 ((w.alloc (.cells #[.int .i64 1, .int .i64 0, .int .i64 0, .int .i64 2, .int .u32 5, .int .i64 0, .int .u32 0, .int .i64 0, .int .i64 0, .int .i64 0, .bool false, .slice none 0 0, .int .i64 9, .int .i64 0, .int .i64 (-1), .int .i64 1, .int .u32 0, .int .i64 0, .int .u32 0, .int .i64 0, .int .i64 0, .int .i64 0, .bool false, .slice none 0 0] TIn)).alloc (.cells #[.string ⟨#[109, 97, 105, 110]⟩, .int .i64 0, .int .i64 1, .bool true, .slice none 0 0, .slice (some ⟨w.heap.size, 0, none⟩) 2 2] TFn)) (.cells #[.slice none 0 0, .slice (some ⟨w.heap.size + 1, 0, none⟩) 1 1, .int .i64 0] TPg)
  have n1 := blk_b (blk_b (heap_r0 w (.cells #[.int .i64 1, .int .i64 0, .int .i64 0, .int .i64 2, .int .u32 5, .int .i64 0, .int .u32 0, .int .i64 0, .int .i64 0, .int .i64 0, .bool false, .slice none 0 0, .int .i64 9, .int .i64 0, .int .i64 (-1), .int .i64 1, .int .u32 0, .int .i64 0, .int .u32 0, .int .i64 0, .int .i64 0, .int .i64 0, .bool false, .slice none 0 0] TIn)) b2) b3
  have n2 := heap_r0 (w.alloc (.cells #[.int .i64 1, .int .i64 0, .int .i64 0, .int .i64 2, .int .u32 5, .int .i64 0, .int .u32 0, .int .i64 0, .int .i64 0, .int .i64 0, .bool false, .slice none 0 0, .int .i64 9, .int .i64 0, .int .i64 (-1), .int .i64 1, .int .u32 0, .int .i64 0, .int .u32 0, .int .i64 0, .int .i64 0, .int .i64 0, .bool false, .slice none 0 0] TIn)) (.cells #[.string ⟨#[109, 97, 105, 110]⟩, .int .i64 0, .int .i64 1, .bool true, .slice none 0 0, .slice (some ⟨w.heap.size, 0, none⟩) 2 2] TFn)
  rw [z1] at n2
  have n2' := blk_b n2 b3
  have n3 := heap_r0 ((w.alloc (.cells #[.int .i64 1, .int .i64 0, .int .i64 0, .int .i64 2, .int .u32 5, .int .i64 0, .int .u32 0, .int .i64 0, .int .i64 0, .int .i64 0, .bool false, .slice none 0 0, .int .i64 9, .int .i64 0, .int .i64 (-1), .int .i64 1, .int .u32 0, .int .i64 0, .int .u32 0, .int .i64 0, .int .i64 0, .int .i64 0, .bool false, .slice none 0 0] TIn)).alloc (.cells #[.string ⟨#[109, 97, 105, 110]⟩, .int .i64 0, .int .i64 1, .bool true, .slice none 0 0, .slice (some ⟨w.heap.size, 0, none⟩) 2 2] TFn)) (.cells #[.slice none 0 0, .slice (some ⟨w.heap.size + 1, 0, none⟩) 1 1, .int .i64 0] TPg)
  rw [z2] at n3
  have HN1 : Hid (_ = _) := n1
  have HN2 : Hid (_ = _) := n2'
  have HN3 : Hid (_ = _) := n3
  have b12 := b1.trans (b2.mono b1.size)
  have HB3 : Hid (Below w.heap.size w (((w.alloc (.cells #[.int .i64 1, .int .i64 0, .int .i64 0, .int .i64 2, .int .u32 5, .int .i64 0, .int .u32 0, .int .i64 0, .int .i64 0, .int .i64 0, .bool false, .slice none 0 0, .int .i64 9, .int .i64 0, .int .i64 (-1), .int .i64 1, .int .u32 0, .int .i64 0, .int .u32 0, .int .i64 0, .int .i64 0, .int .i64 0, .bool false, .slice none 0 0] TIn)).alloc (.cells #[.string ⟨#[109, 97, 105, 110]⟩, .int .i64 0, .int .i64 1, .bool true, .slice none 0 0, .slice (some ⟨w.heap.size, 0, none⟩) 2 2] TFn)).alloc (.cells #[.slice none 0 0, .slice (some ⟨w.heap.size + 1, 0, none⟩) 1 1, .int .i64 0] TPg))) := b12.trans (b3.mono b12.size)
  have HP : Hid (PrW w) := hP
  have HM : Hid (MaxIn w) := hM
  clear z1 z2 b1 b2 b3 n1 n2 n2' n3 b12 hP hM
  go_enter Tryz.func10, Tryz.ntmps10
  go_upto_region 3 with (first | ((with_reducible apply step_store (heap_r0 _ _)); rfl; rfl; kernel_rfl; rfl; kernel_rfl; rw [World.setRow_alloc_new]) | fail)
  refine (?_ : Code.wp _ _ _ _ (((w.alloc (.cells #[.int .i64 1, .int .i64 0, .int .i64 0, .int .i64 2, .int .u32 5, .int .i64 0, .int .u32 0, .int .i64 0, .int .i64 0, .int .i64 0, .bool false, .slice none 0 0, .int .i64 9, .int .i64 0, .int .i64 (-1), .int .i64 1, .int .u32 0, .int .i64 0, .int .u32 0, .int .i64 0, .int .i64 0, .int .i64 0, .bool false, .slice none 0 0] TIn)).alloc (.cells #[.string ⟨#[109, 97, 105, 110]⟩, .int .i64 0, .int .i64 1, .bool true, .slice none 0 0, .slice (some ⟨w.heap.size, 0, none⟩) 2 2] TFn)).alloc (.cells #[.slice none 0 0, .slice (some ⟨w.heap.size + 1, 0, none⟩) 1 1, .int .i64 0] TPg)))
  generalize (((w.alloc (.cells #[.int .i64 1, .int .i64 0, .int .i64 0, .int .i64 2, .int .u32 5, .int .i64 0, .int .u32 0, .int .i64 0, .int .i64 0, .int .i64 0, .bool false, .slice none 0 0, .int .i64 9, .int .i64 0, .int .i64 (-1), .int .i64 1, .int .u32 0, .int .i64 0, .int .u32 0, .int .i64 0, .int .i64 0, .int .i64 0, .bool false, .slice none 0 0] TIn)).alloc (.cells #[.string ⟨#[109, 97, 105, 110]⟩, .int .i64 0, .int .i64 1, .bool true, .slice none 0 0, .slice (some ⟨w.heap.size, 0, none⟩) 2 2] TFn)).alloc (.cells #[.slice none 0 0, .slice (some ⟨w.heap.size + 1, 0, none⟩) 1 1, .int .i64 0] TPg)) = W3 at *
  have HPG : Hid (∀ Y, Below W3.heap.size W3 Y → PgOK Y (headP (some ⟨w.heap.size, 0, none⟩) 2) ⟨none, 0, some ⟨w.heap.size + 1, 0, none⟩, 1⟩) := fun Y hY => (head_pgOK HN1.out HN2.out).below hY
  have cP : Calls Tryz.prog 21 #[.agg #[.slice none 0 0, .slice (some ⟨w.heap.size + 1, 0, none⟩) 1 1, .int .i64 0]] W3 fun e w' => e = .returned (.tuple #[.string headS, .int .i64 0]) ∧ Below W3.heap.size W3 w' := by
    have h := print_c (HP.out.below HB3.out) (HPG.out W3 (Below.refl _ _)) (fun _ => head_pgP _ _) (fun _ q hq => by cases hq)
    rw [(head_textG _ _).1, (head_textG _ _).2] at h
    exact h
  have p0 := (Lib.cell_of_heap HN3.out 0).trans rfl
  have p1 := (Lib.cell_of_heap HN3.out 1).trans rfl
  have p2 := (Lib.cell_of_heap HN3.out 2).trans rfl
  go_upto_region 4 with (first | (go_at_call 21; refine cP.mono ?_; rintro e w4 ⟨rfl, hb4⟩; have HB4 : Hid (Below W3.heap.size W3 w4) := hb4; clear hb4) | fail)
  have HB4' : Hid (Below w.heap.size w w4) := HB3.out.trans (HB4.out.mono HB3.out.size)
  have hP4 := HP.out.below HB4'.out
  have cQ : Calls Tryz.prog 23 #[.string headS] w4 fun e w' => ∃ fp fc vp vc, e = .returned (.tuple #[.agg #[.slice none 0 0, .slice fp 1 fc, .int .i64 0], .int .i64 0]) ∧ PgOK w' (headP vp vc) ⟨none, 0, fp, fc⟩ ∧ Below w4.heap.size w4 w' :=
    parse1_c hP4.tabs hP4.forms hP4.words hP4.names (HM.out.below HB4'.out) (Nat.le_trans hg HB4'.out.size) (s := headS) (by decide) (by decide +kernel) head_one (by decide) head_ins (fun vp vc => head_check vp vc)
  clear hP4 p0 p1 p2 cP
  go_upto_region 5 with (first | (go_at_call 23; refine cQ.mono ?_; rintro e w5 ⟨qp, qc, vp, vc, rfl, hq5, hb5⟩; have HQ5 : Hid (PgOK w5 (headP vp vc) ⟨none, 0, qp, qc⟩) := hq5; have HB5 : Hid (Below W3.heap.size W3 w5) := HB4.out.trans (hb5.mono HB4.out.size); clear hb5 hq5 cQ) | ((with_reducible apply step_store (heap_r0 _ _)); rfl; rfl; kernel_rfl; rfl; kernel_rfl; rw [World.setRow_alloc_new]) | fail)
  refine (?_ : Code.wp _ _ _ _ (w5.alloc (.cells #[.slice none 0 0, .slice qp 1 qc, .int .i64 0] TPg)))
  have h6 := heap_r0 w5 (.cells #[.slice none 0 0, .slice qp 1 qc, .int .i64 0] TPg)
  have hb6 := below1 w5 (.cells #[.slice none 0 0, .slice qp 1 qc, .int .i64 0] TPg)
  have HN6 : Hid ((w5.alloc (.cells #[.slice none 0 0, .slice qp 1 qc, .int .i64 0] TPg)).heap[w5.heap.size]? = some (.cells #[.slice none 0 0, .slice qp 1 qc, .int .i64 0] TPg (0, 0))) := h6
  have HQ6 : Hid (PgOK (w5.alloc (.cells #[.slice none 0 0, .slice qp 1 qc, .int .i64 0] TPg)) (headP vp vc) ⟨none, 0, qp, qc⟩) := HQ5.out.below hb6
  have HB6 : Hid (Below W3.heap.size W3 (w5.alloc (.cells #[.slice none 0 0, .slice qp 1 qc, .int .i64 0] TPg))) := HB5.out.trans (hb6.mono HB5.out.size)
  have hz6 : W3.heap.size ≤ w5.heap.size := HB5.out.size
  clear h6 hb6
  generalize (w5.alloc (.cells #[.slice none 0 0, .slice qp 1 qc, .int .i64 0] TPg)) = W6 at *
  generalize w5.heap.size = b6 at *
  have h3 := blk_b HN3.out HB6.out
  have p0 := (Lib.cell_of_heap h3 0).trans rfl
  have p1 := (Lib.cell_of_heap h3 1).trans rfl
  have p2 := (Lib.cell_of_heap h3 2).trans rfl
  have hK := HPG.out W6 HB6.out
  have cC : Calls Tryz.prog 14 #[.agg #[.slice none 0 0, .slice (some ⟨w.heap.size + 1, 0, none⟩) 1 1, .int .i64 0]] W6 fun e w' => ∃ (fp : Option Addr) (fc : Nat) (b : Fg), e = .returned (.agg #[.slice none 0 0, .slice fp 1 fc, .int .i64 0]) ∧ w'.ownsRow W6.heap.size TFn 6 (.slice fp 1 fc) 1 (fgC b) ∧ FgEq (oneF ⟨#[109, 97, 105, 110]⟩ 0 1 true [hi1, hi2] (some ⟨w.heap.size, 0, none⟩) 2) b ∧ FgOwn W6.heap.size w' b ∧ Below W6.heap.size W6 w' := by
    have h := rCopy_c (w := W6) (mn := 0) (p1 := none) (c1 := 0) hK.fr (show (1 : Nat) ≤ 64 by decide) (fun q hq => by
      have ho := hK.fi q hq
      obtain rfl := List.mem_singleton.1 hq
      refine ⟨ho, rfl, rfl, rfl, rfl, (show (2 : Nat) ≤ 1000000 by decide), fun i hi => ?_⟩
      simp only [oneF, List.map_cons, List.map_nil, List.mem_cons, List.not_mem_nil, or_false] at hi
      rcases hi with rfl | rfl <;> decide)
    refine Calls.mono h ?_
    rintro e w' ⟨fp, fc, l2, rfl, hl, ho, he, hf, hb⟩
    obtain ⟨b, rfl⟩ : ∃ b, l2 = [b] := List.length_eq_one_iff.1 hl
    have hfl : flatC fgC [b] = fgC b := by simp [flatC]
    rw [hfl] at ho
    exact ⟨fp, fc, b, rfl, ho, he 0 _ _ rfl rfl, hf b (by simp), hb⟩
  clear hK h3
  go_upto_region 6 with (first | (go_at_call 14; refine cC.mono ?_; rintro e w7 ⟨sp, sc, sb, rfl, hro, heq, hfo, hb7⟩; have HRO : Hid (w7.ownsRow W6.heap.size TFn 6 (.slice sp 1 sc) 1 (fgC sb)) := hro; have HEQ : Hid (FgEq (oneF ⟨#[109, 97, 105, 110]⟩ 0 1 true [hi1, hi2] (some ⟨w.heap.size, 0, none⟩) 2) sb) := heq; have HFO : Hid (FgOwn W6.heap.size w7 sb) := hfo; have HB7 : Hid (Below W6.heap.size W6 w7) := hb7; clear hro heq hfo hb7 cC) | ((with_reducible apply step_store (heap_r0 _ _)); rfl; rfl; kernel_rfl; rfl; kernel_rfl; rw [World.setRow_alloc_new]) | fail)
  refine (?_ : Code.wp _ _ _ _ (w7.alloc (.cells #[.slice none 0 0, .slice sp 1 sc, .int .i64 0] TPg)))
  have hcn : sb.code.length = 2 := by have := congrArg List.length HEQ.out.co; simpa [oneF] using this.symm
  obtain ⟨gs, cap, he, hge, hgl, hcl, hcell, hfr⟩ := own_cell HRO.out (by decide)
  injection he with e1 e2 e3
  subst e1 e3
  obtain ⟨gc, ccap, he, hge', hgl', hcl', hcell', hfr'⟩ := own_cell HFO.out.cr (by omega)
  injection he with e1 e2 e3
  have hc5 : w7.cell? ⟨gs, 5, none⟩ = some (.slice (some ⟨gc, 0, none⟩) 2 sb.f.cc) := by
    have := hcell 5 _ (show (fgC sb)[5]? = some (.slice sb.f.cp sb.f.cn sb.f.cc) from rfl)
    rw [e1, HFO.out.cn, hcn] at this
    exact this
  have HGS : Hid (W6.heap.size ≤ gs) := hge
  have HHC : Hid (_ ∧ _) := And.intro hcell hcell'
  have HCW : Hid (∃ cur, w7.heap[gs]? = some (.cells cur TFn (0, 0))) := (ownsRow_at HRO.out (g := gs) rfl).2
  have hb8 := below1 w7 (.cells #[.slice none 0 0, .slice (some ⟨gs, 0, none⟩) 1 sc, .int .i64 0] TPg)
  have h8 := heap_r0 w7 (.cells #[.slice none 0 0, .slice (some ⟨gs, 0, none⟩) 1 sc, .int .i64 0] TPg)
  have r1 := (Lib.cell_of_heap h8 1).trans rfl
  have r5 := blk_cell hc5 hb8
  have fr5 : (w7.alloc (.cells #[.slice none 0 0, .slice (some ⟨gs, 0, none⟩) 1 sc, .int .i64 0] TPg)).frozen? ⟨gs, 5, none⟩ = false := by
    obtain ⟨_, cur, hcur⟩ := ownsRow_at HRO.out (g := gs) rfl
    exact frozen_of (blk_b hcur hb8) 5
  have hcc2 : 2 ≤ sb.f.cc := by rw [e3]; omega
  have hsc1 : 1 ≤ sc := hcl
  clear hcell hfr hcell' hfr' p0 p1 p2
  go_upto_region 6 with (fail)
  go_region
  have t9 : Turned w7 (w7.setCell ⟨gs, 5, none⟩ (.slice (some ⟨gc, 0, none⟩) 1 ccap)) (fun j => j = gs) := Turned.setCell w7 gs 5 _ rfl
  have hb9 : Below (w7.setCell ⟨gs, 5, none⟩ (.slice (some ⟨gc, 0, none⟩) 1 ccap)).heap.size (w7.setCell ⟨gs, 5, none⟩ (.slice (some ⟨gc, 0, none⟩) 1 ccap)) (((w7.setCell ⟨gs, 5, none⟩ (.slice (some ⟨gc, 0, none⟩) 1 ccap)).alloc (.cells #[.slice none 0 0, .slice (some ⟨gs, 0, none⟩) 1 sc, .int .i64 0] TPg)).drew) := Below.drew (below1 _ _)
  have hb9' : Below W6.heap.size W6 (w7.setCell ⟨gs, 5, none⟩ (.slice (some ⟨gc, 0, none⟩) 1 ccap)) := below_turned HB7.out t9 HGS.out
  have HB9 : Hid (Below W6.heap.size W6 (((w7.setCell ⟨gs, 5, none⟩ (.slice (some ⟨gc, 0, none⟩) 1 ccap)).alloc (.cells #[.slice none 0 0, .slice (some ⟨gs, 0, none⟩) 1 sc, .int .i64 0] TPg)).drew)) := hb9'.trans (hb9.mono hb9'.size)
  have hz9 : (w7.setCell ⟨gs, 5, none⟩ (.slice (some ⟨gc, 0, none⟩) 1 ccap)).heap.size = w7.heap.size := by simp
  have h9 : (((w7.setCell ⟨gs, 5, none⟩ (.slice (some ⟨gc, 0, none⟩) 1 ccap)).alloc (.cells #[.slice none 0 0, .slice (some ⟨gs, 0, none⟩) 1 sc, .int .i64 0] TPg)).drew).heap[w7.heap.size]? = some (.cells #[.slice none 0 0, .slice (some ⟨gs, 0, none⟩) 1 sc, .int .i64 0] TPg (0, 0)) := by
    have := heap_r0 (w7.setCell ⟨gs, 5, none⟩ (.slice (some ⟨gc, 0, none⟩) 1 ccap)) (.cells #[.slice none 0 0, .slice (some ⟨gs, 0, none⟩) 1 sc, .int .i64 0] TPg)
    rw [hz9] at this
    exact this
  have HN9 : Hid (_ = _) := h9
  obtain ⟨sf, sl, hs1, hs2, hs3⟩ := short_ok HRO.out HEQ.out HFO.out ((HPG.out W3 (Below.refl _ _)).fi _ (List.mem_singleton.2 rfl)) rfl e1 e3
  have HSP : Hid (PgOK (((w7.setCell ⟨gs, 5, none⟩ (.slice (some ⟨gc, 0, none⟩) 1 ccap)).alloc (.cells #[.slice none 0 0, .slice (some ⟨gs, 0, none⟩) 1 sc, .int .i64 0] TPg)).drew) ⟨[], [⟨sf, [], sl⟩], 0⟩ ⟨none, 0, some ⟨gs, 0, none⟩, sc⟩) := hs3.below hb9
  clear hs3
  have HT9 : Hid (Turned w7 (((w7.setCell ⟨gs, 5, none⟩ (.slice (some ⟨gc, 0, none⟩) 1 ccap)).alloc (.cells #[.slice none 0 0, .slice (some ⟨gs, 0, none⟩) 1 sc, .int .i64 0] TPg)).drew) (fun j => j = gs)) := t9.trans (Turned.of_below hb9 _) (fun _ _ h => h)
  clear t9 hb9 hb9' hz9 h9
  generalize ((w7.setCell ⟨gs, 5, none⟩ (.slice (some ⟨gc, 0, none⟩) 1 ccap)).alloc (.cells #[.slice none 0 0, .slice (some ⟨gs, 0, none⟩) 1 sc, .int .i64 0] TPg)).drew = W9 at *
  generalize w7.heap.size = b7 at *
  clear r1 r5 fr5 hc5 hb8 h8
  go_upto_region 9 with (first | ((with_reducible apply step_store (heap_r0 _ _)); rfl; rfl; kernel_rfl; rfl; kernel_rfl; rw [World.setRow_alloc_new]) | fail)
  refine (?_ : Code.wp _ _ _ _ ((W9.alloc (.cells #[.int .i64 1, .int .u32 0] TAr)).alloc (.cells #[.int .i64 2, .int .i64 1, .int .i64 1, .int .i64 1, .int .u32 0, .int .i64 1, .int .u32 0, .int .i64 0, .int .i64 0, .int .i64 0, .bool false, .slice none 0 0] TIn)))
  have k1 := below1 W9 (.cells #[.int .i64 1, .int .u32 0] TAr)
  have k2 := below1 (W9.alloc (.cells #[.int .i64 1, .int .u32 0] TAr)) (.cells #[.int .i64 2, .int .i64 1, .int .i64 1, .int .i64 1, .int .u32 0, .int .i64 1, .int .u32 0, .int .i64 0, .int .i64 0, .int .i64 0, .bool false, .slice none 0 0] TIn)
  have N12 := heap_r0 (W9.alloc (.cells #[.int .i64 1, .int .u32 0] TAr)) (.cells #[.int .i64 2, .int .i64 1, .int .i64 1, .int .i64 1, .int .u32 0, .int .i64 1, .int .u32 0, .int .i64 0, .int .i64 0, .int .i64 0, .bool false, .slice none 0 0] TIn)
  have kz : (W9.alloc (.cells #[.int .i64 1, .int .u32 0] TAr)).heap.size = W9.heap.size + 1 := by simp
  rw [kz] at N12
  have k12 : Below W9.heap.size W9 ((W9.alloc (.cells #[.int .i64 1, .int .u32 0] TAr)).alloc (.cells #[.int .i64 2, .int .i64 1, .int .i64 1, .int .i64 1, .int .u32 0, .int .i64 1, .int .u32 0, .int .i64 0, .int .i64 0, .int .i64 0, .bool false, .slice none 0 0] TIn)) := k1.trans (k2.mono k1.size)
  have hb12 : Below W6.heap.size W6 ((W9.alloc (.cells #[.int .i64 1, .int .u32 0] TAr)).alloc (.cells #[.int .i64 2, .int .i64 1, .int .i64 1, .int .i64 1, .int .u32 0, .int .i64 1, .int .u32 0, .int .i64 0, .int .i64 0, .int .i64 0, .bool false, .slice none 0 0] TIn)) := HB9.out.trans (k12.mono HB9.out.size)
  have M3 : Hid (_ = _) := blk_b (blk_b HN3.out HB6.out) hb12
  have M1 : Hid (_ = _) := blk_b (blk_b HN1.out HB6.out) hb12
  have M6 : Hid (_ = _) := blk_b HN6.out hb12
  have M9 : Hid (_ = _) := blk_b HN9.out k12
  have M12 : Hid (_ = _) := N12
  have HSP12 : Hid (PgOK ((W9.alloc (.cells #[.int .i64 1, .int .u32 0] TAr)).alloc (.cells #[.int .i64 2, .int .i64 1, .int .i64 1, .int .i64 1, .int .u32 0, .int .i64 1, .int .u32 0, .int .i64 0, .int .i64 0, .int .i64 0, .bool false, .slice none 0 0] TIn)) ⟨[], [⟨sf, [], sl⟩], 0⟩ ⟨none, 0, some ⟨gs, 0, none⟩, sc⟩) := HSP.out.below k12
  have HQ12 : Hid (PgOK ((W9.alloc (.cells #[.int .i64 1, .int .u32 0] TAr)).alloc (.cells #[.int .i64 2, .int .i64 1, .int .i64 1, .int .i64 1, .int .u32 0, .int .i64 1, .int .u32 0, .int .i64 0, .int .i64 0, .int .i64 0, .bool false, .slice none 0 0] TIn)) (headP vp vc) ⟨none, 0, qp, qc⟩) := HQ6.out.below hb12
  have hb312 : Below W3.heap.size W3 ((W9.alloc (.cells #[.int .i64 1, .int .u32 0] TAr)).alloc (.cells #[.int .i64 2, .int .i64 1, .int .i64 1, .int .i64 1, .int .u32 0, .int .i64 1, .int .u32 0, .int .i64 0, .int .i64 0, .int .i64 0, .bool false, .slice none 0 0] TIn)) := HB6.out.trans (hb12.mono HB6.out.size)
  have HP12 : Hid (PgOK ((W9.alloc (.cells #[.int .i64 1, .int .u32 0] TAr)).alloc (.cells #[.int .i64 2, .int .i64 1, .int .i64 1, .int .i64 1, .int .u32 0, .int .i64 1, .int .u32 0, .int .i64 0, .int .i64 0, .int .i64 0, .bool false, .slice none 0 0] TIn)) (headP (some ⟨w.heap.size, 0, none⟩) 2) ⟨none, 0, some ⟨w.heap.size + 1, 0, none⟩, 1⟩) := HPG.out _ hb312
  have HBW : Hid (Below w.heap.size w ((W9.alloc (.cells #[.int .i64 1, .int .u32 0] TAr)).alloc (.cells #[.int .i64 2, .int .i64 1, .int .i64 1, .int .i64 1, .int .u32 0, .int .i64 1, .int .u32 0, .int .i64 0, .int .i64 0, .int .i64 0, .bool false, .slice none 0 0] TIn))) := HB3.out.trans (hb312.mono HB3.out.size)
  have HW : Hid (PrW ((W9.alloc (.cells #[.int .i64 1, .int .u32 0] TAr)).alloc (.cells #[.int .i64 2, .int .i64 1, .int .i64 1, .int .i64 1, .int .u32 0, .int .i64 1, .int .u32 0, .int .i64 0, .int .i64 0, .int .i64 0, .bool false, .slice none 0 0] TIn))) := HP.out.below HBW.out
  clear k1 k2 N12 kz k12 hb12 hb312 HN1 HN2 HN3 HN6 HN9 HSP HQ6 HPG HB9 HT9 HCW HHC HFO HEQ HRO HB7 HQ5 HB5 HB4 HB4' HB6 HGS HB3 HM HP
  generalize ((W9.alloc (.cells #[.int .i64 1, .int .u32 0] TAr)).alloc (.cells #[.int .i64 2, .int .i64 1, .int .i64 1, .int .i64 1, .int .u32 0, .int .i64 1, .int .u32 0, .int .i64 0, .int .i64 0, .int .i64 0, .bool false, .slice none 0 0] TIn)) = W12 at *
  generalize W9.heap.size + 1 = b12 at *
  have cR : Hid (∀ Y, Below W12.heap.size W12 Y → Calls Tryz.prog 16 #[.agg #[.slice none 0 0, .slice (some ⟨w.heap.size + 1, 0, none⟩) 1 1, .int .i64 0], .agg #[.slice none 0 0, .slice qp 1 qc, .int .i64 0]] Y fun e w' => e = .returned (.bool true) ∧ Below Y.heap.size Y w') := fun Y hY => head_prog (HP12.out.below hY) (HQ12.out.below hY)
  have cK1 : Hid (∀ Y, Below W12.heap.size W12 Y → Calls Tryz.prog 9 #[.agg #[.slice none 0 0, .slice (some ⟨w.heap.size + 1, 0, none⟩) 1 1, .int .i64 0]] Y fun e w' => e = .returned (.int .i64 0) ∧ Below Y.heap.size Y w') := fun Y hY => head_chk (HP12.out.below hY) (HW.out.below hY)
  have cK2 : Hid (∀ Y, Below W12.heap.size W12 Y → Calls Tryz.prog 9 #[.agg #[.slice none 0 0, .slice (some ⟨gs, 0, none⟩) 1 sc, .int .i64 0]] Y fun e w' => e = .returned (.int .i64 130) ∧ Below Y.heap.size Y w') := fun Y hY => head_chk2 (HSP12.out.below hY) hs2 hs1 (HW.out.below hY)
  clear HP12 HQ12 HSP12 HW hs1 hs2
  have p0 := (Lib.cell_of_heap M3.out 0).trans rfl
  have p1 := (Lib.cell_of_heap M3.out 1).trans rfl
  have p2 := (Lib.cell_of_heap M3.out 2).trans rfl
  have q0 := (Lib.cell_of_heap M6.out 0).trans rfl
  have q1 := (Lib.cell_of_heap M6.out 1).trans rfl
  have q2 := (Lib.cell_of_heap M6.out 2).trans rfl
  have ee : headS.toList = [102, 117, 110, 99, 32, 109, 97, 105, 110, 32, 48, 32, 49, 32, 103, 105, 118, 101, 115, 10, 109, 111, 118, 32, 116, 48, 32, 35, 53, 10, 114, 101, 116, 32, 116, 48, 10, 109, 97, 105, 110, 32, 48, 10] := by decide +kernel
  go_wp2_with (first
    | (go_at_call 16; refine (cR.out _ (Below.refl _ _)).mono ?_; rintro e w13 ⟨rfl, hb13⟩; have HB13 : Hid (Below W12.heap.size W12 w13) := hb13; clear cR p0 p1 p2 q0 q1 q2 hb13; have p0 := (Lib.cell_of_heap (blk_b M3.out HB13.out) 0).trans rfl; have p1 := (Lib.cell_of_heap (blk_b M3.out HB13.out) 1).trans rfl; have p2 := (Lib.cell_of_heap (blk_b M3.out HB13.out) 2).trans rfl)
    | (go_at_call 9; refine (cK1.out _ HB13.out).mono ?_; rintro e w14 ⟨rfl, hb14⟩; have HB14 : Hid (Below W12.heap.size W12 w14) := HB13.out.trans (hb14.mono HB13.out.size); clear cK1 p0 p1 p2 hb14; have p0 := (Lib.cell_of_heap (blk_b M9.out HB14.out) 0).trans rfl; have p1 := (Lib.cell_of_heap (blk_b M9.out HB14.out) 1).trans rfl; have p2 := (Lib.cell_of_heap (blk_b M9.out HB14.out) 2).trans rfl)
    | (go_at_call 9; refine (cK2.out _ HB14.out).mono ?_; rintro e w15 ⟨rfl, hb15⟩; have HB15 : Hid (Below W12.heap.size W12 w15) := HB14.out.trans (hb15.mono HB14.out.size); clear cK2 p0 p1 p2 hb15; have r0 := (Lib.cell_of_heap (blk_b M12.out HB15.out) 0).trans rfl; have r1 := (Lib.cell_of_heap (blk_b M12.out HB15.out) 1).trans rfl; have r2 := (Lib.cell_of_heap (blk_b M12.out HB15.out) 2).trans rfl; have r3 := (Lib.cell_of_heap (blk_b M12.out HB15.out) 3).trans rfl; have r4 := (Lib.cell_of_heap (blk_b M12.out HB15.out) 4).trans rfl; have r5 := (Lib.cell_of_heap (blk_b M12.out HB15.out) 5).trans rfl; have r6 := (Lib.cell_of_heap (blk_b M12.out HB15.out) 6).trans rfl; have r7 := (Lib.cell_of_heap (blk_b M12.out HB15.out) 7).trans rfl; have r8 := (Lib.cell_of_heap (blk_b M12.out HB15.out) 8).trans rfl; have r9 := (Lib.cell_of_heap (blk_b M12.out HB15.out) 9).trans rfl; have r10 := (Lib.cell_of_heap (blk_b M12.out HB15.out) 10).trans rfl; have r11 := (Lib.cell_of_heap (blk_b M12.out HB15.out) 11).trans rfl)
    | (go_at_call 13; refine (head_reads _).mono ?_; rintro e w16 ⟨v16, rfl, hi16, hb16⟩; have HB16 : Hid (Below W12.heap.size W12 w16) := HB15.out.trans (hb16.mono HB15.out.size); have HI16 : Hid (IntSl w16 v16 [0, 0]) := hi16; clear r0 r1 r2 r3 r4 r5 r6 r7 r8 r9 r10 r11 hb16 hi16)
    | (go_at_call 17; refine (head_ints1 HI16.out).mono ?_; rintro e w17 ⟨rfl, hb17⟩; have HB17 : Hid (Below W12.heap.size W12 w17) := HB16.out.trans (hb17.mono HB16.out.size); clear HI16 hb17; have r0 := (Lib.cell_of_heap (blk_b M12.out HB17.out) 0).trans rfl; have r1 := (Lib.cell_of_heap (blk_b M12.out HB17.out) 1).trans rfl; have r2 := (Lib.cell_of_heap (blk_b M12.out HB17.out) 2).trans rfl; have r3 := (Lib.cell_of_heap (blk_b M12.out HB17.out) 3).trans rfl; have r4 := (Lib.cell_of_heap (blk_b M12.out HB17.out) 4).trans rfl; have r5 := (Lib.cell_of_heap (blk_b M12.out HB17.out) 5).trans rfl; have r6 := (Lib.cell_of_heap (blk_b M12.out HB17.out) 6).trans rfl; have r7 := (Lib.cell_of_heap (blk_b M12.out HB17.out) 7).trans rfl; have r8 := (Lib.cell_of_heap (blk_b M12.out HB17.out) 8).trans rfl; have r9 := (Lib.cell_of_heap (blk_b M12.out HB17.out) 9).trans rfl; have r10 := (Lib.cell_of_heap (blk_b M12.out HB17.out) 10).trans rfl; have r11 := (Lib.cell_of_heap (blk_b M12.out HB17.out) 11).trans rfl)
    | (have hx := HB17; clear hx; go_at_call 12; refine (head_writes _).mono ?_; rintro e w18 ⟨rfl, hb18⟩; have HB18 : Hid (Below W12.heap.size W12 w18) := HB17.out.trans (hb18.mono HB17.out.size); clear HB17 r0 r1 r2 r3 r4 r5 r6 r7 r8 r9 r10 r11 hb18; have r0 := (Lib.cell_of_heap (blk_b M1.out HB18.out) 12).trans rfl; have r1 := (Lib.cell_of_heap (blk_b M1.out HB18.out) 13).trans rfl; have r2 := (Lib.cell_of_heap (blk_b M1.out HB18.out) 14).trans rfl; have r3 := (Lib.cell_of_heap (blk_b M1.out HB18.out) 15).trans rfl; have r4 := (Lib.cell_of_heap (blk_b M1.out HB18.out) 16).trans rfl; have r5 := (Lib.cell_of_heap (blk_b M1.out HB18.out) 17).trans rfl; have r6 := (Lib.cell_of_heap (blk_b M1.out HB18.out) 18).trans rfl; have r7 := (Lib.cell_of_heap (blk_b M1.out HB18.out) 19).trans rfl; have r8 := (Lib.cell_of_heap (blk_b M1.out HB18.out) 20).trans rfl; have r9 := (Lib.cell_of_heap (blk_b M1.out HB18.out) 21).trans rfl; have r10 := (Lib.cell_of_heap (blk_b M1.out HB18.out) 22).trans rfl; have r11 := (Lib.cell_of_heap (blk_b M1.out HB18.out) 23).trans rfl)
    | (have hx := HB18; clear hx; go_at_call 12; refine (head_writes2 _).mono ?_; rintro e w19 ⟨rfl, hb19⟩; have HB19 : Hid (Below W12.heap.size W12 w19) := HB18.out.trans (hb19.mono HB18.out.size); clear r0 r1 r2 r3 r4 r5 r6 r7 r8 r9 r10 r11 hb19)
    | (go_at_call 11; refine (head_next0 (head_inV (blk_b M1.out HB19.out))).mono ?_; rintro e w20 ⟨v20, rfl, hi20, hb20⟩; have HB20 : Hid (Below W12.heap.size W12 w20) := HB19.out.trans (hb20.mono HB19.out.size); have HI20 : Hid (IntSl w20 v20 [1]) := hi20; clear HB19 hb20 hi20)
    | (go_at_call 17; refine (head_ints2 HI20.out).mono ?_; rintro e w21 ⟨rfl, hb21⟩; have HB21 : Hid (Below W12.heap.size W12 w21) := HB20.out.trans (hb21.mono HB20.out.size); clear HI20 hb21)
    | (go_at_call 11; refine (head_next1 (head_inV (blk_b M1.out HB21.out))).mono ?_; rintro e w22 ⟨p22, c22, rfl, hb22⟩; have HB22 : Hid (Below W12.heap.size W12 w22) := HB21.out.trans (hb22.mono HB21.out.size); clear hb22)
    | fail)
  go_ret
  exact ⟨rfl, HBW.out.trans (HB22.out.mono HBW.out.size)⟩
end
end Go.Proofs.YtaaphipbkpjkjaaGreatDoor
