/-
  A function's lines: (*writer).function.
-/
import Derived.Test.YtaaphipbkpjkjaaGreatDoorKO
import Derived.Deep.RegionHeld3
namespace Go.Proofs.YtaaphipbkpjkjaaGreatDoor
open Go.RowKit Go.Maps
set_option linter.unusedVariables false
set_option linter.unusedSimpArgs false
set_option maxRecDepth 100000
theorem SH.alloc {W0 Y : World} (h : SH W0 Y) (o : Obj) : SH W0 (Y.alloc o) := Below.trans h ((below1 Y o).mono (Below.size h))
theorem SH.refl (W : World) : SH W W := Below.refl _ _
theorem SH.blk {W0 Y : World} {g : Nat} {o : Obj} (h : SH W0 Y) (hg : W0.heap[g]? = some o) : Y.heap[g]? = some o := blk_b hg h
/-- The tables that printing reads. -/
structure PrW (w : World) : Prop where
  tabs : Tabs w
  forms : FormsIn w
  words : WordsIn w
  names : NamesIn w
  pos : 0 < w.heap.size
theorem FormsIn.bel {w w' : World} (h : FormsIn w) (hb : Below w.heap.size w w') : FormsIn w' := fun i s hi => (hb.cell (p := ⟨0, i * 2 + 1, none⟩) (World.block_lt_of_cell? w _ (h i s hi))).trans (h i s hi)
theorem PrW.below {w w' : World} (h : PrW w) (hb : Below w.heap.size w w') : PrW w' := ⟨h.tabs.below hb, h.forms.bel hb, h.words.below hb, h.names.below hb, Nat.lt_of_lt_of_le h.pos hb.size⟩
theorem Below.of_kp {w0 : World} {b : Nat} {w w' : World} (hb : Below w0.heap.size w0 w) (hk : Kp w0.heap.size b w w') : Below w0.heap.size w0 w' := hb.trans (hk.below hb.size)
theorem Kp.sh {B b : Nat} {w W Y : World} (hk : Kp B b w W) (h : SH W Y) : Kp B b w Y := hk.trans (Kp.of_below h)
theorem Kp.drew {B b : Nat} {w w' : World} (h : Kp B b w w') : Kp B b w w'.drew := h.trans (Kp.of_below (Below.refl _ _).drew)
theorem Kp.alloc {B b : Nat} {w w' : World} (h : Kp B b w w') (o : Obj) : Kp B b w (w'.alloc o) := h.trans (Kp.of_below (below1 _ o))
theorem Kp.bel {B b : Nat} {w w' w'' : World} (h : Kp B b w w') (hb : Below w'.heap.size w' w'') : Kp B b w w'' := h.trans (Kp.of_below hb)
theorem Kp.cel {B b : Nat} {w w' : World} (h : Kp B b w w') {g : Nat} {cs : Array Value} {t : TypeId} (hg : w.heap[g]? = some (.cells cs t (0, 0))) (hgb : g ≠ b) (ht : t ≠ TBy) (j : Nat) : w'.cell? ⟨g, j, none⟩ = cs[j]? := Lib.cell_of_heap (h.blk hg hgb ht) j
theorem WrT.ne {B b : Nat} {t : List UInt8} {w : World} (h : WrT B b t w) {g : Nat} {cs : Array Value} {ty : TypeId} (hg : w.heap[g]? = some (.cells cs ty (0, 0))) (ht : ty ≠ TWr) : g ≠ b := by
  obtain ⟨_, v, hb, _⟩ := h
  exact tag_ne hg hb ht
/-- A line of so many words that lie in a new block. -/
theorem line_new {B b : Nat} {t : List UInt8} {W Y : World} (hT : WrT B b t W) (hB : B ≤ W.heap.size) (h : SH W Y) (ws : List ByteArray) (hn : ws ≠ []) (hok : ws.length ≤ 6000000 ∧ ∀ s ∈ ws, s.size ≤ 100000) (ht : t.length ≤ 10000000000000) {g : Nat} (hg : Y.heap[g]? = some (.cells (stV ws).toArray TStr (0, 0))) :
    Calls Tryz.prog 62 #[.pointer (some ⟨b, 0, none⟩), .slice (some ⟨g, 0, none⟩) ws.length ws.length] Y fun e w' => e = .returned (.tuple #[]) ∧ WrT B b (lineS t ws) w' ∧ Kp B b W w' :=
  (line_c (hT.below h) (Nat.le_trans hB (Below.size h)) ⟨⟨Nat.le_refl _, fun e => by cases e⟩, fun _ => ⟨g, 0, _, rfl, hg, fun i s hs => by simp [stV, hs]⟩⟩ (by have := lineT_ok hok; omega) (by have := hok.1; omega)).mono
    (by rintro e w' ⟨rfl, h1, h2⟩; exact ⟨rfl, h1, (Kp.of_below h).trans h2⟩)
theorem newS_many {w y : World} (h : Below w.heap.size w y) (ws : List ByteArray) (hl : ws.length ≤ 1000 := by simp) : NewS w (y.alloc (.cells (stV ws).toArray TStr)) (.slice (some ⟨y.heap.size, 0, none⟩) ws.length ws.length) ws :=
  ⟨h.trans ((below1 y _).mono h.size), by simp [stV], Or.inr ⟨_, _, _, rfl, h.size, heap_r0 _ _, Nat.le_refl _, by unfold maxLen; omega, by simp [stV], by simp only [List.toList_toArray, Nat.mul_one]; rw [List.take_of_length_le (by simp [stV])]⟩⟩
section
variable {w0 w : World} {b : Nat} {t : List UInt8}
set_option maxHeartbeats 16000000 in
theorem wfun_c (hP : PrW w0) {q : Fg} (hq : FgOK w0 q) (hqp : FgP q) (hb : Below w0.heap.size w0 w) (hT : WrT w0.heap.size b t w) (ht : t.length ≤ 10000000000000) :
    Calls Tryz.prog 61 #[.pointer (some ⟨b, 0, none⟩), .agg (fnC q.f).toArray] w fun e w' => e = .returned (.tuple #[]) ∧ (linS t (fnLines q)).length ≤ 10000000000000 ∧ WrT w0.heap.size b (linS t (fnLines q)) w' ∧ Kp w0.heap.size b w w' := by
  obtain ⟨⟨nm, pr, tp, gv, sp, sn, sc, cp, cn, cc⟩, sls, code⟩ := q
  have HQ : Hid (FgOK w0 ⟨⟨nm, pr, tp, gv, sp, sn, sc, cp, cn, cc⟩, sls, code⟩) := hq
  have HQP : Hid (FgP ⟨⟨nm, pr, tp, gv, sp, sn, sc, cp, cn, cc⟩, sls, code⟩) := hqp
  have hsn := hq.sn
  have hcn := hq.cn
  simp only at hsn hcn
  subst hsn hcn
  simp only [fnC]
  have b1 := below1 w (.cells #[.string nm, .int .i64 pr, .int .i64 tp, .bool gv, .slice sp sls.length sc, .slice cp code.length cc] TFn)
  have N1 := heap_r0 w (.cells #[.string nm, .int .i64 pr, .int .i64 tp, .bool gv, .slice sp sls.length sc, .slice cp code.length cc] TFn)
  have HG1 : Hid ((w.alloc (.cells #[.string nm, .int .i64 pr, .int .i64 tp, .bool gv, .slice sp sls.length sc, .slice cp code.length cc] TFn)).heap[w.heap.size]? = some (.cells #[.string nm, .int .i64 pr, .int .i64 tp, .bool gv, .slice sp sls.length sc, .slice cp code.length cc] TFn (0, 0))) := N1
  have HB1 : Hid (Below w0.heap.size w0 (w.alloc (.cells #[.string nm, .int .i64 pr, .int .i64 tp, .bool gv, .slice sp sls.length sc, .slice cp code.length cc] TFn))) := hb.trans (b1.mono hb.size)
  have HT1 : Hid (WrT w0.heap.size b t (w.alloc (.cells #[.string nm, .int .i64 pr, .int .i64 tp, .bool gv, .slice sp sls.length sc, .slice cp code.length cc] TFn))) := hT.below b1
  have HK1 : Hid (Kp w0.heap.size b w (w.alloc (.cells #[.string nm, .int .i64 pr, .int .i64 tp, .bool gv, .slice sp sls.length sc, .slice cp code.length cc] TFn))) := Kp.of_below b1
  have HP : Hid (PrW w0) := hP
  have HB0 : Hid (Below w0.heap.size w0 w) := hb
  clear hP hq hqp b1 N1 hT hb
  go_enter Tryz.func61, Tryz.ntmps61
  go_upto_region 1 with (fail)
  refine (?_ : Code.wp _ _ _ _ (w.alloc (.cells #[.string nm, .int .i64 pr, .int .i64 tp, .bool gv, .slice sp sls.length sc, .slice cp code.length cc] TFn)))
  generalize w.alloc (.cells #[.string nm, .int .i64 pr, .int .i64 tp, .bool gv, .slice sp sls.length sc, .slice cp code.length cc] TFn) = W1 at *
  go_cut [4] from 9 to 17 (fun s4 wx => Hid (NewS W1 wx s4 [sB [102, 117, 110, 99], nm, decS pr, decS tp]))
  case first =>
    have L0 : ∀ Y, SH W1 Y → Y.cell? ⟨w.heap.size, 0, none⟩ = some (.string nm) := fun Y h => h.cell HG1.out (Lib.cell_of_heap HG1.out 0)
    have L1 : ∀ Y, SH W1 Y → Y.cell? ⟨w.heap.size, 1, none⟩ = some (.int .i64 pr) := fun Y h => h.cell HG1.out (Lib.cell_of_heap HG1.out 1)
    have L2 : ∀ Y, SH W1 Y → Y.cell? ⟨w.heap.size, 2, none⟩ = some (.int .i64 tp) := fun Y h => h.cell HG1.out (Lib.cell_of_heap HG1.out 2)
    have CI1 : Hid (∀ Y, SH W1 Y → Calls Tryz.prog 63 #[.int .i64 pr] Y fun e w' => e = .returned (.string (decS pr)) ∧ Below Y.heap.size Y w') := fun Y h => itoa_c (HP.out.tabs.below (HB1.out.trans (Below.mono h HB1.out.size))) pr HQP.out.pr.1 HQP.out.pr.2
    have CI2 : Hid (∀ Y, SH W1 Y → Calls Tryz.prog 63 #[.int .i64 tp] Y fun e w' => e = .returned (.string (decS tp)) ∧ Below Y.heap.size Y w') := fun Y h => itoa_c (HP.out.tabs.below (HB1.out.trans (Below.mono h HB1.out.size))) tp HQP.out.tp.1 HQP.out.tp.2
    have HSH : SH W1 W1 := SH.refl W1
    generalize decS pr = dp at *
    generalize decS tp = dt at *
    go_region_held3 (fun Y => SH W1 Y) (with_reducible first | assumption | (refine SH.drew ?_; assumption) | (refine SH.below ?_ (by assumption); assumption) | (refine SH.alloc ?_ _; assumption) | (refine SH.drew ?_; refine SH.alloc ?_ _; assumption)) (first
      | (go_at_call_of 63 (Value.int .i64 pr); refine (CI1.out _ ?_).mono ?_; (with_reducible first | assumption | (refine SH.drew ?_; assumption) | (refine SH.below ?_ (by assumption); assumption)); rintro e y1 ⟨rfl, hy1⟩)
      | (go_at_call 63; refine (CI2.out _ ?_).mono ?_; (with_reducible first | assumption | (refine SH.drew ?_; assumption) | (refine SH.below ?_ (by assumption); assumption)); rintro e y2 ⟨rfl, hy2⟩))
    all_goals go_wp2_with fail
    go_meet
    exact newS_many (Below.trans (SH.drew HSH) (Below.mono (Below.trans hy1 (hy2.mono hy1.size)) (Below.size (SH.drew HSH)))) [sB [102, 117, 110, 99], nm, dp, dt]
  case rest =>
    have HN : Hid (NewS W1 wc u4 [sB [102, 117, 110, 99], nm, decS pr, decS tp]) := hcut
    obtain ⟨p4, c4, rfl⟩ := slice_of_own HN.out.2
    have HGc : Hid (wc.heap[w.heap.size]? = some (.cells #[.string nm, .int .i64 pr, .int .i64 tp, .bool gv, .slice sp sls.length sc, .slice cp code.length cc] TFn (0, 0))) := blk_b HG1.out HN.out.1
    have k3 := (Lib.cell_of_heap HGc.out 3).trans rfl
    go_upto_if 19 with (fail)
    go_cut [4] from 19 to 22 (fun s4 wx => Hid (NewS W1 wx s4 (fnHeadW ⟨nm, pr, tp, gv, sp, sls.length, sc, cp, code.length, cc⟩)))
    case first =>
      have HF1 : Hid (fnHeadW ⟨nm, pr, tp, gv, sp, sls.length, sc, cp, code.length, cc⟩ = [sB [102, 117, 110, 99], nm, decS pr, decS tp] ++ (if gv then [sB [103, 105, 118, 101, 115]] else [])) := rfl
      generalize fnHeadW ⟨nm, pr, tp, gv, sp, sls.length, sc, cp, code.length, cc⟩ = FH at *
      generalize hLL : [sB [102, 117, 110, 99], nm, decS pr, decS tp] = LL at *
      have hll : Hid (LL.length = 4) := by rw [← hLL]; rfl
      obtain ⟨i0, hi0, hz0, hz1, hz2⟩ := info_parts infoS
      clear hLL
      cases gv with
      | true =>
        have b5 := below1 wc (.cells #[.string (sB [103, 105, 118, 101, 115])] TStr)
        have HB5 : Hid (Below W1.heap.size W1 (wc.alloc (.cells #[.string (sB [103, 105, 118, 101, 115])] TStr))) := HN.out.1.trans (b5.mono HN.out.1.size)
        have HO5 : Hid ((wc.alloc (.cells #[.string (sB [103, 105, 118, 101, 115])] TStr)).ownsRow W1.heap.size TStr 1 (.slice p4 LL.length c4) LL.length (stV LL)) := ownsRow_turned HN.out.2 (Turned.of_below b5 (fun _ => False)) (fun _ _ h => h)
        have nw := cells_new wc #[.string (sB [103, 105, 118, 101, 115])] TStr
        clear b5
        go_wp2_with (first | (at_builtin; refine wpList_append_own _ rfl _ _ 83 rfl W1.heap.size TStr i0 (.string ⟨#[]⟩) 1 16 Tryz.underlying83 hi0 hz0 hz1 hz2 rfl (by decide) _ _ _ rfl HO5.out ⟨wc.heap.size, 0, none⟩ 1 1 [.string (sB [103, 105, 118, 101, 115])] rfl rfl nw (by intro u hu; simp at hu; subst hu; rfl) (by have := hll.out; unfold maxLen; omega) (by have := hll.out; omega) HB5.out.size ?_) | fail)
        intro v' w7 ho7 hgr _
        have HNW : Hid (NewS W1 w7 v' FH) := by
          rw [HF1.out]
          exact ⟨below_grown HB5.out HB5.out.size hgr (fun g e => (ownsRow_at HO5.out e).1), by simpa [stV] using ho7⟩
        clear ho7 hgr
        go_wp2
        go_meet
        exact HNW
      | false =>
        have HNW : Hid (NewS W1 wc (.slice p4 LL.length c4) FH) := by
          rw [HF1.out]
          show NewS _ _ _ _
          simpa using HN.out
        go_wp2
        go_meet
        exact HNW
    case rest =>
      rename World => w2
      have HN2 : Hid (NewS W1 w2 u4 (fnHeadW ⟨nm, pr, tp, gv, sp, sls.length, sc, cp, code.length, cc⟩)) := hcut
      obtain ⟨p5, c5, rfl, hs5⟩ := HN2.out.strV
      have HT2 : Hid (WrT w0.heap.size b t w2) := HT1.out.below HN2.out.1
      have HK2 : Hid (Kp w0.heap.size b w w2) := HK1.out.trans (Kp.of_below HN2.out.1)
      have hBw : w0.heap.size ≤ w.heap.size := HB0.out.size
      have hok := fnHeadW_ok HQP.out
      have cL := line_c HT2.out (Nat.le_trans hBw HK2.out.size) hs5 (by have := lineT_ok hok; simp only at this ⊢; omega) (by have := hok.1; simp only at this ⊢; omega)
      have HLE : Hid ((lineS t (fnHeadW ⟨nm, pr, tp, gv, sp, sls.length, sc, cp, code.length, cc⟩)).length ≤ 10000000000000) := lineS_le ht (lineT_ok hok)
      have HG2 : Hid (w2.heap[w.heap.size]? = some (.cells #[.string nm, .int .i64 pr, .int .i64 tp, .bool gv, .slice sp sls.length sc, .slice cp code.length cc] TFn (0, 0))) := blk_b HG1.out HN2.out.1
      have HFL : Hid (fnLines ⟨⟨nm, pr, tp, gv, sp, sls.length, sc, cp, code.length, cc⟩, sls, code⟩ = [fnHeadW ⟨nm, pr, tp, gv, sp, sls.length, sc, cp, code.length, cc⟩] ++ sls.map slotW ++ code.map fun i => wordsP i.x) := rfl
      generalize fnHeadW ⟨nm, pr, tp, gv, sp, sls.length, sc, cp, code.length, cc⟩ = FH at *
      clear hcut hs5 hok HN k3
      go_wp2_with (first | (go_at_call 62; refine cL.mono ?_; rintro e w3 ⟨rfl, hT3, hK3⟩; have HT3 : Hid (WrT w0.heap.size b (lineS t FH) w3) := hT3; have HG3 : Hid (w3.heap[w.heap.size]? = some (.cells #[.string nm, .int .i64 pr, .int .i64 tp, .bool gv, .slice sp sls.length sc, .slice cp code.length cc] TFn (0, 0))) := hK3.blk HG2.out (by obtain ⟨_, v, hg, _⟩ := HT2.out; exact tag_ne HG2.out hg (by decide)) (by decide); have HK3 : Hid (Kp w0.heap.size b w w3) := HK2.out.trans hK3; have k4 := (Lib.cell_of_heap HG3.out 4).trans rfl; clear hT3 hK3 cL) | fail)
      clear k4
      go_loopw [29] (fun iv wr => ∃ k : Nat, iv = .int .i64 k ∧ k ≤ sls.length ∧ Hid (WrT w0.heap.size b (linS t ([FH] ++ (sls.take k).map slotW)) wr) ∧ Hid ((linS t ([FH] ++ (sls.take k).map slotW)).length ≤ 10000000000000) ∧ Hid (wr.heap[w.heap.size]? = some (.cells #[.string nm, .int .i64 pr, .int .i64 tp, .bool gv, .slice sp sls.length sc, .slice cp code.length cc] TFn (0, 0))) ∧ Hid (Kp w0.heap.size b w wr)) (fun iv _ => sls.length - (intOf iv).toNat)
      case atStart => exact ⟨0, rfl, Nat.zero_le _, HT3, HLE, HG3, HK3⟩
      case round =>
        obtain ⟨k, rfl, hk, HTk, HLk, HGk, HKk⟩ := hrel
        have HBk : Hid (Below w0.heap.size w0 wr) := Below.of_kp HB0.out HKk.out
        by_cases hlt : k < sls.length
        · obtain ⟨sl, hsl⟩ : ∃ sl, sls[k]? = some sl := ⟨_, List.getElem?_eq_getElem hlt⟩
          have hrow := HQ.out.sl.below HBk.out
          simp only at hrow
          obtain ⟨g, o, rfl, hg, hc⟩ := hrow.2 k sl hsl
          have hcap := hrow.1.1
          have hsm := HQ.out.sm
          simp only at hsm
          have a0 := hc 0 (by omega)
          have a1 := hc 1 (by omega)
          simp only [slC, List.getElem?_cons_zero, List.getElem?_cons_succ, Nat.add_zero] at a0 a1
          obtain ⟨hs1, hs2⟩ := HQP.out.sl sl (List.mem_of_getElem? hsl)
          have HTK : Hid (linS t ([FH] ++ (sls.take (k + 1)).map slotW) = lineS (linS t ([FH] ++ (sls.take k).map slotW)) (slotW sl)) := by
            show _ = _
            rw [take_succ hsl, List.map_append, ← List.append_assoc]
            exact linS_snoc _ _ _
          generalize linS t ([FH] ++ (sls.take k).map slotW) = TK at *
          have HL2 : Hid ((lineS TK (slotW sl)).length ≤ 10000000000000) := lineS_le HLk.out (lineT_ok (slotW_ok ⟨hs1, hs2⟩))
          have hold := heap_r0 wr (.cells #[.int .i64 0, .int .i64 0] TSl)
          have N5 := heap_r0 wr (.cells #[.int .i64 sl.size, .int .i64 sl.align] TSl)
          have b5 := below1 wr (.cells #[.int .i64 sl.size, .int .i64 sl.align] TSl)
          have HN5 : Hid ((wr.alloc (.cells #[.int .i64 sl.size, .int .i64 sl.align] TSl)).heap[wr.heap.size]? = some (.cells #[.int .i64 sl.size, .int .i64 sl.align] TSl (0, 0))) := N5
          have HB5 : Hid (Below w0.heap.size w0 (wr.alloc (.cells #[.int .i64 sl.size, .int .i64 sl.align] TSl))) := HBk.out.trans (b5.mono HBk.out.size)
          have HT5 : Hid (WrT w0.heap.size b TK (wr.alloc (.cells #[.int .i64 sl.size, .int .i64 sl.align] TSl))) := HTk.out.below b5
          have HG5 : Hid ((wr.alloc (.cells #[.int .i64 sl.size, .int .i64 sl.align] TSl)).heap[w.heap.size]? = some (.cells #[.string nm, .int .i64 pr, .int .i64 tp, .bool gv, .slice (some ⟨g, o, none⟩) sls.length sc, .slice cp code.length cc] TFn (0, 0))) := blk_b HGk.out b5
          have HK5 : Hid (Kp w0.heap.size b w (wr.alloc (.cells #[.int .i64 sl.size, .int .i64 sl.align] TSl))) := HKk.out.trans (Kp.of_below b5)
          clear hsl hrow hg hc N5 b5
          go_upto_region 8 with (first | ((with_reducible apply step_store hold); rfl; rfl; kernel_rfl; rfl; kernel_rfl; rw [World.setRow_alloc_new]) | fail)
          generalize hW5 : wr.alloc (.cells #[.int .i64 sl.size, .int .i64 sl.align] TSl) = W5 at *
          have L0 : ∀ Y, Kp w0.heap.size b W5 Y → Y.cell? ⟨wr.heap.size, 0, none⟩ = some (.int .i64 sl.size) := fun Y h => h.cel HN5.out (HT5.out.ne HN5.out (by decide)) (by decide) 0
          have L1 : ∀ Y, Kp w0.heap.size b W5 Y → Y.cell? ⟨wr.heap.size, 1, none⟩ = some (.int .i64 sl.align) := fun Y h => h.cel HN5.out (HT5.out.ne HN5.out (by decide)) (by decide) 1
          have CI1 : Hid (∀ Y, SH W5 Y → Calls Tryz.prog 63 #[.int .i64 sl.size] Y fun e w' => e = .returned (.string (decS sl.size)) ∧ Below Y.heap.size Y w') := fun Y h => itoa_c (HP.out.tabs.below (HB5.out.trans (Below.mono h HB5.out.size))) _ hs1.1 hs1.2
          have CI2 : Hid (∀ Y, SH W5 Y → Calls Tryz.prog 63 #[.int .i64 sl.align] Y fun e w' => e = .returned (.string (decS sl.align)) ∧ Below Y.heap.size Y w') := fun Y h => itoa_c (HP.out.tabs.below (HB5.out.trans (Below.mono h HB5.out.size))) _ hs2.1 hs2.2
          have CL : Hid (∀ Y, SH W5 Y → Calls Tryz.prog 62 #[.pointer (some ⟨b, 0, none⟩), .slice (some ⟨Y.heap.size, 0, none⟩) 3 3] (Y.alloc (.cells #[.string ⟨#[115, 108, 111, 116]⟩, .string (decS sl.size), .string (decS sl.align)] TStr)) fun e w' => e = .returned (.tuple #[]) ∧ WrT w0.heap.size b (lineS TK (slotW sl)) w' ∧ Kp w0.heap.size b W5 w') :=
            fun Y h => line_new HT5.out HB5.out.size (h.alloc _) (slotW sl) (by simp [slotW]) (slotW_ok ⟨hs1, hs2⟩) HLk.out (heap_r0 Y _)
          have HSH : SH W5 W5 := SH.refl W5
          have HKP : Kp w0.heap.size b W5 W5 := Kp.refl _ _ _
          generalize lineS TK (slotW sl) = TK2 at *
          generalize decS sl.size = dp at *
          generalize decS sl.align = dt at *
          clear hs1 hs2 a0 a1 hold
          generalize sl.size = z1 at *
          generalize sl.align = z2 at *
          go_region_held3 (fun Y => Kp w0.heap.size b W5 Y) (with_reducible first | assumption | (refine Kp.drew ?_; assumption) | (refine Kp.alloc ?_ _; assumption) | (refine Kp.drew ?_; refine Kp.alloc ?_ _; assumption)) (first
            | (go_at_call_of 63 (Value.int .i64 z1); refine (CI1.out _ ?_).mono ?_; (with_reducible first | assumption | (refine SH.drew ?_; assumption) | (refine SH.below ?_ (by assumption); assumption)); rintro e y1 ⟨rfl, hy1⟩; have HS1 : SH W5 y1 := SH.below (SH.drew HSH) hy1; have HP1 : Kp w0.heap.size b W5 y1 := Kp.of_below HS1)
            | (go_at_call 63; refine (CI2.out _ ?_).mono ?_; (with_reducible first | assumption | (refine SH.drew ?_; assumption) | (refine SH.below ?_ (by assumption); assumption)); rintro e y2 ⟨rfl, hy2⟩; have HS2 : SH W5 y2 := SH.below HS1 hy2; have HP2 : Kp w0.heap.size b W5 y2 := Kp.of_below HS2)
            | (go_at_call 62; refine (CL.out _ ?_).mono ?_; (with_reducible first | assumption | (refine SH.drew ?_; assumption) | (refine SH.below ?_ (by assumption); assumption)); rintro e y3 ⟨rfl, hT6, hK6⟩))
          have HT6 : Hid (WrT w0.heap.size b TK2 y3) := hT6
          have HG6 := hK6.blk HG5.out (HT5.out.ne HG5.out (by decide)) (by decide)
          have HK6 : Hid (Kp w0.heap.size b w y3) := HK5.out.trans hK6
          clear L0 L1 CI1 CI2 CL HS1 HS2 HP1 HP2 hT6 hK6 hy1 hy2 HSH HKP
          go_wp2
          refine ⟨⟨k + 1, by go_num, by omega, by rw [HTK.out]; exact HT6, by rw [HTK.out]; exact HL2, HG6, HK6⟩, by simp [intOf]; omega⟩
        · obtain rfl : k = sls.length := by omega
          rw [List.take_length] at HTk HLk
          have k5 := (Lib.cell_of_heap HGk.out 5).trans rfl
          have HT7 : Hid (WrT w0.heap.size b (linS t ([FH] ++ sls.map slotW)) wr) := HTk
          obtain ⟨W7, hW7⟩ : ∃ W7, W7 = wr := ⟨_, rfl⟩
          rw [← hW7] at HTk HGk HKk HT7 k5 ⊢
          clear hW7 HBk
          go_wp2
          clear k5
          go_loopw [46] (fun iv wr => ∃ k : Nat, iv = .int .i64 k ∧ k ≤ code.length ∧ Hid (WrT w0.heap.size b (linS t ([FH] ++ sls.map slotW ++ (code.take k).map fun i => wordsP i.x)) wr) ∧ Hid ((linS t ([FH] ++ sls.map slotW ++ (code.take k).map fun i => wordsP i.x)).length ≤ 10000000000000) ∧ Hid (Kp w0.heap.size b w wr)) (fun iv _ => code.length - (intOf iv).toNat)
          case atStart => exact ⟨0, rfl, Nat.zero_le _, by simpa using HTk, by simpa using HLk, HKk⟩
          case round =>
            rename World => wr
            obtain ⟨k, rfl, hk, HTk, HLk, HKk⟩ := hrel
            have HBk : Hid (Below w0.heap.size w0 wr) := Below.of_kp HB0.out HKk.out
            by_cases hlt : k < code.length
            · obtain ⟨r, hs⟩ : ∃ s, code[k]? = some s := ⟨_, List.getElem?_eq_getElem hlt⟩
              have hrow := HQ.out.cr.below HBk.out
              simp only at hrow
              obtain ⟨g, o, rfl, hg, hc⟩ := hrow.2 k r hs
              have hcap := hrow.1.1
              have hsm := HQ.out.cm
              simp only at hsm
              have j0 := hc 0 (by omega)
              have j1 := hc 1 (by omega)
              have j2 := hc 2 (by omega)
              have j3 := hc 3 (by omega)
              have j4 := hc 4 (by omega)
              have j5 := hc 5 (by omega)
              have j6 := hc 6 (by omega)
              have j7 := hc 7 (by omega)
              have j8 := hc 8 (by omega)
              have j9 := hc 9 (by omega)
              have j10 := hc 10 (by omega)
              have j11 := hc 11 (by omega)
              simp only [iwC, inCells, List.getElem?_cons_zero, List.getElem?_cons_succ, Nat.add_zero] at j0 j1 j2 j3 j4 j5 j6 j7 j8 j9 j10 j11
              obtain ⟨hrN, hr0, hr15⟩ := HQP.out.ci r (List.mem_of_getElem? hs)
              have hrO := HQ.out.ci r (List.mem_of_getElem? hs)
              have HTK : Hid (linS t ([FH] ++ sls.map slotW ++ (code.take (k + 1)).map fun i => wordsP i.x) = lineS (linS t ([FH] ++ sls.map slotW ++ (code.take k).map fun i => wordsP i.x)) (wordsP r.x)) := by
                show _ = _
                rw [take_succ hs, List.map_append, ← List.append_assoc]
                exact linS_snoc _ _ _
              generalize linS t ([FH] ++ sls.map slotW ++ (code.take k).map fun i => wordsP i.x) = TK at *
              have HL2 : Hid ((lineS TK (wordsP r.x)).length ≤ 10000000000000) := lineS_le HLk.out (lineT_ok (wordsP_ok hrN))
              have hold := heap_r0 wr (.cells #[.int .i64 0, .int .i64 0, .int .i64 0, .int .i64 0, .int .u32 0, .int .i64 0, .int .u32 0, .int .i64 0, .int .i64 0, .int .i64 0, .bool false, .slice none 0 0] TIn)
              have b5 := below1 wr (.cells #[.int .i64 r.x.op, .int .i64 r.x.bin, .int .i64 r.x.d, .int .i64 r.x.a.kind, .int .u32 r.x.a.n, .int .i64 r.x.b.kind, .int .u32 r.x.b.n, .int .i64 r.x.n, .int .i64 r.x.off, .int .i64 r.x.width, .bool r.x.sg, .slice r.xp r.x.args.length r.xc] TIn)
              obtain ⟨x0, x1, x2, x3, x4, x5, x6, x7, x8, x9, x10, x11⟩ := cells12 (heap_r0 wr (.cells #[.int .i64 r.x.op, .int .i64 r.x.bin, .int .i64 r.x.d, .int .i64 r.x.a.kind, .int .u32 r.x.a.n, .int .i64 r.x.b.kind, .int .u32 r.x.b.n, .int .i64 r.x.n, .int .i64 r.x.off, .int .i64 r.x.width, .bool r.x.sg, .slice r.xp r.x.args.length r.xc] TIn))
              have HB5 : Hid (Below w0.heap.size w0 (wr.alloc (.cells #[.int .i64 r.x.op, .int .i64 r.x.bin, .int .i64 r.x.d, .int .i64 r.x.a.kind, .int .u32 r.x.a.n, .int .i64 r.x.b.kind, .int .u32 r.x.b.n, .int .i64 r.x.n, .int .i64 r.x.off, .int .i64 r.x.width, .bool r.x.sg, .slice r.xp r.x.args.length r.xc] TIn))) := HBk.out.trans (b5.mono HBk.out.size)
              have HT5 : Hid (WrT w0.heap.size b TK (wr.alloc (.cells #[.int .i64 r.x.op, .int .i64 r.x.bin, .int .i64 r.x.d, .int .i64 r.x.a.kind, .int .u32 r.x.a.n, .int .i64 r.x.b.kind, .int .u32 r.x.b.n, .int .i64 r.x.n, .int .i64 r.x.off, .int .i64 r.x.width, .bool r.x.sg, .slice r.xp r.x.args.length r.xc] TIn))) := HTk.out.below b5
              have HK5 : Hid (Kp w0.heap.size b w (wr.alloc (.cells #[.int .i64 r.x.op, .int .i64 r.x.bin, .int .i64 r.x.d, .int .i64 r.x.a.kind, .int .u32 r.x.a.n, .int .i64 r.x.b.kind, .int .u32 r.x.b.n, .int .i64 r.x.n, .int .i64 r.x.off, .int .i64 r.x.width, .bool r.x.sg, .slice r.xp r.x.args.length r.xc] TIn))) := HKk.out.trans (Kp.of_below b5)
              have hPw := HP.out.below HB5.out
              obtain ⟨ko, hko⟩ : ∃ ko : Nat, r.x.op = ko := ⟨r.x.op.toNat, by omega⟩
              obtain ⟨fl, hfl⟩ : ∃ fl, fieldTab[ko]? = some fl := ⟨_, List.getElem?_eq_getElem (show ko < fieldTab.length by show ko < 15; omega)⟩
              have cW : Calls Tryz.prog 92 #[.agg #[.int .i64 r.x.op, .int .i64 r.x.bin, .int .i64 r.x.d, .int .i64 r.x.a.kind, .int .u32 r.x.a.n, .int .i64 r.x.b.kind, .int .u32 r.x.b.n, .int .i64 r.x.n, .int .i64 r.x.off, .int .i64 r.x.width, .bool r.x.sg, .slice r.xp r.x.args.length r.xc]] (wr.alloc (.cells #[.int .i64 r.x.op, .int .i64 r.x.bin, .int .i64 r.x.d, .int .i64 r.x.a.kind, .int .u32 r.x.a.n, .int .i64 r.x.b.kind, .int .u32 r.x.b.n, .int .i64 r.x.n, .int .i64 r.x.off, .int .i64 r.x.width, .bool r.x.sg, .slice r.xp r.x.args.length r.xc] TIn)) fun e w' => ∃ v, e = .returned v ∧ NewS (wr.alloc (.cells #[.int .i64 r.x.op, .int .i64 r.x.bin, .int .i64 r.x.d, .int .i64 r.x.a.kind, .int .u32 r.x.a.n, .int .i64 r.x.b.kind, .int .u32 r.x.b.n, .int .i64 r.x.n, .int .i64 r.x.off, .int .i64 r.x.width, .bool r.x.sg, .slice r.xp r.x.args.length r.xc] TIn)) w' v (wordsP r.x) := wordsOf_c hPw.tabs hPw.forms hPw.words hPw.names hPw.pos hrN (hrO.ar.below HB5.out) hko hfl
              have HWO : Hid ((wordsP r.x).length ≤ 6000000 ∧ ∀ s ∈ wordsP r.x, s.size ≤ 100000) := wordsP_ok hrN
              clear hs hg hc b5 hrow hrN hr0 hr15 hrO hPw hko hfl
              go_upto_region 13 with (first | ((with_reducible apply step_store hold); rfl; rfl; kernel_rfl; rfl; kernel_rfl; rw [World.setRow_alloc_new]) | fail)
              generalize wr.alloc (.cells #[.int .i64 r.x.op, .int .i64 r.x.bin, .int .i64 r.x.d, .int .i64 r.x.a.kind, .int .u32 r.x.a.n, .int .i64 r.x.b.kind, .int .u32 r.x.b.n, .int .i64 r.x.n, .int .i64 r.x.off, .int .i64 r.x.width, .bool r.x.sg, .slice r.xp r.x.args.length r.xc] TIn) = W5 at *
              generalize wordsP r.x = WR at *
              clear j0 j1 j2 j3 j4 j5 j6 j7 j8 j9 j10 j11 hold
              go_wp2_with (first | (go_at_call 92; refine cW.mono ?_; rintro e w6 ⟨v6, rfl, h6⟩; obtain ⟨p6, c6, rfl, hs6⟩ := h6.strV; have cL := line_c (HT5.out.below h6.1) (Nat.le_trans HB5.out.size h6.1.size) hs6 (by have h9 := lineT_ok HWO.out; have h8 := HLk.out; omega) (by have h9 := HWO.out.1; omega); have HK6 : Hid (Kp w0.heap.size b w w6) := HK5.out.trans (Kp.of_below h6.1); clear h6 hs6 cW) | (go_at_call 62; refine cL.mono ?_; rintro e w7 ⟨rfl, hT7, hK7⟩; have HTT : Hid (WrT w0.heap.size b (lineS TK WR) w7) := hT7; have HK7 : Hid (Kp w0.heap.size b w w7) := HK6.out.trans hK7; clear hT7 hK7 cL) | fail)
              refine ⟨⟨k + 1, by go_num, by omega, by rw [HTK.out]; exact HTT, by rw [HTK.out]; exact HL2, HK7⟩, by simp [intOf]; omega⟩
            · obtain rfl : k = code.length := by omega
              rw [List.take_length] at HTk HLk
              go_wp2
              go_end0
              exact ⟨rfl, by rw [HFL.out]; exact HLk.out, by rw [HFL.out]; exact HTk.out, HKk.out⟩
end
end Go.Proofs.YtaaphipbkpjkjaaGreatDoor
