/-
  Whether a program may be: Check of package tac.
  The functions of a program: functionsHold of package tac, its contract.
-/
import Derived.Test.YtaaphipbkpjkjaaGreatDoorKJ
namespace Go.Proofs.YtaaphipbkpjkjaaGreatDoor
open Go.RowKit Go.Maps
set_option linter.unusedVariables false
set_option maxRecDepth 100000
theorem own_look {W : World} {b n : Nat} {seen : List (List UInt8)} (h : Own W b n seen) {nm : ByteArray} (hkey : keyOf Tryz.prog 9 (.string nm) = some (.string nm.data.toList)) :
    ∃ v, (Instr.lookup TMo (.map (some b)) (.string nm) true).run Tryz.prog W = .ok (.tuple #[v, .bool (seen.contains nm.data.toList)]) W := by
  obtain ⟨D, hown, hm, hs⟩ := h
  obtain ⟨v, ps, hrun, _⟩ := hown.look_ok keyed_str Tryz.underlying97 (zero_int W) (plainElem_int Tryz.underlying3 (by decide)) hkey
  rw [hs] at hrun
  exact ⟨v, hrun⟩
theorem own_step {W : World} {b n : Nat} {seen : List (List UInt8)} (h : Own W b n seen) (hn : n < maxLen) {nm : ByteArray} (hkey : keyOf Tryz.prog 9 (.string nm) = some (.string nm.data.toList)) (x : Int) (hx : (Lit.int .i64 x).wf = true) :
    ∃ W', (Instr.mapUpdate TMo (.map (some b)) (.string nm) (.int .i64 x)).run Tryz.prog W = .ok () W' ∧ Hid (Own W' b (n + 1) (nm.data.toList :: seen)) ∧ Hid (W.grownBy W' (some b)) := by
  obtain ⟨D, hown, hm, hs⟩ := h
  obtain ⟨W', hrun, h1, h2⟩ := hown.update keyed_str Tryz.underlying97 hn hkey (plainElem_int Tryz.underlying3 hx)
  exact ⟨W', hrun, ⟨_, h1, hm.put _ _, own_put hm hs _ _ trivial⟩, h2⟩
theorem cells6 {W : World} {g : Nat} {a b c d e f : Value} {t : TypeId} (h : W.heap[g]? = some (.cells #[a, b, c, d, e, f] t (0, 0))) :
    W.cell? ⟨g, 0, none⟩ = some a ∧ W.cell? ⟨g, 1, none⟩ = some b ∧ W.cell? ⟨g, 2, none⟩ = some c ∧ W.cell? ⟨g, 3, none⟩ = some d ∧ W.cell? ⟨g, 4, none⟩ = some e ∧ W.cell? ⟨g, 5, none⟩ = some f :=
  ⟨(Lib.cell_of_heap h 0).trans rfl, (Lib.cell_of_heap h 1).trans rfl, (Lib.cell_of_heap h 2).trans rfl, (Lib.cell_of_heap h 3).trans rfl, (Lib.cell_of_heap h 4).trans rfl, (Lib.cell_of_heap h 5).trans rfl⟩
section
variable {w : World}
set_option maxHeartbeats 16000000 in
theorem functions_c {ap : Option Addr} {ac : Nat} {obs : List Ob} (hob : RowV obC 5 w ap ac obs) (hom : obs.length ≤ 9223372036854775806) {fp : Option Addr} {fc : Nat} {l : List Fg} (hfr : RowV fgC 6 w fp fc l) (hfm : l.length ≤ 9223372036854775806) (hi : ∀ q ∈ l, FgOK w q) (hF : FormsIn w) (hN : NamesIn w) (hw0 : 0 < w.heap.size) (mn : Int) :
    Calls Tryz.prog 26 #[.agg #[.slice ap obs.length ac, .slice fp l.length fc, .int .i64 mn]] w fun e w' => e = .returned (.bool (funsB obs l)) ∧ Below w.heap.size w w' := by
  have hmm := @run_makeMap Tryz.prog
  have b1 := below1 w (.cells #[.slice ap obs.length ac, .slice fp l.length fc, .int .i64 mn] TPg)
  have N1 : Hid ((w.alloc (.cells #[.slice ap obs.length ac, .slice fp l.length fc, .int .i64 mn] TPg)).heap[w.heap.size]? = some (.cells #[.slice ap obs.length ac, .slice fp l.length fc, .int .i64 mn] TPg (0, 0))) := heap_r0 w _
  have HB : Hid (Below w.heap.size w (w.alloc (.cells #[.slice ap obs.length ac, .slice fp l.length fc, .int .i64 mn] TPg))) := b1
  have c1 := (Lib.cell_of_heap N1.out 1).trans rfl
  have cW := within_c (l.length : Int) 1 64 (w.alloc (.cells #[.slice ap obs.length ac, .slice fp l.length fc, .int .i64 mn] TPg))
  have HROW : Hid (∀ Y, Below w.heap.size w Y → RowV fgC 6 Y fp fc l) := fun Y hY => hfr.below hY
  have HI : Hid (∀ Y, Below w.heap.size w Y → ∀ q ∈ l, FgOK Y q) := fun Y hY q hq => (hi q hq).below hY
  have HCO : Hid (∀ Y, Below w.heap.size w Y → ∀ q ∈ l, frameB q.f.pr q.f.tp q.sls = true → Calls Tryz.prog 52 #[.agg #[.slice ap obs.length ac, .slice fp l.length fc, .int .i64 mn], .agg #[.string q.f.nm, .int .i64 q.f.pr, .int .i64 q.f.tp, .bool q.f.gv, .slice q.f.sp q.f.sn q.f.sc, .slice q.f.cp q.f.cn q.f.cc]] Y fun e w' => e = .returned (.bool (codeB q.f.tp q.f.gv q.sls obs (l.map Fg.f) q.code)) ∧ Below Y.heap.size Y w') := fun Y hY q hq hfB => by
    have hq := (hi q hq).below hY
    have hpt : 0 ≤ q.f.tp ∧ q.f.tp ≤ 4096 := by
      unfold frameB withinP at hfB
      simp at hfB
      omega
    have := code_c (w := Y) (h := ⟨ap, obs.length, ac, fp, l.length, fc, mn, q.f.nm, q.f.pr, q.f.tp, q.f.gv, q.f.sp, q.f.sn, q.f.sc, q.f.cp, q.f.cn, q.f.cc⟩) (sls := q.sls) (obs := obs) (fns := l.map Fg.f)
      ⟨hpt.1, by show q.f.tp ≤ _; omega, by show q.f.cn ≤ _; rw [hq.cn]; exact hq.cm, hq.sl, hq.sn, hq.sm, hob.below hY, rfl, hom, RowV.map (C := fnC) (f := Fg.f) (hfr.below hY), by simp, by simpa using hfm, hN.below hY⟩
      (hF.below hY) (Nat.lt_of_lt_of_le hw0 hY.size) hq.cr hq.cn hq.ci
    exact this
  obtain ⟨R, hR⟩ : ∃ R, R = funsB obs l := ⟨_, rfl⟩
  rw [← hR]
  have HR : Hid (R = _) := hR
  have nt := not_t
  have nf := not_f
  clear b1 hob hfr hi hF hN hw0 hR
  go_enter Tryz.func26, Tryz.ntmps26
  go_upto_region 1 with (fail)
  refine (?_ : Code.wp _ _ _ _ (w.alloc (.cells #[.slice ap obs.length ac, .slice fp l.length fc, .int .i64 mn] TPg)))
  generalize w.alloc (.cells #[.slice ap obs.length ac, .slice fp l.length fc, .int .i64 mn] TPg) = W1 at *
  cases hq1 : withinP (l.length : Int) 1 64 with
  | false =>
    rw [hq1] at cW
    have HV : Hid (R = false) := by show R = _; rw [HR.out]; unfold funsB; rw [hq1]; rfl
    clear hq1 HR
    go_wp2_with (first | (go_at_call 50; refine cW.mono ?_; rintro e w' ⟨rfl, hw⟩; rw [hw]; clear hw w') | fail)
    go_ret
    exact ⟨by rw [HV.out]; rfl, HB.out⟩
  | true =>
    rw [hq1] at cW
    have hl64 : l.length ≤ 64 := by unfold withinP at hq1; simp at hq1; omega
    have HR1 : Hid (R = funL obs (l.map Fg.f) [] (l.drop 0)) := by show R = _; rw [HR.out]; unfold funsB; rw [hq1]; rfl
    have c1m := ((below1 W1 (.map #[] 0)).cell (p := ⟨w.heap.size, 1, none⟩) (World.block_lt_of_cell? W1 _ c1)).trans c1
    clear hq1 HR
    go_wp2_with (first | (go_at_call 50; refine cW.mono ?_; rintro e w' ⟨rfl, hw⟩; rw [hw]; clear hw w') | fail)
    clear c1 c1m cW
    go_loopw [17] (fun iv wr => ∃ (k : Nat) (seen : List (List UInt8)), iv = .int .i64 k ∧ k ≤ l.length ∧ Hid (R = funL obs (l.map Fg.f) seen (l.drop k)) ∧ Hid (Own wr W1.heap.size k seen) ∧ Hid (Below W1.heap.size W1 wr)) (fun iv _ => l.length - (intOf iv).toNat)
    case atStart => exact ⟨0, [], rfl, Nat.zero_le _, HR1, Own.made W1, below1 W1 _⟩
    case round =>
      obtain ⟨k, seen, rfl, hk, HRk, HOW, HRW⟩ := hrel
      have HBR : Hid (Below w.heap.size w wr) := HB.out.trans (HRW.out.mono HB.out.size)
      by_cases hlt : k < l.length
      · obtain ⟨q, hs⟩ : ∃ s, l[k]? = some s := ⟨_, List.getElem?_eq_getElem hlt⟩
        have HRS : Hid (R = (!seen.contains q.f.nm.data.toList && (fun1 obs (l.map Fg.f) q && funL obs (l.map Fg.f) (q.f.nm.data.toList :: seen) (l.drop (k + 1))))) := by
          have hd : l.drop k = q :: l.drop (k + 1) := by
            rw [List.drop_eq_getElem_cons hlt]
            congr 1
            rw [List.getElem?_eq_getElem hlt] at hs
            exact Option.some.inj hs
          show R = _
          rw [HRk.out, hd]
          rfl
        have hmem := List.mem_of_getElem? hs
        obtain ⟨g, o, rfl, hg, hc⟩ := (HROW.out wr HBR.out).2 k q hs
        have hcap := (HROW.out w (Below.refl _ _)).1.1
        have a0 := hc 0 (by omega)
        have a1 := hc 1 (by omega)
        have a2 := hc 2 (by omega)
        have a3 := hc 3 (by omega)
        have a4 := hc 4 (by omega)
        have a5 := hc 5 (by omega)
        simp only [fgC, fnC, List.getElem?_cons_zero, List.getElem?_cons_succ, Nat.add_zero] at a0 a1 a2 a3 a4 a5
        have hold := heap_r0 wr (.cells #[.string ⟨#[]⟩, .int .i64 0, .int .i64 0, .bool false, .slice none 0 0, .slice none 0 0] TFn)
        have b5 := below1 wr (.cells #[.string q.f.nm, .int .i64 q.f.pr, .int .i64 q.f.tp, .bool q.f.gv, .slice q.f.sp q.f.sn q.f.sc, .slice q.f.cp q.f.cn q.f.cc] TFn)
        have N5 : Hid ((wr.alloc (.cells #[.string q.f.nm, .int .i64 q.f.pr, .int .i64 q.f.tp, .bool q.f.gv, .slice q.f.sp q.f.sn q.f.sc, .slice q.f.cp q.f.cn q.f.cc] TFn)).heap[wr.heap.size]? = some (.cells #[.string q.f.nm, .int .i64 q.f.pr, .int .i64 q.f.tp, .bool q.f.gv, .slice q.f.sp q.f.sn q.f.sc, .slice q.f.cp q.f.cn q.f.cc] TFn (0, 0))) := heap_r0 wr _
        have N15 : Hid ((wr.alloc (.cells #[.string q.f.nm, .int .i64 q.f.pr, .int .i64 q.f.tp, .bool q.f.gv, .slice q.f.sp q.f.sn q.f.sc, .slice q.f.cp q.f.cn q.f.cc] TFn)).heap[w.heap.size]? = some (.cells #[.slice ap obs.length ac, .slice (some ⟨g, o, none⟩) l.length fc, .int .i64 mn] TPg (0, 0))) := blk_b (blk_b N1.out HRW.out) b5
        have HB5 : Hid (Below W1.heap.size W1 (wr.alloc (.cells #[.string q.f.nm, .int .i64 q.f.pr, .int .i64 q.f.tp, .bool q.f.gv, .slice q.f.sp q.f.sn q.f.sc, .slice q.f.cp q.f.cn q.f.cc] TFn))) := HRW.out.trans (b5.mono HRW.out.size)
        have HO5 : Hid (Own (wr.alloc (.cells #[.string q.f.nm, .int .i64 q.f.pr, .int .i64 q.f.tp, .bool q.f.gv, .slice q.f.sp q.f.sn q.f.sc, .slice q.f.cp q.f.cn q.f.cc] TFn)) W1.heap.size k seen) := HOW.out.below b5
        clear hs hg hc b5 HRk
        go_upto_region 7 with (first | ((with_reducible apply step_store hold); rfl; rfl; kernel_rfl; rfl; kernel_rfl; rw [World.setRow_alloc_new]) | fail)
        generalize wr.alloc (.cells #[.string q.f.nm, .int .i64 q.f.pr, .int .i64 q.f.tp, .bool q.f.gv, .slice q.f.sp q.f.sn q.f.sc, .slice q.f.cp q.f.cn q.f.cc] TFn) = W5 at *
        clear a0 a1 a2 a3 a4 a5 hold
        have HQ : Hid (FgOK W5 q) := HI.out W5 (HB.out.trans (HB5.out.mono HB.out.size)) q hmem
        have HW5 : Hid (Below w.heap.size w W5) := HB.out.trans (HB5.out.mono HB.out.size)
        have hnmx := HQ.out.nm
        have hkey : keyOf Tryz.prog 9 (.string q.f.nm) = some (.string q.f.nm.data.toList) := Go.WideMaps.keyOf_string_mk Tryz.underlying9 hnmx
        have hmx : k < maxLen := by unfold maxLen; omega
        have hkw : (Lit.int .i64 (k : Int)).wf = true := by simp [Lit.wf, IntKind.min, IntKind.max, IntKind.signed, IntKind.bits]; omega
        obtain ⟨xv, hlook⟩ := own_look HO5.out hkey
        have cT := tag_c q.f.nm W5 (by unfold maxLen at hnmx; omega)
        have cFr := frame_c q.f HQ.out.sl HQ.out.sn HQ.out.sm
        unfold fnC at cFr
        obtain ⟨x0, x1, x2, x3, x4, x5⟩ := cells6 N5.out
        cases hq1 : seen.contains q.f.nm.data.toList with
        | true =>
          rw [hq1] at hlook
          have HV : Hid (R = false) := by show R = _; rw [HRS.out, hq1]; rfl
          clear HRS hq1 cT cFr
          go_wp2
          go_ret
          exact ⟨by rw [HV.out]; rfl, HW5.out⟩
        | false =>
          rw [hq1] at hlook
          cases hq2 : tagP q.f.nm.data.toList with
          | false =>
            rw [hq2] at cT
            have HV : Hid (R = false) := by show R = _; rw [HRS.out, hq1]; unfold fun1; rw [hq2]; rfl
            clear HRS hq1 hq2 cFr
            go_wp2_with (first | (go_at_call 47; refine cT.mono ?_; rintro e w' ⟨rfl, hw⟩; rw [hw]; clear hw w') | fail)
            go_ret
            exact ⟨by rw [HV.out]; rfl, HW5.out⟩
          | true =>
            rw [hq2] at cT
            cases hq3 : frameB q.f.pr q.f.tp q.sls with
            | false =>
              rw [hq3] at cFr
              have HV : Hid (R = false) := by show R = _; rw [HRS.out, hq1]; unfold fun1; rw [hq2, hq3]; rfl
              clear HRS hq1 hq2 hq3
              go_wp2_with (first | (go_at_call 47; refine cT.mono ?_; rintro e w' ⟨rfl, hw⟩; rw [hw]; clear hw w') | (go_at_call 51; refine cFr.mono ?_; rintro e w6 ⟨rfl, hb6⟩; have HB6 : Hid (Below W1.heap.size W1 w6) := HB5.out.trans (hb6.mono HB5.out.size); clear hb6) | fail)
              go_ret
              exact ⟨by rw [HV.out]; rfl, HB.out.trans (HB6.out.mono HB.out.size)⟩
            | true =>
              rw [hq3] at cFr
              cases hq4 : codeB q.f.tp q.f.gv q.sls obs (l.map Fg.f) q.code with
              | false =>
                have HV : Hid (R = false) := by show R = _; rw [HRS.out, hq1]; unfold fun1; rw [hq2, hq3, hq4]; rfl
                clear HRS hq1 hq2
                go_wp2_with (first | (go_at_call 47; refine cT.mono ?_; rintro e w' ⟨rfl, hw⟩; rw [hw]; clear hw w') | (go_at_call 51; refine cFr.mono ?_; rintro e w6 ⟨rfl, hb6⟩; have HB6 : Hid (Below W1.heap.size W1 w6) := HB5.out.trans (hb6.mono HB5.out.size); have HO6 : Hid (Own w6 W1.heap.size k seen) := HO5.out.below hb6; have N6 : Hid (w6.heap[wr.heap.size]? = some (.cells #[.string q.f.nm, .int .i64 q.f.pr, .int .i64 q.f.tp, .bool q.f.gv, .slice q.f.sp q.f.sn q.f.sc, .slice q.f.cp q.f.cn q.f.cc] TFn (0, 0))) := blk_b N5.out hb6; have N16 := blk_b N15.out hb6; have y0 := (Lib.cell_of_heap N16 0).trans rfl; have y1 := (Lib.cell_of_heap N16 1).trans rfl; have y2 := (Lib.cell_of_heap N16 2).trans rfl; obtain ⟨z0, z1, z2, z3, z4, z5⟩ := cells6 N6.out; have cC := HCO.out w6 (HB.out.trans (HB6.out.mono HB.out.size)) q hmem hq3; clear hb6 N16; rw [hq4] at cC) | (go_at_call 52; refine cC.mono ?_; rintro e w7 ⟨rfl, hb7⟩; have HB7 : Hid (Below W1.heap.size W1 w7) := HB6.out.trans (hb7.mono HB6.out.size); clear hb7) | fail)
                go_ret
                exact ⟨by rw [HV.out]; rfl, HB.out.trans (HB7.out.mono HB.out.size)⟩
              | true =>
                have HN : Hid (R = funL obs (l.map Fg.f) (q.f.nm.data.toList :: seen) (l.drop (k + 1))) := by show R = _; rw [HRS.out, hq1]; unfold fun1; rw [hq2, hq3, hq4]; rfl
                clear HRS hq1 hq2
                go_wp2_with (first | (go_at_call 47; refine cT.mono ?_; rintro e w' ⟨rfl, hw⟩; rw [hw]; clear hw w') | (go_at_call 51; refine cFr.mono ?_; rintro e w6 ⟨rfl, hb6⟩; have HB6 : Hid (Below W1.heap.size W1 w6) := HB5.out.trans (hb6.mono HB5.out.size); have HO6 : Hid (Own w6 W1.heap.size k seen) := HO5.out.below hb6; have N6 : Hid (w6.heap[wr.heap.size]? = some (.cells #[.string q.f.nm, .int .i64 q.f.pr, .int .i64 q.f.tp, .bool q.f.gv, .slice q.f.sp q.f.sn q.f.sc, .slice q.f.cp q.f.cn q.f.cc] TFn (0, 0))) := blk_b N5.out hb6; have N16 := blk_b N15.out hb6; have y0 := (Lib.cell_of_heap N16 0).trans rfl; have y1 := (Lib.cell_of_heap N16 1).trans rfl; have y2 := (Lib.cell_of_heap N16 2).trans rfl; obtain ⟨z0, z1, z2, z3, z4, z5⟩ := cells6 N6.out; have cC := HCO.out w6 (HB.out.trans (HB6.out.mono HB.out.size)) q hmem hq3; clear hb6 N16; rw [hq4] at cC) | (go_at_call 52; refine cC.mono ?_; rintro e w7 ⟨rfl, hb7⟩; have HB7 : Hid (Below W1.heap.size W1 w7) := HB6.out.trans (hb7.mono HB6.out.size); have v0 := (Lib.cell_of_heap (blk_b N6.out hb7) 0).trans rfl; obtain ⟨w8, hput, HO8, HG8⟩ := own_step (HO6.out.below hb7) hmx hkey (k : Int) hkw; have HB8 : Hid (Below W1.heap.size W1 w8) := below_grown HB7.out HB7.out.size HG8.out (fun j hj => by cases hj; exact Nat.le_refl _); clear hb7 HG8) | fail)
                exact ⟨⟨k + 1, _, by go_num, by omega, HN, HO8, HB8⟩, by simp [intOf]; omega⟩
      · obtain rfl : k = l.length := by omega
        have HV : Hid (R = true) := by show R = _; rw [HRk.out, List.drop_length]; rfl
        go_wp2
        go_ret
        exact ⟨by rw [HV.out]; rfl, HBR.out⟩
end
end Go.Proofs.YtaaphipbkpjkjaaGreatDoor
namespace Go.Proofs.YtaaphipbkpjkjaaGreatDoor
open Go.RowKit Go.Maps
set_option linter.unusedVariables false
set_option maxRecDepth 100000
/-- A program with what its rows hold. -/
structure Pg where
  obs : List Og
  fns : List Fg
  mn : Int
/-- Where its two rows lie. -/
structure Pw where
  op : Option Addr
  oc : Nat
  fp : Option Addr
  fc : Nat
structure PgOK (w : World) (x : Pg) (a : Pw) : Prop where
  ob : RowV ogC 5 w a.op a.oc x.obs
  om : x.obs.length ≤ 9223372036854775806
  oi : ∀ q ∈ x.obs, OgOK w q
  fr : RowV fgC 6 w a.fp a.fc x.fns
  fm : x.fns.length ≤ 9223372036854775806
  fi : ∀ q ∈ x.fns, FgOK w q
theorem PgOK.below {w w' : World} {x : Pg} {a : Pw} (h : PgOK w x a) (hb : Below w.heap.size w w') : PgOK w' x a :=
  ⟨h.ob.below hb, h.om, fun q hq => (h.oi q hq).below hb, h.fr.below hb, h.fm, fun q hq => (h.fi q hq).below hb⟩
def pgV (x : Pg) (a : Pw) : Value := .agg #[.slice a.op x.obs.length a.oc, .slice a.fp x.fns.length a.fc, .int .i64 x.mn]
def checkB (x : Pg) : Bool := objB x.obs && (funsB (x.obs.map Og.o) x.fns && mainB (x.fns.map Fg.f) x.mn)
section
variable {w : World}
set_option maxHeartbeats 4000000 in
theorem check_c {x : Pg} {a : Pw} (hP : PgOK w x a) (hF : FormsIn w) (hN : NamesIn w) (hw0 : 0 < w.heap.size) :
    Calls Tryz.prog 9 #[pgV x a] w fun e w' => e = .returned (.int .i64 (if checkB x then 0 else 130)) ∧ Below w.heap.size w w' := by
  have HO : Hid (∀ Y, Below w.heap.size w Y → Calls Tryz.prog 25 #[.slice a.op x.obs.length a.oc] Y fun e w' => e = .returned (.bool (objB x.obs)) ∧ Below Y.heap.size Y w') := fun Y hY => objects_c (hP.below hY).ob hP.om (hP.below hY).oi
  have HFn : Hid (∀ Y, Below w.heap.size w Y → Calls Tryz.prog 26 #[.agg #[.slice a.op x.obs.length a.oc, .slice a.fp x.fns.length a.fc, .int .i64 x.mn]] Y fun e w' => e = .returned (.bool (funsB (x.obs.map Og.o) x.fns)) ∧ Below Y.heap.size Y w') := fun Y hY => by
    have h := functions_c (RowV.map (C := obC) (f := Og.o) (hP.below hY).ob) (by simpa using hP.om) (hP.below hY).fr hP.fm (hP.below hY).fi (hF.below hY) (hN.below hY) (Nat.lt_of_lt_of_le hw0 hY.size) x.mn
    rw [List.length_map] at h
    exact h
  have HM : Hid (∀ Y, Below w.heap.size w Y → Calls Tryz.prog 27 #[.agg #[.slice a.op x.obs.length a.oc, .slice a.fp x.fns.length a.fc, .int .i64 x.mn]] Y fun e w' => e = .returned (.bool (mainB (x.fns.map Fg.f) x.mn)) ∧ Below Y.heap.size Y w') := fun Y hY => by
    have h := main_c (ap := a.op) (an := x.obs.length) (ac := a.oc) (RowV.map (C := fnC) (f := Fg.f) (hP.below hY).fr) (by simpa using hP.fm) x.mn
    rw [List.length_map] at h
    exact h
  obtain ⟨R, hR⟩ : ∃ R : Int, R = if checkB x then 0 else 130 := ⟨_, rfl⟩
  rw [← hR]
  unfold checkB at hR
  unfold pgV
  obtain ⟨obs, fns, mn⟩ := x
  obtain ⟨op, oc, fp, fc⟩ := a
  simp only at HO HFn HM hR ⊢
  generalize objB obs = r1 at *
  generalize funsB (obs.map Og.o) fns = r2 at *
  generalize mainB (fns.map Fg.f) mn = r3 at *
  have b1 := below1 w (.cells #[.slice op obs.length oc, .slice fp fns.length fc, .int .i64 mn] TPg)
  have N1 : Hid ((w.alloc (.cells #[.slice op obs.length oc, .slice fp fns.length fc, .int .i64 mn] TPg)).heap[w.heap.size]? = some (.cells #[.slice op obs.length oc, .slice fp fns.length fc, .int .i64 mn] TPg (0, 0))) := heap_r0 w _
  have HB : Hid (Below w.heap.size w (w.alloc (.cells #[.slice op obs.length oc, .slice fp fns.length fc, .int .i64 mn] TPg))) := b1
  have c0 := (Lib.cell_of_heap N1.out 0).trans rfl
  have cO := HO.out _ b1
  have nt := not_t
  have nf := not_f
  clear b1 hP hF hN hw0 HO
  go_enter Tryz.func9, Tryz.ntmps9
  go_upto_region 1 with (fail)
  refine (?_ : Code.wp _ _ _ _ (w.alloc (.cells #[.slice op obs.length oc, .slice fp fns.length fc, .int .i64 mn] TPg)))
  generalize w.alloc (.cells #[.slice op obs.length oc, .slice fp fns.length fc, .int .i64 mn] TPg) = W1 at *
  cases r1 with
  | false =>
    have HV : Hid (R = 130) := hR
    clear hR
    go_wp2_with (first | (go_at_call 25; refine cO.mono ?_; rintro e w2 ⟨rfl, hb2⟩; have HB2 : Hid (Below w.heap.size w w2) := HB.out.trans (hb2.mono HB.out.size); clear hb2) | fail)
    go_ret
    exact ⟨by rw [HV.out]; rfl, HB2.out⟩
  | true =>
    cases r2 with
    | false =>
      have HV : Hid (R = 130) := hR
      clear hR
      go_wp2_with (first | (go_at_call 25; refine cO.mono ?_; rintro e w2 ⟨rfl, hb2⟩; have HB2 : Hid (Below w.heap.size w w2) := HB.out.trans (hb2.mono HB.out.size); have N2 : Hid _ := blk_b N1.out hb2; have y0 := (Lib.cell_of_heap N2.out 0).trans rfl; have y1 := (Lib.cell_of_heap N2.out 1).trans rfl; have y2 := (Lib.cell_of_heap N2.out 2).trans rfl; have cF := HFn.out _ HB2.out; clear hb2) | (go_at_call 26; refine cF.mono ?_; rintro e w3 ⟨rfl, hb3⟩; have HB3 : Hid (Below w.heap.size w w3) := HB2.out.trans (hb3.mono HB2.out.size); clear hb3) | fail)
      go_ret
      exact ⟨by rw [HV.out]; rfl, HB3.out⟩
    | true =>
      cases r3 with
      | false =>
        have HV : Hid (R = 130) := hR
        clear hR
        go_wp2_with (first | (go_at_call 25; refine cO.mono ?_; rintro e w2 ⟨rfl, hb2⟩; have HB2 : Hid (Below w.heap.size w w2) := HB.out.trans (hb2.mono HB.out.size); have N2 : Hid _ := blk_b N1.out hb2; have y0 := (Lib.cell_of_heap N2.out 0).trans rfl; have y1 := (Lib.cell_of_heap N2.out 1).trans rfl; have y2 := (Lib.cell_of_heap N2.out 2).trans rfl; have cF := HFn.out _ HB2.out; clear hb2) | (go_at_call 26; refine cF.mono ?_; rintro e w3 ⟨rfl, hb3⟩; have HB3 : Hid (Below w.heap.size w w3) := HB2.out.trans (hb3.mono HB2.out.size); have N3 : Hid _ := blk_b N2.out hb3; have z0 := (Lib.cell_of_heap N3.out 0).trans rfl; have z1 := (Lib.cell_of_heap N3.out 1).trans rfl; have z2 := (Lib.cell_of_heap N3.out 2).trans rfl; have cM := HM.out _ HB3.out; clear hb3) | (go_at_call 27; refine cM.mono ?_; rintro e w4 ⟨rfl, hb4⟩; have HB4 : Hid (Below w.heap.size w w4) := HB3.out.trans (hb4.mono HB3.out.size); clear hb4) | fail)
        go_ret
        exact ⟨by rw [HV.out]; rfl, HB4.out⟩
      | true =>
        have HV : Hid (R = 0) := hR
        clear hR
        go_wp2_with (first | (go_at_call 25; refine cO.mono ?_; rintro e w2 ⟨rfl, hb2⟩; have HB2 : Hid (Below w.heap.size w w2) := HB.out.trans (hb2.mono HB.out.size); have N2 : Hid _ := blk_b N1.out hb2; have y0 := (Lib.cell_of_heap N2.out 0).trans rfl; have y1 := (Lib.cell_of_heap N2.out 1).trans rfl; have y2 := (Lib.cell_of_heap N2.out 2).trans rfl; have cF := HFn.out _ HB2.out; clear hb2) | (go_at_call 26; refine cF.mono ?_; rintro e w3 ⟨rfl, hb3⟩; have HB3 : Hid (Below w.heap.size w w3) := HB2.out.trans (hb3.mono HB2.out.size); have N3 : Hid _ := blk_b N2.out hb3; have z0 := (Lib.cell_of_heap N3.out 0).trans rfl; have z1 := (Lib.cell_of_heap N3.out 1).trans rfl; have z2 := (Lib.cell_of_heap N3.out 2).trans rfl; have cM := HM.out _ HB3.out; clear hb3) | (go_at_call 27; refine cM.mono ?_; rintro e w4 ⟨rfl, hb4⟩; have HB4 : Hid (Below w.heap.size w w4) := HB3.out.trans (hb4.mono HB3.out.size); clear hb4) | fail)
        go_ret
        exact ⟨by rw [HV.out]; rfl, HB4.out⟩
end
end Go.Proofs.YtaaphipbkpjkjaaGreatDoor
