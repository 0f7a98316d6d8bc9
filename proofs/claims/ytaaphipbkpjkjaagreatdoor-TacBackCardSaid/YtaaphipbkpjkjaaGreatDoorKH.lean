/-
  An object's relocations: relocsHold of package tac.
  A function's code: codeHolds of package tac.
  How many bytes there are up to the last one that is not 0: filled of package tac.
-/
import Derived.Test.YtaaphipbkpjkjaaGreatDoorKG
namespace Go.Proofs.YtaaphipbkpjkjaaGreatDoor
open Go.RowKit Go.Maps
set_option linter.unusedVariables false
set_option maxRecDepth 100000
abbrev TPg : TypeId := 25
/-- An instruction's row as it lies in a slice: with its operands' slice. -/
structure Iw where
  x : In
  xp : Option Addr
  xc : Nat
def iwC (q : Iw) : List Value := inCells q.x (.slice q.xp q.x.args.length q.xc)
/-- The last instruction may be one. -/
def lastB (l : List Iw) : Bool := match l[l.length - 1]? with | some q => endsB q.x.op | none => false
def codeB (tp : Int) (gv : Bool) (sls : List Slt) (obs : List Ob) (fns : List Fn) (l : List Iw) : Bool :=
  withinP (l.length : Int) 1 16384 && (lastB l && l.all fun q => rightB tp gv l.length sls obs fns q.x)
section
variable {w : World}
set_option maxHeartbeats 16000000 in
theorem code_c {h : Hm} {sls : List Slt} {obs : List Ob} {fns : List Fn} (hH : HomeOK w h sls obs fns) (hF : FormsIn w) (hw0 : 0 < w.heap.size) {l : List Iw} (hr : RowV iwC 12 w h.cp h.cc l) (hn : h.cn = l.length) (hi : ∀ q ∈ l, InOK w q.x q.xp q.xc) :
    Calls Tryz.prog 52 #[.agg #[.slice h.op h.on h.oc, .slice h.fp h.fn h.fc, .int .i64 h.mn], .agg #[.string h.nm, .int .i64 h.pr, .int .i64 h.tp, .bool h.gv, .slice h.sp h.sn h.sc, .slice h.cp h.cn h.cc]] w fun e w' => e = .returned (.bool (codeB h.tp h.gv sls obs fns l)) ∧ Below w.heap.size w w' := by
  have hHc := hH.cn
  have HRI : Hid (∀ Y, Below w.heap.size w Y → ∀ q ∈ l, Calls Tryz.prog 81 #[hmV h, .agg (inCells q.x (.slice q.xp q.x.args.length q.xc)).toArray] Y fun e w' => e = .returned (.bool (rightB h.tp h.gv h.cn sls obs fns q.x)) ∧ Below Y.heap.size Y w') := fun Y hY q hq => right_c (hH.below hY) (hF.below hY) (Nat.lt_of_lt_of_le hw0 hY.size) q.x ((hi q hq).below hY)
  obtain ⟨hop, hon, hoc, hfp, hfn, hfc, hmn, hnm, hpr, htp, hgv, hsp, hsn, hsc, hcp, hcn, hcc⟩ := h
  unfold hmV inCells at HRI
  simp only at hr hn hHc HRI ⊢
  subst hn
  have b1 := below1 w (.cells #[.slice hop hon hoc, .slice hfp hfn hfc, .int .i64 hmn] TPg)
  have b2 := below1 (w.alloc (.cells #[.slice hop hon hoc, .slice hfp hfn hfc, .int .i64 hmn] TPg)) (.cells #[.string hnm, .int .i64 hpr, .int .i64 htp, .bool hgv, .slice hsp hsn hsc, .slice hcp l.length hcc] TFn)
  have hzA : (w.alloc (.cells #[.slice hop hon hoc, .slice hfp hfn hfc, .int .i64 hmn] TPg)).heap.size = w.heap.size + 1 := by simp
  have NP : Hid (((w.alloc (.cells #[.slice hop hon hoc, .slice hfp hfn hfc, .int .i64 hmn] TPg)).alloc (.cells #[.string hnm, .int .i64 hpr, .int .i64 htp, .bool hgv, .slice hsp hsn hsc, .slice hcp l.length hcc] TFn)).heap[w.heap.size]? = some (.cells #[.slice hop hon hoc, .slice hfp hfn hfc, .int .i64 hmn] TPg (0, 0))) := blk_b (heap_r0 w _) b2
  have NF : Hid (((w.alloc (.cells #[.slice hop hon hoc, .slice hfp hfn hfc, .int .i64 hmn] TPg)).alloc (.cells #[.string hnm, .int .i64 hpr, .int .i64 htp, .bool hgv, .slice hsp hsn hsc, .slice hcp l.length hcc] TFn)).heap[w.heap.size + 1]? = some (.cells #[.string hnm, .int .i64 hpr, .int .i64 htp, .bool hgv, .slice hsp hsn hsc, .slice hcp l.length hcc] TFn (0, 0))) := by have := heap_r0 (w.alloc (.cells #[.slice hop hon hoc, .slice hfp hfn hfc, .int .i64 hmn] TPg)) (.cells #[.string hnm, .int .i64 hpr, .int .i64 htp, .bool hgv, .slice hsp hsn hsc, .slice hcp l.length hcc] TFn); rw [hzA] at this; exact this
  have HB : Hid (Below w.heap.size w ((w.alloc (.cells #[.slice hop hon hoc, .slice hfp hfn hfc, .int .i64 hmn] TPg)).alloc (.cells #[.string hnm, .int .i64 hpr, .int .i64 htp, .bool hgv, .slice hsp hsn hsc, .slice hcp l.length hcc] TFn))) := b1.trans (b2.mono b1.size)
  have p0 := (Lib.cell_of_heap NP.out 0).trans rfl
  have p1 := (Lib.cell_of_heap NP.out 1).trans rfl
  have p2 := (Lib.cell_of_heap NP.out 2).trans rfl
  have f0 := (Lib.cell_of_heap NF.out 0).trans rfl
  have f1 := (Lib.cell_of_heap NF.out 1).trans rfl
  have f2 := (Lib.cell_of_heap NF.out 2).trans rfl
  have f3 := (Lib.cell_of_heap NF.out 3).trans rfl
  have f4 := (Lib.cell_of_heap NF.out 4).trans rfl
  have f5 := (Lib.cell_of_heap NF.out 5).trans rfl
  have wl := within_c (l.length : Int) 1 16384 ((w.alloc (.cells #[.slice hop hon hoc, .slice hfp hfn hfc, .int .i64 hmn] TPg)).alloc (.cells #[.string hnm, .int .i64 hpr, .int .i64 htp, .bool hgv, .slice hsp hsn hsc, .slice hcp l.length hcc] TFn))
  have HROW : Hid (∀ Y, Below w.heap.size w Y → RowV iwC 12 Y hcp hcc l) := fun Y hY => hr.below hY
  obtain ⟨R, hR⟩ : ∃ R, R = codeB htp hgv sls obs fns l := ⟨_, rfl⟩
  rw [← hR]
  have HR : Hid (R = _) := hR
  have nt := not_t
  have nf := not_f
  have hbh : ∀ Y : World, (Instr.build THm #[(0, .agg #[.slice hop hon hoc, .slice hfp hfn hfc, .int .i64 hmn]), (1, .agg #[.string hnm, .int .i64 hpr, .int .i64 htp, .bool hgv, .slice hsp hsn hsc, .slice hcp l.length hcc])]).run Tryz.prog Y = .ok (.agg #[.slice hop hon hoc, .slice hfp hfn hfc, .int .i64 hmn, .string hnm, .int .i64 hpr, .int .i64 htp, .bool hgv, .slice hsp hsn hsc, .slice hcp l.length hcc]) Y := fun Y => by kernel_rfl
  clear b1 b2 hzA hR hr hH hF hw0 hi
  go_enter Tryz.func52, Tryz.ntmps52
  go_upto_region 1 with (fail)
  refine (?_ : Code.wp _ _ _ _ ((w.alloc (.cells #[.slice hop hon hoc, .slice hfp hfn hfc, .int .i64 hmn] TPg)).alloc (.cells #[.string hnm, .int .i64 hpr, .int .i64 htp, .bool hgv, .slice hsp hsn hsc, .slice hcp l.length hcc] TFn)))
  generalize ((w.alloc (.cells #[.slice hop hon hoc, .slice hfp hfn hfc, .int .i64 hmn] TPg)).alloc (.cells #[.string hnm, .int .i64 hpr, .int .i64 htp, .bool hgv, .slice hsp hsn hsc, .slice hcp l.length hcc] TFn)) = W1 at *
  cases hq1 : withinP (l.length : Int) 1 16384 with
  | false =>
    rw [hq1] at wl
    have HV : Hid (R = false) := by show R = _; rw [HR.out]; unfold codeB; rw [hq1]; rfl
    clear hq1 HR
    go_wp2_with (first | (go_at_call 50; refine wl.mono ?_; rintro e w' ⟨rfl, hw⟩; rw [hw]; clear hw w' wl) | fail)
    go_ret
    exact ⟨by rw [HV.out]; rfl, HB.out⟩
  | true =>
    rw [hq1] at wl
    have hl1 : 1 ≤ l.length ∧ l.length ≤ 16384 := by unfold withinP at hq1; simp at hq1; omega
    obtain ⟨m, hm⟩ : ∃ m, l.length = m + 1 := ⟨l.length - 1, by omega⟩
    obtain ⟨q, hq⟩ : ∃ q, l[m]? = some q := ⟨_, List.getElem?_eq_getElem (by omega)⟩
    obtain ⟨g, o, hcpe, hg, hc⟩ := (HROW.out W1 HB.out).2 m q hq
    have hcap := (HROW.out W1 HB.out).1.1
    have z0 := hc 0 (by omega)
    simp only [iwC, inCells, List.getElem?_cons_zero, Nat.add_zero] at z0
    have cE := endsCode_c q.x.op W1
    have hwm : IntKind.i64.wrap ((l.length : Int) - 1) = (m : Int) := by rw [wrap_id (by omega) (by omega)]; omega
    have HLB : Hid (lastB l = endsB q.x.op) := by show lastB l = _; unfold lastB; rw [hm, Nat.add_sub_cancel, hq]
    have hml : m < l.length := by omega
    subst hcpe
    cases hq2 : endsB q.x.op with
    | false =>
      rw [hq2] at cE
      have HV : Hid (R = false) := by show R = _; rw [HR.out]; unfold codeB; rw [hq1, HLB.out, hq2]; rfl
      clear hq1 hq2 HR hq hc hm HLB
      go_wp2_with (first | (go_at_call 50; refine wl.mono ?_; rintro e w' ⟨rfl, hw⟩; rw [hw]; clear hw w' wl) | (go_at_call 80; refine cE.mono ?_; rintro e w' ⟨rfl, hw⟩; rw [hw]; clear hw w') | fail)
      go_ret
      exact ⟨by rw [HV.out]; rfl, HB.out⟩
    | true =>
      rw [hq2] at cE
      have HR1 : Hid (R = l.all fun q => rightB htp hgv l.length sls obs fns q.x) := by show R = _; rw [HR.out]; unfold codeB; rw [hq1, HLB.out, hq2]; rfl
      have hold := heap_r0 W1 (.cells #[.slice none 0 0, .slice none 0 0, .int .i64 0, .string ⟨#[]⟩, .int .i64 0, .int .i64 0, .bool false, .slice none 0 0, .slice none 0 0] THm)
      have N2 : Hid ((W1.alloc (.cells #[.slice hop hon hoc, .slice hfp hfn hfc, .int .i64 hmn, .string hnm, .int .i64 hpr, .int .i64 htp, .bool hgv, .slice hsp hsn hsc, .slice (some ⟨g, o, none⟩) l.length hcc] THm)).heap[W1.heap.size]? = some (.cells #[.slice hop hon hoc, .slice hfp hfn hfc, .int .i64 hmn, .string hnm, .int .i64 hpr, .int .i64 htp, .bool hgv, .slice hsp hsn hsc, .slice (some ⟨g, o, none⟩) l.length hcc] THm (0, 0))) := heap_r0 W1 _
      have HB2 : Hid (Below w.heap.size w (W1.alloc (.cells #[.slice hop hon hoc, .slice hfp hfn hfc, .int .i64 hmn, .string hnm, .int .i64 hpr, .int .i64 htp, .bool hgv, .slice hsp hsn hsc, .slice (some ⟨g, o, none⟩) l.length hcc] THm))) := HB.out.trans ((below1 W1 _).mono HB.out.size)
      have f5b := ((below1 W1 (.cells #[.slice hop hon hoc, .slice hfp hfn hfc, .int .i64 hmn, .string hnm, .int .i64 hpr, .int .i64 htp, .bool hgv, .slice hsp hsn hsc, .slice (some ⟨g, o, none⟩) l.length hcc] THm)).cell (p := ⟨w.heap.size + 1, 5, none⟩) (World.block_lt_of_cell? W1 _ f5)).trans f5
      clear hq1 hq2 HR hq hc hm HLB
      go_upto_region 4 with (first | (go_at_call 50; refine wl.mono ?_; rintro e w' ⟨rfl, hw⟩; rw [hw]; clear hw w' wl) | (go_at_call 80; refine cE.mono ?_; rintro e w' ⟨rfl, hw⟩; rw [hw]; clear hw w') | ((with_reducible apply step_store hold); rfl; rfl; kernel_rfl; rfl; kernel_rfl; rw [World.setRow_alloc_new]) | fail)
      generalize W1.alloc (.cells #[.slice hop hon hoc, .slice hfp hfn hfc, .int .i64 hmn, .string hnm, .int .i64 hpr, .int .i64 htp, .bool hgv, .slice hsp hsn hsc, .slice (some ⟨g, o, none⟩) l.length hcc] THm) = W2 at *
      go_wp2
      clear p0 p1 p2 f0 f1 f2 f3 f4 f5 f5b hold z0 cE hwm
      go_loopw [32] (fun iv wr => ∃ k : Nat, iv = .int .i64 k ∧ k ≤ l.length ∧ Hid ((l.take k).all (fun q => rightB htp hgv l.length sls obs fns q.x) = true) ∧ Hid (Below W2.heap.size W2 wr)) (fun iv _ => l.length - (intOf iv).toNat)
      case atStart => exact ⟨0, rfl, Nat.zero_le _, rfl, Below.refl _ _⟩
      case round =>
        obtain ⟨k, rfl, hk, HAL, HRW⟩ := hrel
        have HBR : Hid (Below w.heap.size w wr) := HB2.out.trans (HRW.out.mono HB2.out.size)
        by_cases hlt : k < l.length
        · obtain ⟨r, hs⟩ : ∃ s, l[k]? = some s := ⟨_, List.getElem?_eq_getElem hlt⟩
          obtain ⟨g', o', he, hg', hc⟩ := (HROW.out wr HBR.out).2 k r hs
          injection he with he
          injection he with e1 e2
          subst e1 e2
          have cR := HRI.out _ (HBR.out.trans ((below1 wr (.cells #[.int .i64 r.x.op, .int .i64 r.x.bin, .int .i64 r.x.d, .int .i64 r.x.a.kind, .int .u32 r.x.a.n, .int .i64 r.x.b.kind, .int .u32 r.x.b.n, .int .i64 r.x.n, .int .i64 r.x.off, .int .i64 r.x.width, .bool r.x.sg, .slice r.xp r.x.args.length r.xc] TIn)).mono HBR.out.size)) r (List.mem_of_getElem? hs)
          have HAT := all_take (p := fun q : Iw => rightB htp hgv l.length sls obs fns q.x) hs
          have HATH : Hid ((l.take (k + 1)).all (fun q => rightB htp hgv l.length sls obs fns q.x) = rightB htp hgv l.length sls obs fns r.x) := by show _ = _; rw [HAT, HAL.out, Bool.true_and]
          have HMEM : Hid (rightB htp hgv l.length sls obs fns r.x = false → l.all (fun q => rightB htp hgv l.length sls obs fns q.x) = false) := fun hf => by
            rw [List.all_eq_false]; exact ⟨r, List.mem_of_getElem? hs, by simp [hf]⟩
          have j0 := hc 0 (by omega)
          have j1 := hc 1 (by omega)
          have j2 := hc 2 (by omega)
          have j3 := hc 3 (by omega)
          have j4 := hc 4 (by omega)
          have j5 := hc 5 (by omega)
          have j6 := hc 6 (by omega)
          have j7 := hc 7 (by omega)
          have j8 := hc 8 (by omega)
          have j9 := hc 9 (by omega)
          have j10 := hc 10 (by omega)
          have j11 := hc 11 (by omega)
          simp only [iwC, inCells, List.getElem?_cons_zero, List.getElem?_cons_succ, Nat.add_zero] at j0 j1 j2 j3 j4 j5 j6 j7 j8 j9 j10 j11
          have hold := heap_r0 wr (.cells #[.int .i64 0, .int .i64 0, .int .i64 0, .int .i64 0, .int .u32 0, .int .i64 0, .int .u32 0, .int .i64 0, .int .i64 0, .int .i64 0, .bool false, .slice none 0 0] TIn)
          have b5 := below1 wr (.cells #[.int .i64 r.x.op, .int .i64 r.x.bin, .int .i64 r.x.d, .int .i64 r.x.a.kind, .int .u32 r.x.a.n, .int .i64 r.x.b.kind, .int .u32 r.x.b.n, .int .i64 r.x.n, .int .i64 r.x.off, .int .i64 r.x.width, .bool r.x.sg, .slice r.xp r.x.args.length r.xc] TIn)
          obtain ⟨c0, c1, c2, c3, c4, c5, c6, c7, c8⟩ := cells9 (blk_b (blk_b N2.out HRW.out) b5)
          obtain ⟨x0, x1, x2, x3, x4, x5, x6, x7, x8, x9, x10, x11⟩ := cells12 (heap_r0 wr (.cells #[.int .i64 r.x.op, .int .i64 r.x.bin, .int .i64 r.x.d, .int .i64 r.x.a.kind, .int .u32 r.x.a.n, .int .i64 r.x.b.kind, .int .u32 r.x.b.n, .int .i64 r.x.n, .int .i64 r.x.off, .int .i64 r.x.width, .bool r.x.sg, .slice r.xp r.x.args.length r.xc] TIn))
          have HB5 : Hid (Below W2.heap.size W2 (wr.alloc (.cells #[.int .i64 r.x.op, .int .i64 r.x.bin, .int .i64 r.x.d, .int .i64 r.x.a.kind, .int .u32 r.x.a.n, .int .i64 r.x.b.kind, .int .u32 r.x.b.n, .int .i64 r.x.n, .int .i64 r.x.off, .int .i64 r.x.width, .bool r.x.sg, .slice r.xp r.x.args.length r.xc] TIn))) := HRW.out.trans (b5.mono HRW.out.size)
          clear hs hg' hc HAT b5
          go_upto_region 7 with (first | ((with_reducible apply step_store hold); rfl; rfl; kernel_rfl; rfl; kernel_rfl; rw [World.setRow_alloc_new]) | fail)
          generalize wr.alloc (.cells #[.int .i64 r.x.op, .int .i64 r.x.bin, .int .i64 r.x.d, .int .i64 r.x.a.kind, .int .u32 r.x.a.n, .int .i64 r.x.b.kind, .int .u32 r.x.b.n, .int .i64 r.x.n, .int .i64 r.x.off, .int .i64 r.x.width, .bool r.x.sg, .slice r.xp r.x.args.length r.xc] TIn) = W5 at *
          generalize rightB htp hgv l.length sls obs fns r.x = ob at *
          clear j0 j1 j2 j3 j4 j5 j6 j7 j8 j9 j10 j11 hold
          cases ob with
          | false =>
            have HV : Hid (R = false) := by show R = false; rw [HR1.out]; exact HMEM.out rfl
            go_wp2_with (first | (go_at_call 81; refine cR.mono ?_; rintro e w6 ⟨rfl, hb6⟩; have HB6 : Hid (Below W2.heap.size W2 w6) := HB5.out.trans (hb6.mono HB5.out.size); clear hb6) | fail)
            go_ret
            exact ⟨by rw [HV.out]; rfl, HB2.out.trans (HB6.out.mono HB2.out.size)⟩
          | true =>
            go_wp2_with (first | (go_at_call 81; refine cR.mono ?_; rintro e w6 ⟨rfl, hb6⟩; have HB6 : Hid (Below W2.heap.size W2 w6) := HB5.out.trans (hb6.mono HB5.out.size); clear hb6) | fail)
            exact ⟨⟨k + 1, by go_num, by omega, HATH, HB6⟩, by simp [intOf]; omega⟩
        · obtain rfl : k = l.length := by omega
          have HV : Hid (R = true) := by
            have := HAL.out
            rw [List.take_length] at this
            show R = _
            rw [HR1.out, this]
          go_wp2
          go_ret
          exact ⟨by rw [HV.out]; rfl, HBR.out⟩
end
end Go.Proofs.YtaaphipbkpjkjaaGreatDoor
namespace Go.Proofs.YtaaphipbkpjkjaaGreatDoor
open Go.RowKit Go.Maps
set_option linter.unusedVariables false
set_option maxRecDepth 100000
def byC (b : UInt8) : List Value := [.int .u8 b.toNat]
/-- How many bytes there are up to the last one that is not 0, of the first n. -/
def fillN (l : List UInt8) : Nat → Nat
  | 0 => 0
  | n + 1 => if (l.getD n 0).toNat = 0 then fillN l n else n + 1
theorem fillN_le (l : List UInt8) : ∀ n, fillN l n ≤ n
  | 0 => Nat.le_refl _
  | n + 1 => by
    unfold fillN
    split
    · exact Nat.le_succ_of_le (fillN_le l n)
    · exact Nat.le_refl _
section
variable {w : World}
set_option maxHeartbeats 4000000 in
theorem filled_c {p : Option Addr} {cap : Nat} {l : List UInt8} (hr : RowV byC 1 w p cap l) (hl : l.length ≤ 9223372036854775806) :
    Calls Tryz.prog 79 #[.slice p l.length cap] w fun e w' => e = .returned (.int .i64 (fillN l l.length : Nat)) ∧ w' = w := by
  have HROW : Hid (RowV byC 1 w p cap l) := hr
  clear hr
  go_enter Tryz.func79, Tryz.ntmps79
  go_wp2
  go_loopw [3] (fun iv wr => ∃ k : Nat, iv = .int .i64 k ∧ k ≤ l.length ∧ Hid (fillN l l.length = fillN l k) ∧ wr = w) (fun iv _ => (intOf iv).toNat)
  case atStart => exact ⟨l.length, rfl, Nat.le_refl _, rfl, rfl⟩
  case round =>
    obtain ⟨k, rfl, hk, HF, rfl⟩ := hrel
    by_cases h0 : k = 0
    · subst h0
      have d0 : decide ((0 : Int) < ((0 : Nat) : Int)) = false := by simp
      have HV : Hid (fillN l l.length = 0) := HF.out
      go_wp2
      go_ret
      exact ⟨by rw [HV.out]; rfl, rfl⟩
    · obtain ⟨t, ht⟩ : ∃ t, k = t + 1 := ⟨k - 1, by omega⟩
      have htl : t < l.length := by omega
      obtain ⟨b, hb⟩ : ∃ b, l[t]? = some b := ⟨_, List.getElem?_eq_getElem htl⟩
      obtain ⟨g, o, rfl, hg, hc⟩ := HROW.out.2 t b hb
      have hcap := HROW.out.1.1
      have a0 := hc 0 (by omega)
      simp only [byC, List.getElem?_cons_zero, Nat.add_zero, Nat.mul_one] at a0
      have hwk : IntKind.i64.wrap ((k : Int) - 1) = (t : Int) := by rw [wrap_idI (by omega) (by omega)]; omega
      have dk : decide ((0 : Int) < (k : Int)) = true := by simp; omega
      have hk0 : 0 < k := by omega
      have hgd : l.getD t 0 = b := by simp [List.getD, hb]
      have HST : Hid (fillN l k = if b.toNat = 0 then fillN l t else k) := by
        show _ = _
        rw [ht]
        show (if (l.getD t 0).toNat = 0 then fillN l t else t + 1) = _
        rw [hgd]
      by_cases hz : b.toNat = 0
      · have hz1 : ((b.toNat : Int) == 0) = true := by simp [hz]
        have hz2 : (b.toNat == 0) = true := by simp [hz]
        have HF2 : Hid (fillN l l.length = fillN l t) := by show _ = _; rw [HF.out, HST.out, if_pos hz]
        have htk : t < k := by omega
        clear ht hb hc hgd hz h0
        go_wp2
        refine ⟨⟨t, by first | rfl | go_num, by omega, HF2, by first | rfl | trivial⟩, ?_⟩
        simp [intOf]; omega
      · have hz1 : ((b.toNat : Int) == 0) = false := by simp; omega
        have hz2 : (b.toNat == 0) = false := by simpa using hz
        generalize b.toNat = bn at *
        have HV : Hid (fillN l l.length = k) := by show _ = _; rw [HF.out, HST.out, if_neg hz]
        clear ht hb hc hgd hz h0
        go_wp2
        go_ret
        exact ⟨by rw [HV.out]; rfl, by first | rfl | trivial⟩
end
end Go.Proofs.YtaaphipbkpjkjaaGreatDoor
namespace Go.Proofs.YtaaphipbkpjkjaaGreatDoor
open Go.RowKit Go.Maps
set_option linter.unusedVariables false
set_option maxRecDepth 100000
abbrev TOb : TypeId := 72
abbrev TRl : TypeId := 78
structure Rl where
  off : Int
  glob : Int
  add : Int
def rlC (r : Rl) : List Value := [.int .i64 r.off, .int .i64 r.glob, .int .i64 r.add]
def rel1 (align size free : Int) (r : Rl) : Bool := align == 4 && (withinP r.off free (size - 4) && r.off.tmod 4 == 0)
def rel2 (obs : List Ob) (r : Rl) : Bool := withinP r.glob 0 ((obs.length : Int) - 1) && withinP r.add 0 (szO obs r.glob)
def rel3 (bs : List UInt8) (r : Rl) : Bool := fillN ((bs.drop r.off.toNat).take 4) 4 == 0
def relB (align size : Int) (obs : List Ob) (bs : List UInt8) : Int → List Rl → Bool
  | _, [] => true
  | free, r :: l => rel1 align size free r && (rel2 obs r && (rel3 bs r && relB align size obs bs (r.off + 4) l))
theorem RowV.sub {α : Type} {C : α → List Value} {w : World} {g o cap : Nat} {l : List α} (h : RowV C 1 w (some ⟨g, o, none⟩) cap l) {i n : Nat} (hi : i + n ≤ l.length) : RowV C 1 w (some ⟨g, o + i, none⟩) (cap - i) ((l.drop i).take n) := by
  obtain ⟨⟨h1, h2⟩, h3⟩ := h
  refine ⟨⟨by simp; omega, fun e => by cases e⟩, fun j a ha => ?_⟩
  have hj : j < n := by
    have := (List.getElem?_eq_some_iff.1 ha).1
    simp at this
    omega
  rw [List.getElem?_take, if_pos hj, List.getElem?_drop] at ha
  obtain ⟨g', o', e, hg, hc⟩ := h3 (i + j) a ha
  injection e with e
  injection e with e1 e2
  subst e1 e2
  refine ⟨g, o + i, rfl, hg, fun q hq => ?_⟩
  have := hc q hq
  rw [show o + i + j * 1 + q = o + (i + j) * 1 + q by omega]
  exact this
section
variable {w : World}
set_option maxHeartbeats 16000000 in
theorem relocs_c {ap : Option Addr} {ac : Nat} {obs : List Ob} (hob : RowV obC 5 w ap ac obs) (hom : obs.length ≤ 9223372036854775806) {nm : ByteArray} {size align : Int} {bp : Option Addr} {bc : Nat} {bs : List UInt8} (hbs : RowV byC 1 w bp bc bs) (hbl : (bs.length : Int) = size) (hs1 : 1 ≤ size) (hs2 : size ≤ 16384)
    {rp : Option Addr} {rc : Nat} {rls : List Rl} (hrl : RowV rlC 3 w rp rc rls) (hrm : rls.length ≤ 9223372036854775806) :
    Calls Tryz.prog 49 #[.slice ap obs.length ac, .agg #[.string nm, .int .i64 size, .int .i64 align, .slice bp bs.length bc, .slice rp rls.length rc]] w fun e w' => e = .returned (.bool (relB align size obs bs 0 rls)) ∧ Below w.heap.size w w' := by
  have b1 := below1 w (.cells #[.string nm, .int .i64 size, .int .i64 align, .slice bp bs.length bc, .slice rp rls.length rc] TOb)
  have N1 : Hid ((w.alloc (.cells #[.string nm, .int .i64 size, .int .i64 align, .slice bp bs.length bc, .slice rp rls.length rc] TOb)).heap[w.heap.size]? = some (.cells #[.string nm, .int .i64 size, .int .i64 align, .slice bp bs.length bc, .slice rp rls.length rc] TOb (0, 0))) := heap_r0 w _
  have HB : Hid (Below w.heap.size w (w.alloc (.cells #[.string nm, .int .i64 size, .int .i64 align, .slice bp bs.length bc, .slice rp rls.length rc] TOb))) := b1
  have c4 := (Lib.cell_of_heap N1.out 4).trans rfl
  have HOB : Hid (∀ Y, Below w.heap.size w Y → RowV obC 5 Y ap ac obs) := fun Y hY => hob.below hY
  have HBS : Hid (∀ Y, Below w.heap.size w Y → RowV byC 1 Y bp bc bs) := fun Y hY => hbs.below hY
  have HRL : Hid (∀ Y, Below w.heap.size w Y → RowV rlC 3 Y rp rc rls) := fun Y hY => hrl.below hY
  obtain ⟨R, hR⟩ : ∃ R, R = relB align size obs bs 0 rls := ⟨_, rfl⟩
  rw [← hR]
  have HR : Hid (R = relB align size obs bs 0 (rls.drop 0)) := hR
  have HBL : Hid ((bs.length : Int) = size) := hbl
  have nt := not_t
  have nf := not_f
  clear b1 hob hbs hrl hR hbl
  go_enter Tryz.func49, Tryz.ntmps49
  go_upto_region 1 with (fail)
  refine (?_ : Code.wp _ _ _ _ (w.alloc (.cells #[.string nm, .int .i64 size, .int .i64 align, .slice bp bs.length bc, .slice rp rls.length rc] TOb)))
  generalize w.alloc (.cells #[.string nm, .int .i64 size, .int .i64 align, .slice bp bs.length bc, .slice rp rls.length rc] TOb) = W1 at *
  go_wp2
  clear c4
  go_loopw [5, 12] (fun fv iv wr => ∃ (k : Nat) (fr : Int), iv = .int .i64 k ∧ fv = .int .i64 fr ∧ (0 ≤ fr ∧ fr ≤ 16384) ∧ k ≤ rls.length ∧ Hid (R = relB align size obs bs fr (rls.drop k)) ∧ Hid (Below W1.heap.size W1 wr)) (fun _ iv _ => rls.length - (intOf iv).toNat)
  case atStart => exact ⟨0, 0, rfl, rfl, by omega, Nat.zero_le _, HR, Below.refl _ _⟩
  case round =>
    obtain ⟨k, fr, rfl, rfl, ⟨hf0, hf1⟩, hk, HRk, HRW⟩ := hrel
    have HBR : Hid (Below w.heap.size w wr) := HB.out.trans (HRW.out.mono HB.out.size)
    by_cases hlt : k < rls.length
    · obtain ⟨r, hr⟩ : ∃ r, rls[k]? = some r := ⟨_, List.getElem?_eq_getElem hlt⟩
      have HD : rls.drop k = r :: rls.drop (k + 1) := by
        rw [List.drop_eq_getElem_cons hlt]
        congr 1
        rw [List.getElem?_eq_getElem hlt] at hr
        exact Option.some.inj hr
      have HRS : Hid (R = (rel1 align size fr r && (rel2 obs r && (rel3 bs r && relB align size obs bs (r.off + 4) (rls.drop (k + 1)))))) := by show R = _; rw [HRk.out, HD]; rfl
      obtain ⟨g, o, rfl, hg, hc⟩ := (HRL.out wr HBR.out).2 k r hr
      have hcap := (HRL.out w (Below.refl _ _)).1.1
      have a0 := hc 0 (by omega)
      have a1 := hc 1 (by omega)
      have a2 := hc 2 (by omega)
      simp only [rlC, List.getElem?_cons_zero, List.getElem?_cons_succ, Nat.add_zero] at a0 a1 a2
      have hold := heap_r0 wr (.cells #[.int .i64 0, .int .i64 0, .int .i64 0] TRl)
      have N5 : Hid ((wr.alloc (.cells #[.int .i64 r.off, .int .i64 r.glob, .int .i64 r.add] TRl)).heap[wr.heap.size]? = some (.cells #[.int .i64 r.off, .int .i64 r.glob, .int .i64 r.add] TRl (0, 0))) := heap_r0 wr _
      have b5 := below1 wr (.cells #[.int .i64 r.off, .int .i64 r.glob, .int .i64 r.add] TRl)
      have NO5 : Hid ((wr.alloc (.cells #[.int .i64 r.off, .int .i64 r.glob, .int .i64 r.add] TRl)).heap[w.heap.size]? = some (.cells #[.string nm, .int .i64 size, .int .i64 align, .slice bp bs.length bc, .slice (some ⟨g, o, none⟩) rls.length rc] TOb (0, 0))) := blk_b (blk_b N1.out HRW.out) b5
      have HB5 : Hid (Below W1.heap.size W1 (wr.alloc (.cells #[.int .i64 r.off, .int .i64 r.glob, .int .i64 r.add] TRl))) := HRW.out.trans (b5.mono HRW.out.size)
      clear HD hc hg b5 HRk
      go_upto_region 5 with (first | ((with_reducible apply step_store hold); rfl; rfl; kernel_rfl; rfl; kernel_rfl; rw [World.setRow_alloc_new]) | fail)
      generalize wr.alloc (.cells #[.int .i64 r.off, .int .i64 r.glob, .int .i64 r.add] TRl) = W5 at *
      have p0 := (Lib.cell_of_heap N5.out 0).trans rfl
      have p1 := (Lib.cell_of_heap N5.out 1).trans rfl
      have p2 := (Lib.cell_of_heap N5.out 2).trans rfl
      have o1 := (Lib.cell_of_heap NO5.out 1).trans rfl
      have o2 := (Lib.cell_of_heap NO5.out 2).trans rfl
      have o3 := (Lib.cell_of_heap NO5.out 3).trans rfl
      have HW5 : Hid (Below w.heap.size w W5) := HB.out.trans (HB5.out.mono HB.out.size)
      clear a0 a1 a2 hold
      have hws : IntKind.i64.wrap (size - 4) = size - 4 := wrap_idI (by omega) (by omega)
      have cW := within_c r.off fr (size - 4) W5
      cases hq1 : (align == 4) with
      | false =>
        have hne : (align != 4) = true := by simpa using hq1
        have HV : Hid (R = false) := by show R = _; rw [HRS.out]; unfold rel1; rw [hq1]; rfl
        clear HRS hq1 cW
        go_wp2
        go_ret
        exact ⟨by rw [HV.out]; rfl, HW5.out⟩
      | true =>
        have hne : (align != 4) = false := by simpa using hq1
        cases hq2 : withinP r.off fr (size - 4) with
        | false =>
          rw [hq2] at cW
          have HV : Hid (R = false) := by show R = _; rw [HRS.out]; unfold rel1; rw [hq1, hq2]; rfl
          clear HRS hq1 hq2
          go_wp2_with (first | (go_at_call 50; refine cW.mono ?_; rintro e w' ⟨rfl, hw⟩; rw [hw]; clear hw w') | fail)
          go_ret
          exact ⟨by rw [HV.out]; rfl, HW5.out⟩
        | true =>
          rw [hq2] at cW
          have hoff : fr ≤ r.off ∧ r.off ≤ size - 4 := by unfold withinP at hq2; simpa using hq2
          have het : r.off.tmod 4 = r.off % 4 := Int.tmod_eq_emod_of_nonneg (by omega)
          have hwt : IntKind.i64.wrap (r.off % 4) = r.off % 4 := wrap_idI (by omega) (by omega)
          cases hq3 : (r.off.tmod 4 == 0) with
          | false =>
            have hnt : (r.off % 4 != 0) = true := by rw [het] at hq3; simpa using hq3
            have HV : Hid (R = false) := by show R = _; rw [HRS.out]; unfold rel1; rw [hq1, hq2, hq3]; rfl
            clear HRS hq1 hq2 hq3 het
            go_wp2_with (first | (go_at_call 50; refine cW.mono ?_; rintro e w' ⟨rfl, hw⟩; rw [hw]; clear hw w') | fail)
            go_ret
            exact ⟨by rw [HV.out]; rfl, HW5.out⟩
          | true =>
            have hnt : (r.off % 4 != 0) = false := by rw [het] at hq3; simpa using hq3
            have HR2 : Hid (R = (rel2 obs r && (rel3 bs r && relB align size obs bs (r.off + 4) (rls.drop (k + 1))))) := by show R = _; rw [HRS.out]; unfold rel1; rw [hq1, hq2, hq3]; rfl
            clear HRS hq1 hq2 het
            go_upto_region 7 with (first | (go_at_call 50; refine cW.mono ?_; rintro e w' ⟨rfl, hw⟩; rw [hw]; clear hw w') | fail)
            clear cW hne hnt hwt hws hq3
            have cN : ∀ Y, Calls Tryz.prog 28 #[.int .i64 r.glob, .int .i64 (obs.length : Int)] Y fun e w' => e = .returned (.bool (withinP r.glob 0 ((obs.length : Int) - 1))) ∧ w' = Y := fun Y => isNumber_c r.glob (obs.length : Int) (by omega) (by omega) Y
            cases hq4 : withinP r.glob 0 ((obs.length : Int) - 1) with
            | false =>
              rw [hq4] at cN
              have HV : Hid (R = false) := by show R = _; rw [HR2.out]; unfold rel2; rw [hq4]; rfl
              clear HR2 hq4
              go_quiet ((go_at_call 28; refine Calls.quiet_of_same (cN _)))
              go_wp2
              go_ret
              exact ⟨by rw [HV.out]; rfl, HW5.out.trans (below_drewN _ W5 nq)⟩
            | true =>
              rw [hq4] at cN
              have hgl : 0 ≤ r.glob ∧ r.glob ≤ (obs.length : Int) - 1 := by unfold withinP at hq4; simpa using hq4
              obtain ⟨n, hn⟩ : ∃ n : Nat, r.glob = n := ⟨r.glob.toNat, by omega⟩
              obtain ⟨ob, hob⟩ : ∃ ob, obs[n]? = some ob := ⟨_, List.getElem?_eq_getElem (by omega)⟩
              obtain ⟨ga, oa, hap, hga, hca⟩ := (HOB.out W5 HW5.out).2 n ob hob
              have hcapo := (HOB.out w (Below.refl _ _)).1.1
              subst hap
              have s1 := hca 1 (by omega)
              simp only [obC, List.getElem?_cons_zero, List.getElem?_cons_succ] at s1
              have cA : ∀ Y, Calls Tryz.prog 50 #[.int .i64 r.add, .int .i64 0, .int .i64 ob.size] Y fun e w' => e = .returned (.bool (withinP r.add 0 ob.size)) ∧ w' = Y := fun Y => within_c r.add 0 ob.size Y
              have HR3 : Hid (R = (withinP r.add 0 ob.size && (rel3 bs r && relB align size obs bs (r.off + 4) (rls.drop (k + 1))))) := by
                show R = _
                rw [HR2.out]
                unfold rel2 szO
                rw [hq4, hn, Int.toNat_natCast, hob]
                rfl
              have hnl : n < obs.length := by omega
              have p1n : W5.cell? ⟨wr.heap.size, 1, none⟩ = some (.int .i64 (n : Int)) := by rw [p1, hn]; rfl
              rw [hn] at cN
              clear HR2 hq4 hca hob p1 hgl hn hga
              cases hq5 : withinP r.add 0 ob.size with
              | false =>
                rw [hq5] at cA
                have HV : Hid (R = false) := by show R = _; rw [HR3.out, hq5]; rfl
                clear HR3 hq5
                go_quiet (first | (go_at_call 28; refine Calls.quiet_of_same (cN _)) | (go_at_call 50; refine Calls.quiet_of_same (cA _)))
                go_wp2
                go_ret
                exact ⟨by rw [HV.out]; rfl, HW5.out.trans (below_drewN _ W5 nq)⟩
              | true =>
                rw [hq5] at cA
                have HR4 : Hid (R = (rel3 bs r && relB align size obs bs (r.off + 4) (rls.drop (k + 1)))) := by show R = _; rw [HR3.out, hq5]; rfl
                clear HR3 hq5
                go_quiet (first | (go_at_call 28; refine Calls.quiet_of_same (cN _)) | (go_at_call 50; refine Calls.quiet_of_same (cA _)))
                have B7 : Below w.heap.size w (W5.drewN nq) := HW5.out.trans (below_drewN _ W5 nq)
                have HB7 : Hid (Below W1.heap.size W1 (W5.drewN nq)) := HB5.out.trans (below_drewN _ W5 nq)
                have HW7 : Hid (Below w.heap.size w (W5.drewN nq)) := B7
                obtain ⟨f, hf⟩ : ∃ f : Nat, r.off = f := ⟨r.off.toNat, by omega⟩
                have hbn := HBL.out
                obtain ⟨b0, hb0⟩ : ∃ b0, bs[0]? = some b0 := ⟨_, List.getElem?_eq_getElem (by omega)⟩
                obtain ⟨gb, ob', hbp, hgb, _⟩ := (HBS.out _ B7).2 0 b0 hb0
                have hcapb := (HBS.out _ B7).1.1
                have hsub := HBS.out _ B7
                rw [hbp] at hsub
                have hsub2 := hsub.sub (i := f) (n := 4) (by omega)
                have hlen4 : ((bs.drop f).take 4).length = 4 := by simp; omega
                have cF := filled_c hsub2 (by omega)
                rw [hlen4] at cF
                have q0 : (W5.drewN nq).cell? ⟨wr.heap.size, 0, none⟩ = some (.int .i64 (f : Int)) := by rw [← hf]; exact ((below_drewN W5.heap.size W5 nq).cell (p := ⟨wr.heap.size, 0, none⟩) (World.block_lt_of_cell? W5 _ p0)).trans p0
                have q3 : (W5.drewN nq).cell? ⟨w.heap.size, 3, none⟩ = some (.slice (some ⟨gb, ob', none⟩) bs.length bc) := by rw [← hbp]; exact ((below_drewN W5.heap.size W5 nq).cell (p := ⟨w.heap.size, 3, none⟩) (World.block_lt_of_cell? W5 _ o3)).trans o3
                have hw4 : IntKind.i64.wrap ((f : Int) + 4) = ((f + 4 : Nat) : Int) := by rw [wrap_idI (by omega) (by omega)]; omega
                have hr3 : rel3 bs r = (fillN ((bs.drop f).take 4) 4 == 0) := by unfold rel3; rw [hf, Int.toNat_natCast]
                have HR5 : Hid (R = ((fillN ((bs.drop f).take 4) 4 == 0) && relB align size obs bs ((f : Int) + 4) (rls.drop (k + 1)))) := by show R = _; rw [HR4.out, hr3, hf]
                have hfl := fillN_le ((bs.drop f).take 4) 4
                have hf4 : f + 4 ≤ bs.length := by omega
                generalize fillN ((bs.drop f).take 4) 4 = fz at *
                clear HR4 hsub hsub2 hlen4 hr3 hb0 hbp hgb B7 p0 p2 o1 o2 o3 s1 p1n
                generalize W5.drewN nq = W7 at *
                cases hz : (fz == 0) with
                | false =>
                  have hgt : 0 < fz := by have h0 : fz ≠ 0 := by simpa using hz
                                          omega
                  have HV : Hid (R = false) := by show R = _; rw [HR5.out, hz]; rfl
                  clear HR5 hz
                  go_wp2_with (first | (go_at_call 79; refine cF.mono ?_; rintro e w' ⟨rfl, hw⟩; rw [hw]; clear hw w') | fail)
                  go_ret
                  exact ⟨by rw [HV.out]; rfl, HW7.out⟩
                | true =>
                  have hgt : ¬ 0 < fz := by have h0 : fz = 0 := by simpa using hz
                                            omega
                  have HN : Hid (R = relB align size obs bs ((f : Int) + 4) (rls.drop (k + 1))) := by show R = _; rw [HR5.out, hz]; rfl
                  clear HR5 hz
                  go_wp2_with (first | (go_at_call 79; refine cF.mono ?_; rintro e w' ⟨rfl, hw⟩; rw [hw]; clear hw w') | fail)
                  refine ⟨⟨k + 1, (f : Int) + 4, by first | rfl | go_num, by first | rfl | go_num, by omega, by omega, HN, HB7⟩, ?_⟩
                  simp [intOf]; omega
    · obtain rfl : k = rls.length := by omega
      have HV : Hid (R = true) := by show R = _; rw [HRk.out, List.drop_length]; rfl
      go_wp2
      go_ret
      exact ⟨by rw [HV.out]; rfl, HBR.out⟩
end
end Go.Proofs.YtaaphipbkpjkjaaGreatDoor
