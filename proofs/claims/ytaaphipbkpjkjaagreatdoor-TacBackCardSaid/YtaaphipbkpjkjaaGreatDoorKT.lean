/-
  A program as text: Print of package tac.
  A program's lines: (*writer).program; Print of package tac.
-/
import Derived.Test.YtaaphipbkpjkjaaGreatDoorTdH
namespace Go.Proofs.YtaaphipbkpjkjaaGreatDoor
open Go.RowKit Go.Maps
set_option linter.unusedVariables false
set_option linter.unusedSimpArgs false
set_option maxRecDepth 100000
/-- An object's lines can be written. -/
def ObW (w0 : World) (q : Og) : Prop := ∀ (w : World) (b : Nat) (t : List UInt8), Below w0.heap.size w0 w → WrT w0.heap.size b t w → t.length ≤ 10000000000000 →
  Calls Tryz.prog 60 #[.pointer (some ⟨b, 0, none⟩), .agg (ogC q).toArray] w fun e w' => e = .returned (.tuple #[]) ∧ (linS t (obLines q)).length ≤ 10000000000000 ∧ WrT w0.heap.size b (linS t (obLines q)) w' ∧ Kp w0.heap.size b w w'
structure PgP (x : Pg) : Prop where
  fns : ∀ q ∈ x.fns, FgP q
  mn : I64 x.mn
theorem mainW_ok {n : Int} (h : I64 n) : (mainW n).length ≤ 6000000 ∧ ∀ x ∈ mainW n, x.size ≤ 100000 := by
  refine ⟨by simp [mainW], fun x hx => ?_⟩
  simp only [mainW, List.mem_cons, List.not_mem_nil, or_false] at hx
  rcases hx with rfl | rfl
  · rw [sB_size]; simp
  · exact decS_100 h
section
variable {w0 w : World} {b : Nat} {t : List UInt8}
set_option maxHeartbeats 16000000 in
theorem wprog_c (hP : PrW w0) {x : Pg} {a : Pw} (hx : PgOK w0 x a) (hxp : PgP x) (hob : ∀ q ∈ x.obs, ObW w0 q) (hb : Below w0.heap.size w0 w) (hT : WrT w0.heap.size b t w) (ht : t.length ≤ 10000000000000) :
    Calls Tryz.prog 38 #[.pointer (some ⟨b, 0, none⟩), pgV x a] w fun e w' => e = .returned (.tuple #[]) ∧ (linS t (pgLines x)).length ≤ 10000000000000 ∧ WrT w0.heap.size b (linS t (pgLines x)) w' ∧ Kp w0.heap.size b w w' := by
  have HX : Hid (PgOK w0 x a) := hx
  have HXP : Hid (PgP x) := hxp
  have HOB : Hid (∀ q ∈ x.obs, ObW w0 q) := hob
  have hom := hx.om
  have hfm := hx.fm
  unfold pgV
  obtain ⟨obs, fns, mn⟩ := x
  obtain ⟨op, oc, fp, fc⟩ := a
  simp only at HX HXP HOB hom hfm ⊢
  have HPL : Hid (pgLines ⟨obs, fns, mn⟩ = obs.flatMap obLines ++ fns.flatMap fnLines ++ [mainW mn]) := rfl
  have b1 := below1 w (.cells #[.slice op obs.length oc, .slice fp fns.length fc, .int .i64 mn] TPg)
  have HG1 : Hid ((w.alloc (.cells #[.slice op obs.length oc, .slice fp fns.length fc, .int .i64 mn] TPg)).heap[w.heap.size]? = some (.cells #[.slice op obs.length oc, .slice fp fns.length fc, .int .i64 mn] TPg (0, 0))) := heap_r0 w _
  have HB0 : Hid (Below w0.heap.size w0 w) := hb
  have HT1 : Hid (WrT w0.heap.size b t (w.alloc (.cells #[.slice op obs.length oc, .slice fp fns.length fc, .int .i64 mn] TPg))) := hT.below b1
  have HK1 : Hid (Kp w0.heap.size b w (w.alloc (.cells #[.slice op obs.length oc, .slice fp fns.length fc, .int .i64 mn] TPg))) := Kp.of_below b1
  have HP : Hid (PrW w0) := hP
  clear hP hx hxp hob b1 hT hb
  go_enter Tryz.func38, Tryz.ntmps38
  go_upto_region 1 with (fail)
  refine (?_ : Code.wp _ _ _ _ (w.alloc (.cells #[.slice op obs.length oc, .slice fp fns.length fc, .int .i64 mn] TPg)))
  generalize w.alloc (.cells #[.slice op obs.length oc, .slice fp fns.length fc, .int .i64 mn] TPg) = W1 at *
  have k0 := (Lib.cell_of_heap HG1.out 0).trans rfl
  go_wp2
  clear k0
  go_loopw [11] (fun iv wr => ∃ k : Nat, iv = .int .i64 k ∧ k ≤ obs.length ∧ Hid (WrT w0.heap.size b (linS t ((obs.take k).flatMap obLines)) wr) ∧ Hid ((linS t ((obs.take k).flatMap obLines)).length ≤ 10000000000000) ∧ Hid (wr.heap[w.heap.size]? = some (.cells #[.slice op obs.length oc, .slice fp fns.length fc, .int .i64 mn] TPg (0, 0))) ∧ Hid (Kp w0.heap.size b w wr)) (fun iv _ => obs.length - (intOf iv).toNat)
  case atStart => exact ⟨0, rfl, Nat.zero_le _, HT1, ht, HG1, HK1⟩
  case round =>
    obtain ⟨k, rfl, hk, HTk, HLk, HGk, HKk⟩ := hrel
    have HBk : Hid (Below w0.heap.size w0 wr) := Below.of_kp HB0.out HKk.out
    by_cases hlt : k < obs.length
    · obtain ⟨r, hs⟩ : ∃ s, obs[k]? = some s := ⟨_, List.getElem?_eq_getElem hlt⟩
      have hrow := HX.out.ob.below HBk.out
      simp only at hrow
      obtain ⟨g, o, rfl, hg, hc⟩ := hrow.2 k r hs
      have hcap := hrow.1.1
      have j0 := hc 0 (by omega)
      have j1 := hc 1 (by omega)
      have j2 := hc 2 (by omega)
      have j3 := hc 3 (by omega)
      have j4 := hc 4 (by omega)
      simp only [ogC, obC, List.getElem?_cons_zero, List.getElem?_cons_succ, Nat.add_zero] at j0 j1 j2 j3 j4
      have HTK : Hid (linS t ((obs.take (k + 1)).flatMap obLines) = linS (linS t ((obs.take k).flatMap obLines)) (obLines r)) := by
        show _ = _
        rw [take_succ hs, List.flatMap_append, linS_append]; simp
      generalize linS t ((obs.take k).flatMap obLines) = TK at *
      have hold := heap_r0 wr (.cells #[.string ⟨#[]⟩, .int .i64 0, .int .i64 0, .slice none 0 0, .slice none 0 0] TOb)
      have b5 := below1 wr (.cells #[.string r.o.nm, .int .i64 r.o.size, .int .i64 r.o.align, .slice r.o.bp r.o.bn r.o.bc, .slice r.o.rp r.o.rn r.o.rc] TOb)
      have N5 := heap_r0 wr (.cells #[.string r.o.nm, .int .i64 r.o.size, .int .i64 r.o.align, .slice r.o.bp r.o.bn r.o.bc, .slice r.o.rp r.o.rn r.o.rc] TOb)
      have x0 := (Lib.cell_of_heap N5 0).trans rfl
      have x1 := (Lib.cell_of_heap N5 1).trans rfl
      have x2 := (Lib.cell_of_heap N5 2).trans rfl
      have x3 := (Lib.cell_of_heap N5 3).trans rfl
      have x4 := (Lib.cell_of_heap N5 4).trans rfl
      have cO : Calls Tryz.prog 60 #[.pointer (some ⟨b, 0, none⟩), .agg #[.string r.o.nm, .int .i64 r.o.size, .int .i64 r.o.align, .slice r.o.bp r.o.bn r.o.bc, .slice r.o.rp r.o.rn r.o.rc]] (wr.alloc (.cells #[.string r.o.nm, .int .i64 r.o.size, .int .i64 r.o.align, .slice r.o.bp r.o.bn r.o.bc, .slice r.o.rp r.o.rn r.o.rc] TOb)) fun e w' => e = .returned (.tuple #[]) ∧ (linS TK (obLines r)).length ≤ 10000000000000 ∧ WrT w0.heap.size b (linS TK (obLines r)) w' ∧ Kp w0.heap.size b (wr.alloc (.cells #[.string r.o.nm, .int .i64 r.o.size, .int .i64 r.o.align, .slice r.o.bp r.o.bn r.o.bc, .slice r.o.rp r.o.rn r.o.rc] TOb)) w' :=
        HOB.out r (List.mem_of_getElem? hs) _ b TK (HBk.out.trans (b5.mono HBk.out.size)) (HTk.out.below b5) HLk.out
      have HG5 : Hid ((wr.alloc (.cells #[.string r.o.nm, .int .i64 r.o.size, .int .i64 r.o.align, .slice r.o.bp r.o.bn r.o.bc, .slice r.o.rp r.o.rn r.o.rc] TOb)).heap[w.heap.size]? = some (.cells #[.slice (some ⟨g, o, none⟩) obs.length oc, .slice fp fns.length fc, .int .i64 mn] TPg (0, 0))) := blk_b HGk.out b5
      have hgb : Hid (w.heap.size ≠ b) := HTk.out.ne HGk.out (by decide)
      have HK5 : Hid (Kp w0.heap.size b w (wr.alloc (.cells #[.string r.o.nm, .int .i64 r.o.size, .int .i64 r.o.align, .slice r.o.bp r.o.bn r.o.bc, .slice r.o.rp r.o.rn r.o.rc] TOb))) := HKk.out.trans (Kp.of_below b5)
      clear hs hg hc b5 hrow N5
      go_upto_region 4 with (first | ((with_reducible apply step_store hold); rfl; rfl; kernel_rfl; rfl; kernel_rfl; rw [World.setRow_alloc_new]) | fail)
      generalize wr.alloc (.cells #[.string r.o.nm, .int .i64 r.o.size, .int .i64 r.o.align, .slice r.o.bp r.o.bn r.o.bc, .slice r.o.rp r.o.rn r.o.rc] TOb) = W5 at *
      clear j0 j1 j2 j3 j4 hold
      go_wp2_with (first | (go_at_call 60; refine cO.mono ?_; rintro e w7 ⟨rfl, hL7, hT7, hK7⟩; have HTT : Hid (WrT w0.heap.size b (linS TK (obLines r)) w7) := hT7; have HLT : Hid ((linS TK (obLines r)).length ≤ 10000000000000) := hL7; have HG7 := hK7.blk HG5.out hgb.out (by decide); have HK7 : Hid (Kp w0.heap.size b w w7) := HK5.out.trans hK7; clear hT7 hK7 hL7 cO) | fail)
      refine ⟨⟨k + 1, by go_num, by omega, by rw [HTK.out]; exact HTT, by rw [HTK.out]; exact HLT, HG7, HK7⟩, by simp [intOf]; omega⟩
    · obtain rfl : k = obs.length := by omega
      rw [List.take_length] at HTk HLk
      have k5 := (Lib.cell_of_heap HGk.out 1).trans rfl
      obtain ⟨W7, hW7⟩ : ∃ W7, W7 = wr := ⟨_, rfl⟩
      rw [← hW7] at HTk HGk HKk k5 ⊢
      clear hW7 HBk
      go_wp2
      clear k5
      go_loopw [22] (fun iv wr => ∃ k : Nat, iv = .int .i64 k ∧ k ≤ fns.length ∧ Hid (WrT w0.heap.size b (linS t (obs.flatMap obLines ++ (fns.take k).flatMap fnLines)) wr) ∧ Hid ((linS t (obs.flatMap obLines ++ (fns.take k).flatMap fnLines)).length ≤ 10000000000000) ∧ Hid (wr.heap[w.heap.size]? = some (.cells #[.slice op obs.length oc, .slice fp fns.length fc, .int .i64 mn] TPg (0, 0))) ∧ Hid (Kp w0.heap.size b w wr)) (fun iv _ => fns.length - (intOf iv).toNat)
      case atStart => exact ⟨0, rfl, Nat.zero_le _, by simpa using HTk, by simpa using HLk, HGk, HKk⟩
      case round =>
        rename World => wr
        obtain ⟨k, rfl, hk, HTk, HLk, HGk, HKk⟩ := hrel
        have HBk : Hid (Below w0.heap.size w0 wr) := Below.of_kp HB0.out HKk.out
        by_cases hlt : k < fns.length
        · obtain ⟨r, hs⟩ : ∃ s, fns[k]? = some s := ⟨_, List.getElem?_eq_getElem hlt⟩
          have hrow := HX.out.fr.below HBk.out
          simp only at hrow
          obtain ⟨g, o, rfl, hg, hc⟩ := hrow.2 k r hs
          have hcap := hrow.1.1
          have j0 := hc 0 (by omega)
          have j1 := hc 1 (by omega)
          have j2 := hc 2 (by omega)
          have j3 := hc 3 (by omega)
          have j4 := hc 4 (by omega)
          have j5 := hc 5 (by omega)
          simp only [fgC, fnC, List.getElem?_cons_zero, List.getElem?_cons_succ, Nat.add_zero] at j0 j1 j2 j3 j4 j5
          have HTK : Hid (linS t (obs.flatMap obLines ++ (fns.take (k + 1)).flatMap fnLines) = linS (linS t (obs.flatMap obLines ++ (fns.take k).flatMap fnLines)) (fnLines r)) := by
            show _ = _
            rw [take_succ hs, List.flatMap_append, ← List.append_assoc, linS_append]; simp
          generalize linS t (obs.flatMap obLines ++ (fns.take k).flatMap fnLines) = TK at *
          have hold := heap_r0 wr (.cells #[.string ⟨#[]⟩, .int .i64 0, .int .i64 0, .bool false, .slice none 0 0, .slice none 0 0] TFn)
          have b5 := below1 wr (.cells #[.string r.f.nm, .int .i64 r.f.pr, .int .i64 r.f.tp, .bool r.f.gv, .slice r.f.sp r.f.sn r.f.sc, .slice r.f.cp r.f.cn r.f.cc] TFn)
          have N5 := heap_r0 wr (.cells #[.string r.f.nm, .int .i64 r.f.pr, .int .i64 r.f.tp, .bool r.f.gv, .slice r.f.sp r.f.sn r.f.sc, .slice r.f.cp r.f.cn r.f.cc] TFn)
          have x0 := (Lib.cell_of_heap N5 0).trans rfl
          have x1 := (Lib.cell_of_heap N5 1).trans rfl
          have x2 := (Lib.cell_of_heap N5 2).trans rfl
          have x3 := (Lib.cell_of_heap N5 3).trans rfl
          have x4 := (Lib.cell_of_heap N5 4).trans rfl
          have x5 := (Lib.cell_of_heap N5 5).trans rfl
          have cO : Calls Tryz.prog 61 #[.pointer (some ⟨b, 0, none⟩), .agg #[.string r.f.nm, .int .i64 r.f.pr, .int .i64 r.f.tp, .bool r.f.gv, .slice r.f.sp r.f.sn r.f.sc, .slice r.f.cp r.f.cn r.f.cc]] (wr.alloc (.cells #[.string r.f.nm, .int .i64 r.f.pr, .int .i64 r.f.tp, .bool r.f.gv, .slice r.f.sp r.f.sn r.f.sc, .slice r.f.cp r.f.cn r.f.cc] TFn)) fun e w' => e = .returned (.tuple #[]) ∧ (linS TK (fnLines r)).length ≤ 10000000000000 ∧ WrT w0.heap.size b (linS TK (fnLines r)) w' ∧ Kp w0.heap.size b (wr.alloc (.cells #[.string r.f.nm, .int .i64 r.f.pr, .int .i64 r.f.tp, .bool r.f.gv, .slice r.f.sp r.f.sn r.f.sc, .slice r.f.cp r.f.cn r.f.cc] TFn)) w' :=
            wfun_c HP.out (HX.out.fi r (List.mem_of_getElem? hs)) (HXP.out.fns r (List.mem_of_getElem? hs)) (HBk.out.trans (b5.mono HBk.out.size)) (HTk.out.below b5) HLk.out
          have HG5 : Hid ((wr.alloc (.cells #[.string r.f.nm, .int .i64 r.f.pr, .int .i64 r.f.tp, .bool r.f.gv, .slice r.f.sp r.f.sn r.f.sc, .slice r.f.cp r.f.cn r.f.cc] TFn)).heap[w.heap.size]? = some (.cells #[.slice op obs.length oc, .slice (some ⟨g, o, none⟩) fns.length fc, .int .i64 mn] TPg (0, 0))) := blk_b HGk.out b5
          have hgb : Hid (w.heap.size ≠ b) := HTk.out.ne HGk.out (by decide)
          have HK5 : Hid (Kp w0.heap.size b w (wr.alloc (.cells #[.string r.f.nm, .int .i64 r.f.pr, .int .i64 r.f.tp, .bool r.f.gv, .slice r.f.sp r.f.sn r.f.sc, .slice r.f.cp r.f.cn r.f.cc] TFn))) := HKk.out.trans (Kp.of_below b5)
          clear hs hg hc b5 hrow N5
          go_upto_region 9 with (first | ((with_reducible apply step_store hold); rfl; rfl; kernel_rfl; rfl; kernel_rfl; rw [World.setRow_alloc_new]) | fail)
          generalize wr.alloc (.cells #[.string r.f.nm, .int .i64 r.f.pr, .int .i64 r.f.tp, .bool r.f.gv, .slice r.f.sp r.f.sn r.f.sc, .slice r.f.cp r.f.cn r.f.cc] TFn) = W5 at *
          clear j0 j1 j2 j3 j4 j5 hold
          go_wp2_with (first | (go_at_call 61; refine cO.mono ?_; rintro e w7 ⟨rfl, hL7, hT7, hK7⟩; have HTT : Hid (WrT w0.heap.size b (linS TK (fnLines r)) w7) := hT7; have HLT : Hid ((linS TK (fnLines r)).length ≤ 10000000000000) := hL7; have HG7 := hK7.blk HG5.out hgb.out (by decide); have HK7 : Hid (Kp w0.heap.size b w w7) := HK5.out.trans hK7; clear hT7 hK7 hL7 cO) | fail)
          refine ⟨⟨k + 1, by go_num, by omega, by rw [HTK.out]; exact HTT, by rw [HTK.out]; exact HLT, HG7, HK7⟩, by simp [intOf]; omega⟩
        · obtain rfl : k = fns.length := by omega
          rw [List.take_length] at HTk HLk
          have k5 := (Lib.cell_of_heap HGk.out 2).trans rfl
          have cI := itoa_c (HP.out.tabs.below HBk.out) mn HXP.out.mn.1 HXP.out.mn.2
          have CL : Hid (∀ Y, SH wr Y → Calls Tryz.prog 62 #[.pointer (some ⟨b, 0, none⟩), .slice (some ⟨Y.heap.size, 0, none⟩) 2 2] (Y.alloc (.cells #[.string ⟨#[109, 97, 105, 110]⟩, .string (decS mn)] TStr)) fun e w' => e = .returned (.tuple #[]) ∧ WrT w0.heap.size b (lineS (linS t (obs.flatMap obLines ++ fns.flatMap fnLines)) (mainW mn)) w' ∧ Kp w0.heap.size b wr w') :=
            fun Y h => line_new HTk.out HBk.out.size (h.alloc _) (mainW mn) (by simp [mainW]) (mainW_ok HXP.out.mn) HLk.out (heap_r0 Y _)
          have HLE : Hid ((lineS (linS t (obs.flatMap obLines ++ fns.flatMap fnLines)) (mainW mn)).length ≤ 10000000000000) := lineS_le HLk.out (lineT_ok (mainW_ok HXP.out.mn))
          have HLL : Hid (linS t (pgLines ⟨obs, fns, mn⟩) = lineS (linS t (obs.flatMap obLines ++ fns.flatMap fnLines)) (mainW mn)) := by show _ = _; rw [HPL.out]; exact linS_snoc _ _ _
          generalize lineS (linS t (obs.flatMap obLines ++ fns.flatMap fnLines)) (mainW mn) = TZ at *
          generalize decS mn = dm at *
          go_wp2_with (first | (go_at_call 63; refine cI.mono ?_; rintro e w6 ⟨rfl, hb6⟩; have cL := CL.out w6 hb6; clear hb6 cI) | (go_at_call 62; refine cL.mono ?_; rintro e w7 ⟨rfl, hT7, hK7⟩; have HTT : Hid (WrT w0.heap.size b TZ w7) := hT7; have HK7 : Hid (Kp w0.heap.size b w w7) := HKk.out.trans hK7; clear hT7 hK7 cL) | fail)
          go_end0
          exact ⟨rfl, by rw [HLL.out]; exact HLE.out, by rw [HLL.out]; exact HTT.out, HK7.out⟩
end
end Go.Proofs.YtaaphipbkpjkjaaGreatDoor
namespace Go.Proofs.YtaaphipbkpjkjaaGreatDoor
open Go.RowKit Go.Maps
set_option linter.unusedVariables false
set_option linter.unusedSimpArgs false
set_option maxRecDepth 100000
theorem printS_pos (x : Pg) : 0 < (printS x).length := by
  have e : printS x = lineS (linS [] (x.obs.flatMap obLines ++ x.fns.flatMap fnLines)) (mainW x.mn) := linS_snoc _ _ _
  rw [e]
  unfold lineS
  split
  · omega
  · rw [List.length_append]; unfold lineT; simp; omega
def printE (x : Pg) : Int := if checkB x then (if 1048576 < (printS x).length then 2 else 0) else 130
def printT (x : Pg) : ByteArray := if checkB x then (if 1048576 < (printS x).length then ⟨#[]⟩ else sB (printS x)) else ⟨#[]⟩
theorem conv_text {W : World} {B : Nat} {v : Value} {t : List UInt8} (h : W.ownsRow B TBy 1 v t.length (byV t)) (ht : 0 < t.length) : (convert 67 9 v).run Tryz.prog W = .ok (.string (sB t)) W := by
  obtain ⟨g, cap, rfl, _, _, _, hc, _⟩ := own_cell h ht
  refine run_convert_bytes_back (P := Tryz.prog) W 67 9 5 ⟨g, 0, none⟩ cap t Tryz.underlying67 Tryz.underlying5 Tryz.underlying9 (fun j hj => ?_)
  rw [Lib.add_plain, Nat.zero_add]
  exact hc j _ (by simp [byV, hj])
section
variable {w : World}
set_option maxHeartbeats 8000000 in
theorem print_c (hP : PrW w) {x : Pg} {a : Pw} (hx : PgOK w x a) (hxp : checkB x = true → PgP x) (hob : checkB x = true → ∀ q ∈ x.obs, ∀ Y, Below w.heap.size w Y → ObW Y q) :
    Calls Tryz.prog 21 #[pgV x a] w fun e w' => e = .returned (.tuple #[.string (printT x), .int .i64 (printE x)]) ∧ Below w.heap.size w w' := by
  have b1 := below1 w (.cells #[.slice a.op x.obs.length a.oc, .slice a.fp x.fns.length a.fc, .int .i64 x.mn] TPg)
  have N1 := heap_r0 w (.cells #[.slice a.op x.obs.length a.oc, .slice a.fp x.fns.length a.fc, .int .i64 x.mn] TPg)
  have c0 := (Lib.cell_of_heap N1 0).trans rfl
  have c1 := (Lib.cell_of_heap N1 1).trans rfl
  have c2 := (Lib.cell_of_heap N1 2).trans rfl
  have HP1 := hP.below b1
  have cK := check_c (hx.below b1) HP1.forms HP1.names HP1.pos
  have HG1 : Hid (_ = _) := N1
  have HB1 : Hid (Below w.heap.size w (w.alloc (.cells #[.slice a.op x.obs.length a.oc, .slice a.fp x.fns.length a.fc, .int .i64 x.mn] TPg))) := b1
  have HX : Hid (∀ Y, Below w.heap.size w Y → PgOK Y x a) := fun Y hY => hx.below hY
  have HP : Hid (∀ Y, Below w.heap.size w Y → PrW Y) := fun Y hY => hP.below hY
  unfold pgV at cK ⊢
  cases hck : checkB x with
  | false =>
    rw [hck] at cK
    have HE : Hid (printE x = 130) := by show _ = _; unfold printE; rw [hck]; rfl
    have HTx : Hid (printT x = ⟨#[]⟩) := by show _ = _; unfold printT; rw [hck]; rfl
    rw [HE.out, HTx.out]
    clear b1 N1 HP1 hx hP hxp hob hck HE HTx
    simp only [Bool.false_eq_true, if_false] at cK
    go_enter Tryz.func21, Tryz.ntmps21
    go_upto_region 1 with (fail)
    refine (?_ : Code.wp _ _ _ _ (w.alloc (.cells #[.slice a.op x.obs.length a.oc, .slice a.fp x.fns.length a.fc, .int .i64 x.mn] TPg)))
    generalize w.alloc (.cells #[.slice a.op x.obs.length a.oc, .slice a.fp x.fns.length a.fc, .int .i64 x.mn] TPg) = W1 at *
    go_wp2_with (first | (go_at_call 9; refine cK.mono ?_; rintro e w2 ⟨rfl, hb2⟩; have HB2 : Hid (Below w.heap.size w w2) := HB1.out.trans (hb2.mono HB1.out.size); clear hb2 cK) | fail)
    go_ret2
    exact ⟨rfl, HB2.out⟩
  | true =>
    rw [hck] at cK
    have HCW : Hid (∀ Y, Below w.heap.size w Y → Calls Tryz.prog 38 #[.pointer (some ⟨Y.heap.size, 0, none⟩), .agg #[.slice a.op x.obs.length a.oc, .slice a.fp x.fns.length a.fc, .int .i64 x.mn]] (Y.alloc (.cells #[.slice none 0 0] TWr)) fun e w' => e = .returned (.tuple #[]) ∧ (printS x).length ≤ 10000000000000 ∧ WrT Y.heap.size Y.heap.size (printS x) w' ∧ Kp Y.heap.size Y.heap.size (Y.alloc (.cells #[.slice none 0 0] TWr)) w') :=
      fun Y hY => wprog_c (hP.below hY) (hx.below hY) (hxp hck) (fun q hq => hob hck q hq Y hY) (below1 Y _) ⟨Nat.le_refl _, .slice none 0 0, heap_r0 Y _, rfl, Or.inl ⟨rfl, rfl⟩⟩ (by simp)
    have hpos := printS_pos x
    have HE0 : Hid (printE x = if 1048576 < (printS x).length then 2 else 0) := by show _ = _; unfold printE; rw [hck]; rfl
    have HT0 : Hid (printT x = if 1048576 < (printS x).length then ⟨#[]⟩ else sB (printS x)) := by show _ = _; unfold printT; rw [hck]; rfl
    rw [HE0.out, HT0.out]
    generalize printS x = PS at *
    clear b1 N1 HP1 hx hP hxp hob hck HE0 HT0
    simp only [if_true] at cK
    by_cases hfull : 1048576 < PS.length
    · have e0 : decide (1048576 < PS.length) = true := by simpa using hfull
      rw [if_pos hfull, if_pos hfull]
      clear hfull
      go_enter Tryz.func21, Tryz.ntmps21
      go_upto_region 1 with (fail)
      refine (?_ : Code.wp _ _ _ _ (w.alloc (.cells #[.slice a.op x.obs.length a.oc, .slice a.fp x.fns.length a.fc, .int .i64 x.mn] TPg)))
      generalize w.alloc (.cells #[.slice a.op x.obs.length a.oc, .slice a.fp x.fns.length a.fc, .int .i64 x.mn] TPg) = W1 at *
      go_upto_region 4 with (first | (go_at_call 9; refine cK.mono ?_; rintro e w2 ⟨rfl, hb2⟩; have HB2 : Hid (Below w.heap.size w w2) := HB1.out.trans (hb2.mono HB1.out.size); have HG2 := blk_b HG1.out hb2; have b3 := below1 w2 (.cells #[.slice none 0 0] TWr); have HG3 := blk_b HG2 b3; have cW := HCW.out w2 HB2.out; have d0 := (Lib.cell_of_heap HG3 0).trans rfl; have d1 := (Lib.cell_of_heap HG3 1).trans rfl; have d2 := (Lib.cell_of_heap HG3 2).trans rfl; have HB3 : Hid (Below w.heap.size w (w2.alloc (.cells #[.slice none 0 0] TWr))) := HB2.out.trans (b3.mono HB2.out.size); clear hb2 cK HG2 HG3 b3) | fail)
      clear c0 c1 c2
      go_wp2_with (first | (go_at_call 38; refine cW.mono ?_; rintro e w4 ⟨rfl, hL4, hT4, hK4⟩; have HT4 : Hid (WrT w2.heap.size w2.heap.size PS w4) := hT4; have HB4 : Hid (Below w.heap.size w w4) := HB3.out.trans ((hK4.below (below1 w2 _).size).mono HB2.out.size); have cF := full_c hT4 (by omega); rw [e0] at cF; clear hL4 hT4 hK4 cW) | (go_at_call 39; refine cF.mono ?_; rintro e w' ⟨rfl, hw⟩; rw [hw]; clear hw w' cF) | fail)
      go_ret2
      exact ⟨rfl, HB4.out⟩
    · have e0 : decide (1048576 < PS.length) = false := by simpa using hfull
      rw [if_neg hfull, if_neg hfull]
      clear hfull
      go_enter Tryz.func21, Tryz.ntmps21
      go_upto_region 1 with (fail)
      refine (?_ : Code.wp _ _ _ _ (w.alloc (.cells #[.slice a.op x.obs.length a.oc, .slice a.fp x.fns.length a.fc, .int .i64 x.mn] TPg)))
      generalize w.alloc (.cells #[.slice a.op x.obs.length a.oc, .slice a.fp x.fns.length a.fc, .int .i64 x.mn] TPg) = W1 at *
      go_upto_region 4 with (first | (go_at_call 9; refine cK.mono ?_; rintro e w2 ⟨rfl, hb2⟩; have HB2 : Hid (Below w.heap.size w w2) := HB1.out.trans (hb2.mono HB1.out.size); have HG2 := blk_b HG1.out hb2; have b3 := below1 w2 (.cells #[.slice none 0 0] TWr); have HG3 := blk_b HG2 b3; have cW := HCW.out w2 HB2.out; have d0 := (Lib.cell_of_heap HG3 0).trans rfl; have d1 := (Lib.cell_of_heap HG3 1).trans rfl; have d2 := (Lib.cell_of_heap HG3 2).trans rfl; have HB3 : Hid (Below w.heap.size w (w2.alloc (.cells #[.slice none 0 0] TWr))) := HB2.out.trans (b3.mono HB2.out.size); clear hb2 cK HG2 HG3 b3) | fail)
      clear c0 c1 c2
      go_wp2_with (first | (go_at_call 38; refine cW.mono ?_; rintro e w4 ⟨rfl, hL4, hT4, hK4⟩; obtain ⟨_, v4, hg4, ho4⟩ := id hT4; have hcv := conv_text ho4 hpos; obtain ⟨p4, q4, rfl⟩ := slice_of_own ho4; have t0 := (Lib.cell_of_heap hg4 0).trans rfl; have HB4 : Hid (Below w.heap.size w w4) := HB3.out.trans ((hK4.below (below1 w2 _).size).mono HB2.out.size); have cF := full_c hT4 (by omega); rw [e0] at cF; clear hL4 hT4 hK4 cW hg4 ho4) | (go_at_call 39; refine cF.mono ?_; rintro e w' ⟨rfl, hw⟩; rw [hw]; clear hw w' cF) | fail)
      go_ret2
      exact ⟨rfl, HB4.out⟩
end
end Go.Proofs.YtaaphipbkpjkjaaGreatDoor
