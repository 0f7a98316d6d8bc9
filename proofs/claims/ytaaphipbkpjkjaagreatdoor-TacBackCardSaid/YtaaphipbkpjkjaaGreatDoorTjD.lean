/-
  An object's lines: (*writer).object of package tac.
-/
import Derived.Test.YtaaphipbkpjkjaaGreatDoorPD
namespace Go.Proofs.YtaaphipbkpjkjaaGreatDoor
open Go.RowKit Go.Maps
set_option linter.unusedVariables false
set_option linter.unusedSimpArgs false
set_option maxRecDepth 100000
theorem obHeadW_ok' {o : Ob} (h1 : o.nm.size ≤ 100000) (h2 : I64 o.size) (h3 : I64 o.align) : (obHeadW o).length ≤ 6000000 ∧ ∀ x ∈ obHeadW o, x.size ≤ 100000 := by
  refine ⟨by simp [obHeadW], fun x hx => ?_⟩
  simp only [obHeadW, List.mem_cons, List.not_mem_nil, or_false] at hx
  rcases hx with rfl | rfl | rfl | rfl
  · rw [sB_size]; simp
  · exact h1
  · exact decS_100 h2
  · exact decS_100 h3
theorem relW_ok' {r : Rl} (h : I64 r.off ∧ I64 r.glob ∧ I64 r.add) : (relW r).length ≤ 6000000 ∧ ∀ x ∈ relW r, x.size ≤ 100000 := by
  refine ⟨by simp [relW], fun x hx => ?_⟩
  simp only [relW, List.mem_cons, List.not_mem_nil, or_false] at hx
  rcases hx with rfl | rfl | rfl | rfl
  · rw [sB_size]; simp
  · exact decS_100 h.1
  · exact decS_100 h.2.1
  · exact decS_100 h.2.2
theorem hexT_length (l : List UInt8) : (hexT l).length = 2 * l.length := by
  unfold hexT
  induction l with
  | nil => rfl
  | cons a l ih => rw [List.flatMap_cons, List.length_append, ih, List.length_cons]; simp; omega
theorem dataWd_ok {bs : List UInt8} (h : bs.length ≤ 50000) : [sB [100, 97, 116, 97], sB (hexT bs)].length ≤ 6000000 ∧ ∀ x ∈ [sB [100, 97, 116, 97], sB (hexT bs)], x.size ≤ 100000 := by
  refine ⟨by simp, fun x hx => ?_⟩
  simp only [List.mem_cons, List.not_mem_nil, or_false] at hx
  rcases hx with rfl | rfl
  · rw [sB_size]; simp
  · rw [sB_size, hexT_length]; omega
theorem RowV.take1 {α : Type} {C : α → List Value} {w : World} {p : Option Addr} {cap : Nat} {l : List α} (h : RowV C 1 w p cap l) (n : Nat) : RowV C 1 w p cap (l.take n) := by
  refine ⟨⟨Nat.le_trans (by rw [List.length_take]; exact Nat.min_le_right _ _) h.1.1, h.1.2⟩, fun i a ha => h.2 i a ?_⟩
  rw [List.getElem?_take] at ha
  split at ha
  · exact ha
  · cases ha
section
variable {w0 : World}
set_option maxHeartbeats 16000000 in
theorem wobj_c (hP : PrW w0) {q : Og} (hq : OgOK w0 q) (hqp : OgP q) : ObW w0 q := by
  intro w b t hb hT ht
  obtain ⟨⟨nm, sz, al, bp, bn, bc, rp, rn, rc⟩, bs, rls⟩ := q
  have HQ : Hid (OgOK w0 ⟨⟨nm, sz, al, bp, bn, bc, rp, rn, rc⟩, bs, rls⟩) := hq
  have HQP : Hid (OgP ⟨⟨nm, sz, al, bp, bn, bc, rp, rn, rc⟩, bs, rls⟩) := hqp
  obtain rfl : bn = bs.length := hq.bn
  obtain rfl : rn = rls.length := hq.rn
  simp only [ogC, obC]
  have b1 := below1 w (.cells #[.string nm, .int .i64 sz, .int .i64 al, .slice bp bs.length bc, .slice rp rls.length rc] TOb)
  have HG1 : Hid ((w.alloc (.cells #[.string nm, .int .i64 sz, .int .i64 al, .slice bp bs.length bc, .slice rp rls.length rc] TOb)).heap[w.heap.size]? = some (.cells #[.string nm, .int .i64 sz, .int .i64 al, .slice bp bs.length bc, .slice rp rls.length rc] TOb (0, 0))) := heap_r0 w _
  have HB1 : Hid (Below w0.heap.size w0 (w.alloc (.cells #[.string nm, .int .i64 sz, .int .i64 al, .slice bp bs.length bc, .slice rp rls.length rc] TOb))) := hb.trans (b1.mono hb.size)
  have HT1 : Hid (WrT w0.heap.size b t (w.alloc (.cells #[.string nm, .int .i64 sz, .int .i64 al, .slice bp bs.length bc, .slice rp rls.length rc] TOb))) := hT.below b1
  have HK1 : Hid (Kp w0.heap.size b w (w.alloc (.cells #[.string nm, .int .i64 sz, .int .i64 al, .slice bp bs.length bc, .slice rp rls.length rc] TOb))) := Kp.of_below b1
  have HP : Hid (PrW w0) := hP
  have HB0 : Hid (Below w0.heap.size w0 w) := hb
  have hbl : bs.length ≤ 50000 := hqp.bn
  have hrm : rls.length ≤ 9223372036854775806 := hq.rm
  clear hP hq hqp b1 hT hb
  go_enter Tryz.func60, Tryz.ntmps60
  go_upto_region 1 with (fail)
  refine (?_ : Code.wp _ _ _ _ (w.alloc (.cells #[.string nm, .int .i64 sz, .int .i64 al, .slice bp bs.length bc, .slice rp rls.length rc] TOb)))
  generalize w.alloc (.cells #[.string nm, .int .i64 sz, .int .i64 al, .slice bp bs.length bc, .slice rp rls.length rc] TOb) = W1 at *
  have HLE : Hid ((lineS t (obHeadW ⟨nm, sz, al, bp, bs.length, bc, rp, rls.length, rc⟩)).length ≤ 10000000000000) := lineS_le ht (lineT_ok (obHeadW_ok' HQP.out.nm HQP.out.sz HQP.out.al))
  have HFL : Hid (obLines ⟨⟨nm, sz, al, bp, bs.length, bc, rp, rls.length, rc⟩, bs, rls⟩ = [obHeadW ⟨nm, sz, al, bp, bs.length, bc, rp, rls.length, rc⟩] ++ dataW bs ++ rls.map relW) := rfl
  have L0 : ∀ Y, Kp w0.heap.size b W1 Y → Y.cell? ⟨w.heap.size, 0, none⟩ = some (.string nm) := fun Y h => h.cel HG1.out (HT1.out.ne HG1.out (by decide)) (by decide) 0
  have L1 : ∀ Y, Kp w0.heap.size b W1 Y → Y.cell? ⟨w.heap.size, 1, none⟩ = some (.int .i64 sz) := fun Y h => h.cel HG1.out (HT1.out.ne HG1.out (by decide)) (by decide) 1
  have L2 : ∀ Y, Kp w0.heap.size b W1 Y → Y.cell? ⟨w.heap.size, 2, none⟩ = some (.int .i64 al) := fun Y h => h.cel HG1.out (HT1.out.ne HG1.out (by decide)) (by decide) 2
  have CI1 : Hid (∀ Y, SH W1 Y → Calls Tryz.prog 63 #[.int .i64 sz] Y fun e w' => e = .returned (.string (decS sz)) ∧ Below Y.heap.size Y w') := fun Y h => itoa_c (HP.out.tabs.below (HB1.out.trans (Below.mono h HB1.out.size))) _ HQP.out.sz.1 HQP.out.sz.2
  have CI2 : Hid (∀ Y, SH W1 Y → Calls Tryz.prog 63 #[.int .i64 al] Y fun e w' => e = .returned (.string (decS al)) ∧ Below Y.heap.size Y w') := fun Y h => itoa_c (HP.out.tabs.below (HB1.out.trans (Below.mono h HB1.out.size))) _ HQP.out.al.1 HQP.out.al.2
  have CL : Hid (∀ Y, SH W1 Y → Calls Tryz.prog 62 #[.pointer (some ⟨b, 0, none⟩), .slice (some ⟨Y.heap.size, 0, none⟩) 4 4] (Y.alloc (.cells #[.string ⟨#[111, 98, 106, 101, 99, 116]⟩, .string nm, .string (decS sz), .string (decS al)] TStr)) fun e w' => e = .returned (.tuple #[]) ∧ WrT w0.heap.size b (lineS t (obHeadW ⟨nm, sz, al, bp, bs.length, bc, rp, rls.length, rc⟩)) w' ∧ Kp w0.heap.size b W1 w') :=
    fun Y h => line_new HT1.out HB1.out.size (h.alloc _) (obHeadW ⟨nm, sz, al, bp, bs.length, bc, rp, rls.length, rc⟩) (by simp [obHeadW]) (obHeadW_ok' HQP.out.nm HQP.out.sz HQP.out.al) ht (heap_r0 Y _)
  have HSH : SH W1 W1 := SH.refl W1
  have HKP : Kp w0.heap.size b W1 W1 := Kp.refl _ _ _
  generalize obHeadW ⟨nm, sz, al, bp, bs.length, bc, rp, rls.length, rc⟩ = FH at *
  have HLT : Hid (∀ D, linS t ([FH] ++ D) = linS (lineS t FH) D) := fun D => rfl
  generalize lineS t FH = TK2 at *
  generalize decS sz = dp at *
  generalize decS al = dt at *
  go_region_held3 (fun Y => Kp w0.heap.size b W1 Y) (with_reducible first | assumption | (refine Kp.drew ?_; assumption) | (refine Kp.alloc ?_ _; assumption) | (refine Kp.drew ?_; refine Kp.alloc ?_ _; assumption)) (first
    | (go_at_call_of 63 (Value.int .i64 sz); refine (CI1.out _ ?_).mono ?_; (with_reducible first | assumption | (refine SH.drew ?_; assumption) | (refine SH.below ?_ (by assumption); assumption)); rintro e y1 ⟨rfl, hy1⟩; have HS1 : SH W1 y1 := SH.below (SH.drew HSH) hy1; have HP1 : Kp w0.heap.size b W1 y1 := Kp.of_below HS1)
    | (go_at_call 63; refine (CI2.out _ ?_).mono ?_; (with_reducible first | assumption | (refine SH.drew ?_; assumption) | (refine SH.below ?_ (by assumption); assumption)); rintro e y2 ⟨rfl, hy2⟩; have HS2 : SH W1 y2 := SH.below HS1 hy2; have HP2 : Kp w0.heap.size b W1 y2 := Kp.of_below HS2)
    | (go_at_call 62; refine (CL.out _ ?_).mono ?_; (with_reducible first | assumption | (refine SH.drew ?_; assumption) | (refine SH.below ?_ (by assumption); assumption)); rintro e y3 ⟨rfl, hT6, hK6⟩))
  have HT3 : Hid (WrT w0.heap.size b TK2 y3) := hT6
  have HG3 : Hid (_ = _) := hK6.blk HG1.out (HT1.out.ne HG1.out (by decide)) (by decide)
  have HK3 : Hid (Kp w0.heap.size b w y3) := HK1.out.trans hK6
  have HB3 : Hid (Below w0.heap.size w0 y3) := Below.of_kp HB0.out HK3.out
  clear L0 L1 L2 CI1 CI2 CL HS1 HS2 HP1 HP2 hT6 hK6 hy1 hy2 HSH HKP HT1 HG1 HK1 HB1
  have cF := filled_c (HQ.out.br.below HB3.out) HQ.out.bm
  simp only at cF
  have hfl := fillN_le bs bs.length
  have HDW : Hid (dataW bs = if 0 < fillN bs bs.length then [[sB [100, 97, 116, 97], sB (hexT (bs.take (fillN bs bs.length)))]] else []) := rfl
  have o3 := (Lib.cell_of_heap HG3.out 3).trans rfl
  generalize fillN bs bs.length = n at *
  go_upto_if 23 with (first | (go_at_call 79; refine cF.mono ?_; rintro e w' ⟨rfl, hw⟩; rw [hw]; clear hw w') | fail)
  clear cF
  go_cut [32] from 23 to 32 (fun _ wx => Hid (WrT w0.heap.size b (linS TK2 (dataW bs)) wx) ∧ Hid ((linS TK2 (dataW bs)).length ≤ 10000000000000) ∧ Hid (wx.heap[w.heap.size]? = some (.cells #[.string nm, .int .i64 sz, .int .i64 al, .slice bp bs.length bc, .slice rp rls.length rc] TOb (0, 0))) ∧ Hid (Kp w0.heap.size b w wx))
  case first =>
    by_cases hn : 0 < n
    · have d0 : decide (0 < n) = true := by simpa using hn
      rw [d0]
      have HD1 : Hid (linS TK2 (dataW bs) = lineS TK2 [sB [100, 97, 116, 97], sB (hexT (bs.take n))]) := by show _ = _; rw [HDW.out, if_pos hn]; rfl
      have hcap := (HQ.out.br.below HB3.out).1.1
      simp only at hcap
      have htl : (bs.take n).length = n := by rw [List.length_take]; omega
      have cH := hex_c ((HQ.out.br.below HB3.out).take1 n) (by rw [htl]; omega) (by rw [htl]; exact hn)
      simp only at cH
      rw [htl] at cH
      obtain ⟨b0, hb0⟩ : ∃ b0, bs[0]? = some b0 := ⟨_, List.getElem?_eq_getElem (by omega)⟩
      obtain ⟨gb, ob', hbp, _, _⟩ := (HQ.out.br.below HB3.out).2 0 b0 hb0
      simp only at hbp
      subst hbp
      have CL : Hid (∀ Y, SH y3 Y → Calls Tryz.prog 62 #[.pointer (some ⟨b, 0, none⟩), .slice (some ⟨Y.heap.size, 0, none⟩) 2 2] (Y.alloc (.cells #[.string ⟨#[100, 97, 116, 97]⟩, .string (sB (hexT (bs.take n)))] TStr)) fun e w' => e = .returned (.tuple #[]) ∧ WrT w0.heap.size b (lineS TK2 [sB [100, 97, 116, 97], sB (hexT (bs.take n))]) w' ∧ Kp w0.heap.size b y3 w') :=
        fun Y h => line_new HT3.out HB3.out.size (h.alloc _) [sB [100, 97, 116, 97], sB (hexT (bs.take n))] (by simp) (dataWd_ok (by rw [htl]; omega)) HLE.out (heap_r0 Y _)
      have HL2 : Hid ((lineS TK2 [sB [100, 97, 116, 97], sB (hexT (bs.take n))]).length ≤ 10000000000000) := lineS_le HLE.out (lineT_ok (dataWd_ok (by rw [htl]; omega)))
      generalize lineS TK2 [sB [100, 97, 116, 97], sB (hexT (bs.take n))] = TK3 at *
      generalize sB (hexT (bs.take n)) = SX at *
      clear hb0 htl hn
      go_wp2_with (first
        | (go_at_call 91; refine cH.mono ?_; rintro e w4 ⟨rfl, hb4⟩; have HS4 : Hid (SH y3 w4) := hb4; clear hb4 cH)
        | (go_at_call 62; refine (CL.out _ HS4.out).mono ?_; rintro e w5 ⟨rfl, hT5, hK5⟩; have HT5 : Hid (WrT w0.heap.size b TK3 w5) := hT5; have HG5 : Hid (_ = _) := hK5.blk HG3.out (HT3.out.ne HG3.out (by decide)) (by decide); have HK5 : Hid (Kp w0.heap.size b w w5) := HK3.out.trans hK5; clear hT5 hK5 CL)
        | fail)
      go_meet
      exact ⟨by rw [HD1.out]; exact HT5, by rw [HD1.out]; exact HL2, HG5, HK5⟩
    · have d0 : decide (0 < n) = false := by simpa using hn
      rw [d0]
      have HD1 : Hid (linS TK2 (dataW bs) = TK2) := by show _ = _; rw [HDW.out, if_neg hn]; rfl
      clear hn
      go_wp2
      go_meet
      exact ⟨by rw [HD1.out]; exact HT3, by rw [HD1.out]; exact HLE, HG3, HK3⟩
  case rest =>
    obtain ⟨HT4, HL4, HG4, HK4⟩ := hcut
    rename World => w4
    clear HT3 HG3 HK3 HB3 o3
    have HLS : Hid (linS t (obLines ⟨⟨nm, sz, al, bp, bs.length, bc, rp, rls.length, rc⟩, bs, rls⟩) = linS (linS TK2 (dataW bs)) (rls.map relW)) := by
      show _ = _
      rw [HFL.out, List.append_assoc, HLT.out, linS_append]
    generalize linS TK2 (dataW bs) = TD at *
    have k4 := (Lib.cell_of_heap HG4.out 4).trans rfl
    go_wp2
    clear k4
    go_loopw [37] (fun iv wr => ∃ k : Nat, iv = .int .i64 k ∧ k ≤ rls.length ∧ Hid (WrT w0.heap.size b (linS TD ((rls.take k).map relW)) wr) ∧ Hid ((linS TD ((rls.take k).map relW)).length ≤ 10000000000000) ∧ Hid (Kp w0.heap.size b w wr)) (fun iv _ => rls.length - (intOf iv).toNat)
    case atStart => exact ⟨0, rfl, Nat.zero_le _, HT4, HL4, HK4⟩
    case round =>
      obtain ⟨k, rfl, hk, HTk, HLk, HKk⟩ := hrel
      have HBk : Hid (Below w0.heap.size w0 wr) := Below.of_kp HB0.out HKk.out
      by_cases hlt : k < rls.length
      · obtain ⟨r, hs⟩ : ∃ s, rls[k]? = some s := ⟨_, List.getElem?_eq_getElem hlt⟩
        have hrow := HQ.out.rr.below HBk.out
        simp only at hrow
        obtain ⟨g, o, rfl, hg, hc⟩ := hrow.2 k r hs
        have hcap := hrow.1.1
        have a0 := hc 0 (by omega)
        have a1 := hc 1 (by omega)
        have a2 := hc 2 (by omega)
        simp only [rlC, List.getElem?_cons_zero, List.getElem?_cons_succ, Nat.add_zero] at a0 a1 a2
        have hrl := HQP.out.rl r (List.mem_of_getElem? hs)
        have HTK : Hid (linS TD ((rls.take (k + 1)).map relW) = lineS (linS TD ((rls.take k).map relW)) (relW r)) := by
          show _ = _
          rw [take_succ hs, List.map_append]
          exact linS_snoc _ _ _
        generalize linS TD ((rls.take k).map relW) = TK at *
        have HL2 : Hid ((lineS TK (relW r)).length ≤ 10000000000000) := lineS_le HLk.out (lineT_ok (relW_ok' hrl))
        have hold := heap_r0 wr (.cells #[.int .i64 0, .int .i64 0, .int .i64 0] TRl)
        have b5 := below1 wr (.cells #[.int .i64 r.off, .int .i64 r.glob, .int .i64 r.add] TRl)
        have HN5 : Hid ((wr.alloc (.cells #[.int .i64 r.off, .int .i64 r.glob, .int .i64 r.add] TRl)).heap[wr.heap.size]? = some (.cells #[.int .i64 r.off, .int .i64 r.glob, .int .i64 r.add] TRl (0, 0))) := heap_r0 wr _
        have HB5 : Hid (Below w0.heap.size w0 (wr.alloc (.cells #[.int .i64 r.off, .int .i64 r.glob, .int .i64 r.add] TRl))) := HBk.out.trans (b5.mono HBk.out.size)
        have HT5 : Hid (WrT w0.heap.size b TK (wr.alloc (.cells #[.int .i64 r.off, .int .i64 r.glob, .int .i64 r.add] TRl))) := HTk.out.below b5
        have HK5 : Hid (Kp w0.heap.size b w (wr.alloc (.cells #[.int .i64 r.off, .int .i64 r.glob, .int .i64 r.add] TRl))) := HKk.out.trans (Kp.of_below b5)
        clear hs hrow hg hc b5
        go_upto_region 8 with (first | ((with_reducible apply step_store hold); rfl; rfl; kernel_rfl; rfl; kernel_rfl; rw [World.setRow_alloc_new]) | fail)
        generalize hW5 : wr.alloc (.cells #[.int .i64 r.off, .int .i64 r.glob, .int .i64 r.add] TRl) = W5 at *
        have L0 : ∀ Y, Kp w0.heap.size b W5 Y → Y.cell? ⟨wr.heap.size, 0, none⟩ = some (.int .i64 r.off) := fun Y h => h.cel HN5.out (HT5.out.ne HN5.out (by decide)) (by decide) 0
        have L1 : ∀ Y, Kp w0.heap.size b W5 Y → Y.cell? ⟨wr.heap.size, 1, none⟩ = some (.int .i64 r.glob) := fun Y h => h.cel HN5.out (HT5.out.ne HN5.out (by decide)) (by decide) 1
        have L2 : ∀ Y, Kp w0.heap.size b W5 Y → Y.cell? ⟨wr.heap.size, 2, none⟩ = some (.int .i64 r.add) := fun Y h => h.cel HN5.out (HT5.out.ne HN5.out (by decide)) (by decide) 2
        have CI1 : Hid (∀ Y, SH W5 Y → Calls Tryz.prog 63 #[.int .i64 r.off] Y fun e w' => e = .returned (.string (decS r.off)) ∧ Below Y.heap.size Y w') := fun Y h => itoa_c (HP.out.tabs.below (HB5.out.trans (Below.mono h HB5.out.size))) _ hrl.1.1 hrl.1.2
        have CI2 : Hid (∀ Y, SH W5 Y → Calls Tryz.prog 63 #[.int .i64 r.glob] Y fun e w' => e = .returned (.string (decS r.glob)) ∧ Below Y.heap.size Y w') := fun Y h => itoa_c (HP.out.tabs.below (HB5.out.trans (Below.mono h HB5.out.size))) _ hrl.2.1.1 hrl.2.1.2
        have CI3 : Hid (∀ Y, SH W5 Y → Calls Tryz.prog 63 #[.int .i64 r.add] Y fun e w' => e = .returned (.string (decS r.add)) ∧ Below Y.heap.size Y w') := fun Y h => itoa_c (HP.out.tabs.below (HB5.out.trans (Below.mono h HB5.out.size))) _ hrl.2.2.1 hrl.2.2.2
        have CL : Hid (∀ Y, SH W5 Y → Calls Tryz.prog 62 #[.pointer (some ⟨b, 0, none⟩), .slice (some ⟨Y.heap.size, 0, none⟩) 4 4] (Y.alloc (.cells #[.string ⟨#[114, 101, 108, 111, 99]⟩, .string (decS r.off), .string (decS r.glob), .string (decS r.add)] TStr)) fun e w' => e = .returned (.tuple #[]) ∧ WrT w0.heap.size b (lineS TK (relW r)) w' ∧ Kp w0.heap.size b W5 w') :=
          fun Y h => line_new HT5.out HB5.out.size (h.alloc _) (relW r) (by simp [relW]) (relW_ok' hrl) HLk.out (heap_r0 Y _)
        have HSH : SH W5 W5 := SH.refl W5
        have HKP : Kp w0.heap.size b W5 W5 := Kp.refl _ _ _
        generalize lineS TK (relW r) = TK2' at *
        generalize decS r.off = dp at *
        generalize decS r.glob = dt at *
        generalize decS r.add = du at *
        clear hrl a0 a1 a2 hold
        generalize r.off = z1 at *
        generalize r.glob = z2 at *
        generalize r.add = z3 at *
        go_region_held3 (fun Y => Kp w0.heap.size b W5 Y) (with_reducible first | assumption | (refine Kp.drew ?_; assumption) | (refine Kp.alloc ?_ _; assumption) | (refine Kp.drew ?_; refine Kp.alloc ?_ _; assumption)) (first
          | (go_at_call_of 63 (Value.int .i64 z1); refine (CI1.out _ ?_).mono ?_; (with_reducible first | assumption | (refine SH.drew ?_; assumption) | (refine SH.below ?_ (by assumption); assumption)); rintro e y1 ⟨rfl, hy1⟩; have HS1 : SH W5 y1 := SH.below (SH.drew HSH) hy1; have HP1 : Kp w0.heap.size b W5 y1 := Kp.of_below HS1)
          | (go_at_call_of 63 (Value.int .i64 z2); refine (CI2.out _ ?_).mono ?_; (with_reducible first | assumption | (refine SH.drew ?_; assumption) | (refine SH.below ?_ (by assumption); assumption)); rintro e y2 ⟨rfl, hy2⟩; have HS2 : SH W5 y2 := SH.below HS1 hy2; have HP2 : Kp w0.heap.size b W5 y2 := Kp.of_below HS2)
          | (go_at_call 63; refine (CI3.out _ ?_).mono ?_; (with_reducible first | assumption | (refine SH.drew ?_; assumption) | (refine SH.below ?_ (by assumption); assumption)); rintro e y4 ⟨rfl, hy4⟩; have HS4 : SH W5 y4 := SH.below HS2 hy4; have HP4 : Kp w0.heap.size b W5 y4 := Kp.of_below HS4)
          | (go_at_call 62; refine (CL.out _ ?_).mono ?_; (with_reducible first | assumption | (refine SH.drew ?_; assumption) | (refine SH.below ?_ (by assumption); assumption)); rintro e y3 ⟨rfl, hT6, hK6⟩))
        have HT6 : Hid (WrT w0.heap.size b TK2' y3) := hT6
        have HK6 : Hid (Kp w0.heap.size b w y3) := HK5.out.trans hK6
        clear L0 L1 L2 CI1 CI2 CI3 CL HS1 HS2 HS4 HP1 HP2 HP4 hT6 hK6 hy1 hy2 hy4 HSH HKP
        go_wp2
        refine ⟨⟨k + 1, by go_num, by omega, by rw [HTK.out]; exact HT6, by rw [HTK.out]; exact HL2, HK6⟩, by simp [intOf]; omega⟩
      · obtain rfl : k = rls.length := by omega
        rw [List.take_length] at HTk HLk
        have hge : ¬ ((rls.length : Int) < (rls.length : Int)) := by omega
        go_wp2
        go_end0
        exact ⟨rfl, by rw [HLS.out]; exact HLk.out, by rw [HLS.out]; exact HTk.out, HKk.out⟩
end
end Go.Proofs.YtaaphipbkpjkjaaGreatDoor
