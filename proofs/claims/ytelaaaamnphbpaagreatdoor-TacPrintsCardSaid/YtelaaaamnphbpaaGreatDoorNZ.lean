/- The given answer's data line. -/
import Derived.Test.YtelaaaamnphbpaaGreatDoorKT
import Derived.Test.YtelaaaamnphbpaaGreatDoorNQ
import Derived.Deep.RegionLaw
import Derived.Deep.RegionLawGrows
import Derived.Lib.SlBytesConst
namespace Go.Proofs.YtelaaaamnphbpaaGreatDoor
set_option maxHeartbeats 16000000
open Go.RowKit Go.Maps
set_option linter.unusedVariables false
set_option linter.unusedSimpArgs false
set_option maxRecDepth 100000
theorem hexT_take {l : List UInt8} {k : Nat} {b : UInt8} (h : l[k]? = some b) : hexT (l.take (k + 1)) = hexT (l.take k) ++ [hexD (b.toNat / 16), hexD (b.toNat % 16)] := by
 unfold hexT
 rw [take_succ h]; simp
theorem hexD_at (n : Nat) (h : n < 16) : (⟨#[48, 49, 50, 51, 52, 53, 54, 55, 56, 57, 97, 98, 99, 100, 101, 102]⟩ : ByteArray)[n]'(by show n < 16; exact h) = hexD n := by
 have : ∀ n : Fin 16, (⟨#[48, 49, 50, 51, 52, 53, 54, 55, 56, 57, 97, 98, 99, 100, 101, 102]⟩ : ByteArray)[n.val]'(n.isLt) = hexD n.val := by decide
 exact this ⟨n, h⟩
theorem and15 (n : Nat) (h : n < 256) : bits .and .u8 (n : Int) 15 = ((n % 16 : Nat) : Int) := by
 have : ∀ n : Fin 256, bits .and .u8 (n.val : Int) 15 = ((n.val % 16 : Nat) : Int) := by decide +kernel
 exact this ⟨n, h⟩
section
variable {w : World}
theorem hex_c {p : Option Addr} {cap : Nat} {l : List UInt8} (hr : RowV byC 1 w p cap l) (hl : l.length ≤ 50000) (hl0 : 0 < l.length) :
 Calls Tryz.prog 91 #[.slice p l.length cap] w fun e w' => e = .returned (.string (sB (hexT l))) ∧ Below w.heap.size w w' := by
 have HROW : Hid (∀ Y, Below w.heap.size w Y → RowV byC 1 Y p cap l) := fun Y hY => hr.below hY
 clear hr
 go_enter Tryz.func91, Tryz.ntmps91
 go_wp2
 go_loopw [3, 8] (fun sv iv wr => ∃ (k : Nat) (vp : Option Addr) (vc : Nat), iv = .int .i64 k ∧ k ≤ l.length ∧ sv = .slice vp (2 * k) vc ∧ Hid (wr.ownsRow w.heap.size TBy 1 (.slice vp (2 * k) vc) (2 * k) (byV (hexT (l.take k)))) ∧ Hid (Below w.heap.size w wr)) (fun _ iv _ => l.length - (intOf iv).toNat)
 case atStart => exact ⟨0, none, 0, rfl, Nat.zero_le _, rfl, ⟨rfl, Or.inl ⟨rfl, rfl⟩⟩, Below.refl _ _⟩
 case round =>
  obtain ⟨k, vp, vc, rfl, hk, rfl, HO, HB⟩ := hrel
  by_cases hlt : k < l.length
  ·obtain ⟨c, hs⟩ : ∃ s, l[k]? = some s := ⟨_, List.getElem?_eq_getElem hlt⟩
   obtain ⟨g, o, hpe, hg, hc⟩ := (HROW.out wr HB.out).2 k c hs
   have hcap := (HROW.out w (Below.refl _ _)).1.1
   subst hpe
   have a0 := hc 0 (by omega)
   simp only [byC, List.getElem?_cons_zero, Nat.mul_one, Nat.add_zero] at a0
   have HT : Hid (_ = _) := hexT_take hs
   clear hc hs hg
   have hcb : c.toNat < 256 := c.toNat_lt
   obtain ⟨q, hq⟩ : ∃ q : Nat, q = c.toNat / 16 := ⟨_, rfl⟩
   obtain ⟨m, hm⟩ : ∃ q : Nat, q = c.toNat % 16 := ⟨_, rfl⟩
   have hq1 : (c.toNat : Int) / 16 = (q : Int) := by omega
   have hm1 : bits .and .u8 (c.toNat : Int) 15 = (m : Int) := by rw [hm]; exact and15 c.toNat hcb
   have hq2 : q < 16 := by omega
   have hm2 : m < 16 := by omega
   rw [← hq, ← hm] at HT
   have hdq := hexD_at q hq2
   have hdm := hexD_at m hm2
   have hq3 : (q : Int) < 16 := by omega
   have hm3 : (m : Int) < 16 := by omega
   obtain ⟨i0, hi, hz0, hz1, hz2⟩ := info_parts infoBy
   have b1 : Below wr.heap.size wr (wr.drew.alloc (.cells #[.int .u8 (hexD q).toNat, .int .u8 (hexD m).toNat] TBy)) := (Below.refl _ wr).drew.trans (below1 wr.drew _)
   have HO1 : Hid ((wr.drew.alloc (.cells #[.int .u8 (hexD q).toNat, .int .u8 (hexD m).toNat] TBy)).ownsRow w.heap.size TBy 1 (.slice vp (2 * k) vc) (2 * k) (byV (hexT (l.take k)))) := ownsRow_turned HO.out (Turned.of_below b1 (fun _ => False)) (fun _ _ h => h)
   have HB1 : Hid (Below w.heap.size w (wr.drew.alloc (.cells #[.int .u8 (hexD q).toNat, .int .u8 (hexD m).toNat] TBy))) := HB.out.trans (b1.mono HB.out.size)
   have NC := cells_new wr.drew #[.int .u8 (hexD q).toNat, .int .u8 (hexD m).toNat] TBy
   clear hq hm hcb b1
   go_upto_region 5 with (fail)
   go_region_law (refine step_append_own_at rfl (.tmp 12) (.tmp 19) 67 rfl w.heap.size TBy i0 (.int .u8 0) 1 1 Tryz.underlying67 hi hz0 hz1 hz2 rfl (by decide) _ (2 * k) _ rfl HO1.out ⟨wr.heap.size, 0, none⟩ 2 2 [.int .u8 (hexD q).toNat, .int .u8 (hexD m).toNat] rfl rfl NC (by intro u hu; simp at hu; rcases hu with rfl | rfl <;> rfl) (by unfold maxLen; omega) (by omega) HB1.out.size ?_; intro v' w11 hown hgrow hnil hat; obtain ⟨p', cap', rfl⟩ := slice_of_own hown; have HOW : Hid (World.ownsRow _ _ _ _ _ _ _) := hown; have HGR : Hid (World.grownBy _ _ _) := hgrow; clear hown hgrow hnil hat)
   all_goals go_wp2
   all_goals exact ⟨⟨k + 1, p', cap', by go_num, by omega, by show _ = Value.slice p' (2 * (k + 1)) cap'; rfl, Lib.hid (by rw [HT.out, byV_append]; exact HOW.out), Lib.hid (below_grown HB1.out HB1.out.size HGR.out (fun g e => (ownsRow_at HO1.out e).1))⟩, by simp [intOf]; omega⟩
  ·obtain rfl : k = l.length := by omega
   have hge : ¬ ((l.length : Int) < (l.length : Int)) := by omega
   have HO2 := HO.out
   rw [List.take_length] at HO2
   have hln : (hexT l).length = 2 * l.length := by
    have := HO2.1
    rw [byV_length] at this
    omega
   have HO3 : wr.ownsRow w.heap.size TBy 1 (.slice vp (2 * l.length) vc) (hexT l).length (byV (hexT l)) := by rw [hln]; exact HO2
   have hcv := conv_text HO3 (by omega)
   clear HO2 HO3 hln
   go_wp2
   go_ret
   exact ⟨rfl, HB.out⟩
end
end Go.Proofs.YtelaaaamnphbpaaGreatDoor
namespace Go.Proofs.YtelaaaamnphbpaaGreatDoor
set_option maxHeartbeats 16000000
open Go.RowKit Go.Maps
set_option linter.unusedVariables false
set_option linter.unusedSimpArgs false
set_option maxRecDepth 100000
theorem obHeadW_ok' {o : Ob} (h1 : o.nm.size ≤ 100000) (h2 : I64 o.size) (h3 : I64 o.align) : (obHeadW o).length ≤ 6000000 ∧ ∀ x ∈ obHeadW o, x.size ≤ 100000 := by
 refine ⟨by simp [obHeadW], fun x hx => ?_⟩
 simp only [obHeadW, List.mem_cons, List.not_mem_nil, or_false] at hx
 rcases hx with rfl | rfl | rfl | rfl
 ·rw [sB_size]; simp
 ·exact h1
 ·exact decS_100 h2
 ·exact decS_100 h3
theorem relW_ok' {r : Rl} (h : I64 r.off ∧ I64 r.glob ∧ I64 r.add) : (relW r).length ≤ 6000000 ∧ ∀ x ∈ relW r, x.size ≤ 100000 := by
 refine ⟨by simp [relW], fun x hx => ?_⟩
 simp only [relW, List.mem_cons, List.not_mem_nil, or_false] at hx
 rcases hx with rfl | rfl | rfl | rfl
 ·rw [sB_size]; simp
 ·exact decS_100 h.1
 ·exact decS_100 h.2.1
 ·exact decS_100 h.2.2
theorem hexT_length (l : List UInt8) : (hexT l).length = 2 * l.length := by
 unfold hexT
 induction l with
 | nil => rfl
 | cons a l ih => rw [List.flatMap_cons, List.length_append, ih, List.length_cons]; simp; omega
theorem dataWd_ok {bs : List UInt8} (h : bs.length ≤ 50000) : [sB [100, 97, 116, 97], sB (hexT bs)].length ≤ 6000000 ∧ ∀ x ∈ [sB [100, 97, 116, 97], sB (hexT bs)], x.size ≤ 100000 := by
 refine ⟨by simp, fun x hx => ?_⟩
 simp only [List.mem_cons, List.not_mem_nil, or_false] at hx
 rcases hx with rfl | rfl
 ·rw [sB_size]; simp
 ·rw [sB_size, hexT_length]; omega
theorem RowV.take1 {α : Type} {C : α → List Value} {w : World} {p : Option Addr} {cap : Nat} {l : List α} (h : RowV C 1 w p cap l) (n : Nat) : RowV C 1 w p cap (l.take n) := by
 refine ⟨⟨Nat.le_trans (by rw [List.length_take]; exact Nat.min_le_right _ _) h.1.1, h.1.2⟩, fun i a ha => h.2 i a ?_⟩
 rw [List.getElem?_take] at ha
 split at ha
 ·exact ha
 ·cases ha
section
variable {w0 : World}
theorem wobj_c (hP : PrW w0) {q : Og} (hq : OgOK w0 q) (hqp : OgP q) : ObW w0 q := by
 intro w b t hb hT ht
 obtain ⟨⟨nm, sz, al, bp, bn, bc, rp, rn, rc⟩, bs, rls⟩ := q
 have HQ : Hid (OgOK w0 ⟨⟨nm, sz, al, bp, bn, bc, rp, rn, rc⟩, bs, rls⟩) := hq
 have HQP : Hid (OgP ⟨⟨nm, sz, al, bp, bn, bc, rp, rn, rc⟩, bs, rls⟩) := hqp
 obtain rfl : bn = bs.length := hq.bn
 obtain rfl : rn = rls.length := hq.rn
 simp only [ogC, obC]
 have b1 := below1 w (.cells #[.string nm, .int .i64 sz, .int .i64 al, .slice bp bs.length bc, .slice rp rls.length rc] TOb)
 have HG1 : Hid ((w.alloc (.cells #[.string nm, .int .i64 sz, .int .i64 al, .slice bp bs.length bc, .slice rp rls.length rc] TOb)).heap[w.heap.size]? = some (.cells #[.string nm, .int .i64 sz, .int .i64 al, .slice bp bs.length bc, .slice rp rls.length rc] TOb (0, 0))) := heap_r0 w _
 have HB1 : Hid (Below w0.heap.size w0 (w.alloc (.cells #[.string nm, .int .i64 sz, .int .i64 al, .slice bp bs.length bc, .slice rp rls.length rc] TOb))) := hb.trans (b1.mono hb.size)
 have HT1 : Hid (WrT w0.heap.size b t (w.alloc (.cells #[.string nm, .int .i64 sz, .int .i64 al, .slice bp bs.length bc, .slice rp rls.length rc] TOb))) := hT.below b1
 have HK1 : Hid (Kp w0.heap.size b w (w.alloc (.cells #[.string nm, .int .i64 sz, .int .i64 al, .slice bp bs.length bc, .slice rp rls.length rc] TOb))) := Kp.of_below b1
 have HP : Hid (PrW w0) := hP
 have HB0 : Hid (Below w0.heap.size w0 w) := hb
 have hbl : bs.length ≤ 50000 := hqp.bn
 have hrm : rls.length ≤ 9223372036854775806 := hq.rm
 clear hP hq hqp b1 hT hb
 go_enter Tryz.func60, Tryz.ntmps60
 go_upto_region 1 with (fail)
 refine (?_ : Code.wp _ _ _ _ (w.alloc (.cells #[.string nm, .int .i64 sz, .int .i64 al, .slice bp bs.length bc, .slice rp rls.length rc] TOb)))
 generalize w.alloc (.cells #[.string nm, .int .i64 sz, .int .i64 al, .slice bp bs.length bc, .slice rp rls.length rc] TOb) = W1 at *
 have HLE : Hid ((lineS t (obHeadW ⟨nm, sz, al, bp, bs.length, bc, rp, rls.length, rc⟩)).length ≤ 10000000000000) := lineS_le ht (lineT_ok (obHeadW_ok' HQP.out.nm HQP.out.sz HQP.out.al))
 have HFL : Hid (obLines ⟨⟨nm, sz, al, bp, bs.length, bc, rp, rls.length, rc⟩, bs, rls⟩ = [obHeadW ⟨nm, sz, al, bp, bs.length, bc, rp, rls.length, rc⟩] ++ dataW bs ++ rls.map relW) := rfl
 have L0 : ∀ Y, Kp w0.heap.size b W1 Y → Y.cell? ⟨w.heap.size, 0, none⟩ = some (.string nm) := fun Y h => h.cel HG1.out (HT1.out.ne HG1.out (by decide)) (by decide) 0
 have L1 : ∀ Y, Kp w0.heap.size b W1 Y → Y.cell? ⟨w.heap.size, 1, none⟩ = some (.int .i64 sz) := fun Y h => h.cel HG1.out (HT1.out.ne HG1.out (by decide)) (by decide) 1
 have L2 : ∀ Y, Kp w0.heap.size b W1 Y → Y.cell? ⟨w.heap.size, 2, none⟩ = some (.int .i64 al) := fun Y h => h.cel HG1.out (HT1.out.ne HG1.out (by decide)) (by decide) 2
 have CI1 : Hid (∀ Y, SH W1 Y → Calls Tryz.prog 63 #[.int .i64 sz] Y fun e w' => e = .returned (.string (decS sz)) ∧ Below Y.heap.size Y w') := fun Y h => itoa_c (HP.out.tabs.below (HB1.out.trans (Below.mono h HB1.out.size))) _ HQP.out.sz.1 HQP.out.sz.2
 have CI2 : Hid (∀ Y, SH W1 Y → Calls Tryz.prog 63 #[.int .i64 al] Y fun e w' => e = .returned (.string (decS al)) ∧ Below Y.heap.size Y w') := fun Y h => itoa_c (HP.out.tabs.below (HB1.out.trans (Below.mono h HB1.out.size))) _ HQP.out.al.1 HQP.out.al.2
 have CL : Hid (∀ Y, SH W1 Y → Calls Tryz.prog 62 #[.pointer (some ⟨b, 0, none⟩), .slice (some ⟨Y.heap.size, 0, none⟩) 4 4] (Y.alloc (.cells #[.string ⟨#[111, 98, 106, 101, 99, 116]⟩, .string nm, .string (decS sz), .string (decS al)] TStr)) fun e w' => e = .returned (.tuple #[]) ∧ WrT w0.heap.size b (lineS t (obHeadW ⟨nm, sz, al, bp, bs.length, bc, rp, rls.length, rc⟩)) w' ∧ Kp w0.heap.size b W1 w') :=
  fun Y h => line_new HT1.out HB1.out.size (h.alloc _) (obHeadW ⟨nm, sz, al, bp, bs.length, bc, rp, rls.length, rc⟩) (by simp [obHeadW]) (obHeadW_ok' HQP.out.nm HQP.out.sz HQP.out.al) ht (heap_r0 Y _)
 have HSH : SH W1 W1 := SH.refl W1
 have HKP : Kp w0.heap.size b W1 W1 := Kp.refl _ _ _
 generalize obHeadW ⟨nm, sz, al, bp, bs.length, bc, rp, rls.length, rc⟩ = FH at *
 have HLT : Hid (∀ D, linS t ([FH] ++ D) = linS (lineS t FH) D) := fun D => rfl
 generalize lineS t FH = TK2 at *
 generalize decS sz = dp at *
 generalize decS al = dt at *
 go_region_held3 (fun Y => Kp w0.heap.size b W1 Y) (with_reducible first | assumption | (refine Kp.drew ?_; assumption) | (refine Kp.alloc ?_ _; assumption) | (refine Kp.drew ?_; refine Kp.alloc ?_ _; assumption)) (first
  | (go_at_call_of 63 (Value.int .i64 sz); refine (CI1.out _ ?_).mono ?_; (with_reducible first | assumption | (refine SH.drew ?_; assumption) | (refine SH.below ?_ (by assumption); assumption)); rintro e y1 ⟨rfl, hy1⟩; have HS1 : SH W1 y1 := SH.below (SH.drew HSH) hy1; have HP1 : Kp w0.heap.size b W1 y1 := Kp.of_below HS1)
  | (go_at_call 63; refine (CI2.out _ ?_).mono ?_; (with_reducible first | assumption | (refine SH.drew ?_; assumption) | (refine SH.below ?_ (by assumption); assumption)); rintro e y2 ⟨rfl, hy2⟩; have HS2 : SH W1 y2 := SH.below HS1 hy2; have HP2 : Kp w0.heap.size b W1 y2 := Kp.of_below HS2)
  | (go_at_call 62; refine (CL.out _ ?_).mono ?_; (with_reducible first | assumption | (refine SH.drew ?_; assumption) | (refine SH.below ?_ (by assumption); assumption)); rintro e y3 ⟨rfl, hT6, hK6⟩))
 have HT3 : Hid (WrT w0.heap.size b TK2 y3) := hT6
 have HG3 : Hid (_ = _) := hK6.blk HG1.out (HT1.out.ne HG1.out (by decide)) (by decide)
 have HK3 : Hid (Kp w0.heap.size b w y3) := HK1.out.trans hK6
 have HB3 : Hid (Below w0.heap.size w0 y3) := Below.of_kp HB0.out HK3.out
 clear L0 L1 L2 CI1 CI2 CL HS1 HS2 HP1 HP2 hT6 hK6 hy1 hy2 HSH HKP HT1 HG1 HK1 HB1
 have cF := filled_c (HQ.out.br.below HB3.out) HQ.out.bm
 simp only at cF
 have hfl := fillN_le bs bs.length
 have HDW : Hid (dataW bs = if 0 < fillN bs bs.length then [[sB [100, 97, 116, 97], sB (hexT (bs.take (fillN bs bs.length)))]] else []) := rfl
 have o3 := (Lib.cell_of_heap HG3.out 3).trans rfl
 generalize fillN bs bs.length = n at *
 go_upto_if 23 with (first | (go_at_call 79; refine cF.mono ?_; rintro e w' ⟨rfl, hw⟩; rw [hw]; clear hw w') | fail)
 clear cF
 go_cut [32] from 23 to 32 (fun _ wx => Hid (WrT w0.heap.size b (linS TK2 (dataW bs)) wx) ∧ Hid ((linS TK2 (dataW bs)).length ≤ 10000000000000) ∧ Hid (wx.heap[w.heap.size]? = some (.cells #[.string nm, .int .i64 sz, .int .i64 al, .slice bp bs.length bc, .slice rp rls.length rc] TOb (0, 0))) ∧ Hid (Kp w0.heap.size b w wx))
 case first =>
  by_cases hn : 0 < n
  ·have d0 : decide (0 < n) = true := by simpa using hn
   rw [d0]
   have HD1 : Hid (linS TK2 (dataW bs) = lineS TK2 [sB [100, 97, 116, 97], sB (hexT (bs.take n))]) := by show _ = _; rw [HDW.out, if_pos hn]; rfl
   have hcap := (HQ.out.br.below HB3.out).1.1
   simp only at hcap
   have htl : (bs.take n).length = n := by rw [List.length_take]; omega
   have cH := hex_c ((HQ.out.br.below HB3.out).take1 n) (by rw [htl]; omega) (by rw [htl]; exact hn)
   simp only at cH
   rw [htl] at cH
   obtain ⟨b0, hb0⟩ : ∃ b0, bs[0]? = some b0 := ⟨_, List.getElem?_eq_getElem (by omega)⟩
   obtain ⟨gb, ob', hbp, _, _⟩ := (HQ.out.br.below HB3.out).2 0 b0 hb0
   simp only at hbp
   subst hbp
   have CL : Hid (∀ Y, SH y3 Y → Calls Tryz.prog 62 #[.pointer (some ⟨b, 0, none⟩), .slice (some ⟨Y.heap.size, 0, none⟩) 2 2] (Y.alloc (.cells #[.string ⟨#[100, 97, 116, 97]⟩, .string (sB (hexT (bs.take n)))] TStr)) fun e w' => e = .returned (.tuple #[]) ∧ WrT w0.heap.size b (lineS TK2 [sB [100, 97, 116, 97], sB (hexT (bs.take n))]) w' ∧ Kp w0.heap.size b y3 w') :=
    fun Y h => line_new HT3.out HB3.out.size (h.alloc _) [sB [100, 97, 116, 97], sB (hexT (bs.take n))] (by simp) (dataWd_ok (by rw [htl]; omega)) HLE.out (heap_r0 Y _)
   have HL2 : Hid ((lineS TK2 [sB [100, 97, 116, 97], sB (hexT (bs.take n))]).length ≤ 10000000000000) := lineS_le HLE.out (lineT_ok (dataWd_ok (by rw [htl]; omega)))
   generalize lineS TK2 [sB [100, 97, 116, 97], sB (hexT (bs.take n))] = TK3 at *
   generalize sB (hexT (bs.take n)) = SX at *
   clear hb0 htl hn
   go_wp2_with (first
    | (go_at_call 91; refine cH.mono ?_; rintro e w4 ⟨rfl, hb4⟩; have HS4 : Hid (SH y3 w4) := hb4; clear hb4 cH)
    | (go_at_call 62; refine (CL.out _ HS4.out).mono ?_; rintro e w5 ⟨rfl, hT5, hK5⟩; have HT5 : Hid (WrT w0.heap.size b TK3 w5) := hT5; have HG5 : Hid (_ = _) := hK5.blk HG3.out (HT3.out.ne HG3.out (by decide)) (by decide); have HK5 : Hid (Kp w0.heap.size b w w5) := HK3.out.trans hK5; clear hT5 hK5 CL)
    | fail)
   go_meet
   exact ⟨by rw [HD1.out]; exact HT5, by rw [HD1.out]; exact HL2, HG5, HK5⟩
  ·have d0 : decide (0 < n) = false := by simpa using hn
   rw [d0]
   have HD1 : Hid (linS TK2 (dataW bs) = TK2) := by show _ = _; rw [HDW.out, if_neg hn]; rfl
   clear hn
   go_wp2
   go_meet
   exact ⟨by rw [HD1.out]; exact HT3, by rw [HD1.out]; exact HLE, HG3, HK3⟩
 case rest =>
  obtain ⟨HT4, HL4, HG4, HK4⟩ := hcut
  rename World => w4
  clear HT3 HG3 HK3 HB3 o3
  have HLS : Hid (linS t (obLines ⟨⟨nm, sz, al, bp, bs.length, bc, rp, rls.length, rc⟩, bs, rls⟩) = linS (linS TK2 (dataW bs)) (rls.map relW)) := by
   show _ = _
   rw [HFL.out, List.append_assoc, HLT.out, linS_append]
  generalize linS TK2 (dataW bs) = TD at *
  have k4 := (Lib.cell_of_heap HG4.out 4).trans rfl
  go_wp2
  clear k4
  go_loopw [37] (fun iv wr => ∃ k : Nat, iv = .int .i64 k ∧ k ≤ rls.length ∧ Hid (WrT w0.heap.size b (linS TD ((rls.take k).map relW)) wr) ∧ Hid ((linS TD ((rls.take k).map relW)).length ≤ 10000000000000) ∧ Hid (Kp w0.heap.size b w wr)) (fun iv _ => rls.length - (intOf iv).toNat)
  case atStart => exact ⟨0, rfl, Nat.zero_le _, HT4, HL4, HK4⟩
  case round =>
   obtain ⟨k, rfl, hk, HTk, HLk, HKk⟩ := hrel
   have HBk : Hid (Below w0.heap.size w0 wr) := Below.of_kp HB0.out HKk.out
   by_cases hlt : k < rls.length
   ·obtain ⟨r, hs⟩ : ∃ s, rls[k]? = some s := ⟨_, List.getElem?_eq_getElem hlt⟩
    have hrow := HQ.out.rr.below HBk.out
    simp only at hrow
    obtain ⟨g, o, rfl, hg, hc⟩ := hrow.2 k r hs
    have hcap := hrow.1.1
    have a0 := hc 0 (by omega)
    have a1 := hc 1 (by omega)
    have a2 := hc 2 (by omega)
    simp only [rlC, List.getElem?_cons_zero, List.getElem?_cons_succ, Nat.add_zero] at a0 a1 a2
    have hrl := HQP.out.rl r (List.mem_of_getElem? hs)
    have HTK : Hid (linS TD ((rls.take (k + 1)).map relW) = lineS (linS TD ((rls.take k).map relW)) (relW r)) := by
     show _ = _
     rw [take_succ hs, List.map_append]
     exact linS_snoc _ _ _
    generalize linS TD ((rls.take k).map relW) = TK at *
    have HL2 : Hid ((lineS TK (relW r)).length ≤ 10000000000000) := lineS_le HLk.out (lineT_ok (relW_ok' hrl))
    have hold := heap_r0 wr (.cells #[.int .i64 0, .int .i64 0, .int .i64 0] TRl)
    have b5 := below1 wr (.cells #[.int .i64 r.off, .int .i64 r.glob, .int .i64 r.add] TRl)
    have HN5 : Hid ((wr.alloc (.cells #[.int .i64 r.off, .int .i64 r.glob, .int .i64 r.add] TRl)).heap[wr.heap.size]? = some (.cells #[.int .i64 r.off, .int .i64 r.glob, .int .i64 r.add] TRl (0, 0))) := heap_r0 wr _
    have HB5 : Hid (Below w0.heap.size w0 (wr.alloc (.cells #[.int .i64 r.off, .int .i64 r.glob, .int .i64 r.add] TRl))) := HBk.out.trans (b5.mono HBk.out.size)
    have HT5 : Hid (WrT w0.heap.size b TK (wr.alloc (.cells #[.int .i64 r.off, .int .i64 r.glob, .int .i64 r.add] TRl))) := HTk.out.below b5
    have HK5 : Hid (Kp w0.heap.size b w (wr.alloc (.cells #[.int .i64 r.off, .int .i64 r.glob, .int .i64 r.add] TRl))) := HKk.out.trans (Kp.of_below b5)
    clear hs hrow hg hc b5
    go_upto_region 8 with (first | ((with_reducible apply step_store hold); rfl; rfl; kernel_rfl; rfl; kernel_rfl; rw [World.setRow_alloc_new]) | fail)
    generalize hW5 : wr.alloc (.cells #[.int .i64 r.off, .int .i64 r.glob, .int .i64 r.add] TRl) = W5 at *
    have L0 : ∀ Y, Kp w0.heap.size b W5 Y → Y.cell? ⟨wr.heap.size, 0, none⟩ = some (.int .i64 r.off) := fun Y h => h.cel HN5.out (HT5.out.ne HN5.out (by decide)) (by decide) 0
    have L1 : ∀ Y, Kp w0.heap.size b W5 Y → Y.cell? ⟨wr.heap.size, 1, none⟩ = some (.int .i64 r.glob) := fun Y h => h.cel HN5.out (HT5.out.ne HN5.out (by decide)) (by decide) 1
    have L2 : ∀ Y, Kp w0.heap.size b W5 Y → Y.cell? ⟨wr.heap.size, 2, none⟩ = some (.int .i64 r.add) := fun Y h => h.cel HN5.out (HT5.out.ne HN5.out (by decide)) (by decide) 2
    have CI1 : Hid (∀ Y, SH W5 Y → Calls Tryz.prog 63 #[.int .i64 r.off] Y fun e w' => e = .returned (.string (decS r.off)) ∧ Below Y.heap.size Y w') := fun Y h => itoa_c (HP.out.tabs.below (HB5.out.trans (Below.mono h HB5.out.size))) _ hrl.1.1 hrl.1.2
    have CI2 : Hid (∀ Y, SH W5 Y → Calls Tryz.prog 63 #[.int .i64 r.glob] Y fun e w' => e = .returned (.string (decS r.glob)) ∧ Below Y.heap.size Y w') := fun Y h => itoa_c (HP.out.tabs.below (HB5.out.trans (Below.mono h HB5.out.size))) _ hrl.2.1.1 hrl.2.1.2
    have CI3 : Hid (∀ Y, SH W5 Y → Calls Tryz.prog 63 #[.int .i64 r.add] Y fun e w' => e = .returned (.string (decS r.add)) ∧ Below Y.heap.size Y w') := fun Y h => itoa_c (HP.out.tabs.below (HB5.out.trans (Below.mono h HB5.out.size))) _ hrl.2.2.1 hrl.2.2.2
    have CL : Hid (∀ Y, SH W5 Y → Calls Tryz.prog 62 #[.pointer (some ⟨b, 0, none⟩), .slice (some ⟨Y.heap.size, 0, none⟩) 4 4] (Y.alloc (.cells #[.string ⟨#[114, 101, 108, 111, 99]⟩, .string (decS r.off), .string (decS r.glob), .string (decS r.add)] TStr)) fun e w' => e = .returned (.tuple #[]) ∧ WrT w0.heap.size b (lineS TK (relW r)) w' ∧ Kp w0.heap.size b W5 w') :=
     fun Y h => line_new HT5.out HB5.out.size (h.alloc _) (relW r) (by simp [relW]) (relW_ok' hrl) HLk.out (heap_r0 Y _)
    have HSH : SH W5 W5 := SH.refl W5
    have HKP : Kp w0.heap.size b W5 W5 := Kp.refl _ _ _
    generalize lineS TK (relW r) = TK2' at *
    generalize decS r.off = dp at *
    generalize decS r.glob = dt at *
    generalize decS r.add = du at *
    clear hrl a0 a1 a2 hold
    generalize r.off = z1 at *
    generalize r.glob = z2 at *
    generalize r.add = z3 at *
    go_region_held3 (fun Y => Kp w0.heap.size b W5 Y) (with_reducible first | assumption | (refine Kp.drew ?_; assumption) | (refine Kp.alloc ?_ _; assumption) | (refine Kp.drew ?_; refine Kp.alloc ?_ _; assumption)) (first
     | (go_at_call_of 63 (Value.int .i64 z1); refine (CI1.out _ ?_).mono ?_; (with_reducible first | assumption | (refine SH.drew ?_; assumption) | (refine SH.below ?_ (by assumption); assumption)); rintro e y1 ⟨rfl, hy1⟩; have HS1 : SH W5 y1 := SH.below (SH.drew HSH) hy1; have HP1 : Kp w0.heap.size b W5 y1 := Kp.of_below HS1)
     | (go_at_call_of 63 (Value.int .i64 z2); refine (CI2.out _ ?_).mono ?_; (with_reducible first | assumption | (refine SH.drew ?_; assumption) | (refine SH.below ?_ (by assumption); assumption)); rintro e y2 ⟨rfl, hy2⟩; have HS2 : SH W5 y2 := SH.below HS1 hy2; have HP2 : Kp w0.heap.size b W5 y2 := Kp.of_below HS2)
     | (go_at_call 63; refine (CI3.out _ ?_).mono ?_; (with_reducible first | assumption | (refine SH.drew ?_; assumption) | (refine SH.below ?_ (by assumption); assumption)); rintro e y4 ⟨rfl, hy4⟩; have HS4 : SH W5 y4 := SH.below HS2 hy4; have HP4 : Kp w0.heap.size b W5 y4 := Kp.of_below HS4)
     | (go_at_call 62; refine (CL.out _ ?_).mono ?_; (with_reducible first | assumption | (refine SH.drew ?_; assumption) | (refine SH.below ?_ (by assumption); assumption)); rintro e y3 ⟨rfl, hT6, hK6⟩))
    have HT6 : Hid (WrT w0.heap.size b TK2' y3) := hT6
    have HK6 : Hid (Kp w0.heap.size b w y3) := HK5.out.trans hK6
    clear L0 L1 L2 CI1 CI2 CI3 CL HS1 HS2 HS4 HP1 HP2 HP4 hT6 hK6 hy1 hy2 hy4 HSH HKP
    go_wp2
    refine ⟨⟨k + 1, by go_num, by omega, by rw [HTK.out]; exact HT6, by rw [HTK.out]; exact HL2, HK6⟩, by simp [intOf]; omega⟩
   ·obtain rfl : k = rls.length := by omega
    rw [List.take_length] at HTk HLk
    have hge : ¬ ((rls.length : Int) < (rls.length : Int)) := by omega
    go_wp2
    go_end0
    exact ⟨rfl, by rw [HLS.out]; exact HLk.out, by rw [HLS.out]; exact HTk.out, HKk.out⟩
end
end Go.Proofs.YtelaaaamnphbpaaGreatDoor
namespace Go.Proofs.YtelaaaamnphbpaaGreatDoor
set_option maxHeartbeats 16000000
open Go.RowKit Go.Maps
set_option linter.unusedVariables false
set_option linter.unusedSimpArgs false
set_option maxRecDepth 100000
def dataT (l : List UInt8) : ByteArray := if fillN l l.length = 0 then ⟨#[]⟩ else sB ([100, 97, 116, 97, 32] ++ hexT (l.take (fillN l l.length)))
def DatR (B : Nat) (W : World) (p : Option Addr) (c j : Nat) (t : List UInt8) : Prop :=
 (0 < j ∧ W.ownsRow B TBy 1 (.slice p (5 + 2 * j) c) (5 + 2 * j) (byV t)) ∨
 (j = 0 ∧ c = 5 ∧ (byV t).length = 5 ∧ ∃ g, p = some ⟨g, 0, none⟩ ∧ g < W.heap.size ∧ ∀ i u, (byV t)[i]? = some u → W.cell? ⟨g, i, none⟩ = some u)
theorem DatR.below {B N : Nat} {W W' : World} {p : Option Addr} {c j : Nat} {t : List UInt8} (h : DatR B W p c j t) (hb : Below W.heap.size W W') : DatR B W' p c j t := by
 rcases h with ⟨h0, h⟩ | ⟨h0, hc, hl, g, hp, hg, h⟩
 ·exact Or.inl ⟨h0, ownsRow_turned h (Turned.of_below hb (fun _ => False)) (fun _ _ h => h)⟩
 ·exact Or.inr ⟨h0, hc, hl, g, hp, Nat.lt_of_lt_of_le hg hb.size, fun i u hu => (hb.cell hg).trans (h i u hu)⟩
theorem step_append_data {P : Program} {ops : Array Oper} {o : Oper} {a : Act} {w : World} {K : Act → World → Prop} {Q : Exit → Act → World → Prop} {E : Prop} (hgd : o.guard = none) (s x : Operand) (t : TypeId)
 (ho : o.op = .call { callee := .builtin .append, args := #[s, x], argTypes := #[t, t] })
 (base : Nat) (i : TypeInfo) (z : Value) (ht : P.underlying t = some (.slice TBy)) (hi : P.info? TBy = some i) (hz : i.zero = some z)
 (hsize : i.size = 1) (hby : i.bytes = 1) (hzs : z.cells.size = 1)
 (p : Option Addr) (c j : Nat) (tx : List UInt8) (hs : a.eval s = .slice p (5 + 2 * j) c) (hown : DatR base w p c j tx)
 (ad : Addr) (m : Nat) (news : List Value) (hx : a.eval x = .slice (some ad) 2 m) (hl : news.length = 2) (hnews : ∀ j u, news[j]? = some u → w.cell? (ad.add j) = some u) (h1 : ∀ u ∈ news, u.oneCell' = true)
 (h63 : 5 + 2 * j + 2 ≤ 1000000) (hbase : base ≤ w.heap.size)
 (h : ∀ p' c' w' ob, w'.ownsRow base TBy 1 (.slice p' (5 + 2 * j + 2) c') (5 + 2 * j + 2) (byV tx ++ news) → w.grownBy w' ob → (∀ g, ob = some g → base ≤ g) → K (a.put o.dst (.slice p' (5 + 2 * j + 2) c')) w') :
 if Region.wanted o (yielded ops a.tmps) = true then Oper.wp P o a w K Q else E := by
 rcases hown with ⟨_, hown⟩ | ⟨rfl, rfl, hl5, g, rfl, hg, hold⟩
 ·refine step_append_own_at hgd s x t ho base TBy i z 1 1 ht hi hz hsize hby hzs (by decide) _ (5 + 2 * j) _ hs hown ad 2 m news hx (by rw [hl]) hnews h1 (by unfold maxLen; omega) (by omega) hbase ?_
  intro v' w' h2 h3 _ _
  obtain ⟨p', c', rfl⟩ := slice_of_own h2
  exact h p' c' w' _ h2 h3 (fun g e => (ownsRow_at hown e).1)
 ·refine step_append_grows hgd s x t ho TBy i z 1 1 ht hi hz hsize hby hzs (by decide) _ 5 5 (byV tx) hs (fun e => by simp at e) (by rw [hl5]) (fun b e j u hu => by injection e with e; subst e; rcases Nat.eq_zero_or_pos j with rfl | hj; exact hold 0 u hu; simpa [Addr.add, Nat.ne_of_gt hj] using hold j u hu) ad 2 m news hx (by rw [hl]) hnews h1 (by decide) (by unfold maxLen; decide) (by decide) ?_
  intro v' w' h2 h3
  have h2' : w'.ownsRow base TBy 1 v' 7 (byV tx ++ news) := ⟨h2.1, h2.2.imp id (fun ⟨g, cap, cur, a1, a2, r⟩ => ⟨g, cap, cur, a1, Nat.le_trans hbase a2, r⟩)⟩
  obtain ⟨p', c', rfl⟩ := slice_of_own h2'
  exact h p' c' w' none h2' h3 (fun g e => by cases e)
section
variable {w : World}
theorem rdata_c {p : Option Addr} {cap : Nat} {l : List UInt8} (hr : RowV byC 1 w p cap l) (hl : l.length ≤ 50000) :
 Calls Tryz.prog 65 #[.slice p l.length cap] w fun e w' => e = .returned (.string (dataT l)) ∧ Below w.heap.size w w' := by
 have HROW : Hid (∀ Y, Below w.heap.size w Y → RowV byC 1 Y p cap l) := fun Y hY => hr.below hY
 obtain ⟨R, hR⟩ : ∃ R, R = dataT l := ⟨_, rfl⟩
 rw [← hR]
 have HR : Hid (R = _) := hR
 clear hr hR
 go_enter Tryz.func65, Tryz.ntmps65
 go_wp2
 go_loopw [3] (fun iv wr => ∃ k : Nat, iv = .int .i64 k ∧ k ≤ l.length ∧ Hid (fillN l l.length = fillN l k) ∧ wr = w) (fun iv _ => (intOf iv).toNat)
 case atStart => exact ⟨l.length, rfl, Nat.le_refl _, rfl, rfl⟩
 case round =>
  obtain ⟨k, rfl, hk, HF, hwr⟩ := hrel
  subst hwr
  rename World => w
  by_cases h0 : k = 0
  ·subst h0
   have HV : Hid (R = ⟨#[]⟩) := by show R = _; rw [HR.out]; unfold dataT; rw [HF.out]; rfl
   go_wp2
   go_ret
   exact ⟨by rw [HV.out]; rfl, Below.refl _ _⟩
  ·obtain ⟨t, ht⟩ : ∃ t, k = t + 1 := ⟨k - 1, by omega⟩
   have htl : t < l.length := by omega
   obtain ⟨b, hb⟩ : ∃ b, l[t]? = some b := ⟨_, List.getElem?_eq_getElem htl⟩
   obtain ⟨g, o, hpe, hg, hc⟩ := (HROW.out w (Below.refl _ _)).2 t b hb
   have hcap := (HROW.out w (Below.refl _ _)).1.1
   subst hpe
   have a0 := hc 0 (by omega)
   simp only [byC, List.getElem?_cons_zero, Nat.add_zero, Nat.mul_one] at a0
   have hwk : IntKind.i64.wrap ((k : Int) - 1) = (t : Int) := by rw [wrap_idI (by omega) (by omega)]; omega
   have dk : decide ((0 : Int) < (k : Int)) = true := by simp; omega
   have hk0 : 0 < k := by omega
   have hgd : l.getD t 0 = b := by simp [List.getD, hb]
   have HST : Hid (fillN l k = if b.toNat = 0 then fillN l t else k) := by
    show _ = _
    rw [ht]
    show (if (l.getD t 0).toNat = 0 then fillN l t else t + 1) = _
    rw [hgd]
   by_cases hz : b.toNat = 0
   ·have hz1 : ((b.toNat : Int) == 0) = true := by simp [hz]
    have hz2 : (b.toNat == 0) = true := by simp [hz]
    have HF2 : Hid (fillN l l.length = fillN l t) := by show _ = _; rw [HF.out, HST.out, if_pos hz]
    have htk : t < k := by omega
    clear ht hb hc hgd hz h0
    go_wp2
    refine ⟨⟨t, by first | rfl | go_num, by omega, HF2, by first | rfl | trivial⟩, ?_⟩
    simp [intOf]; omega
   ·have hz1 : ((b.toNat : Int) == 0) = false := by simp; omega
    have hz2 : (b.toNat == 0) = false := by simpa using hz
    have HV : Hid (R = sB ([100, 97, 116, 97, 32] ++ hexT (l.take k))) := by show R = _; rw [HR.out]; unfold dataT; rw [HF.out, HST.out, if_neg hz, if_neg h0]
    generalize b.toNat = bn at *
    have hke : ((k : Int) == 0) = false := by simp; omega
    have hke2 : (k == 0) = false := by simp; omega
    have hkn : ¬ k = 0 := h0
    have hcv0 : (convert 67 67 (.slice (some ⟨w.heap.size, 0, none⟩) 5 5)).run Tryz.prog (w.alloc (.cells #[.int .u8 100, .int .u8 97, .int .u8 116, .int .u8 97, .int .u8 32] TBy)) = .ok (.slice (some ⟨w.heap.size, 0, none⟩) 5 5) (w.alloc (.cells #[.int .u8 100, .int .u8 97, .int .u8 116, .int .u8 97, .int .u8 32] TBy (5, 6))) := Lib.run_convert_bytes_const (P := Tryz.prog) w 67 TBy #[.int .u8 100, .int .u8 97, .int .u8 116, .int .u8 97, .int .u8 32] 5 5 Tryz.underlying67 Tryz.underlying5
    have HO0 : Hid (DatR w.heap.size (w.alloc (.cells #[.int .u8 100, .int .u8 97, .int .u8 116, .int .u8 97, .int .u8 32] TBy (5, 6))) (some ⟨w.heap.size, 0, none⟩) 5 0 ([100, 97, 116, 97, 32] ++ hexT (l.take 0))) :=
     Or.inr ⟨rfl, rfl, rfl, w.heap.size, rfl, by rw [World.size_alloc]; omega, fun i u hu => (World.cell?_alloc_mark w _ _ _ i).trans (by simp only [List.getElem?_toArray]; exact hu)⟩
    have HB0 : Hid (Below w.heap.size w (w.alloc (.cells #[.int .u8 100, .int .u8 97, .int .u8 116, .int .u8 97, .int .u8 32] TBy (5, 6)))) := below1 w _
    clear ht hb hc hgd hz h0
    go_upto_region 9 with (fail)
    clear hcv0 htl hz1 hz2 hke hke2 hkn a0 hwk dk
    go_loopw [5, 6] (fun sv iv wr => ∃ (j : Nat) (vp : Option Addr) (vc : Nat), iv = .int .i64 j ∧ j ≤ k ∧ sv = .slice vp (5 + 2 * j) vc ∧ Hid (DatR w.heap.size wr vp vc j ([100, 97, 116, 97, 32] ++ hexT (l.take j))) ∧ Hid (Below w.heap.size w wr)) (fun _ iv _ => k - (intOf iv).toNat)
    case atStart => exact ⟨0, _, _, rfl, Nat.zero_le _, rfl, HO0, HB0⟩
    case round =>
     obtain ⟨j, vp, vc, rfl, hj, rfl, HO, HB⟩ := hrel
     by_cases hlt : j < k
     ·obtain ⟨c, hs⟩ : ∃ s, l[j]? = some s := ⟨_, List.getElem?_eq_getElem (by omega)⟩
      obtain ⟨g', o', he, hg', hc'⟩ := (HROW.out wr HB.out).2 j c hs
      injection he with he
      injection he with e1 e2
      subst e1 e2
      have a0 := hc' 0 (by omega)
      simp only [byC, List.getElem?_cons_zero, Nat.mul_one, Nat.add_zero] at a0
      have HT : Hid (_ = _) := hexT_take hs
      have hjl : j < l.length := by omega
      clear hc' hs hg'
      have hcb : c.toNat < 256 := c.toNat_lt
      obtain ⟨q, hq⟩ : ∃ q : Nat, q = c.toNat / 16 := ⟨_, rfl⟩
      obtain ⟨m, hm⟩ : ∃ q : Nat, q = c.toNat % 16 := ⟨_, rfl⟩
      have hq1 : (c.toNat : Int) / 16 = (q : Int) := by omega
      have hm1 : bits .and .u8 (c.toNat : Int) 15 = (m : Int) := by rw [hm]; exact and15 c.toNat hcb
      have hq2 : q < 16 := by omega
      have hm2 : m < 16 := by omega
      rw [← hq, ← hm] at HT
      have hdq := hexD_at q hq2
      have hdm := hexD_at m hm2
      have hq3 : (q : Int) < 16 := by omega
      have hm3 : (m : Int) < 16 := by omega
      obtain ⟨i0, hi, hz0, hz1, hz2⟩ := info_parts infoBy
      have b1 : Below wr.heap.size wr (wr.drew.alloc (.cells #[.int .u8 (hexD q).toNat, .int .u8 (hexD m).toNat] TBy)) := (Below.refl _ wr).drew.trans (below1 wr.drew _)
      have HO1 : Hid (DatR w.heap.size (wr.drew.alloc (.cells #[.int .u8 (hexD q).toNat, .int .u8 (hexD m).toNat] TBy)) vp vc j ([100, 97, 116, 97, 32] ++ hexT (l.take j))) := HO.out.below (N := 0) b1
      have HB1 : Hid (Below w.heap.size w (wr.drew.alloc (.cells #[.int .u8 (hexD q).toNat, .int .u8 (hexD m).toNat] TBy))) := HB.out.trans (b1.mono HB.out.size)
      have NC := cells_new wr.drew #[.int .u8 (hexD q).toNat, .int .u8 (hexD m).toNat] TBy
      clear hq hm hcb b1
      go_upto_region 11 with (fail)
      go_region_law (refine step_append_data rfl (.tmp 30) (.tmp 45) 67 rfl w.heap.size i0 (.int .u8 0) Tryz.underlying67 hi hz0 hz1 hz2 rfl vp vc j _ rfl HO1.out ⟨wr.heap.size, 0, none⟩ 2 [.int .u8 (hexD q).toNat, .int .u8 (hexD m).toNat] rfl rfl NC (by intro u hu; simp at hu; rcases hu with rfl | rfl <;> rfl) (by omega) HB1.out.size ?_; intro p' cap' w11 ob hown hgrow hbs; have HOW : Hid (World.ownsRow _ _ _ _ _ _ _) := hown; have HGR : Hid (World.grownBy _ _ _) := hgrow; have HBS : Hid (∀ g, ob = some g → w.heap.size ≤ g) := hbs; clear hown hgrow hbs)
      all_goals go_wp2
      all_goals exact ⟨⟨j + 1, p', cap', by go_num, by omega, by show _ = Value.slice p' (5 + 2 * (j + 1)) cap'; rfl, Lib.hid (Or.inl ⟨by omega, by rw [HT.out, ← List.append_assoc, byV_append]; exact HOW.out⟩), Lib.hid (below_grown HB1.out HB1.out.size HGR.out HBS.out)⟩, by simp [intOf]; omega⟩
     ·obtain rfl : j = k := by omega
      have hge : ¬ ((j : Int) < (j : Int)) := by omega
      have HO2 : wr.ownsRow w.heap.size TBy 1 (.slice vp (5 + 2 * j) vc) (5 + 2 * j) (byV ([100, 97, 116, 97, 32] ++ hexT (l.take j))) := by
       rcases HO.out with ⟨_, h⟩ | ⟨h, _⟩
       ·exact h
       ·omega
      have hln : ([100, 97, 116, 97, 32] ++ hexT (l.take j) : List UInt8).length = 5 + 2 * j := by
       have := HO2.1
       rw [byV_length] at this
       omega
      have HO3 : wr.ownsRow w.heap.size TBy 1 (.slice vp (5 + 2 * j) vc) ([100, 97, 116, 97, 32] ++ hexT (l.take j) : List UInt8).length (byV ([100, 97, 116, 97, 32] ++ hexT (l.take j))) := by rw [hln]; exact HO2
      have hcv := conv_text HO3 (by omega)
      rw [← HV.out] at hcv
      clear HO2 HO3 hln
      go_wp2
      go_ret
      exact ⟨rfl, HB.out⟩
end
end Go.Proofs.YtelaaaamnphbpaaGreatDoor