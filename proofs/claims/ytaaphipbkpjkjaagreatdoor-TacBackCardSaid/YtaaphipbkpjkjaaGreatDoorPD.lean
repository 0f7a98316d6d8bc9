/-
  Bytes are read: digit, bytes of package tac's reader, at what is written of bytes.
  Bytes as digits: hex of package tac.
-/
import Derived.Test.YtaaphipbkpjkjaaGreatDoorKT
import Derived.Test.YtaaphipbkpjkjaaGreatDoorNQ
import Derived.Deep.RegionLaw
import Derived.Test.YtaaphipbkpjkjaaGreatDoorTkF
namespace Go.Proofs.YtaaphipbkpjkjaaGreatDoor
open Go.RowKit Go.Maps
set_option linter.unusedVariables false
set_option linter.unusedSimpArgs false
set_option maxRecDepth 100000
theorem hexT_take {l : List UInt8} {k : Nat} {b : UInt8} (h : l[k]? = some b) : hexT (l.take (k + 1)) = hexT (l.take k) ++ [hexD (b.toNat / 16), hexD (b.toNat % 16)] := by
  unfold hexT
  rw [take_succ h]; simp
theorem hexD_at (n : Nat) (h : n < 16) : (⟨#[48, 49, 50, 51, 52, 53, 54, 55, 56, 57, 97, 98, 99, 100, 101, 102]⟩ : ByteArray)[n]'(by show n < 16; exact h) = hexD n := by
  have : ∀ n : Fin 16, (⟨#[48, 49, 50, 51, 52, 53, 54, 55, 56, 57, 97, 98, 99, 100, 101, 102]⟩ : ByteArray)[n.val]'(n.isLt) = hexD n.val := by decide
  exact this ⟨n, h⟩
theorem and15 (n : Nat) (h : n < 256) : bits .and .u8 (n : Int) 15 = ((n % 16 : Nat) : Int) := by
  have : ∀ n : Fin 256, bits .and .u8 (n.val : Int) 15 = ((n.val % 16 : Nat) : Int) := by decide +kernel
  exact this ⟨n, h⟩
section
variable {w : World}
set_option maxHeartbeats 8000000 in
theorem hex_c {p : Option Addr} {cap : Nat} {l : List UInt8} (hr : RowV byC 1 w p cap l) (hl : l.length ≤ 50000) (hl0 : 0 < l.length) :
    Calls Tryz.prog 91 #[.slice p l.length cap] w fun e w' => e = .returned (.string (sB (hexT l))) ∧ Below w.heap.size w w' := by
  have HROW : Hid (∀ Y, Below w.heap.size w Y → RowV byC 1 Y p cap l) := fun Y hY => hr.below hY
  clear hr
  go_enter Tryz.func91, Tryz.ntmps91
  go_wp2
  go_loopw [3, 8] (fun sv iv wr => ∃ (k : Nat) (vp : Option Addr) (vc : Nat), iv = .int .i64 k ∧ k ≤ l.length ∧ sv = .slice vp (2 * k) vc ∧ Hid (wr.ownsRow w.heap.size TBy 1 (.slice vp (2 * k) vc) (2 * k) (byV (hexT (l.take k)))) ∧ Hid (Below w.heap.size w wr)) (fun _ iv _ => l.length - (intOf iv).toNat)
  case atStart => exact ⟨0, none, 0, rfl, Nat.zero_le _, rfl, ⟨rfl, Or.inl ⟨rfl, rfl⟩⟩, Below.refl _ _⟩
  case round =>
    obtain ⟨k, vp, vc, rfl, hk, rfl, HO, HB⟩ := hrel
    by_cases hlt : k < l.length
    · obtain ⟨c, hs⟩ : ∃ s, l[k]? = some s := ⟨_, List.getElem?_eq_getElem hlt⟩
      obtain ⟨g, o, hpe, hg, hc⟩ := (HROW.out wr HB.out).2 k c hs
      have hcap := (HROW.out w (Below.refl _ _)).1.1
      subst hpe
      have a0 := hc 0 (by omega)
      simp only [byC, List.getElem?_cons_zero, Nat.mul_one, Nat.add_zero] at a0
      have HT : Hid (_ = _) := hexT_take hs
      clear hc hs hg
      have hcb : c.toNat < 256 := c.toNat_lt
      obtain ⟨q, hq⟩ : ∃ q : Nat, q = c.toNat / 16 := ⟨_, rfl⟩
      obtain ⟨m, hm⟩ : ∃ q : Nat, q = c.toNat % 16 := ⟨_, rfl⟩
      have hq1 : (c.toNat : Int) / 16 = (q : Int) := by omega
      have hm1 : bits .and .u8 (c.toNat : Int) 15 = (m : Int) := by rw [hm]; exact and15 c.toNat hcb
      have hq2 : q < 16 := by omega
      have hm2 : m < 16 := by omega
      rw [← hq, ← hm] at HT
      have hdq := hexD_at q hq2
      have hdm := hexD_at m hm2
      have hq3 : (q : Int) < 16 := by omega
      have hm3 : (m : Int) < 16 := by omega
      obtain ⟨i0, hi, hz0, hz1, hz2⟩ := info_parts infoBy
      have b1 : Below wr.heap.size wr (wr.drew.alloc (.cells #[.int .u8 (hexD q).toNat, .int .u8 (hexD m).toNat] TBy)) := (Below.refl _ wr).drew.trans (below1 wr.drew _)
      have HO1 : Hid ((wr.drew.alloc (.cells #[.int .u8 (hexD q).toNat, .int .u8 (hexD m).toNat] TBy)).ownsRow w.heap.size TBy 1 (.slice vp (2 * k) vc) (2 * k) (byV (hexT (l.take k)))) := ownsRow_turned HO.out (Turned.of_below b1 (fun _ => False)) (fun _ _ h => h)
      have HB1 : Hid (Below w.heap.size w (wr.drew.alloc (.cells #[.int .u8 (hexD q).toNat, .int .u8 (hexD m).toNat] TBy))) := HB.out.trans (b1.mono HB.out.size)
      have NC := cells_new wr.drew #[.int .u8 (hexD q).toNat, .int .u8 (hexD m).toNat] TBy
      clear hq hm hcb b1
      go_upto_region 5 with (fail)
      go_region_law (refine step_append_own_at rfl (.tmp 12) (.tmp 19) 67 rfl w.heap.size TBy i0 (.int .u8 0) 1 1 Tryz.underlying67 hi hz0 hz1 hz2 rfl (by decide) _ (2 * k) _ rfl HO1.out ⟨wr.heap.size, 0, none⟩ 2 2 [.int .u8 (hexD q).toNat, .int .u8 (hexD m).toNat] rfl rfl NC (by intro u hu; simp at hu; rcases hu with rfl | rfl <;> rfl) (by unfold maxLen; omega) (by omega) HB1.out.size ?_; intro v' w11 hown hgrow hnil hat; obtain ⟨p', cap', rfl⟩ := slice_of_own hown; have HOW : Hid (World.ownsRow _ _ _ _ _ _ _) := hown; have HGR : Hid (World.grownBy _ _ _) := hgrow; clear hown hgrow hnil hat)
      all_goals go_wp2
      all_goals exact ⟨⟨k + 1, p', cap', by go_num, by omega, by show _ = Value.slice p' (2 * (k + 1)) cap'; rfl, Lib.hid (by rw [HT.out, byV_append]; exact HOW.out), Lib.hid (below_grown HB1.out HB1.out.size HGR.out (fun g e => (ownsRow_at HO1.out e).1))⟩, by simp [intOf]; omega⟩
    · obtain rfl : k = l.length := by omega
      have hge : ¬ ((l.length : Int) < (l.length : Int)) := by omega
      have HO2 := HO.out
      rw [List.take_length] at HO2
      have hln : (hexT l).length = 2 * l.length := by
        have := HO2.1
        rw [byV_length] at this
        omega
      have HO3 : wr.ownsRow w.heap.size TBy 1 (.slice vp (2 * l.length) vc) (hexT l).length (byV (hexT l)) := by rw [hln]; exact HO2
      have hcv := conv_text HO3 (by omega)
      clear HO2 HO3 hln
      go_wp2
      go_ret
      exact ⟨rfl, HB.out⟩
end
end Go.Proofs.YtaaphipbkpjkjaaGreatDoor
namespace Go.Proofs.YtaaphipbkpjkjaaGreatDoor
open Go.RowKit Go.Maps
set_option linter.unusedVariables false
set_option linter.unusedSimpArgs false
set_option maxRecDepth 100000
theorem digit_at : ∀ n < 16, Lib.indexByte (⟨#[48, 49, 50, 51, 52, 53, 54, 55, 56, 57, 97, 98, 99, 100, 101, 102]⟩ : ByteArray).data.toList ((hexD n).toNat : Int).toNat.toUInt8 = (n : Int) := by decide +kernel
theorem digit_c (n : Nat) (hn : n < 16) (w : World) : Calls Tryz.prog 142 #[.int .u8 (hexD n).toNat] w fun e w' => e = .returned (.int .i64 n) ∧ w' = w := by
  have cI : Calls Tryz.prog 157 #[.string ⟨#[48, 49, 50, 51, 52, 53, 54, 55, 56, 57, 97, 98, 99, 100, 101, 102]⟩, .int .u8 (hexD n).toNat] w fun e w' => e = .returned (.int .i64 n) ∧ w' = w := by
    have h := Tryz.strings_IndexByte ⟨#[48, 49, 50, 51, 52, 53, 54, 55, 56, 57, 97, 98, 99, 100, 101, 102]⟩ (hexD n).toNat w
    rw [digit_at n hn] at h
    exact h
  have cW := want_c w
  have d1 : decide ((0 : Int) ≤ (n : Int)) = true := by simp
  generalize ((hexD n).toNat : Int) = hd at *
  go_enter Tryz.func142, Tryz.ntmps142
  go_wp2_with (first | (go_at_call 157; refine cI.mono ?_; rintro e w' ⟨rfl, hw⟩; rw [hw]; clear hw w' cI) | (go_at_call 69; refine cW.mono ?_; rintro e w' ⟨rfl, hw⟩; rw [hw]; clear hw w' cW) | fail)
  go_ret
  exact ⟨rfl, rfl⟩
/-- Some first bytes, and noughts behind them. -/
def mixL (l : List UInt8) (sz k : Nat) : List UInt8 := l.take k ++ List.replicate (sz - k) 0
theorem mix_length (l : List UInt8) {sz k : Nat} (h1 : k ≤ l.length) (h2 : k ≤ sz) : (mixL l sz k).length = sz := by simp [mixL]; omega
theorem mix_set {l : List UInt8} {sz k : Nat} {b : UInt8} (hb : l[k]? = some b) (h2 : k < sz) : (byV (mixL l sz k)).toArray.setIfInBounds k (.int .u8 b.toNat) = (byV (mixL l sz (k + 1))).toArray := by
  have hk := (List.getElem?_eq_some_iff.1 hb).1
  have e1 : mixL l sz k = l.take k ++ 0 :: List.replicate (sz - (k + 1)) 0 := by
    unfold mixL
    rw [show sz - k = (sz - (k + 1)) + 1 by omega, List.replicate_succ]
  have e2 : mixL l sz (k + 1) = l.take k ++ b :: List.replicate (sz - (k + 1)) 0 := by
    unfold mixL
    rw [take_succ hb]; simp
  rw [e1, e2]
  have hl : (byV (l.take k)).length = k := by rw [byV_length, List.length_take]; omega
  apply Array.ext'
  simp only [Array.toList_setIfInBounds, byV_append]
  rw [List.set_append_right _ _ (by omega), hl, Nat.sub_self]
  rfl
theorem hexT_at {l : List UInt8} {k : Nat} {b : UInt8} (hb : l[k]? = some b) : (hexT l)[2 * k]? = some (hexD (b.toNat / 16)) ∧ (hexT l)[2 * k + 1]? = some (hexD (b.toNat % 16)) := by
  have hk := (List.getElem?_eq_some_iff.1 hb).1
  have e : hexT l = hexT (l.take k) ++ (hexD (b.toNat / 16) :: hexD (b.toNat % 16) :: hexT (l.drop (k + 1))) := by
    have : l = l.take k ++ (b :: l.drop (k + 1)) := by rw [← drop_cons hb, List.take_append_drop]
    conv => lhs; rw [this]
    simp [hexT]
  have hlen : (hexT (l.take k)).length = 2 * k := by
    have : ∀ l : List UInt8, (hexT l).length = 2 * l.length := by
      intro l
      induction l with
      | nil => rfl
      | cons a l ih =>
        have : hexT (a :: l) = hexD (a.toNat / 16) :: hexD (a.toNat % 16) :: hexT l := rfl
        rw [this, List.length_cons, List.length_cons, ih, List.length_cons]; omega
    rw [this, List.length_take]; omega
  rw [e]
  refine ⟨?_, ?_⟩
  · rw [List.getElem?_append_right (by omega), hlen, Nat.sub_self]; rfl
  · rw [List.getElem?_append_right (by omega), hlen, show 2 * k + 1 - 2 * k = 1 by omega]; rfl
theorem hexT_len : ∀ l : List UInt8, (hexT l).length = 2 * l.length
  | [] => rfl
  | a :: l => by
    have : hexT (a :: l) = hexD (a.toNat / 16) :: hexD (a.toNat % 16) :: hexT l := rfl
    rw [this, List.length_cons, List.length_cons, hexT_len l, List.length_cons]; omega
theorem ba_at {s : ByteArray} {i : Nat} {c : UInt8} (h : s.data.toList[i]? = some c) : ∃ hi : i < s.size, s[i]'hi = c := by
  obtain ⟨h1, h2⟩ := List.getElem?_eq_some_iff.1 h
  have hi : i < s.size := by rw [Lib.size_eq]; exact h1
  refine ⟨hi, ?_⟩
  rw [← h2]
  simp; rfl
theorem byte_or : ∀ b : UInt8, IntKind.u8.wrap (bits .or .i64 (IntKind.i64.wrap ((b.toNat / 16 : Nat) * 16 : Int)) ((b.toNat % 16 : Nat) : Int)) = (b.toNat : Int) := by
  have : ∀ n : Fin 256, IntKind.u8.wrap (bits .or .i64 (IntKind.i64.wrap ((n.val / 16 : Nat) * 16 : Int)) ((n.val % 16 : Nat) : Int)) = (n.val : Int) := by decide +kernel
  intro b
  exact this ⟨b.toNat, b.toNat_lt⟩
/-- step_call_fn, at the operation that fills a slot. -/
theorem step_call_at (d : Nat) {P : Program} {ops : Array Oper} {o : Oper} {a : Act} {w : World} {K : Act → World → Prop} {Q : Exit → Act → World → Prop} {E : Prop} (hd : o.dst = some d) (hg : o.guard = none) (f : FuncId) (args : Array Value)
    (hrun : (execOp a.eval o).run P w = .ok (.enter f args) w) {R : Ending → World → Prop} (hc : Calls P f args w R)
    (h : ∀ e w', R e w' → ∃ v, e = .returned v ∧ K (a.put o.dst v) w') : if Region.wanted o (yielded ops a.tmps) = true then Oper.wp P o a w K Q else E := step_call_fn hg f args hrun hc h
section
variable {w : World} {rb mb : Nat} {ls ws : List ByteArray}
set_option maxHeartbeats 8000000 in
theorem bytes_c {g sz : Nat} {l : List UInt8} (hg : w.heap[g]? = some (.cells (byV (mixL l sz 0)).toArray TBy (0, 0))) (hl0 : 1 ≤ l.length) (hl1 : l.length ≤ sz) (hsz : sz ≤ 100000) {bl : UInt8} (hbl : l[l.length - 1]? = some bl) (hb0 : bl ≠ 0) (hR : RdT w rb mb ls [sB (hexT l)]) :
    Calls Tryz.prog 120 #[.pointer (some ⟨rb, 0, none⟩), .slice (some ⟨g, 0, none⟩) sz sz] w fun e w' => e = .returned (.tuple #[]) ∧ w'.heap[g]? = some (.cells (byV (mixL l sz l.length)).toArray TBy (0, 0)) ∧ RdT w' rb mb ls [] ∧ Turned w w' (fun k => k = rb ∨ k = g) := by
  have cW := word_c hR
  have hgr : g ≠ rb := by
    rintro rfl
    obtain ⟨cs, hc⟩ := hR.rb_at
    rw [hg] at hc
    injection hc with q1
    injection q1 with _ q2
    exact absurd q2 (by decide)
  have HG : Hid (_ = _) := hg
  have HS : Hid (∀ (k : Nat) (b : UInt8), l[k]? = some b → (∃ hi : 2 * k < (sB (hexT l)).size, (sB (hexT l))[2 * k]'hi = hexD (b.toNat / 16)) ∧ ∃ hi : 2 * k + 1 < (sB (hexT l)).size, (sB (hexT l))[2 * k + 1]'hi = hexD (b.toNat % 16)) := fun k b hb => ⟨ba_at (hexT_at hb).1, ba_at (hexT_at hb).2⟩
  have hss : (sB (hexT l)).size = 2 * l.length := by rw [sB_size, hexT_len]
  obtain ⟨S, hS⟩ : ∃ S, S = sB (hexT l) := ⟨_, rfl⟩
  rw [← hS] at cW HS hss
  obtain ⟨m, hm⟩ : ∃ m, m = l.length := ⟨_, rfl⟩
  rw [← hm] at hss hl0 hl1 hbl ⊢
  have HML : Hid (m = l.length) := hm
  have hq1 : ((S.size : Int)).tdiv 2 = (m : Int) := by rw [Int.tdiv_eq_ediv_of_nonneg (by omega), hss]; omega
  have hr1 : ((S.size : Int)).tmod 2 = 0 := by rw [Int.tmod_eq_emod_of_nonneg (by omega), hss]; omega
  have hwi : withinP (m : Int) 1 (sz : Int) = true := by simp [withinP]; omega
  have hq2 : ((S.size : Int)) / 2 = (m : Int) := by rw [hss]; omega
  have hr2 : ((S.size : Int)) % 2 = 0 := by rw [hss]; omega
  have HSS : Hid (S.size = 2 * m) := hss
  clear hR hg hS hss hm
  go_enter Tryz.func120, Tryz.ntmps120
  go_wp2_with (first | (go_at_call 119; refine cW.mono ?_; rintro e w1 ⟨rfl, hR1, hT1⟩; have HR1 : Hid (RdT w1 rb mb ls []) := hR1; have HT1 : Hid (Turned w w1 (fun k => k = rb)) := hT1; have cD := done_c hR1; have cN := want_c w1; have cV := within_c (m : Int) 1 (sz : Int) w1; rw [hwi] at cV; clear hR1 hT1 cW) | (go_at_call 104; refine cD.mono ?_; rintro e w' ⟨rfl, hw⟩; rw [hw]; clear hw w' cD) | (go_at_call 50; refine cV.mono ?_; rintro e w' ⟨rfl, hw⟩; rw [hw]; clear hw w' cV) | (go_at_call 69; refine cN.mono ?_; rintro e w' ⟨rfl, hw⟩; rw [hw]; clear hw w' cN) | fail)
  clear hq1 hr1 hq2 hr2 hwi
  have hl2 : m ≤ 100000 := Nat.le_trans hl1 hsz
  have HG1 : Hid (w1.heap[g]? = some (.cells (byV (mixL l sz 0)).toArray TBy (0, 0))) := blk_t HG.out HT1.out hgr
  go_loopw [26] (fun iv wr => ∃ k : Nat, iv = .int .i64 k ∧ k ≤ m ∧ Hid (wr.heap[g]? = some (.cells (byV (mixL l sz k)).toArray TBy (0, 0))) ∧ Hid (RdT wr rb mb ls []) ∧ Hid (Turned w wr (fun k => k = rb ∨ k = g))) (fun iv _ => m - (intOf iv).toNat)
  case atStart => exact ⟨0, rfl, Nat.zero_le _, HG1, HR1, HT1.out.mono (fun _ h => Or.inl h)⟩
  case round =>
    obtain ⟨k, rfl, hk, HGK, HRK, HTK⟩ := hrel
    by_cases hlt : k < m
    · obtain ⟨b, hb⟩ : ∃ b, l[k]? = some b := ⟨_, List.getElem?_eq_getElem (by rw [← HML.out]; exact hlt)⟩
      obtain ⟨⟨hi1, hc1⟩, hi2, hc2⟩ := HS.out k b hb
      obtain ⟨q, hq⟩ : ∃ q : Nat, q = b.toNat / 16 := ⟨_, rfl⟩
      obtain ⟨r, hr⟩ : ∃ q : Nat, q = b.toNat % 16 := ⟨_, rfl⟩
      have hbb := b.toNat_lt
      have HD1 : Hid (Calls Tryz.prog 142 #[.int .u8 (hexD q).toNat] wr.drew fun e w' => e = .returned (.int .i64 q) ∧ w' = wr.drew) := digit_c q (by omega) _
      have HD2 : Hid (Calls Tryz.prog 142 #[.int .u8 (hexD r).toNat] wr.drew fun e w' => e = .returned (.int .i64 r) ∧ w' = wr.drew) := digit_c r (by omega) _
      have HBO : Hid (IntKind.u8.wrap (bits .or .i64 (IntKind.i64.wrap ((q : Int) * 16)) (r : Int)) = (b.toNat : Int)) := by show _ = _; rw [hq, hr]; exact byte_or b
      have HSET : Hid (_ = _) := mix_set (sz := sz) hb (by omega)
      rw [← hq] at hc1
      rw [← hr] at hc2
      have hcel : wr.cell? ⟨g, k, none⟩ = some (.int .u8 0) := by
        rw [Lib.cell_of_heap HGK.out]
        have e1 : mixL l sz k = l.take k ++ 0 :: List.replicate (sz - (k + 1)) 0 := by
          unfold mixL
          rw [show sz - k = (sz - (k + 1)) + 1 by omega, List.replicate_succ]
        rw [e1, byV_append]
        have hl' : (byV (l.take k)).length = k := by rw [byV_length, List.length_take, ← HML.out]; omega
        simp only [List.getElem?_toArray]
        rw [List.getElem?_append_right (by omega), hl', Nat.sub_self]
        rfl
      have hfr := frozen_of HGK.out k
      obtain ⟨j1, hj1⟩ : ∃ j, j = 2 * k := ⟨_, rfl⟩
      obtain ⟨j2, hj2⟩ : ∃ j, j = 2 * k + 1 := ⟨_, rfl⟩
      have w1' : IntKind.i64.wrap (2 * (k : Int)) = (j1 : Int) := by rw [hj1, wrap_idI (by omega) (by omega)]; omega
      have w2' : IntKind.i64.wrap ((j1 : Int) + 1) = (j2 : Int) := by rw [hj1, hj2, wrap_idI (by omega) (by omega)]; omega
      have hk1 : (j1 : Int) < (S.size : Int) := by omega
      have hk2 : (j2 : Int) < (S.size : Int) := by omega
      have hj1' : j1 < S.size := by omega
      have hj2' : j2 < S.size := by omega
      have hc1' : S[j1]'hj1' = hexD q := by rw [← hc1]; congr 1
      have hc2' : S[j2]'hj2' = hexD r := by rw [← hc2]; congr 1
      have hks : k < sz := by omega
      clear hb hq hr hbb hc1 hc2 hi1 hi2 hj1 hj2
      go_upto_region 7 with (fail)
      go_region_law (first
        | (refine step_call_at 35 rfl rfl 142 #[.int .u8 (hexD q).toNat] (by kernel_rfl) HD1.out ?_; rintro e w' ⟨rfl, hw⟩; rw [hw]; clear hw w'; refine ⟨_, rfl, ?_⟩)
        | (refine step_call_at 42 rfl rfl 142 #[.int .u8 (hexD r).toNat] (by kernel_rfl) HD2.out ?_; rintro e w' ⟨rfl, hw⟩; rw [hw]; clear hw w'; refine ⟨_, rfl, ?_⟩))
      all_goals rw [HBO.out]
      all_goals go_wp2
      all_goals
        have t1 : Turned wr (wr.setCell ⟨g, k, none⟩ (.int .u8 (b.toNat : Int))) (fun k => k = g) := Turned.setCell wr g k _ rfl
        have bd : Below (wr.setCell ⟨g, k, none⟩ (.int .u8 (b.toNat : Int))).heap.size (wr.setCell ⟨g, k, none⟩ (.int .u8 (b.toNat : Int))) (wr.setCell ⟨g, k, none⟩ (.int .u8 (b.toNat : Int))).drew := (Below.refl _ _).drew
        have hg2 := heap_setCell (j := k) HGK.out (.int .u8 (b.toNat : Int))
        rw [HSET.out] at hg2
        exact ⟨⟨k + 1, by go_num, by omega, Lib.hid (blk_b hg2 bd), Lib.hid ((HRK.out.off t1 HGK.out (by decide) (by decide)).below bd), Lib.hid ((HTK.out.trans t1 (fun _ _ h => Or.inr h)).bel bd)⟩, by simp [intOf]; omega⟩
    · obtain rfl : k = m := by omega
      obtain ⟨j, hj⟩ : ∃ j, j = k - 1 := ⟨_, rfl⟩
      have w1' : IntKind.i64.wrap ((k : Int) - 1) = (j : Int) := by rw [hj, wrap_idI (by omega) (by omega)]; omega
      have hjs : j < sz := by omega
      have hcel : wr.cell? ⟨g, j, none⟩ = some (.int .u8 bl.toNat) := by
        rw [Lib.cell_of_heap HGK.out]
        have e1 : (mixL l sz k)[j]? = some bl := by
          unfold mixL
          rw [List.getElem?_append_left (by rw [List.length_take, ← HML.out]; omega), List.getElem?_take_of_lt (by omega), hj]
          exact hbl
        simp [byV, e1]
      have hne : ((bl.toNat : Int) != 0) = true := by
        have : bl.toNat ≠ 0 := fun e => hb0 (UInt8.toNat_inj.1 e)
        simp; omega
      have cN2 := want_c wr
      have hge : ¬ ((k : Int) < (k : Int)) := by omega
      clear hj
      go_wp2_with (first | (go_at_call 69; refine cN2.mono ?_; rintro e w' ⟨rfl, hw⟩; rw [hw]; clear hw w' cN2) | fail)
      go_end0
      exact ⟨rfl, HGK.out, HRK.out, HTK.out⟩
end
end Go.Proofs.YtaaphipbkpjkjaaGreatDoor
