/-
  A function is read: function of package tac's reader, at the lines that it is written as.
-/
import Derived.Test.YtaaphipbkpjkjaaGreatDoorTkE
import Derived.Deep.RegionHeld3
namespace Go.Proofs.YtaaphipbkpjkjaaGreatDoor
open Go.RowKit Go.Maps
set_option linter.unusedVariables false
set_option linter.unusedSimpArgs false
set_option maxRecDepth 100000
def lnI (x : In) : ByteArray := lnB (wordsP x)
def lnS (s : Slt) : ByteArray := lnB (slotW s)
def argV (i : Iw) : Value := .slice i.xp i.x.args.length i.xc
theorem op_of_rd {x : In} (h : RtI x) : (headW x, bareI x.op x.bin) ∈ opsL ∧ ∀ y, (headW x, y) ∈ opsL → y = bareI x.op x.bin := opFind_mem h.hd
theorem hd_size {x : In} (h : RtI x) : (headW x).size ≤ 100 := by
  have hm := (op_of_rd h).1
  have : ∀ p ∈ opsL, p.1.size ≤ 100 := by decide +kernel
  exact this _ hm
theorem hd_slot {x : In} (h : RtI x) : ((headW x).toList == slotWd.toList) = false := by
  have hm := (op_of_rd h).1
  have : ∀ p ∈ opsL, (p.1.toList == slotWd.toList) = false := by decide +kernel
  exact this _ hm
theorem cut_i {x : In} (h : RtI x) : cutW (lnI x) = headW x := cut_ln (cl_hd h)
theorem split_i {x : In} (h : RtI x) : (splitL (lnI x) 32).tail = fldW (fldsOf x) x := by
  unfold lnI
  rw [split_ln (ln_ins h)]; rfl
theorem cut_s (s : Slt) : cutW (lnS s) = slotWd := cut_ln (s := sB [115, 108, 111, 116]) (cl_lit (by decide))
theorem split_s (s : Slt) : (splitL (lnS s) 32).tail = [decS s.size, decS s.align] := by
  unfold lnS
  rw [split_ln (ln_slot s)]; rfl
theorem apart_one {w : World} {b : Nat} {cs : Array Value} {ty : TypeId} (h : w.heap[b]? = some (.cells cs ty (0, 0))) {ts : List TypeId} (hn : ty ∉ ts) : Apart w (fun k => k = b) ts := fun j hj => ⟨cs, ty, by rw [hj]; exact h, hn⟩
theorem own_apart {B : Nat} {w w' : World} {t : TypeId} {k n : Nat} {v : Value} {xs : List Value} {b : Nat} {cs : Array Value} {ty : TypeId} (h : w.ownsRow B t k v n xs) (ht : Turned w w' (fun k => k = b)) (hb : w.heap[b]? = some (.cells cs ty (0, 0))) (hn : ty ≠ t) : w'.ownsRow B t k v n xs :=
  own_t h ht (fun j hj => ⟨cs, ty, by rw [hj]; exact hb, hn⟩)
theorem RdT.rb_at {w : World} {rb mb : Nat} {ls ws : List ByteArray} (h : RdT w rb mb ls ws) : ∃ cs, w.heap[rb]? = some (.cells cs TRd (0, 0)) := by obtain ⟨⟨_, _, _, _, hg, _⟩, _⟩ := h; exact ⟨_, hg⟩
theorem own_rd {B : Nat} {w w' : World} {t : TypeId} {k n rb mb : Nat} {ls ws : List ByteArray} {v : Value} {xs : List Value} (h : w.ownsRow B t k v n xs) (ht : Turned w w' (fun k => k = rb)) (hR : RdT w rb mb ls ws) (hn : TRd ≠ t) : w'.ownsRow B t k v n xs := by
  obtain ⟨cs, hg⟩ := hR.rb_at
  exact own_apart h ht hg hn
section
variable {w : World} {rb mb : Nat} {ls ws : List ByteArray}
set_option maxHeartbeats 16000000 in
theorem func_c (hX : Tabs w) (hF : FormsIn w) (hM : MaxIn w) (hrb : 10 ≤ rb) {nm p1 t1 : ByteArray} {rest : List ByteArray} {sls : List Slt} {xs : List In} {ls2 : List ByteArray} (hR : RdT w rb mb (sls.map lnS ++ (xs.map lnI ++ ls2)) (nm :: p1 :: t1 :: rest)) {pr tp : Int} {gv : Bool} (hp : num64 p1 = some pr) (ht : num64 t1 = some tp) (hg : rest = if gv then [givesW] else [])
    (hsl : ∀ s ∈ sls, I64 s.size ∧ I64 s.align) (hsn : sls.length ≤ 1000000) (hxs : ∀ x ∈ xs, RtI x) (hxn : xs.length ≤ 1000000) (hend : opFind (firstW ls2) = none) (hns : ((firstW ls2).toList == slotWd.toList) = false) :
    Calls Tryz.prog 102 #[.pointer (some ⟨rb, 0, none⟩)] w fun e w' => ∃ y : Fg, e = .returned (.agg (fgC y).toArray) ∧ y.f.nm = nm ∧ y.f.pr = pr ∧ y.f.tp = tp ∧ y.f.gv = gv ∧ y.sls = sls ∧ y.code.map Iw.x = xs ∧ FnOwn w.heap.size w' y ∧ RdT w' rb mb ls2 [] ∧ Turned w w' (fun k => k = rb) := by
  have hrl : rb < w.heap.size := by obtain ⟨⟨_, _, _, _, hg, _⟩, _⟩ := hR; exact lt_of_heap hg
  have b1 := below1 w (.cells zFn TFn)
  have HN1 : Hid ((w.alloc (.cells zFn TFn)).heap[w.heap.size]? = some (.cells zFn TFn (0, 0))) := heap_r0 w _
  have HB1 : Hid (Below w.heap.size w (w.alloc (.cells zFn TFn))) := b1
  have cW := word_c (hR.below b1)
  have HCN1 : Hid (∀ Y ls r, Tabs Y → RdT Y rb mb ls (p1 :: r) → Calls Tryz.prog 103 #[.pointer (some ⟨rb, 0, none⟩)] Y fun e w' => e = .returned (.int .i64 pr) ∧ RdT w' rb mb ls r ∧ Turned Y w' (fun k => k = rb)) := fun Y ls r hY hR => number_c hY hrb hR (num64_ok hp).1 (num64_ok hp).2.1 (num64_ok hp).2.2
  have HCN2 : Hid (∀ Y ls r, Tabs Y → RdT Y rb mb ls (t1 :: r) → Calls Tryz.prog 103 #[.pointer (some ⟨rb, 0, none⟩)] Y fun e w' => e = .returned (.int .i64 tp) ∧ RdT w' rb mb ls r ∧ Turned Y w' (fun k => k = rb)) := fun Y ls r hY hR => number_c hY hrb hR (num64_ok ht).1 (num64_ok ht).2.1 (num64_ok ht).2.2
  have HCN : Hid (∀ (v : Int), I64 v → ∀ Y ls r, Tabs Y → RdT Y rb mb ls (decS v :: r) → Calls Tryz.prog 103 #[.pointer (some ⟨rb, 0, none⟩)] Y fun e w' => e = .returned (.int .i64 v) ∧ RdT w' rb mb ls r ∧ Turned Y w' (fun k => k = rb)) := fun v hv Y ls r hY hR => number_c hY hrb hR (numOf_dec hv) hv.1 hv.2
  have HCF : Hid (∀ Y ls, RdT Y rb mb ls rest → Calls Tryz.prog 121 #[.pointer (some ⟨rb, 0, none⟩), .string ⟨#[103, 105, 118, 101, 115]⟩] Y fun e w' => e = .returned (.bool gv) ∧ RdT w' rb mb ls [] ∧ Turned Y w' (fun k => k = rb)) := fun Y ls hR => by
    cases gv with
    | true =>
      simp only [if_true] at hg
      rw [hg] at hR
      exact flag_yes hR rfl
    | false =>
      simp only [Bool.false_eq_true, if_false] at hg
      rw [hg] at hR
      refine (flag_none hR _).mono ?_
      rintro e w' ⟨rfl, rfl⟩
      exact ⟨rfl, hR, Turned.refl _ _⟩
  have HX : Hid (∀ Y, Turned w Y (fun k => k = rb) → Tabs Y) := fun Y hY => hX.turned hY hrb
  have HFO : Hid (∀ Y, Turned w Y (fun k => k = rb) → FormsIn Y) := fun Y hY => hF.turned hY hrb
  have HM : Hid (∀ Y, Turned w Y (fun k => k = rb) → MaxIn Y) := fun Y hY => hM.turned hY (by omega)
  have HSL : Hid (∀ s ∈ sls, I64 s.size ∧ I64 s.align) := hsl
  have HSN : Hid (sls.length ≤ 1000000) := hsn
  have HXS : Hid (∀ x ∈ xs, RtI x) := hxs
  have HXN : Hid (xs.length ≤ 1000000) := hxn
  have HEND : Hid (opFind (firstW ls2) = none) := hend
  have HNS : Hid (((firstW (xs.map lnI ++ ls2)).toList == slotWd.toList) = false) := by
    show (_ == _) = false
    cases xs with
    | nil => exact hns
    | cons x r =>
      show ((cutW (lnI x)).toList == _) = false
      rw [cut_i (hxs x List.mem_cons_self)]
      exact hd_slot (hxs x List.mem_cons_self)
  clear hX hF hM hR hp ht hg b1 hsl hsn hxs hxn hend hns
  go_enter Tryz.func102, Tryz.ntmps102
  go_upto_region 1 with (fail)
  refine (?_ : Code.wp _ _ _ _ (w.alloc (.cells zFn TFn)))
  generalize w.alloc (.cells zFn TFn) = W1 at *
  go_upto_region 2 with (first
    | (go_at_call 119; refine cW.mono ?_; rintro e w1 ⟨rfl, hR1, hT1⟩; have HT1 : Hid (Turned w w1 (fun k => k = rb)) := (Turned.of_below HB1.out _).trans hT1 (fun _ _ h => h); have cN1 := HCN1.out w1 _ _ (HX.out _ HT1.out) hR1; have HZ1 : Hid (w1.heap[w.heap.size]? = some (.cells zFn TFn (0, 0))) := blk_t HN1.out hT1 (by omega); clear hR1 hT1 cW)
    | (go_at_call 103; refine cN1.mono ?_; rintro e w2 ⟨rfl, hR2, hT2⟩; have HT2 : Hid (Turned w w2 (fun k => k = rb)) := HT1.out.trans hT2 (fun _ _ h => h); have cN2 := HCN2.out w2 _ _ (HX.out _ HT2.out) hR2; have HZ2 : Hid (w2.heap[w.heap.size]? = some (.cells zFn TFn (0, 0))) := blk_t HZ1.out hT2 (by omega); clear hR2 hT2 cN1)
    | (go_at_call 103; refine cN2.mono ?_; rintro e w3 ⟨rfl, hR3, hT3⟩; have HT3 : Hid (Turned w w3 (fun k => k = rb)) := HT2.out.trans hT3 (fun _ _ h => h); have cFl := HCF.out w3 _ hR3; have HZ3 : Hid (w3.heap[w.heap.size]? = some (.cells zFn TFn (0, 0))) := blk_t HZ2.out hT3 (by omega); clear hR3 hT3 cN2)
    | (go_at_call 121; refine cFl.mono ?_; rintro e w4 ⟨rfl, hR4, hT4⟩; have HR4 : Hid (RdT w4 rb mb (sls.map lnS ++ (xs.map lnI ++ ls2)) []) := hR4; have HT4 : Hid (Turned w w4 (fun k => k = rb)) := HT3.out.trans hT4 (fun _ _ h => h); have HZ4 : Hid (w4.heap[w.heap.size]? = some (.cells zFn TFn (0, 0))) := blk_t HZ3.out hT4 (by omega); have hold := heap_r0 w4 (.cells zFn TFn); clear hR4 hT4 cFl)
    | ((with_reducible apply step_store hold); rfl; rfl; kernel_rfl; rfl; kernel_rfl; rw [World.setRow_alloc_new])
    | fail)
  have b5 := below1 w4 (.cells #[.string nm, .int .i64 pr, .int .i64 tp, .bool gv, .slice none 0 0, .slice none 0 0] TFn)
  have HF5 : Hid ((w4.alloc (.cells #[.string nm, .int .i64 pr, .int .i64 tp, .bool gv, .slice none 0 0, .slice none 0 0] TFn)).heap[w4.heap.size]? = some (.cells #[.string nm, .int .i64 pr, .int .i64 tp, .bool gv, .slice none 0 0, .slice none 0 0] TFn (0, 0))) := heap_r0 w4 _
  have HZ5 : Hid ((w4.alloc (.cells #[.string nm, .int .i64 pr, .int .i64 tp, .bool gv, .slice none 0 0, .slice none 0 0] TFn)).heap[w.heap.size]? = some (.cells zFn TFn (0, 0))) := blk_b HZ4.out b5
  have HR5 : Hid (RdT (w4.alloc (.cells #[.string nm, .int .i64 pr, .int .i64 tp, .bool gv, .slice none 0 0, .slice none 0 0] TFn)) rb mb (sls.map lnS ++ (xs.map lnI ++ ls2)) []) := HR4.out.below b5
  have HT5 : Hid (Turned w (w4.alloc (.cells #[.string nm, .int .i64 pr, .int .i64 tp, .bool gv, .slice none 0 0, .slice none 0 0] TFn)) (fun k => k = rb)) := HT4.out.bel b5
  have hfb : w.heap.size < w4.heap.size := lt_of_heap HZ4.out
  generalize w4.alloc (.cells #[.string nm, .int .i64 pr, .int .i64 tp, .bool gv, .slice none 0 0, .slice none 0 0] TFn) = W5 at *
  generalize w4.heap.size = fb at *
  clear HT1 HZ1 HT2 HZ2 HT3 HZ3 HR4 HT4 HZ4 b5 hold HCN1 HCN2 HCF HN1 HB1
  have cD := done_c HR5.out
  go_wp2_with (first | (go_at_call 104; refine cD.mono ?_; rintro e w' ⟨rfl, hw⟩; rw [hw]; clear hw w' cD) | fail)
  go_loopw [18] (fun s18 wr => ∃ (k : Nat) (sp : Option Addr) (sc : Nat), k ≤ sls.length ∧ Hid (wr.heap[fb]? = some (.cells #[.string nm, .int .i64 pr, .int .i64 tp, .bool gv, .slice sp k sc, .slice none 0 0] TFn (0, 0))) ∧ Hid (wr.ownsRow w.heap.size TSl 2 (.slice sp k sc) k (flatC slC (sls.take k))) ∧ Hid (wr.heap[w.heap.size]? = some (.cells zFn TFn (0, 0))) ∧ Hid (RdT wr rb mb ((sls.drop k).map lnS ++ (xs.map lnI ++ ls2)) []) ∧ Hid (Turned w wr (fun k => k = rb))) (fun _ wr => lenAt wr rb)
  case atStart => exact ⟨0, none, 0, Nat.zero_le _, HF5, ⟨rfl, Or.inl ⟨rfl, rfl⟩⟩, HZ5, HR5, HT5⟩
  case round =>
    obtain ⟨k, sp, sc, hk, HFB, HOW, HZB, HRR, HTR⟩ := hrel
    by_cases hlt : k < sls.length
    · obtain ⟨s, hs⟩ : ∃ s, sls[k]? = some s := ⟨_, List.getElem?_eq_getElem hlt⟩
      have hln : (sls.drop k).map lnS ++ (xs.map lnI ++ ls2) = lnS s :: ((sls.drop (k + 1)).map lnS ++ (xs.map lnI ++ ls2)) := by rw [drop_cons hs]; rfl
      have HRR2 : Hid (RdT wr rb mb (lnS s :: ((sls.drop (k + 1)).map lnS ++ (xs.map lnI ++ ls2))) []) := by show RdT _ _ _ _ _; rw [← hln]; exact HRR.out
      have HLN : Hid (lenAt wr rb = ((sls.drop (k + 1)).map lnS ++ (xs.map lnI ++ ls2)).length + 1) := lenAt_eq HRR2.out
      have hss := HSL.out s (List.mem_of_getElem? hs)
      have HS1 : Hid (I64 s.size) := hss.1
      have HS2 : Hid (I64 s.align) := hss.2
      have HTK : Hid (flatC slC (sls.take (k + 1)) = flatC slC (sls.take k) ++ [.int .i64 s.size, .int .i64 s.align]) := by show _ = _; rw [take_succ hs, flatC_snoc]; rfl
      have hkl : Hid (k ≤ 1000000) := Nat.le_trans hk HSN.out
      have HEQ : Hid (∃ r, r = (sls.drop (k + 1)).map lnS ++ (xs.map lnI ++ ls2)) := ⟨_, rfl⟩
      obtain ⟨lr, hlr⟩ := HEQ.out
      rw [← hlr] at HRR2 HLN
      have HLR : Hid (lr = (sls.drop (k + 1)).map lnS ++ (xs.map lnI ++ ls2)) := hlr
      have cB := begins_yes HRR2.out (HM.out _ HTR.out) (cut_s s)
      rw [split_s] at cB
      unfold slotWd at cB
      clear hlr hln hs hss HRR HEQ hk
      go_upto_region 4 with (first | (go_at_call 100; refine cB.mono ?_; rintro e w8 ⟨rfl, hR8, hT8⟩; have HR8 : Hid (RdT w8 rb mb lr [decS s.size, decS s.align]) := hR8; have HT8 : Hid (Turned w w8 (fun k => k = rb)) := HTR.out.trans hT8 (fun _ _ h => h); have HF8 : Hid (w8.heap[fb]? = some (.cells #[.string nm, .int .i64 pr, .int .i64 tp, .bool gv, .slice sp k sc, .slice none 0 0] TFn (0, 0))) := blk_t HFB.out hT8 (by omega); have HZ8 : Hid (w8.heap[w.heap.size]? = some (.cells zFn TFn (0, 0))) := blk_t HZB.out hT8 (by omega); have HO8 : Hid (w8.ownsRow w.heap.size TSl 2 (.slice sp k sc) k (flatC slC (sls.take k))) := own_rd HOW.out hT8 HRR2.out (by decide); clear hR8 hT8 cB) | fail)
      obtain ⟨i0, hi, hz0, hz1, hz2⟩ := info_parts infoSlt
      have m4 : w8.cell? ⟨fb, 4, none⟩ = some (.slice sp k sc) := (Lib.cell_of_heap HF8.out 4).trans rfl
      have bd : Below w8.heap.size w8 w8.drew := (Below.refl _ _).drew
      have HTd : Hid (Turned w w8.drew (fun k => k = rb)) := HT8.out.bel bd
      have HC1 : Hid (Calls Tryz.prog 103 #[.pointer (some ⟨rb, 0, none⟩)] w8.drew fun e w' => e = .returned (.int .i64 s.size) ∧ RdT w' rb mb lr [decS s.align] ∧ Turned w8.drew w' (fun k => k = rb)) := HCN.out s.size HS1.out _ _ _ (HX.out _ HTd.out) (HR8.out.below bd)
      clear bd
      go_region_law (first
        | (refine step_call_fn rfl 103 #[.pointer (some ⟨rb, 0, none⟩)] (by kernel_rfl) HC1.out ?_; rintro e w9 ⟨rfl, hR9, hT9⟩; have hT9' : Turned w8 w9 (fun k => k = rb) := (Turned.of_below (Below.refl _ w8).drew _).trans hT9 (fun _ _ h => h); have hF9 := blk_t HF8.out hT9' (by omega); have c9 : w9.cell? ⟨fb, 4, none⟩ = some (.slice sp k sc) := (Lib.cell_of_heap hF9 4).trans rfl; have HF9 : Hid (w9.heap[fb]? = some (.cells #[.string nm, .int .i64 pr, .int .i64 tp, .bool gv, .slice sp k sc, .slice none 0 0] TFn (0, 0))) := hF9; have HZ9 : Hid (w9.heap[w.heap.size]? = some (.cells zFn TFn (0, 0))) := blk_t HZ8.out hT9' (by omega); have HO9 : Hid (w9.ownsRow w.heap.size TSl 2 (.slice sp k sc) k (flatC slC (sls.take k))) := own_rd HO8.out hT9' HR8.out (by decide); have HR9 : Hid (RdT w9 rb mb lr [decS s.align]) := hR9; have HT9 : Hid (Turned w w9 (fun k => k = rb)) := HT8.out.trans hT9' (fun _ _ h => h); have HC2 : Hid (Calls Tryz.prog 103 #[.pointer (some ⟨rb, 0, none⟩)] w9 fun e w' => e = .returned (.int .i64 s.align) ∧ RdT w' rb mb lr [] ∧ Turned w9 w' (fun k => k = rb)) := HCN.out s.align HS2.out _ _ _ (HX.out _ HT9.out) hR9; clear hR9 hT9 hT9' hF9; refine ⟨_, rfl, ?_⟩)
        | (refine step_call_fn rfl 103 #[.pointer (some ⟨rb, 0, none⟩)] (by kernel_rfl) HC2.out ?_; rintro e w10 ⟨rfl, hR10, hT10⟩; have hF10 := blk_t HF9.out hT10 (by omega); have c10 : w10.cell? ⟨fb, 4, none⟩ = some (.slice sp k sc) := (Lib.cell_of_heap hF10 4).trans rfl; have b10 := below1 w10 (.cells #[.int .i64 s.size, .int .i64 s.align] TSl); have hF11 := blk_b hF10 b10; have c11 : (w10.alloc (.cells #[.int .i64 s.size, .int .i64 s.align] TSl)).cell? ⟨fb, 4, none⟩ = some (.slice sp k sc) := (Lib.cell_of_heap hF11 4).trans rfl; have HF11 : Hid ((w10.alloc (.cells #[.int .i64 s.size, .int .i64 s.align] TSl)).heap[fb]? = some (.cells #[.string nm, .int .i64 pr, .int .i64 tp, .bool gv, .slice sp k sc, .slice none 0 0] TFn (0, 0))) := hF11; have HZ11 : Hid ((w10.alloc (.cells #[.int .i64 s.size, .int .i64 s.align] TSl)).heap[w.heap.size]? = some (.cells zFn TFn (0, 0))) := blk_b (blk_t HZ9.out hT10 (by omega)) b10; have HO11 : Hid ((w10.alloc (.cells #[.int .i64 s.size, .int .i64 s.align] TSl)).ownsRow w.heap.size TSl 2 (.slice sp k sc) k (flatC slC (sls.take k))) := own_below (own_rd HO9.out hT10 HR9.out (by decide)) b10; have HR11 : Hid (RdT (w10.alloc (.cells #[.int .i64 s.size, .int .i64 s.align] TSl)) rb mb lr []) := hR10.below b10; have HT11 : Hid (Turned w (w10.alloc (.cells #[.int .i64 s.size, .int .i64 s.align] TSl)) (fun k => k = rb)) := (HT9.out.trans hT10 (fun _ _ h => h)).bel b10; clear hR10 hT10 hF10 hF11 b10; refine ⟨_, rfl, ?_⟩)
        | (refine step_append_own_at rfl (.tmp 20) (.tmp 26) 29 rfl w.heap.size TSl i0 _ 2 16 Tryz.underlying29 hi hz0 hz1 hz2 rfl (by decide) _ k _ rfl HO11.out ⟨w10.heap.size, 0, none⟩ 1 1 (#[.int .i64 s.size, .int .i64 s.align] : Array Value).toList rfl rfl (cells_new _ _ _) (by simp [Value.oneCell']) (by have := hkl.out; unfold maxLen; omega) (by have := hkl.out; omega) (HT11.out.size) ?_; intro v' w12 hown hgrow hnil hat; obtain ⟨p', cap', rfl⟩ := slice_of_own hown; have hF12 : w12.heap[fb]? = some (.cells #[.string nm, .int .i64 pr, .int .i64 tp, .bool gv, .slice sp k sc, .slice none 0 0] TFn (0, 0)) := (hgrow.block fb (lt_of_heap HF11.out) (fun e => by obtain ⟨_, cur, hcur⟩ := ownsRow_at HO11.out e.symm; rw [HF11.out] at hcur; injection hcur with q1; injection q1 with _ q2; exact absurd q2 (by decide))).trans HF11.out; have c12 : w12.cell? ⟨fb, 4, none⟩ = some (.slice sp k sc) := (Lib.cell_of_heap hF12 4).trans rfl; have f12 := frozen_of hF12 4; have HF12 : Hid (w12.heap[fb]? = some (.cells #[.string nm, .int .i64 pr, .int .i64 tp, .bool gv, .slice sp k sc, .slice none 0 0] TFn (0, 0))) := hF12; have HOW2 : Hid (World.ownsRow _ _ _ _ _ _ _) := hown; have HGR : Hid (World.grownBy _ _ _) := hgrow; clear hown hgrow hnil hat hF12))
      all_goals
        have t13 : Turned w12 (w12.setCell ⟨fb, 4, none⟩ (.slice p' (k + 1) cap')) (fun k => k = fb) := Turned.setCell w12 fb 4 _ rfl
        have tg : Turned (w10.alloc (.cells #[.int .i64 s.size, .int .i64 s.align] TSl)) w12 (fun k_1 => (Value.slice sp k sc).ownBlock = some k_1) := Turned.of_grown HGR.out (fun k e => e)
        have hR12 : RdT w12 rb mb lr [] := HR11.out.offS (ty := TSl) tg (fun k hk => by obtain ⟨_, cur, hcur⟩ := ownsRow_at HO11.out hk; exact ⟨cur, hcur⟩) (by decide) (by decide)
        have hR13 := hR12.off t13 HF12.out (by decide) (by decide)
        have hZ12 : w12.heap[w.heap.size]? = some (.cells zFn TFn (0, 0)) := blk_t HZ11.out tg (fun hk => by
          obtain ⟨_, cur, hcur⟩ := ownsRow_at HO11.out hk
          rw [HZ11.out] at hcur; injection hcur with q1; injection q1 with _ q2; exact absurd q2 (by decide))
        have hT12 : Turned w w12 (fun k => k = rb) := HT11.out.trans tg (fun i hi hk => by have := (ownsRow_at HO11.out hk).1; omega)
        have HR13 : Hid (RdT (w12.setCell ⟨fb, 4, none⟩ (.slice p' (k + 1) cap')) rb mb lr []) := hR13
        have HF13 : Hid ((w12.setCell ⟨fb, 4, none⟩ (.slice p' (k + 1) cap')).heap[fb]? = some (.cells #[.string nm, .int .i64 pr, .int .i64 tp, .bool gv, .slice p' (k + 1) cap', .slice none 0 0] TFn (0, 0))) := heap_setCell (j := 4) HF12.out _
        have HZ13 : Hid ((w12.setCell ⟨fb, 4, none⟩ (.slice p' (k + 1) cap')).heap[w.heap.size]? = some (.cells zFn TFn (0, 0))) := blk_t hZ12 t13 (by omega)
        have HT13 : Hid (Turned w (w12.setCell ⟨fb, 4, none⟩ (.slice p' (k + 1) cap')) (fun k => k = rb)) := hT12.trans t13 (fun i hi e => by omega)
        have HO13 : Hid ((w12.setCell ⟨fb, 4, none⟩ (.slice p' (k + 1) cap')).ownsRow w.heap.size TSl 2 (.slice p' (k + 1) cap') (k + 1) (flatC slC (sls.take (k + 1)))) := by
          show World.ownsRow _ _ _ _ _ _ _
          rw [HTK.out]
          exact own_apart HOW2.out t13 HF12.out (by decide)
        have cD := done_c hR13
        clear t13 tg hR12 hR13 hZ12 hT12
      all_goals go_wp2_with (first | (go_at_call 104; refine cD.mono ?_; rintro e w' ⟨rfl, hw⟩; rw [hw]; clear hw w' cD) | fail)
      all_goals
        refine ⟨⟨k + 1, p', cap', by omega, HF13, HO13, HZ13, Lib.hid (by rw [← HLR.out]; exact HR13.out), HT13⟩, ?_⟩
        rw [HLN.out, lenAt_eq HR13.out]
        omega
    · obtain rfl : k = sls.length := by omega
      have hln : (sls.drop sls.length).map lnS ++ (xs.map lnI ++ ls2) = xs.map lnI ++ ls2 := by rw [List.drop_length]; rfl
      have HR5' : Hid (RdT wr rb mb (xs.map lnI ++ ls2) []) := by show RdT _ _ _ _ _; rw [← hln]; exact HRR.out
      have hos := HOW.out
      rw [List.take_length] at hos
      have HOS : Hid (wr.ownsRow w.heap.size TSl 2 (.slice sp sls.length sc) sls.length (flatC slC sls)) := hos
      clear hln HRR hos HOW
      have cB := begins_no HR5'.out (HM.out _ HTR.out) HNS.out
      unfold slotWd at cB
      go_wp2_with (first | (go_at_call 100; refine cB.mono ?_; rintro e w6 ⟨rfl, hb6⟩; have HR6 : Hid (RdT w6 rb mb (xs.map lnI ++ ls2) []) := HR5'.out.below hb6; have HT6 : Hid (Turned w w6 (fun k => k = rb)) := HTR.out.bel hb6; have HF6 : Hid (w6.heap[fb]? = some (.cells #[.string nm, .int .i64 pr, .int .i64 tp, .bool gv, .slice sp sls.length sc, .slice none 0 0] TFn (0, 0))) := blk_b HFB.out hb6; have HZ6 : Hid (w6.heap[w.heap.size]? = some (.cells zFn TFn (0, 0))) := blk_b HZB.out hb6; have HOS6 : Hid (w6.ownsRow w.heap.size TSl 2 (.slice sp sls.length sc) sls.length (flatC slC sls)) := own_below HOS.out hb6; clear hb6 cB) | fail)
      clear HFB HZB HR5' HTR HNS HOS
      go_loopw [5] (fun s5 wr => ∃ (k : Nat) (cd : List Iw) (vp : Option Addr) (vc : Nat), k ≤ xs.length ∧ cd.length = k ∧ Hid (cd.map Iw.x = xs.take k) ∧ Hid (∀ i ∈ cd, IwOwn w.heap.size wr i) ∧ Hid (wr.heap[fb]? = some (.cells #[.string nm, .int .i64 pr, .int .i64 tp, .bool gv, .slice sp sls.length sc, .slice vp k vc] TFn (0, 0))) ∧ Hid (wr.ownsRow w.heap.size TIn 12 (.slice vp k vc) k (flatC iwC cd)) ∧ Hid (wr.ownsRow w.heap.size TSl 2 (.slice sp sls.length sc) sls.length (flatC slC sls)) ∧ Hid (wr.heap[w.heap.size]? = some (.cells zFn TFn (0, 0))) ∧ Hid (RdT wr rb mb ((xs.drop k).map lnI ++ ls2) []) ∧ Hid (Turned w wr (fun k => k = rb))) (fun _ wr => lenAt wr rb)
      case atStart => exact ⟨0, [], none, 0, Nat.zero_le _, rfl, rfl, (fun i hi => by cases hi), HF6, ⟨rfl, Or.inl ⟨rfl, rfl⟩⟩, HOS6, HZ6, HR6, HT6⟩
      case round =>
        rename World => wr
        obtain ⟨k, cd, vp, vc, hk, hcd, HCD, HIW, HFB, HOW, HOS, HZB, HRR, HTR⟩ := hrel
        have HTW : Hid (w.heap.size ≤ wr.heap.size) := HTR.out.size
        obtain ⟨ls', hls'⟩ : ∃ ls', ls' = (xs.drop k).map lnI ++ ls2 := ⟨_, rfl⟩
        rw [← hls'] at HRR
        have hCF : ∀ Y, SH wr Y → Calls Tryz.prog 118 #[.pointer (some ⟨rb, 0, none⟩)] Y fun e w' => e = .returned (.string (firstW ls')) ∧ Below Y.heap.size Y w' := fun Y h => first_c (HRR.out.below h) ((HM.out _ HTR.out).below h)
        have HCF : Hid (∀ Y, SH wr Y → Calls Tryz.prog 118 #[.pointer (some ⟨rb, 0, none⟩)] Y fun e w' => e = .returned (.string (firstW ls')) ∧ Below Y.heap.size Y w') := hCF
        obtain ⟨rlp, rlc, rwp, rwc, hrg, _, _⟩ := HRR.out.ex
        have L2 : ∀ Y, SH wr Y → Y.cell? ⟨rb, 2, none⟩ = some (.map (some mb)) := fun Y h => h.cell hrg (Lib.cell_of_heap hrg 2)
        have hfs : (firstW ls').size ≤ maxLen := by
          cases ls' with
          | nil => show (0 : Nat) ≤ maxLen; omega
          | cons l r =>
            have h1 := HRR.out.ll.2 l List.mem_cons_self
            have h2 := cutW_size l
            show (cutW l).size ≤ maxLen
            unfold maxLen
            omega
        clear hCF
        by_cases hlt : k < xs.length
        · obtain ⟨y, hy⟩ : ∃ y, xs[k]? = some y := ⟨_, List.getElem?_eq_getElem hlt⟩
          have hry := HXS.out y (List.mem_of_getElem? hy)
          obtain ⟨r, hr0⟩ : ∃ r, r = (xs.drop (k + 1)).map lnI ++ ls2 := ⟨_, rfl⟩
          have hl2 : ls' = lnI y :: r := by rw [hls', hr0, drop_cons hy]; rfl
          subst hl2
          obtain ⟨op, hop⟩ : ∃ op, op = y.op := ⟨_, rfl⟩
          obtain ⟨bin, hbin⟩ : ∃ bin, bin = y.bin := ⟨_, rfl⟩
          have hmu := op_of_rd hry
          rw [← hop, ← hbin] at hmu
          have hfw : firstW (lnI y :: r) = headW y := cut_i hry
          have LK : ∀ Y, SH wr Y → (Instr.lookup TMi (.map (some mb)) (.string (firstW (lnI y :: r))) true).run Tryz.prog Y = .ok (.tuple #[inV (bareI op bin), .bool true]) Y := fun Y h => (HRR.out.mp.below h).some hfs (by rw [hfw]; exact hmu.1) (fun z hz => hmu.2 z (by rw [← hfw]; exact hz))
          simp only [inV, bareI, inCells] at LK
          have HXARGS : Hid (∀ Y, Tabs Y → FormsIn Y → RdT Y rb mb r (fldW (fldsOf y) y) → Calls Tryz.prog 122 #[.pointer (some ⟨rb, 0, none⟩), .agg #[.int .i64 op, .int .i64 bin, .int .i64 (-1), .int .i64 0, .int .u32 0, .int .i64 0, .int .u32 0, .int .i64 0, .int .i64 0, .int .i64 0, .bool false, .slice none 0 0]] Y fun e w' => ∃ ap ac, e = .returned (.agg #[.int .i64 y.op, .int .i64 y.bin, .int .i64 y.d, .int .i64 y.a.kind, .int .u32 y.a.n, .int .i64 y.b.kind, .int .u32 y.b.n, .int .i64 y.n, .int .i64 y.off, .int .i64 y.width, .bool y.sg, .slice ap y.args.length ac]) ∧ w'.ownsRow Y.heap.size TAr 2 (.slice ap y.args.length ac) y.args.length (argsC y.args) ∧ RdT w' rb mb r [] ∧ Turned Y w' (fun k => k = rb)) :=
            fun Y h1 h2 h3 => by
              have h := instr_c h1 h2 hrb hry h3
              rw [← hop, ← hbin] at h
              refine h.mono ?_
              rintro e w' ⟨s, rfl, ⟨ap, ac, rfl, han, hao⟩, hR, hT⟩
              exact ⟨ap, ac, rfl, hao, hR, hT⟩
          have HLN : Hid (lenAt wr rb = r.length + 1) := lenAt_eq HRR.out
          have hcdl : Hid (k ≤ 1000000) := Nat.le_trans hk HXN.out
          have HR0 : Hid (r = (xs.drop (k + 1)).map lnI ++ ls2) := hr0
          have HCT : Hid (cutW (lnI y) = headW y) := cut_i hry
          have HSP : Hid ((splitL (lnI y) 32).tail = fldW (fldsOf y) y) := split_i hry
          have HTK : Hid (xs.take (k + 1) = xs.take k ++ [y]) := take_succ hy
          have HCL : Hid (cd.length = k) := hcd
          clear hmu hls' hr0 hry hy hop hbin hcd hk hfw
          go_upto_region 6 with (fail)
          go_cut [4, 5] from 31 to 40 (fun s4 s5 wx => ∃ g4, s4 = .pointer (some ⟨g4, 0, none⟩) ∧ s5 = .bool true ∧ Hid (wx.heap[g4]? = some (.cells #[.int .i64 op, .int .i64 bin, .int .i64 (-1), .int .i64 0, .int .u32 0, .int .i64 0, .int .u32 0, .int .i64 0, .int .i64 0, .int .i64 0, .bool false, .slice none 0 0] TIn (0, 0))) ∧ Hid (wr.heap.size ≤ g4) ∧ Hid (SH wr wx))
          case first =>
            have HSH : SH wr wr := SH.refl wr
            generalize firstW (lnI y :: r) = fw at *
            have HSD : SH wr wr.drew := SH.drew HSH
            have HSA : SH wr (wr.alloc (.cells #[.int .i64 0, .int .i64 0, .int .i64 0, .int .i64 0, .int .u32 0, .int .i64 0, .int .u32 0, .int .i64 0, .int .i64 0, .int .i64 0, .bool false, .slice none 0 0] TIn)).drew := SH.drew (SH.alloc HSH _)
            have HNA : Hid ((wr.alloc (.cells #[.int .i64 0, .int .i64 0, .int .i64 0, .int .i64 0, .int .u32 0, .int .i64 0, .int .u32 0, .int .i64 0, .int .i64 0, .int .i64 0, .bool false, .slice none 0 0] TIn)).drew.heap[wr.heap.size]? = some (.cells #[.int .i64 0, .int .i64 0, .int .i64 0, .int .i64 0, .int .u32 0, .int .i64 0, .int .u32 0, .int .i64 0, .int .i64 0, .int .i64 0, .bool false, .slice none 0 0] TIn (0, 0))) := heap_r0 wr _
            go_region_held3 (fun Y => SH wr Y) (with_reducible first | assumption | (refine SH.drew ?_; assumption) | (refine SH.alloc ?_ _; assumption) | (refine SH.drew ?_; refine SH.alloc ?_ _; assumption) | ((iterate 12 refine SH.set1 ?_); assumption)) (first
              | (go_at_call 118; (with_reducible refine (HCF.out wr.drew HSD).mono ?_); rintro e y1 ⟨rfl, hy1⟩; have HY1 : SH wr y1 := SH.below HSD hy1; have HYS : wr.heap.size ≤ y1.heap.size := Below.size HY1; clear hy1)
              | (go_at_call 118; (with_reducible refine (HCF.out (wr.alloc (.cells #[.int .i64 0, .int .i64 0, .int .i64 0, .int .i64 0, .int .u32 0, .int .i64 0, .int .u32 0, .int .i64 0, .int .i64 0, .int .i64 0, .bool false, .slice none 0 0] TIn)).drew HSA).mono ?_); rintro e y1 ⟨rfl, hy1⟩; have HY1 : SH wr y1 := SH.below HSA hy1; have hn1 := blk_b HNA.out hy1; obtain ⟨z0, z1, z2, z3, z4, z5, z6, z7, z8, z9, z10, z11⟩ := cells12 hn1; have fz := frozen_of hn1; have HN1 : Hid (y1.heap[wr.heap.size]? = some (.cells #[.int .i64 0, .int .i64 0, .int .i64 0, .int .i64 0, .int .u32 0, .int .i64 0, .int .u32 0, .int .i64 0, .int .i64 0, .int .i64 0, .bool false, .slice none 0 0] TIn (0, 0))) := hn1; clear hy1 hn1))
            all_goals go_wp2_with fail
            all_goals go_meet
            all_goals refine ⟨_, rfl, rfl, Lib.hid ?_, Lib.hid ?_, show SH wr _ by with_reducible assumption⟩
            all_goals first
              | (with_reducible exact HYS)
              | (with_reducible exact Nat.le_refl _)
              | (with_reducible exact set12 HN1.out _ _ _ _ _ _ _ _ _ _ _ _)
              | exact heap_r0 y1 _
          case rest =>
            obtain ⟨g4, rfl, rfl, HG4, HGE, HSC⟩ := hcut
            rename World => wc
            have nt := not_t
            have HRc : Hid (RdT wc rb mb (lnI y :: r) []) := HRR.out.below HSC.out
            have HTc : Hid (Turned w wc (fun k => k = rb)) := HTR.out.bel HSC.out
            have HFc : Hid (wc.heap[fb]? = some (.cells #[.string nm, .int .i64 pr, .int .i64 tp, .bool gv, .slice sp sls.length sc, .slice vp k vc] TFn (0, 0))) := blk_b HFB.out HSC.out
            have HZc : Hid (wc.heap[w.heap.size]? = some (.cells zFn TFn (0, 0))) := blk_b HZB.out HSC.out
            have HOc : Hid (wc.ownsRow w.heap.size TIn 12 (.slice vp k vc) k (flatC iwC cd)) := own_below HOW.out HSC.out
            have HSc : Hid (wc.ownsRow w.heap.size TSl 2 (.slice sp sls.length sc) sls.length (flatC slC sls)) := own_below HOS.out HSC.out
            have HIc : Hid (∀ i ∈ cd, IwOwn w.heap.size wc i) := fun i hi => own_below (HIW.out i hi) HSC.out
            have cF1 := first_c HRc.out (HM.out _ HTc.out)
            have e1 : firstW (lnI y :: r) = cutW (lnI y) := rfl
            rw [e1] at cF1
            clear LK L2 hrg HFB HZB HOW HOS HIW HRR HTR HCF hfs e1
            go_upto_region 10 with (first
              | (go_at_call 118; refine cF1.mono ?_; rintro e w7 ⟨rfl, hb7⟩; have HT7 : Hid (Turned w w7 (fun k => k = rb)) := HTc.out.bel hb7; have HR7 : Hid (RdT w7 rb mb (lnI y :: r) []) := HRc.out.below hb7; have cB := begins_yes HR7.out (HM.out _ HT7.out) (rfl : cutW (lnI y) = cutW (lnI y)); rw [HSP.out] at cB; have HF7 : Hid (w7.heap[fb]? = some (.cells #[.string nm, .int .i64 pr, .int .i64 tp, .bool gv, .slice sp sls.length sc, .slice vp k vc] TFn (0, 0))) := blk_b HFc.out hb7; have HZ7 : Hid (w7.heap[w.heap.size]? = some (.cells zFn TFn (0, 0))) := blk_b HZc.out hb7; have HO7 : Hid (w7.ownsRow w.heap.size TIn 12 (.slice vp k vc) k (flatC iwC cd)) := own_below HOc.out hb7; have HS7 : Hid (w7.ownsRow w.heap.size TSl 2 (.slice sp sls.length sc) sls.length (flatC slC sls)) := own_below HSc.out hb7; have HI7 : Hid (∀ i ∈ cd, IwOwn w.heap.size w7 i) := fun i hi => own_below (HIc.out i hi) hb7; have HG7 : Hid (w7.heap[g4]? = some (.cells #[.int .i64 op, .int .i64 bin, .int .i64 (-1), .int .i64 0, .int .u32 0, .int .i64 0, .int .u32 0, .int .i64 0, .int .i64 0, .int .i64 0, .bool false, .slice none 0 0] TIn (0, 0))) := blk_b HG4.out hb7; clear hb7 cF1)
              | (go_at_call 100; refine cB.mono ?_; rintro e w8 ⟨rfl, hR8, hT8⟩; have HR8 : Hid (RdT w8 rb mb r (fldW (fldsOf y) y)) := hR8; have HT8 : Hid (Turned w w8 (fun k => k = rb)) := HT7.out.trans hT8 (fun _ _ h => h); have HF8 : Hid (w8.heap[fb]? = some (.cells #[.string nm, .int .i64 pr, .int .i64 tp, .bool gv, .slice sp sls.length sc, .slice vp k vc] TFn (0, 0))) := blk_t HF7.out hT8 (by omega); have HZ8 : Hid (w8.heap[w.heap.size]? = some (.cells zFn TFn (0, 0))) := blk_t HZ7.out hT8 (by omega); have HG8 : Hid (w8.heap[g4]? = some (.cells #[.int .i64 op, .int .i64 bin, .int .i64 (-1), .int .i64 0, .int .u32 0, .int .i64 0, .int .u32 0, .int .i64 0, .int .i64 0, .int .i64 0, .bool false, .slice none 0 0] TIn (0, 0))) := blk_t HG7.out hT8 (by have := HGE.out; have := HTW.out; omega); have HO8 : Hid (w8.ownsRow w.heap.size TIn 12 (.slice vp k vc) k (flatC iwC cd)) := own_rd HO7.out hT8 HR7.out (by decide); have HS8 : Hid (w8.ownsRow w.heap.size TSl 2 (.slice sp sls.length sc) sls.length (flatC slC sls)) := own_rd HS7.out hT8 HR7.out (by decide); have HI8 : Hid (∀ i ∈ cd, IwOwn w.heap.size w8 i) := fun i hi => own_rd (HI7.out i hi) hT8 HR7.out (by decide); clear hR8 hT8 cB)
              | fail)
            obtain ⟨i0, hi, hz0, hz1, hz2⟩ := info_parts infoIn
            have m5 : w8.cell? ⟨fb, 5, none⟩ = some (.slice vp k vc) := (Lib.cell_of_heap HF8.out 5).trans rfl
            obtain ⟨x0, x1, x2, x3, x4, x5, x6, x7, x8, x9, x10, x11⟩ := cells12 HG8.out
            have bd : Below w8.heap.size w8 w8.drew := (Below.refl _ _).drew
            have HTd : Hid (Turned w w8.drew (fun k => k = rb)) := HT8.out.bel bd
            have HCI : Hid (Calls Tryz.prog 122 #[.pointer (some ⟨rb, 0, none⟩), .agg #[.int .i64 op, .int .i64 bin, .int .i64 (-1), .int .i64 0, .int .u32 0, .int .i64 0, .int .u32 0, .int .i64 0, .int .i64 0, .int .i64 0, .bool false, .slice none 0 0]] w8.drew fun e w' => ∃ ap ac, e = .returned (.agg #[.int .i64 y.op, .int .i64 y.bin, .int .i64 y.d, .int .i64 y.a.kind, .int .u32 y.a.n, .int .i64 y.b.kind, .int .u32 y.b.n, .int .i64 y.n, .int .i64 y.off, .int .i64 y.width, .bool y.sg, .slice ap y.args.length ac]) ∧ w'.ownsRow w8.drew.heap.size TAr 2 (.slice ap y.args.length ac) y.args.length (argsC y.args) ∧ RdT w' rb mb r [] ∧ Turned w8.drew w' (fun k => k = rb)) := HXARGS.out _ (HX.out _ HTd.out) (HFO.out _ HTd.out) (HR8.out.below bd)
            clear bd HXARGS
            go_region_law (first
              | (refine step_call_fn rfl 122 #[.pointer (some ⟨rb, 0, none⟩), .agg #[.int .i64 op, .int .i64 bin, .int .i64 (-1), .int .i64 0, .int .u32 0, .int .i64 0, .int .u32 0, .int .i64 0, .int .i64 0, .int .i64 0, .bool false, .slice none 0 0]] (by kernel_rfl) HCI.out ?_; rintro e w9 ⟨ap, ac, rfl, hao, hR9, hT9⟩; have hT9' : Turned w8 w9 (fun k => k = rb) := (Turned.of_below (Below.refl _ w8).drew _).trans hT9 (fun _ _ h => h); have b9 := below1 w9 (.cells #[.int .i64 y.op, .int .i64 y.bin, .int .i64 y.d, .int .i64 y.a.kind, .int .u32 y.a.n, .int .i64 y.b.kind, .int .u32 y.b.n, .int .i64 y.n, .int .i64 y.off, .int .i64 y.width, .bool y.sg, .slice ap y.args.length ac] TIn); have hF9 := blk_t HF8.out hT9' (by omega); have c9 : w9.cell? ⟨fb, 5, none⟩ = some (.slice vp k vc) := (Lib.cell_of_heap hF9 5).trans rfl; have hF10 := blk_b hF9 b9; have c10 : (w9.alloc (.cells #[.int .i64 y.op, .int .i64 y.bin, .int .i64 y.d, .int .i64 y.a.kind, .int .u32 y.a.n, .int .i64 y.b.kind, .int .u32 y.b.n, .int .i64 y.n, .int .i64 y.off, .int .i64 y.width, .bool y.sg, .slice ap y.args.length ac] TIn)).cell? ⟨fb, 5, none⟩ = some (.slice vp k vc) := (Lib.cell_of_heap hF10 5).trans rfl; have HF10 : Hid ((w9.alloc (.cells #[.int .i64 y.op, .int .i64 y.bin, .int .i64 y.d, .int .i64 y.a.kind, .int .u32 y.a.n, .int .i64 y.b.kind, .int .u32 y.b.n, .int .i64 y.n, .int .i64 y.off, .int .i64 y.width, .bool y.sg, .slice ap y.args.length ac] TIn)).heap[fb]? = some (.cells #[.string nm, .int .i64 pr, .int .i64 tp, .bool gv, .slice sp sls.length sc, .slice vp k vc] TFn (0, 0))) := hF10; have HZ10 : Hid ((w9.alloc (.cells #[.int .i64 y.op, .int .i64 y.bin, .int .i64 y.d, .int .i64 y.a.kind, .int .u32 y.a.n, .int .i64 y.b.kind, .int .u32 y.b.n, .int .i64 y.n, .int .i64 y.off, .int .i64 y.width, .bool y.sg, .slice ap y.args.length ac] TIn)).heap[w.heap.size]? = some (.cells zFn TFn (0, 0))) := blk_b (blk_t HZ8.out hT9' (by omega)) b9; have HR10 : Hid (RdT (w9.alloc (.cells #[.int .i64 y.op, .int .i64 y.bin, .int .i64 y.d, .int .i64 y.a.kind, .int .u32 y.a.n, .int .i64 y.b.kind, .int .u32 y.b.n, .int .i64 y.n, .int .i64 y.off, .int .i64 y.width, .bool y.sg, .slice ap y.args.length ac] TIn)) rb mb r []) := hR9.below b9; have HT10 : Hid (Turned w (w9.alloc (.cells #[.int .i64 y.op, .int .i64 y.bin, .int .i64 y.d, .int .i64 y.a.kind, .int .u32 y.a.n, .int .i64 y.b.kind, .int .u32 y.b.n, .int .i64 y.n, .int .i64 y.off, .int .i64 y.width, .bool y.sg, .slice ap y.args.length ac] TIn)) (fun k => k = rb)) := (HT8.out.trans hT9' (fun _ _ h => h)).bel b9; have HO10 : Hid ((w9.alloc (.cells #[.int .i64 y.op, .int .i64 y.bin, .int .i64 y.d, .int .i64 y.a.kind, .int .u32 y.a.n, .int .i64 y.b.kind, .int .u32 y.b.n, .int .i64 y.n, .int .i64 y.off, .int .i64 y.width, .bool y.sg, .slice ap y.args.length ac] TIn)).ownsRow w.heap.size TIn 12 (.slice vp k vc) k (flatC iwC cd)) := own_below (own_rd HO8.out hT9' HR8.out (by decide)) b9; have HS10 : Hid ((w9.alloc (.cells #[.int .i64 y.op, .int .i64 y.bin, .int .i64 y.d, .int .i64 y.a.kind, .int .u32 y.a.n, .int .i64 y.b.kind, .int .u32 y.b.n, .int .i64 y.n, .int .i64 y.off, .int .i64 y.width, .bool y.sg, .slice ap y.args.length ac] TIn)).ownsRow w.heap.size TSl 2 (.slice sp sls.length sc) sls.length (flatC slC sls)) := own_below (own_rd HS8.out hT9' HR8.out (by decide)) b9; have HI10 : Hid (∀ i ∈ cd, IwOwn w.heap.size (w9.alloc (.cells #[.int .i64 y.op, .int .i64 y.bin, .int .i64 y.d, .int .i64 y.a.kind, .int .u32 y.a.n, .int .i64 y.b.kind, .int .u32 y.b.n, .int .i64 y.n, .int .i64 y.off, .int .i64 y.width, .bool y.sg, .slice ap y.args.length ac] TIn)) i) := fun i hi => own_below (own_rd (HI8.out i hi) hT9' HR8.out (by decide)) b9; have HA10 : Hid ((w9.alloc (.cells #[.int .i64 y.op, .int .i64 y.bin, .int .i64 y.d, .int .i64 y.a.kind, .int .u32 y.a.n, .int .i64 y.b.kind, .int .u32 y.b.n, .int .i64 y.n, .int .i64 y.off, .int .i64 y.width, .bool y.sg, .slice ap y.args.length ac] TIn)).ownsRow w.heap.size TAr 2 (.slice ap y.args.length ac) y.args.length (argsC y.args)) := own_below (ownsRow_base hao HTd.out.size) b9; clear hR9 hT9 hT9' b9 hF9 hF10 hao; refine ⟨_, rfl, ?_⟩)
              | (refine step_append_own_at rfl (.tmp 49) (.tmp 53) 30 rfl w.heap.size TIn i0 _ 12 112 Tryz.underlying30 hi hz0 hz1 hz2 rfl (by decide) _ k _ rfl HO10.out ⟨w9.heap.size, 0, none⟩ 1 1 (#[.int .i64 y.op, .int .i64 y.bin, .int .i64 y.d, .int .i64 y.a.kind, .int .u32 y.a.n, .int .i64 y.b.kind, .int .u32 y.b.n, .int .i64 y.n, .int .i64 y.off, .int .i64 y.width, .bool y.sg, .slice ap y.args.length ac] : Array Value).toList rfl rfl (cells_new _ _ _) (by simp [Value.oneCell']) (by have := hcdl.out; unfold maxLen; omega) (by have := hcdl.out; omega) (HT10.out.size) ?_; intro v' w11 hown hgrow hnil hat; obtain ⟨p', cap', rfl⟩ := slice_of_own hown; have hF11 : w11.heap[fb]? = some (.cells #[.string nm, .int .i64 pr, .int .i64 tp, .bool gv, .slice sp sls.length sc, .slice vp k vc] TFn (0, 0)) := (hgrow.block fb (lt_of_heap HF10.out) (fun e => by obtain ⟨_, cur, hcur⟩ := ownsRow_at HO10.out e.symm; rw [HF10.out] at hcur; injection hcur with q1; injection q1 with _ q2; exact absurd q2 (by decide))).trans HF10.out; have c11 : w11.cell? ⟨fb, 5, none⟩ = some (.slice vp k vc) := (Lib.cell_of_heap hF11 5).trans rfl; have f11 := frozen_of hF11 5; have HF11 : Hid (w11.heap[fb]? = some (.cells #[.string nm, .int .i64 pr, .int .i64 tp, .bool gv, .slice sp sls.length sc, .slice vp k vc] TFn (0, 0))) := hF11; have HOW : Hid (World.ownsRow _ _ _ _ _ _ _) := hown; have HGR : Hid (World.grownBy _ _ _) := hgrow; clear hown hgrow hnil hat hF11))
            all_goals go_wp2
            all_goals
              have t12 : Turned w11 (w11.setCell ⟨fb, 5, none⟩ (.slice p' (k + 1) cap')) (fun k => k = fb) := Turned.setCell w11 fb 5 _ rfl
              have tg : Turned (w9.alloc (.cells #[.int .i64 y.op, .int .i64 y.bin, .int .i64 y.d, .int .i64 y.a.kind, .int .u32 y.a.n, .int .i64 y.b.kind, .int .u32 y.b.n, .int .i64 y.n, .int .i64 y.off, .int .i64 y.width, .bool y.sg, .slice ap y.args.length ac] TIn)) w11 (fun j => (Value.slice vp k vc).ownBlock = some j) := Turned.of_grown HGR.out (fun k e => e)
              have hgt : ∀ j, (Value.slice vp k vc).ownBlock = some j → ∃ cs, (w9.alloc (.cells #[.int .i64 y.op, .int .i64 y.bin, .int .i64 y.d, .int .i64 y.a.kind, .int .u32 y.a.n, .int .i64 y.b.kind, .int .u32 y.b.n, .int .i64 y.n, .int .i64 y.off, .int .i64 y.width, .bool y.sg, .slice ap y.args.length ac] TIn)).heap[j]? = some (.cells cs TIn (0, 0)) := fun j hj => by obtain ⟨_, cur, hcur⟩ := ownsRow_at HO10.out hj; exact ⟨cur, hcur⟩
              have hR11 : RdT w11 rb mb r [] := HR10.out.offS (ty := TIn) tg hgt (by decide) (by decide)
              have hR12 := hR11.off t12 HF11.out (by decide) (by decide)
              have hZ11 : w11.heap[w.heap.size]? = some (.cells zFn TFn (0, 0)) := blk_t HZ10.out tg (fun hk => by
                obtain ⟨cur, hcur⟩ := hgt _ hk
                rw [HZ10.out] at hcur; injection hcur with q1; injection q1 with _ q2; exact absurd q2 (by decide))
              have hT11 : Turned w w11 (fun k => k = rb) := HT10.out.trans tg (fun i hi hk => by have := (ownsRow_at HO10.out hk).1; omega)
              have up : ∀ {t : TypeId} {m n : Nat} {v : Value} {zs : List Value}, t ≠ TIn → t ≠ TFn → (w9.alloc (.cells #[.int .i64 y.op, .int .i64 y.bin, .int .i64 y.d, .int .i64 y.a.kind, .int .u32 y.a.n, .int .i64 y.b.kind, .int .u32 y.b.n, .int .i64 y.n, .int .i64 y.off, .int .i64 y.width, .bool y.sg, .slice ap y.args.length ac] TIn)).ownsRow w.heap.size t m v n zs → (w11.setCell ⟨fb, 5, none⟩ (.slice p' (k + 1) cap')).ownsRow w.heap.size t m v n zs := fun h1 h2 h => own_apart (own_t h tg (fun j hj => by obtain ⟨cs, e⟩ := hgt j hj; exact ⟨cs, _, e, fun q => h1 q.symm⟩)) t12 HF11.out (fun q => h2 q.symm)
              refine ⟨⟨k + 1, cd ++ [⟨y, ap, ac⟩], p', cap', by omega, by rw [List.length_append, HCL.out]; rfl, Lib.hid ?_, Lib.hid ?_, Lib.hid (heap_setCell (j := 5) HF11.out _), Lib.hid ?_, Lib.hid (up (by decide) (by decide) HS10.out), Lib.hid (blk_t hZ11 t12 (by omega)), Lib.hid (by rw [← HR0.out]; exact hR12), Lib.hid (hT11.trans t12 (fun i hi e => by omega))⟩, ?_⟩
              · rw [HTK.out, List.map_append, HCD.out]; rfl
              · intro i hi
                rcases List.mem_append.1 hi with hi | hi
                · exact up (by decide) (by decide) (HI10.out i hi)
                · simp only [List.mem_cons, List.not_mem_nil, or_false] at hi
                  subst hi
                  exact up (by decide) (by decide) HA10.out
              · rw [flatC_snoc]
                exact own_apart HOW.out t12 HF11.out (by decide)
              · rw [HLN.out, lenAt_eq hR12]; omega
        · obtain rfl : k = xs.length := by omega
          have hl2 : ls' = ls2 := by rw [hls', List.drop_length]; rfl
          subst hl2
          have LK : ∀ Y, SH wr Y → (Instr.lookup TMi (.map (some mb)) (.string (firstW ls')) true).run Tryz.prog Y = .ok (.tuple #[inV (⟨0, 0, 0, ⟨0, 0⟩, ⟨0, 0⟩, 0, 0, 0, false, []⟩ : In), .bool false]) Y := fun Y h => (HRR.out.mp.below h).none hfs (opFind_none HEND.out)
          simp only [inV, inCells] at LK
          have hcx := HCD.out
          rw [List.take_length] at hcx
          have HCX : Hid (cd.map Iw.x = xs) := hcx
          have HCL : Hid (cd.length = xs.length) := hcd
          clear hls' hcx hcd HCD hk
          go_upto_region 6 with (fail)
          go_cut [4, 5] from 31 to 40 (fun s4 s5 wx => ∃ g4, s4 = .pointer (some ⟨g4, 0, none⟩) ∧ s5 = .bool false ∧ Hid (SH wr wx))
          case first =>
            have HSH : SH wr wr := SH.refl wr
            generalize firstW ls' = fw at *
            have HSD : SH wr wr.drew := SH.drew HSH
            have HSA : SH wr (wr.alloc (.cells #[.int .i64 0, .int .i64 0, .int .i64 0, .int .i64 0, .int .u32 0, .int .i64 0, .int .u32 0, .int .i64 0, .int .i64 0, .int .i64 0, .bool false, .slice none 0 0] TIn)).drew := SH.drew (SH.alloc HSH _)
            have HNA : Hid ((wr.alloc (.cells #[.int .i64 0, .int .i64 0, .int .i64 0, .int .i64 0, .int .u32 0, .int .i64 0, .int .u32 0, .int .i64 0, .int .i64 0, .int .i64 0, .bool false, .slice none 0 0] TIn)).drew.heap[wr.heap.size]? = some (.cells #[.int .i64 0, .int .i64 0, .int .i64 0, .int .i64 0, .int .u32 0, .int .i64 0, .int .u32 0, .int .i64 0, .int .i64 0, .int .i64 0, .bool false, .slice none 0 0] TIn (0, 0))) := heap_r0 wr _
            go_region_held3 (fun Y => SH wr Y) (with_reducible first | assumption | (refine SH.drew ?_; assumption) | (refine SH.alloc ?_ _; assumption) | (refine SH.drew ?_; refine SH.alloc ?_ _; assumption) | ((iterate 12 refine SH.set1 ?_); assumption)) (first
              | (go_at_call 118; (with_reducible refine (HCF.out wr.drew HSD).mono ?_); rintro e y1 ⟨rfl, hy1⟩; have HY1 : SH wr y1 := SH.below HSD hy1; have HYS : wr.heap.size ≤ y1.heap.size := Below.size HY1; clear hy1)
              | (go_at_call 118; (with_reducible refine (HCF.out (wr.alloc (.cells #[.int .i64 0, .int .i64 0, .int .i64 0, .int .i64 0, .int .u32 0, .int .i64 0, .int .u32 0, .int .i64 0, .int .i64 0, .int .i64 0, .bool false, .slice none 0 0] TIn)).drew HSA).mono ?_); rintro e y1 ⟨rfl, hy1⟩; have HY1 : SH wr y1 := SH.below HSA hy1; have hn1 := blk_b HNA.out hy1; obtain ⟨z0, z1, z2, z3, z4, z5, z6, z7, z8, z9, z10, z11⟩ := cells12 hn1; have fz := frozen_of hn1; have HN1 : Hid (y1.heap[wr.heap.size]? = some (.cells #[.int .i64 0, .int .i64 0, .int .i64 0, .int .i64 0, .int .u32 0, .int .i64 0, .int .u32 0, .int .i64 0, .int .i64 0, .int .i64 0, .bool false, .slice none 0 0] TIn (0, 0))) := hn1; clear hy1 hn1))
            all_goals go_wp2_with fail
            all_goals go_meet
            all_goals exact ⟨_, rfl, rfl, show SH wr _ by with_reducible assumption⟩
          case rest =>
            obtain ⟨g4, rfl, rfl, HSC⟩ := hcut
            rename World => wc
            have hfb2 := blk_b HFB.out HSC.out
            have hzb2 := blk_b HZB.out HSC.out
            have q0 := (Lib.cell_of_heap hfb2 0).trans rfl
            have q1 := (Lib.cell_of_heap hfb2 1).trans rfl
            have q2 := (Lib.cell_of_heap hfb2 2).trans rfl
            have q3 := (Lib.cell_of_heap hfb2 3).trans rfl
            have q4 := (Lib.cell_of_heap hfb2 4).trans rfl
            have q5 := (Lib.cell_of_heap hfb2 5).trans rfl
            have nf := not_f
            have HRc : Hid (RdT wc rb mb ls' []) := HRR.out.below HSC.out
            have HTc : Hid (Turned w wc (fun k => k = rb)) := HTR.out.bel HSC.out
            have HOc : Hid (wc.ownsRow w.heap.size TIn 12 (.slice vp xs.length vc) xs.length (flatC iwC cd)) := own_below HOW.out HSC.out
            have HSc : Hid (wc.ownsRow w.heap.size TSl 2 (.slice sp sls.length sc) sls.length (flatC slC sls)) := own_below HOS.out HSC.out
            have HIc : Hid (∀ i ∈ cd, IwOwn w.heap.size wc i) := fun i hi => own_below (HIW.out i hi) HSC.out
            clear LK L2
            go_wp2_with (first | ((with_reducible apply step_store hzb2); rfl; rfl; kernel_rfl; rfl; kernel_rfl) | fail)
            have g9 : (wc.setRow w.heap.size #[.string nm, .int .i64 pr, .int .i64 tp, .bool gv, .slice sp sls.length sc, .slice vp xs.length vc]).heap[w.heap.size]? = some (.cells #[.string nm, .int .i64 pr, .int .i64 tp, .bool gv, .slice sp sls.length sc, .slice vp xs.length vc] TFn (0, 0)) := setRow_heap _ _ _ _ _ _ hzb2
            have t9 : Turned wc (wc.setRow w.heap.size #[.string nm, .int .i64 pr, .int .i64 tp, .bool gv, .slice sp sls.length sc, .slice vp xs.length vc]) (fun k => k = w.heap.size) := Turned.setRow wc _ _ rfl
            have p0 := (Lib.cell_of_heap g9 0).trans rfl
            have p1 := (Lib.cell_of_heap g9 1).trans rfl
            have p2 := (Lib.cell_of_heap g9 2).trans rfl
            have p3 := (Lib.cell_of_heap g9 3).trans rfl
            have p4 := (Lib.cell_of_heap g9 4).trans rfl
            have p5 := (Lib.cell_of_heap g9 5).trans rfl
            refine bodyPost_ret (v := .agg #[.string nm, .int .i64 pr, .int .i64 tp, .bool gv, .slice sp sls.length sc, .slice vp xs.length vc]) (by simp [results, Tryz.results102, go_sem, p0, p1, p2, p3, p4, p5]) rfl ⟨⟨⟨nm, pr, tp, gv, sp, sls.length, sc, vp, xs.length, vc⟩, sls, cd⟩, rfl, rfl, rfl, rfl, rfl, rfl, HCX.out, ⟨rfl, HCL.out.symm, own_apart HSc.out t9 hzb2 (by decide), ?_, fun i hi => own_apart (HIc.out i hi) t9 hzb2 (by decide)⟩, HRc.out.off t9 hzb2 (by decide) (by decide), HTc.out.trans t9 (fun i hi e => by omega)⟩
            show World.ownsRow _ _ _ _ (.slice vp cd.length vc) cd.length _
            rw [HCL.out]
            exact own_apart HOc.out t9 hzb2 (by decide)
end
end Go.Proofs.YtaaphipbkpjkjaaGreatDoor
