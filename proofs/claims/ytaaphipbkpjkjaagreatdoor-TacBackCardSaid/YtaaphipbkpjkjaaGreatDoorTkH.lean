/-
  An object is read: object of package tac's reader, at the lines that it is written as.
-/
import Derived.Test.YtaaphipbkpjkjaaGreatDoorPD
namespace Go.Proofs.YtaaphipbkpjkjaaGreatDoor
open Go.RowKit Go.Maps
set_option linter.unusedVariables false
set_option linter.unusedSimpArgs false
set_option maxRecDepth 100000
def zOb : Array Value := #[.string ⟨#[]⟩, .int .i64 0, .int .i64 0, .slice none 0 0, .slice none 0 0]
def dataWd : ByteArray := ⟨#[100, 97, 116, 97]⟩
def relocWd : ByteArray := ⟨#[114, 101, 108, 111, 99]⟩
def lnR (r : Rl) : ByteArray := lnB (relW r)
def dtB (bs : List UInt8) : List ByteArray := (dataW bs).map lnB
theorem cut_r (r : Rl) : cutW (lnR r) = relocWd := cut_ln (s := sB [114, 101, 108, 111, 99]) (cl_lit (by decide))
theorem split_r (r : Rl) : (splitL (lnR r) 32).tail = [decS r.off, decS r.glob, decS r.add] := by
  unfold lnR
  rw [split_ln (ln_rel r)]; rfl
theorem fill_take (l : List UInt8) : ∀ n ≤ l.length, l.take n = l.take (fillN l n) ++ List.replicate (n - fillN l n) 0
  | 0, _ => by simp [fillN]
  | n + 1, h => by
    have ih := fill_take l n (by omega)
    have hle := fillN_le l n
    obtain ⟨c, hc⟩ : ∃ c, l[n]? = some c := ⟨_, List.getElem?_eq_getElem (by omega)⟩
    have hd : l.getD n 0 = c := by simp [List.getD, hc]
    unfold fillN
    rw [hd]
    by_cases h0 : c.toNat = 0
    · have e0 : c = 0 := UInt8.toNat_inj.1 h0
      rw [if_pos h0, take_succ hc, ih, e0, List.append_assoc, show n + 1 - fillN l n = (n - fillN l n) + 1 by omega, List.replicate_succ']
    · rw [if_neg h0]; simp
theorem fill_last (l : List UInt8) : ∀ n, 0 < fillN l n → ∃ c, l[fillN l n - 1]? = some c ∧ c ≠ 0
  | 0, h => by simp [fillN] at h
  | n + 1, h => by
    unfold fillN at h ⊢
    by_cases h0 : (l.getD n 0).toNat = 0
    · rw [if_pos h0] at h ⊢
      exact fill_last l n h
    · rw [if_neg h0] at h ⊢
      rw [Nat.add_sub_cancel]
      cases e : l[n]? with
      | none => simp [List.getD, e] at h0
      | some c => exact ⟨c, rfl, fun q => h0 (by simp [List.getD, e, q])⟩
theorem fill_mix (bs : List UInt8) : mixL (bs.take (fillN bs bs.length)) bs.length (bs.take (fillN bs bs.length)).length = bs := by
  have hle := fillN_le bs bs.length
  have h := fill_take bs bs.length (Nat.le_refl _)
  have e : (bs.take (fillN bs bs.length)).length = fillN bs bs.length := by rw [List.length_take]; omega
  unfold mixL
  rw [e, List.take_take, Nat.min_self, ← h, List.take_length]
theorem byV_flat (l : List UInt8) : flatC byC l = byV l := by
  induction l with
  | nil => rfl
  | cons a l ih =>
    have : flatC byC (a :: l) = byC a ++ flatC byC l := by simp [flatC]
    rw [this, ih]; rfl
theorem made_zero (n : Nat) : madeCells (Value.int .u8 0).cells (n * 1) = (byV (List.replicate n 0)).toArray := by
  rw [Nat.mul_one]
  apply Array.ext
  · simp [madeCells, byV]
  · intro i h1 h2
    simp [madeCells, byV, Value.cells, Nat.mod_one]
theorem mix_zero (l : List UInt8) (n : Nat) : mixL l n 0 = List.replicate n 0 := by simp [mixL]
theorem make_bytes (n : Nat) (hn : n ≤ 100000) (W : World) : (Instr.makeSlice 67 (.int .i64 (n : Int)) (.int .i64 (n : Int))).run Tryz.prog W = .ok (.slice (some ⟨W.heap.size, 0, none⟩) n n) (W.alloc (.cells (byV (List.replicate n 0)).toArray TBy)) := by
  obtain ⟨i0, hi, hz0, hz1, hz2⟩ := info_parts infoBy
  have h := run_make (P := Tryz.prog) W 67 TBy i0 (.int .u8 0) Tryz.underlying67 hi hz0 .i64 .i64 n n (by omega) (by omega) (by rw [hz2]; omega) (by omega)
  rw [hz1, Int.toNat_natCast, made_zero] at h
  exact h
theorem own_of_bytes {W : World} {B g : Nat} {bs : List UInt8} (h : W.heap[g]? = some (.cells (byV bs).toArray TBy (0, 0))) (hb : B ≤ g) (hl : bs.length ≤ 100000) : W.ownsRow B TU8 1 (.slice (some ⟨g, 0, none⟩) bs.length bs.length) bs.length (flatC byC bs) := by
  rw [byV_flat]
  refine ⟨by rw [byV_length, Nat.mul_one], Or.inr ⟨g, bs.length, _, rfl, hb, h, Nat.le_refl _, by unfold maxLen; omega, by simp [byV_length], ?_⟩⟩
  rw [Nat.mul_one]
  show (byV bs).take bs.length = byV bs
  rw [List.take_of_length_le (by rw [byV_length]; omega)]
section
variable {w : World} {rb mb : Nat} {ls ws : List ByteArray}
set_option maxHeartbeats 16000000 in
theorem obj_c (hX : Tabs w) (hM : MaxIn w) (hrb : 10 ≤ rb) {nm p1 t1 : ByteArray} {bs : List UInt8} {rls : List Rl} {ls2 : List ByteArray} (hR : RdT w rb mb (dtB bs ++ (rls.map lnR ++ ls2)) [nm, p1, t1]) {al : Int} (hp : num64 p1 = some (bs.length : Int)) (ht : num64 t1 = some al)
    (hrm : roomB (bs.length : Int) al = true) (hbn : bs.length ≤ 100000) (hrl0 : ∀ r ∈ rls, I64 r.off ∧ I64 r.glob ∧ I64 r.add) (hrn : rls.length ≤ 1000000) (hnd : ((firstW (rls.map lnR ++ ls2)).toList == dataWd.toList) = false) (hnr : ((firstW ls2).toList == relocWd.toList) = false) :
    Calls Tryz.prog 101 #[.pointer (some ⟨rb, 0, none⟩)] w fun e w' => ∃ y : Og, e = .returned (.agg (ogC y).toArray) ∧ y.o.nm = nm ∧ y.o.size = (bs.length : Int) ∧ y.o.align = al ∧ y.bs = bs ∧ y.rls = rls ∧ OgOwn w.heap.size w' y ∧ RdT w' rb mb ls2 [] ∧ Turned w w' (fun k => k = rb) := by
  have hrl : rb < w.heap.size := by obtain ⟨⟨_, _, _, _, hg, _⟩, _⟩ := hR; exact lt_of_heap hg
  have b1 := below1 w (.cells zOb TOb)
  have HN1 : Hid ((w.alloc (.cells zOb TOb)).heap[w.heap.size]? = some (.cells zOb TOb (0, 0))) := heap_r0 w _
  have HB1 : Hid (Below w.heap.size w (w.alloc (.cells zOb TOb))) := b1
  have cW := word_c (hR.below b1)
  have hpn := num64_ok hp
  have hmk := make_bytes bs.length hbn
  have HOB : Hid (∀ (W : World) (g : Nat), W.heap[g]? = some (.cells (byV bs).toArray TBy (0, 0)) → w.heap.size ≤ g → W.ownsRow w.heap.size TU8 1 (.slice (some ⟨g, 0, none⟩) bs.length bs.length) bs.length (flatC byC bs)) := fun W g h hb => own_of_bytes h hb hbn
  have HBS : Hid (∀ (W : World) (mb : Nat) (ls : List ByteArray) (g : Nat), 0 < fillN bs bs.length → W.heap[g]? = some (.cells (byV (List.replicate bs.length 0)).toArray TBy (0, 0)) → RdT W rb mb ls [sB (hexT (bs.take (fillN bs bs.length)))] →
      Calls Tryz.prog 120 #[.pointer (some ⟨rb, 0, none⟩), .slice (some ⟨g, 0, none⟩) bs.length bs.length] W fun e w' => e = .returned (.tuple #[]) ∧ w'.heap[g]? = some (.cells (byV bs).toArray TBy (0, 0)) ∧ RdT w' rb mb ls [] ∧ Turned W w' (fun k => k = rb ∨ k = g)) := fun W mb ls g hf hg hR => by
    have hle := fillN_le bs bs.length
    have e : (bs.take (fillN bs bs.length)).length = fillN bs bs.length := by rw [List.length_take]; omega
    obtain ⟨c, hc, hc0⟩ := fill_last bs bs.length hf
    have h := bytes_c (l := bs.take (fillN bs bs.length)) (sz := bs.length) (bl := c) (by rw [mix_zero]; exact hg) (by omega) (by omega) hbn (by rw [e, List.getElem?_take_of_lt (by omega)]; exact hc) hc0 hR
    rw [fill_mix] at h
    exact h
  have HZB : Hid (fillN bs bs.length = 0 → byV (List.replicate bs.length 0) = byV bs) := fun hf => by
    have h := fill_mix bs
    rw [hf] at h
    simp only [List.take_zero, List.length_nil, mix_zero] at h
    rw [h]
  have HDT : Hid (dtB bs = if 0 < fillN bs bs.length then [lnB [sB [100, 97, 116, 97], sB (hexT (bs.take (fillN bs bs.length)))]] else []) := by
    show _ = _
    unfold dtB dataW
    split <;> rfl
  have HDL : Hid (0 < fillN bs bs.length → LnOK [sB [100, 97, 116, 97], sB (hexT (bs.take (fillN bs bs.length)))]) := fun hf => ln_data (bs := bs) _ (by unfold dataW; rw [if_pos hf]; simp)
  obtain ⟨n, hn⟩ : ∃ n, n = bs.length := ⟨_, rfl⟩
  rw [← hn] at hp hpn hrm hmk HOB HBS HZB HDT HDL ⊢
  have HNB : Hid (n = bs.length) := hn
  have HCN1 : Hid (∀ Y ls r, Tabs Y → RdT Y rb mb ls (p1 :: r) → Calls Tryz.prog 103 #[.pointer (some ⟨rb, 0, none⟩)] Y fun e w' => e = .returned (.int .i64 (n : Int)) ∧ RdT w' rb mb ls r ∧ Turned Y w' (fun k => k = rb)) := fun Y ls r hY hR => number_c hY hrb hR hpn.1 hpn.2.1 hpn.2.2
  have HCN2 : Hid (∀ Y ls r, Tabs Y → RdT Y rb mb ls (t1 :: r) → Calls Tryz.prog 103 #[.pointer (some ⟨rb, 0, none⟩)] Y fun e w' => e = .returned (.int .i64 al) ∧ RdT w' rb mb ls r ∧ Turned Y w' (fun k => k = rb)) := fun Y ls r hY hR => number_c hY hrb hR (num64_ok ht).1 (num64_ok ht).2.1 (num64_ok ht).2.2
  have HCN : Hid (∀ (v : Int), I64 v → ∀ Y ls r, Tabs Y → RdT Y rb mb ls (decS v :: r) → Calls Tryz.prog 103 #[.pointer (some ⟨rb, 0, none⟩)] Y fun e w' => e = .returned (.int .i64 v) ∧ RdT w' rb mb ls r ∧ Turned Y w' (fun k => k = rb)) := fun v hv Y ls r hY hR => number_c hY hrb hR (numOf_dec hv) hv.1 hv.2
  have HRM : Hid (∀ W, Calls Tryz.prog 48 #[.int .i64 (n : Int), .int .i64 al] W fun e w' => e = .returned (.bool true) ∧ w' = W) := fun W => by
    have h := roomHolds_c (n : Int) al W
    rw [hrm] at h
    exact h
  have HX : Hid (∀ Y, Turned w Y (fun k => k = rb) → Tabs Y) := fun Y hY => hX.turned hY hrb
  have HM : Hid (∀ Y, Turned w Y (fun k => k = rb) → MaxIn Y) := fun Y hY => hM.turned hY (by omega)
  have HRL : Hid (∀ r ∈ rls, I64 r.off ∧ I64 r.glob ∧ I64 r.add) := hrl0
  have HRN : Hid (rls.length ≤ 1000000) := hrn
  have HND : Hid (((firstW (rls.map lnR ++ ls2)).toList == dataWd.toList) = false) := hnd
  have HNR : Hid (((firstW ls2).toList == relocWd.toList) = false) := hnr
  clear hX hM hR hp ht hpn b1 hrm hrl0 hrn hnd hnr hn hbn
  go_enter Tryz.func101, Tryz.ntmps101
  go_upto_region 1 with (fail)
  refine (?_ : Code.wp _ _ _ _ (w.alloc (.cells zOb TOb)))
  generalize w.alloc (.cells zOb TOb) = W1 at *
  go_upto_region 2 with (first
    | (go_at_call 119; refine cW.mono ?_; rintro e w1 ⟨rfl, hR1, hT1⟩; have HT1 : Hid (Turned w w1 (fun k => k = rb)) := (Turned.of_below HB1.out _).trans hT1 (fun _ _ h => h); have cN1 := HCN1.out w1 _ _ (HX.out _ HT1.out) hR1; have HZ1 : Hid (w1.heap[w.heap.size]? = some (.cells zOb TOb (0, 0))) := blk_t HN1.out hT1 (by omega); clear hR1 hT1 cW)
    | (go_at_call 103; refine cN1.mono ?_; rintro e w2 ⟨rfl, hR2, hT2⟩; have HT2 : Hid (Turned w w2 (fun k => k = rb)) := HT1.out.trans hT2 (fun _ _ h => h); have cN2 := HCN2.out w2 _ _ (HX.out _ HT2.out) hR2; have HZ2 : Hid (w2.heap[w.heap.size]? = some (.cells zOb TOb (0, 0))) := blk_t HZ1.out hT2 (by omega); clear hR2 hT2 cN1)
    | (go_at_call 103; refine cN2.mono ?_; rintro e w4 ⟨rfl, hR4, hT4⟩; have HR4 : Hid (RdT w4 rb mb (dtB bs ++ (rls.map lnR ++ ls2)) []) := hR4; have HT4 : Hid (Turned w w4 (fun k => k = rb)) := HT2.out.trans hT4 (fun _ _ h => h); have HZ4 : Hid (w4.heap[w.heap.size]? = some (.cells zOb TOb (0, 0))) := blk_t HZ2.out hT4 (by omega); have hold := heap_r0 w4 (.cells zOb TOb); clear hR4 hT4 cN2)
    | ((with_reducible apply step_store hold); rfl; rfl; kernel_rfl; rfl; kernel_rfl; rw [World.setRow_alloc_new])
    | fail)
  have b5 := below1 w4 (.cells #[.string nm, .int .i64 (n : Int), .int .i64 al, .slice none 0 0, .slice none 0 0] TOb)
  have HF5 : Hid ((w4.alloc (.cells #[.string nm, .int .i64 (n : Int), .int .i64 al, .slice none 0 0, .slice none 0 0] TOb)).heap[w4.heap.size]? = some (.cells #[.string nm, .int .i64 (n : Int), .int .i64 al, .slice none 0 0, .slice none 0 0] TOb (0, 0))) := heap_r0 w4 _
  have HZ5 : Hid ((w4.alloc (.cells #[.string nm, .int .i64 (n : Int), .int .i64 al, .slice none 0 0, .slice none 0 0] TOb)).heap[w.heap.size]? = some (.cells zOb TOb (0, 0))) := blk_b HZ4.out b5
  have HR5 : Hid (RdT (w4.alloc (.cells #[.string nm, .int .i64 (n : Int), .int .i64 al, .slice none 0 0, .slice none 0 0] TOb)) rb mb (dtB bs ++ (rls.map lnR ++ ls2)) []) := HR4.out.below b5
  have HT5 : Hid (Turned w (w4.alloc (.cells #[.string nm, .int .i64 (n : Int), .int .i64 al, .slice none 0 0, .slice none 0 0] TOb)) (fun k => k = rb)) := HT4.out.bel b5
  have hfb : w.heap.size < w4.heap.size := lt_of_heap HZ4.out
  generalize w4.alloc (.cells #[.string nm, .int .i64 (n : Int), .int .i64 al, .slice none 0 0, .slice none 0 0] TOb) = W5 at *
  generalize w4.heap.size = fb at *
  clear HT1 HZ1 HT2 HZ2 HR4 HT4 HZ4 b5 hold HCN1 HCN2 HN1 HB1
  have cD := done_c HR5.out
  have cR := HRM.out W5
  have cN := want_c W5
  have f1 : W5.cell? ⟨fb, 1, none⟩ = some (.int .i64 (n : Int)) := (Lib.cell_of_heap HF5.out 1).trans rfl
  have f2 : W5.cell? ⟨fb, 2, none⟩ = some (.int .i64 al) := (Lib.cell_of_heap HF5.out 2).trans rfl
  have hf5 := lt_of_heap HF5.out
  have b6 := below1 W5 (.cells (byV (List.replicate n 0)).toArray TBy)
  have hF6 := blk_b HF5.out b6
  have f3 : (W5.alloc (.cells (byV (List.replicate n 0)).toArray TBy)).cell? ⟨fb, 3, none⟩ = some (.slice none 0 0) := (Lib.cell_of_heap hF6 3).trans rfl
  have y3 := frozen_of hF6 3
  clear b6 hF6
  go_upto_region 5 with (first
    | (go_at_call 104; refine cD.mono ?_; rintro e w' ⟨rfl, hw⟩; rw [hw]; clear hw w' cD)
    | (go_at_call 48; refine cR.mono ?_; rintro e w' ⟨rfl, hw⟩; rw [hw]; clear hw w' cR)
    | (go_at_call 69; refine cN.mono ?_; rintro e w' ⟨rfl, hw⟩; rw [hw]; clear hw w' cN)
    | fail)
  clear f1 f2 f3 y3 hmk
  obtain ⟨g, hgg⟩ : ∃ g, g = W5.heap.size := ⟨_, rfl⟩
  rw [← hgg] at hf5 ⊢
  have t7 : Turned W5 (W5.setCell ⟨fb, 3, none⟩ (.slice (some ⟨g, 0, none⟩) n n)) (fun k => k = fb) := Turned.setCell W5 fb 3 _ rfl
  have b7 := below1 (W5.setCell ⟨fb, 3, none⟩ (.slice (some ⟨g, 0, none⟩) n n)) (.cells (byV (List.replicate n 0)).toArray TBy)
  have HF7 : Hid (((W5.setCell ⟨fb, 3, none⟩ (.slice (some ⟨g, 0, none⟩) n n)).alloc (.cells (byV (List.replicate n 0)).toArray TBy)).heap[fb]? = some (.cells #[.string nm, .int .i64 (n : Int), .int .i64 al, .slice (some ⟨g, 0, none⟩) n n, .slice none 0 0] TOb (0, 0))) := blk_b (heap_setCell (j := 3) HF5.out _) b7
  have HG7 : Hid (((W5.setCell ⟨fb, 3, none⟩ (.slice (some ⟨g, 0, none⟩) n n)).alloc (.cells (byV (List.replicate n 0)).toArray TBy)).heap[g]? = some (.cells (byV (List.replicate n 0)).toArray TBy (0, 0))) := by
    have h := heap_r0 (W5.setCell ⟨fb, 3, none⟩ (.slice (some ⟨g, 0, none⟩) n n)) (.cells (byV (List.replicate n 0)).toArray TBy)
    rw [show (W5.setCell ⟨fb, 3, none⟩ (.slice (some ⟨g, 0, none⟩) n n)).heap.size = g by simp [hgg]] at h
    exact h
  have HR7 : Hid (RdT ((W5.setCell ⟨fb, 3, none⟩ (.slice (some ⟨g, 0, none⟩) n n)).alloc (.cells (byV (List.replicate n 0)).toArray TBy)) rb mb (dtB bs ++ (rls.map lnR ++ ls2)) []) := (HR5.out.off t7 HF5.out (by decide) (by decide)).below b7
  have HT7 : Hid (Turned w ((W5.setCell ⟨fb, 3, none⟩ (.slice (some ⟨g, 0, none⟩) n n)).alloc (.cells (byV (List.replicate n 0)).toArray TBy)) (fun k => k = rb)) := (HT5.out.trans t7 (fun i hi e => by omega)).bel b7
  have HZ7 : Hid (((W5.setCell ⟨fb, 3, none⟩ (.slice (some ⟨g, 0, none⟩) n n)).alloc (.cells (byV (List.replicate n 0)).toArray TBy)).heap[w.heap.size]? = some (.cells zOb TOb (0, 0))) := blk_b (blk_t HZ5.out t7 (by omega)) b7
  clear t7 b7 HF5 HZ5 HR5 HT5 hgg
  generalize (W5.setCell ⟨fb, 3, none⟩ (.slice (some ⟨g, 0, none⟩) n n)).alloc (.cells (byV (List.replicate n 0)).toArray TBy) = W7 at *
  by_cases hfill : 0 < fillN bs n
  obtain ⟨hx, hhx⟩ : ∃ hx, hx = sB (hexT (bs.take (fillN bs n))) := ⟨_, rfl⟩
  have hlk := HDL.out hfill
  have hdt := HDT.out
  rw [if_pos hfill] at hdt
  have hbs := HBS.out
  rw [← hhx] at hlk hdt hbs
  have HR7' : Hid (RdT W7 rb mb (lnB [sB [100, 97, 116, 97], hx] :: (rls.map lnR ++ ls2)) []) := by
    have h := HR7.out
    rw [hdt] at h
    exact h
  have hct : cutW (lnB [sB [100, 97, 116, 97], hx]) = dataWd := cut_ln (s := sB [100, 97, 116, 97]) (cl_lit (by decide))
  have cB := begins_yes HR7'.out (HM.out _ HT7.out) hct
  rw [split_ln hlk] at cB
  unfold dataWd at cB
  have HBB : Hid (∀ (W : World) (mb : Nat) (ls : List ByteArray), W.heap[g]? = some (.cells (byV (List.replicate n 0)).toArray TBy (0, 0)) → RdT W rb mb ls [hx] → Calls Tryz.prog 120 #[.pointer (some ⟨rb, 0, none⟩), .slice (some ⟨g, 0, none⟩) n n] W fun e w' => e = .returned (.tuple #[]) ∧ w'.heap[g]? = some (.cells (byV bs).toArray TBy (0, 0)) ∧ RdT w' rb mb ls [] ∧ Turned W w' (fun k => k = rb ∨ k = g)) := fun W mb ls h1 h2 => hbs W mb ls g hfill h1 h2
  have hgf : g ≠ fb := by
    rintro rfl
    have h1 := HF7.out
    rw [HG7.out] at h1
    injection h1 with q1
    injection q1 with _ q2
    exact absurd q2 (by decide)
  have hgw : w.heap.size < g := by omega
  clear hbs hhx hlk hdt hct
  go_upto_region 7 with (first
    | (go_at_call 100; refine cB.mono ?_; rintro e w8 ⟨rfl, hR8, hT8⟩; have hF8 := blk_t HF7.out hT8 (by omega); have c8 : w8.cell? ⟨fb, 3, none⟩ = some (.slice (some ⟨g, 0, none⟩) n n) := (Lib.cell_of_heap hF8 3).trans rfl; have cY := HBB.out w8 _ _ (blk_t HG7.out hT8 (by omega)) hR8; have HF8 : Hid (w8.heap[fb]? = some (.cells #[.string nm, .int .i64 (n : Int), .int .i64 al, .slice (some ⟨g, 0, none⟩) n n, .slice none 0 0] TOb (0, 0))) := hF8; have HZ8 : Hid (w8.heap[w.heap.size]? = some (.cells zOb TOb (0, 0))) := blk_t HZ7.out hT8 (by omega); have HT8 : Hid (Turned w w8 (fun k => k = rb)) := HT7.out.trans hT8 (fun _ _ h => h); clear hR8 hT8 cB hF8)
    | (go_at_call 120; refine cY.mono ?_; rintro e W9 ⟨rfl, hG9, hR9, hT9⟩; have HG9 : Hid (W9.heap[g]? = some (.cells (byV bs).toArray TBy (0, 0))) := hG9; have HR9 : Hid (RdT W9 rb mb (rls.map lnR ++ ls2) []) := hR9; have HF9 : Hid (W9.heap[fb]? = some (.cells #[.string nm, .int .i64 (n : Int), .int .i64 al, .slice (some ⟨g, 0, none⟩) n n, .slice none 0 0] TOb (0, 0))) := blk_t HF8.out hT9 (by omega); have HZ9 : Hid (W9.heap[w.heap.size]? = some (.cells zOb TOb (0, 0))) := blk_t HZ8.out hT9 (by omega); have HT9 : Hid (Turned w W9 (fun k => k = rb)) := HT8.out.trans hT9 (fun i hi e => by omega); clear hG9 hR9 hT9 cY c8)
    | fail)
  clear HR7' HBB hgf HF8 HZ8 HT8
  rotate_left
  have hdt := HDT.out
  rw [if_neg hfill] at hdt
  have HR7' : Hid (RdT W7 rb mb (rls.map lnR ++ ls2) []) := by
    have h := HR7.out
    rw [hdt] at h
    exact h
  have cB := begins_no HR7'.out (HM.out _ HT7.out) HND.out
  unfold dataWd at cB
  have HGG : Hid (W7.heap[g]? = some (.cells (byV bs).toArray TBy (0, 0))) := by
    show _ = _
    rw [← HZB.out (by omega)]
    exact HG7.out
  have hgw : w.heap.size < g := by omega
  clear hdt
  go_upto_region 7 with (first
    | (go_at_call 100; refine cB.mono ?_; rintro e W9 ⟨rfl, hb9⟩; have HG9 : Hid (W9.heap[g]? = some (.cells (byV bs).toArray TBy (0, 0))) := blk_b HGG.out hb9; have HR9 : Hid (RdT W9 rb mb (rls.map lnR ++ ls2) []) := HR7'.out.below hb9; have HF9 : Hid (W9.heap[fb]? = some (.cells #[.string nm, .int .i64 (n : Int), .int .i64 al, .slice (some ⟨g, 0, none⟩) n n, .slice none 0 0] TOb (0, 0))) := blk_b HF7.out hb9; have HZ9 : Hid (W9.heap[w.heap.size]? = some (.cells zOb TOb (0, 0))) := blk_b HZ7.out hb9; have HT9 : Hid (Turned w W9 (fun k => k = rb)) := HT7.out.bel hb9; clear hb9 cB)
    | fail)
  clear HR7' HGG
  all_goals
    go_loopw [32] (fun s32 wr => ∃ (k : Nat) (sp : Option Addr) (sc : Nat), k ≤ rls.length ∧ Hid (wr.heap[fb]? = some (.cells #[.string nm, .int .i64 (n : Int), .int .i64 al, .slice (some ⟨g, 0, none⟩) n n, .slice sp k sc] TOb (0, 0))) ∧ Hid (wr.heap[g]? = some (.cells (byV bs).toArray TBy (0, 0))) ∧ Hid (wr.ownsRow w.heap.size TRl 3 (.slice sp k sc) k (flatC rlC (rls.take k))) ∧ Hid (wr.heap[w.heap.size]? = some (.cells zOb TOb (0, 0))) ∧ Hid (RdT wr rb mb ((rls.drop k).map lnR ++ ls2) []) ∧ Hid (Turned w wr (fun k => k = rb))) (fun _ wr => lenAt wr rb)
    case atStart => exact ⟨0, none, 0, Nat.zero_le _, HF9, HG9, ⟨rfl, Or.inl ⟨rfl, rfl⟩⟩, HZ9, HR9, HT9⟩
    case round =>
      obtain ⟨k, sp, sc, hk, HFB, HGB, HOW, HZO, HRR, HTR⟩ := hrel
      by_cases hlt : k < rls.length
      · obtain ⟨r, hs⟩ : ∃ s, rls[k]? = some s := ⟨_, List.getElem?_eq_getElem hlt⟩
        have hln : (rls.drop k).map lnR ++ ls2 = lnR r :: ((rls.drop (k + 1)).map lnR ++ ls2) := by rw [drop_cons hs]; rfl
        have HRR2 : Hid (RdT wr rb mb (lnR r :: ((rls.drop (k + 1)).map lnR ++ ls2)) []) := by show RdT _ _ _ _ _; rw [← hln]; exact HRR.out
        have HLN : Hid (lenAt wr rb = ((rls.drop (k + 1)).map lnR ++ ls2).length + 1) := lenAt_eq HRR2.out
        have hss := HRL.out r (List.mem_of_getElem? hs)
        have HS1 : Hid (I64 r.off) := hss.1
        have HS2 : Hid (I64 r.glob) := hss.2.1
        have HS3 : Hid (I64 r.add) := hss.2.2
        have HTK : Hid (flatC rlC (rls.take (k + 1)) = flatC rlC (rls.take k) ++ [.int .i64 r.off, .int .i64 r.glob, .int .i64 r.add]) := by show _ = _; rw [take_succ hs, flatC_snoc]; rfl
        have hkl : Hid (k ≤ 1000000) := Nat.le_trans hk HRN.out
        obtain ⟨lr, hlr⟩ : ∃ r, r = (rls.drop (k + 1)).map lnR ++ ls2 := ⟨_, rfl⟩
        rw [← hlr] at HRR2 HLN
        have HLR : Hid (lr = (rls.drop (k + 1)).map lnR ++ ls2) := hlr
        have cB := begins_yes HRR2.out (HM.out _ HTR.out) (cut_r r)
        rw [split_r] at cB
        unfold relocWd at cB
        clear hlr hln hs hss HRR hk
        go_upto_region 8 with (first | (go_at_call 100; refine cB.mono ?_; rintro e w8 ⟨rfl, hR8, hT8⟩; have HR8 : Hid (RdT w8 rb mb lr [decS r.off, decS r.glob, decS r.add]) := hR8; have HT8 : Hid (Turned w w8 (fun k => k = rb)) := HTR.out.trans hT8 (fun _ _ h => h); have HF8 : Hid (w8.heap[fb]? = some (.cells #[.string nm, .int .i64 (n : Int), .int .i64 al, .slice (some ⟨g, 0, none⟩) n n, .slice sp k sc] TOb (0, 0))) := blk_t HFB.out hT8 (by omega); have HG8 : Hid (w8.heap[g]? = some (.cells (byV bs).toArray TBy (0, 0))) := blk_t HGB.out hT8 (by omega); have HZ8 : Hid (w8.heap[w.heap.size]? = some (.cells zOb TOb (0, 0))) := blk_t HZO.out hT8 (by omega); have HO8 : Hid (w8.ownsRow w.heap.size TRl 3 (.slice sp k sc) k (flatC rlC (rls.take k))) := own_rd HOW.out hT8 HRR2.out (by decide); clear hR8 hT8 cB) | fail)
        obtain ⟨i0, hi, hz0, hz1, hz2⟩ := info_parts infoRl
        have m4 : w8.cell? ⟨fb, 4, none⟩ = some (.slice sp k sc) := (Lib.cell_of_heap HF8.out 4).trans rfl
        have bd : Below w8.heap.size w8 w8.drew := (Below.refl _ _).drew
        have HTd : Hid (Turned w w8.drew (fun k => k = rb)) := HT8.out.bel bd
        have HC1 : Hid (Calls Tryz.prog 103 #[.pointer (some ⟨rb, 0, none⟩)] w8.drew fun e w' => e = .returned (.int .i64 r.off) ∧ RdT w' rb mb lr [decS r.glob, decS r.add] ∧ Turned w8.drew w' (fun k => k = rb)) := HCN.out r.off HS1.out _ _ _ (HX.out _ HTd.out) (HR8.out.below bd)
        clear bd
        go_region_law (first
          | (refine step_call_fn rfl 103 #[.pointer (some ⟨rb, 0, none⟩)] (by kernel_rfl) HC1.out ?_; rintro e w9 ⟨rfl, hR9, hT9⟩; have hT9' : Turned w8 w9 (fun k => k = rb) := (Turned.of_below (Below.refl _ w8).drew _).trans hT9 (fun _ _ h => h); have hF9 := blk_t HF8.out hT9' (by omega); have c9 : w9.cell? ⟨fb, 4, none⟩ = some (.slice sp k sc) := (Lib.cell_of_heap hF9 4).trans rfl; have HFa : Hid (w9.heap[fb]? = some (.cells #[.string nm, .int .i64 (n : Int), .int .i64 al, .slice (some ⟨g, 0, none⟩) n n, .slice sp k sc] TOb (0, 0))) := hF9; have HGa : Hid (w9.heap[g]? = some (.cells (byV bs).toArray TBy (0, 0))) := blk_t HG8.out hT9' (by omega); have HZa : Hid (w9.heap[w.heap.size]? = some (.cells zOb TOb (0, 0))) := blk_t HZ8.out hT9' (by omega); have HOa : Hid (w9.ownsRow w.heap.size TRl 3 (.slice sp k sc) k (flatC rlC (rls.take k))) := own_rd HO8.out hT9' HR8.out (by decide); have HRa : Hid (RdT w9 rb mb lr [decS r.glob, decS r.add]) := hR9; have HTa : Hid (Turned w w9 (fun k => k = rb)) := HT8.out.trans hT9' (fun _ _ h => h); have HC2 : Hid (Calls Tryz.prog 103 #[.pointer (some ⟨rb, 0, none⟩)] w9 fun e w' => e = .returned (.int .i64 r.glob) ∧ RdT w' rb mb lr [decS r.add] ∧ Turned w9 w' (fun k => k = rb)) := HCN.out r.glob HS2.out _ _ _ (HX.out _ HTa.out) hR9; clear hR9 hT9 hT9' hF9; refine ⟨_, rfl, ?_⟩)
          | (refine step_call_fn rfl 103 #[.pointer (some ⟨rb, 0, none⟩)] (by kernel_rfl) HC2.out ?_; rintro e w10 ⟨rfl, hR9, hT9⟩; have hF9 := blk_t HFa.out hT9 (by omega); have c10 : w10.cell? ⟨fb, 4, none⟩ = some (.slice sp k sc) := (Lib.cell_of_heap hF9 4).trans rfl; have HFb : Hid (w10.heap[fb]? = some (.cells #[.string nm, .int .i64 (n : Int), .int .i64 al, .slice (some ⟨g, 0, none⟩) n n, .slice sp k sc] TOb (0, 0))) := hF9; have HGb : Hid (w10.heap[g]? = some (.cells (byV bs).toArray TBy (0, 0))) := blk_t HGa.out hT9 (by omega); have HZb : Hid (w10.heap[w.heap.size]? = some (.cells zOb TOb (0, 0))) := blk_t HZa.out hT9 (by omega); have HOb : Hid (w10.ownsRow w.heap.size TRl 3 (.slice sp k sc) k (flatC rlC (rls.take k))) := own_rd HOa.out hT9 HRa.out (by decide); have HRb : Hid (RdT w10 rb mb lr [decS r.add]) := hR9; have HTb : Hid (Turned w w10 (fun k => k = rb)) := HTa.out.trans hT9 (fun _ _ h => h); have HC3 : Hid (Calls Tryz.prog 103 #[.pointer (some ⟨rb, 0, none⟩)] w10 fun e w' => e = .returned (.int .i64 r.add) ∧ RdT w' rb mb lr [] ∧ Turned w10 w' (fun k => k = rb)) := HCN.out r.add HS3.out _ _ _ (HX.out _ HTb.out) hR9; clear hR9 hT9 hF9; refine ⟨_, rfl, ?_⟩)
          | (refine step_call_fn rfl 103 #[.pointer (some ⟨rb, 0, none⟩)] (by kernel_rfl) HC3.out ?_; rintro e w11 ⟨rfl, hR10, hT10⟩; have hF10 := blk_t HFb.out hT10 (by omega); have c11 : w11.cell? ⟨fb, 4, none⟩ = some (.slice sp k sc) := (Lib.cell_of_heap hF10 4).trans rfl; have b10 := below1 w11 (.cells #[.int .i64 r.off, .int .i64 r.glob, .int .i64 r.add] TRl); have hF11 := blk_b hF10 b10; have c12 : (w11.alloc (.cells #[.int .i64 r.off, .int .i64 r.glob, .int .i64 r.add] TRl)).cell? ⟨fb, 4, none⟩ = some (.slice sp k sc) := (Lib.cell_of_heap hF11 4).trans rfl; have HF11 : Hid ((w11.alloc (.cells #[.int .i64 r.off, .int .i64 r.glob, .int .i64 r.add] TRl)).heap[fb]? = some (.cells #[.string nm, .int .i64 (n : Int), .int .i64 al, .slice (some ⟨g, 0, none⟩) n n, .slice sp k sc] TOb (0, 0))) := hF11; have HG11 : Hid ((w11.alloc (.cells #[.int .i64 r.off, .int .i64 r.glob, .int .i64 r.add] TRl)).heap[g]? = some (.cells (byV bs).toArray TBy (0, 0))) := blk_b (blk_t HGb.out hT10 (by omega)) b10; have HZ11 : Hid ((w11.alloc (.cells #[.int .i64 r.off, .int .i64 r.glob, .int .i64 r.add] TRl)).heap[w.heap.size]? = some (.cells zOb TOb (0, 0))) := blk_b (blk_t HZb.out hT10 (by omega)) b10; have HO11 : Hid ((w11.alloc (.cells #[.int .i64 r.off, .int .i64 r.glob, .int .i64 r.add] TRl)).ownsRow w.heap.size TRl 3 (.slice sp k sc) k (flatC rlC (rls.take k))) := own_below (own_rd HOb.out hT10 HRb.out (by decide)) b10; have HR11 : Hid (RdT (w11.alloc (.cells #[.int .i64 r.off, .int .i64 r.glob, .int .i64 r.add] TRl)) rb mb lr []) := hR10.below b10; have HT11 : Hid (Turned w (w11.alloc (.cells #[.int .i64 r.off, .int .i64 r.glob, .int .i64 r.add] TRl)) (fun k => k = rb)) := (HTb.out.trans hT10 (fun _ _ h => h)).bel b10; clear hR10 hT10 hF10 hF11 b10; refine ⟨_, rfl, ?_⟩)
          | (refine step_append_own_at rfl (.tmp 35) (.tmp 43) 68 rfl w.heap.size TRl i0 _ 3 24 Tryz.underlying68 hi hz0 hz1 hz2 rfl (by decide) _ k _ rfl HO11.out ⟨w11.heap.size, 0, none⟩ 1 1 (#[.int .i64 r.off, .int .i64 r.glob, .int .i64 r.add] : Array Value).toList rfl rfl (cells_new _ _ _) (by simp [Value.oneCell']) (by have := hkl.out; unfold maxLen; omega) (by have := hkl.out; omega) (HT11.out.size) ?_; intro v' w12 hown hgrow hnil hat; obtain ⟨p', cap', rfl⟩ := slice_of_own hown; have hF12 : w12.heap[fb]? = some (.cells #[.string nm, .int .i64 (n : Int), .int .i64 al, .slice (some ⟨g, 0, none⟩) n n, .slice sp k sc] TOb (0, 0)) := (hgrow.block fb (lt_of_heap HF11.out) (fun e => by obtain ⟨_, cur, hcur⟩ := ownsRow_at HO11.out e.symm; rw [HF11.out] at hcur; injection hcur with q1; injection q1 with _ q2; exact absurd q2 (by decide))).trans HF11.out; have c13 : w12.cell? ⟨fb, 4, none⟩ = some (.slice sp k sc) := (Lib.cell_of_heap hF12 4).trans rfl; have f12 := frozen_of hF12 4; have HF12 : Hid (w12.heap[fb]? = some (.cells #[.string nm, .int .i64 (n : Int), .int .i64 al, .slice (some ⟨g, 0, none⟩) n n, .slice sp k sc] TOb (0, 0))) := hF12; have HOW2 : Hid (World.ownsRow _ _ _ _ _ _ _) := hown; have HGR : Hid (World.grownBy _ _ _) := hgrow; clear hown hgrow hnil hat hF12))
        all_goals
          have t13 : Turned w12 (w12.setCell ⟨fb, 4, none⟩ (.slice p' (k + 1) cap')) (fun k => k = fb) := Turned.setCell w12 fb 4 _ rfl
          have tg : Turned (w11.alloc (.cells #[.int .i64 r.off, .int .i64 r.glob, .int .i64 r.add] TRl)) w12 (fun k_1 => (Value.slice sp k sc).ownBlock = some k_1) := Turned.of_grown HGR.out (fun k e => e)
          have hgt : ∀ j, (Value.slice sp k sc).ownBlock = some j → ∃ cs, (w11.alloc (.cells #[.int .i64 r.off, .int .i64 r.glob, .int .i64 r.add] TRl)).heap[j]? = some (.cells cs TRl (0, 0)) := fun j hj => by obtain ⟨_, cur, hcur⟩ := ownsRow_at HO11.out hj; exact ⟨cur, hcur⟩
          have hR12 : RdT w12 rb mb lr [] := HR11.out.offS (ty := TRl) tg hgt (by decide) (by decide)
          have hR13 := hR12.off t13 HF12.out (by decide) (by decide)
          have hZ12 : w12.heap[w.heap.size]? = some (.cells zOb TOb (0, 0)) := blk_t HZ11.out tg (fun hk => by
            obtain ⟨cur, hcur⟩ := hgt _ hk
            rw [HZ11.out] at hcur; injection hcur with q1; injection q1 with _ q2; exact absurd q2 (by decide))
          have hG12 : w12.heap[g]? = some (.cells (byV bs).toArray TBy (0, 0)) := blk_t HG11.out tg (fun hk => by
            obtain ⟨cur, hcur⟩ := hgt _ hk
            rw [HG11.out] at hcur; injection hcur with q1; injection q1 with _ q2; exact absurd q2 (by decide))
          have hgf : g ≠ fb := by
            rintro rfl
            have h1 := HF12.out
            rw [hG12] at h1
            injection h1 with q1
            injection q1 with _ q2
            exact absurd q2 (by decide)
          have hT12 : Turned w w12 (fun k => k = rb) := HT11.out.trans tg (fun i hi hk => by have := (ownsRow_at HO11.out hk).1; omega)
          have HR13 : Hid (RdT (w12.setCell ⟨fb, 4, none⟩ (.slice p' (k + 1) cap')) rb mb lr []) := hR13
          have HF13 : Hid ((w12.setCell ⟨fb, 4, none⟩ (.slice p' (k + 1) cap')).heap[fb]? = some (.cells #[.string nm, .int .i64 (n : Int), .int .i64 al, .slice (some ⟨g, 0, none⟩) n n, .slice p' (k + 1) cap'] TOb (0, 0))) := heap_setCell (j := 4) HF12.out _
          have HZ13 : Hid ((w12.setCell ⟨fb, 4, none⟩ (.slice p' (k + 1) cap')).heap[w.heap.size]? = some (.cells zOb TOb (0, 0))) := blk_t hZ12 t13 (by omega)
          have HG13 : Hid ((w12.setCell ⟨fb, 4, none⟩ (.slice p' (k + 1) cap')).heap[g]? = some (.cells (byV bs).toArray TBy (0, 0))) := blk_t hG12 t13 hgf
          have HT13 : Hid (Turned w (w12.setCell ⟨fb, 4, none⟩ (.slice p' (k + 1) cap')) (fun k => k = rb)) := hT12.trans t13 (fun i hi e => by omega)
          have HO13 : Hid ((w12.setCell ⟨fb, 4, none⟩ (.slice p' (k + 1) cap')).ownsRow w.heap.size TRl 3 (.slice p' (k + 1) cap') (k + 1) (flatC rlC (rls.take (k + 1)))) := by
            show World.ownsRow _ _ _ _ _ _ _
            rw [HTK.out]
            exact own_apart HOW2.out t13 HF12.out (by decide)
          have cD := done_c hR13
          clear t13 tg hgt hR12 hR13 hZ12 hG12 hgf hT12
        all_goals go_wp2_with (first | (go_at_call 104; refine cD.mono ?_; rintro e w' ⟨rfl, hw⟩; rw [hw]; clear hw w' cD) | fail)
        all_goals
          refine ⟨⟨k + 1, p', cap', by omega, HF13, HG13, HO13, HZ13, Lib.hid (by rw [← HLR.out]; exact HR13.out), HT13⟩, ?_⟩
          rw [HLN.out, lenAt_eq HR13.out]
          omega
      · obtain rfl : k = rls.length := by omega
        have hln : (rls.drop rls.length).map lnR ++ ls2 = ls2 := by rw [List.drop_length]; rfl
        have HRE : Hid (RdT wr rb mb ls2 []) := by show RdT _ _ _ _ _; rw [← hln]; exact HRR.out
        have hos := HOW.out
        rw [List.take_length] at hos
        have HOS : Hid (wr.ownsRow w.heap.size TRl 3 (.slice sp rls.length sc) rls.length (flatC rlC rls)) := hos
        clear hln HRR hos HOW
        have cB := begins_no HRE.out (HM.out _ HTR.out) HNR.out
        unfold relocWd at cB
        go_wp2_with (first
          | (go_at_call 100; refine cB.mono ?_; rintro e w6 ⟨rfl, hb6⟩; have HR6 : Hid (RdT w6 rb mb ls2 []) := HRE.out.below hb6; have HT6 : Hid (Turned w w6 (fun k => k = rb)) := HTR.out.bel hb6; have hF6 := blk_b HFB.out hb6; have HG6 : Hid (w6.heap[g]? = some (.cells (byV bs).toArray TBy (0, 0))) := blk_b HGB.out hb6; have hzb2 := blk_b HZO.out hb6; have HO6 : Hid (w6.ownsRow w.heap.size TRl 3 (.slice sp rls.length sc) rls.length (flatC rlC rls)) := own_below HOS.out hb6; have q0 := (Lib.cell_of_heap hF6 0).trans rfl; have q1 := (Lib.cell_of_heap hF6 1).trans rfl; have q2 := (Lib.cell_of_heap hF6 2).trans rfl; have q3 := (Lib.cell_of_heap hF6 3).trans rfl; have q4 := (Lib.cell_of_heap hF6 4).trans rfl; clear hb6 cB hF6)
          | ((with_reducible apply step_store hzb2); rfl; rfl; kernel_rfl; rfl; kernel_rfl)
          | fail)
        have g9 : (w6.setRow w.heap.size #[.string nm, .int .i64 (n : Int), .int .i64 al, .slice (some ⟨g, 0, none⟩) n n, .slice sp rls.length sc]).heap[w.heap.size]? = some (.cells #[.string nm, .int .i64 (n : Int), .int .i64 al, .slice (some ⟨g, 0, none⟩) n n, .slice sp rls.length sc] TOb (0, 0)) := setRow_heap _ _ _ _ _ _ hzb2
        have t9 : Turned w6 (w6.setRow w.heap.size #[.string nm, .int .i64 (n : Int), .int .i64 al, .slice (some ⟨g, 0, none⟩) n n, .slice sp rls.length sc]) (fun k => k = w.heap.size) := Turned.setRow w6 _ _ rfl
        have p0 := (Lib.cell_of_heap g9 0).trans rfl
        have p1 := (Lib.cell_of_heap g9 1).trans rfl
        have p2 := (Lib.cell_of_heap g9 2).trans rfl
        have p3 := (Lib.cell_of_heap g9 3).trans rfl
        have p4 := (Lib.cell_of_heap g9 4).trans rfl
        refine bodyPost_ret (v := .agg #[.string nm, .int .i64 (n : Int), .int .i64 al, .slice (some ⟨g, 0, none⟩) n n, .slice sp rls.length sc]) (by simp [results, Tryz.results101, go_sem, p0, p1, p2, p3, p4]) rfl ⟨⟨⟨nm, (n : Int), al, some ⟨g, 0, none⟩, n, n, sp, rls.length, sc⟩, bs, rls⟩, rfl, rfl, rfl, rfl, rfl, rfl, ⟨HNB.out, rfl, ?_, own_apart HO6.out t9 hzb2 (by decide)⟩, HR6.out.off t9 hzb2 (by decide) (by decide), HT6.out.trans t9 (fun i hi e => by omega)⟩
        have h := HOB.out (w6.setRow w.heap.size #[.string nm, .int .i64 (n : Int), .int .i64 al, .slice (some ⟨g, 0, none⟩) n n, .slice sp rls.length sc]) g (blk_t HG6.out t9 (by omega)) (by omega)
        show World.ownsRow _ _ _ _ (.slice (some ⟨g, 0, none⟩) bs.length n) _ _
        rw [← HNB.out]
        exact h
end
end Go.Proofs.YtaaphipbkpjkjaaGreatDoor
