/-
  A text of one function is a program: Parse of package tac, where it does not give up.
  A program of one function is read: program of package tac's reader, where it does not give up.
  A text is read: attempt and Parse of package tac, where they do not give up.
-/
import Derived.Test.YtaaphipbkpjkjaaGreatDoorTeH
import Derived.Defers
import Derived.Recover
namespace Go.Proofs.YtaaphipbkpjkjaaGreatDoor
open Go.RowKit Go.Maps
set_option linter.unusedVariables false
set_option linter.unusedSimpArgs false
set_option maxRecDepth 100000
def objectWd : ByteArray := ⟨#[111, 98, 106, 101, 99, 116]⟩
def funcWd : ByteArray := ⟨#[102, 117, 110, 99]⟩
def mainWd : ByteArray := ⟨#[109, 97, 105, 110]⟩
theorem infoFn : (Tryz.prog.info? TFn).map (fun i => (i.zero, i.size, i.bytes)) = some (some (.agg zFn), 6, 88) := by kernel_rfl
def zPg : Array Value := #[.slice none 0 0, .slice none 0 0, .int .i64 0]
def measP (w : World) (b : Nat) : Nat := match w.cell? ⟨b, 1, none⟩ with
  | some (.slice _ 0 _) => 1
  | _ => 0
/-- What a text of one function says. -/
structure OneF (ls : List ByteArray) (nm : ByteArray) (pr tp : Int) (gv : Bool) (cs : List In) (mn : Int) : Prop where
  ex : ∃ lf r0 lm p1 t1 rest ms, ls = lf :: r0 ∧ cutW lf = funcWd ∧ (splitL lf 32).tail = nm :: p1 :: t1 :: rest ∧ num64 p1 = some pr ∧ num64 t1 = some tp ∧ rest = (if gv then [givesW] else []) ∧
    ((firstW r0).toList == slotWd.toList) = false ∧ codeR r0 = some (cs, [lm]) ∧ cutW lm = mainWd ∧ (splitL lm 32).tail = [ms] ∧ num64 ms = some mn
  cl : cs.length ≤ 1000000
  l8 : ∀ y ∈ cs, ∀ c ∈ fieldTab.getD y.op.toNat [], c ∈ letters8
section
variable {w : World} {rb mb : Nat}
set_option maxHeartbeats 8000000 in
theorem programR_c (hX : Tabs w) (hF : FormsIn w) (hM : MaxIn w) (hrb : 10 ≤ rb) {ls ws : List ByteArray} (hR : RdT w rb mb ls ws) {nm : ByteArray} {pr tp mn : Int} {gv : Bool} {cs : List In} (hO : OneF ls nm pr tp gv cs mn) :
    Calls Tryz.prog 72 #[.pointer (some ⟨rb, 0, none⟩)] w fun e w' => ∃ fp fc v, e = .returned (.agg #[.slice none 0 0, .slice fp 1 fc, .int .i64 mn]) ∧ w'.ownsRow w.heap.size TFn 6 (.slice fp 1 fc) 1 [.string nm, .int .i64 pr, .int .i64 tp, .bool gv, .slice none 0 0, v] ∧ w'.ownsRow w.heap.size TIn 12 v cs.length (insC cs) ∧ Turned w w' (fun k => k = rb) := by
  obtain ⟨⟨lf, r0, lm, p1, t1, rest, ms, rfl, hcf, hsf, hp1, ht1, hrest, hslot, hcode, hcm, hsm, hms⟩, hcl, h8⟩ := hO
  have hrl : rb < w.heap.size := by obtain ⟨⟨_, _, _, _, hg, _⟩, _⟩ := hR; exact lt_of_heap hg
  have b1 := below1 w (.cells zPg TPg)
  have hz1 : (w.alloc (.cells zPg TPg)).heap.size = w.heap.size + 1 := by simp
  have b2 := below1 (w.alloc (.cells zPg TPg)) (.cells zPg TPg)
  have N1 := blk_b (heap_r0 w (.cells zPg TPg)) b2
  have N2 := heap_r0 (w.alloc (.cells zPg TPg)) (.cells zPg TPg)
  rw [hz1] at N2
  have HB : Hid (Below w.heap.size w ((w.alloc (.cells zPg TPg)).alloc (.cells zPg TPg))) := b1.trans (b2.mono b1.size)
  have HN1 : Hid (((w.alloc (.cells zPg TPg)).alloc (.cells zPg TPg)).heap[w.heap.size]? = some (.cells zPg TPg (0, 0))) := N1
  have HN2 : Hid (((w.alloc (.cells zPg TPg)).alloc (.cells zPg TPg)).heap[w.heap.size + 1]? = some (.cells zPg TPg (0, 0))) := N2
  have HR2 : Hid (RdT ((w.alloc (.cells zPg TPg)).alloc (.cells zPg TPg)) rb mb (lf :: r0) ws) := hR.below HB.out
  have HX : Hid (∀ Y, Turned w Y (fun k => k = rb) → Tabs Y) := fun Y hY => hX.turned hY hrb
  have HFO : Hid (∀ Y, Turned w Y (fun k => k = rb) → FormsIn Y) := fun Y hY => hF.turned hY hrb
  have HM : Hid (∀ Y, Turned w Y (fun k => k = rb) → MaxIn Y) := fun Y hY => hM.turned hY (by omega)
  have HCFN : Hid (∀ Y, Tabs Y → FormsIn Y → MaxIn Y → RdT Y rb mb r0 (nm :: p1 :: t1 :: rest) → Calls Tryz.prog 102 #[.pointer (some ⟨rb, 0, none⟩)] Y fun e w' => ∃ v, e = .returned (.agg #[.string nm, .int .i64 pr, .int .i64 tp, .bool gv, .slice none 0 0, v]) ∧ w'.ownsRow Y.heap.size TIn 12 v cs.length (insC cs) ∧ RdT w' rb mb [lm] [] ∧ Turned Y w' (fun k => k = rb)) :=
    fun Y h1 h2 h3 h4 => functionR_c h1 h2 h3 hrb h4 hp1 ht1 hrest hslot hcode hcl h8
  have HCMN : Hid (∀ Y, Tabs Y → RdT Y rb mb [] [ms] → Calls Tryz.prog 103 #[.pointer (some ⟨rb, 0, none⟩)] Y fun e w' => e = .returned (.int .i64 mn) ∧ RdT w' rb mb [] [] ∧ Turned Y w' (fun k => k = rb)) := fun Y h1 h2 => number_c h1 hrb h2 (num64_ok hms).1 (num64_ok hms).2.1 (num64_ok hms).2.2
  have HSF : Hid ((splitL lf 32).tail = nm :: p1 :: t1 :: rest) := hsf
  have HSM : Hid ((splitL lm 32).tail = [ms]) := hsm
  have HCF0 : Hid (cutW lf = funcWd) := hcf
  have HCM0 : Hid (cutW lm = mainWd) := hcm
  have n1 : (funcWd.toList == objectWd.toList) = false := by decide +kernel
  have n2 : (mainWd.toList == funcWd.toList) = false := by decide +kernel
  clear b1 b2 N1 N2 hX hF hM hR hp1 ht1 hrest hslot hcode hcl h8 hms hsf hsm hcf hcm hz1
  go_enter Tryz.func72, Tryz.ntmps72
  go_wp2
  refine (?_ : Code.wp _ _ _ _ ((w.alloc (.cells zPg TPg)).alloc (.cells zPg TPg)))
  generalize (w.alloc (.cells zPg TPg)).alloc (.cells zPg TPg) = W1 at *
  have HT1 : Hid (Turned w W1 (fun k => k = rb)) := Turned.of_below HB.out _
  go_loopw [5] (fun s3 wr => Hid (wr = W1)) (fun _ _ => 0)
  case atStart => exact rfl
  case round =>
    obtain rfl : wr = W1 := hrel
    have cB := begins_no (f := ⟨#[111, 98, 106, 101, 99, 116]⟩) HR2.out (HM.out _ HT1.out) (by show ((cutW lf).toList == _) = false; rw [HCF0.out]; exact n1)
    go_wp2_with (first | (go_at_call 100; refine cB.mono ?_; rintro e w2 ⟨rfl, hb2⟩; have HR3 : Hid (RdT w2 rb mb (lf :: r0) ws) := HR2.out.below hb2; have HT2 : Hid (Turned w w2 (fun k => k = rb)) := HT1.out.bel hb2; have HZ2 : Hid (w2.heap[w.heap.size]? = some (.cells zPg TPg (0, 0))) := blk_b HN1.out hb2; have HP2 : Hid (w2.heap[w.heap.size + 1]? = some (.cells zPg TPg (0, 0))) := blk_b HN2.out hb2; clear hb2 cB) | fail)
    clear HR2 HT1 HN1 HN2 HB
    go_loopw [19] (fun s19 wr => Hid (wr.heap[w.heap.size]? = some (.cells zPg TPg (0, 0))) ∧ Hid (Turned w wr (fun k => k = rb)) ∧ ((Hid (wr.heap[w.heap.size + 1]? = some (.cells zPg TPg (0, 0))) ∧ Hid (RdT wr rb mb (lf :: r0) ws)) ∨ ∃ fp fc v, Hid (wr.heap[w.heap.size + 1]? = some (.cells #[.slice none 0 0, .slice fp 1 fc, .int .i64 0] TPg (0, 0))) ∧ Hid (RdT wr rb mb [lm] []) ∧ Hid (wr.ownsRow w.heap.size TFn 6 (.slice fp 1 fc) 1 [.string nm, .int .i64 pr, .int .i64 tp, .bool gv, .slice none 0 0, v]) ∧ Hid (wr.ownsRow w.heap.size TIn 12 v cs.length (insC cs)))) (fun _ wr => measP wr (w.heap.size + 1))
    case atStart => exact ⟨HZ2, HT2, Or.inl ⟨HP2, HR3⟩⟩
    case round =>
      rename World => wr
      obtain ⟨HZ, HTR, ⟨HPB, HRR⟩ | ⟨fp, fc, v, HPB, HRR, HOF, HOV⟩⟩ := hrel
      · have cB := begins_yes HRR.out (HM.out _ HTR.out) HCF0.out
        rw [HSF.out] at cB
        unfold funcWd at cB
        have HME : Hid (measP wr (w.heap.size + 1) = 1) := by show measP _ _ = 1; unfold measP; rw [Lib.cell_of_heap HPB.out 1]; rfl
        obtain ⟨i0, hi, hz0, hz1, hz2⟩ := info_parts infoFn
        go_upto_region 6 with (first | (go_at_call 100; refine cB.mono ?_; rintro e w3 ⟨rfl, hR4, hT4⟩; have HR4 : Hid (RdT w3 rb mb r0 (nm :: p1 :: t1 :: rest)) := hR4; have HT4 : Hid (Turned w w3 (fun k => k = rb)) := HTR.out.trans hT4 (fun _ _ h => h); have HZ4 : Hid (w3.heap[w.heap.size]? = some (.cells zPg TPg (0, 0))) := blk_t HZ.out hT4 (by omega); have HP4 : Hid (w3.heap[w.heap.size + 1]? = some (.cells zPg TPg (0, 0))) := blk_t HPB.out hT4 (by omega); clear hR4 hT4 cB) | fail)
        have m5 : w3.cell? ⟨w.heap.size + 1, 1, none⟩ = some (.slice none 0 0) := (Lib.cell_of_heap HP4.out 1).trans rfl
        have bd : Below w3.heap.size w3 w3.drew := (Below.refl _ _).drew
        have HTd : Hid (Turned w w3.drew (fun k => k = rb)) := HT4.out.bel bd
        have HCI : Hid (Calls Tryz.prog 102 #[.pointer (some ⟨rb, 0, none⟩)] w3.drew fun e w' => ∃ v, e = .returned (.agg #[.string nm, .int .i64 pr, .int .i64 tp, .bool gv, .slice none 0 0, v]) ∧ w'.ownsRow w3.heap.size TIn 12 v cs.length (insC cs) ∧ RdT w' rb mb [lm] [] ∧ Turned w3.drew w' (fun k => k = rb)) := HCFN.out _ (HX.out _ HTd.out) (HFO.out _ HTd.out) (HM.out _ HTd.out) (HR4.out.below bd)
        clear bd HCFN
        go_region_law (first
          | (refine step_call_fn rfl 102 #[.pointer (some ⟨rb, 0, none⟩)] (by kernel_rfl) HCI.out ?_; rintro e w9 ⟨v, rfl, hOv, hR9, hT9⟩; obtain ⟨vp, vc, rfl⟩ := slice_of_own hOv; have hT9' : Turned w3 w9 (fun k => k = rb) := (Turned.of_below (Below.refl _ w3).drew _).trans hT9 (fun _ _ h => h); have b9 := below1 w9 (.cells #[.string nm, .int .i64 pr, .int .i64 tp, .bool gv, .slice none 0 0, .slice vp cs.length vc] TFn); have hF9 := blk_t HP4.out hT9' (by omega); have c9 : w9.cell? ⟨w.heap.size + 1, 1, none⟩ = some (.slice none 0 0) := (Lib.cell_of_heap hF9 1).trans rfl; have hF10 := blk_b hF9 b9; have c10 : (w9.alloc (.cells #[.string nm, .int .i64 pr, .int .i64 tp, .bool gv, .slice none 0 0, .slice vp cs.length vc] TFn)).cell? ⟨w.heap.size + 1, 1, none⟩ = some (.slice none 0 0) := (Lib.cell_of_heap hF10 1).trans rfl; have HF10 : Hid ((w9.alloc (.cells #[.string nm, .int .i64 pr, .int .i64 tp, .bool gv, .slice none 0 0, .slice vp cs.length vc] TFn)).heap[w.heap.size + 1]? = some (.cells zPg TPg (0, 0))) := hF10; have HZ10 : Hid ((w9.alloc (.cells #[.string nm, .int .i64 pr, .int .i64 tp, .bool gv, .slice none 0 0, .slice vp cs.length vc] TFn)).heap[w.heap.size]? = some (.cells zPg TPg (0, 0))) := blk_b (blk_t HZ4.out hT9' (by omega)) b9; have HR10 : Hid (RdT (w9.alloc (.cells #[.string nm, .int .i64 pr, .int .i64 tp, .bool gv, .slice none 0 0, .slice vp cs.length vc] TFn)) rb mb [lm] []) := hR9.below b9; have HT10 : Hid (Turned w (w9.alloc (.cells #[.string nm, .int .i64 pr, .int .i64 tp, .bool gv, .slice none 0 0, .slice vp cs.length vc] TFn)) (fun k => k = rb)) := (HT4.out.trans hT9' (fun _ _ h => h)).bel b9; have HV10 : Hid ((w9.alloc (.cells #[.string nm, .int .i64 pr, .int .i64 tp, .bool gv, .slice none 0 0, .slice vp cs.length vc] TFn)).ownsRow w.heap.size TIn 12 (.slice vp cs.length vc) cs.length (insC cs)) := ownsRow_base (ownsRow_turned hOv (Turned.of_below b9 (fun _ => False)) (fun _ _ h => h)) HT4.out.size; have HO10 : Hid ((w9.alloc (.cells #[.string nm, .int .i64 pr, .int .i64 tp, .bool gv, .slice none 0 0, .slice vp cs.length vc] TFn)).ownsRow w.heap.size TFn 6 (.slice none 0 0) 0 []) := ⟨rfl, Or.inl ⟨rfl, rfl⟩⟩; clear hR9 hT9 hT9' b9 hF9 hF10 hOv; refine ⟨_, rfl, ?_⟩)
          | (refine step_append_own_at rfl (.tmp 21) (.tmp 24) 23 rfl w.heap.size TFn i0 _ 6 88 Tryz.underlying23 hi hz0 hz1 hz2 rfl (by decide) _ 0 _ rfl HO10.out ⟨w9.heap.size, 0, none⟩ 1 1 (#[.string nm, .int .i64 pr, .int .i64 tp, .bool gv, .slice none 0 0, .slice vp cs.length vc]).toList rfl rfl (cells_new _ _ _) (by simp [Value.oneCell']) (by unfold maxLen; omega) (by omega) (HT10.out.size) ?_; intro v' w11 hown hgrow hnil hat; obtain ⟨p', cap', rfl⟩ := slice_of_own hown; have hF11 : w11.heap[w.heap.size + 1]? = some (.cells zPg TPg (0, 0)) := (hgrow.block _ (lt_of_heap HF10.out) (fun e => by cases e)).trans HF10.out; have c11 : w11.cell? ⟨w.heap.size + 1, 1, none⟩ = some (.slice none 0 0) := (Lib.cell_of_heap hF11 1).trans rfl; have f11 := frozen_of hF11 1; have HF11 : Hid (w11.heap[w.heap.size + 1]? = some (.cells zPg TPg (0, 0))) := hF11; have HOW : Hid (World.ownsRow _ _ _ _ _ _ _) := hown; have HGR : Hid (World.grownBy _ _ _) := hgrow; clear hown hgrow hnil hat hF11))
        all_goals go_wp2
        all_goals
          have t12 : Turned w11 (w11.setCell ⟨w.heap.size + 1, 1, none⟩ (.slice p' 1 cap')) (fun k => k = w.heap.size + 1) := Turned.setCell w11 _ 1 _ rfl
          have tg : Turned (w9.alloc (.cells #[.string nm, .int .i64 pr, .int .i64 tp, .bool gv, .slice none 0 0, .slice vp cs.length vc] TFn)) w11 (fun _ => False) := Turned.of_grown HGR.out (fun k e => by cases e)
          have hR11 : RdT w11 rb mb [lm] [] := HR10.out.offS (ty := TIn) tg (fun k hk => hk.elim) (by decide) (by decide)
          have g12 : (w11.setCell ⟨w.heap.size + 1, 1, none⟩ (.slice p' 1 cap')).heap[w.heap.size + 1]? = some (.cells #[.slice none 0 0, .slice p' 1 cap', .int .i64 0] TPg (0, 0)) := heap_setCell (j := 1) HF11.out _
          have hap : ∀ {ty : TypeId} {n m : Nat} {u : Value} {xs : List Value}, ty ≠ TPg → w11.ownsRow w.heap.size ty n u m xs → (w11.setCell ⟨w.heap.size + 1, 1, none⟩ (.slice p' 1 cap')).ownsRow w.heap.size ty n u m xs := fun hty ho => ownsRow_turned ho t12 (fun k hk e => by
            obtain ⟨_, cur, hcur⟩ := ownsRow_at ho hk
            rw [e, HF11.out] at hcur
            injection hcur with q1
            injection q1 with _ q2
            exact hty q2.symm)
          refine ⟨⟨Lib.hid (blk_t (blk_t HZ10.out tg (fun h => h)) t12 (by omega)), Lib.hid ((HT10.out.trans tg (fun _ _ h => h.elim)).trans t12 (fun i hi e => by omega)), Or.inr ⟨p', cap', .slice vp cs.length vc, Lib.hid g12, Lib.hid (hR11.off t12 HF11.out (by decide) (by decide)), Lib.hid (hap (by decide) HOW.out), Lib.hid (hap (by decide) (ownsRow_turned HV10.out tg (fun _ _ h => h)))⟩⟩, ?_⟩
          rw [HME.out]
          unfold measP
          rw [Lib.cell_of_heap g12 1]
          exact Nat.zero_lt_one
      · have cB := begins_no (f := ⟨#[102, 117, 110, 99]⟩) HRR.out (HM.out _ HTR.out) (by show ((cutW lm).toList == _) = false; rw [HCM0.out]; exact n2)
        have cB2 : ∀ Y, Below wr.heap.size wr Y → Calls Tryz.prog 100 #[.pointer (some ⟨rb, 0, none⟩), .string ⟨#[109, 97, 105, 110]⟩] Y fun e w' => e = .returned (.bool true) ∧ RdT w' rb mb [] [ms] ∧ Turned Y w' (fun k => k = rb) := fun Y hY => by
          have h := begins_yes (HRR.out.below hY) ((HM.out _ HTR.out).below hY) HCM0.out
          rw [HSM.out] at h
          exact h
        have HB2 : Hid (∀ Y, Below wr.heap.size wr Y → Calls Tryz.prog 100 #[.pointer (some ⟨rb, 0, none⟩), .string ⟨#[109, 97, 105, 110]⟩] Y fun e w' => e = .returned (.bool true) ∧ RdT w' rb mb [] [ms] ∧ Turned Y w' (fun k => k = rb)) := cB2
        clear cB2
        have keep : ∀ {ty : TypeId} {n m : Nat} {u : Value} {xs : List Value} {Y Z : World}, Turned Y Z (fun k => k = rb) → Y.ownsRow w.heap.size ty n u m xs → Z.ownsRow w.heap.size ty n u m xs := fun ht ho => ownsRow_turned ho ht (fun k hk e => by have := (ownsRow_at ho hk).1; omega)
        have KEEP : Hid (∀ {ty : TypeId} {n m : Nat} {u : Value} {xs : List Value} {Y Z : World}, Turned Y Z (fun k => k = rb) → Y.ownsRow w.heap.size ty n u m xs → Z.ownsRow w.heap.size ty n u m xs) := keep
        clear keep
        obtain ⟨vp, vc, rfl⟩ := slice_of_own HOV.out
        go_upto_region 7 with (first | (go_at_call 100; refine cB.mono ?_; rintro e w3 ⟨rfl, hb3⟩; have HB3 : Hid (Below wr.heap.size wr w3) := hb3; have cM := HB2.out w3 hb3; clear hb3 cB) | fail)
        go_wp2_with (first
          | (go_at_call 100; refine cM.mono ?_; rintro e w4 ⟨rfl, hR4, hT4⟩; have HT4 : Hid (Turned wr w4 (fun k => k = rb)) := (Turned.of_below HB3.out _).trans hT4 (fun _ _ h => h); have cW := want_c w4; have cN := HCMN.out w4 (HX.out _ (HTR.out.trans HT4.out (fun _ _ h => h))) hR4; clear hR4 hT4 cM)
          | (go_at_call 69; refine cW.mono ?_; rintro e w' ⟨rfl, hw⟩; rw [hw]; clear hw w' cW)
          | (go_at_call 103; refine cN.mono ?_; rintro e w5 ⟨rfl, hR5, hT5⟩; have HT5 : Hid (Turned wr w5 (fun k => k = rb)) := HT4.out.trans hT5 (fun _ _ h => h); have HR5 : Hid (RdT w5 rb mb [] []) := hR5; have hP5 := blk_t HPB.out HT5.out (by omega); have p2 := (Lib.cell_of_heap hP5 2).trans rfl; have pf := frozen_of hP5 2; have t6 : Turned w5 (w5.setCell ⟨w.heap.size + 1, 2, none⟩ (.int .i64 mn)) (fun k => k = w.heap.size + 1) := Turned.setCell w5 _ 2 _ rfl; have g6 := heap_setCell (j := 2) hP5 (.int .i64 mn); have hR6 := hR5.off t6 hP5 (by decide) (by decide); have cD := done_c hR6; have cW2 := want_c (w5.setCell ⟨w.heap.size + 1, 2, none⟩ (.int .i64 mn)); obtain ⟨lp6, lc6, wp6, wc6, hg6, _, _⟩ := hR6.ex; have d0 := (Lib.cell_of_heap hg6 0).trans rfl; have s0 := (Lib.cell_of_heap g6 0).trans rfl; have s1 := (Lib.cell_of_heap g6 1).trans rfl; have s2 := (Lib.cell_of_heap g6 2).trans rfl; have hz6 := blk_t (blk_t HZ.out HT5.out (by omega)) t6 (by omega); have HP5 : Hid (w5.heap[w.heap.size + 1]? = some (.cells #[.slice none 0 0, .slice fp 1 fc, .int .i64 0] TPg (0, 0))) := hP5; clear hR5 hT5 cN t6 hR6 hg6 hP5)
          | (go_at_call 104; refine cD.mono ?_; rintro e w' ⟨rfl, hw⟩; rw [hw]; clear hw w' cD)
          | (go_at_call 69; refine cW2.mono ?_; rintro e w' ⟨rfl, hw⟩; rw [hw]; clear hw w' cW2)
          | ((with_reducible apply step_store hz6); rfl; rfl; kernel_rfl; rfl; kernel_rfl)
          | fail)
        have g9 : ((w5.setCell ⟨w.heap.size + 1, 2, none⟩ (.int .i64 mn)).setRow w.heap.size #[.slice none 0 0, .slice fp 1 fc, .int .i64 mn]).heap[w.heap.size]? = some (.cells #[.slice none 0 0, .slice fp 1 fc, .int .i64 mn] TPg (0, 0)) := setRow_heap _ _ _ _ _ _ hz6
        have t6 : Turned w5 (w5.setCell ⟨w.heap.size + 1, 2, none⟩ (.int .i64 mn)) (fun k => k = w.heap.size + 1) := Turned.setCell w5 _ 2 _ rfl
        have t9 : Turned (w5.setCell ⟨w.heap.size + 1, 2, none⟩ (.int .i64 mn)) ((w5.setCell ⟨w.heap.size + 1, 2, none⟩ (.int .i64 mn)).setRow w.heap.size #[.slice none 0 0, .slice fp 1 fc, .int .i64 mn]) (fun k => k = w.heap.size) := Turned.setRow _ _ _ rfl
        have p0 := (Lib.cell_of_heap g9 0).trans rfl
        have p1 := (Lib.cell_of_heap g9 1).trans rfl
        have p2 := (Lib.cell_of_heap g9 2).trans rfl
        have hap : ∀ {ty : TypeId} {n m : Nat} {u : Value} {xs : List Value}, ty ≠ TPg → w5.ownsRow w.heap.size ty n u m xs → ((w5.setCell ⟨w.heap.size + 1, 2, none⟩ (.int .i64 mn)).setRow w.heap.size #[.slice none 0 0, .slice fp 1 fc, .int .i64 mn]).ownsRow w.heap.size ty n u m xs := fun hty ho => by
          have h6 := ownsRow_turned ho t6 (fun k hk e => by
            obtain ⟨_, cur, hcur⟩ := ownsRow_at ho hk
            rw [e, HP5.out] at hcur
            injection hcur with q1
            injection q1 with _ q2
            exact hty q2.symm)
          exact ownsRow_turned h6 t9 (fun k hk e => by
            obtain ⟨_, cur, hcur⟩ := ownsRow_at h6 hk
            rw [e, hz6] at hcur
            injection hcur with q1
            injection q1 with _ q2
            exact hty q2.symm)
        refine bodyPost_ret (v := .agg #[.slice none 0 0, .slice fp 1 fc, .int .i64 mn]) (by simp [results, Tryz.results72, go_sem, p0, p1, p2]) rfl ⟨fp, fc, _, rfl, hap (by decide) (KEEP.out HT5.out HOF.out), hap (by decide) (KEEP.out HT5.out HOV.out), ?_⟩
        exact ((HTR.out.trans HT5.out (fun _ _ h => h)).trans t6 (fun i hi e => by omega)).trans t9 (fun i hi e => by omega)
end
end Go.Proofs.YtaaphipbkpjkjaaGreatDoor
namespace Go.Proofs.YtaaphipbkpjkjaaGreatDoor
open Go.RowKit Go.Maps
set_option linter.unusedVariables false
set_option linter.unusedSimpArgs false
set_option maxRecDepth 100000
theorem eqNil20 (W : World) : (binOp .eql 20 .nilIface .nilIface).run Tryz.prog W = .ok (.bool true) W := by kernel_rfl
theorem catch_idle (p q : Addr) (w : World) :
    CallsD Tryz.prog 67 #[.pointer (some p), .pointer (some q)] .returning w fun e u' w' => e = .returned (.tuple #[]) ∧ u' = .returning ∧ w' = w := by
  refine callsD_of_wpS Tryz.func67 rfl fun c₀ cs hu => ?_
  apply wpS_seq
  apply wpS_region
  simp [wpOpsS, go_sem, recoverD, hu, Tryz.ntmps67, Exit.thenS]
  refine wpS_of_wp ?_
  have e := eqNil20
  go_wp2
  cases c₀
  simp_all [bodyPostS, results, Tryz.results67]
theorem set3 {w : World} {b : Nat} {t : TypeId} {a0 a1 a2 : Value} (h : w.heap[b]? = some (.cells #[a0, a1, a2] t (0, 0))) (v0 v1 v2 : Value) :
    (((w.setCell ⟨b, 0, none⟩ v0).setCell ⟨b, 1, none⟩ v1).setCell ⟨b, 2, none⟩ v2).heap[b]? = some (.cells #[v0, v1, v2] t (0, 0)) ∧ Turned w (((w.setCell ⟨b, 0, none⟩ v0).setCell ⟨b, 1, none⟩ v1).setCell ⟨b, 2, none⟩ v2) (fun k => k = b) :=
  ⟨heap_setCell (j := 2) (heap_setCell (j := 1) (heap_setCell (j := 0) h v0) v1) v2, ((Turned.setCell w b 0 v0 (S := fun k => k = b) rfl).trans (Turned.setCell _ b 1 v1 (S := fun k => k = b) rfl) (fun _ _ h => h)).trans (Turned.setCell _ b 2 v2 (S := fun k => k = b) rfl) (fun _ _ h => h)⟩
section
variable {w : World}
set_option maxHeartbeats 8000000 in
theorem attempt_c (hX : Tabs w) (hF : FormsIn w) (hW : WordsIn w) (hN : NamesIn w) (hM : MaxIn w) (hg : 10 ≤ w.heap.size) {s : ByteArray} (hs : s.size ≤ 1048576) (hsf : Lib.hasSuffix s.data.toList [10] = true) {nm : ByteArray} {pr tp mn : Int} {gv : Bool} {cs : List In} (hO : OneF (splitL ⟨(Lib.trimSuffix s.data.toList [10]).toArray⟩ 10) nm pr tp gv cs mn) :
    Calls Tryz.prog 41 #[.string s] w fun e w' => ∃ fp fc v, e = .returned (.tuple #[.agg #[.slice none 0 0, .slice fp 1 fc, .int .i64 mn], .bool true]) ∧ w'.ownsRow w.heap.size TFn 6 (.slice fp 1 fc) 1 [.string nm, .int .i64 pr, .int .i64 tp, .bool gv, .slice none 0 0, v] ∧ w'.ownsRow w.heap.size TIn 12 v cs.length (insC cs) ∧ Below w.heap.size w w' := by
  have hmf : ∀ (fn : Go.Fn) (first cap : Array Value) (w : World), (Instr.makeFunc fn first cap).run Tryz.prog w = .ok (.func fn first cap) w := fun _ _ _ _ => rfl
  have htr : (⟨(Lib.trimSuffix s.data.toList [10]).toArray⟩ : ByteArray).size ≤ s.size := by
    have := Lib.trimSuffix_le s.data.toList [10]
    show (Lib.trimSuffix s.data.toList [10]).toArray.size ≤ s.data.size
    rw [List.size_toArray]
    exact Nat.le_trans this (by rw [Array.length_toList]; exact Nat.le_refl _)
  have b1 := below1 w (.cells zPg TPg)
  have hz1 : (w.alloc (.cells zPg TPg)).heap.size = w.heap.size + 1 := by simp
  have b2 := below1 (w.alloc (.cells zPg TPg)) (.cells #[.bool false] 4)
  have N1 := blk_b (heap_r0 w (.cells zPg TPg)) b2
  have N2 := heap_r0 (w.alloc (.cells zPg TPg)) (.cells #[.bool false] 4)
  rw [hz1] at N2
  have HB : Hid (Below w.heap.size w ((w.alloc (.cells zPg TPg)).alloc (.cells #[.bool false] 4))) := b1.trans (b2.mono b1.size)
  have HN1 : Hid (((w.alloc (.cells zPg TPg)).alloc (.cells #[.bool false] 4)).heap[w.heap.size]? = some (.cells zPg TPg (0, 0))) := N1
  have HN2 : Hid (((w.alloc (.cells zPg TPg)).alloc (.cells #[.bool false] 4)).heap[w.heap.size + 1]? = some (.cells #[.bool false] 4 (0, 0))) := N2
  have HX : Hid (∀ Y, Below w.heap.size w Y → Tabs Y) := fun Y hY => hX.below hY
  have HFO : Hid (∀ Y, Below w.heap.size w Y → FormsIn Y) := fun Y hY => hF.bel hY
  have HM : Hid (∀ Y, Below w.heap.size w Y → MaxIn Y) := fun Y hY => hM.below hY
  have HCO : Hid (∀ Y, Below w.heap.size w Y → Calls Tryz.prog 71 #[] Y fun e w' => ∃ mb, e = .returned (.map (some mb)) ∧ Y.heap.size ≤ mb ∧ MapI w' mb opsL ∧ Below Y.heap.size Y w') := fun Y hY => operations_c (hW.below hY) (hN.below hY) (Nat.lt_of_lt_of_le (by omega) hY.size)
  have HCS : Hid (∀ Y, Below w.heap.size w Y → Calls Tryz.prog 70 #[.string ⟨(Lib.trimSuffix s.data.toList [10]).toArray⟩, .string ⟨#[10]⟩] Y fun e w' => e = .returned (.slice (some ⟨Y.heap.size, 0, none⟩) (Lib.countB ⟨(Lib.trimSuffix s.data.toList [10]).toArray⟩ ⟨#[10]⟩ + 1) (Lib.countB ⟨(Lib.trimSuffix s.data.toList [10]).toArray⟩ ⟨#[10]⟩ + 1)) ∧ w' = Y.alloc (.cells ((Lib.splitB ⟨#[10]⟩ 0 (Lib.countB ⟨(Lib.trimSuffix s.data.toList [10]).toArray⟩ ⟨#[10]⟩) ⟨(Lib.trimSuffix s.data.toList [10]).toArray⟩).map Value.string).toArray TStr)) := fun Y hY => by
    obtain ⟨m, hm⟩ := hM.below hY
    exact Tryz.strings_Split _ ⟨#[10]⟩ m Y (Nat.lt_of_le_of_lt htr (by omega)) hm (by decide)
  have HCT : Hid (∀ Y, Calls Tryz.prog 68 #[.string s, .string ⟨#[10]⟩] Y fun e w' => e = .returned (.tuple #[.string ⟨(Lib.trimSuffix s.data.toList [10]).toArray⟩, .bool (Lib.hasSuffix s.data.toList [10])]) ∧ w' = Y) := fun Y => Tryz.strings_CutSuffix s ⟨#[10]⟩ Y (by omega)
  rw [hsf] at HCT
  have HSL : Hid (∀ Y : World, StrV (Y.alloc (.cells ((Lib.splitB ⟨#[10]⟩ 0 (Lib.countB ⟨(Lib.trimSuffix s.data.toList [10]).toArray⟩ ⟨#[10]⟩) ⟨(Lib.trimSuffix s.data.toList [10]).toArray⟩).map Value.string).toArray TStr)) (some ⟨Y.heap.size, 0, none⟩) (Lib.countB ⟨(Lib.trimSuffix s.data.toList [10]).toArray⟩ ⟨#[10]⟩ + 1) (splitL ⟨(Lib.trimSuffix s.data.toList [10]).toArray⟩ 10)) := fun Y => strV_split Y _ 10
  have hlen := splitL_length ⟨(Lib.trimSuffix s.data.toList [10]).toArray⟩ 10
  have hcnt : Lib.countB ⟨(Lib.trimSuffix s.data.toList [10]).toArray⟩ ⟨#[10]⟩ ≤ 1048576 := Nat.le_trans (Nat.le_trans (Lib.countB_le ⟨#[10]⟩ (by decide) _ _ (Nat.le_refl _)) htr) hs
  have HLL : Hid ((splitL ⟨(Lib.trimSuffix s.data.toList [10]).toArray⟩ 10).length ≤ 1000000000000 ∧ ∀ l ∈ splitL ⟨(Lib.trimSuffix s.data.toList [10]).toArray⟩ 10, l.size < 4294967281) := ⟨by rw [hlen]; omega, fun l hl => Nat.lt_of_le_of_lt (Nat.le_trans (splitL_size _ _ l hl) htr) (by omega)⟩
  have HO : Hid (OneF (splitL ⟨(Lib.trimSuffix s.data.toList [10]).toArray⟩ 10) nm pr tp gv cs mn) := hO
  generalize (⟨(Lib.trimSuffix s.data.toList [10]).toArray⟩ : ByteArray) = body at *
  have d1 : decide ((s.size : Int) ≤ 1048576) = true := by simp; omega
  have HLEN : Hid ((splitL body 10).length = Lib.countB body ⟨#[10]⟩ + 1) := hlen
  generalize Lib.countB body ⟨#[10]⟩ = cn at *
  clear b1 b2 N1 N2 hX hF hW hN hM hO hsf hs htr hlen hz1
  go_enter_defers Tryz.func41, Tryz.ntmps41
  go_upto_region 1 with (fail)
  refine (?_ : Code.wp _ _ _ _ ((w.alloc (.cells zPg TPg)).alloc (.cells #[.bool false] 4)))
  generalize (w.alloc (.cells zPg TPg)).alloc (.cells #[.bool false] 4) = W1 at *
  have cT := HCT.out W1
  have cW := want_c W1
  have cS := HCS.out W1 HB.out
  have b3 := below1 W1 (.cells ((Lib.splitB ⟨#[10]⟩ 0 cn body).map Value.string).toArray TStr)
  have HSV := HSL.out W1
  have HB3 : Hid (Below w.heap.size w (W1.alloc (.cells ((Lib.splitB ⟨#[10]⟩ 0 cn body).map Value.string).toArray TStr))) := HB.out.trans (b3.mono HB.out.size)
  have HN13 : Hid ((W1.alloc (.cells ((Lib.splitB ⟨#[10]⟩ 0 cn body).map Value.string).toArray TStr)).heap[w.heap.size]? = some (.cells zPg TPg (0, 0))) := blk_b HN1.out b3
  have HN23 : Hid ((W1.alloc (.cells ((Lib.splitB ⟨#[10]⟩ 0 cn body).map Value.string).toArray TStr)).heap[w.heap.size + 1]? = some (.cells #[.bool false] 4 (0, 0))) := blk_b HN2.out b3
  have HSV3 : Hid (StrV (W1.alloc (.cells ((Lib.splitB ⟨#[10]⟩ 0 cn body).map Value.string).toArray TStr)) (some ⟨W1.heap.size, 0, none⟩) (cn + 1) (splitL body 10)) := HSV
  have cO := HCO.out _ HB3.out
  generalize hW3 : W1.alloc (.cells ((Lib.splitB ⟨#[10]⟩ 0 cn body).map Value.string).toArray TStr) = W3 at *
  clear HSV b3 HSL HCS HCT HCO
  go_upto_region 5 with (first
    | (go_at_call 68; refine cT.mono ?_; rintro e w' ⟨rfl, hw⟩; rw [hw]; clear hw w' cT)
    | (go_at_call 69; refine cW.mono ?_; rintro e w' ⟨rfl, hw⟩; rw [hw]; clear hw w' cW)
    | (go_at_call 70; refine cS.mono ?_; rintro e w' ⟨rfl, hw⟩; rw [hw]; clear hw w' cS)
    | (go_at_call 71; refine cO.mono ?_; rintro e w4 ⟨mb, rfl, hmb, hM4, hb4⟩; have HM4 : Hid (MapI w4 mb opsL) := hM4; have HB4 : Hid (Below W3.heap.size W3 w4) := hb4; clear hM4 hb4 cO)
    | fail)
  have b5 := below1 w4 (.cells #[.slice (some ⟨W1.heap.size, 0, none⟩) (cn + 1) (cn + 1), .slice none 0 0, .map (some mb)] TRd)
  have hb45 := HB4.out.trans (b5.mono HB4.out.size)
  have HB5 : Hid (Below w.heap.size w (w4.alloc (.cells #[.slice (some ⟨W1.heap.size, 0, none⟩) (cn + 1) (cn + 1), .slice none 0 0, .map (some mb)] TRd))) := HB3.out.trans (hb45.mono HB3.out.size)
  have HR5 : RdT (w4.alloc (.cells #[.slice (some ⟨W1.heap.size, 0, none⟩) (cn + 1) (cn + 1), .slice none 0 0, .map (some mb)] TRd)) w4.heap.size mb (splitL body 10) [] := by
    refine ⟨⟨some ⟨W1.heap.size, 0, none⟩, cn + 1, none, 0, ?_, HSV3.out.below hb45, ⟨⟨Nat.le_refl _, fun _ => rfl⟩, fun h => absurd rfl h⟩⟩, HM4.out.below b5, HLL.out, ⟨Nat.zero_le _, fun l hl => by cases hl⟩⟩
    rw [HLEN.out]
    exact heap_r0 w4 _
  have cP := programR_c (HX.out _ HB5.out) (HFO.out _ HB5.out) (HM.out _ HB5.out) (Nat.le_trans hg (Nat.le_trans HB3.out.size HB4.out.size)) HR5 HO.out
  have hN15 := blk_b HN13.out hb45
  have hN25 := blk_b HN23.out hb45
  have HN15 : Hid ((w4.alloc (.cells #[.slice (some ⟨W1.heap.size, 0, none⟩) (cn + 1) (cn + 1), .slice none 0 0, .map (some mb)] TRd)).heap[w.heap.size]? = some (.cells zPg TPg (0, 0))) := hN15
  have HN25 : Hid ((w4.alloc (.cells #[.slice (some ⟨W1.heap.size, 0, none⟩) (cn + 1) (cn + 1), .slice none 0 0, .map (some mb)] TRd)).heap[w.heap.size + 1]? = some (.cells #[.bool false] 4 (0, 0))) := hN25
  have hlt4 : w.heap.size + 1 < w4.heap.size := Nat.lt_of_lt_of_le (lt_of_heap HN23.out) HB4.out.size
  clear b5 hb45 HR5 hN15 hN25
  generalize w4.alloc (.cells #[.slice (some ⟨W1.heap.size, 0, none⟩) (cn + 1) (cn + 1), .slice none 0 0, .map (some mb)] TRd) = W5 at *
  generalize w4.heap.size = rb at *
  go_wp2_with (first
    | (go_at_call 72; refine cP.mono ?_; rintro e w6 ⟨fp, fc, v, rfl, hO6, hV6, hT6⟩; have HT6 : Hid (Turned W5 w6 (fun k => k = rb)) := hT6; have hz6 : w6.heap[w.heap.size]? = some (.cells #[.slice none 0 0, .slice none 0 0, .int .i64 0] TPg (0, 0)) := blk_t HN15.out hT6 (by omega); have HO6 : Hid (w6.ownsRow W5.heap.size TFn 6 (.slice fp 1 fc) 1 [.string nm, .int .i64 pr, .int .i64 tp, .bool gv, .slice none 0 0, v]) := hO6; have HV6 : Hid (w6.ownsRow W5.heap.size TIn 12 v cs.length (insC cs)) := hV6; have HK6 : Hid (w6.heap[w.heap.size + 1]? = some (.cells #[.bool false] 4 (0, 0))) := blk_t HN25.out hT6 (by omega); obtain ⟨g7, t7⟩ := set3 hz6 (.slice none 0 0) (.slice fp 1 fc) (.int .i64 mn); have q0 := (Lib.cell_of_heap hz6 0).trans rfl; have q1 := (Lib.cell_of_heap hz6 1).trans rfl; have q2 := (Lib.cell_of_heap hz6 2).trans rfl; have qf := frozen_of hz6; have hk7 := blk_t HK6.out t7 (by omega); have k7 := (Lib.cell_of_heap hk7 0).trans rfl; have kf7 := frozen_of hk7 0; have HK7 : Hid ((((w6.setCell ⟨w.heap.size, 0, none⟩ (.slice none 0 0)).setCell ⟨w.heap.size, 1, none⟩ (.slice fp 1 fc)).setCell ⟨w.heap.size, 2, none⟩ (.int .i64 mn)).heap[w.heap.size + 1]? = some (.cells #[.bool false] 4 (0, 0))) := hk7; have HG7 : Hid ((((w6.setCell ⟨w.heap.size, 0, none⟩ (.slice none 0 0)).setCell ⟨w.heap.size, 1, none⟩ (.slice fp 1 fc)).setCell ⟨w.heap.size, 2, none⟩ (.int .i64 mn)).heap[w.heap.size]? = some (.cells #[.slice none 0 0, .slice fp 1 fc, .int .i64 mn] TPg (0, 0))) := g7; have HT7 : Hid (Turned w6 (((w6.setCell ⟨w.heap.size, 0, none⟩ (.slice none 0 0)).setCell ⟨w.heap.size, 1, none⟩ (.slice fp 1 fc)).setCell ⟨w.heap.size, 2, none⟩ (.int .i64 mn)) (fun k => k = w.heap.size)) := t7; clear hO6 hV6 hT6 cP t7 hk7 g7 hz6)
    | fail)
  refine leaves_cons (f := 67) (args := #[.pointer (some ⟨w.heap.size, 0, none⟩), .pointer (some ⟨w.heap.size + 1, 0, none⟩)]) (by simp) (by simp [go_sem]) ?_
  refine (catch_idle ⟨w.heap.size, 0, none⟩ ⟨w.heap.size + 1, 0, none⟩ _).mono ?_
  rintro e u' w'' ⟨rfl, rfl, rfl⟩
  have t8 : Turned (((w6.setCell ⟨w.heap.size, 0, none⟩ (.slice none 0 0)).setCell ⟨w.heap.size, 1, none⟩ (.slice fp 1 fc)).setCell ⟨w.heap.size, 2, none⟩ (.int .i64 mn)) ((((w6.setCell ⟨w.heap.size, 0, none⟩ (.slice none 0 0)).setCell ⟨w.heap.size, 1, none⟩ (.slice fp 1 fc)).setCell ⟨w.heap.size, 2, none⟩ (.int .i64 mn)).setCell ⟨w.heap.size + 1, 0, none⟩ (.bool true)) (fun k => k = w.heap.size + 1) := Turned.setCell _ _ 0 _ rfl
  have g8 := blk_t HG7.out t8 (by omega)
  have g9 := heap_setCell (j := 0) HK7.out (.bool true)
  have c0 := (Lib.cell_of_heap g8 0).trans rfl
  have c1 := (Lib.cell_of_heap g8 1).trans rfl
  have c2 := (Lib.cell_of_heap g8 2).trans rfl
  have c3 := (Lib.cell_of_heap g9 0).trans rfl
  have hap : ∀ {ty : TypeId} {n m : Nat} {u : Value} {xs : List Value}, ty ≠ TPg → ty ≠ 4 → w6.ownsRow W5.heap.size ty n u m xs → ((((w6.setCell ⟨w.heap.size, 0, none⟩ (.slice none 0 0)).setCell ⟨w.heap.size, 1, none⟩ (.slice fp 1 fc)).setCell ⟨w.heap.size, 2, none⟩ (.int .i64 mn)).setCell ⟨w.heap.size + 1, 0, none⟩ (.bool true)).ownsRow w.heap.size ty n u m xs := fun h1 h2 ho => by
    have hlo : w.heap.size + 1 < W5.heap.size := lt_of_heap HN25.out
    have h6 := ownsRow_turned ho HT7.out (fun k hk e => by have := (ownsRow_at ho hk).1; omega)
    exact ownsRow_base (ownsRow_turned h6 t8 (fun k hk e => by have := (ownsRow_at h6 hk).1; omega)) (by omega)
  refine ⟨.tuple #[.agg #[.slice none 0 0, .slice fp 1 fc, .int .i64 mn], .bool true], by simp [results, Tryz.results41, go_sem, c0, c1, c2, c3], fp, fc, v, rfl, hap (by decide) (by decide) HO6.out, hap (by decide) (by decide) HV6.out, ?_⟩
  refine below_turned (below_turned (below_turned HB5.out HT6.out ?_) HT7.out (Nat.le_refl _)) t8 (by omega)
  omega
end
end Go.Proofs.YtaaphipbkpjkjaaGreatDoor
namespace Go.Proofs.YtaaphipbkpjkjaaGreatDoor
open Go.RowKit Go.Maps
set_option linter.unusedVariables false
set_option linter.unusedSimpArgs false
set_option maxRecDepth 100000
/-- A program of one function without slots, its code without operands' rows. -/
def oneF (nm : ByteArray) (pr tp : Int) (gv : Bool) (cs : List In) (vp : Option Addr) (vc : Nat) : Fg := ⟨⟨nm, pr, tp, gv, none, 0, 0, vp, cs.length, vc⟩, [], cs.map fun y => ⟨y, none, 0⟩⟩
def oneP (nm : ByteArray) (pr tp : Int) (gv : Bool) (cs : List In) (mn : Int) (vp : Option Addr) (vc : Nat) : Pg := ⟨[], [oneF nm pr tp gv cs vp vc], mn⟩
structure InsOK (cs : List In) : Prop where
  args : ∀ y ∈ cs, y.args = []
  a : ∀ y ∈ cs, ArOK y.a ∧ ArOK y.b ∧ -9223372036854775808 ≤ y.off ∧ y.off ≤ 9223372036854775807
theorem insC_at : ∀ (l : List In) (i : Nat) (y : In), l[i]? = some y → ∀ k, k < 12 → (insC l)[i * 12 + k]? = (inCells y (.slice none 0 0))[k]?
  | [], i, y, h => by cases h
  | x :: l, 0, y, h => by
    simp at h; subst h
    intro k hk
    unfold insC
    rw [List.flatMap_cons, Nat.zero_mul, Nat.zero_add, List.getElem?_append_left (by show k < 12; exact hk)]
  | x :: l, i + 1, y, h => by
    intro k hk
    have ih := insC_at l i y (by simpa using h) k hk
    unfold insC at ih ⊢
    rw [List.flatMap_cons, List.getElem?_append_right (by show 12 ≤ _; omega)]
    rw [show (i + 1) * 12 + k - (inCells x (.slice none 0 0)).length = i * 12 + k by show (i + 1) * 12 + k - 12 = _; omega]
    exact ih
theorem pgOK_one {W : World} {B : Nat} {nm : ByteArray} {pr tp mn : Int} {gv : Bool} {cs : List In} {fp vp : Option Addr} {fc vc : Nat} (hnm : nm.size ≤ maxLen) (hI : InsOK cs) (hl : cs.length ≤ 1000000)
    (h1 : W.ownsRow B TFn 6 (.slice fp 1 fc) 1 [.string nm, .int .i64 pr, .int .i64 tp, .bool gv, .slice none 0 0, .slice vp cs.length vc]) (h2 : W.ownsRow B TIn 12 (.slice vp cs.length vc) cs.length (insC cs)) :
    PgOK W (oneP nm pr tp gv cs mn vp vc) ⟨none, 0, fp, fc⟩ := by
  have hno : ∀ {α : Type} (C : α → List Value) (k : Nat), RowV C k W none 0 ([] : List α) := fun C k => ⟨⟨Nat.le_refl _, fun _ => rfl⟩, fun i a ha => by cases ha⟩
  have hr1 : RowV fgC 6 W fp fc [oneF nm pr tp gv cs vp vc] := by
    obtain ⟨g, cap, e, _, hg, hcap, hc, _⟩ := own_cell h1 (by omega)
    injection e with e1 _ e3
    subst e1 e3
    refine ⟨⟨hcap, fun e => by cases e⟩, fun i a ha => ⟨g, 0, rfl, hg, fun j hj => ?_⟩⟩
    rcases i with _ | i
    · simp at ha; subst ha
      rw [show 0 + 0 * 6 + j = j by omega]
      obtain ⟨u, hu⟩ : ∃ u, (fgC (oneF nm pr tp gv cs vp vc))[j]? = some u := ⟨_, List.getElem?_eq_getElem (show j < 6 from hj)⟩
      rw [hu]
      exact hc j u hu
    · simp at ha
  have hr2 : RowV iwC 12 W vp vc (cs.map fun y => (⟨y, none, 0⟩ : Iw)) := by
    by_cases h0 : cs = []
    · subst h0
      obtain ⟨_, ⟨e, _⟩ | ⟨g, cap, cur, e, _⟩⟩ := h2
      · injection e with e1 _ e3; subst e1 e3; exact ⟨⟨Nat.le_refl _, fun _ => rfl⟩, fun i a ha => by cases ha⟩
      · injection e with e1 _ e3; subst e1; exact ⟨⟨by simp, fun e => by cases e⟩, fun i a ha => by cases ha⟩
    · have hpos : 0 < cs.length := List.length_pos_iff.2 h0
      obtain ⟨g, cap, e, _, hg, hcap, hc, _⟩ := own_cell h2 hpos
      injection e with e1 _ e3
      subst e1 e3
      refine ⟨⟨by simpa using hcap, fun e => by cases e⟩, fun i a ha => ⟨g, 0, rfl, hg, fun j hj => ?_⟩⟩
      rw [List.getElem?_map] at ha
      obtain ⟨y, hy, rfl⟩ := Option.map_eq_some_iff.1 ha
      have ey := hI.args y (List.mem_of_getElem? hy)
      have e2 : iwC ⟨y, none, 0⟩ = inCells y (.slice none 0 0) := by unfold iwC; simp only; rw [ey]; rfl
      rw [e2, Nat.zero_add, ← insC_at cs i y hy j hj]
      obtain ⟨u, hu⟩ : ∃ u, (inCells y (.slice none 0 0))[j]? = some u := ⟨_, List.getElem?_eq_getElem (show j < 12 from hj)⟩
      rw [insC_at cs i y hy j hj, hu]
      exact hc _ u (by rw [insC_at cs i y hy j hj]; exact hu)
  refine ⟨hno _ _, Nat.zero_le _, fun q hq => (by cases hq), hr1, by show 1 ≤ _; omega, fun q hq => ?_⟩
  simp only [oneP, List.mem_cons, List.not_mem_nil, or_false] at hq
  subst hq
  refine ⟨hnm, hno _ _, rfl, Nat.zero_le _, hr2, by simp [oneF], by simp [oneF]; omega, fun i hi => ?_⟩
  simp only [oneF, List.mem_map] at hi
  obtain ⟨y, hy, rfl⟩ := hi
  obtain ⟨q1, q2, q3, q4⟩ := hI.a y hy
  have ey := hI.args y hy
  refine ⟨q1, q2, ⟨q3, q4⟩, ?_, fun a ha => ?_, ?_⟩
  · show ArgV W (.slice none y.args.length 0) y.args
    rw [ey]
    exact ⟨none, 0, rfl, ⟨Nat.le_refl _, fun _ => rfl⟩, fun i a ha => by cases ha⟩
  · simp only at ha; rw [ey] at ha; cases ha
  · simp only; rw [ey]; simp
section
variable {w : World}
set_option maxHeartbeats 8000000 in
theorem parse1_c (hX : Tabs w) (hF : FormsIn w) (hW : WordsIn w) (hN : NamesIn w) (hM : MaxIn w) (hg : 10 ≤ w.heap.size) {s : ByteArray} (hs : s.size ≤ 1048576) (hsf : Lib.hasSuffix s.data.toList [10] = true) {nm : ByteArray} {pr tp mn : Int} {gv : Bool} {cs : List In} (hO : OneF (splitL ⟨(Lib.trimSuffix s.data.toList [10]).toArray⟩ 10) nm pr tp gv cs mn)
    (hnm : nm.size ≤ maxLen) (hI : InsOK cs) (hck : ∀ vp vc, checkB (oneP nm pr tp gv cs mn vp vc) = true) :
    Calls Tryz.prog 23 #[.string s] w fun e w' => ∃ fp fc vp vc, e = .returned (.tuple #[pgV (oneP nm pr tp gv cs mn vp vc) ⟨none, 0, fp, fc⟩, .int .i64 0]) ∧ PgOK w' (oneP nm pr tp gv cs mn vp vc) ⟨none, 0, fp, fc⟩ ∧ Below w.heap.size w w' := by
  have b1 := below1 w (.cells zPg TPg)
  have cA := attempt_c (hX.below b1) (hF.bel b1) (hW.below b1) (hN.below b1) (hM.below b1) (Nat.le_trans hg b1.size) hs hsf hO
  have HN1 : Hid ((w.alloc (.cells zPg TPg)).heap[w.heap.size]? = some (.cells zPg TPg (0, 0))) := heap_r0 w _
  have HB1 : Hid (Below w.heap.size w (w.alloc (.cells zPg TPg))) := b1
  have HCK : Hid (∀ Y fp fc vp vc, Below w.heap.size w Y → PgOK Y (oneP nm pr tp gv cs mn vp vc) ⟨none, 0, fp, fc⟩ → Calls Tryz.prog 9 #[.agg #[.slice none 0 0, .slice fp 1 fc, .int .i64 mn]] Y fun e w' => e = .returned (.int .i64 0) ∧ Below Y.heap.size Y w') := fun Y fp fc vp vc hY hp => by
    have h := check_c hp (hF.bel hY) (hN.below hY) (Nat.lt_of_lt_of_le (by omega) hY.size)
    rw [hck vp vc] at h
    exact h
  have HNM : Hid (nm.size ≤ maxLen) := hnm
  have HI : Hid (InsOK cs) := hI
  have HCL : Hid (cs.length ≤ 1000000) := hO.cl
  have nf := not_t
  clear hX hF hW hN hM hs hsf hO b1 hnm hI hck
  go_enter Tryz.func23, Tryz.ntmps23
  go_upto_region 1 with (fail)
  refine (?_ : Code.wp _ _ _ _ (w.alloc (.cells zPg TPg)))
  generalize w.alloc (.cells zPg TPg) = W1 at *
  go_upto_region 2 with (first
    | (go_at_call 41; refine cA.mono ?_; rintro e w2 ⟨fp, fc, v, rfl, hO2, hV2, hb2⟩; obtain ⟨vp, vc, rfl⟩ := slice_of_own hV2; have HB2 : Hid (Below w.heap.size w w2) := HB1.out.trans (hb2.mono HB1.out.size); have HO2 : Hid (w2.ownsRow W1.heap.size TFn 6 (.slice fp 1 fc) 1 [.string nm, .int .i64 pr, .int .i64 tp, .bool gv, .slice none 0 0, .slice vp cs.length vc]) := hO2; have HV2 : Hid (w2.ownsRow W1.heap.size TIn 12 (.slice vp cs.length vc) cs.length (insC cs)) := hV2; have HZ2 : Hid (w2.heap[w.heap.size]? = some (.cells zPg TPg (0, 0))) := blk_b HN1.out hb2; have hold := heap_r0 w2 (.cells zPg TPg); clear hO2 hV2 hb2 cA)
    | ((with_reducible apply step_store hold); rfl; rfl; kernel_rfl; rfl; kernel_rfl; rw [World.setRow_alloc_new])
    | fail)
  have b3 := below1 w2 (.cells #[.slice none 0 0, .slice fp 1 fc, .int .i64 mn] TPg)
  have HB3 : Hid (Below w.heap.size w (w2.alloc (.cells #[.slice none 0 0, .slice fp 1 fc, .int .i64 mn] TPg))) := HB2.out.trans (b3.mono HB2.out.size)
  have n3 := heap_r0 w2 (.cells #[.slice none 0 0, .slice fp 1 fc, .int .i64 mn] TPg)
  have HN3 : Hid ((w2.alloc (.cells #[.slice none 0 0, .slice fp 1 fc, .int .i64 mn] TPg)).heap[w2.heap.size]? = some (.cells #[.slice none 0 0, .slice fp 1 fc, .int .i64 mn] TPg (0, 0))) := n3
  have HZ3 : Hid ((w2.alloc (.cells #[.slice none 0 0, .slice fp 1 fc, .int .i64 mn] TPg)).heap[w.heap.size]? = some (.cells zPg TPg (0, 0))) := blk_b HZ2.out b3
  have HP3 : Hid (PgOK (w2.alloc (.cells #[.slice none 0 0, .slice fp 1 fc, .int .i64 mn] TPg)) (oneP nm pr tp gv cs mn vp vc) ⟨none, 0, fp, fc⟩) := (pgOK_one HNM.out HI.out HCL.out HO2.out HV2.out).below b3
  have cK := HCK.out _ fp fc vp vc HB3.out HP3.out
  have p0 := (Lib.cell_of_heap n3 0).trans rfl
  have p1 := (Lib.cell_of_heap n3 1).trans rfl
  have p2 := (Lib.cell_of_heap n3 2).trans rfl
  have HO3 : Hid ((w2.alloc (.cells #[.slice none 0 0, .slice fp 1 fc, .int .i64 mn] TPg)).ownsRow W1.heap.size TFn 6 (.slice fp 1 fc) 1 [.string nm, .int .i64 pr, .int .i64 tp, .bool gv, .slice none 0 0, .slice vp cs.length vc]) := ownsRow_turned HO2.out (Turned.of_below b3 (fun _ => False)) (fun _ _ h => h)
  have HV3 : Hid ((w2.alloc (.cells #[.slice none 0 0, .slice fp 1 fc, .int .i64 mn] TPg)).ownsRow W1.heap.size TIn 12 (.slice vp cs.length vc) cs.length (insC cs)) := ownsRow_turned HV2.out (Turned.of_below b3 (fun _ => False)) (fun _ _ h => h)
  have hlo : w.heap.size < W1.heap.size := lt_of_heap HN1.out
  clear b3 n3 hold HCK HO2 HV2
  generalize w2.alloc (.cells #[.slice none 0 0, .slice fp 1 fc, .int .i64 mn] TPg) = W3 at *
  generalize w2.heap.size = b3 at *
  go_wp2_with (first
    | (go_at_call 9; refine cK.mono ?_; rintro e w4 ⟨rfl, hb4⟩; have HB4 : Hid (Below w.heap.size w w4) := HB3.out.trans (hb4.mono HB3.out.size); have hO4 := ownsRow_turned HO3.out (Turned.of_below hb4 (fun _ => False)) (fun _ _ h => h); have hV4 := ownsRow_turned HV3.out (Turned.of_below hb4 (fun _ => False)) (fun _ _ h => h); have HO4 : Hid (w4.ownsRow W1.heap.size TFn 6 (.slice fp 1 fc) 1 [.string nm, .int .i64 pr, .int .i64 tp, .bool gv, .slice none 0 0, .slice vp cs.length vc]) := hO4; have HV4 : Hid (w4.ownsRow W1.heap.size TIn 12 (.slice vp cs.length vc) cs.length (insC cs)) := hV4; clear hO4 hV4; have n4 := blk_b HN3.out hb4; have q0 := (Lib.cell_of_heap n4 0).trans rfl; have q1 := (Lib.cell_of_heap n4 1).trans rfl; have q2 := (Lib.cell_of_heap n4 2).trans rfl; have hz4 := blk_b HZ3.out hb4; clear hb4 cK n4)
    | ((with_reducible apply step_store hz4); rfl; rfl; kernel_rfl; rfl; kernel_rfl)
    | fail)
  have g9 : (w4.setRow w.heap.size #[.slice none 0 0, .slice fp 1 fc, .int .i64 mn]).heap[w.heap.size]? = some (.cells #[.slice none 0 0, .slice fp 1 fc, .int .i64 mn] TPg (0, 0)) := setRow_heap _ _ _ _ _ _ hz4
  have t9 : Turned w4 (w4.setRow w.heap.size #[.slice none 0 0, .slice fp 1 fc, .int .i64 mn]) (fun k => k = w.heap.size) := Turned.setRow _ _ _ rfl
  have c0 := (Lib.cell_of_heap g9 0).trans rfl
  have c1 := (Lib.cell_of_heap g9 1).trans rfl
  have c2 := (Lib.cell_of_heap g9 2).trans rfl
  refine bodyPost_ret (v := .tuple #[.agg #[.slice none 0 0, .slice fp 1 fc, .int .i64 mn], .int .i64 0]) (by simp [results, Tryz.results23, go_sem, c0, c1, c2]) rfl ⟨fp, fc, vp, vc, rfl, ?_, below_turned HB4.out t9 (Nat.le_refl _)⟩
  exact pgOK_one HNM.out HI.out HCL.out (ownsRow_turned HO4.out t9 (fun k hk e => by have := (ownsRow_at HO4.out hk).1; omega)) (ownsRow_turned HV4.out t9 (fun k hk e => by have := (ownsRow_at HV4.out hk).1; omega))
end
end Go.Proofs.YtaaphipbkpjkjaaGreatDoor
