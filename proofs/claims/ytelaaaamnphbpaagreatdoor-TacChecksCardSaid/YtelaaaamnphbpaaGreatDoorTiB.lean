/-
  The given answer's Copy: a program of its own memory, like the one that came in.
-/
import Derived.Test.YtelaaaamnphbpaaGreatDoorNQ
namespace Go.Proofs.YtelaaaamnphbpaaGreatDoor
open Go.RowKit Go.Maps
set_option linter.unusedVariables false
set_option linter.unusedSimpArgs false
set_option maxRecDepth 100000
/-- What Copy answers. -/
def CopyQ (w : World) (x : Pg) (e : Ending) (w' : World) : Prop := ∃ (y : Pg) (b : Pw), e = .returned (pgV y b) ∧ PgEq x y ∧ PgOwn w.heap.size w' y b ∧ Below w.heap.size w w'
theorem lt_block {w : World} {g : Nat} {o : Obj} (h : w.heap[g]? = some o) : g < w.heap.size := lt_of_heap h
section
variable {w : World}
set_option maxHeartbeats 16000000 in
theorem rCopyAll_c {x : Pg} {a : Pw} (hC : CpIn w x a) : Calls Tryz.prog 14 #[pgV x a] w (CopyQ w x) := by
  obtain ⟨lo, lf, mn⟩ := x
  obtain ⟨p1, c1, f1, t1⟩ := a
  unfold pgV
  show Calls Tryz.prog 14 #[.agg #[.slice p1 lo.length c1, .slice f1 lf.length t1, .int .i64 mn]] w _
  obtain ⟨hok, hol, hfl, hob, hfs⟩ := hC
  simp only at hol hfl
  have b1 := below1 w (.cells #[.slice p1 lo.length c1, .slice f1 lf.length t1, .int .i64 mn] TPg)
  have b2 := below1 (w.alloc (.cells #[.slice p1 lo.length c1, .slice f1 lf.length t1, .int .i64 mn] TPg)) (.cells #[.slice none 0 0, .slice none 0 0, .int .i64 0] TPg)
  have N1 := blk_b (heap_r0 w (.cells #[.slice p1 lo.length c1, .slice f1 lf.length t1, .int .i64 mn] TPg)) b2
  have N2 := heap_r0 (w.alloc (.cells #[.slice p1 lo.length c1, .slice f1 lf.length t1, .int .i64 mn] TPg)) (.cells #[.slice none 0 0, .slice none 0 0, .int .i64 0] TPg)
  have hz : (w.alloc (.cells #[.slice p1 lo.length c1, .slice f1 lf.length t1, .int .i64 mn] TPg)).heap.size = w.heap.size + 1 := by simp
  rw [hz] at N2
  have HZ2 : Hid (((w.alloc (.cells #[.slice p1 lo.length c1, .slice f1 lf.length t1, .int .i64 mn] TPg)).alloc (.cells #[.slice none 0 0, .slice none 0 0, .int .i64 0] TPg)).heap.size = w.heap.size + 2) := by show _ = _; simp
  have HKO : Hid (∀ Y, Below w.heap.size w Y → RowV ogC 5 Y p1 c1 lo) := fun Y hY => hok.ob.below hY
  have HKF : Hid (∀ Y, Below w.heap.size w Y → RowV fgC 6 Y f1 t1 lf) := fun Y hY => hok.fr.below hY
  have HIO : Hid (∀ q ∈ lo, OgOK w q ∧ q.bs.length * 1 ≤ 140737488355328 ∧ q.rls.length * 24 ≤ 140737488355328) := fun q hq => ⟨hok.oi q hq, hob q hq⟩
  have HIF : Hid (∀ q ∈ lf, FgOK w q ∧ q.sls.length * 16 ≤ 140737488355328 ∧ q.code.length * 112 ≤ 140737488355328 ∧ ∀ i ∈ q.code, i.x.args.length * 16 ≤ 140737488355328) := fun q hq => ⟨hok.fi q hq, hfs q hq⟩
  have HN1 : Hid (_ = _) := N1
  have HN2 : Hid (_ = _) := N2
  have HB1 : Hid (Below w.heap.size w ((w.alloc (.cells #[.slice p1 lo.length c1, .slice f1 lf.length t1, .int .i64 mn] TPg)).alloc (.cells #[.slice none 0 0, .slice none 0 0, .int .i64 0] TPg))) := b1.trans (b2.mono b1.size)
  have x2 := (Lib.cell_of_heap N1 2).trans rfl
  have hbh : ∀ Y : World, (Instr.build TPg #[(2, .int .i64 mn)]).run Tryz.prog Y = .ok (.agg #[.slice none 0 0, .slice none 0 0, .int .i64 mn]) Y := fun Y => by kernel_rfl
  clear b1 b2 N1 N2 hz hok hob hfs
  go_enter Tryz.func14, Tryz.ntmps14
  go_upto_region 1 with (fail)
  refine (?_ : Code.wp _ _ _ _ ((w.alloc (.cells #[.slice p1 lo.length c1, .slice f1 lf.length t1, .int .i64 mn] TPg)).alloc (.cells #[.slice none 0 0, .slice none 0 0, .int .i64 0] TPg)))
  generalize (w.alloc (.cells #[.slice p1 lo.length c1, .slice f1 lf.length t1, .int .i64 mn] TPg)).alloc (.cells #[.slice none 0 0, .slice none 0 0, .int .i64 0] TPg) = W1 at *
  have hold := heap_r0 W1 (.cells #[.slice none 0 0, .slice none 0 0, .int .i64 0] TPg)
  have HN3 : Hid ((W1.alloc (.cells #[.slice none 0 0, .slice none 0 0, .int .i64 mn] TPg)).heap[W1.heap.size]? = some (.cells #[.slice none 0 0, .slice none 0 0, .int .i64 mn] TPg (0, 0))) := heap_r0 W1 _
  have hb3 := below1 W1 (.cells #[.slice none 0 0, .slice none 0 0, .int .i64 mn] TPg)
  have HB3 : Hid (Below w.heap.size w (W1.alloc (.cells #[.slice none 0 0, .slice none 0 0, .int .i64 mn] TPg))) := HB1.out.trans (hb3.mono HB1.out.size)
  have HM1 : Hid ((W1.alloc (.cells #[.slice none 0 0, .slice none 0 0, .int .i64 mn] TPg)).heap[w.heap.size]? = some (.cells #[.slice p1 lo.length c1, .slice f1 lf.length t1, .int .i64 mn] TPg (0, 0))) := blk_b HN1.out hb3
  have HM2 : Hid ((W1.alloc (.cells #[.slice none 0 0, .slice none 0 0, .int .i64 mn] TPg)).heap[w.heap.size + 1]? = some (.cells #[.slice none 0 0, .slice none 0 0, .int .i64 0] TPg (0, 0))) := blk_b HN2.out hb3
  rw [HZ2.out] at HN3
  clear hb3
  go_upto_region 2 with (first | ((with_reducible apply step_store hold); rfl; rfl; kernel_rfl; rfl; kernel_rfl; rw [World.setRow_alloc_new]) | fail)
  refine (?_ : Code.wp _ _ _ _ (W1.alloc (.cells #[.slice none 0 0, .slice none 0 0, .int .i64 mn] TPg)))
  rw [HZ2.out]
  have y0 := (Lib.cell_of_heap HM1.out 0).trans rfl
  generalize W1.alloc (.cells #[.slice none 0 0, .slice none 0 0, .int .i64 mn] TPg) = W2 at *
  clear hold x2
  go_wp2
  clear y0
  go_loopw [4] (fun iv wx => ∃ (k : Nat) (l2 : List Og) (op : Option Addr) (oc : Nat), iv = .int .i64 k ∧ k ≤ lo.length ∧ Hid (l2.length = k) ∧ Hid (wx.heap[w.heap.size + 2]? = some (.cells #[.slice op k oc, .slice none 0 0, .int .i64 mn] TPg (0, 0))) ∧ Hid (wx.ownsRow w.heap.size TOb 5 (.slice op k oc) k (flatC ogC l2)) ∧ Hid (∀ (k : Nat) (a b : Og), lo[k]? = some a → l2[k]? = some b → OgEq a b) ∧ Hid (∀ q ∈ l2, OgOwn w.heap.size wx q) ∧ Hid (wx.heap[w.heap.size]? = some (.cells #[.slice p1 lo.length c1, .slice f1 lf.length t1, .int .i64 mn] TPg (0, 0))) ∧ Hid (wx.heap[w.heap.size + 1]? = some (.cells #[.slice none 0 0, .slice none 0 0, .int .i64 0] TPg (0, 0))) ∧ Hid (Below w.heap.size w wx)) (fun iv _ => lo.length - (intOf iv).toNat)
  case atStart => exact ⟨0, [], none, 0, rfl, Nat.zero_le _, rfl, HN3, ⟨rfl, Or.inl ⟨rfl, rfl⟩⟩, (fun k a b _ h => by simp at h), (fun q hq => by simp at hq), HM1, HM2, HB3⟩
  case round =>
    obtain ⟨k, l2, op, oc, rfl, hk, HL2, HG3, HOW, HEQ, HFO, HG1, HG2, HBX⟩ := hrel
    have e0 := (Lib.cell_of_heap HG1.out 0).trans rfl
    clear HN3 HM1 HM2 HB3
    by_cases hlt : k < lo.length
    · obtain ⟨a, ha⟩ : ∃ r, lo[k]? = some r := ⟨_, List.getElem?_eq_getElem hlt⟩
      obtain ⟨g, o, hfe, hg, hc⟩ := (HKO.out wr HBX.out).2 k _ ha
      subst hfe
      have q1 := (HKO.out wr HBX.out).1.1
      have HCI : Hid (OgOK w a ∧ a.bs.length * 1 ≤ 140737488355328 ∧ a.rls.length * 24 ≤ 140737488355328) := HIO.out a (List.mem_of_getElem? ha)
      have HA : Hid (lo[k]? = some a) := ha
      obtain ⟨⟨anm, asz, aal, abp, abn, abc, arp, arn, arc⟩, abs, arl⟩ := a
      obtain rfl : abn = abs.length := HCI.out.1.bn
      obtain rfl : arn = arl.length := HCI.out.1.rn
      have hbl : abs.length * 1 ≤ 140737488355328 := HCI.out.2.1
      have hrl : arl.length * 24 ≤ 140737488355328 := HCI.out.2.2
      have c0 : wr.cell? ⟨g, o + k * 5, none⟩ = some (.string anm) := hc 0 (by omega)
      have c1' : wr.cell? ⟨g, o + k * 5 + 1, none⟩ = some (.int .i64 asz) := hc 1 (by omega)
      have c2 : wr.cell? ⟨g, o + k * 5 + 2, none⟩ = some (.int .i64 aal) := hc 2 (by omega)
      have c3 : wr.cell? ⟨g, o + k * 5 + 3, none⟩ = some (.slice abp abs.length abc) := hc 3 (by omega)
      have c4 : wr.cell? ⟨g, o + k * 5 + 4, none⟩ = some (.slice arp arl.length arc) := hc 4 (by omega)
      have hold := heap_r0 wr (.cells #[.string ⟨#[]⟩, .int .i64 0, .int .i64 0, .slice none 0 0, .slice none 0 0] TOb)
      clear ha hc
      go_upto_region 6 with (first | ((with_reducible apply step_store hold); rfl; rfl; kernel_rfl; rfl; kernel_rfl; rw [World.setRow_alloc_new]) | fail)
      refine (?_ : Code.wp _ _ _ _ (wr.alloc (.cells #[.string anm, .int .i64 asz, .int .i64 aal, .slice abp abs.length abc, .slice arp arl.length arc] TOb)))
      have HT5 : Hid (Below wr.heap.size wr (wr.alloc (.cells #[.string anm, .int .i64 asz, .int .i64 aal, .slice abp abs.length abc, .slice arp arl.length arc] TOb))) := below1 wr _
      have HN5 : Hid ((wr.alloc (.cells #[.string anm, .int .i64 asz, .int .i64 aal, .slice abp abs.length abc, .slice arp arl.length arc] TOb)).heap[wr.heap.size]? = some (.cells #[.string anm, .int .i64 asz, .int .i64 aal, .slice abp abs.length abc, .slice arp arl.length arc] TOb (0, 0))) := heap_r0 wr _
      have hgb : w.heap.size + 2 < wr.heap.size := lt_of_heap HG3.out
      have hwb : w.heap.size ≤ wr.heap.size := by omega
      obtain ⟨b5, hb5⟩ : ∃ b, b = wr.heap.size := ⟨_, rfl⟩
      have HE5 : Hid (b5 = wr.heap.size) := hb5
      rw [← hb5] at HN5 hgb ⊢
      generalize wr.alloc (.cells #[.string anm, .int .i64 asz, .int .i64 aal, .slice abp abs.length abc, .slice arp arl.length arc] TOb) = W5 at *
      clear hb5 hold c0 c1' c2 c3 c4 e0
      -- the bytes
      have HW5 : Hid (Below w.heap.size w W5) := HBX.out.trans (HT5.out.mono hwb)
      have hl5 : b5 < W5.heap.size := lt_of_heap HN5.out
      have bE := below1 W5 (.cells #[] TU8)
      have hn6 := blk_b HN5.out bE
      have HN6 : Hid (_ = _) := hn6
      have s3 := (Lib.cell_of_heap hn6 3).trans rfl
      have HOE : Hid ((W5.alloc (.cells #[] TU8)).ownsRow w.heap.size TU8 1 (.slice (some ⟨W5.heap.size, 0, none⟩) 0 0) 0 []) := ⟨rfl, Or.inr ⟨W5.heap.size, 0, #[], rfl, HW5.out.size, heap_r0 W5 _, Nat.zero_le _, Nat.zero_le _, rfl, by simp⟩⟩
      have HTE : Hid (Below wr.heap.size wr (W5.alloc (.cells #[] TU8))) := HT5.out.trans (bE.mono HT5.out.size)
      have HRW : Hid (RowV byC 1 (W5.alloc (.cells #[] TU8)) abp abc abs) := HCI.out.1.br.below (HW5.out.trans (bE.mono HW5.out.size))
      have HSE : Hid (w.heap.size ≤ (W5.alloc (.cells #[] TU8)).heap.size) := Nat.le_trans HW5.out.size bE.size
      obtain ⟨i0, hi0, hz0, hz1, hz2⟩ := info_parts infoBy
      clear bE hn6
      go_upto_region 7 with (at_builtin; go_must (refine append_row 1 1 (by decide) byC_length one_byC Tryz.underlying67 hi0 hz0 hz1 hz2 (by decide) rfl rfl (.tmp 26) (.tmp 29) rfl w.heap.size (.slice (some ⟨W5.heap.size, 0, none⟩) 0 0) 0 [] rfl HOE.out (l := abs) rfl HRW.out (by omega) HSE.out ?_; intro v3 w3 ho3 hg3; obtain ⟨bp', bc', rfl⟩ := slice_of_own ho3; rw [Nat.zero_add, List.nil_append] at ho3; have h3 := (hg3.block _ (lt_of_heap HN6.out) (fun e => by have := congrArg (fun x : Option Nat => x.getD 0) e; simp [Value.ownBlock] at this; omega)).trans HN6.out; have fz3 := frozen_of h3 3; have s3' := (Lib.cell_of_heap h3 3).trans rfl; have HN3' : Hid (_ = _) := h3; have HO3 : Hid (World.ownsRow _ _ _ _ _ _ _) := ho3; have HG3' : Hid (World.grownBy _ _ _) := hg3; clear ho3 hg3 h3))
      refine (?_ : Code.wp _ _ _ _ (w3.setCell ⟨b5, 3, none⟩ (.slice bp' abs.length bc')))
      have t6 : Turned w3 (w3.setCell ⟨b5, 3, none⟩ (.slice bp' abs.length bc')) (fun j => j = b5) := Turned.setCell w3 b5 3 _ rfl
      have HN7 : Hid ((w3.setCell ⟨b5, 3, none⟩ (.slice bp' abs.length bc')).heap[b5]? = some (.cells #[.string anm, .int .i64 asz, .int .i64 aal, .slice bp' abs.length bc', .slice arp arl.length arc] TOb (0, 0))) := heap_setCell (j := 3) HN3'.out _
      have hT3 : Below wr.heap.size wr w3 := below_grown HTE.out HTE.out.size HG3'.out (fun k e => by injection e with e; subst e; exact HT5.out.size)
      have HT7 : Hid (Below wr.heap.size wr (w3.setCell ⟨b5, 3, none⟩ (.slice bp' abs.length bc'))) := below_turned hT3 t6 (by rw [HE5.out]; exact Nat.le_refl _)
      have HBR7 : Hid ((w3.setCell ⟨b5, 3, none⟩ (.slice bp' abs.length bc')).ownsRow w.heap.size TU8 1 (.slice bp' abs.length bc') abs.length (flatC byC abs)) := own_t HO3.out t6 (fun j hj => ⟨_, _, hj ▸ HN3'.out, by decide⟩)
      generalize w3.setCell ⟨b5, 3, none⟩ (.slice bp' abs.length bc') = W7 at *
      clear t6 hT3 fz3 s3' s3 HN3' HO3 HG3' HTE HRW HOE HN6 HSE HT5 HW5 hl5 HN5 hi0 hz0 hz1 hz2
      -- the relocations
      have HW7 : Hid (Below w.heap.size w W7) := HBX.out.trans (HT7.out.mono hwb)
      have hl7 : b5 < W7.heap.size := lt_of_heap HN7.out
      have bE := below1 W7 (.cells #[] TRl)
      have hn8 := blk_b HN7.out bE
      have HN8 : Hid (_ = _) := hn8
      have s4 := (Lib.cell_of_heap hn8 4).trans rfl
      have HOE : Hid ((W7.alloc (.cells #[] TRl)).ownsRow w.heap.size TRl 3 (.slice (some ⟨W7.heap.size, 0, none⟩) 0 0) 0 []) := ⟨rfl, Or.inr ⟨W7.heap.size, 0, #[], rfl, HW7.out.size, heap_r0 W7 _, Nat.zero_le _, Nat.zero_le _, rfl, by simp⟩⟩
      have HTE : Hid (Below wr.heap.size wr (W7.alloc (.cells #[] TRl))) := HT7.out.trans (bE.mono HT7.out.size)
      have HRW : Hid (RowV rlC 3 (W7.alloc (.cells #[] TRl)) arp arc arl) := HCI.out.1.rr.below (HW7.out.trans (bE.mono HW7.out.size))
      have HSE : Hid (w.heap.size ≤ (W7.alloc (.cells #[] TRl)).heap.size) := Nat.le_trans HW7.out.size bE.size
      have HBRE : Hid ((W7.alloc (.cells #[] TRl)).ownsRow w.heap.size TU8 1 (.slice bp' abs.length bc') abs.length (flatC byC abs)) := own_below HBR7.out bE
      obtain ⟨i0, hi0, hz0, hz1, hz2⟩ := info_parts infoRl
      clear bE hn8
      go_upto_region 8 with (at_builtin; go_must (refine append_row 3 24 (by decide) rlC_length one_rlC Tryz.underlying68 hi0 hz0 hz1 hz2 (by decide) rfl rfl (.tmp 33) (.tmp 36) rfl w.heap.size (.slice (some ⟨W7.heap.size, 0, none⟩) 0 0) 0 [] rfl HOE.out (l := arl) rfl HRW.out (by omega) HSE.out ?_; intro v3 w3 ho3 hg3; obtain ⟨rp', rc', rfl⟩ := slice_of_own ho3; rw [Nat.zero_add, List.nil_append] at ho3; have h3 := (hg3.block _ (lt_of_heap HN8.out) (fun e => by have := congrArg (fun x : Option Nat => x.getD 0) e; simp [Value.ownBlock] at this; omega)).trans HN8.out; have fz3 := frozen_of h3 4; have s3' := (Lib.cell_of_heap h3 4).trans rfl; have HN3' : Hid (_ = _) := h3; have HO3 : Hid (World.ownsRow _ _ _ _ _ _ _) := ho3; have HG3' : Hid (World.grownBy _ _ _) := hg3; clear ho3 hg3 h3))
      refine (?_ : Code.wp _ _ _ _ (w3.setCell ⟨b5, 4, none⟩ (.slice rp' arl.length rc')))
      have t8 : Turned w3 (w3.setCell ⟨b5, 4, none⟩ (.slice rp' arl.length rc')) (fun j => j = b5) := Turned.setCell w3 b5 4 _ rfl
      have hn9 : (w3.setCell ⟨b5, 4, none⟩ (.slice rp' arl.length rc')).heap[b5]? = some (.cells #[.string anm, .int .i64 asz, .int .i64 aal, .slice bp' abs.length bc', .slice rp' arl.length rc'] TOb (0, 0)) := heap_setCell (j := 4) HN3'.out _
      have HN9 : Hid (_ = _) := hn9
      have hT3 : Below wr.heap.size wr w3 := below_grown HTE.out HTE.out.size HG3'.out (fun k e => by injection e with e; subst e; exact HT7.out.size)
      have HT8 : Hid (Below wr.heap.size wr (w3.setCell ⟨b5, 4, none⟩ (.slice rp' arl.length rc'))) := below_turned hT3 t8 (by rw [HE5.out]; exact Nat.le_refl _)
      have tg8 : Turned (W7.alloc (.cells #[] TRl)) w3 (fun j => some W7.heap.size = some j) := Turned.of_grown HG3'.out (fun k e => e)
      have HBR8 : Hid ((w3.setCell ⟨b5, 4, none⟩ (.slice rp' arl.length rc')).ownsRow w.heap.size TU8 1 (.slice bp' abs.length bc') abs.length (flatC byC abs)) := own_t (own_t HBRE.out tg8 (fun j hj => by injection hj with hj; subst hj; exact ⟨_, _, heap_r0 W7 _, by decide⟩)) t8 (fun j hj => ⟨_, _, hj ▸ HN3'.out, by decide⟩)
      have HRR8 : Hid ((w3.setCell ⟨b5, 4, none⟩ (.slice rp' arl.length rc')).ownsRow w.heap.size TRl 3 (.slice rp' arl.length rc') arl.length (flatC rlC arl)) := own_t HO3.out t8 (fun j hj => ⟨_, _, hj ▸ HN3'.out, by decide⟩)
      have v0 := (Lib.cell_of_heap hn9 0).trans rfl
      have v1 := (Lib.cell_of_heap hn9 1).trans rfl
      have v2 := (Lib.cell_of_heap hn9 2).trans rfl
      have v3 := (Lib.cell_of_heap hn9 3).trans rfl
      have v4 := (Lib.cell_of_heap hn9 4).trans rfl
      generalize w3.setCell ⟨b5, 4, none⟩ (.slice rp' arl.length rc') = W8 at *
      clear t8 tg8 hT3 fz3 s3' s4 HN3' HO3 HG3' HTE HRW HOE HN8 HSE HT7 HW7 hl7 HN7 HBR7 HBRE hn9 hi0 hz0 hz1 hz2
      -- the row of objects
      have hg3 := blk_b HG3.out HT8.out
      have u0 := (Lib.cell_of_heap hg3 0).trans rfl
      have hb9 := below1 W8 (.cells #[.string anm, .int .i64 asz, .int .i64 aal, .slice bp' abs.length bc', .slice rp' arl.length rc'] TOb)
      have HG39 : Hid ((W8.alloc (.cells #[.string anm, .int .i64 asz, .int .i64 aal, .slice bp' abs.length bc', .slice rp' arl.length rc'] TOb)).heap[w.heap.size + 2]? = some (.cells #[.slice op k oc, .slice none 0 0, .int .i64 mn] TPg (0, 0))) := blk_b hg3 hb9
      have HG19 : Hid ((W8.alloc (.cells #[.string anm, .int .i64 asz, .int .i64 aal, .slice bp' abs.length bc', .slice rp' arl.length rc'] TOb)).heap[w.heap.size]? = some (.cells #[.slice (some ⟨g, o, none⟩) lo.length c1, .slice f1 lf.length t1, .int .i64 mn] TPg (0, 0))) := blk_b (blk_b HG1.out HT8.out) hb9
      have HG29 : Hid ((W8.alloc (.cells #[.string anm, .int .i64 asz, .int .i64 aal, .slice bp' abs.length bc', .slice rp' arl.length rc'] TOb)).heap[w.heap.size + 1]? = some (.cells #[.slice none 0 0, .slice none 0 0, .int .i64 0] TPg (0, 0))) := blk_b (blk_b HG2.out HT8.out) hb9
      have HO9 : Hid ((W8.alloc (.cells #[.string anm, .int .i64 asz, .int .i64 aal, .slice bp' abs.length bc', .slice rp' arl.length rc'] TOb)).ownsRow w.heap.size TOb 5 (.slice op k oc) k (flatC ogC l2)) := own_below (own_below HOW.out HT8.out) hb9
      have HNEW : Hid (OgOwn w.heap.size W8 (⟨⟨anm, asz, aal, bp', abs.length, bc', rp', arl.length, rc'⟩, abs, arl⟩ : Og)) := ⟨rfl, rfl, HBR8.out, HRR8.out⟩
      have HA9 : Hid (∀ q ∈ l2 ++ [(⟨⟨anm, asz, aal, bp', abs.length, bc', rp', arl.length, rc'⟩, abs, arl⟩ : Og)], OgOwn w.heap.size (W8.alloc (.cells #[.string anm, .int .i64 asz, .int .i64 aal, .slice bp' abs.length bc', .slice rp' arl.length rc'] TOb)) q) := fun q hq => by
        rcases List.mem_append.1 hq with h | h
        · exact ((HFO.out q h).below HT8.out).below hb9
        · rw [List.mem_singleton.1 h]; exact HNEW.out.below hb9
      have HB9 : Hid (Below w.heap.size w (W8.alloc (.cells #[.string anm, .int .i64 asz, .int .i64 aal, .slice bp' abs.length bc', .slice rp' arl.length rc'] TOb))) := (HBX.out.trans (HT8.out.mono hwb)).trans (hb9.mono (HBX.out.trans (HT8.out.mono hwb)).size)
      obtain ⟨i0, hi, hz0, hz1, hz2⟩ := info_parts infoOb
      clear hb9 hg3 HBR8 HRR8 HNEW HN9 HT8 HG3 HOW HFO HG1 HG2 HBX
      go_wp2_with (at_builtin; go_must (refine wpList_append_own_at _ rfl (.tmp 41) (.tmp 43) 22 rfl w.heap.size TOb i0 _ 5 80 Tryz.underlying22 hi hz0 hz1 hz2 rfl (by decide) _ k _ rfl HO9.out ⟨W8.heap.size, 0, none⟩ 1 1 (#[.string anm, .int .i64 asz, .int .i64 aal, .slice bp' abs.length bc', .slice rp' arl.length rc']).toList rfl rfl (cells_new _ _ _) (by simp [Value.oneCell']) (by unfold maxLen; omega) (by omega) HB9.out.size ?_; intro v' w11 hown hgrow hnil hat; obtain ⟨p', cap', rfl⟩ := slice_of_own hown; have h3 := (hgrow.block _ (lt_of_heap HG39.out) (fun e => not_own (cs := []) HO9.out HG39.out (by decide) e.symm)).trans HG39.out; have fz3 := frozen_of h3 0; have u3 := (Lib.cell_of_heap h3 0).trans rfl; have HG11 : Hid (_ = _) := h3; have HOW11 : Hid (World.ownsRow _ _ _ _ _ _ _) := hown; have HGR : Hid (World.grownBy _ _ _) := hgrow; clear hown hgrow hnil hat h3))
      have t12 : Turned w11 (w11.setCell ⟨w.heap.size + 2, 0, none⟩ (.slice p' (k + 1) cap')) (fun j => j = w.heap.size + 2) := Turned.setCell w11 _ 0 _ rfl
      have tg : Turned (W8.alloc (.cells #[.string anm, .int .i64 asz, .int .i64 aal, .slice bp' abs.length bc', .slice rp' arl.length rc'] TOb)) w11 (fun j => (Value.slice op k oc).ownBlock = some j) := Turned.of_grown HGR.out (fun k e => e)
      have hg1 := blk_t (blk_t HG19.out tg (not_own (cs := []) HO9.out HG19.out (by decide))) t12 (by omega)
      have hg2 := blk_t (blk_t HG29.out tg (not_own (cs := []) HO9.out HG29.out (by decide))) t12 (by omega)
      have hb11 : Below w.heap.size w w11 := below_grown HB9.out HB9.out.size HGR.out (fun k e => (ownsRow_at HO9.out e).1)
      refine ⟨⟨k + 1, l2 ++ [(⟨⟨anm, asz, aal, bp', abs.length, bc', rp', arl.length, rc'⟩, abs, arl⟩ : Og)], p', cap', by go_num, by omega, Lib.hid (by rw [List.length_append, HL2.out]; rfl), Lib.hid (heap_setCell (j := 0) HG11.out _), Lib.hid ?_, Lib.hid ?_, Lib.hid ?_, Lib.hid hg1, Lib.hid hg2, Lib.hid (below_turned hb11 t12 (by omega))⟩, by simp [intOf]; omega⟩
      · rw [flatC_snoc]
        exact ownsRow_turned HOW11.out t12 (fun j hj e => not_own (cs := []) HOW11.out HG11.out (by decide) (e ▸ hj))
      · intro k' x y hx hy
        by_cases hk' : k' < l2.length
        · rw [List.getElem?_append_left hk'] at hy
          exact HEQ.out k' x y hx hy
        · rw [List.getElem?_append_right (by omega)] at hy
          have h0 : k' - l2.length = 0 := by
            have := (List.getElem?_eq_some_iff.1 hy).1
            simp at this
            omega
          rw [h0] at hy
          simp only [List.getElem?_cons_zero, Option.some.injEq] at hy
          have hkk : k' = k := by have := HL2.out; omega
          rw [hkk, HA.out] at hx
          injection hx with hx
          subst hx hy
          exact ⟨rfl, rfl, rfl, rfl, rfl⟩
      · intro q hq
        exact ((HA9.out q hq).turned tg (fun j hj => by obtain ⟨_, cur, hcur⟩ := ownsRow_at HO9.out hj; exact ⟨cur, _, hcur, by decide⟩)).turned t12 (fun j hj => ⟨_, _, hj ▸ HG11.out, by decide⟩)
    · have hkl : k = lo.length := by omega
      subst hkl
      have hge : ¬ ((lo.length : Int) < (lo.length : Int)) := by omega
      have HL2' : Hid (l2.length = lo.length) := HL2.out
      have HEO : Hid (∀ (k : Nat) (a b : Og), lo[k]? = some a → l2[k]? = some b → OgEq a b) := HEQ.out
      clear HL2 HEQ
      go_wp2
      clear e0
      go_loopw [6] (fun iv wx => ∃ (k : Nat) (l3 : List Fg) (fp : Option Addr) (fc : Nat), iv = .int .i64 k ∧ k ≤ lf.length ∧ Hid (l3.length = k) ∧ Hid (wx.heap[w.heap.size + 2]? = some (.cells #[.slice op lo.length oc, .slice fp k fc, .int .i64 mn] TPg (0, 0))) ∧ Hid (wx.ownsRow w.heap.size TOb 5 (.slice op lo.length oc) lo.length (flatC ogC l2)) ∧ Hid (∀ q ∈ l2, OgOwn w.heap.size wx q) ∧ Hid (wx.ownsRow w.heap.size TFn 6 (.slice fp k fc) k (flatC fgC l3)) ∧ Hid (∀ (k : Nat) (a b : Fg), lf[k]? = some a → l3[k]? = some b → FgEq a b) ∧ Hid (∀ q ∈ l3, FnOwn w.heap.size wx q) ∧ Hid (wx.heap[w.heap.size]? = some (.cells #[.slice p1 lo.length c1, .slice f1 lf.length t1, .int .i64 mn] TPg (0, 0))) ∧ Hid (wx.heap[w.heap.size + 1]? = some (.cells #[.slice none 0 0, .slice none 0 0, .int .i64 0] TPg (0, 0))) ∧ Hid (Below w.heap.size w wx)) (fun iv _ => lf.length - (intOf iv).toNat)
      case atStart => exact ⟨0, [], none, 0, rfl, Nat.zero_le _, rfl, HG3, HOW, HFO, ⟨rfl, Or.inl ⟨rfl, rfl⟩⟩, (fun k a b _ h => by simp at h), (fun q hq => by simp at hq), HG1, HG2, HBX⟩
      case round =>
        rename World => wx
        clear HG3 HOW HFO HG1 HG2 HBX
        obtain ⟨k, l3, fp, fc, rfl, hk, HL3, HG3, HOO, HOI, HOW, HEQ, HFO, HG1, HG2, HBX⟩ := hrel
        have e1 := (Lib.cell_of_heap HG1.out 1).trans rfl
        by_cases hlt : k < lf.length
        · obtain ⟨a, ha⟩ : ∃ r, lf[k]? = some r := ⟨_, List.getElem?_eq_getElem hlt⟩
          obtain ⟨g, o, hfe, hg, hc⟩ := (HKF.out wx HBX.out).2 k _ ha
          subst hfe
          have q1 := (HKF.out wx HBX.out).1.1
          have HCI : Hid (FgOK w a ∧ a.sls.length * 16 ≤ 140737488355328 ∧ a.code.length * 112 ≤ 140737488355328 ∧ ∀ i ∈ a.code, i.x.args.length * 16 ≤ 140737488355328) := HIF.out a (List.mem_of_getElem? ha)
          have HA : Hid (lf[k]? = some a) := ha
          have hsl : a.sls.length * 16 ≤ 140737488355328 := HCI.out.2.1
          have c0 : wx.cell? ⟨g, o + k * 6, none⟩ = some (.string a.f.nm) := hc 0 (by omega)
          have c1' : wx.cell? ⟨g, o + k * 6 + 1, none⟩ = some (.int .i64 a.f.pr) := hc 1 (by omega)
          have c2 : wx.cell? ⟨g, o + k * 6 + 2, none⟩ = some (.int .i64 a.f.tp) := hc 2 (by omega)
          have c3 : wx.cell? ⟨g, o + k * 6 + 3, none⟩ = some (.bool a.f.gv) := hc 3 (by omega)
          have c4 : wx.cell? ⟨g, o + k * 6 + 4, none⟩ = some (.slice a.f.sp a.sls.length a.f.sc) := by have := hc 4 (by omega); simp only [fgC, fnC, List.getElem?_cons_zero, List.getElem?_cons_succ, HCI.out.1.sn] at this; exact this
          have c5 : wx.cell? ⟨g, o + k * 6 + 5, none⟩ = some (.slice a.f.cp a.code.length a.f.cc) := by have := hc 5 (by omega); simp only [fgC, fnC, List.getElem?_cons_zero, List.getElem?_cons_succ, HCI.out.1.cn] at this; exact this
          have hold := heap_r0 wx (.cells #[.string ⟨#[]⟩, .int .i64 0, .int .i64 0, .bool false, .slice none 0 0, .slice none 0 0] TFn)
          clear ha hc
          go_upto_region 13 with (first | ((with_reducible apply step_store hold); rfl; rfl; kernel_rfl; rfl; kernel_rfl; rw [World.setRow_alloc_new]) | fail)
          refine (?_ : Code.wp _ _ _ _ (wx.alloc (.cells #[.string a.f.nm, .int .i64 a.f.pr, .int .i64 a.f.tp, .bool a.f.gv, .slice a.f.sp a.sls.length a.f.sc, .slice a.f.cp a.code.length a.f.cc] TFn)))
          have HT5 : Hid (Below wx.heap.size wx (wx.alloc (.cells #[.string a.f.nm, .int .i64 a.f.pr, .int .i64 a.f.tp, .bool a.f.gv, .slice a.f.sp a.sls.length a.f.sc, .slice a.f.cp a.code.length a.f.cc] TFn))) := below1 wx _
          have HN5 : Hid ((wx.alloc (.cells #[.string a.f.nm, .int .i64 a.f.pr, .int .i64 a.f.tp, .bool a.f.gv, .slice a.f.sp a.sls.length a.f.sc, .slice a.f.cp a.code.length a.f.cc] TFn)).heap[wx.heap.size]? = some (.cells #[.string a.f.nm, .int .i64 a.f.pr, .int .i64 a.f.tp, .bool a.f.gv, .slice a.f.sp a.sls.length a.f.sc, .slice a.f.cp a.code.length a.f.cc] TFn (0, 0))) := heap_r0 wx _
          have hgb : w.heap.size + 2 < wx.heap.size := lt_of_heap HG3.out
          have hwb : w.heap.size ≤ wx.heap.size := by omega
          obtain ⟨b5, hb5⟩ : ∃ b, b = wx.heap.size := ⟨_, rfl⟩
          have HE5 : Hid (b5 = wx.heap.size) := hb5
          rw [← hb5] at HN5 hgb ⊢
          generalize wx.alloc (.cells #[.string a.f.nm, .int .i64 a.f.pr, .int .i64 a.f.tp, .bool a.f.gv, .slice a.f.sp a.sls.length a.f.sc, .slice a.f.cp a.code.length a.f.cc] TFn) = W5 at *
          clear hb5 hold c0 c1' c2 c3 c4 c5 e1
          have HW5 : Hid (Below w.heap.size w W5) := HBX.out.trans (HT5.out.mono hwb)
          have hl5 : b5 < W5.heap.size := lt_of_heap HN5.out
          have bE := below1 W5 (.cells #[] TSl)
          have hn6 := blk_b HN5.out bE
          have HN6 : Hid (_ = _) := hn6
          have s4 := (Lib.cell_of_heap hn6 4).trans rfl
          have HOE : Hid ((W5.alloc (.cells #[] TSl)).ownsRow w.heap.size TSl 2 (.slice (some ⟨W5.heap.size, 0, none⟩) 0 0) 0 []) := ⟨rfl, Or.inr ⟨W5.heap.size, 0, #[], rfl, HW5.out.size, heap_r0 W5 _, Nat.zero_le _, Nat.zero_le _, rfl, by simp⟩⟩
          have HTE : Hid (Below wx.heap.size wx (W5.alloc (.cells #[] TSl))) := HT5.out.trans (bE.mono HT5.out.size)
          have HRW : Hid (RowV slC 2 (W5.alloc (.cells #[] TSl)) a.f.sp a.f.sc a.sls) := HCI.out.1.sl.below (HW5.out.trans (bE.mono HW5.out.size))
          have HSE : Hid (w.heap.size ≤ (W5.alloc (.cells #[] TSl)).heap.size) := Nat.le_trans HW5.out.size bE.size
          obtain ⟨i0, hi0, hz0, hz1, hz2⟩ := info_parts infoSlt
          clear bE hn6
          go_upto_region 14 with (at_builtin; go_must (refine append_row 2 16 (by decide) slC_length one_slC Tryz.underlying29 hi0 hz0 hz1 hz2 (by decide) rfl rfl (.tmp 58) (.tmp 60) rfl w.heap.size (.slice (some ⟨W5.heap.size, 0, none⟩) 0 0) 0 [] rfl HOE.out (l := a.sls) rfl HRW.out (by omega) HSE.out ?_; intro v3 w3 ho3 hg3; obtain ⟨sp', sc', rfl⟩ := slice_of_own ho3; rw [Nat.zero_add, List.nil_append] at ho3; have h3 := (hg3.block _ (lt_of_heap HN6.out) (fun e => by have := congrArg (fun x : Option Nat => x.getD 0) e; simp [Value.ownBlock] at this; omega)).trans HN6.out; have fz3 := frozen_of h3 4; have s3' := (Lib.cell_of_heap h3 4).trans rfl; have HN3' : Hid (_ = _) := h3; have HO3 : Hid (World.ownsRow _ _ _ _ _ _ _) := ho3; have HG3' : Hid (World.grownBy _ _ _) := hg3; clear ho3 hg3 h3))
          refine (?_ : Code.wp _ _ _ _ (w3.setCell ⟨b5, 4, none⟩ (.slice sp' a.sls.length sc')))
          have t6 : Turned w3 (w3.setCell ⟨b5, 4, none⟩ (.slice sp' a.sls.length sc')) (fun j => j = b5) := Turned.setCell w3 b5 4 _ rfl
          have HN7 : Hid ((w3.setCell ⟨b5, 4, none⟩ (.slice sp' a.sls.length sc')).heap[b5]? = some (.cells #[.string a.f.nm, .int .i64 a.f.pr, .int .i64 a.f.tp, .bool a.f.gv, .slice sp' a.sls.length sc', .slice a.f.cp a.code.length a.f.cc] TFn (0, 0))) := heap_setCell (j := 4) HN3'.out _
          have hT3 : Below wx.heap.size wx w3 := below_grown HTE.out HTE.out.size HG3'.out (fun k e => by injection e with e; subst e; exact HT5.out.size)
          have HT6 : Hid (Below wx.heap.size wx (w3.setCell ⟨b5, 4, none⟩ (.slice sp' a.sls.length sc'))) := below_turned hT3 t6 (by rw [HE5.out]; exact Nat.le_refl _)
          have HSR6 : Hid ((w3.setCell ⟨b5, 4, none⟩ (.slice sp' a.sls.length sc')).ownsRow w.heap.size TSl 2 (.slice sp' a.sls.length sc') a.sls.length (flatC slC a.sls)) := own_t HO3.out t6 (fun j hj => ⟨_, _, hj ▸ HN3'.out, by decide⟩)
          generalize w3.setCell ⟨b5, 4, none⟩ (.slice sp' a.sls.length sc') = W6 at *
          have HB6 : Hid (Below w.heap.size w W6) := HBX.out.trans (HT6.out.mono hwb)
          clear t6 hT3 fz3 s3' s4 HN3' HO3 HG3' HTE HRW HOE HN6 HSE HT5 HW5 hl5 HN5 hi0 hz0 hz1 hz2
          go_upto_region 16 with (fail)
          go_loopw [8, 9] (fun s8 s9 wy => ∃ (k2 : Nat) (cs : List Iw) (vp : Option Addr) (vc : Nat), s8 = .slice vp k2 vc ∧ s9 = .int .i64 k2 ∧ k2 ≤ a.code.length ∧ Hid (cs.length = k2) ∧ Hid (cs.map Iw.x = (a.code.take k2).map Iw.x) ∧ Hid (wy.ownsRow W6.heap.size TIn 12 (.slice vp k2 vc) k2 (flatC iwC cs)) ∧ Hid (∀ i ∈ cs, IwOwn W6.heap.size wy i) ∧ Hid (Below W6.heap.size W6 wy)) (fun _ iv _ => a.code.length - (intOf iv).toNat)
          case atStart => exact ⟨0, [], none, 0, rfl, rfl, Nat.zero_le _, rfl, rfl, ⟨rfl, Or.inl ⟨rfl, rfl⟩⟩, (fun q hq => by simp at hq), Below.refl _ _⟩
          case round =>
            rename World => wy
            obtain ⟨k2, cs, vp, vc, rfl, rfl, hk2, HCL, HCM, HCO, HIO', HBY⟩ := hrel
            have hn8 := blk_b HN7.out HBY.out
            have d5 := (Lib.cell_of_heap hn8 5).trans rfl
            by_cases hlt2 : k2 < a.code.length
            · obtain ⟨r, hr⟩ : ∃ r, a.code[k2]? = some r := ⟨_, List.getElem?_eq_getElem hlt2⟩
              obtain ⟨rx, rp, rc⟩ := r
              have HBW : Hid (Below w.heap.size w wy) := HB6.out.trans (HBY.out.mono HB6.out.size)
              obtain ⟨gc, oc, hce, hgc, hcc⟩ := (HCI.out.1.cr.below HBW.out).2 k2 _ hr
              have hcap := (HCI.out.1.cr.below HBW.out).1.1
              have HAV : Hid (∀ Y, Below wy.heap.size wy Y → ArgV Y (.slice rp rx.args.length rc) rx.args) := fun Y hY => (HCI.out.1.ci _ (List.mem_of_getElem? hr)).ar.below (HBW.out.trans (hY.mono HBW.out.size))
              have hal : rx.args.length * 16 ≤ 140737488355328 := HCI.out.2.2.2 _ (List.mem_of_getElem? hr)
              have hcl : a.code.length * 112 ≤ 140737488355328 := HCI.out.2.2.1
              have HCM2 : Hid ((a.code.take (k2 + 1)).map Iw.x = cs.map Iw.x ++ [rx]) := by show _ = _; rw [HCM.out, List.take_add_one, hr]; simp
              have HLT2 : Hid (∀ j, (Value.slice vp k2 vc).ownBlock = some j → j < wy.heap.size) := fun j hj => by
                obtain ⟨_, cur, hcur⟩ := ownsRow_at HCO.out hj
                exact lt_of_heap hcur
              rw [hce] at d5
              have j0 : wy.cell? ⟨gc, oc + k2 * 12, none⟩ = some (.int .i64 rx.op) := hcc 0 (by omega)
              have j1 : wy.cell? ⟨gc, oc + k2 * 12 + 1, none⟩ = some (.int .i64 rx.bin) := hcc 1 (by omega)
              have j2 : wy.cell? ⟨gc, oc + k2 * 12 + 2, none⟩ = some (.int .i64 rx.d) := hcc 2 (by omega)
              have j3 : wy.cell? ⟨gc, oc + k2 * 12 + 3, none⟩ = some (.int .i64 rx.a.kind) := hcc 3 (by omega)
              have j4 : wy.cell? ⟨gc, oc + k2 * 12 + 4, none⟩ = some (.int .u32 rx.a.n) := hcc 4 (by omega)
              have j5 : wy.cell? ⟨gc, oc + k2 * 12 + 5, none⟩ = some (.int .i64 rx.b.kind) := hcc 5 (by omega)
              have j6 : wy.cell? ⟨gc, oc + k2 * 12 + 6, none⟩ = some (.int .u32 rx.b.n) := hcc 6 (by omega)
              have j7 : wy.cell? ⟨gc, oc + k2 * 12 + 7, none⟩ = some (.int .i64 rx.n) := hcc 7 (by omega)
              have j8 : wy.cell? ⟨gc, oc + k2 * 12 + 8, none⟩ = some (.int .i64 rx.off) := hcc 8 (by omega)
              have j9 : wy.cell? ⟨gc, oc + k2 * 12 + 9, none⟩ = some (.int .i64 rx.width) := hcc 9 (by omega)
              have j10 : wy.cell? ⟨gc, oc + k2 * 12 + 10, none⟩ = some (.bool rx.sg) := hcc 10 (by omega)
              have j11 : wy.cell? ⟨gc, oc + k2 * 12 + 11, none⟩ = some (.slice rp rx.args.length rc) := hcc 11 (by omega)
              have hold := heap_r0 wy (.cells #[.int .i64 0, .int .i64 0, .int .i64 0, .int .i64 0, .int .u32 0, .int .i64 0, .int .u32 0, .int .i64 0, .int .i64 0, .int .i64 0, .bool false, .slice none 0 0] TIn)
              have hb8 := below1 wy (.cells #[.int .i64 rx.op, .int .i64 rx.bin, .int .i64 rx.d, .int .i64 rx.a.kind, .int .u32 rx.a.n, .int .i64 rx.b.kind, .int .u32 rx.b.n, .int .i64 rx.n, .int .i64 rx.off, .int .i64 rx.width, .bool rx.sg, .slice rp rx.args.length rc] TIn)
              have h8 := heap_r0 wy (.cells #[.int .i64 rx.op, .int .i64 rx.bin, .int .i64 rx.d, .int .i64 rx.a.kind, .int .u32 rx.a.n, .int .i64 rx.b.kind, .int .u32 rx.b.n, .int .i64 rx.n, .int .i64 rx.off, .int .i64 rx.width, .bool rx.sg, .slice rp rx.args.length rc] TIn)
              have HN8 : Hid ((wy.alloc (.cells #[.int .i64 rx.op, .int .i64 rx.bin, .int .i64 rx.d, .int .i64 rx.a.kind, .int .u32 rx.a.n, .int .i64 rx.b.kind, .int .u32 rx.b.n, .int .i64 rx.n, .int .i64 rx.off, .int .i64 rx.width, .bool rx.sg, .slice rp rx.args.length rc] TIn)).heap[wy.heap.size]? = some (.cells #[.int .i64 rx.op, .int .i64 rx.bin, .int .i64 rx.d, .int .i64 rx.a.kind, .int .u32 rx.a.n, .int .i64 rx.b.kind, .int .u32 rx.b.n, .int .i64 rx.n, .int .i64 rx.off, .int .i64 rx.width, .bool rx.sg, .slice rp rx.args.length rc] TIn (0, 0))) := h8
              have HB8 : Hid (Below W6.heap.size W6 (wy.alloc (.cells #[.int .i64 rx.op, .int .i64 rx.bin, .int .i64 rx.d, .int .i64 rx.a.kind, .int .u32 rx.a.n, .int .i64 rx.b.kind, .int .u32 rx.b.n, .int .i64 rx.n, .int .i64 rx.off, .int .i64 rx.width, .bool rx.sg, .slice rp rx.args.length rc] TIn))) := HBY.out.trans (hb8.mono HBY.out.size)
              have HCO8 : Hid ((wy.alloc (.cells #[.int .i64 rx.op, .int .i64 rx.bin, .int .i64 rx.d, .int .i64 rx.a.kind, .int .u32 rx.a.n, .int .i64 rx.b.kind, .int .u32 rx.b.n, .int .i64 rx.n, .int .i64 rx.off, .int .i64 rx.width, .bool rx.sg, .slice rp rx.args.length rc] TIn)).ownsRow W6.heap.size TIn 12 (.slice vp k2 vc) k2 (flatC iwC cs)) := ownsRow_turned HCO.out (Turned.of_below hb8 (fun _ => False)) (fun _ _ h => h)
              have HIO8 : Hid (∀ i ∈ cs, IwOwn W6.heap.size (wy.alloc (.cells #[.int .i64 rx.op, .int .i64 rx.bin, .int .i64 rx.d, .int .i64 rx.a.kind, .int .u32 rx.a.n, .int .i64 rx.b.kind, .int .u32 rx.b.n, .int .i64 rx.n, .int .i64 rx.off, .int .i64 rx.width, .bool rx.sg, .slice rp rx.args.length rc] TIn)) i) := fun i hi => (HIO'.out i hi).below hb8
              have HAV8 : Hid (∀ Y, Below (wy.alloc (.cells #[.int .i64 rx.op, .int .i64 rx.bin, .int .i64 rx.d, .int .i64 rx.a.kind, .int .u32 rx.a.n, .int .i64 rx.b.kind, .int .u32 rx.b.n, .int .i64 rx.n, .int .i64 rx.off, .int .i64 rx.width, .bool rx.sg, .slice rp rx.args.length rc] TIn)).heap.size (wy.alloc (.cells #[.int .i64 rx.op, .int .i64 rx.bin, .int .i64 rx.d, .int .i64 rx.a.kind, .int .u32 rx.a.n, .int .i64 rx.b.kind, .int .u32 rx.b.n, .int .i64 rx.n, .int .i64 rx.off, .int .i64 rx.width, .bool rx.sg, .slice rp rx.args.length rc] TIn)) Y → ArgV Y (.slice rp rx.args.length rc) rx.args) := fun Y hY => HAV.out Y (hb8.trans (hY.mono hb8.size))
              have hb5y : W6.heap.size ≤ wy.heap.size := HBY.out.size
              have HZ8 : Hid ((wy.alloc (.cells #[.int .i64 rx.op, .int .i64 rx.bin, .int .i64 rx.d, .int .i64 rx.a.kind, .int .u32 rx.a.n, .int .i64 rx.b.kind, .int .u32 rx.b.n, .int .i64 rx.n, .int .i64 rx.off, .int .i64 rx.width, .bool rx.sg, .slice rp rx.args.length rc] TIn)).heap.size = wy.heap.size + 1) := by show _ = _; simp
              clear hr hcc hce HAV HB6 hb8 h8 hn8
              go_upto_region 19 with (first | ((with_reducible apply step_store hold); rfl; rfl; kernel_rfl; rfl; kernel_rfl; rw [World.setRow_alloc_new]) | fail)
              refine (?_ : Code.wp _ _ _ _ (wy.alloc (.cells #[.int .i64 rx.op, .int .i64 rx.bin, .int .i64 rx.d, .int .i64 rx.a.kind, .int .u32 rx.a.n, .int .i64 rx.b.kind, .int .u32 rx.b.n, .int .i64 rx.n, .int .i64 rx.off, .int .i64 rx.width, .bool rx.sg, .slice rp rx.args.length rc] TIn)))
              clear hold j0 j1 j2 j3 j4 j5 j6 j7 j8 j9 j10 j11 d5
              generalize (wy.alloc (.cells #[.int .i64 rx.op, .int .i64 rx.bin, .int .i64 rx.d, .int .i64 rx.a.kind, .int .u32 rx.a.n, .int .i64 rx.b.kind, .int .u32 rx.b.n, .int .i64 rx.n, .int .i64 rx.off, .int .i64 rx.width, .bool rx.sg, .slice rp rx.args.length rc] TIn)) = W8 at *
              generalize wy.heap.size = b8 at *
              have bE := below1 W8 (.cells #[] TAr)
              have h9 := blk_b HN8.out bE
              have HN9 : Hid ((W8.alloc (.cells #[] TAr)).heap[b8]? = some (.cells #[.int .i64 rx.op, .int .i64 rx.bin, .int .i64 rx.d, .int .i64 rx.a.kind, .int .u32 rx.a.n, .int .i64 rx.b.kind, .int .u32 rx.b.n, .int .i64 rx.n, .int .i64 rx.off, .int .i64 rx.width, .bool rx.sg, .slice rp rx.args.length rc] TIn (0, 0))) := h9
              have s11 := (Lib.cell_of_heap h9 11).trans rfl
              have hE := heap_r0 W8 (.cells #[] TAr)
              have HOE : Hid ((W8.alloc (.cells #[] TAr)).ownsRow W6.heap.size TAr 2 (.slice (some ⟨W8.heap.size, 0, none⟩) 0 0) 0 []) := ⟨rfl, Or.inr ⟨W8.heap.size, 0, #[], rfl, HB8.out.size, hE, Nat.zero_le _, Nat.zero_le _, rfl, by simp⟩⟩
              have HB9 : Hid (Below W6.heap.size W6 (W8.alloc (.cells #[] TAr))) := HB8.out.trans (bE.mono HB8.out.size)
              have HAV9 : Hid (ArgV (W8.alloc (.cells #[] TAr)) (.slice rp rx.args.length rc) rx.args) := HAV8.out _ bE
              have HBE : Hid (Below W8.heap.size W8 (W8.alloc (.cells #[] TAr))) := bE
              clear bE h9 hE
              go_upto_region 20 with (at_builtin; go_must (refine append_args rfl (.tmp 75) (.tmp 77) rfl W6.heap.size (.slice (some ⟨W8.heap.size, 0, none⟩) 0 0) 0 [] rfl HOE.out (xv := .slice rp rx.args.length rc) (l := rx.args) rfl HAV9.out (by omega) HB9.out.size ?_; intro v3 w3 ho3 hg3; obtain ⟨vp', vc', rfl⟩ := slice_of_own ho3; rw [Nat.zero_add, List.nil_append] at ho3; have h3 := (hg3.block _ (lt_of_heap HN9.out) (fun e => by have := congrArg (fun x : Option Nat => x.getD 0) e; simp [Value.ownBlock] at this; have := HZ8.out; omega)).trans HN9.out; have fz3 := frozen_of h3 11; have s3 := (Lib.cell_of_heap h3 11).trans rfl; have HN3' : Hid (_ = _) := h3; have HO3 : Hid (World.ownsRow _ _ _ _ _ _ _) := ho3; have HG3' : Hid (World.grownBy _ _ _) := hg3; clear ho3 hg3 h3))
              refine (?_ : Code.wp _ _ _ _ (w3.setCell ⟨b8, 11, none⟩ (.slice vp' rx.args.length vc')))
              have tgA : Turned (W8.alloc (.cells #[] TAr)) w3 (fun j => some W8.heap.size = some j) := Turned.of_grown HG3'.out (fun k e => e)
              have t11 : Turned w3 (w3.setCell ⟨b8, 11, none⟩ (.slice vp' rx.args.length vc')) (fun j => j = b8) := Turned.setCell w3 b8 11 _ rfl
              have h11 : (w3.setCell ⟨b8, 11, none⟩ (.slice vp' rx.args.length vc')).heap[b8]? = some (.cells #[.int .i64 rx.op, .int .i64 rx.bin, .int .i64 rx.d, .int .i64 rx.a.kind, .int .u32 rx.a.n, .int .i64 rx.b.kind, .int .u32 rx.b.n, .int .i64 rx.n, .int .i64 rx.off, .int .i64 rx.width, .bool rx.sg, .slice vp' rx.args.length vc'] TIn (0, 0)) := heap_setCell (j := 11) HN3'.out _
              have hb12 := below1 (w3.setCell ⟨b8, 11, none⟩ (.slice vp' rx.args.length vc')) (.cells #[.int .i64 rx.op, .int .i64 rx.bin, .int .i64 rx.d, .int .i64 rx.a.kind, .int .u32 rx.a.n, .int .i64 rx.b.kind, .int .u32 rx.b.n, .int .i64 rx.n, .int .i64 rx.off, .int .i64 rx.width, .bool rx.sg, .slice vp' rx.args.length vc'] TIn)
              have hB3 : Below W6.heap.size W6 w3 := below_grown HB9.out HB9.out.size HG3'.out (fun k e => by injection e with e; subst e; exact HB8.out.size)
              have hB11 : Below W6.heap.size W6 (w3.setCell ⟨b8, 11, none⟩ (.slice vp' rx.args.length vc')) := below_turned hB3 t11 (by omega)
              have HB12 : Hid (Below W6.heap.size W6 ((w3.setCell ⟨b8, 11, none⟩ (.slice vp' rx.args.length vc')).alloc (.cells #[.int .i64 rx.op, .int .i64 rx.bin, .int .i64 rx.d, .int .i64 rx.a.kind, .int .u32 rx.a.n, .int .i64 rx.b.kind, .int .u32 rx.b.n, .int .i64 rx.n, .int .i64 rx.off, .int .i64 rx.width, .bool rx.sg, .slice vp' rx.args.length vc'] TIn))) := hB11.trans (hb12.mono hB11.size)
              have HCO12 : Hid (((w3.setCell ⟨b8, 11, none⟩ (.slice vp' rx.args.length vc')).alloc (.cells #[.int .i64 rx.op, .int .i64 rx.bin, .int .i64 rx.d, .int .i64 rx.a.kind, .int .u32 rx.a.n, .int .i64 rx.b.kind, .int .u32 rx.b.n, .int .i64 rx.n, .int .i64 rx.off, .int .i64 rx.width, .bool rx.sg, .slice vp' rx.args.length vc'] TIn)).ownsRow W6.heap.size TIn 12 (.slice vp k2 vc) k2 (flatC iwC cs)) := ownsRow_turned (ownsRow_turned (ownsRow_turned (ownsRow_turned HCO8.out (Turned.of_below HBE.out (fun _ => False)) (fun _ _ h => h)) tgA (fun j hj e => by injection e with e; have := HLT2.out j hj; have := HZ8.out; omega)) t11 (fun j hj e => by have := HLT2.out j hj; omega)) (Turned.of_below hb12 (fun _ => False)) (fun _ _ h => h)
              have HA12 : Hid (∀ i ∈ cs ++ [(⟨rx, vp', vc'⟩ : Iw)], IwOwn W6.heap.size ((w3.setCell ⟨b8, 11, none⟩ (.slice vp' rx.args.length vc')).alloc (.cells #[.int .i64 rx.op, .int .i64 rx.bin, .int .i64 rx.d, .int .i64 rx.a.kind, .int .u32 rx.a.n, .int .i64 rx.b.kind, .int .u32 rx.b.n, .int .i64 rx.n, .int .i64 rx.off, .int .i64 rx.width, .bool rx.sg, .slice vp' rx.args.length vc'] TIn)) i) := fun i hi => by
                have h0 : IwOwn W6.heap.size w3 i := by
                  rcases List.mem_append.1 hi with h | h
                  · have h8 := HIO8.out i h
                    exact ownsRow_turned (h8.below HBE.out) tgA (fun j hj e => by
                      injection e with e
                      obtain ⟨_, cur, hcur⟩ := ownsRow_at h8 hj
                      have := lt_of_heap hcur
                      omega)
                  · rw [List.mem_singleton.1 h]; exact HO3.out
                exact (h0.turned (ty := TIn) t11 (fun k hk => ⟨_, hk ▸ HN3'.out⟩) (by decide)).below hb12
              obtain ⟨x0, x1, x2, x3, x4, x5, x6, x7, x8, x9, x10, x11⟩ := cells12 h11
              obtain ⟨i1, hi1, hw0, hw1, hw2⟩ := info_parts infoIn
              generalize (w3.setCell ⟨b8, 11, none⟩ (.slice vp' rx.args.length vc')) = W11 at *
              clear tgA t11 h11 hb12 hB3 hB11 s3 fz3 s11 HN9 HN8 HOE HAV9 HBE
              go_wp2_with (at_builtin; go_must (refine wpList_append_own_at _ rfl (.tmp 80) (.tmp 82) 30 rfl W6.heap.size TIn i1 _ 12 112 Tryz.underlying30 hi1 hw0 hw1 hw2 rfl (by decide) _ k2 _ rfl HCO12.out ⟨W11.heap.size, 0, none⟩ 1 1 (#[.int .i64 rx.op, .int .i64 rx.bin, .int .i64 rx.d, .int .i64 rx.a.kind, .int .u32 rx.a.n, .int .i64 rx.b.kind, .int .u32 rx.b.n, .int .i64 rx.n, .int .i64 rx.off, .int .i64 rx.width, .bool rx.sg, .slice vp' rx.args.length vc']).toList rfl rfl (cells_new _ _ _) (by simp [Value.oneCell']) (by unfold maxLen; omega) (by omega) HB12.out.size ?_; intro v' w13 hown hgrow hnil hat; obtain ⟨p', cap', rfl⟩ := slice_of_own hown; have HOW13 : Hid (World.ownsRow _ _ _ _ _ _ _) := hown; have HGR : Hid (World.grownBy _ _ _) := hgrow; clear hown hgrow hnil hat))
              have tg : Turned (W11.alloc (.cells #[.int .i64 rx.op, .int .i64 rx.bin, .int .i64 rx.d, .int .i64 rx.a.kind, .int .u32 rx.a.n, .int .i64 rx.b.kind, .int .u32 rx.b.n, .int .i64 rx.n, .int .i64 rx.off, .int .i64 rx.width, .bool rx.sg, .slice vp' rx.args.length vc'] TIn)) w13 (fun j => (Value.slice vp k2 vc).ownBlock = some j) := Turned.of_grown HGR.out (fun k e => e)
              refine ⟨⟨k2 + 1, cs ++ [(⟨rx, vp', vc'⟩ : Iw)], p', cap', rfl, by go_num, by omega, Lib.hid (by rw [List.length_append, HCL.out]; rfl), Lib.hid (by rw [HCM2.out]; simp), Lib.hid (by rw [flatC_snoc]; exact HOW13.out), Lib.hid (fun i hi => (HA12.out i hi).turned (ty := TIn) tg (fun j hj => by obtain ⟨_, cur, hcur⟩ := ownsRow_at HCO12.out hj; exact ⟨cur, hcur⟩) (by decide)), Lib.hid (below_grown HB12.out HB12.out.size HGR.out (fun k e => (ownsRow_at HCO12.out e).1))⟩, by simp [intOf]; omega⟩
            · have hkl2 : k2 = a.code.length := by omega
              subst hkl2
              have hge : ¬ ((a.code.length : Int) < (a.code.length : Int)) := by omega
              have HBW : Hid (Below w.heap.size w wy) := HB6.out.trans (HBY.out.mono HB6.out.size)
              have HTY : Hid (Below wx.heap.size wx wy) := HT6.out.trans (HBY.out.mono HT6.out.size)
              have HFE : Hid (FgEq a (⟨⟨a.f.nm, a.f.pr, a.f.tp, a.f.gv, sp', a.sls.length, sc', vp, a.code.length, vc⟩, a.sls, cs⟩ : Fg)) := ⟨rfl, rfl, rfl, rfl, rfl, by show _ = cs.map Iw.x; rw [HCM.out, List.take_length]⟩
              have t21 : Turned wy (wy.setCell ⟨b5, 5, none⟩ (.slice vp a.code.length vc)) (fun j => j = b5) := Turned.setCell wy b5 5 _ rfl
              have h21 : (wy.setCell ⟨b5, 5, none⟩ (.slice vp a.code.length vc)).heap[b5]? = some (.cells #[.string a.f.nm, .int .i64 a.f.pr, .int .i64 a.f.tp, .bool a.f.gv, .slice sp' a.sls.length sc', .slice vp a.code.length vc] TFn (0, 0)) := heap_setCell (j := 5) hn8 _
              have HTZ : Hid (Below wx.heap.size wx (wy.setCell ⟨b5, 5, none⟩ (.slice vp a.code.length vc))) := below_turned HTY.out t21 (by rw [HE5.out]; exact Nat.le_refl _)
              have hap : Apart wy (fun j => j = b5) [TSl, TIn, TAr] := fun j hj => ⟨_, _, hj ▸ hn8, by decide⟩
              have HNF : Hid (FnOwn w.heap.size (wy.setCell ⟨b5, 5, none⟩ (.slice vp a.code.length vc)) (⟨⟨a.f.nm, a.f.pr, a.f.tp, a.f.gv, sp', a.sls.length, sc', vp, a.code.length, vc⟩, a.sls, cs⟩ : Fg)) := FnOwn.turned ⟨rfl, HCL.out.symm, own_below HSR6.out HBY.out, by show wy.ownsRow _ _ _ (.slice vp cs.length vc) cs.length _; rw [HCL.out]; exact own_mono HCO.out HB6.out.size, fun i hi => (HIO'.out i hi).mono HB6.out.size⟩ t21 hap
              have fz := frozen_of hn8 5
              have v0 := (Lib.cell_of_heap h21 0).trans rfl
              have v1 := (Lib.cell_of_heap h21 1).trans rfl
              have v2 := (Lib.cell_of_heap h21 2).trans rfl
              have v3 := (Lib.cell_of_heap h21 3).trans rfl
              have v4 := (Lib.cell_of_heap h21 4).trans rfl
              have v5 := (Lib.cell_of_heap h21 5).trans rfl
              clear t21 h21 hap hn8
              go_upto_region 22 with (fail)
              refine (?_ : Code.wp _ _ _ _ (wy.setCell ⟨b5, 5, none⟩ (.slice vp a.code.length vc)))
              generalize (wy.setCell ⟨b5, 5, none⟩ (.slice vp a.code.length vc)) = W21 at *
              clear HTY HSR6 HN7 HB6 HT6 HBY HBW
              have hg3 := blk_b HG3.out HTZ.out
              have u1 := (Lib.cell_of_heap hg3 1).trans rfl
              have hb22 := below1 W21 (.cells #[.string a.f.nm, .int .i64 a.f.pr, .int .i64 a.f.tp, .bool a.f.gv, .slice sp' a.sls.length sc', .slice vp a.code.length vc] TFn)
              have HG322 : Hid ((W21.alloc (.cells #[.string a.f.nm, .int .i64 a.f.pr, .int .i64 a.f.tp, .bool a.f.gv, .slice sp' a.sls.length sc', .slice vp a.code.length vc] TFn)).heap[w.heap.size + 2]? = some (.cells #[.slice op lo.length oc, .slice fp k fc, .int .i64 mn] TPg (0, 0))) := blk_b hg3 hb22
              have HG122 : Hid ((W21.alloc (.cells #[.string a.f.nm, .int .i64 a.f.pr, .int .i64 a.f.tp, .bool a.f.gv, .slice sp' a.sls.length sc', .slice vp a.code.length vc] TFn)).heap[w.heap.size]? = some (.cells #[.slice p1 lo.length c1, .slice (some ⟨g, o, none⟩) lf.length t1, .int .i64 mn] TPg (0, 0))) := blk_b (blk_b HG1.out HTZ.out) hb22
              have HG222 : Hid ((W21.alloc (.cells #[.string a.f.nm, .int .i64 a.f.pr, .int .i64 a.f.tp, .bool a.f.gv, .slice sp' a.sls.length sc', .slice vp a.code.length vc] TFn)).heap[w.heap.size + 1]? = some (.cells #[.slice none 0 0, .slice none 0 0, .int .i64 0] TPg (0, 0))) := blk_b (blk_b HG2.out HTZ.out) hb22
              have HO22 : Hid ((W21.alloc (.cells #[.string a.f.nm, .int .i64 a.f.pr, .int .i64 a.f.tp, .bool a.f.gv, .slice sp' a.sls.length sc', .slice vp a.code.length vc] TFn)).ownsRow w.heap.size TFn 6 (.slice fp k fc) k (flatC fgC l3)) := own_below (own_below HOW.out HTZ.out) hb22
              have HOO22 : Hid ((W21.alloc (.cells #[.string a.f.nm, .int .i64 a.f.pr, .int .i64 a.f.tp, .bool a.f.gv, .slice sp' a.sls.length sc', .slice vp a.code.length vc] TFn)).ownsRow w.heap.size TOb 5 (.slice op lo.length oc) lo.length (flatC ogC l2)) := own_below (own_below HOO.out HTZ.out) hb22
              have HOI22 : Hid (∀ q ∈ l2, OgOwn w.heap.size (W21.alloc (.cells #[.string a.f.nm, .int .i64 a.f.pr, .int .i64 a.f.tp, .bool a.f.gv, .slice sp' a.sls.length sc', .slice vp a.code.length vc] TFn)) q) := fun q h => ((HOI.out q h).below HTZ.out).below hb22
              have HA22 : Hid (∀ q ∈ l3 ++ [(⟨⟨a.f.nm, a.f.pr, a.f.tp, a.f.gv, sp', a.sls.length, sc', vp, a.code.length, vc⟩, a.sls, cs⟩ : Fg)], FnOwn w.heap.size (W21.alloc (.cells #[.string a.f.nm, .int .i64 a.f.pr, .int .i64 a.f.tp, .bool a.f.gv, .slice sp' a.sls.length sc', .slice vp a.code.length vc] TFn)) q) := fun q hq => by
                rcases List.mem_append.1 hq with h | h
                · exact ((HFO.out q h).below HTZ.out).below hb22
                · rw [List.mem_singleton.1 h]; exact HNF.out.below hb22
              have HB22 : Hid (Below w.heap.size w (W21.alloc (.cells #[.string a.f.nm, .int .i64 a.f.pr, .int .i64 a.f.tp, .bool a.f.gv, .slice sp' a.sls.length sc', .slice vp a.code.length vc] TFn))) := (HBX.out.trans (HTZ.out.mono hwb)).trans (hb22.mono (HBX.out.trans (HTZ.out.mono hwb)).size)
              obtain ⟨i0, hi, hz0, hz1, hz2⟩ := info_parts infoFn'
              clear hb22 hg3 HNF HTZ HG3 HOW HFO HG1 HG2 HBX HOO HOI HCO HIO'
              go_wp2_with (at_builtin; go_must (refine wpList_append_own_at _ rfl (.tmp 87) (.tmp 89) 23 rfl w.heap.size TFn i0 _ 6 88 Tryz.underlying23 hi hz0 hz1 hz2 rfl (by decide) _ k _ rfl HO22.out ⟨W21.heap.size, 0, none⟩ 1 1 (#[.string a.f.nm, .int .i64 a.f.pr, .int .i64 a.f.tp, .bool a.f.gv, .slice sp' a.sls.length sc', .slice vp a.code.length vc]).toList rfl rfl (cells_new _ _ _) (by simp [Value.oneCell']) (by unfold maxLen; omega) (by omega) HB22.out.size ?_; intro v' w11 hown hgrow hnil hat; obtain ⟨p', cap', rfl⟩ := slice_of_own hown; have h3 := (hgrow.block _ (lt_of_heap HG322.out) (fun e => not_own (cs := []) HO22.out HG322.out (by decide) e.symm)).trans HG322.out; have fz3 := frozen_of h3 1; have u3 := (Lib.cell_of_heap h3 1).trans rfl; have HG11 : Hid (_ = _) := h3; have HOW11 : Hid (World.ownsRow _ _ _ _ _ _ _) := hown; have HGR : Hid (World.grownBy _ _ _) := hgrow; clear hown hgrow hnil hat h3))
              have t12 : Turned w11 (w11.setCell ⟨w.heap.size + 2, 1, none⟩ (.slice p' (k + 1) cap')) (fun j => j = w.heap.size + 2) := Turned.setCell w11 _ 1 _ rfl
              have tg : Turned (W21.alloc (.cells #[.string a.f.nm, .int .i64 a.f.pr, .int .i64 a.f.tp, .bool a.f.gv, .slice sp' a.sls.length sc', .slice vp a.code.length vc] TFn)) w11 (fun j => (Value.slice fp k fc).ownBlock = some j) := Turned.of_grown HGR.out (fun k e => e)
              have hg1 := blk_t (blk_t HG122.out tg (not_own (cs := []) HO22.out HG122.out (by decide))) t12 (by omega)
              have hg2 := blk_t (blk_t HG222.out tg (not_own (cs := []) HO22.out HG222.out (by decide))) t12 (by omega)
              have hb11 : Below w.heap.size w w11 := below_grown HB22.out HB22.out.size HGR.out (fun k e => (ownsRow_at HO22.out e).1)
              have hrow : ∀ j, (Value.slice fp k fc).ownBlock = some j → ∃ cur, (W21.alloc (.cells #[.string a.f.nm, .int .i64 a.f.pr, .int .i64 a.f.tp, .bool a.f.gv, .slice sp' a.sls.length sc', .slice vp a.code.length vc] TFn)).heap[j]? = some (.cells cur TFn (0, 0)) := fun j hj => (ownsRow_at HO22.out hj).2
              refine ⟨⟨k + 1, l3 ++ [(⟨⟨a.f.nm, a.f.pr, a.f.tp, a.f.gv, sp', a.sls.length, sc', vp, a.code.length, vc⟩, a.sls, cs⟩ : Fg)], p', cap', by go_num, by omega, Lib.hid (by rw [List.length_append, HL3.out]; rfl), Lib.hid (heap_setCell (j := 1) HG11.out _), Lib.hid ?_, Lib.hid ?_, Lib.hid ?_, Lib.hid ?_, Lib.hid ?_, Lib.hid hg1, Lib.hid hg2, Lib.hid (below_turned hb11 t12 (by omega))⟩, by simp [intOf]; omega⟩
              · exact own_t (own_t HOO22.out tg (fun j hj => by obtain ⟨cur, hcur⟩ := hrow j hj; exact ⟨cur, _, hcur, by decide⟩)) t12 (fun j hj => ⟨_, _, hj ▸ HG11.out, by decide⟩)
              · intro q hq
                exact ((HOI22.out q hq).turned tg (fun j hj => by obtain ⟨cur, hcur⟩ := hrow j hj; exact ⟨cur, _, hcur, by decide⟩)).turned t12 (fun j hj => ⟨_, _, hj ▸ HG11.out, by decide⟩)
              · rw [flatC_snoc]
                exact ownsRow_turned HOW11.out t12 (fun j hj e => not_own (cs := []) HOW11.out HG11.out (by decide) (e ▸ hj))
              · intro k' x y hx hy
                by_cases hk' : k' < l3.length
                · rw [List.getElem?_append_left hk'] at hy
                  exact HEQ.out k' x y hx hy
                · rw [List.getElem?_append_right (by omega)] at hy
                  have h0 : k' - l3.length = 0 := by
                    have := (List.getElem?_eq_some_iff.1 hy).1
                    simp at this
                    omega
                  rw [h0] at hy
                  simp only [List.getElem?_cons_zero, Option.some.injEq] at hy
                  have hkk : k' = k := by have := HL3.out; omega
                  rw [hkk, HA.out] at hx
                  injection hx with hx
                  subst hx hy
                  exact HFE.out
              · intro q hq
                exact ((HA22.out q hq).turned tg (fun j hj => by obtain ⟨cur, hcur⟩ := hrow j hj; exact ⟨cur, _, hcur, by decide⟩)).turned t12 (fun j hj => ⟨_, _, hj ▸ HG11.out, by decide⟩)
        · have hkl : k = lf.length := by omega
          subst hkl
          have hge : ¬ ((lf.length : Int) < (lf.length : Int)) := by omega
          have g0 := (Lib.cell_of_heap HG3.out 0).trans rfl
          have g1 := (Lib.cell_of_heap HG3.out 1).trans rfl
          have g2 := (Lib.cell_of_heap HG3.out 2).trans rfl
          have hold2 := HG2.out
          go_upto_region 23 with (fail)
          go_wp2_with (first | ((with_reducible apply step_store hold2); rfl; rfl; kernel_rfl; rfl; kernel_rfl) | fail)
          have g9 : (wx.setRow (w.heap.size + 1) #[.slice op lo.length oc, .slice fp lf.length fc, .int .i64 mn]).heap[w.heap.size + 1]? = some (.cells #[.slice op lo.length oc, .slice fp lf.length fc, .int .i64 mn] TPg (0, 0)) := setRow_heap _ _ _ _ _ _ hold2
          have t9 : Turned wx (wx.setRow (w.heap.size + 1) #[.slice op lo.length oc, .slice fp lf.length fc, .int .i64 mn]) (fun k => k = w.heap.size + 1) := Turned.setRow wx _ _ rfl
          have hap : ∀ ts : List TypeId, TPg ∉ ts → Apart wx (fun j => j = w.heap.size + 1) ts := fun ts h j hj => ⟨_, _, hj ▸ hold2, h⟩
          have z0 := (Lib.cell_of_heap g9 0).trans rfl
          have z1 := (Lib.cell_of_heap g9 1).trans rfl
          have z2 := (Lib.cell_of_heap g9 2).trans rfl
          refine bodyPost_ret (v := .agg #[.slice op lo.length oc, .slice fp lf.length fc, .int .i64 mn]) (by simp [results, Tryz.results14, go_sem, z0, z1, z2]) rfl ⟨⟨l2, l3, mn⟩, ⟨op, oc, fp, fc⟩, ?_, ⟨rfl, HL2'.out, HL3.out, HEO.out, HEQ.out⟩, ⟨?_, fun q hq => (HOI.out q hq).turned t9 (hap _ (by decide)), ?_, fun q hq => (HFO.out q hq).turned t9 (hap _ (by decide))⟩, below_turned HBX.out t9 (Nat.le_succ _)⟩
          · show _ = Ending.returned (.agg #[.slice op l2.length oc, .slice fp l3.length fc, .int .i64 mn])
            rw [HL2'.out, HL3.out]
          · show World.ownsRow _ _ _ _ (.slice op l2.length oc) l2.length (flatC ogC l2)
            rw [HL2'.out]
            exact own_t HOO.out t9 (fun j hj => ⟨_, _, hj ▸ hold2, by decide⟩)
          · show World.ownsRow _ _ _ _ (.slice fp l3.length fc) l3.length (flatC fgC l3)
            rw [HL3.out]
            exact own_t HOW.out t9 (fun j hj => ⟨_, _, hj ▸ hold2, by decide⟩)
end
end Go.Proofs.YtelaaaamnphbpaaGreatDoor
