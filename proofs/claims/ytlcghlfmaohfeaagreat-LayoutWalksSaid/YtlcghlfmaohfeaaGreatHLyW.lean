/-
  How members are laid, with the closure of paintRecord.
-/
import Derived.Test.YtlcghlfmaohfeaaGreatHLyM
namespace Go.Proofs.YtlcghlfmaohfeaaGreat
open Go.RowKit Go.Maps
set_option linter.unusedVariables false
set_option maxRecDepth 100000
set_option maxHeartbeats 20000000 in
theorem lay_paint {w0 : World} {b rb m : Nat} {rs : List (Rw × Value)} {M : Int → Ex} {wE : World} (hRU : RU w0 b rb m rs M wE) (hw0 : w0.heap.size ≤ m) (hrm : rb ≠ m) (r : Rw) {sp : Option Addr} {sc : Nat} (hsl : MemSl wE (.slice sp r.mem.length sc) r.mem) (hn : r.mem.length ≤ 64)
    (hmem : ∀ x ∈ r.mem, MC w0 b rb m rs M x.type ∧ ExOK (M x.type) ∧ BitsOK x (M x.type)) {ob bb pp : Nat} (S : Nat → Prop) (hSm : S m) (hS : ∀ k, S k → k < wE.heap.size) (hSl : ∀ g o, sp = some ⟨g, o, none⟩ → S g → g = m) (I : Nat → World → Prop) (hI0 : I 0 wE) (hIt : ∀ j w w', I j w → Turned w w' (fun k => k = m ∨ ∃ cs, w.heap[k]? = some (.cells cs TX (0, 0))) → I j w')
    (hIn : ∀ j x w, r.mem[j]? = some x → x.bits = 0 → I j w → I (j + 1) w)
    (hput : ∀ j x w, r.mem[j]? = some x → ¬ x.bits = 0 → RU w0 b rb m rs M w → I j w → Turned wE w S → Calls Tryz.prog 110 #[.agg (plV (spotP (beginP (if r.kind == 16 then 0 else (layS (r.kind == 16) M ls0 (r.mem.take j)).place) x (M x.type)) j x (M x.type))), .pointer (some ⟨ob, 0, none⟩), .pointer (some ⟨bb, 0, none⟩), .pointer (some ⟨pp, 0, none⟩)] w fun e w' => e = .returned (.tuple #[]) ∧ RU w0 b rb m rs M w' ∧ I (j + 1) w' ∧ Turned w w' (fun k => S k ∨ (wE.heap.size ≤ k ∧ ∃ cs, w.heap[k]? = some (.cells cs TPl (0, 0))))) :
    Calls Tryz.prog 31 #[.pointer (some ⟨rb, 0, none⟩), .agg #[.int .i64 r.kind, .int .i64 r.elem, .int .i64 r.len, .string r.tag, .slice sp r.mem.length sc, .bool r.done], .func (.func 110) #[] #[.pointer (some ⟨ob, 0, none⟩), .pointer (some ⟨bb, 0, none⟩), .pointer (some ⟨pp, 0, none⟩)]] wE fun e w' => e = .returned (exV (endP (layS (r.kind == 16) M ls0 r.mem))) ∧ RU w0 b rb m rs M w' ∧ I r.mem.length w' ∧ Turned wE w' S := by
  have hz : (wE.alloc (.cells #[.int .i64 r.kind, .int .i64 r.elem, .int .i64 r.len, .string r.tag, .slice sp r.mem.length sc, .bool r.done] TR)).heap.size = wE.heap.size + 1 := by simp
  have E0 := heap_s1 wE (.cells #[.int .i64 r.kind, .int .i64 r.elem, .int .i64 r.len, .string r.tag, .slice sp r.mem.length sc, .bool r.done] TR) (.cells #[.int .i64 0, .int .i64 0] TX)
  have E1 := heap_s2 wE (.cells #[.int .i64 r.kind, .int .i64 r.elem, .int .i64 r.len, .string r.tag, .slice sp r.mem.length sc, .bool r.done] TR) (.cells #[.int .i64 0, .int .i64 0] TX)
  have hB : Below wE.heap.size wE ((wE.alloc (.cells #[.int .i64 r.kind, .int .i64 r.elem, .int .i64 r.len, .string r.tag, .slice sp r.mem.length sc, .bool r.done] TR)).alloc (.cells #[.int .i64 0, .int .i64 0] TX)) := two_boxes wE _ _ _ _
  have hlm := hRU.lt
  have HU1 : Hid (RU w0 b rb m rs M ((wE.alloc (.cells #[.int .i64 r.kind, .int .i64 r.elem, .int .i64 r.len, .string r.tag, .slice sp r.mem.length sc, .bool r.done] TR)).alloc (.cells #[.int .i64 0, .int .i64 0] TX))) := hRU.kept hB
  have HI1 : Hid (I 0 ((wE.alloc (.cells #[.int .i64 r.kind, .int .i64 r.elem, .int .i64 r.len, .string r.tag, .slice sp r.mem.length sc, .bool r.done] TR)).alloc (.cells #[.int .i64 0, .int .i64 0] TX))) := hIt 0 wE _ hI0 (Turned.of_below hB _)
  have HT1 : Hid (Turned wE ((wE.alloc (.cells #[.int .i64 r.kind, .int .i64 r.elem, .int .i64 r.len, .string r.tag, .slice sp r.mem.length sc, .bool r.done] TR)).alloc (.cells #[.int .i64 0, .int .i64 0] TX)) S) := Turned.of_below hB S
  have HE0 : Hid (_ = _) := E0
  have HE1 : Hid (_ = _) := E1
  have HSL : Hid (MemSl wE (.slice sp r.mem.length sc) r.mem) := hsl
  have HRU : Hid (RU w0 b rb m rs M wE) := hRU
  have HSm : Hid (S m) := hSm
  have HS : Hid (∀ k, S k → k < wE.heap.size) := hS
  have HSl : Hid (∀ g o, sp = some ⟨g, o, none⟩ → S g → g = m) := hSl
  have HIt : Hid (∀ j w w', I j w → Turned w w' (fun k => k = m ∨ ∃ cs, w.heap[k]? = some (.cells cs TX (0, 0))) → I j w') := hIt
  have HIn : Hid (∀ j x w, r.mem[j]? = some x → x.bits = 0 → I j w → I (j + 1) w) := hIn
  have HMEM : Hid (∀ x ∈ r.mem, MC w0 b rb m rs M x.type ∧ ExOK (M x.type) ∧ BitsOK x (M x.type)) := hmem
  have HPUT : Hid (∀ j x w, r.mem[j]? = some x → ¬ x.bits = 0 → RU w0 b rb m rs M w → I j w → Turned wE w S → Calls Tryz.prog 110 #[.agg (plV (spotP (beginP (if r.kind == 16 then 0 else (layS (r.kind == 16) M ls0 (r.mem.take j)).place) x (M x.type)) j x (M x.type))), .pointer (some ⟨ob, 0, none⟩), .pointer (some ⟨bb, 0, none⟩), .pointer (some ⟨pp, 0, none⟩)] w fun e w' => e = .returned (.tuple #[]) ∧ RU w0 b rb m rs M w' ∧ I (j + 1) w' ∧ Turned w w' (fun k => S k ∨ (wE.heap.size ≤ k ∧ ∃ cs, w.heap[k]? = some (.cells cs TPl (0, 0))))) := hput
  have hcap : r.mem.length ≤ sc ∨ r.mem.length = 0 := by
    rcases hsl with ⟨e, e2⟩ | ⟨_, _, _, e, e2, _⟩
    · right; rw [e2]; rfl
    · left; cases e; exact e2
  obtain ⟨st, hst⟩ : ∃ st : Nat → Ls, ∀ j, st j = layS (r.kind == 16) M ls0 (r.mem.take j) := ⟨_, fun _ => rfl⟩
  have HST : Hid (∀ j, st j = layS (r.kind == 16) M ls0 (r.mem.take j)) := hst
  have hstn : st r.mem.length = layS (r.kind == 16) M ls0 r.mem := by rw [hst, List.take_of_length_le (Nat.le_refl _)]
  rw [← hstn]
  have HNX : Hid (∀ j x, r.mem[j]? = some x → st (j + 1) = stepP (r.kind == 16) M (st j) x) := by
    intro j x hx
    rw [hst, hst, take_snoc hx, layS_snoc]
  have HOK : Hid (∀ j, j ≤ r.mem.length → LsOK j (st j)) := by
    intro j hj
    have q := layS_ok (un := r.kind == 16) (M := M) (r.mem.take j) 0 ls0 ⟨by decide, by decide, by decide, by decide, by decide⟩ (fun x hx => (HMEM.out x (List.mem_of_mem_take hx)).2)
    rw [hst]
    rw [List.length_take, Nat.min_eq_left hj, Nat.zero_add] at q
    exact q
  have hst0 : st 0 = ls0 := by rw [hst]; rfl
  have HST0 : Hid (st 0 = ls0) := hst0
  have HCELL : Hid (∀ j x, r.mem[j]? = some x → ∃ g o, sp = some ⟨g, o, none⟩ ∧ ∀ wr, Turned wE wr S → ∀ i, i < 3 → wr.cell? ⟨g, o + j * 3 + i, none⟩ = (mbCells x)[i]?) := by
    intro j x hx
    rcases HSL.out with ⟨_, e⟩ | ⟨g, o, cap, e, _, hg, hc⟩
    · rw [e] at hx; simp at hx
    · cases e
      refine ⟨g, o, rfl, fun wr ht i hi => ?_⟩
      have c := hc j x hx i hi
      have hne : g ≠ m := mem_ne HRU.out (hc j x hx 0 (by omega))
      have hns : ¬ S g := fun s => hne (HSl.out g o rfl s)
      exact (World.cell?_of_block (w := wE) (a := ⟨g, o + j * 3 + i, none⟩) (ht.block g hg hns)).trans c
  clear hst hstn hst0
  clear hsl hRU hSm hS hSl hIt hIn hmem hput hI0 hB hz
  go_enter Tryz.func31, Tryz.ntmps31
  go_upto_region 2 with (fail)
  refine (?_ : Code.wp _ _ _ _ ((wE.alloc (.cells #[.int .i64 r.kind, .int .i64 r.elem, .int .i64 r.len, .string r.tag, .slice sp r.mem.length sc, .bool r.done] TR)).alloc (.cells #[.int .i64 0, .int .i64 0] TX)))
  generalize (wE.alloc (.cells #[.int .i64 r.kind, .int .i64 r.elem, .int .i64 r.len, .string r.tag, .slice sp r.mem.length sc, .bool r.done] TR)).alloc (.cells #[.int .i64 0, .int .i64 0] TX) = W1 at *
  have a4 : W1.cell? ⟨wE.heap.size, 4, none⟩ = some (.slice sp r.mem.length sc) := by rw [Lib.cell_of_heap E0]; rfl
  clear E0 E1
  rcases hun : (r.kind == 16) with _ | _
  all_goals rw [hun] at HPUT HNX HST
  all_goals go_wp2
  · go_loopw [7, 8, 9, 18] (fun pv fv av iv wr => ∃ (j : Nat), j ≤ r.mem.length ∧ iv = .int .i64 j ∧ pv = .int .i64 (st j).place ∧ fv = .int .i64 (st j).fin ∧ av = .int .i64 (st j).align ∧ Hid (RU w0 b rb m rs M wr) ∧ Hid (I j wr) ∧ Hid (Turned wE wr S) ∧ Hid (wr.heap[wE.heap.size]? = some (.cells #[.int .i64 r.kind, .int .i64 r.elem, .int .i64 r.len, .string r.tag, .slice sp r.mem.length sc, .bool r.done] TR (0, 0))) ∧ Hid (wr.heap[wE.heap.size + 1]? = some (.cells #[.int .i64 0, .int .i64 0] TX (0, 0)))) (fun _ _ _ iv _ => r.mem.length - (intOf iv).toNat)
    case atStart => exact ⟨0, Nat.zero_le _, rfl, by rw [HST0.out]; rfl, by rw [HST0.out]; rfl, by rw [HST0.out]; rfl, HU1, HI1, HT1, HE0, HE1⟩
    case round =>
      obtain ⟨j, hj, rfl, rfl, rfl, rfl, HU, HI, HT, HR, HX⟩ := hrel
      have hok := HOK.out j hj
      obtain ⟨o1, o2, o3, o4, o5⟩ := hok
      by_cases hlt : j < r.mem.length
      · obtain ⟨x, hx⟩ : ∃ x, r.mem[j]? = some x := ⟨_, List.getElem?_eq_getElem hlt⟩
        obtain ⟨g, o, rfl, hcl⟩ := HCELL.out j x hx
        have c0 := hcl wr HT.out 0 (by omega)
        have c1 := hcl wr HT.out 1 (by omega)
        have c2 := hcl wr HT.out 2 (by omega)
        simp only [mbCells, Nat.add_zero, List.getElem?_cons_zero, List.getElem?_cons_succ] at c0 c1 c2
        obtain ⟨hMC, hEx, hBt⟩ := HMEM.out x (List.mem_of_getElem? hx)
        have hcap2 : r.mem.length ≤ sc := by omega
        have hold1 := heap_r0 wr (.cells #[.string ⟨#[]⟩, .int .i64 0, .int .i64 0] TM)
        have L0 : LW w0 b rb m rs M wE S I _ j wr := ⟨HU.out, HI.out, HT.out, HR.out, HX.out⟩
        have hb2 := below1 wr (.cells #[.string x.name, .int .i64 x.type, .int .i64 x.bits] TM)
        have B2 : Hid (_ = _) := heap_r0 wr (.cells #[.string x.name, .int .i64 x.type, .int .i64 x.bits] TM)
        have L2 : Hid (LW w0 b rb m rs M wE S I _ j (wr.alloc (.cells #[.string x.name, .int .i64 x.type, .int .i64 x.bits] TM))) := L0.kept HIt.out hb2
        have k0 : (wr.alloc (.cells #[.string x.name, .int .i64 x.type, .int .i64 x.bits] TM)).cell? ⟨wE.heap.size, 0, none⟩ = some (.int .i64 r.kind) := by rw [Lib.cell_of_heap L2.out.row]; rfl
        have HXX : Hid (r.mem[j]? = some x) := hx
        have HWR : Hid (wE.heap.size ≤ wr.heap.size) := HT.out.size
        have HMC : Hid (MC w0 b rb m rs M x.type) := hMC
        clear hb2 hcl hx HCELL HU HI HT HR HX L0 hMC
        go_wp2_with (first | ((with_reducible apply step_store hold1); rfl; rfl; kernel_rfl; rfl; kernel_rfl; rw [World.setRow_alloc_new]) | fail)
        refine (HMC.out _ L2.out.ru).mono ?_
        rintro e W3 ⟨rfl, U3, t3⟩
        have L3 := L2.out.meas HIt.out hlm HSm.out U3 t3
        have B3 := blk_t B2.out t3 (by have := HWR.out; omega)
        clear U3 t3 L2 B2 HMC k0 c0 c1 c2 hold1
        generalize hgm : wr.heap.size = gm at *
        have hold3 := heap_r0 W3 (.cells #[.int .i64 0, .int .i64 0] TX)
        have hb4 := below1 W3 (.cells #[.int .i64 (M x.type).size, .int .i64 (M x.type).align] TX)
        have L4 := L3.kept HIt.out hb4
        have B4 := blk_b B3 hb4
        have X4 := heap_r0 W3 (.cells #[.int .i64 (M x.type).size, .int .i64 (M x.type).align] TX)
        have HW3 : Hid (gm < W3.heap.size) := lt_of_heap B3
        obtain ⟨b0, b1, b2⟩ := cells3 B4
        obtain ⟨x0, x1⟩ := cells2 X4
        have HL4 : Hid (_) := L4
        have HB4 : Hid (_ = _) := B4
        have HX4 : Hid (_ = _) := X4
        clear L3 L4 B3 B4 X4 hb4
        go_wp2_with (first | ((with_reducible apply step_store hold3); rfl; rfl; kernel_rfl; rfl; kernel_rfl; rw [World.setRow_alloc_new]) | fail)
        refine (begin_c _ x (M x.type) _ hEx (by first | exact o1 | omega) (by omega) hBt).mono ?_
        rintro e W5 ⟨rfl, hb5⟩
        have L5 := HL4.out.kept HIt.out hb5
        have B5 := blk_b HB4.out hb5
        have X5 := blk_b HX4.out hb5
        have bd := begin_bd (p := (st j).place) (m := x) hEx (by first | exact o1 | omega)
        have tk := taken_bd (m := x) hEx hBt
        have HNJ : Hid (st (j + 1) = ⟨beginP (st j).place x (M x.type) + takenP x (M x.type), max (st j).fin (beginP (st j).place x (M x.type) + takenP x (M x.type)), if x.name.toList == [] then (st j).align else max (st j).align (M x.type).align⟩) := HNX.out j x HXX.out
        have HPJ : Hid (∀ w, ¬ x.bits = 0 → RU w0 b rb m rs M w → I j w → Turned wE w S → Calls Tryz.prog 110 #[.agg (plV (spotP (beginP (st j).place x (M x.type)) j x (M x.type))), .pointer (some ⟨ob, 0, none⟩), .pointer (some ⟨bb, 0, none⟩), .pointer (some ⟨pp, 0, none⟩)] w fun e w' => e = .returned (.tuple #[]) ∧ RU w0 b rb m rs M w' ∧ I (j + 1) w' ∧ Turned w w' (fun k => S k ∨ (wE.heap.size ≤ k ∧ ∃ cs, w.heap[k]? = some (.cells cs TPl (0, 0))))) := by
          intro w h1 h2 h3 h4
          have q := HPUT.out j x w HXX.out h1 h2 h3 h4
          rw [← HST.out j] at q
          exact q
        generalize beginP (st j).place x (M x.type) = q at *
        clear b0 b1 b2 x0 x1 hb5 HL4 HB4 HX4 hold3 HST HNX HPUT
        generalize hgx : W3.heap.size = gx at *
        obtain ⟨b0, b1, b2⟩ := cells3 B5
        obtain ⟨x0, x1⟩ := cells2 X5
        have HL5 : Hid (_) := L5
        have HB5 : Hid (_ = _) := B5
        have HX5 : Hid (_ = _) := X5
        clear L5 B5 X5
        by_cases hbt : x.bits = 0
        · have HL8 : Hid (LW w0 b rb m rs M wE S I _ (j + 1) W5) := ⟨HL5.out.ru, HIn.out j x _ HXX.out hbt HL5.out.inv, HL5.out.tu, HL5.out.row, HL5.out.res⟩
          have HB8 : Hid (_ = _) := HB5.out
          have HX8 : Hid (_ = _) := HX5.out
          have hb0 : (x.bits != 0) = false := by simpa using hbt
          clear hbt HL5 HB5 HX5
          obtain ⟨b0, b1, b2⟩ := cells3 HB8.out
          obtain ⟨x0, x1⟩ := cells2 HX8.out
          go_wp2_with fail
          refine (taken_c x (M x.type) _ hEx).mono ?_
          rintro e W9 ⟨rfl, hb9⟩
          have HL9 : Hid (_) := HL8.out.kept HIt.out hb9
          have B9 := blk_b HB8.out hb9
          have X9 := blk_b HX8.out hb9
          clear b0 b1 b2 x0 x1 hb9 HL8 HB8 HX8
          obtain ⟨b0, b1, b2⟩ := cells3 B9
          obtain ⟨x0, x1⟩ := cells2 X9
          clear B9 X9
          generalize takenP x (M x.type) = t at *
          go_wp2
          all_goals refine ⟨⟨j + 1, hlt, by go_num, by rw [HNJ.out], ?_, ?_, HL9.out.ru, HL9.out.inv, HL9.out.tu, HL9.out.row, HL9.out.res⟩, by simp [intOf]; omega⟩
          all_goals rw [HNJ.out]
          all_goals first | exact congrArg _ (max_if _ _) | exact congrArg _ (al_e _ _ (by assumption)) | exact congrArg _ (al_n _ _ (by assumption))
        · have hb0 : (x.bits != 0) = true := by simpa using hbt
          have HBT : Hid (¬ x.bits = 0) := hbt
          clear hbt
          go_wp2_with fail
          refine (spot_c q x (M x.type) _ hEx (by omega) (by omega)).mono ?_
          rintro e W6 ⟨rfl, hb6⟩
          have L6 := HL5.out.kept HIt.out hb6
          have B6 := blk_b HB5.out hb6
          have X6 := blk_b HX5.out hb6
          have hold7 := heap_r0 W6 (.cells #[.int .i64 0, .int .i64 0, .int .i64 0, .int .i64 0, .int .i64 0] TPl)
          have P7 := heap_r0 W6 (.cells (plV (spotP q 0 x (M x.type))) TPl)
          have x70 := Lib.cell_of_heap P7 0
          simp only [List.getElem?_toArray, List.getElem?_cons_zero] at x70
          have f70 := frozen_of P7 0
          have hb7 := below1 W6 (.cells #[.int .i64 j, .int .i64 (spotP q 0 x (M x.type)).type, .int .i64 (spotP q 0 x (M x.type)).off, .int .i64 (spotP q 0 x (M x.type)).bit, .int .i64 (spotP q 0 x (M x.type)).bits] TPl)
          have HL7 : Hid (_) := L6.kept HIt.out hb7
          have HB7 : Hid (_ = _) := blk_b B6 hb7
          have HX7 : Hid (_ = _) := blk_b X6 hb7
          have HP7 : Hid (∀ w, ¬ x.bits = 0 → _) := HPJ.out
          rw [spot_mem q j x (M x.type)] at HP7
          clear b0 b1 b2 x0 x1 hb6 hb7 P7 L6 B6 X6 HL5 HB5 HX5 HPJ
          go_wp2_with (first | ((with_reducible apply step_store hold7); rfl; rfl; kernel_rfl; rfl; kernel_rfl; rw [World.setRow_alloc_new]) | fail)
          refine (HP7.out _ HBT.out HL7.out.ru HL7.out.inv HL7.out.tu).mono ?_
          rintro e W8 ⟨rfl, U8, I8, t8⟩
          have HL8 : Hid (_) := HL7.out.put HS.out U8 I8 t8
          have HB8 : Hid (_ = _) := blk_t HB7.out t8 (not_tpl HB7.out (by decide) HS.out (by have := HWR.out; omega))
          have HX8 : Hid (_ = _) := blk_t HX7.out t8 (not_tpl HX7.out (by decide) HS.out (by have := HWR.out; have := HW3.out; omega))
          clear U8 I8 t8 HL7 HB7 HX7 hold7 x70 f70 HP7
          obtain ⟨b0, b1, b2⟩ := cells3 HB8.out
          obtain ⟨x0, x1⟩ := cells2 HX8.out
          go_wp2_with fail
          refine (taken_c x (M x.type) _ hEx).mono ?_
          rintro e W9 ⟨rfl, hb9⟩
          have HL9 : Hid (_) := HL8.out.kept HIt.out hb9
          have B9 := blk_b HB8.out hb9
          have X9 := blk_b HX8.out hb9
          clear b0 b1 b2 x0 x1 hb9 HL8 HB8 HX8
          obtain ⟨b0, b1, b2⟩ := cells3 B9
          obtain ⟨x0, x1⟩ := cells2 X9
          clear B9 X9
          generalize takenP x (M x.type) = t at *
          go_wp2
          all_goals refine ⟨⟨j + 1, hlt, by go_num, by rw [HNJ.out], ?_, ?_, HL9.out.ru, HL9.out.inv, HL9.out.tu, HL9.out.row, HL9.out.res⟩, by simp [intOf]; omega⟩
          all_goals rw [HNJ.out]
          all_goals first | exact congrArg _ (max_if _ _) | exact congrArg _ (al_e _ _ (by assumption)) | exact congrArg _ (al_n _ _ (by assumption))
      · obtain rfl : j = r.mem.length := by omega
        have hL : LW w0 b rb m rs M wE S I _ r.mem.length wr := ⟨HU.out, HI.out, HT.out, HR.out, HX.out⟩
        have HL : Hid (_) := hL
        have HF : Hid (RU w0 b rb m rs M (wr.setRow (wE.heap.size + 1) (#[.int .i64 (endP (st r.mem.length)).size, .int .i64 (endP (st r.mem.length)).align])) ∧ I r.mem.length (wr.setRow (wE.heap.size + 1) (#[.int .i64 (endP (st r.mem.length)).size, .int .i64 (endP (st r.mem.length)).align])) ∧ Turned wE (wr.setRow (wE.heap.size + 1) (#[.int .i64 (endP (st r.mem.length)).size, .int .i64 (endP (st r.mem.length)).align])) S) := by
          have z0 := HRU.out.below.size
          have z1 := lt_of_heap HRU.out.ru
          refine ⟨hL.ru.turned (S := fun k => k = wE.heap.size + 1) (Turned.setRow _ _ _ rfl) (fun k e => by omega) (by omega) (by omega), HIt.out _ _ _ hL.inv (Turned.setRow _ _ _ (Or.inr ⟨_, hL.res⟩)), hL.tu.trans (Turned.setRow (S := fun k => k = wE.heap.size + 1) _ _ _ rfl) (fun i hi e => by omega)⟩
        have hold := HX.out
        have bd := rup_bd (st r.mem.length).fin 8 o3 (by omega)
        clear HCELL HU HI HT HR HNX HPUT HST HOK hL
        go_wp2_with fail
        refine (roundUpB_c (st r.mem.length).fin 8 _ o3 (by omega) (by omega) (by omega)).mono ?_
        rintro e w' ⟨rfl, hw⟩
        rw [hw]; clear hw w'
        go_wp2_with fail
        · have HE : Hid (endP (st r.mem.length) = ⟨rup 1 (st r.mem.length).align, (st r.mem.length).align⟩) := by unfold Hid endP; rw [show max (rup (st r.mem.length).fin 8 / 8) 1 = 1 by omega]
          rw [HE.out] at HF
          have hbx : ∀ (x y : Int) (Y : World), (Instr.build TX #[(0, .int .i64 x), (1, .int .i64 y)]).run Tryz.prog Y = .ok (.agg #[.int .i64 x, .int .i64 y]) Y := fun x y Y => by kernel_rfl
          refine (roundUpI_c 1 (st r.mem.length).align _ (by omega) (by omega) (by omega) (by omega)).mono ?_
          rintro e w' ⟨rfl, hw⟩
          rw [hw]; clear hw w'
          go_wp2_with ((with_reducible apply step_store hold); rfl; rfl; kernel_rfl; rfl; kernel_rfl)
          refine (?_ : bodyPost _ _ _ _ _ _)
          refine ret_c1 (p := 6) rfl rfl (load_X (cs := #[.int .i64 (rup 1 (st r.mem.length).align), .int .i64 (st r.mem.length).align]) (setRow_heap _ _ _ _ _ _ HX.out) rfl) ?_
          exact ⟨by rw [HE.out], HF.out.1, HF.out.2.1, HF.out.2.2⟩
        · have HE : Hid (endP (st r.mem.length) = ⟨rup (rup (st r.mem.length).fin 8 / 8) (st r.mem.length).align, (st r.mem.length).align⟩) := by unfold Hid endP; rw [show max (rup (st r.mem.length).fin 8 / 8) 1 = (rup (st r.mem.length).fin 8 / 8) by omega]
          rw [HE.out] at HF
          have hbx : ∀ (x y : Int) (Y : World), (Instr.build TX #[(0, .int .i64 x), (1, .int .i64 y)]).run Tryz.prog Y = .ok (.agg #[.int .i64 x, .int .i64 y]) Y := fun x y Y => by kernel_rfl
          refine (roundUpI_c (rup (st r.mem.length).fin 8 / 8) (st r.mem.length).align _ (by omega) (by omega) (by omega) (by omega)).mono ?_
          rintro e w' ⟨rfl, hw⟩
          rw [hw]; clear hw w'
          go_wp2_with ((with_reducible apply step_store hold); rfl; rfl; kernel_rfl; rfl; kernel_rfl)
          refine (?_ : bodyPost _ _ _ _ _ _)
          refine ret_c1 (p := 6) rfl rfl (load_X (cs := #[.int .i64 (rup (rup (st r.mem.length).fin 8 / 8) (st r.mem.length).align), .int .i64 (st r.mem.length).align]) (setRow_heap _ _ _ _ _ _ HX.out) rfl) ?_
          exact ⟨by rw [HE.out], HF.out.1, HF.out.2.1, HF.out.2.2⟩
  · go_loopw [7, 8, 9, 18] (fun pv fv av iv wr => ∃ (j : Nat), j ≤ r.mem.length ∧ iv = .int .i64 j ∧ pv = .int .i64 (st j).place ∧ fv = .int .i64 (st j).fin ∧ av = .int .i64 (st j).align ∧ Hid (RU w0 b rb m rs M wr) ∧ Hid (I j wr) ∧ Hid (Turned wE wr S) ∧ Hid (wr.heap[wE.heap.size]? = some (.cells #[.int .i64 r.kind, .int .i64 r.elem, .int .i64 r.len, .string r.tag, .slice sp r.mem.length sc, .bool r.done] TR (0, 0))) ∧ Hid (wr.heap[wE.heap.size + 1]? = some (.cells #[.int .i64 0, .int .i64 0] TX (0, 0)))) (fun _ _ _ iv _ => r.mem.length - (intOf iv).toNat)
    case atStart => exact ⟨0, Nat.zero_le _, rfl, by rw [HST0.out]; rfl, by rw [HST0.out]; rfl, by rw [HST0.out]; rfl, HU1, HI1, HT1, HE0, HE1⟩
    case round =>
      obtain ⟨j, hj, rfl, rfl, rfl, rfl, HU, HI, HT, HR, HX⟩ := hrel
      have hok := HOK.out j hj
      obtain ⟨o1, o2, o3, o4, o5⟩ := hok
      by_cases hlt : j < r.mem.length
      · obtain ⟨x, hx⟩ : ∃ x, r.mem[j]? = some x := ⟨_, List.getElem?_eq_getElem hlt⟩
        obtain ⟨g, o, rfl, hcl⟩ := HCELL.out j x hx
        have c0 := hcl wr HT.out 0 (by omega)
        have c1 := hcl wr HT.out 1 (by omega)
        have c2 := hcl wr HT.out 2 (by omega)
        simp only [mbCells, Nat.add_zero, List.getElem?_cons_zero, List.getElem?_cons_succ] at c0 c1 c2
        obtain ⟨hMC, hEx, hBt⟩ := HMEM.out x (List.mem_of_getElem? hx)
        have hcap2 : r.mem.length ≤ sc := by omega
        have hold1 := heap_r0 wr (.cells #[.string ⟨#[]⟩, .int .i64 0, .int .i64 0] TM)
        have L0 : LW w0 b rb m rs M wE S I _ j wr := ⟨HU.out, HI.out, HT.out, HR.out, HX.out⟩
        have hb2 := below1 wr (.cells #[.string x.name, .int .i64 x.type, .int .i64 x.bits] TM)
        have B2 : Hid (_ = _) := heap_r0 wr (.cells #[.string x.name, .int .i64 x.type, .int .i64 x.bits] TM)
        have L2 : Hid (LW w0 b rb m rs M wE S I _ j (wr.alloc (.cells #[.string x.name, .int .i64 x.type, .int .i64 x.bits] TM))) := L0.kept HIt.out hb2
        have k0 : (wr.alloc (.cells #[.string x.name, .int .i64 x.type, .int .i64 x.bits] TM)).cell? ⟨wE.heap.size, 0, none⟩ = some (.int .i64 r.kind) := by rw [Lib.cell_of_heap L2.out.row]; rfl
        have HXX : Hid (r.mem[j]? = some x) := hx
        have HWR : Hid (wE.heap.size ≤ wr.heap.size) := HT.out.size
        have HMC : Hid (MC w0 b rb m rs M x.type) := hMC
        clear hb2 hcl hx HCELL HU HI HT HR HX L0 hMC
        go_wp2_with (first | ((with_reducible apply step_store hold1); rfl; rfl; kernel_rfl; rfl; kernel_rfl; rw [World.setRow_alloc_new]) | fail)
        refine (HMC.out _ L2.out.ru).mono ?_
        rintro e W3 ⟨rfl, U3, t3⟩
        have L3 := L2.out.meas HIt.out hlm HSm.out U3 t3
        have B3 := blk_t B2.out t3 (by have := HWR.out; omega)
        clear U3 t3 L2 B2 HMC k0 c0 c1 c2 hold1
        generalize hgm : wr.heap.size = gm at *
        have hold3 := heap_r0 W3 (.cells #[.int .i64 0, .int .i64 0] TX)
        have hb4 := below1 W3 (.cells #[.int .i64 (M x.type).size, .int .i64 (M x.type).align] TX)
        have L4 := L3.kept HIt.out hb4
        have B4 := blk_b B3 hb4
        have X4 := heap_r0 W3 (.cells #[.int .i64 (M x.type).size, .int .i64 (M x.type).align] TX)
        have HW3 : Hid (gm < W3.heap.size) := lt_of_heap B3
        obtain ⟨b0, b1, b2⟩ := cells3 B4
        obtain ⟨x0, x1⟩ := cells2 X4
        have HL4 : Hid (_) := L4
        have HB4 : Hid (_ = _) := B4
        have HX4 : Hid (_ = _) := X4
        clear L3 L4 B3 B4 X4 hb4
        go_wp2_with (first | ((with_reducible apply step_store hold3); rfl; rfl; kernel_rfl; rfl; kernel_rfl; rw [World.setRow_alloc_new]) | fail)
        refine (begin_c _ x (M x.type) _ hEx (by first | exact o1 | omega) (by omega) hBt).mono ?_
        rintro e W5 ⟨rfl, hb5⟩
        have L5 := HL4.out.kept HIt.out hb5
        have B5 := blk_b HB4.out hb5
        have X5 := blk_b HX4.out hb5
        have bd := begin_bd (p := 0) (m := x) hEx (by first | exact o1 | omega)
        have tk := taken_bd (m := x) hEx hBt
        have HNJ : Hid (st (j + 1) = ⟨beginP 0 x (M x.type) + takenP x (M x.type), max (st j).fin (beginP 0 x (M x.type) + takenP x (M x.type)), if x.name.toList == [] then (st j).align else max (st j).align (M x.type).align⟩) := HNX.out j x HXX.out
        have HPJ : Hid (∀ w, ¬ x.bits = 0 → RU w0 b rb m rs M w → I j w → Turned wE w S → Calls Tryz.prog 110 #[.agg (plV (spotP (beginP 0 x (M x.type)) j x (M x.type))), .pointer (some ⟨ob, 0, none⟩), .pointer (some ⟨bb, 0, none⟩), .pointer (some ⟨pp, 0, none⟩)] w fun e w' => e = .returned (.tuple #[]) ∧ RU w0 b rb m rs M w' ∧ I (j + 1) w' ∧ Turned w w' (fun k => S k ∨ (wE.heap.size ≤ k ∧ ∃ cs, w.heap[k]? = some (.cells cs TPl (0, 0))))) := by
          intro w h1 h2 h3 h4
          have q := HPUT.out j x w HXX.out h1 h2 h3 h4
          rw [← HST.out j] at q
          exact q
        generalize beginP 0 x (M x.type) = q at *
        clear b0 b1 b2 x0 x1 hb5 HL4 HB4 HX4 hold3 HST HNX HPUT
        generalize hgx : W3.heap.size = gx at *
        obtain ⟨b0, b1, b2⟩ := cells3 B5
        obtain ⟨x0, x1⟩ := cells2 X5
        have HL5 : Hid (_) := L5
        have HB5 : Hid (_ = _) := B5
        have HX5 : Hid (_ = _) := X5
        clear L5 B5 X5
        by_cases hbt : x.bits = 0
        · have HL8 : Hid (LW w0 b rb m rs M wE S I _ (j + 1) W5) := ⟨HL5.out.ru, HIn.out j x _ HXX.out hbt HL5.out.inv, HL5.out.tu, HL5.out.row, HL5.out.res⟩
          have HB8 : Hid (_ = _) := HB5.out
          have HX8 : Hid (_ = _) := HX5.out
          have hb0 : (x.bits != 0) = false := by simpa using hbt
          clear hbt HL5 HB5 HX5
          obtain ⟨b0, b1, b2⟩ := cells3 HB8.out
          obtain ⟨x0, x1⟩ := cells2 HX8.out
          go_wp2_with fail
          refine (taken_c x (M x.type) _ hEx).mono ?_
          rintro e W9 ⟨rfl, hb9⟩
          have HL9 : Hid (_) := HL8.out.kept HIt.out hb9
          have B9 := blk_b HB8.out hb9
          have X9 := blk_b HX8.out hb9
          clear b0 b1 b2 x0 x1 hb9 HL8 HB8 HX8
          obtain ⟨b0, b1, b2⟩ := cells3 B9
          obtain ⟨x0, x1⟩ := cells2 X9
          clear B9 X9
          generalize takenP x (M x.type) = t at *
          go_wp2
          all_goals refine ⟨⟨j + 1, hlt, by go_num, by rw [HNJ.out], ?_, ?_, HL9.out.ru, HL9.out.inv, HL9.out.tu, HL9.out.row, HL9.out.res⟩, by simp [intOf]; omega⟩
          all_goals rw [HNJ.out]
          all_goals first | exact congrArg _ (max_if _ _) | exact congrArg _ (al_e _ _ (by assumption)) | exact congrArg _ (al_n _ _ (by assumption))
        · have hb0 : (x.bits != 0) = true := by simpa using hbt
          have HBT : Hid (¬ x.bits = 0) := hbt
          clear hbt
          go_wp2_with fail
          refine (spot_c q x (M x.type) _ hEx (by omega) (by omega)).mono ?_
          rintro e W6 ⟨rfl, hb6⟩
          have L6 := HL5.out.kept HIt.out hb6
          have B6 := blk_b HB5.out hb6
          have X6 := blk_b HX5.out hb6
          have hold7 := heap_r0 W6 (.cells #[.int .i64 0, .int .i64 0, .int .i64 0, .int .i64 0, .int .i64 0] TPl)
          have P7 := heap_r0 W6 (.cells (plV (spotP q 0 x (M x.type))) TPl)
          have x70 := Lib.cell_of_heap P7 0
          simp only [List.getElem?_toArray, List.getElem?_cons_zero] at x70
          have f70 := frozen_of P7 0
          have hb7 := below1 W6 (.cells #[.int .i64 j, .int .i64 (spotP q 0 x (M x.type)).type, .int .i64 (spotP q 0 x (M x.type)).off, .int .i64 (spotP q 0 x (M x.type)).bit, .int .i64 (spotP q 0 x (M x.type)).bits] TPl)
          have HL7 : Hid (_) := L6.kept HIt.out hb7
          have HB7 : Hid (_ = _) := blk_b B6 hb7
          have HX7 : Hid (_ = _) := blk_b X6 hb7
          have HP7 : Hid (∀ w, ¬ x.bits = 0 → _) := HPJ.out
          rw [spot_mem q j x (M x.type)] at HP7
          clear b0 b1 b2 x0 x1 hb6 hb7 P7 L6 B6 X6 HL5 HB5 HX5 HPJ
          go_wp2_with (first | ((with_reducible apply step_store hold7); rfl; rfl; kernel_rfl; rfl; kernel_rfl; rw [World.setRow_alloc_new]) | fail)
          refine (HP7.out _ HBT.out HL7.out.ru HL7.out.inv HL7.out.tu).mono ?_
          rintro e W8 ⟨rfl, U8, I8, t8⟩
          have HL8 : Hid (_) := HL7.out.put HS.out U8 I8 t8
          have HB8 : Hid (_ = _) := blk_t HB7.out t8 (not_tpl HB7.out (by decide) HS.out (by have := HWR.out; omega))
          have HX8 : Hid (_ = _) := blk_t HX7.out t8 (not_tpl HX7.out (by decide) HS.out (by have := HWR.out; have := HW3.out; omega))
          clear U8 I8 t8 HL7 HB7 HX7 hold7 x70 f70 HP7
          obtain ⟨b0, b1, b2⟩ := cells3 HB8.out
          obtain ⟨x0, x1⟩ := cells2 HX8.out
          go_wp2_with fail
          refine (taken_c x (M x.type) _ hEx).mono ?_
          rintro e W9 ⟨rfl, hb9⟩
          have HL9 : Hid (_) := HL8.out.kept HIt.out hb9
          have B9 := blk_b HB8.out hb9
          have X9 := blk_b HX8.out hb9
          clear b0 b1 b2 x0 x1 hb9 HL8 HB8 HX8
          obtain ⟨b0, b1, b2⟩ := cells3 B9
          obtain ⟨x0, x1⟩ := cells2 X9
          clear B9 X9
          generalize takenP x (M x.type) = t at *
          go_wp2
          all_goals refine ⟨⟨j + 1, hlt, by go_num, by rw [HNJ.out], ?_, ?_, HL9.out.ru, HL9.out.inv, HL9.out.tu, HL9.out.row, HL9.out.res⟩, by simp [intOf]; omega⟩
          all_goals rw [HNJ.out]
          all_goals first | exact congrArg _ (max_if _ _) | exact congrArg _ (al_e _ _ (by assumption)) | exact congrArg _ (al_n _ _ (by assumption))
      · obtain rfl : j = r.mem.length := by omega
        have hL : LW w0 b rb m rs M wE S I _ r.mem.length wr := ⟨HU.out, HI.out, HT.out, HR.out, HX.out⟩
        have HL : Hid (_) := hL
        have HF : Hid (RU w0 b rb m rs M (wr.setRow (wE.heap.size + 1) (#[.int .i64 (endP (st r.mem.length)).size, .int .i64 (endP (st r.mem.length)).align])) ∧ I r.mem.length (wr.setRow (wE.heap.size + 1) (#[.int .i64 (endP (st r.mem.length)).size, .int .i64 (endP (st r.mem.length)).align])) ∧ Turned wE (wr.setRow (wE.heap.size + 1) (#[.int .i64 (endP (st r.mem.length)).size, .int .i64 (endP (st r.mem.length)).align])) S) := by
          have z0 := HRU.out.below.size
          have z1 := lt_of_heap HRU.out.ru
          refine ⟨hL.ru.turned (S := fun k => k = wE.heap.size + 1) (Turned.setRow _ _ _ rfl) (fun k e => by omega) (by omega) (by omega), HIt.out _ _ _ hL.inv (Turned.setRow _ _ _ (Or.inr ⟨_, hL.res⟩)), hL.tu.trans (Turned.setRow (S := fun k => k = wE.heap.size + 1) _ _ _ rfl) (fun i hi e => by omega)⟩
        have hold := HX.out
        have bd := rup_bd (st r.mem.length).fin 8 o3 (by omega)
        clear HCELL HU HI HT HR HNX HPUT HST HOK hL
        go_wp2_with fail
        refine (roundUpB_c (st r.mem.length).fin 8 _ o3 (by omega) (by omega) (by omega)).mono ?_
        rintro e w' ⟨rfl, hw⟩
        rw [hw]; clear hw w'
        go_wp2_with fail
        · have HE : Hid (endP (st r.mem.length) = ⟨rup 1 (st r.mem.length).align, (st r.mem.length).align⟩) := by unfold Hid endP; rw [show max (rup (st r.mem.length).fin 8 / 8) 1 = 1 by omega]
          rw [HE.out] at HF
          have hbx : ∀ (x y : Int) (Y : World), (Instr.build TX #[(0, .int .i64 x), (1, .int .i64 y)]).run Tryz.prog Y = .ok (.agg #[.int .i64 x, .int .i64 y]) Y := fun x y Y => by kernel_rfl
          refine (roundUpI_c 1 (st r.mem.length).align _ (by omega) (by omega) (by omega) (by omega)).mono ?_
          rintro e w' ⟨rfl, hw⟩
          rw [hw]; clear hw w'
          go_wp2_with ((with_reducible apply step_store hold); rfl; rfl; kernel_rfl; rfl; kernel_rfl)
          refine (?_ : bodyPost _ _ _ _ _ _)
          refine ret_c1 (p := 6) rfl rfl (load_X (cs := #[.int .i64 (rup 1 (st r.mem.length).align), .int .i64 (st r.mem.length).align]) (setRow_heap _ _ _ _ _ _ HX.out) rfl) ?_
          exact ⟨by rw [HE.out], HF.out.1, HF.out.2.1, HF.out.2.2⟩
        · have HE : Hid (endP (st r.mem.length) = ⟨rup (rup (st r.mem.length).fin 8 / 8) (st r.mem.length).align, (st r.mem.length).align⟩) := by unfold Hid endP; rw [show max (rup (st r.mem.length).fin 8 / 8) 1 = (rup (st r.mem.length).fin 8 / 8) by omega]
          rw [HE.out] at HF
          have hbx : ∀ (x y : Int) (Y : World), (Instr.build TX #[(0, .int .i64 x), (1, .int .i64 y)]).run Tryz.prog Y = .ok (.agg #[.int .i64 x, .int .i64 y]) Y := fun x y Y => by kernel_rfl
          refine (roundUpI_c (rup (st r.mem.length).fin 8 / 8) (st r.mem.length).align _ (by omega) (by omega) (by omega) (by omega)).mono ?_
          rintro e w' ⟨rfl, hw⟩
          rw [hw]; clear hw w'
          go_wp2_with ((with_reducible apply step_store hold); rfl; rfl; kernel_rfl; rfl; kernel_rfl)
          refine (?_ : bodyPost _ _ _ _ _ _)
          refine ret_c1 (p := 6) rfl rfl (load_X (cs := #[.int .i64 (rup (rup (st r.mem.length).fin 8 / 8) (st r.mem.length).align), .int .i64 (st r.mem.length).align]) (setRow_heap _ _ _ _ _ _ HX.out) rfl) ?_
          exact ⟨by rw [HE.out], HF.out.1, HF.out.2.1, HF.out.2.2⟩
end Go.Proofs.YtlcghlfmaohfeaaGreat
