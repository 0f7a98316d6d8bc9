/-
  The given answer's 'record': a struct's members laid out.
-/
import Derived.Test.YtlcghlfmaohfeaaGreatRtB0
namespace Go.Proofs.YtlcghlfmaohfeaaGreat
open Go.RowKit Go.Maps
set_option linter.unusedVariables false
set_option maxRecDepth 100000
section
variable {w : World} {M : Int → Ex} {base : Nat}
set_option maxHeartbeats 16000000 in
theorem refRec_c {x : Value} {mem : List Mb} (hx : MemSl w x mem) (hn : mem.length ≤ 64) {g : Nat} {ys : List Ly} (hy : LyR base w g ys) (hl : ys.length ≤ 512) (hm : ∀ m ∈ mem, MemK M ys m) :
    Calls Tryz.prog 105 #[x, .slice (some ⟨g, 0, none⟩) ys.length ys.length] w fun e w' => ∃ y : Ly, e = .returned (.agg (lyC y).toArray) ∧ Below w.heap.size w w' ∧ w'.ownsRow w.heap.size TPl 5 y.L y.pl.length (plCells y.pl) ∧
      ((∀ m ∈ mem, (M m.type).size ≤ 16384) → y.fine = true ∧ y.size = (endP (layS false M ls0 mem)).size ∧ y.align = (layS false M ls0 mem).align ∧ y.pl = placesS false M ls0 0 mem) ∧ (¬ (∀ m ∈ mem, (M m.type).size ≤ 16384) → y.fine = false) := by
  obtain ⟨sp, cap, rfl, hcell⟩ := memSl_cells hx
  have HCL : Hid (∀ j m, mem[j]? = some m → ∃ g o, sp = some ⟨g, o, none⟩ ∧ mem.length ≤ cap ∧ ∀ Y, Below w.heap.size w Y → ∀ k, k < 3 → Y.cell? ⟨g, o + j * 3 + k, none⟩ = (mbCells m)[k]?) := hcell
  have HY : Hid (LyR base w g ys) := hy
  have HM : Hid (∀ m ∈ mem, MemK M ys m) := hm
  have hgl := hy.lt
  have hbd : ∀ Y : World, (Instr.build TLy #[(1, .int .i64 1), (3, .bool true)]).run Tryz.prog Y = .ok (.agg #[.int .i64 0, .int .i64 1, .slice none 0 0, .bool true]) Y := fun Y => by kernel_rfl
  have nt := not_t
  have nf := not_f
  have b1 := below1 w (.cells #[.int .i64 0, .int .i64 0, .slice none 0 0, .bool false] TLy)
  have E1 := heap_r0 w (.cells #[.int .i64 0, .int .i64 0, .slice none 0 0, .bool false] TLy)
  have hz1 : (w.alloc (.cells #[.int .i64 0, .int .i64 0, .slice none 0 0, .bool false] TLy)).heap.size = w.heap.size + 1 := by simp
  have hold := heap_r0 (w.alloc (.cells #[.int .i64 0, .int .i64 0, .slice none 0 0, .bool false] TLy)) (.cells #[.int .i64 0, .int .i64 0, .slice none 0 0, .bool false] TLy)
  have b2 := below1 (w.alloc (.cells #[.int .i64 0, .int .i64 0, .slice none 0 0, .bool false] TLy)) (.cells #[.int .i64 0, .int .i64 1, .slice none 0 0, .bool true] TLy)
  have E2 : Hid (_ = _) := blk_b E1 b2
  have Y2 := heap_r0 (w.alloc (.cells #[.int .i64 0, .int .i64 0, .slice none 0 0, .bool false] TLy)) (.cells #[.int .i64 0, .int .i64 1, .slice none 0 0, .bool true] TLy)
  rw [hz1] at Y2
  have B2 : Hid (Below w.heap.size w ((w.alloc (.cells #[.int .i64 0, .int .i64 0, .slice none 0 0, .bool false] TLy)).alloc (.cells #[.int .i64 0, .int .i64 1, .slice none 0 0, .bool true] TLy))) := b1.trans (b2.mono b1.size)
  have HY2 : Hid (_ = _) := Y2
  clear hx hcell hy hm b1 b2 E1 Y2 hz1
  go_enter Tryz.func105, Tryz.ntmps105
  go_wp2_with (first | ((with_reducible apply step_store hold); rfl; rfl; kernel_rfl; rfl; kernel_rfl; rw [World.setRow_alloc_new]) | fail)
  generalize (w.alloc (.cells #[.int .i64 0, .int .i64 0, .slice none 0 0, .bool false] TLy)).alloc (.cells #[.int .i64 0, .int .i64 1, .slice none 0 0, .bool true] TLy) = W2 at *
  go_loopw [6, 7] (fun pv iv wr => ∃ (k : Nat) (Ls : Value), k ≤ mem.length ∧ iv = .int .i64 k ∧ pv = .int .i64 (layS false M ls0 (mem.take k)).place ∧ Hid (Below w.heap.size w wr) ∧ Hid (wr.heap[w.heap.size]? = some (.cells #[.int .i64 0, .int .i64 0, .slice none 0 0, .bool false] TLy (0, 0))) ∧ Hid (wr.heap[w.heap.size + 1]? = some (.cells #[.int .i64 0, .int .i64 (layS false M ls0 (mem.take k)).align, Ls, .bool true] TLy (0, 0))) ∧ Hid (wr.ownsRow (w.heap.size + 2) TPl 5 Ls (placesS false M ls0 0 (mem.take k)).length (plCells (placesS false M ls0 0 (mem.take k)))) ∧ Hid (∀ m ∈ mem.take k, (M m.type).size ≤ 16384)) (fun pv iv _ => mem.length - (intOf iv).toNat)
  case atStart => exact ⟨0, .slice none 0 0, Nat.zero_le _, rfl, rfl, B2, E2, HY2, World.ownsRow_nil _ _ _ _, fun m hm => by simp at hm⟩
  case round =>
    obtain ⟨k, Ls, hk, rfl, rfl, HB, HE, HG, HO, HF⟩ := hrel
    have hall : ∀ m ∈ mem.take k, ExOK (M m.type) ∧ BitsOK m (M m.type) := fun m hm => ⟨(HM.out m (List.mem_of_mem_take hm)).1, (HM.out m (List.mem_of_mem_take hm)).2.1⟩
    have hls := layS_ok (un := false) (M := M) (mem.take k) 0 ls0 ⟨by decide, by decide, by decide, by decide, by decide⟩ hall
    have hlk : (mem.take k).length = k := by simp; omega
    rw [hlk, Nat.zero_add] at hls
    have hp0 := hls.p0
    have hp1 := hls.p1
    have hal := hls.al
    have hpkl : (placesS false M ls0 0 (mem.take k)).length ≤ 64 := Nat.le_trans (placesS_len _ _ _) (by rw [hlk]; omega)
    obtain ⟨lp, lc, rfl⟩ := slice_of_own HO.out
    clear B2 E2 HY2 hall hls
    by_cases hlt : k < mem.length
    · obtain ⟨m, hm⟩ : ∃ m, mem[k]? = some m := ⟨_, List.getElem?_eq_getElem hlt⟩
      obtain ⟨hEx, hBi, hn1, hn0, t, y, hty, hyt, hyf, hyv⟩ := HM.out m (List.mem_of_getElem? hm)
      obtain ⟨gm, om, hsp, hcap, hcell⟩ := HCL.out k m hm
      subst hsp
      have HA0 : Hid (∀ Y, Below w.heap.size w Y → Y.cell? ⟨gm, om + k * 3, none⟩ = some (.string m.name)) := fun Y hY => by have q := hcell Y hY 0 (by omega); simpa [mbCells] using q
      have hgmw : gm < w.heap.size := by have q := hcell w (Below.refl _ _) 0 (by omega); exact World.block_lt_of_cell? w ⟨gm, om + k * 3 + 0, none⟩ q
      have htk : mem.take (k + 1) = mem.take k ++ [m] := by rw [List.take_add_one, hm]; rfl
      have HSS : Hid (layS false M ls0 (mem.take (k + 1)) = stepP false M (layS false M ls0 (mem.take k)) m) := by show _ = _; rw [htk]; exact layS_snoc _ _ _
      have HPS : Hid (placesS false M ls0 0 (mem.take (k + 1)) = (placesS false M ls0 0 (mem.take k)) ++ (if m.bits = 0 then [] else [spotP (beginP (layS false M ls0 (mem.take k)).place m (M m.type)) k m (M m.type)])) := by
        show _ = _
        rw [htk, placesS_snoc, hlk, Nat.zero_add]
        rfl
      have HFS : Hid (∀ q ∈ mem.take (k + 1), q ∈ mem.take k ∨ q = m) := fun q hq => by rw [htk] at hq; simpa using hq
      have a0 := hcell wr HB.out 0 (by omega)
      have a1 := hcell wr HB.out 1 (by omega)
      have a2 := hcell wr HB.out 2 (by omega)
      have hc := fun j hj => (HY.out.below HB.out).cell hyt (k := j) hj
      have c0 := hc 0 (by omega)
      have c1 := hc 1 (by omega)
      have c2 := hc 2 (by omega)
      have c3 := hc 3 (by omega)
      have hyl : t < ys.length := (List.getElem?_eq_some_iff.1 hyt).1
      obtain ⟨nm, ty, bt⟩ := m
      obtain ⟨ysz, yal, yL, ypl, yf⟩ := y
      simp only [mbCells, lyC, Nat.add_zero, List.getElem?_cons_zero, List.getElem?_cons_succ] at a0 a1 a2 c0 c1 c2 c3 hty hyf hyv hEx hBi hn1 hn0 HSS HPS
      subst hty
      have HYO := (HY.out.own _ (List.mem_of_getElem? hyt))
      obtain ⟨yp, yc, hyL⟩ := slice_of_own HYO
      simp only at hyL
      subst hyL
      have hmk := hm
      have HYF : Hid (yf = decide ((M (t : Int)).size ≤ 16384)) := hyf
      have HYV : Hid (yf = true → ysz = (M (t : Int)).size ∧ yal = (M (t : Int)).align) := hyv
      clear hc hcell hm htk HYO hyt hyf hyv
      generalize hst : (layS false M ls0 (mem.take k)) = S at *
      generalize (placesS false M ls0 0 (mem.take k)) = PK at *
      clear hst
      have hold3 := heap_r0 wr (.cells #[.int .i64 0, .int .i64 0, .slice none 0 0, .bool false] TLy)
      have b3 := below1 wr (.cells #[.int .i64 ysz, .int .i64 yal, .slice yp ypl.length yc, .bool yf] TLy)
      have N3 : Hid (_ = _) := heap_r0 wr (.cells #[.int .i64 ysz, .int .i64 yal, .slice yp ypl.length yc, .bool yf] TLy)
      have G3 : Hid (_ = _) := blk_b HG.out b3
      have E3 : Hid (_ = _) := blk_b HE.out b3
      have B3 : Hid (Below w.heap.size w (wr.alloc (.cells #[.int .i64 ysz, .int .i64 yal, .slice yp ypl.length yc, .bool yf] TLy))) := HB.out.trans (b3.mono HB.out.size)
      have O3 : Hid ((wr.alloc (.cells #[.int .i64 ysz, .int .i64 yal, .slice yp ypl.length yc, .bool yf] TLy)).ownsRow (w.heap.size + 2) TPl 5 (.slice lp PK.length lc) PK.length (plCells PK)) := ownsRow_turned HO.out (Turned.of_below b3 (fun _ => False)) (fun _ _ h => h.elim)
      have hyb : w.heap.size + 1 < wr.heap.size := lt_of_heap HG.out
      have hgm : gm < w.heap.size := hgmw
      have a0' := blk_cell a0 b3
      have a1' := blk_cell a1 b3
      have a2' := blk_cell a2 b3
      clear b3 HG HE HO HB
      go_upto_region 7 with (first | ((with_reducible apply step_store hold3); rfl; rfl; kernel_rfl; rfl; kernel_rfl; rw [World.setRow_alloc_new]) | fail)
      clear hold3 a0 a1 a2 c0 c1 c2 c3
      generalize wr.alloc (.cells #[.int .i64 ysz, .int .i64 yal, .slice yp ypl.length yc, .bool yf] TLy) = W3 at *
      generalize wr.heap.size = mx at *
      cases yf with
      | false =>
        have HBIG : Hid (¬ ∀ m ∈ mem, (M m.type).size ≤ 16384) := fun hh => by have q := hh _ (List.mem_of_getElem? hmk); simp only at q; have z := HYF.out; simp at z; omega
        have g3 := Lib.cell_of_heap G3.out 3
        have f3 := frozen_of G3.out 3
        have n3 := Lib.cell_of_heap N3.out 3
        simp only [List.getElem?_toArray, List.getElem?_cons_zero, List.getElem?_cons_succ] at g3 n3
        have G4 : Hid ((W3.setCell ⟨w.heap.size + 1, 3, none⟩ (.bool false)).heap[w.heap.size + 1]? = some (.cells #[.int .i64 0, .int .i64 S.align, .slice lp PK.length lc, .bool false] TLy (0, 0))) := (heap_setCell (j := 3) G3.out (.bool false)).trans rfl
        have E4 := (heap_setCell_other W3 ⟨w.heap.size + 1, 3, none⟩ w.heap.size (.bool false) (by show w.heap.size ≠ w.heap.size + 1; omega)).trans E3.out
        have HE4 : Hid (_ = _) := E4
        have N4 := (heap_setCell_other W3 ⟨w.heap.size + 1, 3, none⟩ mx (.bool false) (by show mx ≠ w.heap.size + 1; omega)).trans N3.out
        have T4 : Hid (Turned W3 (W3.setCell ⟨w.heap.size + 1, 3, none⟩ (.bool false)) (fun k => k = w.heap.size + 1)) := Turned.setCell _ _ _ _ rfl
        have y0 := Lib.cell_of_heap G4.out 0
        have y1 := Lib.cell_of_heap G4.out 1
        have y2 := Lib.cell_of_heap G4.out 2
        have y3 := Lib.cell_of_heap G4.out 3
        have n0 := Lib.cell_of_heap N4 0
        simp only [List.getElem?_toArray, List.getElem?_cons_zero, List.getElem?_cons_succ] at y0 y1 y2 y3 n0
        have a2'' := (World.cell?_of_block (w := W3) (a := ⟨gm, om + k * 3 + 2, none⟩) (heap_setCell_other W3 ⟨w.heap.size + 1, 3, none⟩ gm (.bool false) (by show gm ≠ w.heap.size + 1; omega))).trans a2'
        go_wp2_with (first | ((with_reducible apply step_store E4); rfl; rfl; kernel_rfl; rfl; kernel_rfl) | fail)
        refine (?_ : bodyPost _ _ _ _ _ _)
        refine ret_c1 (p := 4) (cs := #[.int .i64 0, .int .i64 S.align, .slice lp PK.length lc, .bool false]) rfl rfl (load_Ly (setRow_heap _ _ _ _ _ _ HE4.out) rfl) ?_
        refine ⟨⟨0, S.align, .slice lp PK.length lc, PK, false⟩, rfl, ?_, ?_, fun h => absurd h HBIG.out, by intros; rfl⟩
        · exact below_setRow (B3.out.setCell (p := ⟨w.heap.size + 1, 3, none⟩) (by show w.heap.size ≤ w.heap.size + 1; omega) _) (Nat.le_refl _) _
        · refine ownsRow_base (ownsRow_turned (ownsRow_turned O3.out T4.out (fun k hk e => by have := (ownsRow_at O3.out hk).1; omega)) (Turned.setRow _ _ _ (S := fun k => k = w.heap.size) rfl) (fun k hk e => by have := (ownsRow_at O3.out hk).1; omega)) (by omega)
      | true =>
        obtain ⟨rfl, rfl⟩ := HYV.out rfl
        have hs16 : (M (t : Int)).size ≤ 16384 := by have z := HYF.out; simpa using z.symm
        have HF1 : Hid (∀ m ∈ mem.take (k + 1), (M m.type).size ≤ 16384) := fun q hq => by
          rcases HFS.out q hq with h | rfl
          · exact HF.out q h
          · exact hs16
        have g3 := Lib.cell_of_heap G3.out 3
        have f3 := frozen_of G3.out 3
        have n3 := Lib.cell_of_heap N3.out 3
        simp only [List.getElem?_toArray, List.getElem?_cons_zero, List.getElem?_cons_succ] at g3 n3
        have G4 : Hid ((W3.setCell ⟨w.heap.size + 1, 3, none⟩ (.bool true)).heap[w.heap.size + 1]? = some (.cells #[.int .i64 0, .int .i64 S.align, .slice lp PK.length lc, .bool true] TLy (0, 0))) := (heap_setCell (j := 3) G3.out (.bool true)).trans rfl
        have E4 : Hid (_ = _) := (heap_setCell_other W3 ⟨w.heap.size + 1, 3, none⟩ w.heap.size (.bool true) (by show w.heap.size ≠ w.heap.size + 1; omega)).trans E3.out
        have N4 : Hid ((W3.setCell ⟨w.heap.size + 1, 3, none⟩ (.bool true)).heap[mx]? = some (.cells #[.int .i64 (M (t : Int)).size, .int .i64 (M (t : Int)).align, .slice yp ypl.length yc, .bool true] TLy (0, 0))) := (heap_setCell_other W3 ⟨w.heap.size + 1, 3, none⟩ mx (.bool true) (by show mx ≠ w.heap.size + 1; omega)).trans N3.out
        have T4 : Turned W3 (W3.setCell ⟨w.heap.size + 1, 3, none⟩ (.bool true)) (fun k => k = w.heap.size + 1) := Turned.setCell _ _ _ _ rfl
        have O4 : Hid ((W3.setCell ⟨w.heap.size + 1, 3, none⟩ (.bool true)).ownsRow (w.heap.size + 2) TPl 5 (.slice lp PK.length lc) PK.length (plCells PK)) := ownsRow_turned O3.out T4 (fun k hk e => by have := (ownsRow_at O3.out hk).1; omega)
        have B4 : Hid (Below w.heap.size w (W3.setCell ⟨w.heap.size + 1, 3, none⟩ (.bool true))) := B3.out.setCell (p := ⟨w.heap.size + 1, 3, none⟩) (by show w.heap.size ≤ w.heap.size + 1; omega) _
        have y3 := Lib.cell_of_heap G4.out 3
        have n0 := Lib.cell_of_heap N4.out 0
        simp only [List.getElem?_toArray, List.getElem?_cons_zero, List.getElem?_cons_succ] at y3 n0
        have hko : ∀ j, (⟨gm, om + k * 3 + j, none⟩ : Addr).block = gm := fun _ => rfl
        have HAK : Hid (∀ j v, W3.cell? ⟨gm, om + k * 3 + j, none⟩ = some v → (W3.setCell ⟨w.heap.size + 1, 3, none⟩ (.bool true)).cell? ⟨gm, om + k * 3 + j, none⟩ = some v) := fun j v hv => (World.cell?_of_block (w := W3) (a := ⟨gm, om + k * 3 + j, none⟩) (heap_setCell_other W3 ⟨w.heap.size + 1, 3, none⟩ gm (.bool true) (by show gm ≠ w.heap.size + 1; omega))).trans hv
        have a2'' := HAK.out 2 _ a2'
        have a1'' := HAK.out 1 _ a1'
        have a0'' := HAK.out 0 _ a0'
        simp only [Nat.add_zero] at a0''
        have hx1 := hEx.lo
        have hxa := hEx.al
        have hw8 : IntKind.i64.wrap (8 * (M (t : Int)).size) = 8 * (M (t : Int)).size := wrap_id (by omega) (by omega)
        clear hko HAK T4 a0' a1' a2'
        go_upto_region 18 with fail
        clear g3 f3 n3 y3 n0
        generalize W3.setCell ⟨w.heap.size + 1, 3, none⟩ (.bool true) = W4 at *
        clear G3 E3 N3 O3 B3
        have hx1 := hEx.lo
        have hxa := hEx.al
        generalize hMt : M (t : Int) = ex at *
        have HMT : Hid (M (t : Int) = ex) := hMt
        clear hMt
        rcases hBi with hb | ⟨hb0, hb1⟩
        · simp only at hb
          subst hb
          have hnm : (nm.toList == []) = false := hn1 rfl
          have hw9 : IntKind.i64.wrap (8 * ex.align) = 8 * ex.align := wrap_id (by omega) (by omega)
          have n1 := Lib.cell_of_heap N4.out 1
          have y2 := Lib.cell_of_heap G4.out 2
          simp only [List.getElem?_toArray, List.getElem?_cons_zero, List.getElem?_cons_succ] at n1 y2
          have cU := rup_c S.place (8 * ex.align) hp0 (by omega) (by omega) (by omega) W4
          have hbd2 := rup_bd S.place (8 * ex.align) hp0 (by omega)
          go_wp2_with fail
          refine cU.mono ?_
          rintro e w' ⟨rfl, hw⟩
          rw [hw]; clear hw w' cU
          obtain ⟨q, hq⟩ : ∃ q, q = rup S.place (8 * ex.align) := ⟨_, rfl⟩
          rw [← hq] at hbd2 ⊢
          have HQ : Hid (q = rup S.place (8 * ex.align)) := hq
          clear hq
          go_upto_region 20 with fail
          go_cut [7] (fun s7 wx => s7 = .int .i64 (k : Int) ∧ ∃ (p' : Option Addr) (cap' : Nat), Hid (wx.heap[w.heap.size + 1]? = some (.cells #[.int .i64 0, .int .i64 S.align, .slice p' (PK.length + 1) cap', .bool true] TLy (0, 0))) ∧ Hid (wx.ownsRow (w.heap.size + 2) TPl 5 (.slice p' (PK.length + 1) cap') (PK.length + 1) (plCells PK ++ (#[.int .i64 (k : Int), .int .i64 (t : Int), .int .i64 (q / 8), .int .i64 0, .int .i64 0]).toList)) ∧ Hid (wx.heap[mx]? = some (.cells #[.int .i64 ex.size, .int .i64 ex.align, .slice yp ypl.length yc, .bool true] TLy (0, 0))) ∧ Hid (wx.heap[w.heap.size]? = some (.cells #[.int .i64 0, .int .i64 0, .slice none 0 0, .bool false] TLy (0, 0))) ∧ Hid (Below w.heap.size w wx))
          case first =>
            obtain ⟨i0, hi, hz0, hz1, hz2⟩ := info_parts infoTPl
            have hdq : q.tdiv 8 = q / 8 := Int.tdiv_eq_ediv_of_nonneg (by omega)
            have hwq : IntKind.i64.wrap (q / 8) = q / 8 := wrap_id (by omega) (by omega)
            have hbp : ∀ (x y z : Int) (Y : World), (Instr.build TPl #[(0, .int .i64 x), (1, .int .i64 y), (2, .int .i64 z)]).run Tryz.prog Y = .ok (.agg #[.int .i64 x, .int .i64 y, .int .i64 z, .int .i64 0, .int .i64 0]) Y := fun x y z Y => by kernel_rfl
            have b5 : Below W4.heap.size W4 (W4.alloc (.cells #[.int .i64 (k : Int), .int .i64 (t : Int), .int .i64 (q / 8), .int .i64 0, .int .i64 0] TPl)).drew := (below1 W4 _).drew
            have O5 : Hid ((W4.alloc (.cells #[.int .i64 (k : Int), .int .i64 (t : Int), .int .i64 (q / 8), .int .i64 0, .int .i64 0] TPl)).drew.ownsRow (w.heap.size + 2) TPl 5 (.slice lp PK.length lc) PK.length (plCells PK)) := ownsRow_turned O4.out (Turned.of_below b5 (fun _ => False)) (fun _ _ h => h.elim)
            have L5 : Hid (_ = _) := blk_b G4.out b5
            have N5 : Hid (_ = _) := blk_b N4.out b5
            have E5 : Hid (_ = _) := blk_b E4.out b5
            have B5 : Hid (Below w.heap.size w (W4.alloc (.cells #[.int .i64 (k : Int), .int .i64 (t : Int), .int .i64 (q / 8), .int .i64 0, .int .i64 0] TPl)).drew) := B4.out.trans (b5.mono B4.out.size)
            have hz5 : w.heap.size + 2 ≤ (W4.alloc (.cells #[.int .i64 (k : Int), .int .i64 (t : Int), .int .i64 (q / 8), .int .i64 0, .int .i64 0] TPl)).drew.heap.size := by have := lt_of_heap N4.out; have := b5.size; omega
            clear b5
            have hc5 : (W4.alloc (.cells #[.int .i64 (k : Int), .int .i64 (t : Int), .int .i64 (q / 8), .int .i64 0, .int .i64 0] TPl)).cell? ⟨w.heap.size + 1, 2, none⟩ = some (.slice lp PK.length lc) := (Lib.cell_of_heap L5.out 2).trans rfl
            go_region_law (refine step_append_own_at rfl (.tmp 104) (.tmp 114) 33 rfl (w.heap.size + 2) TPl i0 _ 5 40 Tryz.underlying33 hi hz0 hz1 hz2 rfl (by decide) (.slice lp PK.length lc) PK.length _ rfl O5.out ⟨W4.heap.size, 0, none⟩ 1 1 (#[.int .i64 (k : Int), .int .i64 (t : Int), .int .i64 (q / 8), .int .i64 0, .int .i64 0]).toList rfl rfl (fun j u h => cells_new W4 _ _ j u h) (by simp [Value.oneCell']) (by unfold maxLen; omega) (by omega) hz5 ?_; intro v' w6 hown hgrow hnil hat; obtain ⟨p', cap', rfl⟩ := slice_of_own hown; have LB : Hid (w6.heap[w.heap.size + 1]? = some (.cells #[.int .i64 0, .int .i64 S.align, .slice lp PK.length lc, .bool true] TLy (0, 0))) := (hgrow.block (w.heap.size + 1) (lt_of_heap L5.out) (fun e => by have := (ownsRow_at O5.out e.symm).1; omega)).trans L5.out; have hc6 : w6.cell? ⟨w.heap.size + 1, 2, none⟩ = some (.slice lp PK.length lc) := (Lib.cell_of_heap LB.out 2).trans rfl; have hf6 : w6.frozen? ⟨w.heap.size + 1, 2, none⟩ = false := frozen_of LB.out 2; have HO6 : Hid (w6.ownsRow (w.heap.size + 2) TPl 5 (.slice p' (PK.length + 1) cap') (PK.length + 1) (plCells PK ++ (#[.int .i64 (k : Int), .int .i64 (t : Int), .int .i64 (q / 8), .int .i64 0, .int .i64 0]).toList)) := hown; have HG6 : Hid (World.grownBy _ _ _) := hgrow; clear hown hgrow hnil hat)
            all_goals
              go_wp2_with fail
              go_meet
              exact ⟨rfl, p', cap', (heap_setCell (j := 2) LB.out _).trans rfl, ownsRow_turned HO6.out (Turned.setCell (S := fun k => k = w.heap.size + 1) _ _ _ _ rfl) (fun k hk e => by have := (ownsRow_at HO6.out hk).1; omega),
                (heap_setCell_other _ ⟨w.heap.size + 1, 2, none⟩ mx _ (by show mx ≠ w.heap.size + 1; omega)).trans ((HG6.out.block mx (lt_of_heap N5.out) (fun e => by obtain ⟨_, cur, hc⟩ := ownsRow_at O5.out e.symm; exact tag_ne hc N5.out (by decide) rfl)).trans N5.out),
                (heap_setCell_other _ ⟨w.heap.size + 1, 2, none⟩ w.heap.size _ (by show w.heap.size ≠ w.heap.size + 1; omega)).trans ((HG6.out.block w.heap.size (lt_of_heap E5.out) (fun e => by have := (ownsRow_at O5.out e.symm).1; omega)).trans E5.out),
                Below.setCell (below_grow B5.out B5.out.size HG6.out (fun k e => by have := (ownsRow_at O5.out e).1; omega)) (p := ⟨w.heap.size + 1, 2, none⟩) (by show w.heap.size ≤ w.heap.size + 1; omega) _⟩
          case rest =>
            obtain ⟨rfl, p', cap', G6, O6, N6, E6, B6⟩ := hcut
            have HS1 : Hid ((layS false M ls0 (mem.take (k + 1))).place = q + 8 * ex.size ∧ (layS false M ls0 (mem.take (k + 1))).align = max S.align ex.align) := by
              show _ ∧ _
              rw [HSS.out]
              show (beginP S.place ⟨nm, (t : Int), -1⟩ (M (t : Int)) + takenP ⟨nm, (t : Int), -1⟩ (M (t : Int))) = _ ∧ (if nm.toList == [] then S.align else max S.align (M (t : Int)).align) = _
              rw [HMT.out]
              exact ⟨by rw [HQ.out]; rfl, by rw [hnm]; rfl⟩
            have HS2 : Hid (placesS false M ls0 0 (mem.take (k + 1)) = PK ++ [⟨(k : Int), (t : Int), q / 8, 0, 0⟩]) := by
              show _ = _
              rw [HPS.out, if_neg (by decide), show beginP S.place ⟨nm, (t : Int), -1⟩ ex = q by rw [HQ.out]; rfl]
              rfl
            have y1 := Lib.cell_of_heap G6.out 1
            have f1 := frozen_of G6.out 1
            have n1 := Lib.cell_of_heap N6.out 1
            simp only [List.getElem?_toArray, List.getElem?_cons_zero, List.getElem?_cons_succ] at y1 n1
            have hwp : IntKind.i64.wrap (q + 8 * ex.size) = q + 8 * ex.size := wrap_id (by omega) (by omega)
            clear HSS HPS
            go_wp2
            refine ⟨⟨k + 1, .slice p' (PK.length + 1) cap', by omega, by go_num, by rw [HS1.out.1], ?_, ?_, ?_, ?_, HF1⟩, by simp [intOf]; omega⟩
            · exact B6.out.setCell (p := ⟨w.heap.size + 1, 1, none⟩) (by show w.heap.size ≤ w.heap.size + 1; omega) _
            · exact (heap_setCell_other _ ⟨w.heap.size + 1, 1, none⟩ w.heap.size _ (by show w.heap.size ≠ w.heap.size + 1; omega)).trans E6.out
            · show _ = _
              rw [HS1.out.2]
              exact (heap_setCell (j := 1) G6.out _).trans rfl
            · show World.ownsRow _ _ _ _ _ _ _
              rw [HS2.out, List.length_append, show plCells (PK ++ [⟨(k : Int), (t : Int), q / 8, 0, 0⟩]) = plCells PK ++ (#[.int .i64 (k : Int), .int .i64 (t : Int), .int .i64 (q / 8), .int .i64 0, .int .i64 0]).toList by simp [plCells]]
              exact ownsRow_turned O6.out (Turned.setCell (S := fun k => k = w.heap.size + 1) _ _ _ _ rfl) (fun k hk e => by have := (ownsRow_at O6.out hk).1; omega)
        · simp only at hb0 hb1
          have hd0 : decide (bt < 0) = false := by simp; omega
          by_cases hbz : bt = 0
          · subst hbz
            have hnm : (nm.toList == []) = true := hn0 rfl
            have cU := rup_c S.place (8 * ex.size) hp0 (by omega) (by omega) (by omega) W4
            have HS1 : Hid ((layS false M ls0 (mem.take (k + 1))).place = rup S.place (8 * ex.size) ∧ (layS false M ls0 (mem.take (k + 1))).align = S.align) := by
              show _ ∧ _
              rw [HSS.out]
              show (beginP S.place ⟨nm, (t : Int), 0⟩ (M (t : Int)) + takenP ⟨nm, (t : Int), 0⟩ (M (t : Int))) = _ ∧ (if nm.toList == [] then S.align else max S.align (M (t : Int)).align) = _
              rw [HMT.out]
              exact ⟨by show rup S.place (8 * ex.size) + 0 = _; omega, by rw [hnm]; rfl⟩
            have HS2 : Hid (placesS false M ls0 0 (mem.take (k + 1)) = PK) := by
              show _ = _
              rw [HPS.out, if_pos rfl, List.append_nil]
            clear HSS HPS
            go_wp2_with fail
            refine cU.mono ?_
            rintro e w' ⟨rfl, hw⟩
            rw [hw]; clear hw w' cU
            go_wp2
            refine ⟨⟨k + 1, .slice lp PK.length lc, by omega, by go_num, by rw [HS1.out.1], B4, E4, ?_, ?_, HF1⟩, by simp [intOf]; omega⟩
            · show _ = _
              rw [HS1.out.2]
              exact G4.out
            · show World.ownsRow _ _ _ _ _ _ _
              rw [HS2.out]
              exact O4.out
          · have hb2 : (bt == 0) = false := by simpa using hbz
            have hu0 : 8 * ex.size ≠ 0 := by omega
            have hd1 : S.place.tdiv (8 * ex.size) = S.place / (8 * ex.size) := Int.tdiv_eq_ediv_of_nonneg hp0
            have hd2 : (S.place + bt - 1).tdiv (8 * ex.size) = (S.place + bt - 1) / (8 * ex.size) := Int.tdiv_eq_ediv_of_nonneg (by omega)
            have hq1 := Int.ediv_nonneg hp0 (show 0 ≤ 8 * ex.size by omega)
            have hq2 := Int.ediv_le_self (8 * ex.size) hp0
            have hq3 := Int.ediv_nonneg (show 0 ≤ S.place + bt - 1 by omega) (show 0 ≤ 8 * ex.size by omega)
            have hq4 := Int.ediv_le_self (8 * ex.size) (show 0 ≤ S.place + bt - 1 by omega)
            have hw1 : IntKind.i64.wrap (S.place + bt) = S.place + bt := wrap_id (by omega) (by omega)
            have hw2 : IntKind.i64.wrap (S.place + bt - 1) = S.place + bt - 1 := wrap_id (by omega) (by omega)
            have hw3 : IntKind.i64.wrap (S.place / (8 * ex.size)) = S.place / (8 * ex.size) := wrap_id hq1 (by omega)
            have hw4 : IntKind.i64.wrap ((S.place + bt - 1) / (8 * ex.size)) = (S.place + bt - 1) / (8 * ex.size) := wrap_id hq3 (by omega)
            have cU := rup_c S.place (8 * ex.size) hp0 (by omega) (by omega) (by omega)
            have HCU : Hid (∀ W, Calls Tryz.prog 117 #[.int .i64 S.place, .int .i64 (8 * ex.size)] W fun e w' => e = .returned (.int .i64 (rup S.place (8 * ex.size))) ∧ w' = W) := cU
            have hbd2 := rup_bd S.place (8 * ex.size) hp0 (by omega)
            obtain ⟨q, hq⟩ : ∃ q, q = beginP S.place ⟨nm, (t : Int), bt⟩ ex := ⟨_, rfl⟩
            have HQ : Hid (q = beginP S.place ⟨nm, (t : Int), bt⟩ ex) := hq
            have HQ2 : Hid (q = if S.place / (8 * ex.size) ≠ (S.place + bt - 1) / (8 * ex.size) then rup S.place (8 * ex.size) else S.place) := by
              show _ = _
              rw [hq]
              show (if bt = -1 then _ else if bt = 0 ∨ S.place / (8 * ex.size) ≠ (S.place + bt - 1) / (8 * ex.size) then _ else _) = _
              rw [if_neg (by omega)]
              by_cases hh : S.place / (8 * ex.size) ≠ (S.place + bt - 1) / (8 * ex.size)
              · rw [if_pos (.inr hh), if_pos hh]
              · rw [if_neg (fun e => e.elim hbz hh), if_neg hh]
            have hqb : 0 ≤ q ∧ q ≤ S.place + 131080 := by
              have z := HQ2.out
              split at z <;> omega
            clear hq cU hbd2 hq1 hq2 hq3 hq4
            go_upto_region 12 with fail
            obtain ⟨NE, hNE⟩ : ∃ b, b = (S.place / (8 * ex.size) != (S.place + bt - 1) / (8 * ex.size)) := ⟨_, rfl⟩
            have HNE : Hid (NE = (S.place / (8 * ex.size) != (S.place + bt - 1) / (8 * ex.size))) := hNE
            go_cut [54] (fun s54 wx => s54 = .bool NE ∧ ∃ n : Nat, wx = W4.drewN n)
            case first =>
              cases NE with
              | true =>
                have hne := hNE.symm
                clear hNE
                go_quiet (fail)
                go_wp2
                go_meet
                exact ⟨rfl, _, rfl⟩
              | false =>
                have hne := hNE.symm
                clear hNE
                go_quiet (fail)
                go_wp2
                go_meet
                exact ⟨rfl, _, rfl⟩
            case rest =>
              obtain ⟨rfl, nn, hwc⟩ := hcut
              subst hwc
              clear hNE hd1 hd2 hw1 hw2 hw3 hw4
              cases NE with
              | false =>
                have HQ3 : Hid (q = S.place) := by show _ = _; rw [HQ2.out, if_neg (by have z := HNE.out; simpa using z.symm)]
                go_upto_region 14 with fail
                rw [← HQ3.out]
                have G5 : Hid ((W4.drewN nn).heap[w.heap.size + 1]? = some (.cells #[.int .i64 0, .int .i64 S.align, .slice lp PK.length lc, .bool true] TLy (0, 0))) := G4.out
                have N5 : Hid ((W4.drewN nn).heap[mx]? = some (.cells #[.int .i64 ex.size, .int .i64 ex.align, .slice yp ypl.length yc, .bool true] TLy (0, 0))) := N4.out
                have E5 : Hid ((W4.drewN nn).heap[w.heap.size]? = some (.cells #[.int .i64 0, .int .i64 0, .slice none 0 0, .bool false] TLy (0, 0))) := E4.out
                have O5 : Hid ((W4.drewN nn).ownsRow (w.heap.size + 2) TPl 5 (.slice lp PK.length lc) PK.length (plCells PK)) := O4.out
                have B5 : Hid (Below w.heap.size w (W4.drewN nn)) := ⟨B4.out.os, B4.out.tape, B4.out.output, B4.out.size, B4.out.block⟩
                have a15 : (W4.drewN nn).cell? ⟨gm, om + k * 3 + 1, none⟩ = some (.int .i64 (t : Int)) := a1''
                have HA5 : Hid (∀ Y, Below (W4.drewN nn).heap.size (W4.drewN nn) Y → True) := fun _ _ => trivial
                clear G4 N4 E4 O4 B4 a0'' a1'' a2'' HA5
                generalize W4.drewN nn = W5 at *
                have hd3 : q.tdiv (8 * ex.size) = q / (8 * ex.size) := Int.tdiv_eq_ediv_of_nonneg hqb.1
                have hd4 : q.tmod (8 * ex.size) = q % (8 * ex.size) := Int.tmod_eq_emod_of_nonneg hqb.1
                have hr1 := Int.ediv_nonneg hqb.1 (show 0 ≤ (8 * ex.size) by omega)
                have hr2 := Int.ediv_le_self (8 * ex.size) hqb.1
                have hr3 := Int.emod_nonneg q hu0
                have hr4 := Int.emod_lt_of_pos q (show 0 < (8 * ex.size) by omega)
                have hz9 : (8 * ex.size) * (q / (8 * ex.size)) = 8 * (q / (8 * ex.size) * ex.size) := by rw [Int.mul_assoc, Int.mul_comm ex.size]
                have hr5 : q / (8 * ex.size) * ex.size ≤ q := by
                  have z := Int.mul_ediv_add_emod q (8 * ex.size)
                  have z3 := Int.mul_nonneg hr1 (show 0 ≤ ex.size by omega)
                  omega
                have hr6 := Int.mul_nonneg hr1 (show 0 ≤ ex.size by omega)
                have hw5 : IntKind.i64.wrap (q / (8 * ex.size)) = q / (8 * ex.size) := wrap_id hr1 (by omega)
                have hw6 : IntKind.i64.wrap (q / (8 * ex.size) * ex.size) = q / (8 * ex.size) * ex.size := wrap_id hr6 (by omega)
                have hw7 : IntKind.i64.wrap (q % (8 * ex.size)) = q % (8 * ex.size) := wrap_id hr3 (by omega)
                have hw8' : IntKind.i64.wrap (q + bt) = q + bt := wrap_id (by omega) (by omega)
                have y2 := Lib.cell_of_heap G5.out 2
                have n0 := Lib.cell_of_heap N5.out 0
                simp only [List.getElem?_toArray, List.getElem?_cons_zero, List.getElem?_cons_succ] at y2 n0
                clear hr1 hr2 hr3 hr4 hr5 hr6 hz9
                go_cut [7] (fun s7 wx => s7 = .int .i64 (k : Int) ∧ ∃ (p' : Option Addr) (cap' : Nat), Hid (wx.heap[w.heap.size + 1]? = some (.cells #[.int .i64 0, .int .i64 S.align, .slice p' (PK.length + 1) cap', .bool true] TLy (0, 0))) ∧ Hid (wx.ownsRow (w.heap.size + 2) TPl 5 (.slice p' (PK.length + 1) cap') (PK.length + 1) (plCells PK ++ (#[.int .i64 (k : Int), .int .i64 (t : Int), .int .i64 (q / (8 * ex.size) * ex.size), .int .i64 (q % (8 * ex.size)), .int .i64 bt]).toList)) ∧ Hid (wx.heap[mx]? = some (.cells #[.int .i64 ex.size, .int .i64 ex.align, .slice yp ypl.length yc, .bool true] TLy (0, 0))) ∧ Hid (wx.heap[w.heap.size]? = some (.cells #[.int .i64 0, .int .i64 0, .slice none 0 0, .bool false] TLy (0, 0))) ∧ Hid (Below w.heap.size w wx))
                case first =>
                  obtain ⟨i0, hi, hz0, hz1, hz2⟩ := info_parts infoTPl
                  have hbp : ∀ (x y z u v : Int) (Y : World), (Instr.build TPl #[(0, .int .i64 x), (1, .int .i64 y), (2, .int .i64 z), (3, .int .i64 u), (4, .int .i64 v)]).run Tryz.prog Y = .ok (.agg #[.int .i64 x, .int .i64 y, .int .i64 z, .int .i64 u, .int .i64 v]) Y := fun x y z u v Y => by kernel_rfl
                  have b6 : Below W5.heap.size W5 (W5.alloc (.cells #[.int .i64 (k : Int), .int .i64 (t : Int), .int .i64 (q / (8 * ex.size) * ex.size), .int .i64 (q % (8 * ex.size)), .int .i64 bt] TPl)).drew := (below1 W5 _).drew
                  have O6 : Hid ((W5.alloc (.cells #[.int .i64 (k : Int), .int .i64 (t : Int), .int .i64 (q / (8 * ex.size) * ex.size), .int .i64 (q % (8 * ex.size)), .int .i64 bt] TPl)).drew.ownsRow (w.heap.size + 2) TPl 5 (.slice lp PK.length lc) PK.length (plCells PK)) := ownsRow_turned O5.out (Turned.of_below b6 (fun _ => False)) (fun _ _ h => h.elim)
                  have L6 : Hid (_ = _) := blk_b G5.out b6
                  have N6 : Hid (_ = _) := blk_b N5.out b6
                  have E6 : Hid (_ = _) := blk_b E5.out b6
                  have B6 : Hid (Below w.heap.size w (W5.alloc (.cells #[.int .i64 (k : Int), .int .i64 (t : Int), .int .i64 (q / (8 * ex.size) * ex.size), .int .i64 (q % (8 * ex.size)), .int .i64 bt] TPl)).drew) := B5.out.trans (b6.mono B5.out.size)
                  have hz6 : w.heap.size + 2 ≤ (W5.alloc (.cells #[.int .i64 (k : Int), .int .i64 (t : Int), .int .i64 (q / (8 * ex.size) * ex.size), .int .i64 (q % (8 * ex.size)), .int .i64 bt] TPl)).drew.heap.size := by have := lt_of_heap N5.out; have := b6.size; omega
                  clear b6
                  have hc6 : (W5.alloc (.cells #[.int .i64 (k : Int), .int .i64 (t : Int), .int .i64 (q / (8 * ex.size) * ex.size), .int .i64 (q % (8 * ex.size)), .int .i64 bt] TPl)).cell? ⟨w.heap.size + 1, 2, none⟩ = some (.slice lp PK.length lc) := (Lib.cell_of_heap L6.out 2).trans rfl
                  go_region_law (refine step_append_own_at rfl (.tmp 59) (.tmp 77) 33 rfl (w.heap.size + 2) TPl i0 _ 5 40 Tryz.underlying33 hi hz0 hz1 hz2 rfl (by decide) (.slice lp PK.length lc) PK.length _ rfl O6.out ⟨W5.heap.size, 0, none⟩ 1 1 (#[.int .i64 (k : Int), .int .i64 (t : Int), .int .i64 (q / (8 * ex.size) * ex.size), .int .i64 (q % (8 * ex.size)), .int .i64 bt]).toList rfl rfl (fun j u h => cells_new W5 _ _ j u h) (by simp [Value.oneCell']) (by unfold maxLen; omega) (by omega) hz6 ?_; intro v' w7 hown hgrow hnil hat; obtain ⟨p', cap', rfl⟩ := slice_of_own hown; have LB : Hid (w7.heap[w.heap.size + 1]? = some (.cells #[.int .i64 0, .int .i64 S.align, .slice lp PK.length lc, .bool true] TLy (0, 0))) := (hgrow.block (w.heap.size + 1) (lt_of_heap L6.out) (fun e => by have := (ownsRow_at O6.out e.symm).1; omega)).trans L6.out; have hc7 : w7.cell? ⟨w.heap.size + 1, 2, none⟩ = some (.slice lp PK.length lc) := (Lib.cell_of_heap LB.out 2).trans rfl; have hf7 : w7.frozen? ⟨w.heap.size + 1, 2, none⟩ = false := frozen_of LB.out 2; have HO7 : Hid (w7.ownsRow (w.heap.size + 2) TPl 5 (.slice p' (PK.length + 1) cap') (PK.length + 1) (plCells PK ++ (#[.int .i64 (k : Int), .int .i64 (t : Int), .int .i64 (q / (8 * ex.size) * ex.size), .int .i64 (q % (8 * ex.size)), .int .i64 bt]).toList)) := hown; have HG7 : Hid (World.grownBy _ _ _) := hgrow; clear hown hgrow hnil hat)
                  all_goals
                    go_wp2_with fail
                    go_meet
                    exact ⟨rfl, p', cap', (heap_setCell (j := 2) LB.out _).trans rfl, ownsRow_turned HO7.out (Turned.setCell (S := fun k => k = w.heap.size + 1) _ _ _ _ rfl) (fun k hk e => by have := (ownsRow_at HO7.out hk).1; omega),
                      (heap_setCell_other _ ⟨w.heap.size + 1, 2, none⟩ mx _ (by show mx ≠ w.heap.size + 1; omega)).trans ((HG7.out.block mx (lt_of_heap N6.out) (fun e => by obtain ⟨_, cur, hc⟩ := ownsRow_at O6.out e.symm; exact tag_ne hc N6.out (by decide) rfl)).trans N6.out),
                      (heap_setCell_other _ ⟨w.heap.size + 1, 2, none⟩ w.heap.size _ (by show w.heap.size ≠ w.heap.size + 1; omega)).trans ((HG7.out.block w.heap.size (lt_of_heap E6.out) (fun e => by have := (ownsRow_at O6.out e.symm).1; omega)).trans E6.out),
                      Below.setCell (below_grow B6.out B6.out.size HG7.out (fun k e => by have := (ownsRow_at O6.out e).1; omega)) (p := ⟨w.heap.size + 1, 2, none⟩) (by show w.heap.size ≤ w.heap.size + 1; omega) _⟩
                case rest =>
                  obtain ⟨rfl, p', cap', G8, O8, N8, E8, B8⟩ := hcut
                  have HS1 : Hid ((layS false M ls0 (mem.take (k + 1))).place = q + bt) := by
                    show _ = _
                    rw [HSS.out]
                    show (beginP S.place ⟨nm, (t : Int), bt⟩ (M (t : Int)) + takenP ⟨nm, (t : Int), bt⟩ (M (t : Int))) = _
                    rw [HMT.out, ← HQ.out]
                    show q + (if bt = -1 then _ else bt) = _
                    rw [if_neg (by omega)]
                  have HS3 : Hid ((layS false M ls0 (mem.take (k + 1))).align = if nm.toList == [] then S.align else max S.align ex.align) := by
                    show _ = _
                    rw [HSS.out]
                    show (if nm.toList == [] then S.align else max S.align (M (t : Int)).align) = _
                    rw [HMT.out]
                  have HS2 : Hid (placesS false M ls0 0 (mem.take (k + 1)) = PK ++ [⟨(k : Int), (t : Int), q / (8 * ex.size) * ex.size, q % (8 * ex.size), bt⟩]) := by
                    show _ = _
                    rw [HPS.out, if_neg hbz, ← HQ.out]
                    show PK ++ [if bt = -1 then _ else _] = _
                    rw [if_neg (by omega), Int.mul_comm ex.size]
                  have HPC : Hid (plCells (PK ++ [⟨(k : Int), (t : Int), q / (8 * ex.size) * ex.size, q % (8 * ex.size), bt⟩]) = plCells PK ++ (#[.int .i64 (k : Int), .int .i64 (t : Int), .int .i64 (q / (8 * ex.size) * ex.size), .int .i64 (q % (8 * ex.size)), .int .i64 bt]).toList) := by show _ = _; simp [plCells]
                  have a08 := HA0.out _ B8.out
                  clear HSS HPS
                  by_cases hnm : (!nm.toList.isEmpty) = true
                  · have HNM : Hid ((nm.toList == []) = false) := by show (nm.toList == []) = false; cases h : nm.toList with | nil => rw [h] at hnm; cases hnm | cons x l => rfl
                    have y1 := Lib.cell_of_heap G8.out 1
                    have f1 := frozen_of G8.out 1
                    have n1 := Lib.cell_of_heap N8.out 1
                    simp only [List.getElem?_toArray, List.getElem?_cons_zero, List.getElem?_cons_succ] at y1 n1
                    go_wp2
                    refine ⟨⟨k + 1, .slice p' (PK.length + 1) cap', by omega, by go_num, by rw [HS1.out], ?_, ?_, ?_, ?_, HF1⟩, by simp [intOf]; omega⟩
                    · exact B8.out.setCell (p := ⟨w.heap.size + 1, 1, none⟩) (by show w.heap.size ≤ w.heap.size + 1; omega) _
                    · exact (heap_setCell_other _ ⟨w.heap.size + 1, 1, none⟩ w.heap.size _ (by show w.heap.size ≠ w.heap.size + 1; omega)).trans E8.out
                    · show _ = _
                      rw [HS3.out, HNM.out]
                      exact (heap_setCell (j := 1) G8.out _).trans rfl
                    · show World.ownsRow _ _ _ _ _ _ _
                      rw [HS2.out, List.length_append, HPC.out]
                      exact ownsRow_turned O8.out (Turned.setCell (S := fun k => k = w.heap.size + 1) _ _ _ _ rfl) (fun k hk e => by have := (ownsRow_at O8.out hk).1; omega)
                  · have hnm0 : (!nm.toList.isEmpty) = false := by simpa using hnm
                    have HNM : Hid ((nm.toList == []) = true) := by show (nm.toList == []) = true; cases h : nm.toList with | nil => rfl | cons x l => rw [h] at hnm0; cases hnm0
                    go_wp2
                    refine ⟨⟨k + 1, .slice p' (PK.length + 1) cap', by omega, by go_num, by rw [HS1.out], B8, E8, ?_, ?_, HF1⟩, by simp [intOf]; omega⟩
                    · show _ = _
                      rw [HS3.out, HNM.out]
                      exact G8.out
                    · show World.ownsRow _ _ _ _ _ _ _
                      rw [HS2.out, List.length_append, HPC.out]
                      exact O8.out
              | true =>
                have HQ3 : Hid (q = rup S.place (8 * ex.size)) := by show _ = _; rw [HQ2.out, if_pos (by have z := HNE.out; simpa using z.symm)]
                go_wp2_with fail
                refine (HCU.out _).mono ?_
                rintro e w' ⟨rfl, hw⟩
                rw [hw]; clear hw w'
                rw [← HQ3.out]
                go_upto_region 14 with fail
                have G5 : Hid ((W4.drewN nn).heap[w.heap.size + 1]? = some (.cells #[.int .i64 0, .int .i64 S.align, .slice lp PK.length lc, .bool true] TLy (0, 0))) := G4.out
                have N5 : Hid ((W4.drewN nn).heap[mx]? = some (.cells #[.int .i64 ex.size, .int .i64 ex.align, .slice yp ypl.length yc, .bool true] TLy (0, 0))) := N4.out
                have E5 : Hid ((W4.drewN nn).heap[w.heap.size]? = some (.cells #[.int .i64 0, .int .i64 0, .slice none 0 0, .bool false] TLy (0, 0))) := E4.out
                have O5 : Hid ((W4.drewN nn).ownsRow (w.heap.size + 2) TPl 5 (.slice lp PK.length lc) PK.length (plCells PK)) := O4.out
                have B5 : Hid (Below w.heap.size w (W4.drewN nn)) := ⟨B4.out.os, B4.out.tape, B4.out.output, B4.out.size, B4.out.block⟩
                have a15 : (W4.drewN nn).cell? ⟨gm, om + k * 3 + 1, none⟩ = some (.int .i64 (t : Int)) := a1''
                have HA5 : Hid (∀ Y, Below (W4.drewN nn).heap.size (W4.drewN nn) Y → True) := fun _ _ => trivial
                clear G4 N4 E4 O4 B4 a0'' a1'' a2'' HA5
                generalize W4.drewN nn = W5 at *
                have hd3 : q.tdiv (8 * ex.size) = q / (8 * ex.size) := Int.tdiv_eq_ediv_of_nonneg hqb.1
                have hd4 : q.tmod (8 * ex.size) = q % (8 * ex.size) := Int.tmod_eq_emod_of_nonneg hqb.1
                have hr1 := Int.ediv_nonneg hqb.1 (show 0 ≤ (8 * ex.size) by omega)
                have hr2 := Int.ediv_le_self (8 * ex.size) hqb.1
                have hr3 := Int.emod_nonneg q hu0
                have hr4 := Int.emod_lt_of_pos q (show 0 < (8 * ex.size) by omega)
                have hz9 : (8 * ex.size) * (q / (8 * ex.size)) = 8 * (q / (8 * ex.size) * ex.size) := by rw [Int.mul_assoc, Int.mul_comm ex.size]
                have hr5 : q / (8 * ex.size) * ex.size ≤ q := by
                  have z := Int.mul_ediv_add_emod q (8 * ex.size)
                  have z3 := Int.mul_nonneg hr1 (show 0 ≤ ex.size by omega)
                  omega
                have hr6 := Int.mul_nonneg hr1 (show 0 ≤ ex.size by omega)
                have hw5 : IntKind.i64.wrap (q / (8 * ex.size)) = q / (8 * ex.size) := wrap_id hr1 (by omega)
                have hw6 : IntKind.i64.wrap (q / (8 * ex.size) * ex.size) = q / (8 * ex.size) * ex.size := wrap_id hr6 (by omega)
                have hw7 : IntKind.i64.wrap (q % (8 * ex.size)) = q % (8 * ex.size) := wrap_id hr3 (by omega)
                have hw8' : IntKind.i64.wrap (q + bt) = q + bt := wrap_id (by omega) (by omega)
                have y2 := Lib.cell_of_heap G5.out 2
                have n0 := Lib.cell_of_heap N5.out 0
                simp only [List.getElem?_toArray, List.getElem?_cons_zero, List.getElem?_cons_succ] at y2 n0
                clear hr1 hr2 hr3 hr4 hr5 hr6 hz9
                go_cut [7] (fun s7 wx => s7 = .int .i64 (k : Int) ∧ ∃ (p' : Option Addr) (cap' : Nat), Hid (wx.heap[w.heap.size + 1]? = some (.cells #[.int .i64 0, .int .i64 S.align, .slice p' (PK.length + 1) cap', .bool true] TLy (0, 0))) ∧ Hid (wx.ownsRow (w.heap.size + 2) TPl 5 (.slice p' (PK.length + 1) cap') (PK.length + 1) (plCells PK ++ (#[.int .i64 (k : Int), .int .i64 (t : Int), .int .i64 (q / (8 * ex.size) * ex.size), .int .i64 (q % (8 * ex.size)), .int .i64 bt]).toList)) ∧ Hid (wx.heap[mx]? = some (.cells #[.int .i64 ex.size, .int .i64 ex.align, .slice yp ypl.length yc, .bool true] TLy (0, 0))) ∧ Hid (wx.heap[w.heap.size]? = some (.cells #[.int .i64 0, .int .i64 0, .slice none 0 0, .bool false] TLy (0, 0))) ∧ Hid (Below w.heap.size w wx))
                case first =>
                  obtain ⟨i0, hi, hz0, hz1, hz2⟩ := info_parts infoTPl
                  have hbp : ∀ (x y z u v : Int) (Y : World), (Instr.build TPl #[(0, .int .i64 x), (1, .int .i64 y), (2, .int .i64 z), (3, .int .i64 u), (4, .int .i64 v)]).run Tryz.prog Y = .ok (.agg #[.int .i64 x, .int .i64 y, .int .i64 z, .int .i64 u, .int .i64 v]) Y := fun x y z u v Y => by kernel_rfl
                  have b6 : Below W5.heap.size W5 (W5.alloc (.cells #[.int .i64 (k : Int), .int .i64 (t : Int), .int .i64 (q / (8 * ex.size) * ex.size), .int .i64 (q % (8 * ex.size)), .int .i64 bt] TPl)).drew := (below1 W5 _).drew
                  have O6 : Hid ((W5.alloc (.cells #[.int .i64 (k : Int), .int .i64 (t : Int), .int .i64 (q / (8 * ex.size) * ex.size), .int .i64 (q % (8 * ex.size)), .int .i64 bt] TPl)).drew.ownsRow (w.heap.size + 2) TPl 5 (.slice lp PK.length lc) PK.length (plCells PK)) := ownsRow_turned O5.out (Turned.of_below b6 (fun _ => False)) (fun _ _ h => h.elim)
                  have L6 : Hid (_ = _) := blk_b G5.out b6
                  have N6 : Hid (_ = _) := blk_b N5.out b6
                  have E6 : Hid (_ = _) := blk_b E5.out b6
                  have B6 : Hid (Below w.heap.size w (W5.alloc (.cells #[.int .i64 (k : Int), .int .i64 (t : Int), .int .i64 (q / (8 * ex.size) * ex.size), .int .i64 (q % (8 * ex.size)), .int .i64 bt] TPl)).drew) := B5.out.trans (b6.mono B5.out.size)
                  have hz6 : w.heap.size + 2 ≤ (W5.alloc (.cells #[.int .i64 (k : Int), .int .i64 (t : Int), .int .i64 (q / (8 * ex.size) * ex.size), .int .i64 (q % (8 * ex.size)), .int .i64 bt] TPl)).drew.heap.size := by have := lt_of_heap N5.out; have := b6.size; omega
                  clear b6
                  have hc6 : (W5.alloc (.cells #[.int .i64 (k : Int), .int .i64 (t : Int), .int .i64 (q / (8 * ex.size) * ex.size), .int .i64 (q % (8 * ex.size)), .int .i64 bt] TPl)).cell? ⟨w.heap.size + 1, 2, none⟩ = some (.slice lp PK.length lc) := (Lib.cell_of_heap L6.out 2).trans rfl
                  go_region_law (refine step_append_own_at rfl (.tmp 59) (.tmp 77) 33 rfl (w.heap.size + 2) TPl i0 _ 5 40 Tryz.underlying33 hi hz0 hz1 hz2 rfl (by decide) (.slice lp PK.length lc) PK.length _ rfl O6.out ⟨W5.heap.size, 0, none⟩ 1 1 (#[.int .i64 (k : Int), .int .i64 (t : Int), .int .i64 (q / (8 * ex.size) * ex.size), .int .i64 (q % (8 * ex.size)), .int .i64 bt]).toList rfl rfl (fun j u h => cells_new W5 _ _ j u h) (by simp [Value.oneCell']) (by unfold maxLen; omega) (by omega) hz6 ?_; intro v' w7 hown hgrow hnil hat; obtain ⟨p', cap', rfl⟩ := slice_of_own hown; have LB : Hid (w7.heap[w.heap.size + 1]? = some (.cells #[.int .i64 0, .int .i64 S.align, .slice lp PK.length lc, .bool true] TLy (0, 0))) := (hgrow.block (w.heap.size + 1) (lt_of_heap L6.out) (fun e => by have := (ownsRow_at O6.out e.symm).1; omega)).trans L6.out; have hc7 : w7.cell? ⟨w.heap.size + 1, 2, none⟩ = some (.slice lp PK.length lc) := (Lib.cell_of_heap LB.out 2).trans rfl; have hf7 : w7.frozen? ⟨w.heap.size + 1, 2, none⟩ = false := frozen_of LB.out 2; have HO7 : Hid (w7.ownsRow (w.heap.size + 2) TPl 5 (.slice p' (PK.length + 1) cap') (PK.length + 1) (plCells PK ++ (#[.int .i64 (k : Int), .int .i64 (t : Int), .int .i64 (q / (8 * ex.size) * ex.size), .int .i64 (q % (8 * ex.size)), .int .i64 bt]).toList)) := hown; have HG7 : Hid (World.grownBy _ _ _) := hgrow; clear hown hgrow hnil hat)
                  all_goals
                    go_wp2_with fail
                    go_meet
                    exact ⟨rfl, p', cap', (heap_setCell (j := 2) LB.out _).trans rfl, ownsRow_turned HO7.out (Turned.setCell (S := fun k => k = w.heap.size + 1) _ _ _ _ rfl) (fun k hk e => by have := (ownsRow_at HO7.out hk).1; omega),
                      (heap_setCell_other _ ⟨w.heap.size + 1, 2, none⟩ mx _ (by show mx ≠ w.heap.size + 1; omega)).trans ((HG7.out.block mx (lt_of_heap N6.out) (fun e => by obtain ⟨_, cur, hc⟩ := ownsRow_at O6.out e.symm; exact tag_ne hc N6.out (by decide) rfl)).trans N6.out),
                      (heap_setCell_other _ ⟨w.heap.size + 1, 2, none⟩ w.heap.size _ (by show w.heap.size ≠ w.heap.size + 1; omega)).trans ((HG7.out.block w.heap.size (lt_of_heap E6.out) (fun e => by have := (ownsRow_at O6.out e.symm).1; omega)).trans E6.out),
                      Below.setCell (below_grow B6.out B6.out.size HG7.out (fun k e => by have := (ownsRow_at O6.out e).1; omega)) (p := ⟨w.heap.size + 1, 2, none⟩) (by show w.heap.size ≤ w.heap.size + 1; omega) _⟩
                case rest =>
                  obtain ⟨rfl, p', cap', G8, O8, N8, E8, B8⟩ := hcut
                  have HS1 : Hid ((layS false M ls0 (mem.take (k + 1))).place = q + bt) := by
                    show _ = _
                    rw [HSS.out]
                    show (beginP S.place ⟨nm, (t : Int), bt⟩ (M (t : Int)) + takenP ⟨nm, (t : Int), bt⟩ (M (t : Int))) = _
                    rw [HMT.out, ← HQ.out]
                    show q + (if bt = -1 then _ else bt) = _
                    rw [if_neg (by omega)]
                  have HS3 : Hid ((layS false M ls0 (mem.take (k + 1))).align = if nm.toList == [] then S.align else max S.align ex.align) := by
                    show _ = _
                    rw [HSS.out]
                    show (if nm.toList == [] then S.align else max S.align (M (t : Int)).align) = _
                    rw [HMT.out]
                  have HS2 : Hid (placesS false M ls0 0 (mem.take (k + 1)) = PK ++ [⟨(k : Int), (t : Int), q / (8 * ex.size) * ex.size, q % (8 * ex.size), bt⟩]) := by
                    show _ = _
                    rw [HPS.out, if_neg hbz, ← HQ.out]
                    show PK ++ [if bt = -1 then _ else _] = _
                    rw [if_neg (by omega), Int.mul_comm ex.size]
                  have HPC : Hid (plCells (PK ++ [⟨(k : Int), (t : Int), q / (8 * ex.size) * ex.size, q % (8 * ex.size), bt⟩]) = plCells PK ++ (#[.int .i64 (k : Int), .int .i64 (t : Int), .int .i64 (q / (8 * ex.size) * ex.size), .int .i64 (q % (8 * ex.size)), .int .i64 bt]).toList) := by show _ = _; simp [plCells]
                  have a08 := HA0.out _ B8.out
                  clear HSS HPS
                  by_cases hnm : (!nm.toList.isEmpty) = true
                  · have HNM : Hid ((nm.toList == []) = false) := by show (nm.toList == []) = false; cases h : nm.toList with | nil => rw [h] at hnm; cases hnm | cons x l => rfl
                    have y1 := Lib.cell_of_heap G8.out 1
                    have f1 := frozen_of G8.out 1
                    have n1 := Lib.cell_of_heap N8.out 1
                    simp only [List.getElem?_toArray, List.getElem?_cons_zero, List.getElem?_cons_succ] at y1 n1
                    go_wp2
                    refine ⟨⟨k + 1, .slice p' (PK.length + 1) cap', by omega, by go_num, by rw [HS1.out], ?_, ?_, ?_, ?_, HF1⟩, by simp [intOf]; omega⟩
                    · exact B8.out.setCell (p := ⟨w.heap.size + 1, 1, none⟩) (by show w.heap.size ≤ w.heap.size + 1; omega) _
                    · exact (heap_setCell_other _ ⟨w.heap.size + 1, 1, none⟩ w.heap.size _ (by show w.heap.size ≠ w.heap.size + 1; omega)).trans E8.out
                    · show _ = _
                      rw [HS3.out, HNM.out]
                      exact (heap_setCell (j := 1) G8.out _).trans rfl
                    · show World.ownsRow _ _ _ _ _ _ _
                      rw [HS2.out, List.length_append, HPC.out]
                      exact ownsRow_turned O8.out (Turned.setCell (S := fun k => k = w.heap.size + 1) _ _ _ _ rfl) (fun k hk e => by have := (ownsRow_at O8.out hk).1; omega)
                  · have hnm0 : (!nm.toList.isEmpty) = false := by simpa using hnm
                    have HNM : Hid ((nm.toList == []) = true) := by show (nm.toList == []) = true; cases h : nm.toList with | nil => rfl | cons x l => rw [h] at hnm0; cases hnm0
                    go_wp2
                    refine ⟨⟨k + 1, .slice p' (PK.length + 1) cap', by omega, by go_num, by rw [HS1.out], B8, E8, ?_, ?_, HF1⟩, by simp [intOf]; omega⟩
                    · show _ = _
                      rw [HS3.out, HNM.out]
                      exact G8.out
                    · show World.ownsRow _ _ _ _ _ _ _
                      rw [HS2.out, List.length_append, HPC.out]
                      exact O8.out
    · obtain rfl : k = mem.length := by omega
      have hfin := layS_fin (M := M) mem ls0 (by decide) rfl (fun m hm => ⟨(HM.out m hm).1, (HM.out m hm).2.1⟩)
      simp only [List.take_length] at *
      have HEND : Hid ((endP (layS false M ls0 mem)).size = rup (max 1 (rup (layS false M ls0 mem).place 8 / 8)) (layS false M ls0 mem).align) := by
        show rup (max (rup (layS false M ls0 mem).fin 8 / 8) 1) (layS false M ls0 mem).align = _
        rw [hfin, Int.max_comm]
      clear hfin
      generalize hSE : layS false M ls0 mem = S at *
      generalize hPE : placesS false M ls0 0 mem = PK at *
      have HSE : Hid (layS false M ls0 mem = S) := hSE
      have HPE : Hid (placesS false M ls0 0 mem = PK) := hPE
      clear hSE hPE
      have hp2 : S.place ≤ 20000000 := by omega
      have hb := rup_bd S.place 8 hp0 (by omega)
      generalize hr : rup S.place 8 = r at *
      have hq0 : 0 ≤ r / 8 := by omega
      have hq1 : r / 8 ≤ 20000000 := by omega
      have htd : r.tdiv 8 = r / 8 := Int.tdiv_eq_ediv_of_nonneg (by omega)
      have hwq : IntKind.i64.wrap (r / 8) = r / 8 := wrap_id (by omega) (by omega)
      have HU1 : Hid (∀ W, Calls Tryz.prog 117 #[.int .i64 S.place, .int .i64 8] W fun e w' => e = .returned (.int .i64 r) ∧ w' = W) := fun W => by have q := rup_c S.place 8 hp0 (by omega) (by omega) (by omega) W; rwa [hr] at q
      have HU2 : Hid (∀ W, Calls Tryz.prog 117 #[.int .i64 (max 1 (r / 8)), .int .i64 S.align] W fun e w' => e = .returned (.int .i64 (rup (max 1 (r / 8)) S.align)) ∧ w' = W) := fun W => rup_c _ _ (by omega) (by omega) (by omega) (by omega) W
      have q1 : ∀ Y : World, Y.heap = wr.heap → Y.cell? ⟨w.heap.size + 1, 1, none⟩ = some (.int .i64 S.align) := fun Y h => (Lib.cell_of_heap (h ▸ HG.out) 1).trans rfl
      have g1 := q1 wr rfl
      have g1d := q1 wr.drew rfl
      have q0 : wr.drew.cell? ⟨w.heap.size + 1, 0, none⟩ = some (.int .i64 0) := (Lib.cell_of_heap (w := wr.drew) HG.out 0).trans rfl
      have f0 : wr.drew.frozen? ⟨w.heap.size + 1, 0, none⟩ = false := frozen_of (w := wr.drew) HG.out 0
      clear q1 hb hq0 hq1 hr
      go_wp2_with fail
      go_region_with (first | (go_at_call_of 117 (Value.int .i64 S.place); refine (HU1.out _).mono ?_; rintro e w' ⟨rfl, hw⟩; rw [hw]; clear hw w') | (go_at_call 117; refine (HU2.out _).mono ?_; rintro e w' ⟨rfl, hw⟩; rw [hw]; clear hw w'))
      all_goals
        have hc0 : wr.heap[w.heap.size]? = some (.cells #[.int .i64 0, .int .i64 0, .slice none 0 0, .bool false] TLy (0, 0)) := HE.out
        have hG4 : Hid ((wr.setCell ⟨w.heap.size + 1, 0, none⟩ (.int .i64 (rup (max 1 (r / 8)) S.align))).drew.heap[w.heap.size + 1]? = some (.cells #[.int .i64 (rup (max 1 (r / 8)) S.align), .int .i64 S.align, .slice lp PK.length lc, .bool true] TLy (0, 0))) := (heap_setCell (j := 0) HG.out _).trans rfl
        have hE4 : (wr.setCell ⟨w.heap.size + 1, 0, none⟩ (.int .i64 (rup (max 1 (r / 8)) S.align))).drew.heap[w.heap.size]? = some (.cells #[.int .i64 0, .int .i64 0, .slice none 0 0, .bool false] TLy (0, 0)) := (heap_setCell_other wr ⟨w.heap.size + 1, 0, none⟩ w.heap.size (.int .i64 (rup (max 1 (r / 8)) S.align)) (by show w.heap.size ≠ w.heap.size + 1; omega)).trans hc0
        have HE4 : Hid (_ = _) := hE4
        have y0 := Lib.cell_of_heap hG4.out 0
        have y1 := Lib.cell_of_heap hG4.out 1
        have y2 := Lib.cell_of_heap hG4.out 2
        have y3 := Lib.cell_of_heap hG4.out 3
        simp only [List.getElem?_toArray, List.getElem?_cons_zero, List.getElem?_cons_succ] at y0 y1 y2 y3
        have B4 : Hid (Below w.heap.size w (wr.setCell ⟨w.heap.size + 1, 0, none⟩ (.int .i64 (rup (max 1 (r / 8)) S.align))).drew) := (HB.out.setCell (p := ⟨w.heap.size + 1, 0, none⟩) (by show w.heap.size ≤ w.heap.size + 1; omega) _).drew
        have O4 : Hid ((wr.setCell ⟨w.heap.size + 1, 0, none⟩ (.int .i64 (rup (max 1 (r / 8)) S.align))).drew.ownsRow (w.heap.size + 2) TPl 5 (.slice lp PK.length lc) PK.length (plCells PK)) := ownsRow_turned (ownsRow_turned HO.out (Turned.setCell wr (w.heap.size + 1) 0 (.int .i64 (rup (max 1 (r / 8)) S.align)) (S := fun k => k = w.heap.size + 1) rfl) (fun k hk e => by have := (ownsRow_at HO.out hk).1; omega)) (Turned.of_below (Below.refl _ (wr.setCell ⟨w.heap.size + 1, 0, none⟩ (.int .i64 (rup (max 1 (r / 8)) S.align)))).drew (fun _ => False)) (fun _ _ h => h.elim)
        generalize (wr.setCell ⟨w.heap.size + 1, 0, none⟩ (.int .i64 (rup (max 1 (r / 8)) S.align))).drew = W4 at *
        clear hc0
        go_wp2_with (first | ((with_reducible apply step_store hE4); rfl; rfl; kernel_rfl; rfl; kernel_rfl) | fail)
        refine (?_ : bodyPost _ _ _ _ _ _)
        refine ret_c1 (p := 4) (cs := #[.int .i64 (rup (max 1 (r / 8)) S.align), .int .i64 S.align, .slice lp PK.length lc, .bool true]) rfl rfl (load_Ly (setRow_heap _ _ _ _ _ _ HE4.out) rfl) ?_
        refine ⟨⟨rup (max 1 (r / 8)) S.align, S.align, .slice lp PK.length lc, PK, true⟩, rfl, ?_, ?_, fun _ => ⟨rfl, by rw [HSE.out]; exact HEND.out.symm, by rw [HSE.out], by rw [HPE.out]⟩, fun h => absurd HF.out h⟩
        · exact below_setRow B4.out (Nat.le_refl _) _
        · refine ownsRow_base (ownsRow_turned O4.out (Turned.setRow _ _ _ (S := fun k => k = w.heap.size) rfl) (fun k hk e => by have := (ownsRow_at O4.out hk).1; omega)) (by omega)
end
end Go.Proofs.YtlcghlfmaohfeaaGreat
