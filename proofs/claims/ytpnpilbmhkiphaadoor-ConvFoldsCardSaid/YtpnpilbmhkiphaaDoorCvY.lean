/-
  layout.open and layout.Size of a number or a pointer.
-/
import Derived.Test.YtpnpilbmhkiphaaDoorCvZ
namespace Go.Proofs.YtpnpilbmhkiphaaDoor
open Go.RowKit Go.Maps
set_option linter.unusedVariables false
set_option maxRecDepth 100000

theorem results_mid {fn : Func} {p u s : Tmp} {ty : TypeId} (h : fn.results = #[.tmp s, .cell p ty, .tmp u]) (tmps : Array Value) (P : Program) (w : World) :
    (results fn tmps).run P w =
      ((asAddr (tmps.getD p undef)).run P w).andThen fun a w₁ => ((loadVar ty a).run P w₁).andThen fun x w₂ => .ok (.tuple #[tmps.getD s undef, x, tmps.getD u undef]) w₂ := by
  simp only [results, h]
  simp [Sem.run_bind, Result.andThen]
theorem ret_x3 {fn : Func} {R : Ending → World → Prop} {tmps : Array Value} {w : World} {g p q s : Nat} {cs : Array Value}
    (hres : fn.results = #[.tmp s, .cell p TX, .tmp q]) (hp : tmps.getD p undef = .pointer (some ⟨g, 0, none⟩)) (hg : w.heap[g]? = some (.cells cs TX (0, 0))) (hcs : cs.size = 2)
    (hR : R (.returned (.tuple #[tmps.getD s undef, .agg cs, tmps.getD q undef])) w) : bodyPost Tryd.prog fn R .ret ⟨tmps, []⟩ w := by
  refine bodyPost_ret ?_ rfl hR
  have hl := run_loadVar_row (P := Tryd.prog) w g TX TX cs (0, 0) _ hg Tryd.underlying113 rfl (by rw [hcs]; kernel_rfl)
  rw [results_mid hres]
  simp only [hp]
  simp [asAddr, Result.andThen, hl]
section
variable {B : Nat} {w : World} {b mb : Nat} {v : Value} {rs : List (Rw × Value)} {ps : List (Value × Value)}
set_option maxHeartbeats 4000000 in
theorem open_c (h : Tab B w b mb v rs ps) (hs : Small rs) {i : Nat} {p : Rw × Value} (hp : rs[i]? = some p) (hk : intK p.1.kind = true ∨ p.1.kind = 13) :
    Calls Tryd.prog 89 #[.pointer (some ⟨b, 0, none⟩), .int .i64 i] w fun e w' => (∃ q, e = .returned (.tuple #[.pointer q, .agg #[.int .i64 (W.widthOf p.1.kind), .int .i64 (W.widthOf p.1.kind)], .int .i64 0])) ∧ Below w.heap.size w w' := by
  have hlt : i < rs.length := (List.getElem?_eq_some_iff.1 hp).1
  have hl := h.len
  have hkk : 2 ≤ p.1.kind ∧ p.1.kind ≤ 13 := by
    rcases hk with hk | hk
    · have : 2 ≤ p.1.kind ∧ p.1.kind ≤ 12 := by simpa [intK] using hk
      omega
    · omega
  have h4 : (p.1.kind == 14) = false := beq_eq_false_iff_ne.2 (by omega)
  have h5 : (p.1.kind == 15) = false := beq_eq_false_iff_ne.2 (by omega)
  have h6 : (p.1.kind == 16) = false := beq_eq_false_iff_ne.2 (by omega)
  have hwh : wholeP rs i = true := by
    simp only [wholeP, Int.toNat_natCast, hp]
    rw [if_pos (by omega)]
    simp only [wholeR]
    rw [if_neg (by omega), if_neg (by simp [recK, h5, h6])]
    rcases hk with hk | hk
    · rw [hk]; rfl
    · rw [hk]; rfl
  have n1 := not_t
  have hws := width_small p.1.kind
  have hB0 := below1 w (.cells #[.int .i64 0, .int .i64 0] TX)
  have E0 : Hid (_ = _) := heap_r0 w (.cells #[.int .i64 0, .int .i64 0] TX)
  have H0 : Hid (Tab B (w.alloc (.cells #[.int .i64 0, .int .i64 0] TX)) b mb v rs ps) := h.keptB hB0
  have HB0 : Hid (Below _ _ _) := hB0
  have HS : Hid (Small rs) := hs
  have HP : Hid (rs[i]? = some p) := hp
  have c1 := len_c H0.out (by omega)
  have c2 := row_c H0.out hp hs
  have hne : ((rs.length : Int) == 0) = false := beq_eq_false_iff_ne.2 (by omega)
  have hmk := @run_makeMap Tryd.prog
  have HCM : Hid (∀ (Y : World) (rb m ck B1 : Nat), Tab B Y b mb v rs ps → Y.heap[rb]? = some (.cells #[.pointer (some ⟨b, 0, none⟩), .map (some m)] TRu (0, 0)) → Y.heap[m]? = some (.map #[] ck) → B1 ≤ m →
      Calls Tryd.prog 91 #[.pointer (some ⟨rb, 0, none⟩), .int .i64 i] Y fun e w' => e = .returned (.agg #[.int .i64 (W.widthOf p.1.kind), .int .i64 (W.widthOf p.1.kind)]) ∧ Below B1 Y w') :=
    fun W rb m ck B1 hT hr hm hB => measure_c hT hs hp h4 h5 h6 hr hm hB
  have HCW : Hid (∀ (W : World), Tab B W b mb v rs ps → Calls Tryd.prog 90 #[.pointer (some ⟨b, 0, none⟩), .int .i64 i] W fun e w' => e = .returned (.bool true) ∧ w' = W) := fun W hT => by
    have := whole_c hT (by omega) i
    rw [hwh] at this
    exact this
  generalize W.widthOf p.1.kind = wd at *
  obtain ⟨⟨kd, el, ln, tg, mm, dn⟩, s0⟩ := p
  simp only [rwCells] at c2
  clear h hB0 hs hp hk hkk h4 h5 h6 hwh
  go_enter Tryd.func89, Tryd.ntmps89
  go_wp2_with fail
  generalize w.alloc (.cells #[.int .i64 0, .int .i64 0] TX) = W0 at *
  refine c1.mono ?_
  rintro e w' ⟨rfl, hw⟩
  rw [hw]
  clear hw w' c1
  go_wp2_with fail
  refine c2.mono ?_
  rintro e w3 ⟨s', rfl, hown, hb3⟩
  obtain ⟨sp, sc, rfl⟩ := slice_of_own hown
  have hold := heap_r0 w3 (.cells #[.int .i64 0, .int .i64 0, .int .i64 0, .string ⟨#[]⟩, .slice none 0 0, .bool false] TR)
  have hB4 := below1 w3 (.cells #[.int .i64 kd, .int .i64 el, .int .i64 ln, .string tg, .slice sp mm.length sc, .bool dn] TR)
  have hB24 : Below W0.heap.size W0 (w3.alloc (.cells #[.int .i64 kd, .int .i64 el, .int .i64 ln, .string tg, .slice sp mm.length sc, .bool dn] TR)) := hb3.trans (hB4.mono hb3.size)
  have E4 : Hid (_ = _) := blk_b E0.out hB24
  have H4 : Hid (Tab B _ b mb v rs ps) := H0.out.keptB hB24
  have HB4 : Hid (Below w.heap.size w (w3.alloc (.cells #[.int .i64 kd, .int .i64 el, .int .i64 ln, .string tg, .slice sp mm.length sc, .bool dn] TR))) := HB0.out.trans (hB24.mono HB0.out.size)
  clear c2 hown hb3 hB4 hB24 E0 H0 HB0
  go_wp2_with (first | ((with_reducible apply step_store hold); rfl; rfl; kernel_rfl; rfl; kernel_rfl; rw [World.setRow_alloc_new]) | fail)
  generalize w3.alloc (.cells #[.int .i64 kd, .int .i64 el, .int .i64 ln, .string tg, .slice sp mm.length sc, .bool dn] TR) = W4 at *
  clear hold
  refine (HCW.out _ H4.out).mono ?_
  rintro e w' ⟨rfl, hw⟩
  rw [hw]
  clear hw w' HCW
  go_wp2_with fail
  have hB46 : Below W4.heap.size W4 ((W4.alloc (.map #[] 0)).alloc (.cells #[.pointer (some ⟨b, 0, none⟩), .map (some W4.heap.size)] TRu)) := (below1 W4 _).alloc (below1 W4 _).size _
  have cM := HCM.out _ (W4.heap.size + 1) W4.heap.size 0 W4.heap.size (H4.out.keptB hB46) (heap_s2 W4 (.map #[] 0) (.cells #[.pointer (some ⟨b, 0, none⟩), .map (some W4.heap.size)] TRu)) (heap_s1 W4 (.map #[] 0) (.cells #[.pointer (some ⟨b, 0, none⟩), .map (some W4.heap.size)] TRu)) (Nat.le_refl _)
  refine cM.mono ?_
  rintro e w7 ⟨rfl, hb7⟩
  have hB47 : Below W4.heap.size W4 w7 := hB46.trans hb7
  have hB8 := below1 w7 (.cells #[.int .i64 wd, .int .i64 wd] TX)
  have hB48 := hB47.trans (hB8.mono hB47.size)
  have E8 := blk_b E4.out hB48
  have N8 := heap_r0 w7 (.cells #[.int .i64 wd, .int .i64 wd] TX)
  have HB8 : Hid (Below w.heap.size w (w7.alloc (.cells #[.int .i64 wd, .int .i64 wd] TX))) := HB4.out.trans (hB48.mono HB4.out.size)
  have hE7 : w.heap.size < w7.heap.size := Nat.lt_of_lt_of_le (lt_of_heap E4.out) hB47.size
  have hgt : decide (16384 < wd) = false := by simp; omega
  clear cM HCM hB46 hb7 hB47 hB8 hB48 E4 H4 HB4 hmk
  go_wp2_with fail
  have HE8 : Hid (_ = _) := E8
  have HN8 : Hid (_ = _) := N8
  generalize w7.alloc (.cells #[.int .i64 wd, .int .i64 wd] TX) = W8 at *
  have x0 := Lib.cell_of_heap E8 0
  have x1 := Lib.cell_of_heap E8 1
  have y0 := Lib.cell_of_heap N8 0
  have y1 := Lib.cell_of_heap N8 1
  simp only [List.getElem?_toArray, List.getElem?_cons_succ, List.getElem?_cons_zero] at x0 x1 y0 y1
  clear E8 N8
  have z0 : W8.frozen? ⟨w.heap.size, 0, none⟩ = false := frozen_of HE8.out 0
  have z1 : W8.frozen? ⟨w.heap.size, 1, none⟩ = false := frozen_of HE8.out 1
  go_region
  all_goals
    have K1 := heap_setCell (j := 0) HE8.out (.int .i64 wd)
    have K2 : Hid (_ = _) := heap_setCell (j := 1) K1 (.int .i64 wd)
    have HB9 : Hid (Below w.heap.size w ((W8.setCell ⟨w.heap.size, 0, none⟩ (.int .i64 wd)).setCell ⟨w.heap.size, 1, none⟩ (.int .i64 wd)).drew) := by
      have hx := (HB8.out.setCell (p := ⟨w.heap.size, 0, none⟩) (Nat.le_refl _) (.int .i64 wd)).setCell (p := ⟨w.heap.size, 1, none⟩) (Nat.le_refl _) (.int .i64 wd)
      exact hx.trans ⟨rfl, rfl, rfl, Nat.le_refl _, fun _ _ => rfl⟩
    clear K1 x0 x1 y0 y1 z0 z1
    go_wp2_with fail
    refine ret_x3 (s := 4) (p := 5) (q := 6) (cs := #[.int .i64 wd, .int .i64 wd]) rfl rfl K2.out rfl ?_
    exact ⟨⟨_, rfl⟩, HB9.out⟩
theorem size_c (h : Tab B w b mb v rs ps) (hs : Small rs) {i : Nat} {p : Rw × Value} (hp : rs[i]? = some p) (hk : intK p.1.kind = true ∨ p.1.kind = 13) :
    Calls Tryd.prog 87 #[.pointer (some ⟨b, 0, none⟩), .int .i64 i] w fun e w' => e = .returned (.tuple #[.int .i64 (W.widthOf p.1.kind), .int .i64 0]) ∧ Below w.heap.size w w' := by
  have c := open_c h hs hp hk
  generalize W.widthOf p.1.kind = wd at *
  clear h hs hp hk
  go_enter Tryd.func87, Tryd.ntmps87
  go_wp2_with fail
  refine c.mono ?_
  rintro e w2 ⟨⟨q, rfl⟩, hb2⟩
  have HB : Hid (Below w.heap.size w (w2.alloc (.cells #[.int .i64 wd, .int .i64 wd] TX))) := hb2.trans ((below1 w2 _).mono hb2.size)
  clear c hb2
  go_wp2
  go_ret2
  exact ⟨rfl, HB.out⟩
end
end Go.Proofs.YtpnpilbmhkiphaaDoor
