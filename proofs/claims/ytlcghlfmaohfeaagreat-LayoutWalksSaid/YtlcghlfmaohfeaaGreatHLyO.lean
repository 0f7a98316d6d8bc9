/-
  open: a ruler of a table and how much room a type takes, or why there is none.
-/
import Derived.Test.YtlcghlfmaohfeaaGreatHLyA
import Derived.Carry
namespace Go.Proofs.YtlcghlfmaohfeaaGreat
open Go.RowKit Go.Maps
set_option linter.unusedVariables false
set_option maxRecDepth 100000
theorem results_mid {fn : Func} {p u s : Tmp} {ty : TypeId} (h : fn.results = #[.tmp s, .cell p ty, .tmp u]) (tmps : Array Value) (P : Program) (w : World) :
    (results fn tmps).run P w =
      ((asAddr (tmps.getD p undef)).run P w).andThen fun a w₁ => ((loadVar ty a).run P w₁).andThen fun x w₂ => .ok (.tuple #[tmps.getD s undef, x, tmps.getD u undef]) w₂ := by
  simp only [results, h]
  simp [Sem.run_bind, Result.andThen]
theorem ret_x3 {fn : Func} {R : Ending → World → Prop} {tmps : Array Value} {w : World} {g p q s : Nat} {cs : Array Value}
    (hres : fn.results = #[.tmp s, .cell p TX, .tmp q]) (hp : tmps.getD p undef = .pointer (some ⟨g, 0, none⟩)) (hg : w.heap[g]? = some (.cells cs TX (0, 0))) (hcs : cs.size = 2)
    (hR : R (.returned (.tuple #[tmps.getD s undef, .agg cs, tmps.getD q undef])) w) : bodyPost Tryz.prog fn R .ret ⟨tmps, []⟩ w := by
  refine bodyPost_ret ?_ rfl hR
  have hl := run_loadVar_row (P := Tryz.prog) w g TX TX cs (0, 0) _ hg Tryz.underlying78 rfl (by rw [hcs]; kernel_rfl)
  rw [results_mid hres]
  simp only [hp]
  simp [asAddr, Result.andThen, hl]
section
variable {B : Nat} {w : World} {b mb : Nat} {v : Value} {rs : List (Rw × Value)} {ps : List (Value × Value)} {M : Int → Ex}
set_option maxHeartbeats 2000000 in
theorem row_none (h : Tab B w b mb v rs ps) (h0 : 0 < rs.length) (id : Int) (hh : hasP rs.length id = false) :
    Calls Tryz.prog 55 #[.pointer (some ⟨b, 0, none⟩), .int .i64 id] w fun e w' => e = .returned (.tuple #[.agg #[.int .i64 0, .int .i64 0, .int .i64 0, .string ⟨#[]⟩, .slice none 0 0, .bool false], .bool false]) ∧ Below w.heap.size w w' := by
  have hB : Below w.heap.size w (w.alloc (.cells #[.int .i64 0, .int .i64 0, .int .i64 0, .string ⟨#[]⟩, .slice none 0 0, .bool false] TR)) := (Below.refl _ w).alloc (Nat.le_refl _) _
  have c := has_c (h.keptB hB) h0 id
  rw [hh] at c
  have n2 := not_f
  have hbz : ∀ W : World, (Instr.build TR #[]).run Tryz.prog W = .ok (.agg #[.int .i64 0, .int .i64 0, .int .i64 0, .string ⟨#[]⟩, .slice none 0 0, .bool false]) W := fun W => by kernel_rfl
  clear h
  go_enter Tryz.func55, Tryz.ntmps55
  go_wp2_with fail
  refine c.mono ?_
  rintro e w' ⟨rfl, rfl⟩
  have hold := heap_r0 w (.cells #[.int .i64 0, .int .i64 0, .int .i64 0, .string ⟨#[]⟩, .slice none 0 0, .bool false] TR)
  go_wp2_with ((with_reducible apply step_store hold); rfl; rfl; kernel_rfl; rfl; kernel_rfl)
  refine ret_rowb (p := 4) (q := 5) ?_ ?_ (setRow_heap _ _ _ _ _ _ hold) ?_ ?_
  · rfl
  · rfl
  · rfl
  · exact ⟨rfl, below_setRow hB (Nat.le_refl _) _⟩
set_option maxHeartbeats 4000000 in
theorem open_none (h : Tab B w b mb v rs ps) (h0 : 0 < rs.length) (id : Int) (hh : hasP rs.length id = false) :
    Calls Tryz.prog 28 #[.pointer (some ⟨b, 0, none⟩), .int .i64 id] w fun e w' => e = .returned (.tuple #[.pointer none, .agg #[.int .i64 0, .int .i64 0], .int .i64 30]) ∧ Below w.heap.size w w' := by
  have n1 := not_t
  have n2 := not_f
  have hbz : ∀ Y : World, (Instr.build TX #[]).run Tryz.prog Y = .ok (.agg #[.int .i64 0, .int .i64 0]) Y := fun Y => by kernel_rfl
  have hB0 := below1 w (.cells #[.int .i64 0, .int .i64 0] TX)
  have E0 : Hid (_ = _) := heap_r0 w (.cells #[.int .i64 0, .int .i64 0] TX)
  have H0 := h.keptB hB0
  have c1 := len_c H0 h0
  have c2 := row_none H0 h0 id hh
  have hne : ((rs.length : Int) == 0) = false := beq_eq_false_iff_ne.2 (by omega)
  have HB0 : Hid (Below _ _ _) := hB0
  clear h hB0 H0
  go_enter Tryz.func28, Tryz.ntmps28
  go_wp2_with fail
  generalize w.alloc (.cells #[.int .i64 0, .int .i64 0] TX) = W0 at *
  refine c1.mono ?_
  rintro e w' ⟨rfl, hw⟩
  rw [hw]
  clear hw w' c1
  go_wp2_with fail
  refine c2.mono ?_
  rintro e w3 ⟨rfl, hb3⟩
  have hold := heap_r0 w3 (.cells #[.int .i64 0, .int .i64 0, .int .i64 0, .string ⟨#[]⟩, .slice none 0 0, .bool false] TR)
  have hB4 := below1 w3 (.cells #[.int .i64 0, .int .i64 0, .int .i64 0, .string ⟨#[]⟩, .slice none 0 0, .bool false] TR)
  have hB24 := hb3.trans (hB4.mono hb3.size)
  have E4 : Hid (_ = _) := blk_b E0.out hB24
  have HB4 : Hid (Below w.heap.size w (w3.alloc (.cells #[.int .i64 0, .int .i64 0, .int .i64 0, .string ⟨#[]⟩, .slice none 0 0, .bool false] TR))) := HB0.out.trans (hB24.mono HB0.out.size)
  clear c2 hb3 hB4 hB24 E0 HB0
  go_wp2_with (first | ((with_reducible apply step_store hold); rfl; rfl; kernel_rfl; rfl; kernel_rfl; rw [World.setRow_alloc_new]) | ((with_reducible apply step_store E4.out); rfl; rfl; kernel_rfl; rfl; kernel_rfl))
  refine (?_ : bodyPost _ _ _ _ _ _)
  refine ret_x3 (s := 4) (p := 5) (q := 6) (cs := #[.int .i64 0, .int .i64 0]) rfl rfl (setRow_heap _ _ _ _ _ _ E4.out) rfl ?_
  exact ⟨rfl, below_setRow HB4.out (Nat.le_refl _) _⟩
set_option maxHeartbeats 8000000 in
theorem open_inc (h : Tab B w b mb v rs ps) (hs : Small rs) {i : Nat} {p : Rw × Value} (hp : rs[i]? = some p) (hwh : wholeR p.1 = false) :
    Calls Tryz.prog 28 #[.pointer (some ⟨b, 0, none⟩), .int .i64 i] w fun e w' => e = .returned (.tuple #[.pointer none, .agg #[.int .i64 0, .int .i64 0], .int .i64 50]) ∧ Below w.heap.size w w' := by
  have hlt : i < rs.length := (List.getElem?_eq_some_iff.1 hp).1
  have hl := h.len
  have n1 := not_t
  have n2 := not_f
  have hbz : ∀ Y : World, (Instr.build TX #[]).run Tryz.prog Y = .ok (.agg #[.int .i64 0, .int .i64 0]) Y := fun Y => by kernel_rfl
  have hB0 := below1 w (.cells #[.int .i64 0, .int .i64 0] TX)
  have E0 : Hid (_ = _) := heap_r0 w (.cells #[.int .i64 0, .int .i64 0] TX)
  have H0 : Hid (Tab B (w.alloc (.cells #[.int .i64 0, .int .i64 0] TX)) b mb v rs ps) := h.keptB hB0
  have HB0 : Hid (Below _ _ _) := hB0
  have c1 := len_c H0.out (by omega)
  have c2 := row_c H0.out hp hs
  have hne : ((rs.length : Int) == 0) = false := beq_eq_false_iff_ne.2 (by omega)
  have hmk := @run_makeMap Tryz.prog
  have hbr : ∀ (x : Option Addr) (y : Option Nat) (Y : World), (Instr.build TRu #[(0, .pointer x), (1, .map y)]).run Tryz.prog Y = .ok (.agg #[.pointer x, .map y]) Y := fun x y Y => by kernel_rfl
  have hwP : wholeP rs i = wholeR p.1 := by simp [wholeP, hp]
  have HCW : Hid (∀ (W : World), Tab B W b mb v rs ps → Calls Tryz.prog 56 #[.pointer (some ⟨b, 0, none⟩), .int .i64 i] W fun e w' => e = .returned (.bool false) ∧ w' = W) := fun W hT => by
    have := whole_c hT (by omega) i
    rw [hwP, hwh] at this
    exact this
  obtain ⟨⟨kd, el, ln, tg, mm, dn⟩, s0⟩ := p
  simp only [rwCells] at c2
  clear h hB0 hs hp hwP hwh
  go_enter Tryz.func28, Tryz.ntmps28
  go_wp2_with fail
  generalize w.alloc (.cells #[.int .i64 0, .int .i64 0] TX) = W0 at *
  refine c1.mono ?_
  rintro e w' ⟨rfl, hw⟩
  rw [hw]
  clear hw w' c1
  go_wp2_with fail
  refine c2.mono ?_
  rintro e w3 ⟨s', rfl, hown, hb3⟩
  obtain ⟨sp, sc, rfl⟩ := slice_of_own hown
  have hold := heap_r0 w3 (.cells #[.int .i64 0, .int .i64 0, .int .i64 0, .string ⟨#[]⟩, .slice none 0 0, .bool false] TR)
  have hB4 := below1 w3 (.cells #[.int .i64 kd, .int .i64 el, .int .i64 ln, .string tg, .slice sp mm.length sc, .bool dn] TR)
  have hB24 : Below W0.heap.size W0 (w3.alloc (.cells #[.int .i64 kd, .int .i64 el, .int .i64 ln, .string tg, .slice sp mm.length sc, .bool dn] TR)) := hb3.trans (hB4.mono hb3.size)
  have E4 : Hid (_ = _) := blk_b E0.out hB24
  have H4 : Hid (Tab B _ b mb v rs ps) := H0.out.keptB hB24
  have HB4 : Hid (Below w.heap.size w (w3.alloc (.cells #[.int .i64 kd, .int .i64 el, .int .i64 ln, .string tg, .slice sp mm.length sc, .bool dn] TR))) := HB0.out.trans (hB24.mono HB0.out.size)
  clear c2 hown hb3 hB4 hB24 E0 H0 HB0
  go_wp2_with (first | ((with_reducible apply step_store hold); rfl; rfl; kernel_rfl; rfl; kernel_rfl; rw [World.setRow_alloc_new]) | fail)
  generalize w3.alloc (.cells #[.int .i64 kd, .int .i64 el, .int .i64 ln, .string tg, .slice sp mm.length sc, .bool dn] TR) = W4 at *
  clear hold
  refine (HCW.out _ H4.out).mono ?_
  rintro e w' ⟨rfl, hw⟩
  rw [hw]
  clear hw w' HCW
  go_wp2_with ((with_reducible apply step_store E4.out); rfl; rfl; kernel_rfl; rfl; kernel_rfl)
  refine (?_ : bodyPost _ _ _ _ _ _)
  refine ret_x3 (s := 4) (p := 5) (q := 6) (cs := #[.int .i64 0, .int .i64 0]) rfl rfl (setRow_heap _ _ _ _ _ _ E4.out) rfl ?_
  exact ⟨rfl, below_setRow HB4.out (Nat.le_refl _) _⟩
set_option maxHeartbeats 8000000 in
theorem open_large (h : Tab B w b mb v rs ps) (hs : Small rs) (hf : FromOK rs) (hM : IsMeas (rowsOf rs) M) {i : Nat} {p : Rw × Value} (hp : rs[i]? = some p) (hwh : wholeR p.1 = true) (hgt : 16384 < (M i).size) :
    Calls Tryz.prog 28 #[.pointer (some ⟨b, 0, none⟩), .int .i64 i] w fun e w' => e = .returned (.tuple #[.pointer none, .agg #[.int .i64 0, .int .i64 0], .int .i64 51]) ∧ Below w.heap.size w w' := by
  have hlt : i < rs.length := (List.getElem?_eq_some_iff.1 hp).1
  have hl := h.len
  have n1 := not_t
  have n2 := not_f
  have hbz : ∀ Y : World, (Instr.build TX #[]).run Tryz.prog Y = .ok (.agg #[.int .i64 0, .int .i64 0]) Y := fun Y => by kernel_rfl
  have hB0 := below1 w (.cells #[.int .i64 0, .int .i64 0] TX)
  have E0 : Hid (_ = _) := heap_r0 w (.cells #[.int .i64 0, .int .i64 0] TX)
  have H0 : Hid (Tab B (w.alloc (.cells #[.int .i64 0, .int .i64 0] TX)) b mb v rs ps) := h.keptB hB0
  have HB0 : Hid (Below _ _ _) := hB0
  have c1 := len_c H0.out (by omega)
  have c2 := row_c H0.out hp hs
  have hne : ((rs.length : Int) == 0) = false := beq_eq_false_iff_ne.2 (by omega)
  have hmk := @run_makeMap Tryz.prog
  have hbr : ∀ (x : Option Addr) (y : Option Nat) (Y : World), (Instr.build TRu #[(0, .pointer x), (1, .map y)]).run Tryz.prog Y = .ok (.agg #[.pointer x, .map y]) Y := fun x y Y => by kernel_rfl
  have hwP : wholeP rs i = wholeR p.1 := by simp [wholeP, hp]
  have HCW : Hid (∀ (W : World), Tab B W b mb v rs ps → Calls Tryz.prog 56 #[.pointer (some ⟨b, 0, none⟩), .int .i64 i] W fun e w' => e = .returned (.bool true) ∧ w' = W) := fun W hT => by
    have := whole_c hT (by omega) i
    rw [hwP, hwh] at this
    exact this
  have HCM : Hid (∀ (Y : World) (rb m : Nat), RU w b rb m rs M Y → w.heap.size ≤ m → rb ≠ m → Calls Tryz.prog 57 #[.pointer (some ⟨rb, 0, none⟩), .int .i64 i] Y fun e w' => e = .returned (exV (M i)) ∧ RU w b rb m rs M w' ∧ Turned Y w' (fun k => k = m)) :=
    fun Y rb m hU h1 h2 => measure_all h hs hf hM h1 h2 i p hp hwh Y hU
  have hEx := meas_ok hf hM i p hp hwh
  have x1 := hEx.lo
  have x2 := hEx.hi
  generalize M i = ex at *
  have hdg : decide (16384 < ex.size) = true := by simpa using hgt
  have HH : Hid (16384 < ex.size) := hgt
  clear hgt
  obtain ⟨⟨kd, el, ln, tg, mm, dn⟩, s0⟩ := p
  simp only [rwCells] at c2
  clear h hB0 hs hp hwP hwh
  go_enter Tryz.func28, Tryz.ntmps28
  go_wp2_with fail
  generalize w.alloc (.cells #[.int .i64 0, .int .i64 0] TX) = W0 at *
  refine c1.mono ?_
  rintro e w' ⟨rfl, hw⟩
  rw [hw]
  clear hw w' c1
  go_wp2_with fail
  refine c2.mono ?_
  rintro e w3 ⟨s', rfl, hown, hb3⟩
  obtain ⟨sp, sc, rfl⟩ := slice_of_own hown
  have hold := heap_r0 w3 (.cells #[.int .i64 0, .int .i64 0, .int .i64 0, .string ⟨#[]⟩, .slice none 0 0, .bool false] TR)
  have hB4 := below1 w3 (.cells #[.int .i64 kd, .int .i64 el, .int .i64 ln, .string tg, .slice sp mm.length sc, .bool dn] TR)
  have hB24 : Below W0.heap.size W0 (w3.alloc (.cells #[.int .i64 kd, .int .i64 el, .int .i64 ln, .string tg, .slice sp mm.length sc, .bool dn] TR)) := hb3.trans (hB4.mono hb3.size)
  have E4 : Hid (_ = _) := blk_b E0.out hB24
  have H4 : Hid (Tab B _ b mb v rs ps) := H0.out.keptB hB24
  have HB4 : Hid (Below w.heap.size w (w3.alloc (.cells #[.int .i64 kd, .int .i64 el, .int .i64 ln, .string tg, .slice sp mm.length sc, .bool dn] TR))) := HB0.out.trans (hB24.mono HB0.out.size)
  clear c2 hown hb3 hB4 hB24 E0 H0 HB0
  go_wp2_with (first | ((with_reducible apply step_store hold); rfl; rfl; kernel_rfl; rfl; kernel_rfl; rw [World.setRow_alloc_new]) | fail)
  generalize w3.alloc (.cells #[.int .i64 kd, .int .i64 el, .int .i64 ln, .string tg, .slice sp mm.length sc, .bool dn] TR) = W4 at *
  clear hold
  refine (HCW.out _ H4.out).mono ?_
  rintro e w' ⟨rfl, hw⟩
  rw [hw]
  clear hw w' HCW
  go_wp2_with fail
  have hB46 : Below W4.heap.size W4 ((W4.alloc (.map #[] 0)).alloc (.cells #[.pointer (some ⟨b, 0, none⟩), .map (some W4.heap.size)] TRu)) := (below1 W4 _).alloc (below1 W4 _).size _
  have hlE := lt_of_heap E4.out
  have U6 : RU w b (W4.heap.size + 1) W4.heap.size rs M ((W4.alloc (.map #[] 0)).alloc (.cells #[.pointer (some ⟨b, 0, none⟩), .map (some W4.heap.size)] TRu)) :=
    ⟨HB4.out.trans (hB46.mono HB4.out.size), heap_s2 W4 (.map #[] 0) (.cells #[.pointer (some ⟨b, 0, none⟩), .map (some W4.heap.size)] TRu), #[], 0, heap_s1 W4 (.map #[] 0) (.cells #[.pointer (some ⟨b, 0, none⟩), .map (some W4.heap.size)] TRu), fun x hx => by cases hx⟩
  refine (HCM.out _ (W4.heap.size + 1) W4.heap.size U6 (by omega) (by omega)).mono ?_
  rintro e w7 ⟨rfl, U7, t7⟩
  have E6 := blk_b E4.out hB46
  have E7 := blk_t E6 t7 (by omega)
  have hB8 := below1 w7 (.cells #[.int .i64 ex.size, .int .i64 ex.align] TX)
  have E8 := blk_b E7 hB8
  have U8 : Hid (RU w b (W4.heap.size + 1) W4.heap.size rs M (w7.alloc (.cells #[.int .i64 ex.size, .int .i64 ex.align] TX))) := U7.kept hB8
  have N8 := heap_r0 w7 (.cells #[.int .i64 ex.size, .int .i64 ex.align] TX)
  have hold8 := heap_r0 w7 (.cells #[.int .i64 0, .int .i64 0] TX)
  have hE7 : w.heap.size < w7.heap.size := lt_of_heap E7
  obtain ⟨y0, y1⟩ := cells2 N8
  have hne2 : w7.heap.size ≠ w.heap.size := by omega
  clear HCM hB46 U6 t7 hB8 E6 E7 E4 H4 HB4 hmk hbr U7
  have HE8 : Hid (_ = _) := E8
  go_wp2_with (first | ((with_reducible apply step_store hold8); rfl; rfl; kernel_rfl; rfl; kernel_rfl; rw [World.setRow_alloc_new]) | ((with_reducible apply step_store E8); rfl; rfl; kernel_rfl; rfl; kernel_rfl))
  refine (?_ : bodyPost _ _ _ _ _ _)
  refine ret_x3 (s := 4) (p := 5) (q := 6) (cs := #[.int .i64 0, .int .i64 0]) rfl rfl (setRow_heap _ _ _ _ _ _ HE8.out) rfl ?_
  exact ⟨rfl, below_setRow U8.out.below (Nat.le_refl _) _⟩
set_option maxHeartbeats 8000000 in
theorem open_ok (h : Tab B w b mb v rs ps) (hs : Small rs) (hf : FromOK rs) (hM : IsMeas (rowsOf rs) M) {i : Nat} {p : Rw × Value} (hp : rs[i]? = some p) (hwh : wholeR p.1 = true) (hgt : (M i).size ≤ 16384) :
    Calls Tryz.prog 28 #[.pointer (some ⟨b, 0, none⟩), .int .i64 i] w fun e w' => ∃ rb m, e = .returned (.tuple #[.pointer (some ⟨rb, 0, none⟩), exV (M i), .int .i64 0]) ∧ RU w b rb m rs M w' ∧ w.heap.size ≤ m ∧ rb ≠ m := by
  have hlt : i < rs.length := (List.getElem?_eq_some_iff.1 hp).1
  have hl := h.len
  have n1 := not_t
  have n2 := not_f
  have hbz : ∀ Y : World, (Instr.build TX #[]).run Tryz.prog Y = .ok (.agg #[.int .i64 0, .int .i64 0]) Y := fun Y => by kernel_rfl
  have hB0 := below1 w (.cells #[.int .i64 0, .int .i64 0] TX)
  have E0 : Hid (_ = _) := heap_r0 w (.cells #[.int .i64 0, .int .i64 0] TX)
  have H0 : Hid (Tab B (w.alloc (.cells #[.int .i64 0, .int .i64 0] TX)) b mb v rs ps) := h.keptB hB0
  have HB0 : Hid (Below _ _ _) := hB0
  have c1 := len_c H0.out (by omega)
  have c2 := row_c H0.out hp hs
  have hne : ((rs.length : Int) == 0) = false := beq_eq_false_iff_ne.2 (by omega)
  have hmk := @run_makeMap Tryz.prog
  have hbr : ∀ (x : Option Addr) (y : Option Nat) (Y : World), (Instr.build TRu #[(0, .pointer x), (1, .map y)]).run Tryz.prog Y = .ok (.agg #[.pointer x, .map y]) Y := fun x y Y => by kernel_rfl
  have hwP : wholeP rs i = wholeR p.1 := by simp [wholeP, hp]
  have HCW : Hid (∀ (W : World), Tab B W b mb v rs ps → Calls Tryz.prog 56 #[.pointer (some ⟨b, 0, none⟩), .int .i64 i] W fun e w' => e = .returned (.bool true) ∧ w' = W) := fun W hT => by
    have := whole_c hT (by omega) i
    rw [hwP, hwh] at this
    exact this
  have HCM : Hid (∀ (Y : World) (rb m : Nat), RU w b rb m rs M Y → w.heap.size ≤ m → rb ≠ m → Calls Tryz.prog 57 #[.pointer (some ⟨rb, 0, none⟩), .int .i64 i] Y fun e w' => e = .returned (exV (M i)) ∧ RU w b rb m rs M w' ∧ Turned Y w' (fun k => k = m)) :=
    fun Y rb m hU h1 h2 => measure_all h hs hf hM h1 h2 i p hp hwh Y hU
  have hEx := meas_ok hf hM i p hp hwh
  have x1 := hEx.lo
  have x2 := hEx.hi
  generalize M i = ex at *
  have hdg : decide (16384 < ex.size) = false := by simp; omega
  obtain ⟨⟨kd, el, ln, tg, mm, dn⟩, s0⟩ := p
  simp only [rwCells] at c2
  clear h hB0 hs hp hwP hwh
  go_enter Tryz.func28, Tryz.ntmps28
  go_wp2_with fail
  generalize w.alloc (.cells #[.int .i64 0, .int .i64 0] TX) = W0 at *
  refine c1.mono ?_
  rintro e w' ⟨rfl, hw⟩
  rw [hw]
  clear hw w' c1
  go_wp2_with fail
  refine c2.mono ?_
  rintro e w3 ⟨s', rfl, hown, hb3⟩
  obtain ⟨sp, sc, rfl⟩ := slice_of_own hown
  have hold := heap_r0 w3 (.cells #[.int .i64 0, .int .i64 0, .int .i64 0, .string ⟨#[]⟩, .slice none 0 0, .bool false] TR)
  have hB4 := below1 w3 (.cells #[.int .i64 kd, .int .i64 el, .int .i64 ln, .string tg, .slice sp mm.length sc, .bool dn] TR)
  have hB24 : Below W0.heap.size W0 (w3.alloc (.cells #[.int .i64 kd, .int .i64 el, .int .i64 ln, .string tg, .slice sp mm.length sc, .bool dn] TR)) := hb3.trans (hB4.mono hb3.size)
  have E4 : Hid (_ = _) := blk_b E0.out hB24
  have H4 : Hid (Tab B _ b mb v rs ps) := H0.out.keptB hB24
  have HB4 : Hid (Below w.heap.size w (w3.alloc (.cells #[.int .i64 kd, .int .i64 el, .int .i64 ln, .string tg, .slice sp mm.length sc, .bool dn] TR))) := HB0.out.trans (hB24.mono HB0.out.size)
  clear c2 hown hb3 hB4 hB24 E0 H0 HB0
  go_wp2_with (first | ((with_reducible apply step_store hold); rfl; rfl; kernel_rfl; rfl; kernel_rfl; rw [World.setRow_alloc_new]) | fail)
  generalize w3.alloc (.cells #[.int .i64 kd, .int .i64 el, .int .i64 ln, .string tg, .slice sp mm.length sc, .bool dn] TR) = W4 at *
  clear hold
  refine (HCW.out _ H4.out).mono ?_
  rintro e w' ⟨rfl, hw⟩
  rw [hw]
  clear hw w' HCW
  go_wp2_with fail
  have hB46 : Below W4.heap.size W4 ((W4.alloc (.map #[] 0)).alloc (.cells #[.pointer (some ⟨b, 0, none⟩), .map (some W4.heap.size)] TRu)) := (below1 W4 _).alloc (below1 W4 _).size _
  have hlE := lt_of_heap E4.out
  have U6 : RU w b (W4.heap.size + 1) W4.heap.size rs M ((W4.alloc (.map #[] 0)).alloc (.cells #[.pointer (some ⟨b, 0, none⟩), .map (some W4.heap.size)] TRu)) :=
    ⟨HB4.out.trans (hB46.mono HB4.out.size), heap_s2 W4 (.map #[] 0) (.cells #[.pointer (some ⟨b, 0, none⟩), .map (some W4.heap.size)] TRu), #[], 0, heap_s1 W4 (.map #[] 0) (.cells #[.pointer (some ⟨b, 0, none⟩), .map (some W4.heap.size)] TRu), fun x hx => by cases hx⟩
  refine (HCM.out _ (W4.heap.size + 1) W4.heap.size U6 (by omega) (by omega)).mono ?_
  rintro e w7 ⟨rfl, U7, t7⟩
  have E6 := blk_b E4.out hB46
  have E7 := blk_t E6 t7 (by omega)
  have hB8 := below1 w7 (.cells #[.int .i64 ex.size, .int .i64 ex.align] TX)
  have E8 := blk_b E7 hB8
  have U8 : Hid (RU w b (W4.heap.size + 1) W4.heap.size rs M (w7.alloc (.cells #[.int .i64 ex.size, .int .i64 ex.align] TX))) := U7.kept hB8
  have N8 := heap_r0 w7 (.cells #[.int .i64 ex.size, .int .i64 ex.align] TX)
  have hold8 := heap_r0 w7 (.cells #[.int .i64 0, .int .i64 0] TX)
  have hE7 : w.heap.size < w7.heap.size := lt_of_heap E7
  obtain ⟨y0, y1⟩ := cells2 N8
  have hne2 : w7.heap.size ≠ w.heap.size := by omega
  clear HCM hB46 U6 t7 hB8 E6 E7 E4 H4 HB4 hmk hbr U7
  have HE8 : Hid (_ = _) := E8
  go_wp2_with (first | ((with_reducible apply step_store hold8); rfl; rfl; kernel_rfl; rfl; kernel_rfl; rw [World.setRow_alloc_new]) | fail)
  generalize w7.alloc (.cells #[.int .i64 ex.size, .int .i64 ex.align] TX) = W8 at *
  obtain ⟨x0, x1'⟩ := cells2 E8
  have z0 : W8.frozen? ⟨w.heap.size, 0, none⟩ = false := frozen_of E8 0
  have z1 : W8.frozen? ⟨w.heap.size, 1, none⟩ = false := frozen_of E8 1
  clear E8 N8 hold8
  go_region
  all_goals
    have K1 := heap_setCell (j := 0) HE8.out (.int .i64 ex.size)
    have K2 : Hid (_ = _) := heap_setCell (j := 1) K1 (.int .i64 ex.align)
    have U9 : Hid (RU w b (W4.heap.size + 1) W4.heap.size rs M ((W8.setCell ⟨w.heap.size, 0, none⟩ (.int .i64 ex.size)).setCell ⟨w.heap.size, 1, none⟩ (.int .i64 ex.align)).drew) := by
      have t1 : Turned W8 (W8.setCell ⟨w.heap.size, 0, none⟩ (.int .i64 ex.size)) (fun k => k = w.heap.size) := Turned.setCell _ _ _ _ rfl
      have t2 := t1.trans (Turned.setCell (S := fun k => k = w.heap.size) (W8.setCell ⟨w.heap.size, 0, none⟩ (.int .i64 ex.size)) w.heap.size 1 (.int .i64 ex.align) rfl) (fun _ _ e => e)
      have t3 := t2.trans (Turned.of_below (Below.refl _ _).drew (fun _ => False)) (fun _ _ h => h.elim)
      exact U8.out.turned t3 (fun k e => by omega) (by omega) (by omega)
    clear K1 x0 x1' y0 y1 z0 z1
    go_wp2_with fail
    refine (?_ : bodyPost _ _ _ _ _ _)
    refine ret_x3 (s := 4) (p := 5) (q := 6) (cs := #[.int .i64 ex.size, .int .i64 ex.align]) rfl rfl K2.out rfl ?_
    exact ⟨_, _, rfl, U9.out, by omega, by omega⟩
end
end Go.Proofs.YtlcghlfmaohfeaaGreat
