/-
  openRecord: a ruler of a table and the row of a struct or a union, or why there is none.
-/
import Derived.Test.YtlcghlfmaohfeaaGreatHLyZ
namespace Go.Proofs.YtlcghlfmaohfeaaGreat
open Go.RowKit Go.Maps
set_option linter.unusedVariables false
set_option maxRecDepth 100000
theorem ret_r3 {fn : Func} {R : Ending → World → Prop} {tmps : Array Value} {w : World} {g p q s : Nat} {cs : Array Value}
    (hres : fn.results = #[.tmp s, .cell p TR, .tmp q]) (hp : tmps.getD p undef = .pointer (some ⟨g, 0, none⟩)) (hg : w.heap[g]? = some (.cells cs TR (0, 0))) (hcs : cs.size = 6)
    (hR : R (.returned (.tuple #[tmps.getD s undef, .agg cs, tmps.getD q undef])) w) : bodyPost Tryz.prog fn R .ret ⟨tmps, []⟩ w := by
  refine bodyPost_ret ?_ rfl hR
  have hl := run_loadVar_row (P := Tryz.prog) w g TR TR cs (0, 0) _ hg Tryz.underlying87 rfl (by rw [hcs]; kernel_rfl)
  rw [results_mid hres]
  simp only [hp]
  simp [asAddr, Result.andThen, hl]
theorem six_set {Y : World} {g : Nat} {d : Array Value} {T : TypeId} {x0 x1 x2 x3 x4 x5 : Value} (hd : d.size = 6) (h : Y.heap[g]? = some (.cells d T (0, 0))) :
    ((((((Y.setCell ⟨g, 0, none⟩ x0).setCell ⟨g, 1, none⟩ x1).setCell ⟨g, 2, none⟩ x2).setCell ⟨g, 3, none⟩ x3).setCell ⟨g, 4, none⟩ x4).setCell ⟨g, 5, none⟩ x5).heap[g]? = some (.cells #[x0, x1, x2, x3, x4, x5] T (0, 0)) := by
  have e := heap_setCell (j := 5) (heap_setCell (j := 4) (heap_setCell (j := 3) (heap_setCell (j := 2) (heap_setCell (j := 1) (heap_setCell (j := 0) h x0) x1) x2) x3) x4) x5
  rw [e]
  obtain ⟨l⟩ := d
  rcases l with _ | ⟨a, _ | ⟨b, _ | ⟨c, _ | ⟨f, _ | ⟨k, _ | ⟨y, _ | ⟨z, r⟩⟩⟩⟩⟩⟩⟩ <;> simp at hd ⊢
theorem turned6 (Y : World) (g : Nat) (x0 x1 x2 x3 x4 x5 : Value) : Turned Y ((((((Y.setCell ⟨g, 0, none⟩ x0).setCell ⟨g, 1, none⟩ x1).setCell ⟨g, 2, none⟩ x2).setCell ⟨g, 3, none⟩ x3).setCell ⟨g, 4, none⟩ x4).setCell ⟨g, 5, none⟩ x5) (fun k => k = g) :=
  (((((Turned.setCell (S := fun k => k = g) Y g 0 x0 rfl).trans (Turned.setCell (S := fun k => k = g) _ _ _ _ rfl) (fun _ _ e => e)).trans (Turned.setCell (S := fun k => k = g) _ _ _ _ rfl) (fun _ _ e => e)).trans (Turned.setCell (S := fun k => k = g) _ _ _ _ rfl) (fun _ _ e => e)).trans (Turned.setCell (S := fun k => k = g) _ _ _ _ rfl) (fun _ _ e => e)).trans (Turned.setCell (S := fun k => k = g) _ _ _ _ rfl) (fun _ _ e => e)
theorem RU.base {w w1 W : World} {b rb m : Nat} {rs : List (Rw × Value)} {M : Int → Ex} (h : RU w1 b rb m rs M W) (hb : Below w.heap.size w w1) (hl : w.heap.size ≤ w1.heap.size) : RU w b rb m rs M W := ⟨hb.trans (h.below.mono hl), h.ru, h.kn⟩
section
variable {B : Nat} {w : World} {b mb : Nat} {v : Value} {rs : List (Rw × Value)} {ps : List (Value × Value)} {M : Int → Ex}
set_option maxHeartbeats 8000000 in
theorem openR_err (h : Tab B w b mb v rs ps) (h0 : 0 < rs.length) (hs : Small rs) (hf : FromOK rs) (hM : IsMeas (rowsOf rs) M) (id : Int) (he : ¬ openE rs M id = 0) :
    Calls Tryz.prog 30 #[.pointer (some ⟨b, 0, none⟩), .int .i64 id] w fun e w' => e = .returned (.tuple #[.pointer none, .agg #[.int .i64 0, .int .i64 0, .int .i64 0, .string ⟨#[]⟩, .slice none 0 0, .bool false], .int .i64 (openE rs M id)]) ∧ Below w.heap.size w w' := by
  have hB0 := below1 w (.cells #[.int .i64 0, .int .i64 0, .int .i64 0, .string ⟨#[]⟩, .slice none 0 0, .bool false] TR)
  have E0 := heap_r0 w (.cells #[.int .i64 0, .int .i64 0, .int .i64 0, .string ⟨#[]⟩, .slice none 0 0, .bool false] TR)
  have c := open_any (h.keptB hB0) h0 hs hf hM id
  have hbz : ∀ Y : World, (Instr.build TR #[]).run Tryz.prog Y = .ok (.agg #[.int .i64 0, .int .i64 0, .int .i64 0, .string ⟨#[]⟩, .slice none 0 0, .bool false]) Y := fun Y => by kernel_rfl
  have hn : (openE rs M id != 0) = true := by simpa using he
  generalize openX rs M id = ex at *
  generalize openE rs M id = er at *
  clear h hs hf hM he
  go_enter Tryz.func30, Tryz.ntmps30
  go_wp2_with fail
  refine c.mono ?_
  rintro e w2 ⟨q, rfl, hb2⟩
  have hold2 := heap_r0 w2 (.cells #[.int .i64 0, .int .i64 0] TX)
  have hb3 := below1 w2 (.cells #[.int .i64 ex.size, .int .i64 ex.align] TX)
  have E3 := blk_b (blk_b E0 hb2) hb3
  have HB : Hid (Below w.heap.size w (w2.alloc (.cells #[.int .i64 ex.size, .int .i64 ex.align] TX))) := (hB0.trans (hb2.mono hB0.size)).trans (hb3.mono (Nat.le_trans hB0.size hb2.size))
  have HE3 : Hid (_ = _) := E3
  clear c hb2 hb3 hB0 E0
  go_wp2_with (first | ((with_reducible apply step_store hold2); rfl; rfl; kernel_rfl; rfl; kernel_rfl; rw [World.setRow_alloc_new]) | ((with_reducible apply step_store E3); rfl; rfl; kernel_rfl; rfl; kernel_rfl))
  refine (?_ : bodyPost _ _ _ _ _ _)
  refine ret_r3 (s := 4) (p := 5) (q := 6) (cs := #[.int .i64 0, .int .i64 0, .int .i64 0, .string ⟨#[]⟩, .slice none 0 0, .bool false]) rfl rfl (setRow_heap _ _ _ _ _ _ HE3.out) rfl ?_
  exact ⟨rfl, below_setRow HB.out (Nat.le_refl _) _⟩
set_option maxHeartbeats 8000000 in
theorem openR_not (h : Tab B w b mb v rs ps) (hs : Small rs) (hf : FromOK rs) (hM : IsMeas (rowsOf rs) M) {i : Nat} {p : Rw × Value} (hp : rs[i]? = some p) (hwh : wholeR p.1 = true) (hgt : (M i).size ≤ 16384) (hk : recK p.1.kind = false) :
    Calls Tryz.prog 30 #[.pointer (some ⟨b, 0, none⟩), .int .i64 i] w fun e w' => e = .returned (.tuple #[.pointer none, .agg #[.int .i64 0, .int .i64 0, .int .i64 0, .string ⟨#[]⟩, .slice none 0 0, .bool false], .int .i64 30]) ∧ Below w.heap.size w w' := by
  have hlt : i < rs.length := (List.getElem?_eq_some_iff.1 hp).1
  have n1 := not_t
  have n2 := not_f
  have hbz : ∀ Y : World, (Instr.build TR #[]).run Tryz.prog Y = .ok (.agg #[.int .i64 0, .int .i64 0, .int .i64 0, .string ⟨#[]⟩, .slice none 0 0, .bool false]) Y := fun Y => by kernel_rfl
  have hB0 := below1 w (.cells #[.int .i64 0, .int .i64 0, .int .i64 0, .string ⟨#[]⟩, .slice none 0 0, .bool false] TR)
  have E0 := heap_r0 w (.cells #[.int .i64 0, .int .i64 0, .int .i64 0, .string ⟨#[]⟩, .slice none 0 0, .bool false] TR)
  have c := open_ok (h.keptB hB0) hs hf hM hp hwh hgt
  have HRC : Hid (∀ W, Below w.heap.size w W → Calls Tryz.prog 55 #[.pointer (some ⟨b, 0, none⟩), .int .i64 i] W fun e w' => ∃ s', e = .returned (.tuple #[.agg (rwCells p.1 s').toArray, .bool true]) ∧ w'.ownsRow W.heap.size TM 3 s' p.1.mem.length (memCells p.1.mem) ∧ Below W.heap.size W w') := fun W hW => row_c (h.keptB hW) hp hs
  have HIS : Hid (∀ (sp : Option Addr) (sc : Nat) (W : World), Calls Tryz.prog 61 #[.agg #[.int .i64 p.1.kind, .int .i64 p.1.elem, .int .i64 p.1.len, .string p.1.tag, .slice sp p.1.mem.length sc, .bool p.1.done]] W fun e w' => e = .returned (.bool false) ∧ Below W.heap.size W w') := fun sp sc W => by
    have q := isRec_c p.1 sp p.1.mem.length sc W
    rw [hk] at q
    exact q
  generalize M i = ex at *
  obtain ⟨⟨kd, el, ln, tg, mm, dn⟩, s0⟩ := p
  simp only [rwCells] at HRC HIS ⊢
  clear h hs hf hM hp hwh hgt hk
  go_enter Tryz.func30, Tryz.ntmps30
  go_wp2_with fail
  refine c.mono ?_
  rintro e w2 ⟨rb, m, rfl, U2, hm0, hrm⟩
  have hz0 : (w.alloc (.cells #[.int .i64 0, .int .i64 0, .int .i64 0, .string ⟨#[]⟩, .slice none 0 0, .bool false] TR)).heap.size = w.heap.size + 1 := by simp
  have hold2 := heap_r0 w2 (.cells #[.int .i64 0, .int .i64 0] TX)
  have hb3 := below1 w2 (.cells #[.int .i64 ex.size, .int .i64 ex.align] TX)
  have E2 := blk_b E0 U2.below
  have E3 : Hid (_ = _) := blk_b E2 hb3
  have U3 : Hid (RU (w.alloc (.cells #[.int .i64 0, .int .i64 0, .int .i64 0, .string ⟨#[]⟩, .slice none 0 0, .bool false] TR)) b rb m rs M (w2.alloc (.cells #[.int .i64 ex.size, .int .i64 ex.align] TX))) := U2.kept hb3
  have HB3 : Hid (Below w.heap.size w (w2.alloc (.cells #[.int .i64 ex.size, .int .i64 ex.align] TX))) := hB0.trans (U3.out.below.mono hB0.size)
  clear c hb3 U2 E2
  go_wp2_with (first | ((with_reducible apply step_store hold2); rfl; rfl; kernel_rfl; rfl; kernel_rfl; rw [World.setRow_alloc_new]) | fail)
  generalize w2.alloc (.cells #[.int .i64 ex.size, .int .i64 ex.align] TX) = W3 at *
  refine (HRC.out _ HB3.out).mono ?_
  rintro e w4 ⟨s', rfl, hown, hb4⟩
  obtain ⟨sp, sc, rfl⟩ := slice_of_own hown
  have hold4 := heap_r0 w4 (.cells #[.int .i64 0, .int .i64 0, .int .i64 0, .string ⟨#[]⟩, .slice none 0 0, .bool false] TR)
  have hB5 := below1 w4 (.cells #[.int .i64 kd, .int .i64 el, .int .i64 ln, .string tg, .slice sp mm.length sc, .bool dn] TR)
  have hB35 : Below W3.heap.size W3 (w4.alloc (.cells #[.int .i64 kd, .int .i64 el, .int .i64 ln, .string tg, .slice sp mm.length sc, .bool dn] TR)) := hb4.trans (hB5.mono hb4.size)
  have E5 : Hid (_ = _) := blk_b E3.out hB35
  have U5 : Hid (RU (w.alloc (.cells #[.int .i64 0, .int .i64 0, .int .i64 0, .string ⟨#[]⟩, .slice none 0 0, .bool false] TR)) b rb m rs M (w4.alloc (.cells #[.int .i64 kd, .int .i64 el, .int .i64 ln, .string tg, .slice sp mm.length sc, .bool dn] TR))) := U3.out.kept hB35
  have OW5 : Hid ((w4.alloc (.cells #[.int .i64 kd, .int .i64 el, .int .i64 ln, .string tg, .slice sp mm.length sc, .bool dn] TR)).ownsRow W3.heap.size TM 3 (.slice sp mm.length sc) mm.length (memCells mm)) := ownsRow_turned hown (Turned.of_below hB5 (fun _ => False)) (fun _ _ h => h.elim)
  have hE3 : w.heap.size < W3.heap.size := lt_of_heap E3.out
  have N5 := heap_r0 w4 (.cells #[.int .i64 kd, .int .i64 el, .int .i64 ln, .string tg, .slice sp mm.length sc, .bool dn] TR)
  have k0 := Lib.cell_of_heap N5 0
  have k1 := Lib.cell_of_heap N5 1
  have k2 := Lib.cell_of_heap N5 2
  have k3 := Lib.cell_of_heap N5 3
  have k4 := Lib.cell_of_heap N5 4
  have k5 := Lib.cell_of_heap N5 5
  simp only [List.getElem?_toArray, List.getElem?_cons_succ, List.getElem?_cons_zero] at k0 k1 k2 k3 k4 k5
  have HN5 : Hid (_ = _) := N5
  clear hown hb4 hB5 hB35 E3 U3 HB3 HRC N5
  go_wp2_with (first | ((with_reducible apply step_store hold4); rfl; rfl; kernel_rfl; rfl; kernel_rfl; rw [World.setRow_alloc_new]) | fail)
  generalize w4.alloc (.cells #[.int .i64 kd, .int .i64 el, .int .i64 ln, .string tg, .slice sp mm.length sc, .bool dn] TR) = W5 at *
  refine (HIS.out _ _ _).mono ?_
  rintro e W6 ⟨rfl, hb6⟩
  have E6 : Hid (_ = _) := blk_b E5.out hb6
  have U6 : Hid (RU (w.alloc (.cells #[.int .i64 0, .int .i64 0, .int .i64 0, .string ⟨#[]⟩, .slice none 0 0, .bool false] TR)) b rb m rs M W6) := U5.out.kept hb6
  have OW6 : Hid (W6.ownsRow W3.heap.size TM 3 (.slice sp mm.length sc) mm.length (memCells mm)) := ownsRow_turned OW5.out (Turned.of_below hb6 (fun _ => False)) (fun _ _ h => h.elim)
  have N6 := blk_b HN5.out hb6
  clear hb6 E5 U5 OW5 k0 k1 k2 k3 k4 k5 HN5 HIS hold4
  have HB6 : Hid (Below w.heap.size w W6) := hB0.trans (U6.out.below.mono hB0.size)
  go_wp2_with ((with_reducible apply step_store E6.out); rfl; rfl; kernel_rfl; rfl; kernel_rfl)
  refine (?_ : bodyPost _ _ _ _ _ _)
  refine ret_r3 (s := 4) (p := 5) (q := 6) (cs := #[.int .i64 0, .int .i64 0, .int .i64 0, .string ⟨#[]⟩, .slice none 0 0, .bool false]) rfl rfl (setRow_heap _ _ _ _ _ _ E6.out) rfl ?_
  exact ⟨rfl, below_setRow HB6.out (Nat.le_refl _) _⟩
set_option maxHeartbeats 8000000 in
theorem openR_ok (h : Tab B w b mb v rs ps) (hs : Small rs) (hf : FromOK rs) (hM : IsMeas (rowsOf rs) M) {i : Nat} {p : Rw × Value} (hp : rs[i]? = some p) (hwh : wholeR p.1 = true) (hgt : (M i).size ≤ 16384) (hk : recK p.1.kind = true) :
    Calls Tryz.prog 30 #[.pointer (some ⟨b, 0, none⟩), .int .i64 i] w fun e w' => ∃ rb m sp sc, e = .returned (.tuple #[.pointer (some ⟨rb, 0, none⟩), .agg #[.int .i64 p.1.kind, .int .i64 p.1.elem, .int .i64 p.1.len, .string p.1.tag, .slice sp p.1.mem.length sc, .bool p.1.done], .int .i64 0]) ∧ RU w b rb m rs M w' ∧ w.heap.size ≤ m ∧ rb ≠ m ∧ w'.ownsRow w.heap.size TM 3 (.slice sp p.1.mem.length sc) p.1.mem.length (memCells p.1.mem) := by
  have hlt : i < rs.length := (List.getElem?_eq_some_iff.1 hp).1
  have n1 := not_t
  have n2 := not_f
  have hbz : ∀ Y : World, (Instr.build TR #[]).run Tryz.prog Y = .ok (.agg #[.int .i64 0, .int .i64 0, .int .i64 0, .string ⟨#[]⟩, .slice none 0 0, .bool false]) Y := fun Y => by kernel_rfl
  have hB0 := below1 w (.cells #[.int .i64 0, .int .i64 0, .int .i64 0, .string ⟨#[]⟩, .slice none 0 0, .bool false] TR)
  have E0 := heap_r0 w (.cells #[.int .i64 0, .int .i64 0, .int .i64 0, .string ⟨#[]⟩, .slice none 0 0, .bool false] TR)
  have c := open_ok (h.keptB hB0) hs hf hM hp hwh hgt
  have HRC : Hid (∀ W, Below w.heap.size w W → Calls Tryz.prog 55 #[.pointer (some ⟨b, 0, none⟩), .int .i64 i] W fun e w' => ∃ s', e = .returned (.tuple #[.agg (rwCells p.1 s').toArray, .bool true]) ∧ w'.ownsRow W.heap.size TM 3 s' p.1.mem.length (memCells p.1.mem) ∧ Below W.heap.size W w') := fun W hW => row_c (h.keptB hW) hp hs
  have HIS : Hid (∀ (sp : Option Addr) (sc : Nat) (W : World), Calls Tryz.prog 61 #[.agg #[.int .i64 p.1.kind, .int .i64 p.1.elem, .int .i64 p.1.len, .string p.1.tag, .slice sp p.1.mem.length sc, .bool p.1.done]] W fun e w' => e = .returned (.bool true) ∧ Below W.heap.size W w') := fun sp sc W => by
    have q := isRec_c p.1 sp p.1.mem.length sc W
    rw [hk] at q
    exact q
  generalize M i = ex at *
  obtain ⟨⟨kd, el, ln, tg, mm, dn⟩, s0⟩ := p
  simp only [rwCells] at HRC HIS ⊢
  clear h hs hf hM hp hwh hgt hk
  go_enter Tryz.func30, Tryz.ntmps30
  go_wp2_with fail
  refine c.mono ?_
  rintro e w2 ⟨rb, m, rfl, U2, hm0, hrm⟩
  have hz0 : (w.alloc (.cells #[.int .i64 0, .int .i64 0, .int .i64 0, .string ⟨#[]⟩, .slice none 0 0, .bool false] TR)).heap.size = w.heap.size + 1 := by simp
  have hold2 := heap_r0 w2 (.cells #[.int .i64 0, .int .i64 0] TX)
  have hb3 := below1 w2 (.cells #[.int .i64 ex.size, .int .i64 ex.align] TX)
  have E2 := blk_b E0 U2.below
  have E3 : Hid (_ = _) := blk_b E2 hb3
  have U3 : Hid (RU (w.alloc (.cells #[.int .i64 0, .int .i64 0, .int .i64 0, .string ⟨#[]⟩, .slice none 0 0, .bool false] TR)) b rb m rs M (w2.alloc (.cells #[.int .i64 ex.size, .int .i64 ex.align] TX))) := U2.kept hb3
  have HB3 : Hid (Below w.heap.size w (w2.alloc (.cells #[.int .i64 ex.size, .int .i64 ex.align] TX))) := hB0.trans (U3.out.below.mono hB0.size)
  clear c hb3 U2 E2
  go_wp2_with (first | ((with_reducible apply step_store hold2); rfl; rfl; kernel_rfl; rfl; kernel_rfl; rw [World.setRow_alloc_new]) | fail)
  generalize w2.alloc (.cells #[.int .i64 ex.size, .int .i64 ex.align] TX) = W3 at *
  refine (HRC.out _ HB3.out).mono ?_
  rintro e w4 ⟨s', rfl, hown, hb4⟩
  obtain ⟨sp, sc, rfl⟩ := slice_of_own hown
  have hold4 := heap_r0 w4 (.cells #[.int .i64 0, .int .i64 0, .int .i64 0, .string ⟨#[]⟩, .slice none 0 0, .bool false] TR)
  have hB5 := below1 w4 (.cells #[.int .i64 kd, .int .i64 el, .int .i64 ln, .string tg, .slice sp mm.length sc, .bool dn] TR)
  have hB35 : Below W3.heap.size W3 (w4.alloc (.cells #[.int .i64 kd, .int .i64 el, .int .i64 ln, .string tg, .slice sp mm.length sc, .bool dn] TR)) := hb4.trans (hB5.mono hb4.size)
  have E5 : Hid (_ = _) := blk_b E3.out hB35
  have U5 : Hid (RU (w.alloc (.cells #[.int .i64 0, .int .i64 0, .int .i64 0, .string ⟨#[]⟩, .slice none 0 0, .bool false] TR)) b rb m rs M (w4.alloc (.cells #[.int .i64 kd, .int .i64 el, .int .i64 ln, .string tg, .slice sp mm.length sc, .bool dn] TR))) := U3.out.kept hB35
  have OW5 : Hid ((w4.alloc (.cells #[.int .i64 kd, .int .i64 el, .int .i64 ln, .string tg, .slice sp mm.length sc, .bool dn] TR)).ownsRow W3.heap.size TM 3 (.slice sp mm.length sc) mm.length (memCells mm)) := ownsRow_turned hown (Turned.of_below hB5 (fun _ => False)) (fun _ _ h => h.elim)
  have hE3 : w.heap.size < W3.heap.size := lt_of_heap E3.out
  have N5 := heap_r0 w4 (.cells #[.int .i64 kd, .int .i64 el, .int .i64 ln, .string tg, .slice sp mm.length sc, .bool dn] TR)
  have k0 := Lib.cell_of_heap N5 0
  have k1 := Lib.cell_of_heap N5 1
  have k2 := Lib.cell_of_heap N5 2
  have k3 := Lib.cell_of_heap N5 3
  have k4 := Lib.cell_of_heap N5 4
  have k5 := Lib.cell_of_heap N5 5
  simp only [List.getElem?_toArray, List.getElem?_cons_succ, List.getElem?_cons_zero] at k0 k1 k2 k3 k4 k5
  have HN5 : Hid (_ = _) := N5
  clear hown hb4 hB5 hB35 E3 U3 HB3 HRC N5
  go_wp2_with (first | ((with_reducible apply step_store hold4); rfl; rfl; kernel_rfl; rfl; kernel_rfl; rw [World.setRow_alloc_new]) | fail)
  generalize w4.alloc (.cells #[.int .i64 kd, .int .i64 el, .int .i64 ln, .string tg, .slice sp mm.length sc, .bool dn] TR) = W5 at *
  refine (HIS.out _ _ _).mono ?_
  rintro e W6 ⟨rfl, hb6⟩
  have E6 : Hid (_ = _) := blk_b E5.out hb6
  have U6 : Hid (RU (w.alloc (.cells #[.int .i64 0, .int .i64 0, .int .i64 0, .string ⟨#[]⟩, .slice none 0 0, .bool false] TR)) b rb m rs M W6) := U5.out.kept hb6
  have OW6 : Hid (W6.ownsRow W3.heap.size TM 3 (.slice sp mm.length sc) mm.length (memCells mm)) := ownsRow_turned OW5.out (Turned.of_below hb6 (fun _ => False)) (fun _ _ h => h.elim)
  have N6 := blk_b HN5.out hb6
  clear hb6 E5 U5 OW5 k0 k1 k2 k3 k4 k5 HN5 HIS hold4
  have k0 := Lib.cell_of_heap N6 0
  have k1 := Lib.cell_of_heap N6 1
  have k2 := Lib.cell_of_heap N6 2
  have k3 := Lib.cell_of_heap N6 3
  have k4 := Lib.cell_of_heap N6 4
  have k5 := Lib.cell_of_heap N6 5
  have z0 := Lib.cell_of_heap E6.out 0
  have z1 := Lib.cell_of_heap E6.out 1
  have z2 := Lib.cell_of_heap E6.out 2
  have z3 := Lib.cell_of_heap E6.out 3
  have z4 := Lib.cell_of_heap E6.out 4
  have z5 := Lib.cell_of_heap E6.out 5
  simp only [List.getElem?_toArray, List.getElem?_cons_succ, List.getElem?_cons_zero] at k0 k1 k2 k3 k4 k5 z0 z1 z2 z3 z4 z5
  have f0 := frozen_of E6.out 0
  have f1 := frozen_of E6.out 1
  have f2 := frozen_of E6.out 2
  have f3 := frozen_of E6.out 3
  have f4 := frozen_of E6.out 4
  have f5 := frozen_of E6.out 5
  have UW : Hid (RU w b rb m rs M W6) := U6.out.base hB0 hB0.size
  have hrb : rb ≠ w.heap.size := by
    intro e
    have q := U6.out.ru
    rw [e, E6.out] at q
    injection q with q1
    injection q1 with _ q2
    exact absurd q2 (by decide)
  clear N6 U6
  go_wp2
  go_region
  all_goals
    have K2 : Hid (_ = _) := six_set (x0 := .int .i64 kd) (x1 := .int .i64 el) (x2 := .int .i64 ln) (x3 := .string tg) (x4 := .slice sp mm.length sc) (x5 := .bool dn) rfl E6.out
    have T9 := turned6 W6 w.heap.size (.int .i64 kd) (.int .i64 el) (.int .i64 ln) (.string tg) (.slice sp mm.length sc) (.bool dn)
    have T9' := T9.trans (Turned.of_below (Below.refl _ _).drew (fun _ => False)) (fun _ _ h => h.elim)
    have U9 : Hid (RU w b rb m rs M _) := UW.out.turned T9' (fun k e => by omega) (by omega) (by omega)
    have O9 : Hid (World.ownsRow _ w.heap.size TM 3 (.slice sp mm.length sc) mm.length (memCells mm)) := ownsRow_base (ownsRow_turned OW6.out T9' (fun k hk e => by have := (ownsRow_at OW6.out hk).1; omega)) (by omega)
    clear T9 T9' k0 k1 k2 k3 k4 k5 z0 z1 z2 z3 z4 z5 f0 f1 f2 f3 f4 f5
    go_wp2_with fail
    refine (?_ : bodyPost _ _ _ _ _ _)
    refine ret_r3 (s := 4) (p := 5) (q := 6) (cs := #[.int .i64 kd, .int .i64 el, .int .i64 ln, .string tg, .slice sp mm.length sc, .bool dn]) rfl rfl K2.out rfl ?_
    exact ⟨_, _, _, _, rfl, U9.out, by omega, hrm, O9.out⟩
end
end Go.Proofs.YtlcghlfmaohfeaaGreat
