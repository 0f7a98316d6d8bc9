/-
  layout.Size of a number or a pointer.
-/
import Derived.Test.YtpnpilbmhkiphaaDoorCvB
namespace Go.Proofs.YtpnpilbmhkiphaaDoor
open Go.RowKit Go.Maps
set_option linter.unusedVariables false
set_option maxRecDepth 100000

abbrev TX : TypeId := 113
abbrev TRu : TypeId := 118
abbrev TMX : TypeId := 116
theorem keyLawI : Keyed Tryd.prog 3 := int_keyed Tryd.underlying3
theorem keyOfI_gen {P : Program} {k : TypeId} (hu : P.underlying k = some (.int .i64)) {x : Int} (hx : wf64 x) : ∃ l, keyOf P k (.int .i64 x) = some l := by
  unfold wf64 at hx
  simp [keyOf, hu, mapKey, hx]
theorem ret_x1 {fn : Func} {R : Ending → World → Prop} {tmps : Array Value} {w : World} {g p : Nat} {cs : Array Value}
    (hres : fn.results = #[.cell p TX]) (hp : tmps.getD p undef = .pointer (some ⟨g, 0, none⟩)) (hg : w.heap[g]? = some (.cells cs TX (0, 0))) (hcs : cs.size = 2)
    (hR : R (.returned (.agg cs)) w) : bodyPost Tryd.prog fn R .ret ⟨tmps, []⟩ w := by
  refine bodyPost_ret ?_ rfl hR
  have hl := run_loadVar_row (P := Tryd.prog) w g TX TX cs (0, 0) _ hg Tryd.underlying113 rfl (by rw [hcs]; kernel_rfl)
  rw [results_cell1 hres]
  simp only [hp]
  simp [asAddr, Result.andThen, hl]
section
variable {w : World}
theorem isRec_no (kd el ln : Int) (tg : ByteArray) (p : Option Addr) (a u : Nat) (dn : Bool) (h5 : (kd == 15) = false) (h6 : (kd == 16) = false) (w : World) :
    Calls Tryd.prog 93 #[.agg #[.int .i64 kd, .int .i64 el, .int .i64 ln, .string tg, .slice p a u, .bool dn]] w fun e w' => e = .returned (.bool false) ∧ Below w.heap.size w w' := by
  have HB : Hid (Below w.heap.size w (w.alloc (.cells #[.int .i64 kd, .int .i64 el, .int .i64 ln, .string tg, .slice p a u, .bool dn] TR))) := below1 w _
  go_enter Tryd.func93, Tryd.ntmps93
  go_wp2
  go_ret
  exact ⟨rfl, HB.out⟩
set_option maxHeartbeats 2000000 in
theorem room_c (rv : Option Addr) (kd el ln : Int) (tg : ByteArray) (p : Option Addr) (a u : Nat) (dn : Bool) (h4 : (kd == 14) = false) (h5 : (kd == 15) = false) (h6 : (kd == 16) = false) (w : World) :
    Calls Tryd.prog 92 #[.pointer rv, .agg #[.int .i64 kd, .int .i64 el, .int .i64 ln, .string tg, .slice p a u, .bool dn]] w fun e w' => e = .returned (.agg #[.int .i64 (W.widthOf kd), .int .i64 (W.widthOf kd)]) ∧ Below w.heap.size w w' := by
  have c1 := fun Y => isRec_no kd el ln tg p a u dn h5 h6 Y
  have c2 := fun Y => (W.wide_any kd).1 Y
  generalize W.widthOf kd = wd at *
  have hbx : ∀ (x y : Int) (Y : World), (Instr.build TX #[(0, .int .i64 x), (1, .int .i64 y)]).run Tryd.prog Y = .ok (.agg #[.int .i64 x, .int .i64 y]) Y := fun x y Y => by kernel_rfl
  have hB : Below w.heap.size w ((w.alloc (.cells #[.int .i64 kd, .int .i64 el, .int .i64 ln, .string tg, .slice p a u, .bool dn] TR)).alloc (.cells #[.int .i64 0, .int .i64 0] TX)) := (below1 w _).alloc (below1 w _).size _
  have E0 : Hid (_ = _) := heap_s2 w (.cells #[.int .i64 kd, .int .i64 el, .int .i64 ln, .string tg, .slice p a u, .bool dn] TR) (.cells #[.int .i64 0, .int .i64 0] TX)
  have F0 : Hid (_ = _) := heap_s1 w (.cells #[.int .i64 kd, .int .i64 el, .int .i64 ln, .string tg, .slice p a u, .bool dn] TR) (.cells #[.int .i64 0, .int .i64 0] TX)
  have HB : Hid (Below _ _ _) := hB
  clear hB h5 h6
  go_enter Tryd.func92, Tryd.ntmps92
  go_wp2_with fail
  generalize (w.alloc (.cells #[.int .i64 kd, .int .i64 el, .int .i64 ln, .string tg, .slice p a u, .bool dn] TR)).alloc (.cells #[.int .i64 0, .int .i64 0] TX) = W at *
  refine (c1 _).mono ?_
  rintro e w2 ⟨rfl, hb2⟩
  have hk : w2.cell? ⟨w.heap.size, 0, none⟩ = some (.int .i64 kd) := (hb2.cell (p := ⟨w.heap.size, 0, none⟩) (lt_of_heap F0.out)).trans (Lib.cell_of_heap F0.out 0)
  have E2 : Hid (w2.heap[w.heap.size + 1]? = some (.cells #[.int .i64 0, .int .i64 0] TX (0, 0))) := (hb2.block _ (lt_of_heap E0.out)).trans E0.out
  have HB2 : Hid (Below w.heap.size w w2) := HB.out.trans (hb2.mono HB.out.size)
  clear hb2 c1 E0 F0 HB
  go_wp2_with fail
  refine (c2 _).mono ?_
  rintro e w3 ⟨rfl, hw⟩
  subst hw
  go_wp2_with ((with_reducible apply step_store E2.out); rfl; rfl; kernel_rfl; rfl; kernel_rfl)
  refine ret_x1 (p := 4) rfl rfl (setRow_heap _ _ _ _ _ _ E2.out) rfl ?_
  exact ⟨rfl, below_setRow HB2.out (by omega) _⟩
end
section
variable {B : Nat} {w : World} {b mb : Nat} {v : Value} {rs : List (Rw × Value)} {ps : List (Value × Value)}
/-- A map with nothing in it: looked up, and put into. -/
theorem look_X {w : World} {m ck : Nat} (hm : w.heap[m]? = some (.map #[] ck)) {x : Int} (hx : wf64 x) :
    (Instr.lookup TMX (.map (some m)) (.int .i64 x) true).run Tryd.prog w = .ok (.tuple #[.agg #[.int .i64 0, .int .i64 0], .bool false]) w := by
  obtain ⟨l, hl⟩ := keyOfI_gen (P := Tryd.prog) Tryd.underlying3 hx
  exact run_look_none keyLawI Tryd.underlying116 (by kernel_rfl) hm hl (fun x hx => by cases hx) (fun x hx => by cases hx)
theorem put_X {w : World} {m ck : Nat} (hm : w.heap[m]? = some (.map #[] ck)) {x : Int} (hx : wf64 x) (val : Value) :
    ∃ w', (Instr.mapUpdate TMX (.map (some m)) (.int .i64 x) val).run Tryd.prog w = .ok () w' ∧ Turned w w' (fun k => k = m) := by
  obtain ⟨l, hl⟩ := keyOfI_gen (P := Tryd.prog) Tryd.underlying3 hx
  exact ⟨_, run_store_new keyLawI Tryd.underlying116 hm hl (fun x hx => by cases hx) (fun x hx => by cases hx),
    ⟨rfl, rfl, rfl, by simp [ChangeMaps.setBlock], fun i _ hi => ChangeMaps.heap_setBlock_other hm _ (fun e => hi e)⟩⟩
theorem cell_b {w w' : World} {g : Nat} {cs : Array Value} {T : TypeId} (h : w.heap[g]? = some (.cells cs T (0, 0))) (hb : Below w.heap.size w w') (j : Nat) : w'.cell? ⟨g, j, none⟩ = cs[j]? :=
  (hb.cell (p := ⟨g, j, none⟩) (lt_of_heap h)).trans (Lib.cell_of_heap h j)
theorem blk_b {w w' : World} {g : Nat} {o : Obj} (h : w.heap[g]? = some o) (hb : Below w.heap.size w w') : w'.heap[g]? = some o := (hb.block _ (lt_of_heap h)).trans h
theorem width_small (k : Int) : 0 ≤ W.widthOf k ∧ W.widthOf k ≤ 4 := by unfold W.widthOf; split <;> (try split) <;> (try split) <;> omega
set_option maxHeartbeats 4000000 in
theorem measure_c (h : Tab B w b mb v rs ps) (hs : Small rs) {i : Nat} {p : Rw × Value} (hp : rs[i]? = some p) (h4 : (p.1.kind == 14) = false) (h5 : (p.1.kind == 15) = false) (h6 : (p.1.kind == 16) = false)
    {rb m ck : Nat} (hr : w.heap[rb]? = some (.cells #[.pointer (some ⟨b, 0, none⟩), .map (some m)] TRu (0, 0))) (hm : w.heap[m]? = some (.map #[] ck)) {B1 : Nat} (hB1 : B1 ≤ m) :
    Calls Tryd.prog 91 #[.pointer (some ⟨rb, 0, none⟩), .int .i64 i] w fun e w' => e = .returned (.agg #[.int .i64 (W.widthOf p.1.kind), .int .i64 (W.widthOf p.1.kind)]) ∧ Below B1 w w' := by
  have hlt : i < rs.length := (List.getElem?_eq_some_iff.1 hp).1
  have hl := h.len
  have hwf : wf64 (i : Int) := by
    have e1 : IntKind.min .i64 = -9223372036854775808 := by decide
    have e2 : IntKind.max .i64 = 9223372036854775807 := by decide
    simp only [wf64, Lit.wf, e1, e2, Bool.and_eq_true, decide_eq_true_eq]
    omega
  have hmw := lt_of_heap hm
  have hB0 := below1 w (.cells #[.int .i64 0, .int .i64 0] TX)
  have hB2 : Below w.heap.size w ((w.alloc (.cells #[.int .i64 0, .int .i64 0] TX)).alloc (.cells #[.int .i64 0, .int .i64 0] TX)) := hB0.alloc hB0.size _
  have E2 : Hid (_ = _) := heap_s1 w (.cells #[.int .i64 0, .int .i64 0] TX) (.cells #[.int .i64 0, .int .i64 0] TX)
  have R0 := blk_b hr hB0
  have M0 := blk_b hm hB0
  have R2 : Hid (_ = _) := blk_b hr hB2
  have M2 : Hid (_ = _) := blk_b hm hB2
  have c2 := row_c (h.keptB hB2) hp hs
  have HB2 : Hid (Below _ _ _) := hB2
  have hws := width_small p.1.kind
  have q0 := Lib.cell_of_heap R0 0
  have q1 := Lib.cell_of_heap R0 1
  have q2 := Lib.cell_of_heap R2.out 0
  simp only [List.getElem?_toArray, List.getElem?_cons_succ, List.getElem?_cons_zero] at q0 q1 q2
  have hlk := look_X M0 hwf
  have cRm := fun sp a u Y => room_c (some ⟨rb, 0, none⟩) p.1.kind p.1.elem p.1.len p.1.tag sp a u p.1.done h4 h5 h6 Y
  have HWF : Hid (wf64 (i : Int)) := hwf
  generalize W.widthOf p.1.kind = wd at *
  obtain ⟨⟨kd, el, ln, tg, mm, dn⟩, s0⟩ := p
  simp only [rwCells] at c2 cRm
  have hmin : min wd 16385 = wd := by omega
  clear hr hm h hB0 hB2 hs hp R0 M0 h4 h5 h6 hwf hl hlt
  go_enter Tryd.func91, Tryd.ntmps91
  go_wp2_with fail
  clear hlk q0 q1
  generalize (w.alloc (.cells #[.int .i64 0, .int .i64 0] TX)).alloc (.cells #[.int .i64 0, .int .i64 0] TX) = W2 at *
  refine c2.mono ?_
  rintro e w3 ⟨s', rfl, hown, hb3⟩
  obtain ⟨sp, sc, rfl⟩ := slice_of_own hown
  have hold := heap_r0 w3 (.cells #[.int .i64 0, .int .i64 0, .int .i64 0, .string ⟨#[]⟩, .slice none 0 0, .bool false] TR)
  have hB4 := below1 w3 (.cells #[.int .i64 kd, .int .i64 el, .int .i64 ln, .string tg, .slice sp mm.length sc, .bool dn] TR)
  have hB24 : Below W2.heap.size W2 (w3.alloc (.cells #[.int .i64 kd, .int .i64 el, .int .i64 ln, .string tg, .slice sp mm.length sc, .bool dn] TR)) := hb3.trans (hB4.mono hb3.size)
  have E4 : Hid (_ = _) := blk_b E2.out hB24
  have R4 : Hid (_ = _) := blk_b R2.out hB24
  have M4 : Hid (_ = _) := blk_b M2.out hB24
  have HB4 : Hid (Below w.heap.size w (w3.alloc (.cells #[.int .i64 kd, .int .i64 el, .int .i64 ln, .string tg, .slice sp mm.length sc, .bool dn] TR))) := HB2.out.trans (hB24.mono HB2.out.size)
  clear c2 hown hb3 hB4 hB24 E2 R2 M2 HB2 q2
  go_wp2_with (first | ((with_reducible apply step_store hold); rfl; rfl; kernel_rfl; rfl; kernel_rfl; rw [World.setRow_alloc_new]) | fail)
  generalize w3.alloc (.cells #[.int .i64 kd, .int .i64 el, .int .i64 ln, .string tg, .slice sp mm.length sc, .bool dn] TR) = W4 at *
  clear hold
  refine (cRm _ _ _ _).mono ?_
  rintro e w5 ⟨rfl, hb5⟩
  have E5 : Hid (_ = _) := blk_b E4.out hb5
  have R5 : Hid (_ = _) := blk_b R4.out hb5
  have M5 : Hid (_ = _) := blk_b M4.out hb5
  have HB5 : Hid (Below w.heap.size w w5) := HB4.out.trans (hb5.mono HB4.out.size)
  clear cRm hb5 E4 R4 M4 HB4
  go_wp2_with fail
  have hB6 := below1 w5 (.cells #[.int .i64 wd, .int .i64 wd] TX)
  have E6 : Hid (_ = _) := blk_b E5.out hB6
  have R6 : Hid (_ = _) := blk_b R5.out hB6
  have M6 : Hid (_ = _) := blk_b M5.out hB6
  have N6 : Hid (_ = _) := heap_r0 w5 (.cells #[.int .i64 wd, .int .i64 wd] TX)
  have HB6 : Hid (Below w.heap.size w (w5.alloc (.cells #[.int .i64 wd, .int .i64 wd] TX))) := HB5.out.trans (hB6.mono HB5.out.size)
  have hlt5 := lt_of_heap M5.out
  have hlE := lt_of_heap E5.out
  clear hB6 E5 R5 M5 HB5 hmin hws
  generalize w5.alloc (.cells #[.int .i64 wd, .int .i64 wd] TX) = W6 at *
  have q1 := Lib.cell_of_heap R6.out 1
  have n0 := Lib.cell_of_heap N6.out 0
  have n1 := Lib.cell_of_heap N6.out 1
  simp only [List.getElem?_toArray, List.getElem?_cons_succ, List.getElem?_cons_zero] at q1 n0 n1
  obtain ⟨w7, hput, ht7⟩ := put_X (w := W6.drew) (m := m) (ck := ck) M6.out HWF.out (.agg #[.int .i64 wd, .int .i64 wd])
  have HT7 : Hid (Turned W6.drew w7 (fun k => k = m)) := ht7
  clear ht7
  go_region
  all_goals
    have E7 : Hid (_ = _) := (HT7.out.block _ (lt_of_heap E6.out) (by omega)).trans E6.out
    have N7 := (HT7.out.block _ (lt_of_heap N6.out) (by omega)).trans N6.out
    have r0 := Lib.cell_of_heap N7 0
    have r1 := Lib.cell_of_heap N7 1
    simp only [List.getElem?_toArray, List.getElem?_cons_succ, List.getElem?_cons_zero] at r0 r1
    have HB7 : Hid (Below B1 w w7) := by
      have hx := HB6.out.mono (B' := B1) (by omega)
      exact ⟨HT7.out.os.trans hx.os, HT7.out.tape.trans hx.tape, HT7.out.output.trans hx.output, Nat.le_trans hx.size HT7.out.size, fun k hk => (HT7.out.block k (Nat.lt_of_lt_of_le (by omega) HB6.out.size) (by omega)).trans (hx.block k hk)⟩
    clear N7
    go_wp2_with ((with_reducible apply step_store E7.out); rfl; rfl; kernel_rfl; rfl; kernel_rfl)
    refine ret_x1 (p := 4) rfl rfl (setRow_heap _ _ _ _ _ _ E7.out) rfl ?_
    exact ⟨rfl, below_setRow HB7.out (by omega) _⟩
end
end Go.Proofs.YtpnpilbmhkiphaaDoor
