/-
  scaled: what is done with a pointer, by its element's size.
  What conv's operators do with two operands: the parts that heads asks.
  layout.Size of a number or a pointer.
  layout.open and layout.Size of a number or a pointer.
-/
import Derived.Test.YtpnpilbmhkiphaaGreatDoorGPair
import Derived.Deep.RegionWith
import Derived.Deep.RegionHeld3
namespace Go.Proofs.YtpnpilbmhkiphaaGreatDoor
open Go.RowKit Go.Maps
set_option linter.unusedVariables false
set_option maxRecDepth 100000

abbrev TOp : TypeId := 30
def zeroOper : Value := .agg #[.int .i64 0, .int .i64 0, .int .i64 0, .int .i64 0, .int .i64 0]
section
variable {w : World}
theorem build_Op0 (W : World) : (Instr.build TOp #[]).run Tryz.prog W = .ok (.agg #[.int .i64 0, .int .i64 0, .int .i64 0, .int .i64 0, .int .i64 0]) W := by kernel_rfl
theorem ret_op {fn : Func} {R : Ending → World → Prop} {tmps : Array Value} {w : World} {g p q : Nat} {cs : Array Value} (hres : fn.results = #[.cell p TOp, .tmp q]) (hp : tmps.getD p undef = .pointer (some ⟨g, 0, none⟩)) (hg : w.heap[g]? = some (.cells cs TOp (0, 0))) (hcs : cs.size = 5)
    (hR : R (.returned (.tuple #[.agg cs, tmps.getD q undef])) w) : bodyPost Tryz.prog fn R .ret ⟨tmps, []⟩ w :=
  ret_st hres hp (run_loadVar_row _ _ _ _ _ (0, 0) _ hg Tryz.underlying30 rfl (by rw [hcs]; kernel_rfl)) hR
set_option maxHeartbeats 1000000 in
theorem nothing_c (tp : Option Addr) (op : ByteArray) (i1 k1 e1 n1 : Int) (t1 : ByteArray) (p1 : Option Addr) (a1 u1 : Nat) (d1 : Bool) (i2 k2 e2 n2 : Int) (t2 : ByteArray) (p2 : Option Addr) (a2 u2 : Nat) (d2 : Bool) (w : World) : Calls Tryz.prog 80 #[.agg #[.pointer tp, .string op, .int .i64 i1, .int .i64 k1, .int .i64 e1, .int .i64 n1, .string t1, .slice p1 a1 u1, .bool d1, .int .i64 i2, .int .i64 k2, .int .i64 e2, .int .i64 n2, .string t2, .slice p2 a2 u2, .bool d2]] w fun e w' => e = .returned (.tuple #[zeroOper, .int .i64 70]) ∧ Below w.heap.size w w' := by
  have hbz := build_Op0
  have hB : Below w.heap.size w ((w.alloc (.cells #[.pointer tp, .string op, .int .i64 i1, .int .i64 k1, .int .i64 e1, .int .i64 n1, .string t1, .slice p1 a1 u1, .bool d1, .int .i64 i2, .int .i64 k2, .int .i64 e2, .int .i64 n2, .string t2, .slice p2 a2 u2, .bool d2] TP)).alloc (.cells #[.int .i64 0, .int .i64 0, .int .i64 0, .int .i64 0, .int .i64 0] TOp)) := (below1 w _).alloc (below1 w _).size _
  have hold := heap_r0 (w.alloc (.cells #[.pointer tp, .string op, .int .i64 i1, .int .i64 k1, .int .i64 e1, .int .i64 n1, .string t1, .slice p1 a1 u1, .bool d1, .int .i64 i2, .int .i64 k2, .int .i64 e2, .int .i64 n2, .string t2, .slice p2 a2 u2, .bool d2] TP)) (.cells #[.int .i64 0, .int .i64 0, .int .i64 0, .int .i64 0, .int .i64 0] TOp)
  rw [show (w.alloc (.cells #[.pointer tp, .string op, .int .i64 i1, .int .i64 k1, .int .i64 e1, .int .i64 n1, .string t1, .slice p1 a1 u1, .bool d1, .int .i64 i2, .int .i64 k2, .int .i64 e2, .int .i64 n2, .string t2, .slice p2 a2 u2, .bool d2] TP)).heap.size = w.heap.size + 1 from Array.size_push _] at hold
  have HB : Hid (Below _ _ _) := hB
  clear hB
  unfold zeroOper
  go_enter Tryz.func80, Tryz.ntmps80
  go_wp2_with ((with_reducible apply step_store hold); rfl; rfl; kernel_rfl; rfl; kernel_rfl)
  refine ret_op (p := 2) (q := 3) rfl rfl (setRow_heap _ _ _ _ _ _ hold) rfl ?_
  exact ⟨rfl, below_setRow HB.out (by omega) _⟩
theorem cBasic_of {tp : Value} {k n : Int} (h : ∀ W, Below w.heap.size w W → Calls Tryz.prog 85 #[tp, .int .i64 k] W fun e w' => e = .returned (.tuple #[.int .i64 n, .int .i64 0]) ∧ w' = W) (htp : ∃ q, tp = .pointer q) :
    ∀ W, Below w.heap.size w W → Calls Tryz.prog 41 #[tp, .int .i64 k] W fun e w' => e = .returned (.int .i64 n) ∧ w' = W := by
  intro W hW
  have c := h W hW
  obtain ⟨q, rfl⟩ := htp
  clear h
  go_enter Tryz.func41, Tryz.ntmps41
  go_wp2_with fail
  refine c.mono ?_
  rintro e w' ⟨rfl, rfl⟩
  go_wp2
  go_ret
  exact ⟨rfl, rfl⟩
theorem intType_of {tp : Option Addr} {op : ByteArray} {i1 k1 e1 n1 : Int} {t1 : ByteArray} {p1 : Option Addr} {a1 u1 : Nat} {d1 : Bool} {i2 k2 e2 n2 : Int} {t2 : ByteArray} {p2 : Option Addr} {a2 u2 : Nat} {d2 : Bool} {n : Int} (h : ∀ W, Below w.heap.size w W → Calls Tryz.prog 41 #[.pointer tp, .int .i64 8] W fun e w' => e = .returned (.int .i64 n) ∧ w' = W) :
    ∀ W, Below w.heap.size w W → Calls Tryz.prog 115 #[.agg #[.pointer tp, .string op, .int .i64 i1, .int .i64 k1, .int .i64 e1, .int .i64 n1, .string t1, .slice p1 a1 u1, .bool d1, .int .i64 i2, .int .i64 k2, .int .i64 e2, .int .i64 n2, .string t2, .slice p2 a2 u2, .bool d2]] W fun e w' => e = .returned (.int .i64 n) ∧ Below W.heap.size W w' := by
  intro W hW
  have c := h (W.alloc (.cells #[.pointer tp, .string op, .int .i64 i1, .int .i64 k1, .int .i64 e1, .int .i64 n1, .string t1, .slice p1 a1 u1, .bool d1, .int .i64 i2, .int .i64 k2, .int .i64 e2, .int .i64 n2, .string t2, .slice p2 a2 u2, .bool d2] TP)) (hW.trans ((below1 W _).mono hW.size))
  have HB : Hid (Below W.heap.size W (W.alloc (.cells #[.pointer tp, .string op, .int .i64 i1, .int .i64 k1, .int .i64 e1, .int .i64 n1, .string t1, .slice p1 a1 u1, .bool d1, .int .i64 i2, .int .i64 k2, .int .i64 e2, .int .i64 n2, .string t2, .slice p2 a2 u2, .bool d2] TP))) := below1 W _
  clear h
  go_enter Tryz.func115, Tryz.ntmps115
  go_wp2_with fail
  refine c.mono ?_
  rintro e w' ⟨rfl, rfl⟩
  go_wp2
  go_ret
  exact ⟨rfl, HB.out⟩
end
end Go.Proofs.YtpnpilbmhkiphaaGreatDoor
namespace Go.Proofs.YtpnpilbmhkiphaaGreatDoor
open Go.RowKit Go.Maps
set_option linter.unusedVariables false
set_option maxRecDepth 100000

abbrev TX : TypeId := 156
abbrev TRu : TypeId := 164
abbrev TMX : TypeId := 162
theorem keyLawI : Keyed Tryz.prog 3 := int_keyed Tryz.underlying3
theorem keyOfI_gen {P : Program} {k : TypeId} (hu : P.underlying k = some (.int .i64)) {x : Int} (hx : wf64 x) : ∃ l, keyOf P k (.int .i64 x) = some l := by
  unfold wf64 at hx
  simp [keyOf, hu, mapKey, hx]
theorem ret_x1 {fn : Func} {R : Ending → World → Prop} {tmps : Array Value} {w : World} {g p : Nat} {cs : Array Value}
    (hres : fn.results = #[.cell p TX]) (hp : tmps.getD p undef = .pointer (some ⟨g, 0, none⟩)) (hg : w.heap[g]? = some (.cells cs TX (0, 0))) (hcs : cs.size = 2)
    (hR : R (.returned (.agg cs)) w) : bodyPost Tryz.prog fn R .ret ⟨tmps, []⟩ w := by
  refine bodyPost_ret ?_ rfl hR
  have hl := run_loadVar_row (P := Tryz.prog) w g TX TX cs (0, 0) _ hg Tryz.underlying156 rfl (by rw [hcs]; kernel_rfl)
  rw [results_cell1 hres]
  simp only [hp]
  simp [asAddr, Result.andThen, hl]
section
variable {w : World}
theorem isRec_no (kd el ln : Int) (tg : ByteArray) (p : Option Addr) (a u : Nat) (dn : Bool) (h5 : (kd == 15) = false) (h6 : (kd == 16) = false) (w : World) :
    Calls Tryz.prog 148 #[.agg #[.int .i64 kd, .int .i64 el, .int .i64 ln, .string tg, .slice p a u, .bool dn]] w fun e w' => e = .returned (.bool false) ∧ Below w.heap.size w w' := by
  have HB : Hid (Below w.heap.size w (w.alloc (.cells #[.int .i64 kd, .int .i64 el, .int .i64 ln, .string tg, .slice p a u, .bool dn] TR))) := below1 w _
  go_enter Tryz.func148, Tryz.ntmps148
  go_wp2
  go_ret
  exact ⟨rfl, HB.out⟩
set_option maxHeartbeats 2000000 in
theorem room_c (rv : Option Addr) (kd el ln : Int) (tg : ByteArray) (p : Option Addr) (a u : Nat) (dn : Bool) (h4 : (kd == 14) = false) (h5 : (kd == 15) = false) (h6 : (kd == 16) = false) (w : World) :
    Calls Tryz.prog 146 #[.pointer rv, .agg #[.int .i64 kd, .int .i64 el, .int .i64 ln, .string tg, .slice p a u, .bool dn]] w fun e w' => e = .returned (.agg #[.int .i64 (W.widthOf kd), .int .i64 (W.widthOf kd)]) ∧ Below w.heap.size w w' := by
  have c1 := fun Y => isRec_no kd el ln tg p a u dn h5 h6 Y
  have c2 := fun Y => (W.wide_any kd).1 Y
  generalize W.widthOf kd = wd at *
  have hbx : ∀ (x y : Int) (Y : World), (Instr.build TX #[(0, .int .i64 x), (1, .int .i64 y)]).run Tryz.prog Y = .ok (.agg #[.int .i64 x, .int .i64 y]) Y := fun x y Y => by kernel_rfl
  have hB : Below w.heap.size w ((w.alloc (.cells #[.int .i64 kd, .int .i64 el, .int .i64 ln, .string tg, .slice p a u, .bool dn] TR)).alloc (.cells #[.int .i64 0, .int .i64 0] TX)) := (below1 w _).alloc (below1 w _).size _
  have E0 : Hid (_ = _) := heap_s2 w (.cells #[.int .i64 kd, .int .i64 el, .int .i64 ln, .string tg, .slice p a u, .bool dn] TR) (.cells #[.int .i64 0, .int .i64 0] TX)
  have F0 : Hid (_ = _) := heap_s1 w (.cells #[.int .i64 kd, .int .i64 el, .int .i64 ln, .string tg, .slice p a u, .bool dn] TR) (.cells #[.int .i64 0, .int .i64 0] TX)
  have HB : Hid (Below _ _ _) := hB
  clear hB h5 h6
  go_enter Tryz.func146, Tryz.ntmps146
  go_wp2_with fail
  generalize (w.alloc (.cells #[.int .i64 kd, .int .i64 el, .int .i64 ln, .string tg, .slice p a u, .bool dn] TR)).alloc (.cells #[.int .i64 0, .int .i64 0] TX) = W at *
  refine (c1 _).mono ?_
  rintro e w2 ⟨rfl, hb2⟩
  have hk : w2.cell? ⟨w.heap.size, 0, none⟩ = some (.int .i64 kd) := (hb2.cell (p := ⟨w.heap.size, 0, none⟩) (lt_of_heap F0.out)).trans (Lib.cell_of_heap F0.out 0)
  have E2 : Hid (w2.heap[w.heap.size + 1]? = some (.cells #[.int .i64 0, .int .i64 0] TX (0, 0))) := (hb2.block _ (lt_of_heap E0.out)).trans E0.out
  have HB2 : Hid (Below w.heap.size w w2) := HB.out.trans (hb2.mono HB.out.size)
  clear hb2 c1 E0 F0 HB
  go_wp2_with fail
  refine (c2 _).mono ?_
  rintro e w3 ⟨rfl, hw⟩
  subst hw
  go_wp2_with ((with_reducible apply step_store E2.out); rfl; rfl; kernel_rfl; rfl; kernel_rfl)
  refine ret_x1 (p := 4) rfl rfl (setRow_heap _ _ _ _ _ _ E2.out) rfl ?_
  exact ⟨rfl, below_setRow HB2.out (by omega) _⟩
end
section
variable {B : Nat} {w : World} {b mb : Nat} {v : Value} {rs : List (Rw × Value)} {ps : List (Value × Value)}
/-- A map with nothing in it: looked up, and put into. -/
theorem look_X {w : World} {m ck : Nat} (hm : w.heap[m]? = some (.map #[] ck)) {x : Int} (hx : wf64 x) :
    (Instr.lookup TMX (.map (some m)) (.int .i64 x) true).run Tryz.prog w = .ok (.tuple #[.agg #[.int .i64 0, .int .i64 0], .bool false]) w := by
  obtain ⟨l, hl⟩ := keyOfI_gen (P := Tryz.prog) Tryz.underlying3 hx
  exact run_look_none keyLawI Tryz.underlying162 (by kernel_rfl) hm hl (fun x hx => by cases hx) (fun x hx => by cases hx)
theorem put_X {w : World} {m ck : Nat} (hm : w.heap[m]? = some (.map #[] ck)) {x : Int} (hx : wf64 x) (val : Value) :
    ∃ w', (Instr.mapUpdate TMX (.map (some m)) (.int .i64 x) val).run Tryz.prog w = .ok () w' ∧ Turned w w' (fun k => k = m) := by
  obtain ⟨l, hl⟩ := keyOfI_gen (P := Tryz.prog) Tryz.underlying3 hx
  exact ⟨_, run_store_new keyLawI Tryz.underlying162 hm hl (fun x hx => by cases hx) (fun x hx => by cases hx),
    ⟨rfl, rfl, rfl, by simp [ChangeMaps.setBlock], fun i _ hi => ChangeMaps.heap_setBlock_other hm _ (fun e => hi e)⟩⟩
theorem cell_b {w w' : World} {g : Nat} {cs : Array Value} {T : TypeId} (h : w.heap[g]? = some (.cells cs T (0, 0))) (hb : Below w.heap.size w w') (j : Nat) : w'.cell? ⟨g, j, none⟩ = cs[j]? :=
  (hb.cell (p := ⟨g, j, none⟩) (lt_of_heap h)).trans (Lib.cell_of_heap h j)
theorem blk_b {w w' : World} {g : Nat} {o : Obj} (h : w.heap[g]? = some o) (hb : Below w.heap.size w w') : w'.heap[g]? = some o := (hb.block _ (lt_of_heap h)).trans h
theorem width_small (k : Int) : 0 ≤ W.widthOf k ∧ W.widthOf k ≤ 4 := by unfold W.widthOf; split <;> (try split) <;> (try split) <;> omega
set_option maxHeartbeats 4000000 in
theorem measure_c (h : Tab B w b mb v rs ps) (hs : Small rs) {i : Nat} {p : Rw × Value} (hp : rs[i]? = some p) (h4 : (p.1.kind == 14) = false) (h5 : (p.1.kind == 15) = false) (h6 : (p.1.kind == 16) = false)
    {rb m ck : Nat} (hr : w.heap[rb]? = some (.cells #[.pointer (some ⟨b, 0, none⟩), .map (some m)] TRu (0, 0))) (hm : w.heap[m]? = some (.map #[] ck)) {B1 : Nat} (hB1 : B1 ≤ m) :
    Calls Tryz.prog 143 #[.pointer (some ⟨rb, 0, none⟩), .int .i64 i] w fun e w' => e = .returned (.agg #[.int .i64 (W.widthOf p.1.kind), .int .i64 (W.widthOf p.1.kind)]) ∧ Below B1 w w' := by
  have hlt : i < rs.length := (List.getElem?_eq_some_iff.1 hp).1
  have hl := h.len
  have hwf : wf64 (i : Int) := by
    have e1 : IntKind.min .i64 = -9223372036854775808 := by decide
    have e2 : IntKind.max .i64 = 9223372036854775807 := by decide
    simp only [wf64, Lit.wf, e1, e2, Bool.and_eq_true, decide_eq_true_eq]
    omega
  have hmw := lt_of_heap hm
  have hB0 := below1 w (.cells #[.int .i64 0, .int .i64 0] TX)
  have hB2 : Below w.heap.size w ((w.alloc (.cells #[.int .i64 0, .int .i64 0] TX)).alloc (.cells #[.int .i64 0, .int .i64 0] TX)) := hB0.alloc hB0.size _
  have E2 : Hid (_ = _) := heap_s1 w (.cells #[.int .i64 0, .int .i64 0] TX) (.cells #[.int .i64 0, .int .i64 0] TX)
  have R0 := blk_b hr hB0
  have M0 := blk_b hm hB0
  have R2 : Hid (_ = _) := blk_b hr hB2
  have M2 : Hid (_ = _) := blk_b hm hB2
  have c2 := row_c (h.keptB hB2) hp hs
  have HB2 : Hid (Below _ _ _) := hB2
  have hws := width_small p.1.kind
  have q0 := Lib.cell_of_heap R0 0
  have q1 := Lib.cell_of_heap R0 1
  have q2 := Lib.cell_of_heap R2.out 0
  simp only [List.getElem?_toArray, List.getElem?_cons_succ, List.getElem?_cons_zero] at q0 q1 q2
  have hlk := look_X M0 hwf
  have cRm := fun sp a u Y => room_c (some ⟨rb, 0, none⟩) p.1.kind p.1.elem p.1.len p.1.tag sp a u p.1.done h4 h5 h6 Y
  have HWF : Hid (wf64 (i : Int)) := hwf
  generalize W.widthOf p.1.kind = wd at *
  obtain ⟨⟨kd, el, ln, tg, mm, dn⟩, s0⟩ := p
  simp only [rwCells] at c2 cRm
  have hmin : min wd 16385 = wd := by omega
  clear hr hm h hB0 hB2 hs hp R0 M0 h4 h5 h6 hwf hl hlt
  go_enter Tryz.func143, Tryz.ntmps143
  go_wp2_with fail
  clear hlk q0 q1
  generalize (w.alloc (.cells #[.int .i64 0, .int .i64 0] TX)).alloc (.cells #[.int .i64 0, .int .i64 0] TX) = W2 at *
  refine c2.mono ?_
  rintro e w3 ⟨s', rfl, hown, hb3⟩
  obtain ⟨sp, sc, rfl⟩ := slice_of_own hown
  have hold := heap_r0 w3 (.cells #[.int .i64 0, .int .i64 0, .int .i64 0, .string ⟨#[]⟩, .slice none 0 0, .bool false] TR)
  have hB4 := below1 w3 (.cells #[.int .i64 kd, .int .i64 el, .int .i64 ln, .string tg, .slice sp mm.length sc, .bool dn] TR)
  have hB24 : Below W2.heap.size W2 (w3.alloc (.cells #[.int .i64 kd, .int .i64 el, .int .i64 ln, .string tg, .slice sp mm.length sc, .bool dn] TR)) := hb3.trans (hB4.mono hb3.size)
  have E4 : Hid (_ = _) := blk_b E2.out hB24
  have R4 : Hid (_ = _) := blk_b R2.out hB24
  have M4 : Hid (_ = _) := blk_b M2.out hB24
  have HB4 : Hid (Below w.heap.size w (w3.alloc (.cells #[.int .i64 kd, .int .i64 el, .int .i64 ln, .string tg, .slice sp mm.length sc, .bool dn] TR))) := HB2.out.trans (hB24.mono HB2.out.size)
  clear c2 hown hb3 hB4 hB24 E2 R2 M2 HB2 q2
  go_wp2_with (first | ((with_reducible apply step_store hold); rfl; rfl; kernel_rfl; rfl; kernel_rfl; rw [World.setRow_alloc_new]) | fail)
  generalize w3.alloc (.cells #[.int .i64 kd, .int .i64 el, .int .i64 ln, .string tg, .slice sp mm.length sc, .bool dn] TR) = W4 at *
  clear hold
  refine (cRm _ _ _ _).mono ?_
  rintro e w5 ⟨rfl, hb5⟩
  have E5 : Hid (_ = _) := blk_b E4.out hb5
  have R5 : Hid (_ = _) := blk_b R4.out hb5
  have M5 : Hid (_ = _) := blk_b M4.out hb5
  have HB5 : Hid (Below w.heap.size w w5) := HB4.out.trans (hb5.mono HB4.out.size)
  clear cRm hb5 E4 R4 M4 HB4
  go_wp2_with fail
  have hB6 := below1 w5 (.cells #[.int .i64 wd, .int .i64 wd] TX)
  have E6 : Hid (_ = _) := blk_b E5.out hB6
  have R6 : Hid (_ = _) := blk_b R5.out hB6
  have M6 : Hid (_ = _) := blk_b M5.out hB6
  have N6 : Hid (_ = _) := heap_r0 w5 (.cells #[.int .i64 wd, .int .i64 wd] TX)
  have HB6 : Hid (Below w.heap.size w (w5.alloc (.cells #[.int .i64 wd, .int .i64 wd] TX))) := HB5.out.trans (hB6.mono HB5.out.size)
  have hlt5 := lt_of_heap M5.out
  have hlE := lt_of_heap E5.out
  clear hB6 E5 R5 M5 HB5 hmin hws
  generalize w5.alloc (.cells #[.int .i64 wd, .int .i64 wd] TX) = W6 at *
  have q1 := Lib.cell_of_heap R6.out 1
  have n0 := Lib.cell_of_heap N6.out 0
  have n1 := Lib.cell_of_heap N6.out 1
  simp only [List.getElem?_toArray, List.getElem?_cons_succ, List.getElem?_cons_zero] at q1 n0 n1
  obtain ⟨w7, hput, ht7⟩ := put_X (w := W6.drew) (m := m) (ck := ck) M6.out HWF.out (.agg #[.int .i64 wd, .int .i64 wd])
  have HT7 : Hid (Turned W6.drew w7 (fun k => k = m)) := ht7
  clear ht7
  go_region
  all_goals
    have E7 : Hid (_ = _) := (HT7.out.block _ (lt_of_heap E6.out) (by omega)).trans E6.out
    have N7 := (HT7.out.block _ (lt_of_heap N6.out) (by omega)).trans N6.out
    have r0 := Lib.cell_of_heap N7 0
    have r1 := Lib.cell_of_heap N7 1
    simp only [List.getElem?_toArray, List.getElem?_cons_succ, List.getElem?_cons_zero] at r0 r1
    have HB7 : Hid (Below B1 w w7) := by
      have hx := HB6.out.mono (B' := B1) (by omega)
      exact ⟨HT7.out.os.trans hx.os, HT7.out.tape.trans hx.tape, HT7.out.output.trans hx.output, Nat.le_trans hx.size HT7.out.size, fun k hk => (HT7.out.block k (Nat.lt_of_lt_of_le (by omega) HB6.out.size) (by omega)).trans (hx.block k hk)⟩
    clear N7
    go_wp2_with ((with_reducible apply step_store E7.out); rfl; rfl; kernel_rfl; rfl; kernel_rfl)
    refine ret_x1 (p := 4) rfl rfl (setRow_heap _ _ _ _ _ _ E7.out) rfl ?_
    exact ⟨rfl, below_setRow HB7.out (by omega) _⟩
end
end Go.Proofs.YtpnpilbmhkiphaaGreatDoor
namespace Go.Proofs.YtpnpilbmhkiphaaGreatDoor
open Go.RowKit Go.Maps
set_option linter.unusedVariables false
set_option maxRecDepth 100000

theorem results_mid {fn : Func} {p u s : Tmp} {ty : TypeId} (h : fn.results = #[.tmp s, .cell p ty, .tmp u]) (tmps : Array Value) (P : Program) (w : World) :
    (results fn tmps).run P w =
      ((asAddr (tmps.getD p undef)).run P w).andThen fun a w₁ => ((loadVar ty a).run P w₁).andThen fun x w₂ => .ok (.tuple #[tmps.getD s undef, x, tmps.getD u undef]) w₂ := by
  simp only [results, h]
  simp [Sem.run_bind, Result.andThen]
theorem ret_x3 {fn : Func} {R : Ending → World → Prop} {tmps : Array Value} {w : World} {g p q s : Nat} {cs : Array Value}
    (hres : fn.results = #[.tmp s, .cell p TX, .tmp q]) (hp : tmps.getD p undef = .pointer (some ⟨g, 0, none⟩)) (hg : w.heap[g]? = some (.cells cs TX (0, 0))) (hcs : cs.size = 2)
    (hR : R (.returned (.tuple #[tmps.getD s undef, .agg cs, tmps.getD q undef])) w) : bodyPost Tryz.prog fn R .ret ⟨tmps, []⟩ w := by
  refine bodyPost_ret ?_ rfl hR
  have hl := run_loadVar_row (P := Tryz.prog) w g TX TX cs (0, 0) _ hg Tryz.underlying156 rfl (by rw [hcs]; kernel_rfl)
  rw [results_mid hres]
  simp only [hp]
  simp [asAddr, Result.andThen, hl]
section
variable {B : Nat} {w : World} {b mb : Nat} {v : Value} {rs : List (Rw × Value)} {ps : List (Value × Value)}
set_option maxHeartbeats 4000000 in
theorem open_c (h : Tab B w b mb v rs ps) (hs : Small rs) {i : Nat} {p : Rw × Value} (hp : rs[i]? = some p) (hk : intK p.1.kind = true ∨ p.1.kind = 13) :
    Calls Tryz.prog 139 #[.pointer (some ⟨b, 0, none⟩), .int .i64 i] w fun e w' => (∃ q, e = .returned (.tuple #[.pointer q, .agg #[.int .i64 (W.widthOf p.1.kind), .int .i64 (W.widthOf p.1.kind)], .int .i64 0])) ∧ Below w.heap.size w w' := by
  have hlt : i < rs.length := (List.getElem?_eq_some_iff.1 hp).1
  have hl := h.len
  have hkk : 2 ≤ p.1.kind ∧ p.1.kind ≤ 13 := by
    rcases hk with hk | hk
    · have : 2 ≤ p.1.kind ∧ p.1.kind ≤ 12 := by simpa [intK] using hk
      omega
    · omega
  have h4 : (p.1.kind == 14) = false := beq_eq_false_iff_ne.2 (by omega)
  have h5 : (p.1.kind == 15) = false := beq_eq_false_iff_ne.2 (by omega)
  have h6 : (p.1.kind == 16) = false := beq_eq_false_iff_ne.2 (by omega)
  have hwh : wholeP rs i = true := by
    simp only [wholeP, Int.toNat_natCast, hp]
    rw [if_pos (by omega)]
    simp only [wholeR]
    rw [if_neg (by omega), if_neg (by simp [recK, h5, h6])]
    rcases hk with hk | hk
    · rw [hk]; rfl
    · rw [hk]; rfl
  have n1 := not_t
  have hws := width_small p.1.kind
  have hB0 := below1 w (.cells #[.int .i64 0, .int .i64 0] TX)
  have E0 : Hid (_ = _) := heap_r0 w (.cells #[.int .i64 0, .int .i64 0] TX)
  have H0 : Hid (Tab B (w.alloc (.cells #[.int .i64 0, .int .i64 0] TX)) b mb v rs ps) := h.keptB hB0
  have HB0 : Hid (Below _ _ _) := hB0
  have HS : Hid (Small rs) := hs
  have HP : Hid (rs[i]? = some p) := hp
  have c1 := len_c H0.out (by omega)
  have c2 := row_c H0.out hp hs
  have hne : ((rs.length : Int) == 0) = false := beq_eq_false_iff_ne.2 (by omega)
  have hmk := @run_makeMap Tryz.prog
  have HCM : Hid (∀ (Y : World) (rb m ck B1 : Nat), Tab B Y b mb v rs ps → Y.heap[rb]? = some (.cells #[.pointer (some ⟨b, 0, none⟩), .map (some m)] TRu (0, 0)) → Y.heap[m]? = some (.map #[] ck) → B1 ≤ m →
      Calls Tryz.prog 143 #[.pointer (some ⟨rb, 0, none⟩), .int .i64 i] Y fun e w' => e = .returned (.agg #[.int .i64 (W.widthOf p.1.kind), .int .i64 (W.widthOf p.1.kind)]) ∧ Below B1 Y w') :=
    fun W rb m ck B1 hT hr hm hB => measure_c hT hs hp h4 h5 h6 hr hm hB
  have HCW : Hid (∀ (W : World), Tab B W b mb v rs ps → Calls Tryz.prog 101 #[.pointer (some ⟨b, 0, none⟩), .int .i64 i] W fun e w' => e = .returned (.bool true) ∧ w' = W) := fun W hT => by
    have := whole_c hT (by omega) i
    rw [hwh] at this
    exact this
  generalize W.widthOf p.1.kind = wd at *
  obtain ⟨⟨kd, el, ln, tg, mm, dn⟩, s0⟩ := p
  simp only [rwCells] at c2
  clear h hB0 hs hp hk hkk h4 h5 h6 hwh
  go_enter Tryz.func139, Tryz.ntmps139
  go_wp2_with fail
  generalize w.alloc (.cells #[.int .i64 0, .int .i64 0] TX) = W0 at *
  refine c1.mono ?_
  rintro e w' ⟨rfl, hw⟩
  rw [hw]
  clear hw w' c1
  go_wp2_with fail
  refine c2.mono ?_
  rintro e w3 ⟨s', rfl, hown, hb3⟩
  obtain ⟨sp, sc, rfl⟩ := slice_of_own hown
  have hold := heap_r0 w3 (.cells #[.int .i64 0, .int .i64 0, .int .i64 0, .string ⟨#[]⟩, .slice none 0 0, .bool false] TR)
  have hB4 := below1 w3 (.cells #[.int .i64 kd, .int .i64 el, .int .i64 ln, .string tg, .slice sp mm.length sc, .bool dn] TR)
  have hB24 : Below W0.heap.size W0 (w3.alloc (.cells #[.int .i64 kd, .int .i64 el, .int .i64 ln, .string tg, .slice sp mm.length sc, .bool dn] TR)) := hb3.trans (hB4.mono hb3.size)
  have E4 : Hid (_ = _) := blk_b E0.out hB24
  have H4 : Hid (Tab B _ b mb v rs ps) := H0.out.keptB hB24
  have HB4 : Hid (Below w.heap.size w (w3.alloc (.cells #[.int .i64 kd, .int .i64 el, .int .i64 ln, .string tg, .slice sp mm.length sc, .bool dn] TR))) := HB0.out.trans (hB24.mono HB0.out.size)
  clear c2 hown hb3 hB4 hB24 E0 H0 HB0
  go_wp2_with (first | ((with_reducible apply step_store hold); rfl; rfl; kernel_rfl; rfl; kernel_rfl; rw [World.setRow_alloc_new]) | fail)
  generalize w3.alloc (.cells #[.int .i64 kd, .int .i64 el, .int .i64 ln, .string tg, .slice sp mm.length sc, .bool dn] TR) = W4 at *
  clear hold
  refine (HCW.out _ H4.out).mono ?_
  rintro e w' ⟨rfl, hw⟩
  rw [hw]
  clear hw w' HCW
  go_wp2_with fail
  have hB46 : Below W4.heap.size W4 ((W4.alloc (.map #[] 0)).alloc (.cells #[.pointer (some ⟨b, 0, none⟩), .map (some W4.heap.size)] TRu)) := (below1 W4 _).alloc (below1 W4 _).size _
  have cM := HCM.out _ (W4.heap.size + 1) W4.heap.size 0 W4.heap.size (H4.out.keptB hB46) (heap_s2 W4 (.map #[] 0) (.cells #[.pointer (some ⟨b, 0, none⟩), .map (some W4.heap.size)] TRu)) (heap_s1 W4 (.map #[] 0) (.cells #[.pointer (some ⟨b, 0, none⟩), .map (some W4.heap.size)] TRu)) (Nat.le_refl _)
  refine cM.mono ?_
  rintro e w7 ⟨rfl, hb7⟩
  have hB47 : Below W4.heap.size W4 w7 := hB46.trans hb7
  have hB8 := below1 w7 (.cells #[.int .i64 wd, .int .i64 wd] TX)
  have hB48 := hB47.trans (hB8.mono hB47.size)
  have E8 := blk_b E4.out hB48
  have N8 := heap_r0 w7 (.cells #[.int .i64 wd, .int .i64 wd] TX)
  have HB8 : Hid (Below w.heap.size w (w7.alloc (.cells #[.int .i64 wd, .int .i64 wd] TX))) := HB4.out.trans (hB48.mono HB4.out.size)
  have hE7 : w.heap.size < w7.heap.size := Nat.lt_of_lt_of_le (lt_of_heap E4.out) hB47.size
  have hgt : decide (16384 < wd) = false := by simp; omega
  clear cM HCM hB46 hb7 hB47 hB8 hB48 E4 H4 HB4 hmk
  go_wp2_with fail
  have HE8 : Hid (_ = _) := E8
  have HN8 : Hid (_ = _) := N8
  generalize w7.alloc (.cells #[.int .i64 wd, .int .i64 wd] TX) = W8 at *
  have x0 := Lib.cell_of_heap E8 0
  have x1 := Lib.cell_of_heap E8 1
  have y0 := Lib.cell_of_heap N8 0
  have y1 := Lib.cell_of_heap N8 1
  simp only [List.getElem?_toArray, List.getElem?_cons_succ, List.getElem?_cons_zero] at x0 x1 y0 y1
  clear E8 N8
  have z0 : W8.frozen? ⟨w.heap.size, 0, none⟩ = false := frozen_of HE8.out 0
  have z1 : W8.frozen? ⟨w.heap.size, 1, none⟩ = false := frozen_of HE8.out 1
  go_region
  all_goals
    have K1 := heap_setCell (j := 0) HE8.out (.int .i64 wd)
    have K2 : Hid (_ = _) := heap_setCell (j := 1) K1 (.int .i64 wd)
    have HB9 : Hid (Below w.heap.size w ((W8.setCell ⟨w.heap.size, 0, none⟩ (.int .i64 wd)).setCell ⟨w.heap.size, 1, none⟩ (.int .i64 wd)).drew) := by
      have hx := (HB8.out.setCell (p := ⟨w.heap.size, 0, none⟩) (Nat.le_refl _) (.int .i64 wd)).setCell (p := ⟨w.heap.size, 1, none⟩) (Nat.le_refl _) (.int .i64 wd)
      exact hx.trans ⟨rfl, rfl, rfl, Nat.le_refl _, fun _ _ => rfl⟩
    clear K1 x0 x1 y0 y1 z0 z1
    go_wp2_with fail
    refine ret_x3 (s := 4) (p := 5) (q := 6) (cs := #[.int .i64 wd, .int .i64 wd]) rfl rfl K2.out rfl ?_
    exact ⟨⟨_, rfl⟩, HB9.out⟩
theorem size_c (h : Tab B w b mb v rs ps) (hs : Small rs) {i : Nat} {p : Rw × Value} (hp : rs[i]? = some p) (hk : intK p.1.kind = true ∨ p.1.kind = 13) :
    Calls Tryz.prog 130 #[.pointer (some ⟨b, 0, none⟩), .int .i64 i] w fun e w' => e = .returned (.tuple #[.int .i64 (W.widthOf p.1.kind), .int .i64 0]) ∧ Below w.heap.size w w' := by
  have c := open_c h hs hp hk
  generalize W.widthOf p.1.kind = wd at *
  clear h hs hp hk
  go_enter Tryz.func130, Tryz.ntmps130
  go_wp2_with fail
  refine c.mono ?_
  rintro e w2 ⟨⟨q, rfl⟩, hb2⟩
  have HB : Hid (Below w.heap.size w (w2.alloc (.cells #[.int .i64 wd, .int .i64 wd] TX))) := hb2.trans ((below1 w2 _).mono hb2.size)
  clear c hb2
  go_wp2
  go_ret2
  exact ⟨rfl, HB.out⟩
end
end Go.Proofs.YtpnpilbmhkiphaaGreatDoor
namespace Go.Proofs.YtpnpilbmhkiphaaGreatDoor
open Go.RowKit Go.Maps
set_option linter.unusedVariables false
set_option maxRecDepth 100000

section
variable {w : World}
theorem four0 (w : World) (A B C D : Obj) : ((((w.alloc A).alloc B).alloc C).alloc D).heap[w.heap.size]? = some A ∧ ((((w.alloc A).alloc B).alloc C).alloc D).heap[w.heap.size + 1]? = some B ∧ ((((w.alloc A).alloc B).alloc C).alloc D).heap[w.heap.size + 1 + 1]? = some C ∧ ((((w.alloc A).alloc B).alloc C).alloc D).heap[w.heap.size + 1 + 1 + 1]? = some D ∧ Below w.heap.size w ((((w.alloc A).alloc B).alloc C).alloc D) := by
  have s1 : (w.alloc A).heap.size = w.heap.size + 1 := Array.size_push _
  have s2 : ((w.alloc A).alloc B).heap.size = w.heap.size + 1 + 1 := by rw [← s1]; exact Array.size_push _
  have s3 : (((w.alloc A).alloc B).alloc C).heap.size = w.heap.size + 1 + 1 + 1 := by rw [← s2]; exact Array.size_push _
  have b1 := below1 w A
  have b2 := below1 (w.alloc A) B
  have b3 := below1 ((w.alloc A).alloc B) C
  have b4 := below1 (((w.alloc A).alloc B).alloc C) D
  have r1 := heap_r0 w A
  have r2 := heap_r0 (w.alloc A) B
  have r3 := heap_r0 ((w.alloc A).alloc B) C
  have r4 := heap_r0 (((w.alloc A).alloc B).alloc C) D
  rw [s1] at r2
  rw [s2] at r3
  rw [s3] at r4
  exact ⟨blk_b (blk_b (blk_b r1 b2) b3) b4, blk_b (blk_b r2 b3) b4, blk_b r3 b4, r4, ((b1.trans (b2.mono (by omega))).trans (b3.mono (by omega))).trans (b4.mono (by omega))⟩
set_option maxHeartbeats 4000000 in
theorem scaled_of {tp : Option Addr} {op : ByteArray} {i1 k1 e1 n1 : Int} {t1 : ByteArray} {p1 : Option Addr} {a1 u1 : Nat} {d1 : Bool} {i2 k2 e2 n2 : Int} {t2 : ByteArray} {p2 : Option Addr} {a2 u2 : Nat} {d2 : Bool} {i3 k3 e3 n3 : Int} {t3 : ByteArray} {p3 : Option Addr} {a3 u3 : Nat} {d3 : Bool} {q0 q1 q2 q3 q4 n : Int}
    (cZ : ∀ Y, Below w.heap.size w Y → Calls Tryz.prog 130 #[.pointer tp, .int .i64 e3] Y fun e w' => e = .returned (.tuple #[.int .i64 n, .int .i64 0]) ∧ Below Y.heap.size Y w') :
    ∀ Y, Below w.heap.size w Y → Calls Tryz.prog 114 #[.agg #[.pointer tp, .string op, .int .i64 i1, .int .i64 k1, .int .i64 e1, .int .i64 n1, .string t1, .slice p1 a1 u1, .bool d1, .int .i64 i2, .int .i64 k2, .int .i64 e2, .int .i64 n2, .string t2, .slice p2 a2 u2, .bool d2], .agg #[.int .i64 i3, .int .i64 k3, .int .i64 e3, .int .i64 n3, .string t3, .slice p3 a3 u3, .bool d3], .agg #[.int .i64 q0, .int .i64 q1, .int .i64 q2, .int .i64 q3, .int .i64 q4]] Y fun e w' => e = .returned (.tuple #[.agg #[.int .i64 q0, .int .i64 q1, .int .i64 q2, .int .i64 q3, .int .i64 n], .int .i64 0]) ∧ Below Y.heap.size Y w' := by
  intro w0 hw0
  obtain ⟨g0, g1, g2, g3, hB⟩ := four0 w0 (.cells #[.pointer tp, .string op, .int .i64 i1, .int .i64 k1, .int .i64 e1, .int .i64 n1, .string t1, .slice p1 a1 u1, .bool d1, .int .i64 i2, .int .i64 k2, .int .i64 e2, .int .i64 n2, .string t2, .slice p2 a2 u2, .bool d2] TP) (.cells #[.int .i64 i3, .int .i64 k3, .int .i64 e3, .int .i64 n3, .string t3, .slice p3 a3 u3, .bool d3] TO) (.cells #[.int .i64 q0, .int .i64 q1, .int .i64 q2, .int .i64 q3, .int .i64 q4] TOp) (.cells #[.int .i64 0, .int .i64 0, .int .i64 0, .int .i64 0, .int .i64 0] TOp)
  have c := cZ _ (hw0.trans (hB.mono hw0.size))
  have G2 : Hid (_ = _) := g2
  have G3 : Hid (_ = _) := g3
  have HB : Hid (Below _ _ _) := hB
  clear g0 g1 g2 g3 hB cZ hw0
  go_enter Tryz.func114, Tryz.ntmps114
  go_wp2_with fail
  generalize (((w0.alloc (.cells #[.pointer tp, .string op, .int .i64 i1, .int .i64 k1, .int .i64 e1, .int .i64 n1, .string t1, .slice p1 a1 u1, .bool d1, .int .i64 i2, .int .i64 k2, .int .i64 e2, .int .i64 n2, .string t2, .slice p2 a2 u2, .bool d2] TP)).alloc (.cells #[.int .i64 i3, .int .i64 k3, .int .i64 e3, .int .i64 n3, .string t3, .slice p3 a3 u3, .bool d3] TO)).alloc (.cells #[.int .i64 q0, .int .i64 q1, .int .i64 q2, .int .i64 q3, .int .i64 q4] TOp)).alloc (.cells #[.int .i64 0, .int .i64 0, .int .i64 0, .int .i64 0, .int .i64 0] TOp) = W at *
  refine c.mono ?_
  rintro e w2 ⟨rfl, hb2⟩
  have E2 := blk_b G2.out hb2
  have E3 := blk_b G3.out hb2
  have x0 := Lib.cell_of_heap E2 0
  have x1 := Lib.cell_of_heap E2 1
  have x2 := Lib.cell_of_heap E2 2
  have x3 := Lib.cell_of_heap E2 3
  have x4 := Lib.cell_of_heap E2 4
  simp only [List.getElem?_toArray, List.getElem?_cons_succ, List.getElem?_cons_zero] at x0 x1 x2 x3 x4
  have z4 : w2.frozen? ⟨w0.heap.size + 1 + 1, 4, none⟩ = false := frozen_of E2 4
  have K2 := heap_setCell (j := 4) E2 (.int .i64 n)
  have L3 : Hid ((w2.setCell ⟨w0.heap.size + 1 + 1, 4, none⟩ (.int .i64 n)).heap[w0.heap.size + 1 + 1 + 1]? = some (.cells #[.int .i64 0, .int .i64 0, .int .i64 0, .int .i64 0, .int .i64 0] TOp (0, 0))) := (heap_setCell_other w2 ⟨w0.heap.size + 1 + 1, 4, none⟩ _ (.int .i64 n) (by show w0.heap.size + 1 + 1 + 1 ≠ w0.heap.size + 1 + 1; omega)).trans E3
  have y0 := Lib.cell_of_heap K2 0
  have y1 := Lib.cell_of_heap K2 1
  have y2 := Lib.cell_of_heap K2 2
  have y3 := Lib.cell_of_heap K2 3
  have y4 := Lib.cell_of_heap K2 4
  simp only [List.setIfInBounds_toArray, List.set_cons_zero, List.set_cons_succ, List.getElem?_toArray, List.getElem?_cons_succ, List.getElem?_cons_zero] at y0 y1 y2 y3 y4
  have HB2 : Hid (Below w0.heap.size w0 (w2.setCell ⟨w0.heap.size + 1 + 1, 4, none⟩ (.int .i64 n))) := (HB.out.trans (hb2.mono HB.out.size)).setCell (by show w0.heap.size ≤ w0.heap.size + 1 + 1; omega) _
  clear c hb2 G2 G3 E2 E3 K2 HB
  go_wp2_with ((with_reducible apply step_store L3.out); rfl; rfl; kernel_rfl; rfl; kernel_rfl)
  refine ret_op (p := 6) (q := 7) rfl rfl (setRow_heap _ _ _ _ _ _ L3.out) rfl ?_
  exact ⟨rfl, below_setRow HB2.out (by omega) _⟩
end
end Go.Proofs.YtpnpilbmhkiphaaGreatDoor
