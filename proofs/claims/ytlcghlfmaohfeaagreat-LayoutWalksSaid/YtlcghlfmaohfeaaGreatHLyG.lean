/-
  The small functions of package layout, more: spot, isRecord.
-/
import Derived.Test.YtlcghlfmaohfeaaGreatHLyF
import Derived.Test.YtlcghlfmaohfeaaGreatHCopyRows
namespace Go.Proofs.YtlcghlfmaohfeaaGreat
open Go.RowKit Go.Maps
set_option linter.unusedVariables false
set_option maxRecDepth 100000
theorem ret_c1 {fn : Func} {R : Ending → World → Prop} {tmps : Array Value} {w : World} {g p : Nat} {cs : Array Value} {ty : TypeId}
    (hres : fn.results = #[.cell p ty]) (hp : tmps.getD p undef = .pointer (some ⟨g, 0, none⟩)) (hl : (loadVar ty ⟨g, 0, none⟩).run Tryz.prog w = .ok (.agg cs) w)
    (hR : R (.returned (.agg cs)) w) : bodyPost Tryz.prog fn R .ret ⟨tmps, []⟩ w := by
  refine bodyPost_ret ?_ rfl hR
  rw [results_cell1 hres]
  simp only [hp]
  simp [asAddr, Result.andThen, hl]
theorem load_X {w : World} {g : Nat} {cs : Array Value} (hg : w.heap[g]? = some (.cells cs TX (0, 0))) (hcs : cs.size = 2) : (loadVar TX ⟨g, 0, none⟩).run Tryz.prog w = .ok (.agg cs) w :=
  run_loadVar_row (P := Tryz.prog) w g TX TX cs (0, 0) _ hg Tryz.underlying78 rfl (by rw [hcs]; kernel_rfl)
theorem load_Pl {w : World} {g : Nat} {cs : Array Value} (hg : w.heap[g]? = some (.cells cs TPl (0, 0))) (hcs : cs.size = 5) : (loadVar TPl ⟨g, 0, none⟩).run Tryz.prog w = .ok (.agg cs) w :=
  run_loadVar_row (P := Tryz.prog) w g TPl TPl cs (0, 0) _ hg Tryz.underlying39 rfl (by rw [hcs]; kernel_rfl)
theorem blk_b {w w' : World} {g : Nat} {o : Obj} (h : w.heap[g]? = some o) (hb : Below w.heap.size w w') : w'.heap[g]? = some o := (hb.block _ (lt_of_heap h)).trans h
theorem below1 (w : World) (o : Obj) : Below w.heap.size w (w.alloc o) := (Below.refl _ w).alloc (Nat.le_refl _) _
abbrev plV (p : Pl) : Array Value := #[.int .i64 p.mem, .int .i64 p.type, .int .i64 p.off, .int .i64 p.bit, .int .i64 p.bits]
theorem isRec_c (r : Rw) (p : Option Addr) (a u : Nat) (w : World) :
    Calls Tryz.prog 61 #[.agg #[.int .i64 r.kind, .int .i64 r.elem, .int .i64 r.len, .string r.tag, .slice p a u, .bool r.done]] w fun e w' => e = .returned (.bool (recK r.kind)) ∧ Below w.heap.size w w' := by
  obtain ⟨kd, el, ln, tg, mm, dn⟩ := r
  simp only
  have HB : Hid (∀ o, Below w.heap.size w (w.alloc o)) := fun o => below1 w o
  go_enter Tryz.func61, Tryz.ntmps61
  go_wp2
  all_goals go_ret
  all_goals refine ⟨bool_ret ?_, HB.out _⟩
  all_goals (rw [Bool.eq_iff_iff]; simp [recK]; try omega)
theorem below5 {B g : Nat} {a w : World} {x0 x1 x2 x3 x4 : Value} (h : Below B a w) (hg : B ≤ g) : Below B a (((((w.setCell ⟨g, 0, none⟩ x0).setCell ⟨g, 1, none⟩ x1).setCell ⟨g, 2, none⟩ x2).setCell ⟨g, 3, none⟩ x3).setCell ⟨g, 4, none⟩ x4) :=
  ((((h.setCell (p := ⟨g, 0, none⟩) hg _).setCell (p := ⟨g, 1, none⟩) hg _).setCell (p := ⟨g, 2, none⟩) hg _).setCell (p := ⟨g, 3, none⟩) hg _).setCell (p := ⟨g, 4, none⟩) hg _
theorem five_set {Y : World} {g : Nat} {d : Array Value} {T : TypeId} {x0 x1 x2 x3 x4 : Value} (hd : d.size = 5) (h : Y.heap[g]? = some (.cells d T (0, 0))) :
    (((((Y.setCell ⟨g, 0, none⟩ x0).setCell ⟨g, 1, none⟩ x1).setCell ⟨g, 2, none⟩ x2).setCell ⟨g, 3, none⟩ x3).setCell ⟨g, 4, none⟩ x4).heap[g]? = some (.cells #[x0, x1, x2, x3, x4] T (0, 0)) := by
  have e := heap_setCell (j := 4) (heap_setCell (j := 3) (heap_setCell (j := 2) (heap_setCell (j := 1) (heap_setCell (j := 0) h x0) x1) x2) x3) x4
  rw [e]
  obtain ⟨l⟩ := d
  rcases l with _ | ⟨a, _ | ⟨b, _ | ⟨c, _ | ⟨f, _ | ⟨k, _ | ⟨z, r⟩⟩⟩⟩⟩⟩ <;> simp at hd ⊢
set_option maxHeartbeats 4000000 in
theorem spot_w (p : Int) (nm : ByteArray) (ty bt : Int) (e : Ex) (w : World) (h : ExOK e) (hp0 : 0 ≤ p) (hp1 : p ≤ 60000000) :
    Calls Tryz.prog 63 #[.int .i64 p, .agg #[.string nm, .int .i64 ty, .int .i64 (-1)], .agg #[.int .i64 e.size, .int .i64 e.align]] w fun r w' => r = .returned (.agg #[.int .i64 0, .int .i64 ty, .int .i64 (p / 8), .int .i64 0, .int .i64 0]) ∧ Below w.heap.size w w' := by
  have h1 := h.lo
  have h2 := h.hi
  have cI := fun W => inBits_c e.size W (by omega) (by omega)
  have hz : ((w.alloc (.cells #[.string nm, .int .i64 ty, .int .i64 (-1)] TM)).alloc (.cells #[.int .i64 e.size, .int .i64 e.align] TX)).heap.size = w.heap.size + 2 := by simp
  have hb3 := below1 ((w.alloc (.cells #[.string nm, .int .i64 ty, .int .i64 (-1)] TM)).alloc (.cells #[.int .i64 e.size, .int .i64 e.align] TX)) (.cells #[.int .i64 0, .int .i64 0, .int .i64 0, .int .i64 0, .int .i64 0] TPl)
  have E0 := blk_b (heap_s1 w (.cells #[.string nm, .int .i64 ty, .int .i64 (-1)] TM) (.cells #[.int .i64 e.size, .int .i64 e.align] TX)) hb3
  have E1 := blk_b (heap_s2 w (.cells #[.string nm, .int .i64 ty, .int .i64 (-1)] TM) (.cells #[.int .i64 e.size, .int .i64 e.align] TX)) hb3
  have E2 := heap_r0 ((w.alloc (.cells #[.string nm, .int .i64 ty, .int .i64 (-1)] TM)).alloc (.cells #[.int .i64 e.size, .int .i64 e.align] TX)) (.cells #[.int .i64 0, .int .i64 0, .int .i64 0, .int .i64 0, .int .i64 0] TPl)
  rw [hz] at E2
  have HB : Hid (Below w.heap.size w (((w.alloc (.cells #[.string nm, .int .i64 ty, .int .i64 (-1)] TM)).alloc (.cells #[.int .i64 e.size, .int .i64 e.align] TX)).alloc (.cells #[.int .i64 0, .int .i64 0, .int .i64 0, .int .i64 0, .int .i64 0] TPl))) := (two_boxes w _ _ _ _).trans (hb3.mono (by rw [hz]; omega))
  have hb1 : ∀ (x y : Int) (W : World), (Instr.build TPl #[(1, .int .i64 x), (2, .int .i64 y)]).run Tryz.prog W = .ok (.agg #[.int .i64 0, .int .i64 x, .int .i64 y, .int .i64 0, .int .i64 0]) W := fun x y W => by kernel_rfl
  have hb2 : ∀ (x y z u : Int) (W : World), (Instr.build TPl #[(1, .int .i64 x), (2, .int .i64 y), (3, .int .i64 z), (4, .int .i64 u)]).run Tryz.prog W = .ok (.agg #[.int .i64 0, .int .i64 x, .int .i64 y, .int .i64 z, .int .i64 u]) W := fun x y z u W => by kernel_rfl
  clear hb3 hz
  go_enter Tryz.func63, Tryz.ntmps63
  go_upto_region 1 with (fail)
  refine (?_ : Code.wp _ _ _ _ (((w.alloc (.cells #[.string nm, .int .i64 ty, .int .i64 (-1)] TM)).alloc (.cells #[.int .i64 e.size, .int .i64 e.align] TX)).alloc (.cells #[.int .i64 0, .int .i64 0, .int .i64 0, .int .i64 0, .int .i64 0] TPl)))
  generalize ((w.alloc (.cells #[.string nm, .int .i64 ty, .int .i64 (-1)] TM)).alloc (.cells #[.int .i64 e.size, .int .i64 e.align] TX)).alloc (.cells #[.int .i64 0, .int .i64 0, .int .i64 0, .int .i64 0, .int .i64 0] TPl) = W at *
  have a1 : W.cell? ⟨w.heap.size, 1, none⟩ = some (.int .i64 ty) := by rw [Lib.cell_of_heap E0]; rfl
  have a2 : W.cell? ⟨w.heap.size, 2, none⟩ = some (.int .i64 (-1)) := by rw [Lib.cell_of_heap E0]; rfl
  have b0 : W.cell? ⟨w.heap.size + 1, 0, none⟩ = some (.int .i64 e.size) := by rw [Lib.cell_of_heap E1]; rfl
  have HE2 : Hid (_ = _) := E2
  clear E0 E1
  go_wp2_with ((with_reducible apply step_store E2); rfl; rfl; kernel_rfl; rfl; kernel_rfl)
  refine ret_c1 (p := 6) rfl rfl (load_Pl (setRow_heap _ _ _ _ _ _ HE2.out) rfl) ?_
  exact ⟨rfl, below_setRow HB.out (by omega) _⟩
set_option maxHeartbeats 4000000 in
theorem spot_b (p : Int) (nm : ByteArray) (ty bt : Int) (e : Ex) (w : World) (h : ExOK e) (hp0 : 0 ≤ p) (hp1 : p ≤ 60000000) (b1 : (bt == -1) = false) :
    Calls Tryz.prog 63 #[.int .i64 p, .agg #[.string nm, .int .i64 ty, .int .i64 bt], .agg #[.int .i64 e.size, .int .i64 e.align]] w fun r w' => r = .returned (.agg #[.int .i64 0, .int .i64 ty, .int .i64 (e.size * (p / (8 * e.size))), .int .i64 (p % (8 * e.size)), .int .i64 bt]) ∧ Below w.heap.size w w' := by
  have h1 := h.lo
  have h2 := h.hi
  have cI := fun W => inBits_c e.size W (by omega) (by omega)
  have hz : ((w.alloc (.cells #[.string nm, .int .i64 ty, .int .i64 bt] TM)).alloc (.cells #[.int .i64 e.size, .int .i64 e.align] TX)).heap.size = w.heap.size + 2 := by simp
  have hb3 := below1 ((w.alloc (.cells #[.string nm, .int .i64 ty, .int .i64 bt] TM)).alloc (.cells #[.int .i64 e.size, .int .i64 e.align] TX)) (.cells #[.int .i64 0, .int .i64 0, .int .i64 0, .int .i64 0, .int .i64 0] TPl)
  have E0 := blk_b (heap_s1 w (.cells #[.string nm, .int .i64 ty, .int .i64 bt] TM) (.cells #[.int .i64 e.size, .int .i64 e.align] TX)) hb3
  have E1 := blk_b (heap_s2 w (.cells #[.string nm, .int .i64 ty, .int .i64 bt] TM) (.cells #[.int .i64 e.size, .int .i64 e.align] TX)) hb3
  have E2 := heap_r0 ((w.alloc (.cells #[.string nm, .int .i64 ty, .int .i64 bt] TM)).alloc (.cells #[.int .i64 e.size, .int .i64 e.align] TX)) (.cells #[.int .i64 0, .int .i64 0, .int .i64 0, .int .i64 0, .int .i64 0] TPl)
  rw [hz] at E2
  have HB : Hid (Below w.heap.size w (((w.alloc (.cells #[.string nm, .int .i64 ty, .int .i64 bt] TM)).alloc (.cells #[.int .i64 e.size, .int .i64 e.align] TX)).alloc (.cells #[.int .i64 0, .int .i64 0, .int .i64 0, .int .i64 0, .int .i64 0] TPl))) := (two_boxes w _ _ _ _).trans (hb3.mono (by rw [hz]; omega))
  have hb1 : ∀ (x y : Int) (W : World), (Instr.build TPl #[(1, .int .i64 x), (2, .int .i64 y)]).run Tryz.prog W = .ok (.agg #[.int .i64 0, .int .i64 x, .int .i64 y, .int .i64 0, .int .i64 0]) W := fun x y W => by kernel_rfl
  have hb2 : ∀ (x y z u : Int) (W : World), (Instr.build TPl #[(1, .int .i64 x), (2, .int .i64 y), (3, .int .i64 z), (4, .int .i64 u)]).run Tryz.prog W = .ok (.agg #[.int .i64 0, .int .i64 x, .int .i64 y, .int .i64 z, .int .i64 u]) W := fun x y z u W => by kernel_rfl
  clear hb3 hz
  go_enter Tryz.func63, Tryz.ntmps63
  go_upto_region 1 with (fail)
  refine (?_ : Code.wp _ _ _ _ (((w.alloc (.cells #[.string nm, .int .i64 ty, .int .i64 bt] TM)).alloc (.cells #[.int .i64 e.size, .int .i64 e.align] TX)).alloc (.cells #[.int .i64 0, .int .i64 0, .int .i64 0, .int .i64 0, .int .i64 0] TPl)))
  generalize ((w.alloc (.cells #[.string nm, .int .i64 ty, .int .i64 bt] TM)).alloc (.cells #[.int .i64 e.size, .int .i64 e.align] TX)).alloc (.cells #[.int .i64 0, .int .i64 0, .int .i64 0, .int .i64 0, .int .i64 0] TPl) = W at *
  have a1 : W.cell? ⟨w.heap.size, 1, none⟩ = some (.int .i64 ty) := by rw [Lib.cell_of_heap E0]; rfl
  have a2 : W.cell? ⟨w.heap.size, 2, none⟩ = some (.int .i64 bt) := by rw [Lib.cell_of_heap E0]; rfl
  have b0 : W.cell? ⟨w.heap.size + 1, 0, none⟩ = some (.int .i64 e.size) := by rw [Lib.cell_of_heap E1]; rfl
  have HE2 : Hid (_ = _) := E2
  have d1 := Int.ediv_nonneg hp0 (show 0 ≤ 8 * e.size by omega)
  have d2 := Int.ediv_le_self (8 * e.size) hp0
  have d3 := Int.emod_nonneg p (show 8 * e.size ≠ 0 by omega)
  have d4 := Int.emod_lt_of_pos p (show 0 < 8 * e.size by omega)
  have hne : ¬ 8 * e.size = 0 := by omega
  have hml : 0 ≤ e.size * (p / (8 * e.size)) ∧ e.size * (p / (8 * e.size)) ≤ 60000000 := by
    have q := Int.mul_ediv_add_emod p (8 * e.size)
    rw [Int.mul_assoc] at q
    have := Int.mul_nonneg (show 0 ≤ e.size by omega) d1
    omega
  have x0 := Lib.cell_of_heap E2 0
  have x1 := Lib.cell_of_heap E2 1
  have x2 := Lib.cell_of_heap E2 2
  have x3 := Lib.cell_of_heap E2 3
  have x4 := Lib.cell_of_heap E2 4
  simp only [List.getElem?_toArray, List.getElem?_cons_succ, List.getElem?_cons_zero] at x0 x1 x2 x3 x4
  have f0 := frozen_of E2 0
  have f1 := frozen_of E2 1
  have f2 := frozen_of E2 2
  have f3 := frozen_of E2 3
  have f4 := frozen_of E2 4
  clear E0 E1 E2
  go_wp2_with fail
  refine (cI _).mono ?_; rintro r w' ⟨rfl, hw⟩; rw [hw]; clear hw w' cI
  go_wp2
  go_region
  go_wp2
  refine ret_c1 (p := 6) rfl rfl (load_Pl (five_set rfl HE2.out) rfl) ?_
  exact ⟨rfl, below5 HB.out.drew (by omega)⟩
theorem spot_c (p : Int) (m : Mb) (e : Ex) (w : World) (h : ExOK e) (hp0 : 0 ≤ p) (hp1 : p ≤ 60000000) :
    Calls Tryz.prog 63 #[.int .i64 p, .agg #[.string m.name, .int .i64 m.type, .int .i64 m.bits], .agg #[.int .i64 e.size, .int .i64 e.align]] w fun r w' => r = .returned (.agg (plV (spotP p 0 m e))) ∧ Below w.heap.size w w' := by
  unfold spotP
  by_cases hb : m.bits = -1
  · rw [if_pos hb, hb]
    exact spot_w p m.name m.type 0 e w h hp0 hp1
  · rw [if_neg hb]
    exact spot_b p m.name m.type m.bits e w h hp0 hp1 (by simpa using hb)
end Go.Proofs.YtlcghlfmaohfeaaGreat
