/-
  Where a member begins.
-/
import Derived.Test.YtlcghlfmaohfeaaGreatHLyF
namespace Go.Proofs.YtlcghlfmaohfeaaGreat
open Go.RowKit Go.Maps
set_option linter.unusedVariables false
set_option maxRecDepth 100000
set_option maxHeartbeats 4000000 in
theorem begin_w (p : Int) (nm : ByteArray) (ty bt : Int) (e : Ex) (w : World) (h : ExOK e) (hp0 : 0 ≤ p) (hp1 : p ≤ 50000000)  : Calls Tryz.prog 62 #[.int .i64 p, .agg #[.string nm, .int .i64 ty, .int .i64 (-1)], .agg #[.int .i64 e.size, .int .i64 e.align]] w fun r w' => r = .returned (.int .i64 (rup p (8 * e.align))) ∧ Below w.heap.size w w' := by
  have h1 := h.lo
  have h2 := h.hi
  have h3 := h.al
  have cI := fun W => inBits_c e.size W (by omega) (by omega)
  have cJ := fun W => inBits_c e.align W (by omega) (by omega)
  have cR := fun W => roundUpB_c p (8 * e.size) W hp0 (by omega) (by omega) (by omega)
  have cQ := fun W => roundUpB_c p (8 * e.align) W hp0 (by omega) (by omega) (by omega)
  have HB2 : Hid (Below w.heap.size w ((w.alloc (.cells #[.string nm, .int .i64 ty, .int .i64 (-1)] TM)).alloc (.cells #[.int .i64 e.size, .int .i64 e.align] TX))) := two_boxes w _ _ _ _
  have c0 : ((w.alloc (.cells #[.string nm, .int .i64 ty, .int .i64 (-1)] TM)).alloc (.cells #[.int .i64 e.size, .int .i64 e.align] TX)).cell? ⟨w.heap.size, 2, none⟩ = some (.int .i64 (-1)) := by rw [Lib.cell_of_heap (heap_s1 w _ _)]; rfl
  have c1 : ((w.alloc (.cells #[.string nm, .int .i64 ty, .int .i64 (-1)] TM)).alloc (.cells #[.int .i64 e.size, .int .i64 e.align] TX)).cell? ⟨w.heap.size + 1, 0, none⟩ = some (.int .i64 e.size) := by rw [Lib.cell_of_heap (heap_s2 w _ _)]; rfl
  have c2 : ((w.alloc (.cells #[.string nm, .int .i64 ty, .int .i64 (-1)] TM)).alloc (.cells #[.int .i64 e.size, .int .i64 e.align] TX)).cell? ⟨w.heap.size + 1, 1, none⟩ = some (.int .i64 e.align) := by rw [Lib.cell_of_heap (heap_s2 w _ _)]; rfl
  go_enter Tryz.func62, Tryz.ntmps62
  go_upto_region 1 with (fail)
  refine (?_ : Code.wp _ _ _ _ ((w.alloc (.cells #[.string nm, .int .i64 ty, .int .i64 (-1)] TM)).alloc (.cells #[.int .i64 e.size, .int .i64 e.align] TX)))
  generalize ((w.alloc (.cells #[.string nm, .int .i64 ty, .int .i64 (-1)] TM)).alloc (.cells #[.int .i64 e.size, .int .i64 e.align] TX)) = W at *
  go_wp2_with fail
  refine (cI _).mono ?_; rintro r w' ⟨rfl, hw⟩; rw [hw]; clear hw w' cI
  go_wp2_with fail
  refine (cJ _).mono ?_; rintro r w' ⟨rfl, hw⟩; rw [hw]; clear hw w' cJ
  go_wp2_with fail
  refine (cQ _).mono ?_; rintro r w' ⟨rfl, hw⟩; rw [hw]; clear hw w' cQ
  go_wp2
  go_ret
  exact ⟨rfl, HB2.out⟩
set_option maxHeartbeats 4000000 in
theorem begin_0 (p : Int) (nm : ByteArray) (ty bt : Int) (e : Ex) (w : World) (h : ExOK e) (hp0 : 0 ≤ p) (hp1 : p ≤ 50000000)  : Calls Tryz.prog 62 #[.int .i64 p, .agg #[.string nm, .int .i64 ty, .int .i64 0], .agg #[.int .i64 e.size, .int .i64 e.align]] w fun r w' => r = .returned (.int .i64 (rup p (8 * e.size))) ∧ Below w.heap.size w w' := by
  have h1 := h.lo
  have h2 := h.hi
  have h3 := h.al
  have cI := fun W => inBits_c e.size W (by omega) (by omega)
  have cJ := fun W => inBits_c e.align W (by omega) (by omega)
  have cR := fun W => roundUpB_c p (8 * e.size) W hp0 (by omega) (by omega) (by omega)
  have cQ := fun W => roundUpB_c p (8 * e.align) W hp0 (by omega) (by omega) (by omega)
  have HB2 : Hid (Below w.heap.size w ((w.alloc (.cells #[.string nm, .int .i64 ty, .int .i64 0] TM)).alloc (.cells #[.int .i64 e.size, .int .i64 e.align] TX))) := two_boxes w _ _ _ _
  have c0 : ((w.alloc (.cells #[.string nm, .int .i64 ty, .int .i64 0] TM)).alloc (.cells #[.int .i64 e.size, .int .i64 e.align] TX)).cell? ⟨w.heap.size, 2, none⟩ = some (.int .i64 0) := by rw [Lib.cell_of_heap (heap_s1 w _ _)]; rfl
  have c1 : ((w.alloc (.cells #[.string nm, .int .i64 ty, .int .i64 0] TM)).alloc (.cells #[.int .i64 e.size, .int .i64 e.align] TX)).cell? ⟨w.heap.size + 1, 0, none⟩ = some (.int .i64 e.size) := by rw [Lib.cell_of_heap (heap_s2 w _ _)]; rfl
  have c2 : ((w.alloc (.cells #[.string nm, .int .i64 ty, .int .i64 0] TM)).alloc (.cells #[.int .i64 e.size, .int .i64 e.align] TX)).cell? ⟨w.heap.size + 1, 1, none⟩ = some (.int .i64 e.align) := by rw [Lib.cell_of_heap (heap_s2 w _ _)]; rfl
  go_enter Tryz.func62, Tryz.ntmps62
  go_upto_region 1 with (fail)
  refine (?_ : Code.wp _ _ _ _ ((w.alloc (.cells #[.string nm, .int .i64 ty, .int .i64 0] TM)).alloc (.cells #[.int .i64 e.size, .int .i64 e.align] TX)))
  generalize ((w.alloc (.cells #[.string nm, .int .i64 ty, .int .i64 0] TM)).alloc (.cells #[.int .i64 e.size, .int .i64 e.align] TX)) = W at *
  go_wp2_with fail
  refine (cI _).mono ?_; rintro r w' ⟨rfl, hw⟩; rw [hw]; clear hw w' cI
  go_wp2_with fail
  refine (cR _).mono ?_; rintro r w' ⟨rfl, hw⟩; rw [hw]; clear hw w' cR
  go_wp2
  go_ret
  exact ⟨rfl, HB2.out⟩
set_option maxHeartbeats 4000000 in
theorem begin_s (p : Int) (nm : ByteArray) (ty bt : Int) (e : Ex) (w : World) (h : ExOK e) (hp0 : 0 ≤ p) (hp1 : p ≤ 50000000) (b1 : (bt == -1) = false) (b2 : (bt == 0) = false) (hb0 : 0 < bt) (hb1 : bt ≤ 8 * e.size) (t1 : (p / (8 * e.size) != (p + bt - 1) / (8 * e.size)) = false) : Calls Tryz.prog 62 #[.int .i64 p, .agg #[.string nm, .int .i64 ty, .int .i64 bt], .agg #[.int .i64 e.size, .int .i64 e.align]] w fun r w' => r = .returned (.int .i64 (p)) ∧ Below w.heap.size w w' := by
  have h1 := h.lo
  have h2 := h.hi
  have h3 := h.al
  have cI := fun W => inBits_c e.size W (by omega) (by omega)
  have cJ := fun W => inBits_c e.align W (by omega) (by omega)
  have cR := fun W => roundUpB_c p (8 * e.size) W hp0 (by omega) (by omega) (by omega)
  have cQ := fun W => roundUpB_c p (8 * e.align) W hp0 (by omega) (by omega) (by omega)
  have HB2 : Hid (Below w.heap.size w ((w.alloc (.cells #[.string nm, .int .i64 ty, .int .i64 bt] TM)).alloc (.cells #[.int .i64 e.size, .int .i64 e.align] TX))) := two_boxes w _ _ _ _
  have c0 : ((w.alloc (.cells #[.string nm, .int .i64 ty, .int .i64 bt] TM)).alloc (.cells #[.int .i64 e.size, .int .i64 e.align] TX)).cell? ⟨w.heap.size, 2, none⟩ = some (.int .i64 bt) := by rw [Lib.cell_of_heap (heap_s1 w _ _)]; rfl
  have c1 : ((w.alloc (.cells #[.string nm, .int .i64 ty, .int .i64 bt] TM)).alloc (.cells #[.int .i64 e.size, .int .i64 e.align] TX)).cell? ⟨w.heap.size + 1, 0, none⟩ = some (.int .i64 e.size) := by rw [Lib.cell_of_heap (heap_s2 w _ _)]; rfl
  have c2 : ((w.alloc (.cells #[.string nm, .int .i64 ty, .int .i64 bt] TM)).alloc (.cells #[.int .i64 e.size, .int .i64 e.align] TX)).cell? ⟨w.heap.size + 1, 1, none⟩ = some (.int .i64 e.align) := by rw [Lib.cell_of_heap (heap_s2 w _ _)]; rfl
  go_enter Tryz.func62, Tryz.ntmps62
  go_upto_region 1 with (fail)
  refine (?_ : Code.wp _ _ _ _ ((w.alloc (.cells #[.string nm, .int .i64 ty, .int .i64 bt] TM)).alloc (.cells #[.int .i64 e.size, .int .i64 e.align] TX)))
  generalize ((w.alloc (.cells #[.string nm, .int .i64 ty, .int .i64 bt] TM)).alloc (.cells #[.int .i64 e.size, .int .i64 e.align] TX)) = W at *
  go_wp2_with fail
  refine (cI _).mono ?_; rintro r w' ⟨rfl, hw⟩; rw [hw]; clear hw w' cI
  have d1 := Int.ediv_nonneg hp0 (show 0 ≤ 8 * e.size by omega)
  have d2 := Int.ediv_nonneg (show 0 ≤ p + bt - 1 by omega) (show 0 ≤ 8 * e.size by omega)
  have d3 := Int.ediv_le_self (8 * e.size) hp0
  have d4 := Int.ediv_le_self (8 * e.size) (show 0 ≤ p + bt - 1 by omega)
  have hne : ¬ 8 * e.size = 0 := by omega
  have hpp : 0 ≤ p + bt - 1 := by omega
  go_wp2
  go_region
  go_wp2
  go_ret
  exact ⟨rfl, HB2.out.drew⟩
set_option maxHeartbeats 4000000 in
theorem begin_n (p : Int) (nm : ByteArray) (ty bt : Int) (e : Ex) (w : World) (h : ExOK e) (hp0 : 0 ≤ p) (hp1 : p ≤ 50000000) (b1 : (bt == -1) = false) (b2 : (bt == 0) = false) (hb0 : 0 < bt) (hb1 : bt ≤ 8 * e.size) (t1 : (p / (8 * e.size) != (p + bt - 1) / (8 * e.size)) = true) : Calls Tryz.prog 62 #[.int .i64 p, .agg #[.string nm, .int .i64 ty, .int .i64 bt], .agg #[.int .i64 e.size, .int .i64 e.align]] w fun r w' => r = .returned (.int .i64 (rup p (8 * e.size))) ∧ Below w.heap.size w w' := by
  have h1 := h.lo
  have h2 := h.hi
  have h3 := h.al
  have cI := fun W => inBits_c e.size W (by omega) (by omega)
  have cJ := fun W => inBits_c e.align W (by omega) (by omega)
  have cR := fun W => roundUpB_c p (8 * e.size) W hp0 (by omega) (by omega) (by omega)
  have cQ := fun W => roundUpB_c p (8 * e.align) W hp0 (by omega) (by omega) (by omega)
  have HB2 : Hid (Below w.heap.size w ((w.alloc (.cells #[.string nm, .int .i64 ty, .int .i64 bt] TM)).alloc (.cells #[.int .i64 e.size, .int .i64 e.align] TX))) := two_boxes w _ _ _ _
  have c0 : ((w.alloc (.cells #[.string nm, .int .i64 ty, .int .i64 bt] TM)).alloc (.cells #[.int .i64 e.size, .int .i64 e.align] TX)).cell? ⟨w.heap.size, 2, none⟩ = some (.int .i64 bt) := by rw [Lib.cell_of_heap (heap_s1 w _ _)]; rfl
  have c1 : ((w.alloc (.cells #[.string nm, .int .i64 ty, .int .i64 bt] TM)).alloc (.cells #[.int .i64 e.size, .int .i64 e.align] TX)).cell? ⟨w.heap.size + 1, 0, none⟩ = some (.int .i64 e.size) := by rw [Lib.cell_of_heap (heap_s2 w _ _)]; rfl
  have c2 : ((w.alloc (.cells #[.string nm, .int .i64 ty, .int .i64 bt] TM)).alloc (.cells #[.int .i64 e.size, .int .i64 e.align] TX)).cell? ⟨w.heap.size + 1, 1, none⟩ = some (.int .i64 e.align) := by rw [Lib.cell_of_heap (heap_s2 w _ _)]; rfl
  go_enter Tryz.func62, Tryz.ntmps62
  go_upto_region 1 with (fail)
  refine (?_ : Code.wp _ _ _ _ ((w.alloc (.cells #[.string nm, .int .i64 ty, .int .i64 bt] TM)).alloc (.cells #[.int .i64 e.size, .int .i64 e.align] TX)))
  generalize ((w.alloc (.cells #[.string nm, .int .i64 ty, .int .i64 bt] TM)).alloc (.cells #[.int .i64 e.size, .int .i64 e.align] TX)) = W at *
  go_wp2_with fail
  refine (cI _).mono ?_; rintro r w' ⟨rfl, hw⟩; rw [hw]; clear hw w' cI
  have d1 := Int.ediv_nonneg hp0 (show 0 ≤ 8 * e.size by omega)
  have d2 := Int.ediv_nonneg (show 0 ≤ p + bt - 1 by omega) (show 0 ≤ 8 * e.size by omega)
  have d3 := Int.ediv_le_self (8 * e.size) hp0
  have d4 := Int.ediv_le_self (8 * e.size) (show 0 ≤ p + bt - 1 by omega)
  have hne : ¬ 8 * e.size = 0 := by omega
  have hpp : 0 ≤ p + bt - 1 := by omega
  go_wp2
  go_region
  go_wp2_with fail
  refine (cR _).mono ?_; rintro r w' ⟨rfl, hw⟩; rw [hw]; clear hw w' cR
  go_wp2
  go_ret
  exact ⟨rfl, HB2.out.drew⟩
theorem begin_c (p : Int) (m : Mb) (e : Ex) (w : World) (h : ExOK e) (hp0 : 0 ≤ p) (hp1 : p ≤ 50000000) (hb : BitsOK m e) : Calls Tryz.prog 62 #[.int .i64 p, .agg #[.string m.name, .int .i64 m.type, .int .i64 m.bits], .agg #[.int .i64 e.size, .int .i64 e.align]] w fun r w' => r = .returned (.int .i64 (beginP p m e)) ∧ Below w.heap.size w w' := by
  unfold beginP
  by_cases g1 : m.bits = -1
  · rw [if_pos g1, g1]
    exact begin_w p m.name m.type 0 e w h hp0 hp1
  · rw [if_neg g1]
    have hbb : 0 ≤ m.bits ∧ m.bits ≤ 8 * e.size := by rcases hb with hb | hb; exact absurd hb g1; exact hb
    by_cases g2 : m.bits = 0
    · rw [if_pos (Or.inl g2), g2]
      exact begin_0 p m.name m.type 0 e w h hp0 hp1
    · by_cases g3 : p / (8 * e.size) = (p + m.bits - 1) / (8 * e.size)
      · rw [if_neg (by rintro (q | q); exact g2 q; exact q g3)]
        exact begin_s p m.name m.type m.bits e w h hp0 hp1 (by simpa using g1) (by simpa using g2) (by omega) hbb.2 (by simpa using g3)
      · rw [if_pos (Or.inr g3)]
        exact begin_n p m.name m.type m.bits e w h hp0 hp1 (by simpa using g1) (by simpa using g2) (by omega) hbb.2 (by simpa using g3)
end Go.Proofs.YtlcghlfmaohfeaaGreat
