/-
  The small functions of package layout: inBits, roundUp, begin, taken, spot.
-/
import Derived.Test.YtlcghlfmaohfeaaGreatHIsnamed
import Derived.Test.YtlcghlfmaohfeaaGreatHRefEq
import Derived.Deep.QuietTactic
import Derived.BigQuiet
namespace Go.Proofs.YtlcghlfmaohfeaaGreat
open Go.RowKit Go.Maps
set_option linter.unusedVariables false
set_option maxRecDepth 100000
abbrev TX : TypeId := 78
abbrev TPl : TypeId := 39
theorem inBits_c (n : Int) (w : World) (h0 : 0 ≤ n) (h1 : n ≤ 1000000) : Calls Tryz.prog 90 #[.int .i64 n] w fun e w' => e = .returned (.int .i64 (8 * n)) ∧ w' = w := by
  go_enter Tryz.func90, Tryz.ntmps90
  go_wp2
  go_ret
  exact ⟨rfl, rfl⟩
theorem rup_max {n step : Int} (h0 : 0 ≤ n) (h1 : n ≤ 100000000) (s0 : 1 ≤ step) (s1 : step ≤ 200000) : 0 ≤ (n + step - 1) / step ∧ (n + step - 1) / step ≤ 100200000 ∧ 0 ≤ (n + step - 1) / step * step ∧ (n + step - 1) / step * step ≤ 100200000 := by
  have e := rup_bd n step h0 s0
  unfold rup at e
  have q0 := Int.ediv_nonneg (show 0 ≤ n + step - 1 by omega) (show 0 ≤ step by omega)
  have q1 := Int.ediv_le_self step (show 0 ≤ n + step - 1 by omega)
  omega
theorem roundUpB_c (n step : Int) (w : World) (h0 : 0 ≤ n) (h1 : n ≤ 100000000) (s0 : 1 ≤ step) (s1 : step ≤ 200000) : Calls Tryz.prog 65 #[.int .i64 n, .int .i64 step] w fun e w' => e = .returned (.int .i64 (rup n step)) ∧ w' = w := by
  obtain ⟨a1, a2, a3, a4⟩ := rup_max h0 h1 s0 s1
  have hne : ¬ step = 0 := by omega
  unfold rup
  go_enter Tryz.func65, Tryz.ntmps65
  go_wp2
  go_ret
  exact ⟨rfl, rfl⟩
theorem roundUpI_c (n step : Int) (w : World) (h0 : 0 ≤ n) (h1 : n ≤ 100000000) (s0 : 1 ≤ step) (s1 : step ≤ 200000) : Calls Tryz.prog 66 #[.int .i64 n, .int .i64 step] w fun e w' => e = .returned (.int .i64 (rup n step)) ∧ w' = w := by
  obtain ⟨a1, a2, a3, a4⟩ := rup_max h0 h1 s0 s1
  have hne : ¬ step = 0 := by omega
  unfold rup
  go_enter Tryz.func66, Tryz.ntmps66
  go_wp2
  go_ret
  exact ⟨rfl, rfl⟩
theorem below_drewN' {B : Nat} {a w : World} (h : Below B a w) (n : Nat) : Below B a (w.drewN n) := ⟨h.os, h.tape, h.output, h.size, h.block⟩
theorem two_boxes (w : World) (c d : Array Value) (t u : TypeId) : Below w.heap.size w ((w.alloc (.cells c t)).alloc (.cells d u)) := ((Below.refl w.heap.size w).alloc (Nat.le_refl _) _).alloc (by simp) _
set_option maxHeartbeats 2000000 in
theorem taken_w (nm : ByteArray) (ty bt : Int) (e : Ex) (w : World) (h : ExOK e) : Calls Tryz.prog 64 #[.agg #[.string nm, .int .i64 ty, .int .i64 (-1)], .agg #[.int .i64 e.size, .int .i64 e.align]] w fun r w' => r = .returned (.int .i64 (8 * e.size)) ∧ Below w.heap.size w w' := by
  have h1 := h.lo
  have h2 := h.hi
  have cI := fun W => inBits_c e.size W (by omega) (by omega)
  have HB2 : Hid (Below w.heap.size w ((w.alloc (.cells #[.string nm, .int .i64 ty, .int .i64 (-1)] TM)).alloc (.cells #[.int .i64 e.size, .int .i64 e.align] TX))) := two_boxes w _ _ _ _
  have c0 : ((w.alloc (.cells #[.string nm, .int .i64 ty, .int .i64 (-1)] TM)).alloc (.cells #[.int .i64 e.size, .int .i64 e.align] TX)).cell? ⟨w.heap.size, 2, none⟩ = some (.int .i64 (-1)) := by rw [Lib.cell_of_heap (heap_s1 w _ _)]; rfl
  have c1 : ((w.alloc (.cells #[.string nm, .int .i64 ty, .int .i64 (-1)] TM)).alloc (.cells #[.int .i64 e.size, .int .i64 e.align] TX)).cell? ⟨w.heap.size + 1, 0, none⟩ = some (.int .i64 e.size) := by rw [Lib.cell_of_heap (heap_s2 w _ _)]; rfl
  go_enter Tryz.func64, Tryz.ntmps64
  go_upto_region 1 with (fail)
  refine (?_ : Code.wp _ _ _ _ ((w.alloc (.cells #[.string nm, .int .i64 ty, .int .i64 (-1)] TM)).alloc (.cells #[.int .i64 e.size, .int .i64 e.align] TX)))
  generalize (w.alloc (.cells #[.string nm, .int .i64 ty, .int .i64 (-1)] TM)).alloc (.cells #[.int .i64 e.size, .int .i64 e.align] TX) = W at *
  go_wp2_with (go_at_call 90; refine (cI _).mono ?_; rintro r w' ⟨rfl, hw⟩; rw [hw]; clear hw w')
  go_ret
  exact ⟨rfl, HB2.out⟩
set_option maxHeartbeats 2000000 in
theorem taken_b (nm : ByteArray) (ty bt : Int) (e : Ex) (w : World) (h : ExOK e) (b1 : (bt == -1) = false) : Calls Tryz.prog 64 #[.agg #[.string nm, .int .i64 ty, .int .i64 bt], .agg #[.int .i64 e.size, .int .i64 e.align]] w fun r w' => r = .returned (.int .i64 bt) ∧ Below w.heap.size w w' := by
  have h1 := h.lo
  have h2 := h.hi
  have cI := fun W => inBits_c e.size W (by omega) (by omega)
  have HB2 : Hid (Below w.heap.size w ((w.alloc (.cells #[.string nm, .int .i64 ty, .int .i64 bt] TM)).alloc (.cells #[.int .i64 e.size, .int .i64 e.align] TX))) := two_boxes w _ _ _ _
  have c0 : ((w.alloc (.cells #[.string nm, .int .i64 ty, .int .i64 bt] TM)).alloc (.cells #[.int .i64 e.size, .int .i64 e.align] TX)).cell? ⟨w.heap.size, 2, none⟩ = some (.int .i64 bt) := by rw [Lib.cell_of_heap (heap_s1 w _ _)]; rfl
  have c1 : ((w.alloc (.cells #[.string nm, .int .i64 ty, .int .i64 bt] TM)).alloc (.cells #[.int .i64 e.size, .int .i64 e.align] TX)).cell? ⟨w.heap.size + 1, 0, none⟩ = some (.int .i64 e.size) := by rw [Lib.cell_of_heap (heap_s2 w _ _)]; rfl
  go_enter Tryz.func64, Tryz.ntmps64
  go_upto_region 1 with (fail)
  refine (?_ : Code.wp _ _ _ _ ((w.alloc (.cells #[.string nm, .int .i64 ty, .int .i64 bt] TM)).alloc (.cells #[.int .i64 e.size, .int .i64 e.align] TX)))
  generalize (w.alloc (.cells #[.string nm, .int .i64 ty, .int .i64 bt] TM)).alloc (.cells #[.int .i64 e.size, .int .i64 e.align] TX) = W at *
  go_wp2
  go_ret
  exact ⟨rfl, HB2.out⟩
theorem taken_c (m : Mb) (e : Ex) (w : World) (h : ExOK e) : Calls Tryz.prog 64 #[.agg #[.string m.name, .int .i64 m.type, .int .i64 m.bits], .agg #[.int .i64 e.size, .int .i64 e.align]] w fun r w' => r = .returned (.int .i64 (takenP m e)) ∧ Below w.heap.size w w' := by
  unfold takenP
  by_cases hb : m.bits = -1
  · rw [if_pos hb, hb]
    exact taken_w m.name m.type 0 e w h
  · rw [if_neg hb]
    exact taken_b m.name m.type m.bits e w h (by simpa using hb)
end Go.Proofs.YtlcghlfmaohfeaaGreat
