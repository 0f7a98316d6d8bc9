/-
  A memory that New did not give refuses each call.
-/
import Derived.Test.YtigiahcfcglacaaMmT
namespace Go.Proofs.Ytigiahcfcglacaa
open Go.RowKit Go.Maps
set_option linter.unusedVariables false
set_option maxRecDepth 100000
section
variable {w : World} {v : Value}
theorem NoM.below (h : NoM v w) {w' : World} (hb : Below w.heap.size w w') : NoM v w' := by
  rcases h with rfl | ⟨b, rfl, hc⟩
  · exact Or.inl rfl
  · exact Or.inr ⟨b, rfl, (hb.cell (p := ⟨b, 0, none⟩) (World.block_lt_of_cell? w _ hc)).trans hc⟩
theorem below1 (w : World) (o : Obj) : Below w.heap.size w (w.alloc o) := (Below.refl _ w).alloc (Nat.le_refl _) o
theorem make_n (h : NoM v w) (n al : Int) : Calls Try.prog 28 #[v, .int .i64 n, .int .i64 al] w fun e w' => e = .returned (.tuple #[.int .i64 0, .int .i64 1]) ∧ w' = w := by
  have c := given_no h
  have n3 := not_f
  clear h
  go_enter Try.func28, Try.ntmps28
  go_wp2_with (go_at_call 30; refine c.mono ?_; rintro e w' ⟨rfl, hw⟩; rw [hw]; clear hw w')
  go_ret2
  exact ⟨rfl, rfl⟩
theorem end_n (h : NoM v w) (n : Int) : Calls Try.prog 37 #[v, .int .i64 n] w fun e w' => e = .returned (.int .i64 1) ∧ w' = w := by
  have c := given_no h
  have n3 := not_f
  clear h
  go_enter Try.func37, Try.ntmps37
  go_wp2_with (go_at_call 30; refine c.mono ?_; rintro e w' ⟨rfl, hw⟩; rw [hw]; clear hw w')
  go_ret
  exact ⟨rfl, rfl⟩
theorem cells_n (h : NoM v w) (n : Int) : Calls Try.prog 13 #[v, .int .i64 n] w fun e w' => e = .returned (.tuple #[.slice none 0 0, .int .i64 1]) ∧ w' = w := by
  have c := given_no h
  have n3 := not_f
  clear h
  go_enter Try.func13, Try.ntmps13
  go_wp2_with (go_at_call 30; refine c.mono ?_; rintro e w' ⟨rfl, hw⟩; rw [hw]; clear hw w')
  go_ret2
  exact ⟨rfl, rfl⟩
theorem good_n (h : NoM v w) (p : Vl) : Calls Try.prog 51 #[v, .agg #[.int .i64 p.kind, .int .u32 p.v, .int .i64 p.block]] w fun e w' => e = .returned (.pointer none) ∧ Below w.heap.size w w' := by
  have HB : Hid (Below w.heap.size w (w.alloc (.cells #[.int .i64 p.kind, .int .u32 p.v, .int .i64 p.block] TV))) := below1 w _
  have c := given_no (h.below HB.out)
  have n3 := not_f
  clear h
  go_enter Try.func51, Try.ntmps51
  go_wp2_with (go_at_call 30; refine c.mono ?_; rintro e w' ⟨rfl, hw⟩; rw [hw]; clear hw w')
  go_ret
  exact ⟨rfl, HB.out⟩
theorem room_n (h : NoM v w) (p : Vl) (n wd : Int) : Calls Try.prog 32 #[v, .agg #[.int .i64 p.kind, .int .u32 p.v, .int .i64 p.block], .int .i64 n, .int .i64 wd] w fun e w' => e = .returned (.pointer none) ∧ Below w.heap.size w w' := by
  have HB : Hid (Below w.heap.size w (w.alloc (.cells #[.int .i64 p.kind, .int .u32 p.v, .int .i64 p.block] TV))) := below1 w _
  have c := good_n (h.below HB.out) p
  obtain ⟨a0, a1, a2⟩ := box_cells w p
  have e1 := eq_nil
  clear h
  go_enter Try.func32, Try.ntmps32
  go_wp2_with fail
  refine c.mono ?_; rintro e w1 ⟨rfl, hb1⟩
  have HB1 : Hid (Below w.heap.size w w1) := HB.out.trans (hb1.mono HB.out.size)
  clear hb1 c
  go_wp2
  go_ret
  exact ⟨rfl, HB1.out⟩
theorem usable_n (h : NoM v w) (p : Vl) : Calls Try.prog 23 #[v, .agg #[.int .i64 p.kind, .int .u32 p.v, .int .i64 p.block]] w fun e w' => e = .returned (.bool false) ∧ Below w.heap.size w w' := by
  have HB : Hid (Below w.heap.size w (w.alloc (.cells #[.int .i64 p.kind, .int .u32 p.v, .int .i64 p.block] TV))) := below1 w _
  have c := given_no (h.below HB.out)
  have n3 := not_f
  clear h
  go_enter Try.func23, Try.ntmps23
  go_wp2_with (go_at_call 30; refine c.mono ?_; rintro e w' ⟨rfl, hw⟩; rw [hw]; clear hw w')
  go_ret
  exact ⟨rfl, HB.out⟩
theorem truth_n (h : NoM v w) (p : Vl) : Calls Try.prog 20 #[v, .agg #[.int .i64 p.kind, .int .u32 p.v, .int .i64 p.block]] w fun e w' => e = .returned (.tuple #[.bool false, .int .i64 3]) ∧ Below w.heap.size w w' := by
  have HB : Hid (Below w.heap.size w (w.alloc (.cells #[.int .i64 p.kind, .int .u32 p.v, .int .i64 p.block] TV))) := below1 w _
  have c := usable_n (h.below HB.out) p
  obtain ⟨a0, a1, a2⟩ := box_cells w p
  have n3 := not_f
  clear h
  go_enter Try.func20, Try.ntmps20
  go_wp2_with fail
  refine c.mono ?_; rintro e w1 ⟨rfl, hb1⟩
  have HB1 : Hid (Below w.heap.size w w1) := HB.out.trans (hb1.mono HB.out.size)
  clear hb1 c
  go_wp2
  go_ret2
  exact ⟨rfl, HB1.out⟩
theorem zero_n (h : NoM v w) (p : Vl) (n : Int) : Calls Try.prog 42 #[v, .agg #[.int .i64 p.kind, .int .u32 p.v, .int .i64 p.block], .int .i64 n] w fun e w' => e = .returned (.int .i64 3) ∧ Below w.heap.size w w' := by
  have HB : Hid (Below w.heap.size w (w.alloc (.cells #[.int .i64 p.kind, .int .u32 p.v, .int .i64 p.block] TV))) := below1 w _
  have c := room_n (h.below HB.out) p n 1
  obtain ⟨a0, a1, a2⟩ := box_cells w p
  have e1 := eq_nil
  clear h
  go_enter Try.func42, Try.ntmps42
  go_wp2_with fail
  refine c.mono ?_; rintro e w1 ⟨rfl, hb1⟩
  have HB1 : Hid (Below w.heap.size w w1) := HB.out.trans (hb1.mono HB.out.size)
  clear hb1 c
  go_wp2
  go_ret
  exact ⟨rfl, HB1.out⟩
theorem store_n (h : NoM v w) (p q : Vl) (n : Int) : Calls Try.prog 18 #[v, .agg #[.int .i64 p.kind, .int .u32 p.v, .int .i64 p.block], .int .i64 n, .agg #[.int .i64 q.kind, .int .u32 q.v, .int .i64 q.block]] w fun e w' => e = .returned (.int .i64 3) ∧ Below w.heap.size w w' := by
  have HB : Hid (Below w.heap.size w (box2 w p q)) := box2_below w p q
  have c := room_n (h.below HB.out) p n n
  obtain ⟨⟨a0, a1, a2⟩, a3, a4, a5⟩ := box2_cells w p q
  have e1 := eq_nil
  clear h
  obtain ⟨Wz, hW⟩ : ∃ Wz, Wz = box2 w p q := ⟨_, rfl⟩
  go_enter Try.func18, Try.ntmps18
  go_upto_region 1 with (fail)
  refine (?_ : Code.wp _ _ _ _ (box2 w p q))
  rw [← hW] at a0 a1 a2 a3 a4 a5 HB c ⊢
  clear hW
  go_wp2_with fail
  refine c.mono ?_; rintro e w1 ⟨rfl, hb1⟩
  have HB1 : Hid (Below w.heap.size w w1) := HB.out.trans (hb1.mono HB.out.size)
  clear hb1 c
  go_wp2
  go_ret
  exact ⟨rfl, HB1.out⟩
set_option maxHeartbeats 2000000 in
theorem load_n (h : NoM v w) (p : Vl) (n : Int) (s : Bool) : Calls Try.prog 19 #[v, .agg #[.int .i64 p.kind, .int .u32 p.v, .int .i64 p.block], .int .i64 n, .bool s] w fun e w' => e = .returned (.tuple #[.agg #[.int .i64 0, .int .u32 0, .int .i64 0], .int .i64 3]) ∧ Below w.heap.size w w' := by
  have hB : Below w.heap.size w (ZW w p) := box2_below w p vlZ
  have c := room_n (h.below hB) p n n
  obtain ⟨⟨a0, a1, a2⟩, _, _, _⟩ := box2_cells w p vlZ
  rw [← ZW_box] at a0 a1 a2
  have HB : Hid (Below w.heap.size w (ZW w p)) := hB
  have hsz : (ZW w p).heap.size = w.heap.size + 2 := box2_size w p vlZ
  have HZ : Hid ((ZW w p).heap[w.heap.size + 1]? = some (.cells #[.int .i64 0, .int .u32 0, .int .i64 0] TV (0, 0))) := ZW_heap w p
  have e1 := eq_nil
  have cu := fun Y => undefined_c Y
  clear h hB
  obtain ⟨Wz, hW⟩ : ∃ Wz, Wz = ZW w p := ⟨_, rfl⟩
  go_enter Try.func19, Try.ntmps19
  go_upto_region 1 with (fail)
  refine (?_ : Code.wp _ _ _ _ (ZW w p))
  rw [← hW] at a0 a1 a2 c HB hsz HZ ⊢
  clear hW
  go_wp2_with fail
  refine c.mono ?_; rintro e w1 ⟨rfl, hb1⟩
  have HB1 : Hid (Below w.heap.size w w1) := HB.out.trans (hb1.mono HB.out.size)
  have HZ1 : Hid (w1.heap[w.heap.size + 1]? = some (.cells #[.int .i64 0, .int .u32 0, .int .i64 0] TV (0, 0))) := (hb1.block _ (lt_of_heap HZ.out)).trans HZ.out
  clear hb1 c HZ
  go_wp2_with fail
  refine (cu _).mono ?_; rintro e w3 ⟨rfl, hb3⟩
  have HBZ : Hid (Below w.heap.size w w3) := HB1.out.trans (hb3.mono HB1.out.size)
  obtain ⟨tf, t0, t1, t2⟩ := zero_facts ((hb3.block _ (lt_of_heap HZ1.out)).trans HZ1.out)
  have hl3 : w.heap.size + 1 < w3.heap.size := World.block_lt_of_cell? w3 _ t0
  clear hb3 cu
  go_wp2
  exact bodyPost_ret (v := .tuple #[.agg #[.int .i64 0, .int .u32 0, .int .i64 0], .int .i64 3]) (by simp [results, Try.results19, go_sem, t0, t1, t2]) rfl ⟨rfl, (by repeat (first | exact HBZ.out | refine Below.setCell ?_ (by simp <;> omega) _ | refine Below.alloc ?_ (by have := HBZ.out.size; simp; omega) _))⟩
set_option maxHeartbeats 2000000 in
theorem bin_n (h : NoM v w) (p q : Vl) (op : Int) (ho1 : 1 ≤ op) (ho2 : op ≤ 19) : Calls Try.prog 10 #[v, .int .i64 op, .agg #[.int .i64 p.kind, .int .u32 p.v, .int .i64 p.block], .agg #[.int .i64 q.kind, .int .u32 q.v, .int .i64 q.block]] w fun e w' => e = .returned (.tuple #[.agg #[.int .i64 0, .int .u32 0, .int .i64 0], .int .i64 3]) ∧ Below w.heap.size w w' := by
  have hB := BW_below w p q
  have c := usable_n (h.below hB) p
  obtain ⟨⟨a0, a1, a2⟩, a3, a4, a5⟩ := BW_cells w p q
  have HB : Hid (Below w.heap.size w (BW w p q)) := hB
  have hsz := BW_size w p q
  have HZ : Hid ((BW w p q).heap[w.heap.size + 2]? = some (.cells #[.int .i64 0, .int .u32 0, .int .i64 0] TV (0, 0))) := BW_heap w p q
  have cu := fun Y => undefined_c Y
  have n3 := not_f
  have o1 : decide (op < 1) = false := by simp; omega
  have o2 : decide (19 < op) = false := by simp; omega
  clear h hB
  obtain ⟨Wz, hW⟩ : ∃ Wz, Wz = BW w p q := ⟨_, rfl⟩
  go_enter Try.func10, Try.ntmps10
  go_upto_region 1 with (fail)
  refine (?_ : Code.wp _ _ _ _ (BW w p q))
  rw [← hW] at a0 a1 a2 a3 a4 a5 c HB hsz HZ ⊢
  clear hW
  go_wp2_with fail
  refine c.mono ?_; rintro e w1 ⟨rfl, hb1⟩
  have HB1 : Hid (Below w.heap.size w w1) := HB.out.trans (hb1.mono HB.out.size)
  have HZ1 : Hid (w1.heap[w.heap.size + 2]? = some (.cells #[.int .i64 0, .int .u32 0, .int .i64 0] TV (0, 0))) := (hb1.block _ (lt_of_heap HZ.out)).trans HZ.out
  clear hb1 c HZ
  go_wp2_with fail
  refine (cu _).mono ?_; rintro e w3 ⟨rfl, hb3⟩
  have HBZ : Hid (Below w.heap.size w w3) := HB1.out.trans (hb3.mono HB1.out.size)
  obtain ⟨tf, t0, t1, t2⟩ := zero_facts ((hb3.block _ (lt_of_heap HZ1.out)).trans HZ1.out)
  have hl3 : w.heap.size + 2 < w3.heap.size := World.block_lt_of_cell? w3 _ t0
  clear hb3 cu
  go_wp2
  exact bodyPost_ret (v := .tuple #[.agg #[.int .i64 0, .int .u32 0, .int .i64 0], .int .i64 3]) (by simp [results, Try.results10, go_sem, t0, t1, t2]) rfl ⟨rfl, (by repeat (first | exact HBZ.out | refine Below.setCell ?_ (by simp <;> omega) _ | refine Below.alloc ?_ (by have := HBZ.out.size; simp; omega) _))⟩
set_option maxHeartbeats 2000000 in
theorem copy_n (h : NoM v w) (t f : Vl) (n al : Int) : Calls Try.prog 14 #[v, .agg #[.int .i64 t.kind, .int .u32 t.v, .int .i64 t.block], .agg #[.int .i64 f.kind, .int .u32 f.v, .int .i64 f.block], .int .i64 n, .int .i64 al] w fun e w' => e = .returned (.int .i64 3) ∧ Below w.heap.size w w' := by
  have hB := box2_below w t f
  obtain ⟨⟨a0, a1, a2⟩, a3, a4, a5⟩ := box2_cells w t f
  have hsz := box2_size w t f
  have HB : Hid (Below w.heap.size w (box2 w t f)) := hB
  obtain ⟨Wz, hW⟩ : ∃ Wz, Wz = box2 w t f := ⟨_, rfl⟩
  have e1 := eq_nil
  have H : Hid (NoM v Wz) := by rw [hW]; exact h.below hB
  have cR : ∀ Y, SA Wz Y → ∀ k x bl, Calls Try.prog 32 #[v, .agg #[.int .i64 k, .int .u32 x, .int .i64 bl], .int .i64 n, .int .i64 al] Y fun e w' => e = .returned (.pointer none) ∧ Below Y.heap.size Y w' := fun Y hY k x bl => room_n (H.out.below hY.b) ⟨k, x, bl⟩ n al
  clear h hB
  have HW : SA Wz Wz := SA.refl _
  go_enter Try.func14, Try.ntmps14
  go_upto_region 1 with (fail)
  refine (?_ : Code.wp _ _ _ _ (box2 w t f))
  rw [← hW] at a0 a1 a2 a3 a4 a5 HB hsz ⊢
  clear hW
  have b0 : ∀ Y, SA Wz Y → Y.cell? ⟨w.heap.size, 0, none⟩ = some (.int .i64 t.kind) := fun Y h => (Below.cell h (p := ⟨w.heap.size, 0, none⟩) (by simp; omega)).trans a0
  have b1 : ∀ Y, SA Wz Y → Y.cell? ⟨w.heap.size, 1, none⟩ = some (.int .u32 t.v) := fun Y h => (Below.cell h (p := ⟨w.heap.size, 1, none⟩) (by simp; omega)).trans a1
  have b2 : ∀ Y, SA Wz Y → Y.cell? ⟨w.heap.size, 2, none⟩ = some (.int .i64 t.block) := fun Y h => (Below.cell h (p := ⟨w.heap.size, 2, none⟩) (by simp; omega)).trans a2
  have b3 : ∀ Y, SA Wz Y → Y.cell? ⟨w.heap.size + 1, 0, none⟩ = some (.int .i64 f.kind) := fun Y h => (Below.cell h (p := ⟨w.heap.size + 1, 0, none⟩) (by simp; omega)).trans a3
  have b4 : ∀ Y, SA Wz Y → Y.cell? ⟨w.heap.size + 1, 1, none⟩ = some (.int .u32 f.v) := fun Y h => (Below.cell h (p := ⟨w.heap.size + 1, 1, none⟩) (by simp; omega)).trans a4
  have b5 : ∀ Y, SA Wz Y → Y.cell? ⟨w.heap.size + 1, 2, none⟩ = some (.int .i64 f.block) := fun Y h => (Below.cell h (p := ⟨w.heap.size + 1, 2, none⟩) (by simp; omega)).trans a5
  have HCP : Hid (∀ Y, SA Wz Y → Below w.heap.size w Y) := fun Y h => HB.out.trans (Below.mono h (by omega))
  clear a0 a1 a2 a3 a4 a5
  go_wp2
  go_region_held3 (fun Y => SA Wz Y) (first | assumption | (with_reducible refine SA.drew ?_; assumption) | (with_reducible refine SA.below ?_ (by assumption); assumption)) ((go_at_call 32; refine (cR _ (by assumption) _ _ _).mono ?_; rintro e y1 ⟨rfl, hy1⟩))
  rename_i hHeld
  have HBF : Hid (Below w.heap.size w y1) := HCP.out _ hHeld
  clear cR b0 b1 b2 b3 b4 b5 HW hHeld
  go_wp2
  go_ret
  exact ⟨rfl, HBF.out⟩
end
end Go.Proofs.Ytigiahcfcglacaa
