/-
  The given answer: Bin, by what it calls.
-/
import Derived.Test.YtigiahcfcglacaaRmL
import Derived.Test.YtigiahcfcglacaaMmT
namespace Go.Proofs.Ytigiahcfcglacaa
open Go.RowKit Go.Maps
set_option linter.unusedVariables false
set_option maxRecDepth 100000
section
variable {w : World} {rb : Nat} {ys : List Ry} {R : Nat → Prop}
def gdR (ys : List Ry) (k v bl : Int) : Value := .bool (goodS (stR ys) ⟨k, v, bl⟩).isSome
theorem empty_l : (⟨#[]⟩ : ByteArray).toList = [] := by decide +kernel
set_option maxHeartbeats 8000000 in
theorem rb_op (gp gq : Bool) (h : RX w rb ys R) (p q : Vl) (op : Int) (hp : VlOK p) (hq : VlOK q) (hgp : (goodS (stR ys) p).isSome = gp) (hgq : (goodS (stR ys) q).isSome = gq)  (ho : op < 1 ∨ 19 < op) :
    Calls Try.prog 44 #[.pointer (some ⟨rb, 0, none⟩), .int .i64 op, .agg #[.int .i64 p.kind, .int .u32 p.v, .int .i64 p.block], .agg #[.int .i64 q.kind, .int .u32 q.v, .int .i64 q.block]] w fun e w' => e = .returned (.tuple #[.agg #[.int .i64 0, .int .u32 0, .int .i64 0], .int .i64 3]) ∧ Below w.heap.size w w' := by
  have hB := BW_below w p q
  obtain ⟨⟨a0, a1, a2⟩, a3, a4, a5⟩ := BW_cells w p q
  have hsz := BW_size w p q
  obtain ⟨Wz, hW⟩ : ∃ Wz, Wz = BW w p q := ⟨_, rfl⟩
  have HB : Hid (Below w.heap.size w Wz) := by rw [hW]; exact hB
  have HZ : Hid (Wz.heap[w.heap.size + 2]? = some (.cells #[.int .i64 0, .int .u32 0, .int .i64 0] TV (0, 0))) := by rw [hW]; exact BW_heap w p q
  have H : Hid (RX Wz rb ys R) := by rw [hW]; exact h.keptB hB
  have cG : ∀ Y, SA Wz Y → ∀ k v bl, VlOK ⟨k, v, bl⟩ → Calls Try.prog 65 #[.pointer (some ⟨rb, 0, none⟩), .agg #[.int .i64 k, .int .u32 v, .int .i64 bl]] Y fun e w' => e = .returned (gdR ys k v bl) ∧ Below Y.heap.size Y w' := fun Y hY k v bl hv => goodR_c (H.out.keptB hY.b) ⟨k, v, bl⟩ hv
  have HP : Hid (VlOK ⟨p.kind, p.v, p.block⟩) := hp
  have HQ : Hid (VlOK ⟨q.kind, q.v, q.block⟩) := hq
  have g1 : gdR ys p.kind p.v p.block = .bool gp := by
    have : gdR ys p.kind p.v p.block = .bool (goodS (stR ys) p).isSome := rfl
    rw [this, hgp]
  have g2 : gdR ys q.kind q.v q.block = .bool gq := by
    have : gdR ys q.kind q.v q.block = .bool (goodS (stR ys) q).isSome := rfl
    rw [this, hgq]
  have n2 := not_t
  have n3 := not_f
  have es := empty_l
  have hbz := zeroV_box
  have pv0 := hp.v0
  have pv1 := hp.v1
  have qv0 := hq.v0
  have qv1 := hq.v1
  have cn := fun Y => W.refname_no op ho Y

  have HW : SA Wz Wz := SA.refl _
  clear hgp hgq  hB h hp hq ho
  go_enter Try.func44, Try.ntmps44
  go_upto_region 1 with (fail)
  refine (?_ : Code.wp _ _ _ _ (BW w p q))
  rw [← hW] at a0 a1 a2 a3 a4 a5 hsz ⊢
  clear hW
  have b0 : ∀ Y, SA Wz Y → Y.cell? ⟨w.heap.size, 0, none⟩ = some (.int .i64 p.kind) := fun Y h => (Below.cell h (p := ⟨w.heap.size, 0, none⟩) (by simp; omega)).trans a0
  have b1 : ∀ Y, SA Wz Y → Y.cell? ⟨w.heap.size, 1, none⟩ = some (.int .u32 p.v) := fun Y h => (Below.cell h (p := ⟨w.heap.size, 1, none⟩) (by simp; omega)).trans a1
  have b2 : ∀ Y, SA Wz Y → Y.cell? ⟨w.heap.size, 2, none⟩ = some (.int .i64 p.block) := fun Y h => (Below.cell h (p := ⟨w.heap.size, 2, none⟩) (by simp; omega)).trans a2
  have b3 : ∀ Y, SA Wz Y → Y.cell? ⟨w.heap.size + 1, 0, none⟩ = some (.int .i64 q.kind) := fun Y h => (Below.cell h (p := ⟨w.heap.size + 1, 0, none⟩) (by simp; omega)).trans a3
  have b4 : ∀ Y, SA Wz Y → Y.cell? ⟨w.heap.size + 1, 1, none⟩ = some (.int .u32 q.v) := fun Y h => (Below.cell h (p := ⟨w.heap.size + 1, 1, none⟩) (by simp; omega)).trans a4
  have b5 : ∀ Y, SA Wz Y → Y.cell? ⟨w.heap.size + 1, 2, none⟩ = some (.int .i64 q.block) := fun Y h => (Below.cell h (p := ⟨w.heap.size + 1, 2, none⟩) (by simp; omega)).trans a5
  have HCP : Hid (∀ Y, SA Wz Y → Below w.heap.size w Y) := fun Y h => HB.out.trans (Below.mono h (by omega))
  clear a0 a1 a2 a3 a4 a5
  go_wp2
  go_region_held3 (fun Y => SA Wz Y) (first | assumption | (with_reducible refine SA.drew ?_; assumption) | (with_reducible refine SA.below ?_ (by assumption); assumption)) ((go_at_call 65; refine (cG _ (by assumption) _ _ _ (by first | exact HP.out | exact HQ.out)).mono ?_; rintro e y1 ⟨rfl, hy1⟩))
  rename_i hHeld
  have HB1 : Hid (Below w.heap.size w y1) := HCP.out _ hHeld
  have HZ1 : Hid (y1.heap[w.heap.size + 2]? = some (.cells #[.int .i64 0, .int .u32 0, .int .i64 0] TV (0, 0))) := (hHeld.b.block _ (lt_of_heap HZ.out)).trans HZ.out
  have HS1 : Hid (SA Wz y1) := hHeld
  have d0 := b0 _ hHeld
  have d1 := b1 _ hHeld
  have d2 := b2 _ hHeld
  have d3 := b3 _ hHeld
  have d4 := b4 _ hHeld
  have d5 := b5 _ hHeld
  clear cG b0 b1 b2 b3 b4 b5 HW hHeld g1 g2
  go_wp2
  go_region
  go_wp2_with fail
  have hyd : Below y1.heap.size y1 y1.drew := (Below.refl _ _).drew
  have HB2 : Hid (Below w.heap.size w y1.drew) := HB1.out.trans (hyd.mono HB1.out.size)
  have HZ2 : Hid (y1.drew.heap[w.heap.size + 2]? = some (.cells #[.int .i64 0, .int .u32 0, .int .i64 0] TV (0, 0))) := HZ1.out
  clear hyd
  refine (cn _).mono ?_; rintro e w' ⟨rfl, hw⟩; rw [hw]; clear hw w'
  have HBZ := HB1
  obtain ⟨tf, t0, t1, t2⟩ := zero_facts HZ1.out
  have hlz := lt_of_heap HZ1.out
  go_wp2
  exact bodyPost_ret (v := .tuple #[.agg #[.int .i64 0, .int .u32 0, .int .i64 0], .int .i64 3]) (by simp [results, Try.results44, go_sem, t0, t1, t2]) rfl ⟨rfl, (by repeat (first | exact HBZ.out | refine Below.drew ?_ | refine Below.setCell ?_ (by simp <;> omega) _ | refine Below.alloc ?_ (by have := HBZ.out.size; simp; omega) _))⟩
set_option maxHeartbeats 8000000 in
theorem rb_ua (h : RX w rb ys R) (p q : Vl) (op : Int) (hp : VlOK p) (hq : VlOK q) (hgp : (goodS (stR ys) p).isSome = false) (hgq : (goodS (stR ys) q).isSome = false) (hip : ¬ p.kind = 1) (hiq : q.kind = 1) (ho1 : 1 ≤ op) (ho2 : op ≤ 19) :
    Calls Try.prog 44 #[.pointer (some ⟨rb, 0, none⟩), .int .i64 op, .agg #[.int .i64 p.kind, .int .u32 p.v, .int .i64 p.block], .agg #[.int .i64 q.kind, .int .u32 q.v, .int .i64 q.block]] w fun e w' => e = .returned (.tuple #[.agg #[.int .i64 0, .int .u32 0, .int .i64 0], .int .i64 3]) ∧ Below w.heap.size w w' := by
  have hB := BW_below w p q
  obtain ⟨⟨a0, a1, a2⟩, a3, a4, a5⟩ := BW_cells w p q
  have hsz := BW_size w p q
  obtain ⟨Wz, hW⟩ : ∃ Wz, Wz = BW w p q := ⟨_, rfl⟩
  have HB : Hid (Below w.heap.size w Wz) := by rw [hW]; exact hB
  have HZ : Hid (Wz.heap[w.heap.size + 2]? = some (.cells #[.int .i64 0, .int .u32 0, .int .i64 0] TV (0, 0))) := by rw [hW]; exact BW_heap w p q
  have H : Hid (RX Wz rb ys R) := by rw [hW]; exact h.keptB hB
  have cG : ∀ Y, SA Wz Y → ∀ k v bl, VlOK ⟨k, v, bl⟩ → Calls Try.prog 65 #[.pointer (some ⟨rb, 0, none⟩), .agg #[.int .i64 k, .int .u32 v, .int .i64 bl]] Y fun e w' => e = .returned (gdR ys k v bl) ∧ Below Y.heap.size Y w' := fun Y hY k v bl hv => goodR_c (H.out.keptB hY.b) ⟨k, v, bl⟩ hv
  have HP : Hid (VlOK ⟨p.kind, p.v, p.block⟩) := hp
  have HQ : Hid (VlOK ⟨q.kind, q.v, q.block⟩) := hq
  have g1 : gdR ys p.kind p.v p.block = .bool false := by
    have : gdR ys p.kind p.v p.block = .bool (goodS (stR ys) p).isSome := rfl
    rw [this, hgp]
  have g2 : gdR ys q.kind q.v q.block = .bool false := by
    have : gdR ys q.kind q.v q.block = .bool (goodS (stR ys) q).isSome := rfl
    rw [this, hgq]
  have i1 : (p.kind == 1) = false := by simpa using hip
  have i2 : (q.kind == 1) = true := by simpa using hiq
  have n2 := not_t
  have n3 := not_f
  have es := empty_l
  have hbz := zeroV_box
  have pv0 := hp.v0
  have pv1 := hp.v1
  have qv0 := hq.v0
  have qv1 := hq.v1
  obtain ⟨nm, hnm, cn⟩ := W.refname_yes op ho1 ho2
  rw [beq_toListBytes, empty_l] at hnm
  have hn1 : ¬ nm.toList = [] := by simpa using hnm
  have hn3 : decide (nm.toList = []) = false := by simpa using hn1

  have HW : SA Wz Wz := SA.refl _
  clear hgp hgq hip hiq hB h hp hq
  go_enter Try.func44, Try.ntmps44
  go_upto_region 1 with (fail)
  refine (?_ : Code.wp _ _ _ _ (BW w p q))
  rw [← hW] at a0 a1 a2 a3 a4 a5 hsz ⊢
  clear hW
  have b0 : ∀ Y, SA Wz Y → Y.cell? ⟨w.heap.size, 0, none⟩ = some (.int .i64 p.kind) := fun Y h => (Below.cell h (p := ⟨w.heap.size, 0, none⟩) (by simp; omega)).trans a0
  have b1 : ∀ Y, SA Wz Y → Y.cell? ⟨w.heap.size, 1, none⟩ = some (.int .u32 p.v) := fun Y h => (Below.cell h (p := ⟨w.heap.size, 1, none⟩) (by simp; omega)).trans a1
  have b2 : ∀ Y, SA Wz Y → Y.cell? ⟨w.heap.size, 2, none⟩ = some (.int .i64 p.block) := fun Y h => (Below.cell h (p := ⟨w.heap.size, 2, none⟩) (by simp; omega)).trans a2
  have b3 : ∀ Y, SA Wz Y → Y.cell? ⟨w.heap.size + 1, 0, none⟩ = some (.int .i64 q.kind) := fun Y h => (Below.cell h (p := ⟨w.heap.size + 1, 0, none⟩) (by simp; omega)).trans a3
  have b4 : ∀ Y, SA Wz Y → Y.cell? ⟨w.heap.size + 1, 1, none⟩ = some (.int .u32 q.v) := fun Y h => (Below.cell h (p := ⟨w.heap.size + 1, 1, none⟩) (by simp; omega)).trans a4
  have b5 : ∀ Y, SA Wz Y → Y.cell? ⟨w.heap.size + 1, 2, none⟩ = some (.int .i64 q.block) := fun Y h => (Below.cell h (p := ⟨w.heap.size + 1, 2, none⟩) (by simp; omega)).trans a5
  have HCP : Hid (∀ Y, SA Wz Y → Below w.heap.size w Y) := fun Y h => HB.out.trans (Below.mono h (by omega))
  clear a0 a1 a2 a3 a4 a5
  go_wp2
  go_region_held3 (fun Y => SA Wz Y) (first | assumption | (with_reducible refine SA.drew ?_; assumption) | (with_reducible refine SA.below ?_ (by assumption); assumption)) ((go_at_call 65; refine (cG _ (by assumption) _ _ _ (by first | exact HP.out | exact HQ.out)).mono ?_; rintro e y1 ⟨rfl, hy1⟩))
  rename_i hHeld
  have HB1 : Hid (Below w.heap.size w y1) := HCP.out _ hHeld
  have HZ1 : Hid (y1.heap[w.heap.size + 2]? = some (.cells #[.int .i64 0, .int .u32 0, .int .i64 0] TV (0, 0))) := (hHeld.b.block _ (lt_of_heap HZ.out)).trans HZ.out
  have HS1 : Hid (SA Wz y1) := hHeld
  have d0 := b0 _ hHeld
  have d1 := b1 _ hHeld
  have d2 := b2 _ hHeld
  have d3 := b3 _ hHeld
  have d4 := b4 _ hHeld
  have d5 := b5 _ hHeld
  clear cG b0 b1 b2 b3 b4 b5 HW hHeld g1 g2
  go_wp2
  go_region
  go_wp2_with fail
  have hyd : Below y1.heap.size y1 y1.drew := (Below.refl _ _).drew
  have HB2 : Hid (Below w.heap.size w y1.drew) := HB1.out.trans (hyd.mono HB1.out.size)
  have HZ2 : Hid (y1.drew.heap[w.heap.size + 2]? = some (.cells #[.int .i64 0, .int .u32 0, .int .i64 0] TV (0, 0))) := HZ1.out
  clear hyd
  refine (cn _).mono ?_; rintro e w3 ⟨rfl, hb3⟩
  have HB3 : Hid (Below w.heap.size w w3) := HB2.out.trans (hb3.mono HB2.out.size)
  have HZ3 : Hid (w3.heap[w.heap.size + 2]? = some (.cells #[.int .i64 0, .int .u32 0, .int .i64 0] TV (0, 0))) := (hb3.block _ (lt_of_heap HZ2.out)).trans HZ2.out
  have l9 : w.heap.size + 2 < y1.drew.heap.size := lt_of_heap HZ2.out
  have f0 := (hb3.cell (p := ⟨w.heap.size, 0, none⟩) (by simp at l9 ⊢; omega)).trans d0
  have f1 := (hb3.cell (p := ⟨w.heap.size, 1, none⟩) (by simp at l9 ⊢; omega)).trans d1
  have f2 := (hb3.cell (p := ⟨w.heap.size, 2, none⟩) (by simp at l9 ⊢; omega)).trans d2
  have f3 := (hb3.cell (p := ⟨w.heap.size + 1, 0, none⟩) (by simp at l9 ⊢; omega)).trans d3
  have f4 := (hb3.cell (p := ⟨w.heap.size + 1, 1, none⟩) (by simp at l9 ⊢; omega)).trans d4
  have f5 := (hb3.cell (p := ⟨w.heap.size + 1, 2, none⟩) (by simp at l9 ⊢; omega)).trans d5
  have HS3 : Hid (SA Wz w3) := (HS1.out.drew).below hb3
  have l3 : w.heap.size + 2 < w3.heap.size := lt_of_heap HZ3.out
  clear hb3 cn d0 d1 d2 d3 d4 d5
  have HBZ := HB3
  obtain ⟨tf, t0, t1, t2⟩ := zero_facts HZ3.out
  go_wp2
  exact bodyPost_ret (v := .tuple #[.agg #[.int .i64 0, .int .u32 0, .int .i64 0], .int .i64 3]) (by simp [results, Try.results44, go_sem, t0, t1, t2]) rfl ⟨rfl, (by repeat (first | exact HBZ.out | refine Below.setCell ?_ (by simp <;> omega) _ | refine Below.alloc ?_ (by have := HBZ.out.size; simp; omega) _))⟩
set_option maxHeartbeats 8000000 in
theorem rb_ub1 (h : RX w rb ys R) (p q : Vl) (op : Int) (hp : VlOK p) (hq : VlOK q) (hgp : (goodS (stR ys) p).isSome = true) (hgq : (goodS (stR ys) q).isSome = false) (hip : ¬ p.kind = 1) (hiq : ¬ q.kind = 1) (ho1 : 1 ≤ op) (ho2 : op ≤ 19) :
    Calls Try.prog 44 #[.pointer (some ⟨rb, 0, none⟩), .int .i64 op, .agg #[.int .i64 p.kind, .int .u32 p.v, .int .i64 p.block], .agg #[.int .i64 q.kind, .int .u32 q.v, .int .i64 q.block]] w fun e w' => e = .returned (.tuple #[.agg #[.int .i64 0, .int .u32 0, .int .i64 0], .int .i64 3]) ∧ Below w.heap.size w w' := by
  have hB := BW_below w p q
  obtain ⟨⟨a0, a1, a2⟩, a3, a4, a5⟩ := BW_cells w p q
  have hsz := BW_size w p q
  obtain ⟨Wz, hW⟩ : ∃ Wz, Wz = BW w p q := ⟨_, rfl⟩
  have HB : Hid (Below w.heap.size w Wz) := by rw [hW]; exact hB
  have HZ : Hid (Wz.heap[w.heap.size + 2]? = some (.cells #[.int .i64 0, .int .u32 0, .int .i64 0] TV (0, 0))) := by rw [hW]; exact BW_heap w p q
  have H : Hid (RX Wz rb ys R) := by rw [hW]; exact h.keptB hB
  have cG : ∀ Y, SA Wz Y → ∀ k v bl, VlOK ⟨k, v, bl⟩ → Calls Try.prog 65 #[.pointer (some ⟨rb, 0, none⟩), .agg #[.int .i64 k, .int .u32 v, .int .i64 bl]] Y fun e w' => e = .returned (gdR ys k v bl) ∧ Below Y.heap.size Y w' := fun Y hY k v bl hv => goodR_c (H.out.keptB hY.b) ⟨k, v, bl⟩ hv
  have HP : Hid (VlOK ⟨p.kind, p.v, p.block⟩) := hp
  have HQ : Hid (VlOK ⟨q.kind, q.v, q.block⟩) := hq
  have g1 : gdR ys p.kind p.v p.block = .bool true := by
    have : gdR ys p.kind p.v p.block = .bool (goodS (stR ys) p).isSome := rfl
    rw [this, hgp]
  have g2 : gdR ys q.kind q.v q.block = .bool false := by
    have : gdR ys q.kind q.v q.block = .bool (goodS (stR ys) q).isSome := rfl
    rw [this, hgq]
  have i1 : (p.kind == 1) = false := by simpa using hip
  have i2 : (q.kind == 1) = false := by simpa using hiq
  have n2 := not_t
  have n3 := not_f
  have es := empty_l
  have hbz := zeroV_box
  have pv0 := hp.v0
  have pv1 := hp.v1
  have qv0 := hq.v0
  have qv1 := hq.v1
  obtain ⟨nm, hnm, cn⟩ := W.refname_yes op ho1 ho2
  rw [beq_toListBytes, empty_l] at hnm
  have hn1 : ¬ nm.toList = [] := by simpa using hnm
  have hn3 : decide (nm.toList = []) = false := by simpa using hn1

  have HW : SA Wz Wz := SA.refl _
  clear hgp hgq hip hiq hB h hp hq
  go_enter Try.func44, Try.ntmps44
  go_upto_region 1 with (fail)
  refine (?_ : Code.wp _ _ _ _ (BW w p q))
  rw [← hW] at a0 a1 a2 a3 a4 a5 hsz ⊢
  clear hW
  have b0 : ∀ Y, SA Wz Y → Y.cell? ⟨w.heap.size, 0, none⟩ = some (.int .i64 p.kind) := fun Y h => (Below.cell h (p := ⟨w.heap.size, 0, none⟩) (by simp; omega)).trans a0
  have b1 : ∀ Y, SA Wz Y → Y.cell? ⟨w.heap.size, 1, none⟩ = some (.int .u32 p.v) := fun Y h => (Below.cell h (p := ⟨w.heap.size, 1, none⟩) (by simp; omega)).trans a1
  have b2 : ∀ Y, SA Wz Y → Y.cell? ⟨w.heap.size, 2, none⟩ = some (.int .i64 p.block) := fun Y h => (Below.cell h (p := ⟨w.heap.size, 2, none⟩) (by simp; omega)).trans a2
  have b3 : ∀ Y, SA Wz Y → Y.cell? ⟨w.heap.size + 1, 0, none⟩ = some (.int .i64 q.kind) := fun Y h => (Below.cell h (p := ⟨w.heap.size + 1, 0, none⟩) (by simp; omega)).trans a3
  have b4 : ∀ Y, SA Wz Y → Y.cell? ⟨w.heap.size + 1, 1, none⟩ = some (.int .u32 q.v) := fun Y h => (Below.cell h (p := ⟨w.heap.size + 1, 1, none⟩) (by simp; omega)).trans a4
  have b5 : ∀ Y, SA Wz Y → Y.cell? ⟨w.heap.size + 1, 2, none⟩ = some (.int .i64 q.block) := fun Y h => (Below.cell h (p := ⟨w.heap.size + 1, 2, none⟩) (by simp; omega)).trans a5
  have HCP : Hid (∀ Y, SA Wz Y → Below w.heap.size w Y) := fun Y h => HB.out.trans (Below.mono h (by omega))
  clear a0 a1 a2 a3 a4 a5
  go_wp2
  go_region_held3 (fun Y => SA Wz Y) (first | assumption | (with_reducible refine SA.drew ?_; assumption) | (with_reducible refine SA.below ?_ (by assumption); assumption)) ((go_at_call 65; refine (cG _ (by assumption) _ _ _ (by first | exact HP.out | exact HQ.out)).mono ?_; rintro e y1 ⟨rfl, hy1⟩))
  rename_i hHeld
  have HB1 : Hid (Below w.heap.size w y1) := HCP.out _ hHeld
  have HZ1 : Hid (y1.heap[w.heap.size + 2]? = some (.cells #[.int .i64 0, .int .u32 0, .int .i64 0] TV (0, 0))) := (hHeld.b.block _ (lt_of_heap HZ.out)).trans HZ.out
  have HS1 : Hid (SA Wz y1) := hHeld
  have d0 := b0 _ hHeld
  have d1 := b1 _ hHeld
  have d2 := b2 _ hHeld
  have d3 := b3 _ hHeld
  have d4 := b4 _ hHeld
  have d5 := b5 _ hHeld
  clear cG b0 b1 b2 b3 b4 b5 HW hHeld g1 g2
  go_wp2
  go_region
  go_wp2_with fail
  have hyd : Below y1.heap.size y1 y1.drew := (Below.refl _ _).drew
  have HB2 : Hid (Below w.heap.size w y1.drew) := HB1.out.trans (hyd.mono HB1.out.size)
  have HZ2 : Hid (y1.drew.heap[w.heap.size + 2]? = some (.cells #[.int .i64 0, .int .u32 0, .int .i64 0] TV (0, 0))) := HZ1.out
  clear hyd
  refine (cn _).mono ?_; rintro e w3 ⟨rfl, hb3⟩
  have HB3 : Hid (Below w.heap.size w w3) := HB2.out.trans (hb3.mono HB2.out.size)
  have HZ3 : Hid (w3.heap[w.heap.size + 2]? = some (.cells #[.int .i64 0, .int .u32 0, .int .i64 0] TV (0, 0))) := (hb3.block _ (lt_of_heap HZ2.out)).trans HZ2.out
  have l9 : w.heap.size + 2 < y1.drew.heap.size := lt_of_heap HZ2.out
  have f0 := (hb3.cell (p := ⟨w.heap.size, 0, none⟩) (by simp at l9 ⊢; omega)).trans d0
  have f1 := (hb3.cell (p := ⟨w.heap.size, 1, none⟩) (by simp at l9 ⊢; omega)).trans d1
  have f2 := (hb3.cell (p := ⟨w.heap.size, 2, none⟩) (by simp at l9 ⊢; omega)).trans d2
  have f3 := (hb3.cell (p := ⟨w.heap.size + 1, 0, none⟩) (by simp at l9 ⊢; omega)).trans d3
  have f4 := (hb3.cell (p := ⟨w.heap.size + 1, 1, none⟩) (by simp at l9 ⊢; omega)).trans d4
  have f5 := (hb3.cell (p := ⟨w.heap.size + 1, 2, none⟩) (by simp at l9 ⊢; omega)).trans d5
  have HS3 : Hid (SA Wz w3) := (HS1.out.drew).below hb3
  have l3 : w.heap.size + 2 < w3.heap.size := lt_of_heap HZ3.out
  clear hb3 cn d0 d1 d2 d3 d4 d5
  have HBZ := HB3
  obtain ⟨tf, t0, t1, t2⟩ := zero_facts HZ3.out
  go_wp2
  exact bodyPost_ret (v := .tuple #[.agg #[.int .i64 0, .int .u32 0, .int .i64 0], .int .i64 3]) (by simp [results, Try.results44, go_sem, t0, t1, t2]) rfl ⟨rfl, (by repeat (first | exact HBZ.out | refine Below.setCell ?_ (by simp <;> omega) _ | refine Below.alloc ?_ (by have := HBZ.out.size; simp; omega) _))⟩
set_option maxHeartbeats 8000000 in
theorem rb_ub2 (h : RX w rb ys R) (p q : Vl) (op : Int) (hp : VlOK p) (hq : VlOK q) (hgp : (goodS (stR ys) p).isSome = false) (hgq : (goodS (stR ys) q).isSome = false) (hip : p.kind = 1) (hiq : ¬ q.kind = 1) (ho1 : 1 ≤ op) (ho2 : op ≤ 19) :
    Calls Try.prog 44 #[.pointer (some ⟨rb, 0, none⟩), .int .i64 op, .agg #[.int .i64 p.kind, .int .u32 p.v, .int .i64 p.block], .agg #[.int .i64 q.kind, .int .u32 q.v, .int .i64 q.block]] w fun e w' => e = .returned (.tuple #[.agg #[.int .i64 0, .int .u32 0, .int .i64 0], .int .i64 3]) ∧ Below w.heap.size w w' := by
  have hB := BW_below w p q
  obtain ⟨⟨a0, a1, a2⟩, a3, a4, a5⟩ := BW_cells w p q
  have hsz := BW_size w p q
  obtain ⟨Wz, hW⟩ : ∃ Wz, Wz = BW w p q := ⟨_, rfl⟩
  have HB : Hid (Below w.heap.size w Wz) := by rw [hW]; exact hB
  have HZ : Hid (Wz.heap[w.heap.size + 2]? = some (.cells #[.int .i64 0, .int .u32 0, .int .i64 0] TV (0, 0))) := by rw [hW]; exact BW_heap w p q
  have H : Hid (RX Wz rb ys R) := by rw [hW]; exact h.keptB hB
  have cG : ∀ Y, SA Wz Y → ∀ k v bl, VlOK ⟨k, v, bl⟩ → Calls Try.prog 65 #[.pointer (some ⟨rb, 0, none⟩), .agg #[.int .i64 k, .int .u32 v, .int .i64 bl]] Y fun e w' => e = .returned (gdR ys k v bl) ∧ Below Y.heap.size Y w' := fun Y hY k v bl hv => goodR_c (H.out.keptB hY.b) ⟨k, v, bl⟩ hv
  have HP : Hid (VlOK ⟨p.kind, p.v, p.block⟩) := hp
  have HQ : Hid (VlOK ⟨q.kind, q.v, q.block⟩) := hq
  have g1 : gdR ys p.kind p.v p.block = .bool false := by
    have : gdR ys p.kind p.v p.block = .bool (goodS (stR ys) p).isSome := rfl
    rw [this, hgp]
  have g2 : gdR ys q.kind q.v q.block = .bool false := by
    have : gdR ys q.kind q.v q.block = .bool (goodS (stR ys) q).isSome := rfl
    rw [this, hgq]
  have i1 : (p.kind == 1) = true := by simpa using hip
  have i2 : (q.kind == 1) = false := by simpa using hiq
  have n2 := not_t
  have n3 := not_f
  have es := empty_l
  have hbz := zeroV_box
  have pv0 := hp.v0
  have pv1 := hp.v1
  have qv0 := hq.v0
  have qv1 := hq.v1
  obtain ⟨nm, hnm, cn⟩ := W.refname_yes op ho1 ho2
  rw [beq_toListBytes, empty_l] at hnm
  have hn1 : ¬ nm.toList = [] := by simpa using hnm
  have hn3 : decide (nm.toList = []) = false := by simpa using hn1

  have HW : SA Wz Wz := SA.refl _
  clear hgp hgq hip hiq hB h hp hq
  go_enter Try.func44, Try.ntmps44
  go_upto_region 1 with (fail)
  refine (?_ : Code.wp _ _ _ _ (BW w p q))
  rw [← hW] at a0 a1 a2 a3 a4 a5 hsz ⊢
  clear hW
  have b0 : ∀ Y, SA Wz Y → Y.cell? ⟨w.heap.size, 0, none⟩ = some (.int .i64 p.kind) := fun Y h => (Below.cell h (p := ⟨w.heap.size, 0, none⟩) (by simp; omega)).trans a0
  have b1 : ∀ Y, SA Wz Y → Y.cell? ⟨w.heap.size, 1, none⟩ = some (.int .u32 p.v) := fun Y h => (Below.cell h (p := ⟨w.heap.size, 1, none⟩) (by simp; omega)).trans a1
  have b2 : ∀ Y, SA Wz Y → Y.cell? ⟨w.heap.size, 2, none⟩ = some (.int .i64 p.block) := fun Y h => (Below.cell h (p := ⟨w.heap.size, 2, none⟩) (by simp; omega)).trans a2
  have b3 : ∀ Y, SA Wz Y → Y.cell? ⟨w.heap.size + 1, 0, none⟩ = some (.int .i64 q.kind) := fun Y h => (Below.cell h (p := ⟨w.heap.size + 1, 0, none⟩) (by simp; omega)).trans a3
  have b4 : ∀ Y, SA Wz Y → Y.cell? ⟨w.heap.size + 1, 1, none⟩ = some (.int .u32 q.v) := fun Y h => (Below.cell h (p := ⟨w.heap.size + 1, 1, none⟩) (by simp; omega)).trans a4
  have b5 : ∀ Y, SA Wz Y → Y.cell? ⟨w.heap.size + 1, 2, none⟩ = some (.int .i64 q.block) := fun Y h => (Below.cell h (p := ⟨w.heap.size + 1, 2, none⟩) (by simp; omega)).trans a5
  have HCP : Hid (∀ Y, SA Wz Y → Below w.heap.size w Y) := fun Y h => HB.out.trans (Below.mono h (by omega))
  clear a0 a1 a2 a3 a4 a5
  go_wp2
  go_region_held3 (fun Y => SA Wz Y) (first | assumption | (with_reducible refine SA.drew ?_; assumption) | (with_reducible refine SA.below ?_ (by assumption); assumption)) ((go_at_call 65; refine (cG _ (by assumption) _ _ _ (by first | exact HP.out | exact HQ.out)).mono ?_; rintro e y1 ⟨rfl, hy1⟩))
  rename_i hHeld
  have HB1 : Hid (Below w.heap.size w y1) := HCP.out _ hHeld
  have HZ1 : Hid (y1.heap[w.heap.size + 2]? = some (.cells #[.int .i64 0, .int .u32 0, .int .i64 0] TV (0, 0))) := (hHeld.b.block _ (lt_of_heap HZ.out)).trans HZ.out
  have HS1 : Hid (SA Wz y1) := hHeld
  have d0 := b0 _ hHeld
  have d1 := b1 _ hHeld
  have d2 := b2 _ hHeld
  have d3 := b3 _ hHeld
  have d4 := b4 _ hHeld
  have d5 := b5 _ hHeld
  clear cG b0 b1 b2 b3 b4 b5 HW hHeld g1 g2
  go_wp2
  go_region
  go_wp2_with fail
  have hyd : Below y1.heap.size y1 y1.drew := (Below.refl _ _).drew
  have HB2 : Hid (Below w.heap.size w y1.drew) := HB1.out.trans (hyd.mono HB1.out.size)
  have HZ2 : Hid (y1.drew.heap[w.heap.size + 2]? = some (.cells #[.int .i64 0, .int .u32 0, .int .i64 0] TV (0, 0))) := HZ1.out
  clear hyd
  refine (cn _).mono ?_; rintro e w3 ⟨rfl, hb3⟩
  have HB3 : Hid (Below w.heap.size w w3) := HB2.out.trans (hb3.mono HB2.out.size)
  have HZ3 : Hid (w3.heap[w.heap.size + 2]? = some (.cells #[.int .i64 0, .int .u32 0, .int .i64 0] TV (0, 0))) := (hb3.block _ (lt_of_heap HZ2.out)).trans HZ2.out
  have l9 : w.heap.size + 2 < y1.drew.heap.size := lt_of_heap HZ2.out
  have f0 := (hb3.cell (p := ⟨w.heap.size, 0, none⟩) (by simp at l9 ⊢; omega)).trans d0
  have f1 := (hb3.cell (p := ⟨w.heap.size, 1, none⟩) (by simp at l9 ⊢; omega)).trans d1
  have f2 := (hb3.cell (p := ⟨w.heap.size, 2, none⟩) (by simp at l9 ⊢; omega)).trans d2
  have f3 := (hb3.cell (p := ⟨w.heap.size + 1, 0, none⟩) (by simp at l9 ⊢; omega)).trans d3
  have f4 := (hb3.cell (p := ⟨w.heap.size + 1, 1, none⟩) (by simp at l9 ⊢; omega)).trans d4
  have f5 := (hb3.cell (p := ⟨w.heap.size + 1, 2, none⟩) (by simp at l9 ⊢; omega)).trans d5
  have HS3 : Hid (SA Wz w3) := (HS1.out.drew).below hb3
  have l3 : w.heap.size + 2 < w3.heap.size := lt_of_heap HZ3.out
  clear hb3 cn d0 d1 d2 d3 d4 d5
  have HBZ := HB3
  obtain ⟨tf, t0, t1, t2⟩ := zero_facts HZ3.out
  go_wp2
  exact bodyPost_ret (v := .tuple #[.agg #[.int .i64 0, .int .u32 0, .int .i64 0], .int .i64 3]) (by simp [results, Try.results44, go_sem, t0, t1, t2]) rfl ⟨rfl, (by repeat (first | exact HBZ.out | refine Below.setCell ?_ (by simp <;> omega) _ | refine Below.alloc ?_ (by have := HBZ.out.size; simp; omega) _))⟩
set_option maxHeartbeats 8000000 in
theorem rb_ua2 (h : RX w rb ys R) (p q : Vl) (op : Int) (hp : VlOK p) (hq : VlOK q) (hgp : (goodS (stR ys) p).isSome = false) (hgq : (goodS (stR ys) q).isSome = true) (hip : ¬ p.kind = 1) (hiq : ¬ q.kind = 1) (ho1 : 1 ≤ op) (ho2 : op ≤ 19) :
    Calls Try.prog 44 #[.pointer (some ⟨rb, 0, none⟩), .int .i64 op, .agg #[.int .i64 p.kind, .int .u32 p.v, .int .i64 p.block], .agg #[.int .i64 q.kind, .int .u32 q.v, .int .i64 q.block]] w fun e w' => e = .returned (.tuple #[.agg #[.int .i64 0, .int .u32 0, .int .i64 0], .int .i64 3]) ∧ Below w.heap.size w w' := by
  have hB := BW_below w p q
  obtain ⟨⟨a0, a1, a2⟩, a3, a4, a5⟩ := BW_cells w p q
  have hsz := BW_size w p q
  obtain ⟨Wz, hW⟩ : ∃ Wz, Wz = BW w p q := ⟨_, rfl⟩
  have HB : Hid (Below w.heap.size w Wz) := by rw [hW]; exact hB
  have HZ : Hid (Wz.heap[w.heap.size + 2]? = some (.cells #[.int .i64 0, .int .u32 0, .int .i64 0] TV (0, 0))) := by rw [hW]; exact BW_heap w p q
  have H : Hid (RX Wz rb ys R) := by rw [hW]; exact h.keptB hB
  have cG : ∀ Y, SA Wz Y → ∀ k v bl, VlOK ⟨k, v, bl⟩ → Calls Try.prog 65 #[.pointer (some ⟨rb, 0, none⟩), .agg #[.int .i64 k, .int .u32 v, .int .i64 bl]] Y fun e w' => e = .returned (gdR ys k v bl) ∧ Below Y.heap.size Y w' := fun Y hY k v bl hv => goodR_c (H.out.keptB hY.b) ⟨k, v, bl⟩ hv
  have HP : Hid (VlOK ⟨p.kind, p.v, p.block⟩) := hp
  have HQ : Hid (VlOK ⟨q.kind, q.v, q.block⟩) := hq
  have g1 : gdR ys p.kind p.v p.block = .bool false := by
    have : gdR ys p.kind p.v p.block = .bool (goodS (stR ys) p).isSome := rfl
    rw [this, hgp]
  have g2 : gdR ys q.kind q.v q.block = .bool true := by
    have : gdR ys q.kind q.v q.block = .bool (goodS (stR ys) q).isSome := rfl
    rw [this, hgq]
  have i1 : (p.kind == 1) = false := by simpa using hip
  have i2 : (q.kind == 1) = false := by simpa using hiq
  have n2 := not_t
  have n3 := not_f
  have es := empty_l
  have hbz := zeroV_box
  have pv0 := hp.v0
  have pv1 := hp.v1
  have qv0 := hq.v0
  have qv1 := hq.v1
  obtain ⟨nm, hnm, cn⟩ := W.refname_yes op ho1 ho2
  rw [beq_toListBytes, empty_l] at hnm
  have hn1 : ¬ nm.toList = [] := by simpa using hnm
  have hn3 : decide (nm.toList = []) = false := by simpa using hn1

  have HW : SA Wz Wz := SA.refl _
  clear hgp hgq hip hiq hB h hp hq
  go_enter Try.func44, Try.ntmps44
  go_upto_region 1 with (fail)
  refine (?_ : Code.wp _ _ _ _ (BW w p q))
  rw [← hW] at a0 a1 a2 a3 a4 a5 hsz ⊢
  clear hW
  have b0 : ∀ Y, SA Wz Y → Y.cell? ⟨w.heap.size, 0, none⟩ = some (.int .i64 p.kind) := fun Y h => (Below.cell h (p := ⟨w.heap.size, 0, none⟩) (by simp; omega)).trans a0
  have b1 : ∀ Y, SA Wz Y → Y.cell? ⟨w.heap.size, 1, none⟩ = some (.int .u32 p.v) := fun Y h => (Below.cell h (p := ⟨w.heap.size, 1, none⟩) (by simp; omega)).trans a1
  have b2 : ∀ Y, SA Wz Y → Y.cell? ⟨w.heap.size, 2, none⟩ = some (.int .i64 p.block) := fun Y h => (Below.cell h (p := ⟨w.heap.size, 2, none⟩) (by simp; omega)).trans a2
  have b3 : ∀ Y, SA Wz Y → Y.cell? ⟨w.heap.size + 1, 0, none⟩ = some (.int .i64 q.kind) := fun Y h => (Below.cell h (p := ⟨w.heap.size + 1, 0, none⟩) (by simp; omega)).trans a3
  have b4 : ∀ Y, SA Wz Y → Y.cell? ⟨w.heap.size + 1, 1, none⟩ = some (.int .u32 q.v) := fun Y h => (Below.cell h (p := ⟨w.heap.size + 1, 1, none⟩) (by simp; omega)).trans a4
  have b5 : ∀ Y, SA Wz Y → Y.cell? ⟨w.heap.size + 1, 2, none⟩ = some (.int .i64 q.block) := fun Y h => (Below.cell h (p := ⟨w.heap.size + 1, 2, none⟩) (by simp; omega)).trans a5
  have HCP : Hid (∀ Y, SA Wz Y → Below w.heap.size w Y) := fun Y h => HB.out.trans (Below.mono h (by omega))
  clear a0 a1 a2 a3 a4 a5
  go_wp2
  go_region_held3 (fun Y => SA Wz Y) (first | assumption | (with_reducible refine SA.drew ?_; assumption) | (with_reducible refine SA.below ?_ (by assumption); assumption)) ((go_at_call 65; refine (cG _ (by assumption) _ _ _ (by first | exact HP.out | exact HQ.out)).mono ?_; rintro e y1 ⟨rfl, hy1⟩))
  rename_i hHeld
  have HB1 : Hid (Below w.heap.size w y1) := HCP.out _ hHeld
  have HZ1 : Hid (y1.heap[w.heap.size + 2]? = some (.cells #[.int .i64 0, .int .u32 0, .int .i64 0] TV (0, 0))) := (hHeld.b.block _ (lt_of_heap HZ.out)).trans HZ.out
  have HS1 : Hid (SA Wz y1) := hHeld
  have d0 := b0 _ hHeld
  have d1 := b1 _ hHeld
  have d2 := b2 _ hHeld
  have d3 := b3 _ hHeld
  have d4 := b4 _ hHeld
  have d5 := b5 _ hHeld
  clear cG b0 b1 b2 b3 b4 b5 HW hHeld g1 g2
  go_wp2
  go_region
  go_wp2_with fail
  have hyd : Below y1.heap.size y1 y1.drew := (Below.refl _ _).drew
  have HB2 : Hid (Below w.heap.size w y1.drew) := HB1.out.trans (hyd.mono HB1.out.size)
  have HZ2 : Hid (y1.drew.heap[w.heap.size + 2]? = some (.cells #[.int .i64 0, .int .u32 0, .int .i64 0] TV (0, 0))) := HZ1.out
  clear hyd
  refine (cn _).mono ?_; rintro e w3 ⟨rfl, hb3⟩
  have HB3 : Hid (Below w.heap.size w w3) := HB2.out.trans (hb3.mono HB2.out.size)
  have HZ3 : Hid (w3.heap[w.heap.size + 2]? = some (.cells #[.int .i64 0, .int .u32 0, .int .i64 0] TV (0, 0))) := (hb3.block _ (lt_of_heap HZ2.out)).trans HZ2.out
  have l9 : w.heap.size + 2 < y1.drew.heap.size := lt_of_heap HZ2.out
  have f0 := (hb3.cell (p := ⟨w.heap.size, 0, none⟩) (by simp at l9 ⊢; omega)).trans d0
  have f1 := (hb3.cell (p := ⟨w.heap.size, 1, none⟩) (by simp at l9 ⊢; omega)).trans d1
  have f2 := (hb3.cell (p := ⟨w.heap.size, 2, none⟩) (by simp at l9 ⊢; omega)).trans d2
  have f3 := (hb3.cell (p := ⟨w.heap.size + 1, 0, none⟩) (by simp at l9 ⊢; omega)).trans d3
  have f4 := (hb3.cell (p := ⟨w.heap.size + 1, 1, none⟩) (by simp at l9 ⊢; omega)).trans d4
  have f5 := (hb3.cell (p := ⟨w.heap.size + 1, 2, none⟩) (by simp at l9 ⊢; omega)).trans d5
  have HS3 : Hid (SA Wz w3) := (HS1.out.drew).below hb3
  have l3 : w.heap.size + 2 < w3.heap.size := lt_of_heap HZ3.out
  clear hb3 cn d0 d1 d2 d3 d4 d5
  have HBZ := HB3
  obtain ⟨tf, t0, t1, t2⟩ := zero_facts HZ3.out
  go_wp2
  exact bodyPost_ret (v := .tuple #[.agg #[.int .i64 0, .int .u32 0, .int .i64 0], .int .i64 3]) (by simp [results, Try.results44, go_sem, t0, t1, t2]) rfl ⟨rfl, (by repeat (first | exact HBZ.out | refine Below.setCell ?_ (by simp <;> omega) _ | refine Below.alloc ?_ (by have := HBZ.out.size; simp; omega) _))⟩
set_option maxHeartbeats 8000000 in
theorem rb_ua3 (h : RX w rb ys R) (p q : Vl) (op : Int) (hp : VlOK p) (hq : VlOK q) (hgp : (goodS (stR ys) p).isSome = false) (hgq : (goodS (stR ys) q).isSome = false) (hip : ¬ p.kind = 1) (hiq : ¬ q.kind = 1) (ho1 : 1 ≤ op) (ho2 : op ≤ 19) :
    Calls Try.prog 44 #[.pointer (some ⟨rb, 0, none⟩), .int .i64 op, .agg #[.int .i64 p.kind, .int .u32 p.v, .int .i64 p.block], .agg #[.int .i64 q.kind, .int .u32 q.v, .int .i64 q.block]] w fun e w' => e = .returned (.tuple #[.agg #[.int .i64 0, .int .u32 0, .int .i64 0], .int .i64 3]) ∧ Below w.heap.size w w' := by
  have hB := BW_below w p q
  obtain ⟨⟨a0, a1, a2⟩, a3, a4, a5⟩ := BW_cells w p q
  have hsz := BW_size w p q
  obtain ⟨Wz, hW⟩ : ∃ Wz, Wz = BW w p q := ⟨_, rfl⟩
  have HB : Hid (Below w.heap.size w Wz) := by rw [hW]; exact hB
  have HZ : Hid (Wz.heap[w.heap.size + 2]? = some (.cells #[.int .i64 0, .int .u32 0, .int .i64 0] TV (0, 0))) := by rw [hW]; exact BW_heap w p q
  have H : Hid (RX Wz rb ys R) := by rw [hW]; exact h.keptB hB
  have cG : ∀ Y, SA Wz Y → ∀ k v bl, VlOK ⟨k, v, bl⟩ → Calls Try.prog 65 #[.pointer (some ⟨rb, 0, none⟩), .agg #[.int .i64 k, .int .u32 v, .int .i64 bl]] Y fun e w' => e = .returned (gdR ys k v bl) ∧ Below Y.heap.size Y w' := fun Y hY k v bl hv => goodR_c (H.out.keptB hY.b) ⟨k, v, bl⟩ hv
  have HP : Hid (VlOK ⟨p.kind, p.v, p.block⟩) := hp
  have HQ : Hid (VlOK ⟨q.kind, q.v, q.block⟩) := hq
  have g1 : gdR ys p.kind p.v p.block = .bool false := by
    have : gdR ys p.kind p.v p.block = .bool (goodS (stR ys) p).isSome := rfl
    rw [this, hgp]
  have g2 : gdR ys q.kind q.v q.block = .bool false := by
    have : gdR ys q.kind q.v q.block = .bool (goodS (stR ys) q).isSome := rfl
    rw [this, hgq]
  have i1 : (p.kind == 1) = false := by simpa using hip
  have i2 : (q.kind == 1) = false := by simpa using hiq
  have n2 := not_t
  have n3 := not_f
  have es := empty_l
  have hbz := zeroV_box
  have pv0 := hp.v0
  have pv1 := hp.v1
  have qv0 := hq.v0
  have qv1 := hq.v1
  obtain ⟨nm, hnm, cn⟩ := W.refname_yes op ho1 ho2
  rw [beq_toListBytes, empty_l] at hnm
  have hn1 : ¬ nm.toList = [] := by simpa using hnm
  have hn3 : decide (nm.toList = []) = false := by simpa using hn1

  have HW : SA Wz Wz := SA.refl _
  clear hgp hgq hip hiq hB h hp hq
  go_enter Try.func44, Try.ntmps44
  go_upto_region 1 with (fail)
  refine (?_ : Code.wp _ _ _ _ (BW w p q))
  rw [← hW] at a0 a1 a2 a3 a4 a5 hsz ⊢
  clear hW
  have b0 : ∀ Y, SA Wz Y → Y.cell? ⟨w.heap.size, 0, none⟩ = some (.int .i64 p.kind) := fun Y h => (Below.cell h (p := ⟨w.heap.size, 0, none⟩) (by simp; omega)).trans a0
  have b1 : ∀ Y, SA Wz Y → Y.cell? ⟨w.heap.size, 1, none⟩ = some (.int .u32 p.v) := fun Y h => (Below.cell h (p := ⟨w.heap.size, 1, none⟩) (by simp; omega)).trans a1
  have b2 : ∀ Y, SA Wz Y → Y.cell? ⟨w.heap.size, 2, none⟩ = some (.int .i64 p.block) := fun Y h => (Below.cell h (p := ⟨w.heap.size, 2, none⟩) (by simp; omega)).trans a2
  have b3 : ∀ Y, SA Wz Y → Y.cell? ⟨w.heap.size + 1, 0, none⟩ = some (.int .i64 q.kind) := fun Y h => (Below.cell h (p := ⟨w.heap.size + 1, 0, none⟩) (by simp; omega)).trans a3
  have b4 : ∀ Y, SA Wz Y → Y.cell? ⟨w.heap.size + 1, 1, none⟩ = some (.int .u32 q.v) := fun Y h => (Below.cell h (p := ⟨w.heap.size + 1, 1, none⟩) (by simp; omega)).trans a4
  have b5 : ∀ Y, SA Wz Y → Y.cell? ⟨w.heap.size + 1, 2, none⟩ = some (.int .i64 q.block) := fun Y h => (Below.cell h (p := ⟨w.heap.size + 1, 2, none⟩) (by simp; omega)).trans a5
  have HCP : Hid (∀ Y, SA Wz Y → Below w.heap.size w Y) := fun Y h => HB.out.trans (Below.mono h (by omega))
  clear a0 a1 a2 a3 a4 a5
  go_wp2
  go_region_held3 (fun Y => SA Wz Y) (first | assumption | (with_reducible refine SA.drew ?_; assumption) | (with_reducible refine SA.below ?_ (by assumption); assumption)) ((go_at_call 65; refine (cG _ (by assumption) _ _ _ (by first | exact HP.out | exact HQ.out)).mono ?_; rintro e y1 ⟨rfl, hy1⟩))
  rename_i hHeld
  have HB1 : Hid (Below w.heap.size w y1) := HCP.out _ hHeld
  have HZ1 : Hid (y1.heap[w.heap.size + 2]? = some (.cells #[.int .i64 0, .int .u32 0, .int .i64 0] TV (0, 0))) := (hHeld.b.block _ (lt_of_heap HZ.out)).trans HZ.out
  have HS1 : Hid (SA Wz y1) := hHeld
  have d0 := b0 _ hHeld
  have d1 := b1 _ hHeld
  have d2 := b2 _ hHeld
  have d3 := b3 _ hHeld
  have d4 := b4 _ hHeld
  have d5 := b5 _ hHeld
  clear cG b0 b1 b2 b3 b4 b5 HW hHeld g1 g2
  go_wp2
  go_region
  go_wp2_with fail
  have hyd : Below y1.heap.size y1 y1.drew := (Below.refl _ _).drew
  have HB2 : Hid (Below w.heap.size w y1.drew) := HB1.out.trans (hyd.mono HB1.out.size)
  have HZ2 : Hid (y1.drew.heap[w.heap.size + 2]? = some (.cells #[.int .i64 0, .int .u32 0, .int .i64 0] TV (0, 0))) := HZ1.out
  clear hyd
  refine (cn _).mono ?_; rintro e w3 ⟨rfl, hb3⟩
  have HB3 : Hid (Below w.heap.size w w3) := HB2.out.trans (hb3.mono HB2.out.size)
  have HZ3 : Hid (w3.heap[w.heap.size + 2]? = some (.cells #[.int .i64 0, .int .u32 0, .int .i64 0] TV (0, 0))) := (hb3.block _ (lt_of_heap HZ2.out)).trans HZ2.out
  have l9 : w.heap.size + 2 < y1.drew.heap.size := lt_of_heap HZ2.out
  have f0 := (hb3.cell (p := ⟨w.heap.size, 0, none⟩) (by simp at l9 ⊢; omega)).trans d0
  have f1 := (hb3.cell (p := ⟨w.heap.size, 1, none⟩) (by simp at l9 ⊢; omega)).trans d1
  have f2 := (hb3.cell (p := ⟨w.heap.size, 2, none⟩) (by simp at l9 ⊢; omega)).trans d2
  have f3 := (hb3.cell (p := ⟨w.heap.size + 1, 0, none⟩) (by simp at l9 ⊢; omega)).trans d3
  have f4 := (hb3.cell (p := ⟨w.heap.size + 1, 1, none⟩) (by simp at l9 ⊢; omega)).trans d4
  have f5 := (hb3.cell (p := ⟨w.heap.size + 1, 2, none⟩) (by simp at l9 ⊢; omega)).trans d5
  have HS3 : Hid (SA Wz w3) := (HS1.out.drew).below hb3
  have l3 : w.heap.size + 2 < w3.heap.size := lt_of_heap HZ3.out
  clear hb3 cn d0 d1 d2 d3 d4 d5
  have HBZ := HB3
  obtain ⟨tf, t0, t1, t2⟩ := zero_facts HZ3.out
  go_wp2
  exact bodyPost_ret (v := .tuple #[.agg #[.int .i64 0, .int .u32 0, .int .i64 0], .int .i64 3]) (by simp [results, Try.results44, go_sem, t0, t1, t2]) rfl ⟨rfl, (by repeat (first | exact HBZ.out | refine Below.setCell ?_ (by simp <;> omega) _ | refine Below.alloc ?_ (by have := HBZ.out.size; simp; omega) _))⟩
set_option maxHeartbeats 8000000 in
theorem rb_nn_no (h : RX w rb ys R) (p q : Vl) (op : Int) (hp : VlOK p) (hq : VlOK q) (hgp : (goodS (stR ys) p).isSome = false) (hgq : (goodS (stR ys) q).isSome = false) (hip : p.kind = 1) (hiq : q.kind = 1) (ho1 : 1 ≤ op) (ho2 : op ≤ 19) (v : Int) (cB : ∀ Y, Calls Try.prog 67 #[.int .i64 op, .int .u32 p.v, .int .u32 q.v] Y fun e w' => e = .returned (.tuple #[.int .u32 v, .bool false]) ∧ ∃ n, w' = Y.drewN n) :
    Calls Try.prog 44 #[.pointer (some ⟨rb, 0, none⟩), .int .i64 op, .agg #[.int .i64 p.kind, .int .u32 p.v, .int .i64 p.block], .agg #[.int .i64 q.kind, .int .u32 q.v, .int .i64 q.block]] w fun e w' => e = .returned (.tuple #[.agg #[.int .i64 0, .int .u32 0, .int .i64 0], .int .i64 2]) ∧ Below w.heap.size w w' := by
  have hB := BW_below w p q
  obtain ⟨⟨a0, a1, a2⟩, a3, a4, a5⟩ := BW_cells w p q
  have hsz := BW_size w p q
  obtain ⟨Wz, hW⟩ : ∃ Wz, Wz = BW w p q := ⟨_, rfl⟩
  have HB : Hid (Below w.heap.size w Wz) := by rw [hW]; exact hB
  have HZ : Hid (Wz.heap[w.heap.size + 2]? = some (.cells #[.int .i64 0, .int .u32 0, .int .i64 0] TV (0, 0))) := by rw [hW]; exact BW_heap w p q
  have H : Hid (RX Wz rb ys R) := by rw [hW]; exact h.keptB hB
  have cG : ∀ Y, SA Wz Y → ∀ k v bl, VlOK ⟨k, v, bl⟩ → Calls Try.prog 65 #[.pointer (some ⟨rb, 0, none⟩), .agg #[.int .i64 k, .int .u32 v, .int .i64 bl]] Y fun e w' => e = .returned (gdR ys k v bl) ∧ Below Y.heap.size Y w' := fun Y hY k v bl hv => goodR_c (H.out.keptB hY.b) ⟨k, v, bl⟩ hv
  have HP : Hid (VlOK ⟨p.kind, p.v, p.block⟩) := hp
  have HQ : Hid (VlOK ⟨q.kind, q.v, q.block⟩) := hq
  have g1 : gdR ys p.kind p.v p.block = .bool false := by
    have : gdR ys p.kind p.v p.block = .bool (goodS (stR ys) p).isSome := rfl
    rw [this, hgp]
  have g2 : gdR ys q.kind q.v q.block = .bool false := by
    have : gdR ys q.kind q.v q.block = .bool (goodS (stR ys) q).isSome := rfl
    rw [this, hgq]
  have i1 : (p.kind == 1) = true := by simpa using hip
  have i2 : (q.kind == 1) = true := by simpa using hiq
  have n2 := not_t
  have n3 := not_f
  have es := empty_l
  have hbz := zeroV_box
  have pv0 := hp.v0
  have pv1 := hp.v1
  have qv0 := hq.v0
  have qv1 := hq.v1
  obtain ⟨nm, hnm, cn⟩ := W.refname_yes op ho1 ho2
  rw [beq_toListBytes, empty_l] at hnm
  have hn1 : ¬ nm.toList = [] := by simpa using hnm
  have hn3 : decide (nm.toList = []) = false := by simpa using hn1

  have HW : SA Wz Wz := SA.refl _
  clear hgp hgq hip hiq hB h hp hq
  go_enter Try.func44, Try.ntmps44
  go_upto_region 1 with (fail)
  refine (?_ : Code.wp _ _ _ _ (BW w p q))
  rw [← hW] at a0 a1 a2 a3 a4 a5 hsz ⊢
  clear hW
  have b0 : ∀ Y, SA Wz Y → Y.cell? ⟨w.heap.size, 0, none⟩ = some (.int .i64 p.kind) := fun Y h => (Below.cell h (p := ⟨w.heap.size, 0, none⟩) (by simp; omega)).trans a0
  have b1 : ∀ Y, SA Wz Y → Y.cell? ⟨w.heap.size, 1, none⟩ = some (.int .u32 p.v) := fun Y h => (Below.cell h (p := ⟨w.heap.size, 1, none⟩) (by simp; omega)).trans a1
  have b2 : ∀ Y, SA Wz Y → Y.cell? ⟨w.heap.size, 2, none⟩ = some (.int .i64 p.block) := fun Y h => (Below.cell h (p := ⟨w.heap.size, 2, none⟩) (by simp; omega)).trans a2
  have b3 : ∀ Y, SA Wz Y → Y.cell? ⟨w.heap.size + 1, 0, none⟩ = some (.int .i64 q.kind) := fun Y h => (Below.cell h (p := ⟨w.heap.size + 1, 0, none⟩) (by simp; omega)).trans a3
  have b4 : ∀ Y, SA Wz Y → Y.cell? ⟨w.heap.size + 1, 1, none⟩ = some (.int .u32 q.v) := fun Y h => (Below.cell h (p := ⟨w.heap.size + 1, 1, none⟩) (by simp; omega)).trans a4
  have b5 : ∀ Y, SA Wz Y → Y.cell? ⟨w.heap.size + 1, 2, none⟩ = some (.int .i64 q.block) := fun Y h => (Below.cell h (p := ⟨w.heap.size + 1, 2, none⟩) (by simp; omega)).trans a5
  have HCP : Hid (∀ Y, SA Wz Y → Below w.heap.size w Y) := fun Y h => HB.out.trans (Below.mono h (by omega))
  clear a0 a1 a2 a3 a4 a5
  go_wp2
  go_region_held3 (fun Y => SA Wz Y) (first | assumption | (with_reducible refine SA.drew ?_; assumption) | (with_reducible refine SA.below ?_ (by assumption); assumption)) ((go_at_call 65; refine (cG _ (by assumption) _ _ _ (by first | exact HP.out | exact HQ.out)).mono ?_; rintro e y1 ⟨rfl, hy1⟩))
  rename_i hHeld
  have HB1 : Hid (Below w.heap.size w y1) := HCP.out _ hHeld
  have HZ1 : Hid (y1.heap[w.heap.size + 2]? = some (.cells #[.int .i64 0, .int .u32 0, .int .i64 0] TV (0, 0))) := (hHeld.b.block _ (lt_of_heap HZ.out)).trans HZ.out
  have HS1 : Hid (SA Wz y1) := hHeld
  have d0 := b0 _ hHeld
  have d1 := b1 _ hHeld
  have d2 := b2 _ hHeld
  have d3 := b3 _ hHeld
  have d4 := b4 _ hHeld
  have d5 := b5 _ hHeld
  clear cG b0 b1 b2 b3 b4 b5 HW hHeld g1 g2
  go_wp2
  go_region
  go_wp2_with fail
  have hyd : Below y1.heap.size y1 y1.drew := (Below.refl _ _).drew
  have HB2 : Hid (Below w.heap.size w y1.drew) := HB1.out.trans (hyd.mono HB1.out.size)
  have HZ2 : Hid (y1.drew.heap[w.heap.size + 2]? = some (.cells #[.int .i64 0, .int .u32 0, .int .i64 0] TV (0, 0))) := HZ1.out
  clear hyd
  refine (cn _).mono ?_; rintro e w3 ⟨rfl, hb3⟩
  have HB3 : Hid (Below w.heap.size w w3) := HB2.out.trans (hb3.mono HB2.out.size)
  have HZ3 : Hid (w3.heap[w.heap.size + 2]? = some (.cells #[.int .i64 0, .int .u32 0, .int .i64 0] TV (0, 0))) := (hb3.block _ (lt_of_heap HZ2.out)).trans HZ2.out
  have l9 : w.heap.size + 2 < y1.drew.heap.size := lt_of_heap HZ2.out
  have f0 := (hb3.cell (p := ⟨w.heap.size, 0, none⟩) (by simp at l9 ⊢; omega)).trans d0
  have f1 := (hb3.cell (p := ⟨w.heap.size, 1, none⟩) (by simp at l9 ⊢; omega)).trans d1
  have f2 := (hb3.cell (p := ⟨w.heap.size, 2, none⟩) (by simp at l9 ⊢; omega)).trans d2
  have f3 := (hb3.cell (p := ⟨w.heap.size + 1, 0, none⟩) (by simp at l9 ⊢; omega)).trans d3
  have f4 := (hb3.cell (p := ⟨w.heap.size + 1, 1, none⟩) (by simp at l9 ⊢; omega)).trans d4
  have f5 := (hb3.cell (p := ⟨w.heap.size + 1, 2, none⟩) (by simp at l9 ⊢; omega)).trans d5
  have HS3 : Hid (SA Wz w3) := (HS1.out.drew).below hb3
  have l3 : w.heap.size + 2 < w3.heap.size := lt_of_heap HZ3.out
  clear hb3 cn d0 d1 d2 d3 d4 d5
  go_wp2_with fail
  refine (cB _).mono ?_; rintro e w4 ⟨rfl, nn, hw4⟩
  have hb4 : Below w3.heap.size w3 w4 := by rw [hw4]; exact ⟨rfl, rfl, rfl, Nat.le_refl _, fun _ _ => rfl⟩
  have HB4 : Hid (Below w.heap.size w w4) := HB3.out.trans (hb4.mono HB3.out.size)
  have HZ4 : Hid (w4.heap[w.heap.size + 2]? = some (.cells #[.int .i64 0, .int .u32 0, .int .i64 0] TV (0, 0))) := (hb4.block _ (lt_of_heap HZ3.out)).trans HZ3.out
  clear hb4 hw4 cB
  have HBZ := HB4
  obtain ⟨tf, t0, t1, t2⟩ := zero_facts HZ4.out
  have l4 := lt_of_heap HZ4.out
  go_wp2
  exact bodyPost_ret (v := .tuple #[.agg #[.int .i64 0, .int .u32 0, .int .i64 0], .int .i64 2]) (by simp [results, Try.results44, go_sem, t0, t1, t2]) rfl ⟨rfl, (by repeat (first | exact HBZ.out | refine Below.setCell ?_ (by simp <;> omega) _ | refine Below.alloc ?_ (by have := HBZ.out.size; simp; omega) _))⟩
set_option maxHeartbeats 8000000 in
theorem rb_nn_ok (h : RX w rb ys R) (p q : Vl) (op : Int) (hp : VlOK p) (hq : VlOK q) (hgp : (goodS (stR ys) p).isSome = false) (hgq : (goodS (stR ys) q).isSome = false) (hip : p.kind = 1) (hiq : q.kind = 1) (ho1 : 1 ≤ op) (ho2 : op ≤ 19) (v : Int) (cB : ∀ Y, Calls Try.prog 67 #[.int .i64 op, .int .u32 p.v, .int .u32 q.v] Y fun e w' => e = .returned (.tuple #[.int .u32 v, .bool true]) ∧ ∃ n, w' = Y.drewN n) :
    Calls Try.prog 44 #[.pointer (some ⟨rb, 0, none⟩), .int .i64 op, .agg #[.int .i64 p.kind, .int .u32 p.v, .int .i64 p.block], .agg #[.int .i64 q.kind, .int .u32 q.v, .int .i64 q.block]] w fun e w' => e = .returned (.tuple #[.agg #[.int .i64 1, .int .u32 v, .int .i64 0], .int .i64 0]) ∧ Below w.heap.size w w' := by
  have hB := BW_below w p q
  obtain ⟨⟨a0, a1, a2⟩, a3, a4, a5⟩ := BW_cells w p q
  have hsz := BW_size w p q
  obtain ⟨Wz, hW⟩ : ∃ Wz, Wz = BW w p q := ⟨_, rfl⟩
  have HB : Hid (Below w.heap.size w Wz) := by rw [hW]; exact hB
  have HZ : Hid (Wz.heap[w.heap.size + 2]? = some (.cells #[.int .i64 0, .int .u32 0, .int .i64 0] TV (0, 0))) := by rw [hW]; exact BW_heap w p q
  have H : Hid (RX Wz rb ys R) := by rw [hW]; exact h.keptB hB
  have cG : ∀ Y, SA Wz Y → ∀ k v bl, VlOK ⟨k, v, bl⟩ → Calls Try.prog 65 #[.pointer (some ⟨rb, 0, none⟩), .agg #[.int .i64 k, .int .u32 v, .int .i64 bl]] Y fun e w' => e = .returned (gdR ys k v bl) ∧ Below Y.heap.size Y w' := fun Y hY k v bl hv => goodR_c (H.out.keptB hY.b) ⟨k, v, bl⟩ hv
  have HP : Hid (VlOK ⟨p.kind, p.v, p.block⟩) := hp
  have HQ : Hid (VlOK ⟨q.kind, q.v, q.block⟩) := hq
  have g1 : gdR ys p.kind p.v p.block = .bool false := by
    have : gdR ys p.kind p.v p.block = .bool (goodS (stR ys) p).isSome := rfl
    rw [this, hgp]
  have g2 : gdR ys q.kind q.v q.block = .bool false := by
    have : gdR ys q.kind q.v q.block = .bool (goodS (stR ys) q).isSome := rfl
    rw [this, hgq]
  have i1 : (p.kind == 1) = true := by simpa using hip
  have i2 : (q.kind == 1) = true := by simpa using hiq
  have n2 := not_t
  have n3 := not_f
  have es := empty_l
  have hbz := zeroV_box
  have pv0 := hp.v0
  have pv1 := hp.v1
  have qv0 := hq.v0
  have qv1 := hq.v1
  obtain ⟨nm, hnm, cn⟩ := W.refname_yes op ho1 ho2
  rw [beq_toListBytes, empty_l] at hnm
  have hn1 : ¬ nm.toList = [] := by simpa using hnm
  have hn3 : decide (nm.toList = []) = false := by simpa using hn1
  have cN := fun (v : Int) Y => num_c v Y

  have HW : SA Wz Wz := SA.refl _
  clear hgp hgq hip hiq hB h hp hq
  go_enter Try.func44, Try.ntmps44
  go_upto_region 1 with (fail)
  refine (?_ : Code.wp _ _ _ _ (BW w p q))
  rw [← hW] at a0 a1 a2 a3 a4 a5 hsz ⊢
  clear hW
  have b0 : ∀ Y, SA Wz Y → Y.cell? ⟨w.heap.size, 0, none⟩ = some (.int .i64 p.kind) := fun Y h => (Below.cell h (p := ⟨w.heap.size, 0, none⟩) (by simp; omega)).trans a0
  have b1 : ∀ Y, SA Wz Y → Y.cell? ⟨w.heap.size, 1, none⟩ = some (.int .u32 p.v) := fun Y h => (Below.cell h (p := ⟨w.heap.size, 1, none⟩) (by simp; omega)).trans a1
  have b2 : ∀ Y, SA Wz Y → Y.cell? ⟨w.heap.size, 2, none⟩ = some (.int .i64 p.block) := fun Y h => (Below.cell h (p := ⟨w.heap.size, 2, none⟩) (by simp; omega)).trans a2
  have b3 : ∀ Y, SA Wz Y → Y.cell? ⟨w.heap.size + 1, 0, none⟩ = some (.int .i64 q.kind) := fun Y h => (Below.cell h (p := ⟨w.heap.size + 1, 0, none⟩) (by simp; omega)).trans a3
  have b4 : ∀ Y, SA Wz Y → Y.cell? ⟨w.heap.size + 1, 1, none⟩ = some (.int .u32 q.v) := fun Y h => (Below.cell h (p := ⟨w.heap.size + 1, 1, none⟩) (by simp; omega)).trans a4
  have b5 : ∀ Y, SA Wz Y → Y.cell? ⟨w.heap.size + 1, 2, none⟩ = some (.int .i64 q.block) := fun Y h => (Below.cell h (p := ⟨w.heap.size + 1, 2, none⟩) (by simp; omega)).trans a5
  have HCP : Hid (∀ Y, SA Wz Y → Below w.heap.size w Y) := fun Y h => HB.out.trans (Below.mono h (by omega))
  clear a0 a1 a2 a3 a4 a5
  go_wp2
  go_region_held3 (fun Y => SA Wz Y) (first | assumption | (with_reducible refine SA.drew ?_; assumption) | (with_reducible refine SA.below ?_ (by assumption); assumption)) ((go_at_call 65; refine (cG _ (by assumption) _ _ _ (by first | exact HP.out | exact HQ.out)).mono ?_; rintro e y1 ⟨rfl, hy1⟩))
  rename_i hHeld
  have HB1 : Hid (Below w.heap.size w y1) := HCP.out _ hHeld
  have HZ1 : Hid (y1.heap[w.heap.size + 2]? = some (.cells #[.int .i64 0, .int .u32 0, .int .i64 0] TV (0, 0))) := (hHeld.b.block _ (lt_of_heap HZ.out)).trans HZ.out
  have HS1 : Hid (SA Wz y1) := hHeld
  have d0 := b0 _ hHeld
  have d1 := b1 _ hHeld
  have d2 := b2 _ hHeld
  have d3 := b3 _ hHeld
  have d4 := b4 _ hHeld
  have d5 := b5 _ hHeld
  clear cG b0 b1 b2 b3 b4 b5 HW hHeld g1 g2
  go_wp2
  go_region
  go_wp2_with fail
  have hyd : Below y1.heap.size y1 y1.drew := (Below.refl _ _).drew
  have HB2 : Hid (Below w.heap.size w y1.drew) := HB1.out.trans (hyd.mono HB1.out.size)
  have HZ2 : Hid (y1.drew.heap[w.heap.size + 2]? = some (.cells #[.int .i64 0, .int .u32 0, .int .i64 0] TV (0, 0))) := HZ1.out
  clear hyd
  refine (cn _).mono ?_; rintro e w3 ⟨rfl, hb3⟩
  have HB3 : Hid (Below w.heap.size w w3) := HB2.out.trans (hb3.mono HB2.out.size)
  have HZ3 : Hid (w3.heap[w.heap.size + 2]? = some (.cells #[.int .i64 0, .int .u32 0, .int .i64 0] TV (0, 0))) := (hb3.block _ (lt_of_heap HZ2.out)).trans HZ2.out
  have l9 : w.heap.size + 2 < y1.drew.heap.size := lt_of_heap HZ2.out
  have f0 := (hb3.cell (p := ⟨w.heap.size, 0, none⟩) (by simp at l9 ⊢; omega)).trans d0
  have f1 := (hb3.cell (p := ⟨w.heap.size, 1, none⟩) (by simp at l9 ⊢; omega)).trans d1
  have f2 := (hb3.cell (p := ⟨w.heap.size, 2, none⟩) (by simp at l9 ⊢; omega)).trans d2
  have f3 := (hb3.cell (p := ⟨w.heap.size + 1, 0, none⟩) (by simp at l9 ⊢; omega)).trans d3
  have f4 := (hb3.cell (p := ⟨w.heap.size + 1, 1, none⟩) (by simp at l9 ⊢; omega)).trans d4
  have f5 := (hb3.cell (p := ⟨w.heap.size + 1, 2, none⟩) (by simp at l9 ⊢; omega)).trans d5
  have HS3 : Hid (SA Wz w3) := (HS1.out.drew).below hb3
  have l3 : w.heap.size + 2 < w3.heap.size := lt_of_heap HZ3.out
  clear hb3 cn d0 d1 d2 d3 d4 d5
  go_wp2_with fail
  refine (cB _).mono ?_; rintro e w4 ⟨rfl, nn, hw4⟩
  have hb4 : Below w3.heap.size w3 w4 := by rw [hw4]; exact ⟨rfl, rfl, rfl, Nat.le_refl _, fun _ _ => rfl⟩
  have HB4 : Hid (Below w.heap.size w w4) := HB3.out.trans (hb4.mono HB3.out.size)
  have HZ4 : Hid (w4.heap[w.heap.size + 2]? = some (.cells #[.int .i64 0, .int .u32 0, .int .i64 0] TV (0, 0))) := (hb4.block _ (lt_of_heap HZ3.out)).trans HZ3.out
  clear hb4 hw4 cB
  go_wp2_with fail
  refine (cN _ _).mono ?_; rintro e w9 ⟨rfl, hb9⟩
  have HBZ : Hid (Below w.heap.size w w9) := HB4.out.trans (hb9.mono HB4.out.size)
  obtain ⟨tf, t0, t1, t2⟩ := zero_facts ((hb9.block _ (lt_of_heap HZ4.out)).trans HZ4.out)
  have hl9 : w.heap.size + 2 < w9.heap.size := World.block_lt_of_cell? w9 _ t0
  clear hb9
  go_wp2
  exact bodyPost_ret (v := .tuple #[.agg #[.int .i64 1, .int .u32 v, .int .i64 0], .int .i64 0]) (by simp [results, Try.results44, go_sem, t0, t1, t2]) rfl ⟨rfl, (by repeat (first | exact HBZ.out | refine Below.setCell ?_ (by simp <;> omega) _ | refine Below.alloc ?_ (by have := HBZ.out.size; simp; omega) _))⟩
set_option maxHeartbeats 8000000 in
theorem rb_pp (h : RX w rb ys R) (p q : Vl) (op : Int) (hp : VlOK p) (hq : VlOK q) (hgp : (goodS (stR ys) p).isSome = true) (hgq : (goodS (stR ys) q).isSome = true) (hip : ¬ p.kind = 1) (hiq : ¬ q.kind = 1) (ho1 : 1 ≤ op) (ho2 : op ≤ 19) (r : Vl) (st : Int) (cC : ∀ Y, Below w.heap.size w Y → Calls Try.prog 68 #[.pointer (some ⟨rb, 0, none⟩), .int .i64 op, .agg #[.int .i64 p.kind, .int .u32 p.v, .int .i64 p.block], .agg #[.int .i64 q.kind, .int .u32 q.v, .int .i64 q.block]] Y fun e w' => e = .returned (.tuple #[.agg #[.int .i64 r.kind, .int .u32 r.v, .int .i64 r.block], .int .i64 st]) ∧ Below Y.heap.size Y w') :
    Calls Try.prog 44 #[.pointer (some ⟨rb, 0, none⟩), .int .i64 op, .agg #[.int .i64 p.kind, .int .u32 p.v, .int .i64 p.block], .agg #[.int .i64 q.kind, .int .u32 q.v, .int .i64 q.block]] w fun e w' => e = .returned (.tuple #[.agg #[.int .i64 r.kind, .int .u32 r.v, .int .i64 r.block], .int .i64 st]) ∧ Below w.heap.size w w' := by
  have hB := BW_below w p q
  obtain ⟨⟨a0, a1, a2⟩, a3, a4, a5⟩ := BW_cells w p q
  have hsz := BW_size w p q
  obtain ⟨Wz, hW⟩ : ∃ Wz, Wz = BW w p q := ⟨_, rfl⟩
  have HB : Hid (Below w.heap.size w Wz) := by rw [hW]; exact hB
  have HZ : Hid (Wz.heap[w.heap.size + 2]? = some (.cells #[.int .i64 0, .int .u32 0, .int .i64 0] TV (0, 0))) := by rw [hW]; exact BW_heap w p q
  have H : Hid (RX Wz rb ys R) := by rw [hW]; exact h.keptB hB
  have cG : ∀ Y, SA Wz Y → ∀ k v bl, VlOK ⟨k, v, bl⟩ → Calls Try.prog 65 #[.pointer (some ⟨rb, 0, none⟩), .agg #[.int .i64 k, .int .u32 v, .int .i64 bl]] Y fun e w' => e = .returned (gdR ys k v bl) ∧ Below Y.heap.size Y w' := fun Y hY k v bl hv => goodR_c (H.out.keptB hY.b) ⟨k, v, bl⟩ hv
  have HP : Hid (VlOK ⟨p.kind, p.v, p.block⟩) := hp
  have HQ : Hid (VlOK ⟨q.kind, q.v, q.block⟩) := hq
  have g1 : gdR ys p.kind p.v p.block = .bool true := by
    have : gdR ys p.kind p.v p.block = .bool (goodS (stR ys) p).isSome := rfl
    rw [this, hgp]
  have g2 : gdR ys q.kind q.v q.block = .bool true := by
    have : gdR ys q.kind q.v q.block = .bool (goodS (stR ys) q).isSome := rfl
    rw [this, hgq]
  have i1 : (p.kind == 1) = false := by simpa using hip
  have i2 : (q.kind == 1) = false := by simpa using hiq
  have n2 := not_t
  have n3 := not_f
  have es := empty_l
  have hbz := zeroV_box
  have pv0 := hp.v0
  have pv1 := hp.v1
  have qv0 := hq.v0
  have qv1 := hq.v1
  obtain ⟨nm, hnm, cn⟩ := W.refname_yes op ho1 ho2
  rw [beq_toListBytes, empty_l] at hnm
  have hn1 : ¬ nm.toList = [] := by simpa using hnm
  have hn3 : decide (nm.toList = []) = false := by simpa using hn1

  have HW : SA Wz Wz := SA.refl _
  clear hgp hgq hip hiq hB h hp hq
  go_enter Try.func44, Try.ntmps44
  go_upto_region 1 with (fail)
  refine (?_ : Code.wp _ _ _ _ (BW w p q))
  rw [← hW] at a0 a1 a2 a3 a4 a5 hsz ⊢
  clear hW
  have b0 : ∀ Y, SA Wz Y → Y.cell? ⟨w.heap.size, 0, none⟩ = some (.int .i64 p.kind) := fun Y h => (Below.cell h (p := ⟨w.heap.size, 0, none⟩) (by simp; omega)).trans a0
  have b1 : ∀ Y, SA Wz Y → Y.cell? ⟨w.heap.size, 1, none⟩ = some (.int .u32 p.v) := fun Y h => (Below.cell h (p := ⟨w.heap.size, 1, none⟩) (by simp; omega)).trans a1
  have b2 : ∀ Y, SA Wz Y → Y.cell? ⟨w.heap.size, 2, none⟩ = some (.int .i64 p.block) := fun Y h => (Below.cell h (p := ⟨w.heap.size, 2, none⟩) (by simp; omega)).trans a2
  have b3 : ∀ Y, SA Wz Y → Y.cell? ⟨w.heap.size + 1, 0, none⟩ = some (.int .i64 q.kind) := fun Y h => (Below.cell h (p := ⟨w.heap.size + 1, 0, none⟩) (by simp; omega)).trans a3
  have b4 : ∀ Y, SA Wz Y → Y.cell? ⟨w.heap.size + 1, 1, none⟩ = some (.int .u32 q.v) := fun Y h => (Below.cell h (p := ⟨w.heap.size + 1, 1, none⟩) (by simp; omega)).trans a4
  have b5 : ∀ Y, SA Wz Y → Y.cell? ⟨w.heap.size + 1, 2, none⟩ = some (.int .i64 q.block) := fun Y h => (Below.cell h (p := ⟨w.heap.size + 1, 2, none⟩) (by simp; omega)).trans a5
  have HCP : Hid (∀ Y, SA Wz Y → Below w.heap.size w Y) := fun Y h => HB.out.trans (Below.mono h (by omega))
  clear a0 a1 a2 a3 a4 a5
  go_wp2
  go_region_held3 (fun Y => SA Wz Y) (first | assumption | (with_reducible refine SA.drew ?_; assumption) | (with_reducible refine SA.below ?_ (by assumption); assumption)) ((go_at_call 65; refine (cG _ (by assumption) _ _ _ (by first | exact HP.out | exact HQ.out)).mono ?_; rintro e y1 ⟨rfl, hy1⟩))
  rename_i hHeld
  have HB1 : Hid (Below w.heap.size w y1) := HCP.out _ hHeld
  have HZ1 : Hid (y1.heap[w.heap.size + 2]? = some (.cells #[.int .i64 0, .int .u32 0, .int .i64 0] TV (0, 0))) := (hHeld.b.block _ (lt_of_heap HZ.out)).trans HZ.out
  have HS1 : Hid (SA Wz y1) := hHeld
  have d0 := b0 _ hHeld
  have d1 := b1 _ hHeld
  have d2 := b2 _ hHeld
  have d3 := b3 _ hHeld
  have d4 := b4 _ hHeld
  have d5 := b5 _ hHeld
  clear cG b0 b1 b2 b3 b4 b5 HW hHeld g1 g2
  go_wp2
  go_region
  go_wp2_with fail
  have hyd : Below y1.heap.size y1 y1.drew := (Below.refl _ _).drew
  have HB2 : Hid (Below w.heap.size w y1.drew) := HB1.out.trans (hyd.mono HB1.out.size)
  have HZ2 : Hid (y1.drew.heap[w.heap.size + 2]? = some (.cells #[.int .i64 0, .int .u32 0, .int .i64 0] TV (0, 0))) := HZ1.out
  clear hyd
  refine (cn _).mono ?_; rintro e w3 ⟨rfl, hb3⟩
  have HB3 : Hid (Below w.heap.size w w3) := HB2.out.trans (hb3.mono HB2.out.size)
  have HZ3 : Hid (w3.heap[w.heap.size + 2]? = some (.cells #[.int .i64 0, .int .u32 0, .int .i64 0] TV (0, 0))) := (hb3.block _ (lt_of_heap HZ2.out)).trans HZ2.out
  have l9 : w.heap.size + 2 < y1.drew.heap.size := lt_of_heap HZ2.out
  have f0 := (hb3.cell (p := ⟨w.heap.size, 0, none⟩) (by simp at l9 ⊢; omega)).trans d0
  have f1 := (hb3.cell (p := ⟨w.heap.size, 1, none⟩) (by simp at l9 ⊢; omega)).trans d1
  have f2 := (hb3.cell (p := ⟨w.heap.size, 2, none⟩) (by simp at l9 ⊢; omega)).trans d2
  have f3 := (hb3.cell (p := ⟨w.heap.size + 1, 0, none⟩) (by simp at l9 ⊢; omega)).trans d3
  have f4 := (hb3.cell (p := ⟨w.heap.size + 1, 1, none⟩) (by simp at l9 ⊢; omega)).trans d4
  have f5 := (hb3.cell (p := ⟨w.heap.size + 1, 2, none⟩) (by simp at l9 ⊢; omega)).trans d5
  have HS3 : Hid (SA Wz w3) := (HS1.out.drew).below hb3
  have l3 : w.heap.size + 2 < w3.heap.size := lt_of_heap HZ3.out
  clear hb3 cn d0 d1 d2 d3 d4 d5
  go_wp2_with fail
  refine (cC _ HB3.out).mono ?_; rintro e w9 ⟨rfl, hb9⟩
  have HBZ : Hid (Below w.heap.size w w9) := HB3.out.trans (hb9.mono HB3.out.size)
  obtain ⟨tf, t0, t1, t2⟩ := zero_facts ((hb9.block _ (lt_of_heap HZ3.out)).trans HZ3.out)
  have hl9 : w.heap.size + 2 < w9.heap.size := World.block_lt_of_cell? w9 _ t0
  clear hb9
  go_wp2
  exact bodyPost_ret (v := .tuple #[.agg #[.int .i64 r.kind, .int .u32 r.v, .int .i64 r.block], .int .i64 st]) (by simp [results, Try.results44, go_sem, t0, t1, t2]) rfl ⟨rfl, (by repeat (first | exact HBZ.out | refine Below.setCell ?_ (by simp <;> omega) _ | refine Below.alloc ?_ (by have := HBZ.out.size; simp; omega) _))⟩
end
end Go.Proofs.Ytigiahcfcglacaa
