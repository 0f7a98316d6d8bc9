/-
  The given answer: a pointer moved, a pointer at its block's end, what is undefined told by 1 and 0.
-/
import Derived.Test.YtigiahcfcglacaaRmI
import Derived.Test.YtigiahcfcglacaaMmV
namespace Go.Proofs.Ytigiahcfcglacaa
open Go.RowKit Go.Maps
set_option linter.unusedVariables false
set_option maxRecDepth 100000
section
variable {w : World} {rb : Nat} {ys : List Ry} {R : Nat → Prop}
set_option maxHeartbeats 2000000 in
theorem movedR_low (h : RX w rb ys R) (p : Vl) (hp : VlOK p) (by_ : Int) (hby : -2147483648 ≤ by_ ∧ by_ ≤ 2147483648) (k : Bk) (hg : goodS (stR ys) p = some k) (hl : p.v + by_ < 0) :
    Calls Try.prog 69 #[.pointer (some ⟨rb, 0, none⟩), .agg #[.int .i64 p.kind, .int .u32 p.v, .int .i64 p.block], .int .i64 by_] w fun e w' => e = .returned (.tuple #[.agg #[.int .i64 0, .int .u32 0, .int .i64 0], .int .i64 3]) ∧ Below w.heap.size w w' := by
  have hB : Below w.heap.size w (ZW w p) := box2_below w p vlZ
  obtain ⟨hk2, hvs, i, hi, hx⟩ := goodS_some hg
  obtain ⟨y, hy, hyk⟩ := st_at hx
  obtain ⟨g, cap, c0, c1, _, _, hcap, e0, e1, e2⟩ := (h.keptB hB).row hy
  obtain ⟨ow, ho⟩ := h.own
  have hmx := (ho i y k hy hyk).max
  have hil : i < ys.length := (List.getElem?_eq_some_iff.1 hy).1
  have hlen := h.len
  unfold ryS at e2
  rw [hyk] at e2
  simp only [] at e2
  obtain ⟨⟨a0, a1, a2⟩, _, _, _⟩ := box2_cells w p vlZ
  rw [← ZW_box] at a0 a1 a2
  rw [hi] at a2
  have HB : Hid (Below w.heap.size w (ZW w p)) := hB
  have hsz : (ZW w p).heap.size = w.heap.size + 2 := box2_size w p vlZ
  obtain ⟨tf, t0, t1, t2⟩ := zero_facts (ZW_heap w p)
  have hbz := zeroV_box
  have HI : Hid (p.block = (i : Int) + 1) := hi
  obtain ⟨v0, v1, _, _⟩ := hp
  obtain ⟨by0, by1⟩ := hby
  have w1_ : IntKind.i64.wrap p.v = p.v := by rw [IntKind.wrap_i64]; omega
  have w2_ : IntKind.i64.wrap (p.v + by_) = p.v + by_ := by rw [IntKind.wrap_i64]; omega
  have w3_ : ((i : Int) + 1 - 1) = (i : Int) := by omega
  have hd : decide (p.v + by_ < 0) = true := by simpa using hl
  clear h hB hg hi hx hk2 hy hyk ho c1 e0 e1
  obtain ⟨Wz, hW⟩ : ∃ Wz, Wz = ZW w p := ⟨_, rfl⟩
  go_enter Try.func69, Try.ntmps69
  go_upto_region 1 with (fail)
  refine (?_ : Code.wp _ _ _ _ (ZW w p))
  rw [← hW] at a0 a1 a2 HB hsz c0 e2 tf t0 t1 t2 ⊢
  have hlz : w.heap.size + 1 < Wz.heap.size := by omega
  have HBZ := HB
  clear hW
  go_wp2
  go_quiet (fail)
  go_wp2
  exact bodyPost_ret (v := .tuple #[.agg #[.int .i64 0, .int .u32 0, .int .i64 0], .int .i64 3]) (by simp [results, Try.results69, go_sem, t0, t1, t2]) rfl ⟨rfl, (by first | exact HBZ.out.trans ⟨rfl, rfl, rfl, Nat.le_refl _, fun _ _ => rfl⟩ | (repeat (first | exact HBZ.out | exact HBZ.out.trans ⟨rfl, rfl, rfl, Nat.le_refl _, fun _ _ => rfl⟩ | refine Below.drew ?_ | refine Below.setCell ?_ (by simp <;> omega) _ | refine Below.alloc ?_ (by have := HBZ.out.size; simp; omega) _)))⟩
set_option maxHeartbeats 2000000 in
theorem movedR_high (h : RX w rb ys R) (p : Vl) (hp : VlOK p) (by_ : Int) (hby : -2147483648 ≤ by_ ∧ by_ ≤ 2147483648) (k : Bk) (hg : goodS (stR ys) p = some k) (hl : (k.size : Int) < p.v + by_) :
    Calls Try.prog 69 #[.pointer (some ⟨rb, 0, none⟩), .agg #[.int .i64 p.kind, .int .u32 p.v, .int .i64 p.block], .int .i64 by_] w fun e w' => e = .returned (.tuple #[.agg #[.int .i64 0, .int .u32 0, .int .i64 0], .int .i64 3]) ∧ Below w.heap.size w w' := by
  have hB : Below w.heap.size w (ZW w p) := box2_below w p vlZ
  obtain ⟨hk2, hvs, i, hi, hx⟩ := goodS_some hg
  obtain ⟨y, hy, hyk⟩ := st_at hx
  obtain ⟨g, cap, c0, c1, _, _, hcap, e0, e1, e2⟩ := (h.keptB hB).row hy
  obtain ⟨ow, ho⟩ := h.own
  have hmx := (ho i y k hy hyk).max
  have hil : i < ys.length := (List.getElem?_eq_some_iff.1 hy).1
  have hlen := h.len
  unfold ryS at e2
  rw [hyk] at e2
  simp only [] at e2
  obtain ⟨⟨a0, a1, a2⟩, _, _, _⟩ := box2_cells w p vlZ
  rw [← ZW_box] at a0 a1 a2
  rw [hi] at a2
  have HB : Hid (Below w.heap.size w (ZW w p)) := hB
  have hsz : (ZW w p).heap.size = w.heap.size + 2 := box2_size w p vlZ
  obtain ⟨tf, t0, t1, t2⟩ := zero_facts (ZW_heap w p)
  have hbz := zeroV_box
  have HI : Hid (p.block = (i : Int) + 1) := hi
  obtain ⟨v0, v1, _, _⟩ := hp
  obtain ⟨by0, by1⟩ := hby
  have w1_ : IntKind.i64.wrap p.v = p.v := by rw [IntKind.wrap_i64]; omega
  have w2_ : IntKind.i64.wrap (p.v + by_) = p.v + by_ := by rw [IntKind.wrap_i64]; omega
  have w3_ : ((i : Int) + 1 - 1) = (i : Int) := by omega
  have hd : decide (p.v + by_ < 0) = false := by simp; omega
  have hd2 : decide ((k.size : Int) < p.v + by_) = true := by simpa using hl
  clear h hB hg hi hx hk2 hy hyk ho c1 e0 e1
  obtain ⟨Wz, hW⟩ : ∃ Wz, Wz = ZW w p := ⟨_, rfl⟩
  go_enter Try.func69, Try.ntmps69
  go_upto_region 1 with (fail)
  refine (?_ : Code.wp _ _ _ _ (ZW w p))
  rw [← hW] at a0 a1 a2 HB hsz c0 e2 tf t0 t1 t2 ⊢
  have hlz : w.heap.size + 1 < Wz.heap.size := by omega
  have HBZ := HB
  clear hW
  go_wp2
  go_quiet (fail)
  go_wp2
  exact bodyPost_ret (v := .tuple #[.agg #[.int .i64 0, .int .u32 0, .int .i64 0], .int .i64 3]) (by simp [results, Try.results69, go_sem, t0, t1, t2]) rfl ⟨rfl, (by first | exact HBZ.out.trans ⟨rfl, rfl, rfl, Nat.le_refl _, fun _ _ => rfl⟩ | (repeat (first | exact HBZ.out | exact HBZ.out.trans ⟨rfl, rfl, rfl, Nat.le_refl _, fun _ _ => rfl⟩ | refine Below.drew ?_ | refine Below.setCell ?_ (by simp <;> omega) _ | refine Below.alloc ?_ (by have := HBZ.out.size; simp; omega) _)))⟩
set_option maxHeartbeats 2000000 in
theorem movedR_ok (h : RX w rb ys R) (p : Vl) (hp : VlOK p) (by_ : Int) (hby : -2147483648 ≤ by_ ∧ by_ ≤ 2147483648) (k : Bk) (hg : goodS (stR ys) p = some k) (hl : 0 ≤ p.v + by_) (hh : p.v + by_ ≤ k.size) :
    Calls Try.prog 69 #[.pointer (some ⟨rb, 0, none⟩), .agg #[.int .i64 p.kind, .int .u32 p.v, .int .i64 p.block], .int .i64 by_] w fun e w' => e = .returned (.tuple #[.agg #[.int .i64 2, .int .u32 (p.v + by_), .int .i64 p.block], .int .i64 0]) ∧ Below w.heap.size w w' := by
  have hB : Below w.heap.size w (ZW w p) := box2_below w p vlZ
  obtain ⟨hk2, hvs, i, hi, hx⟩ := goodS_some hg
  obtain ⟨y, hy, hyk⟩ := st_at hx
  obtain ⟨g, cap, c0, c1, _, _, hcap, e0, e1, e2⟩ := (h.keptB hB).row hy
  obtain ⟨ow, ho⟩ := h.own
  have hmx := (ho i y k hy hyk).max
  have hil : i < ys.length := (List.getElem?_eq_some_iff.1 hy).1
  have hlen := h.len
  unfold ryS at e2
  rw [hyk] at e2
  simp only [] at e2
  obtain ⟨⟨a0, a1, a2⟩, _, _, _⟩ := box2_cells w p vlZ
  rw [← ZW_box] at a0 a1 a2
  rw [hi] at a2
  have HB : Hid (Below w.heap.size w (ZW w p)) := hB
  have hsz : (ZW w p).heap.size = w.heap.size + 2 := box2_size w p vlZ
  obtain ⟨tf, t0, t1, t2⟩ := zero_facts (ZW_heap w p)
  have hbz := zeroV_box
  have HI : Hid (p.block = (i : Int) + 1) := hi
  obtain ⟨v0, v1, _, _⟩ := hp
  obtain ⟨by0, by1⟩ := hby
  have w1_ : IntKind.i64.wrap p.v = p.v := by rw [IntKind.wrap_i64]; omega
  have w2_ : IntKind.i64.wrap (p.v + by_) = p.v + by_ := by rw [IntKind.wrap_i64]; omega
  have w3_ : ((i : Int) + 1 - 1) = (i : Int) := by omega
  have hd : decide (p.v + by_ < 0) = false := by simp; omega
  have hd2 : decide ((k.size : Int) < p.v + by_) = false := by simp; omega
  have hb5 := build_V (p.v + by_) ((i : Int) + 1)
  clear h hB hg hi hx hk2 hy hyk ho c1 e0 e1
  obtain ⟨Wz, hW⟩ : ∃ Wz, Wz = ZW w p := ⟨_, rfl⟩
  go_enter Try.func69, Try.ntmps69
  go_upto_region 1 with (fail)
  refine (?_ : Code.wp _ _ _ _ (ZW w p))
  rw [← hW] at a0 a1 a2 HB hsz c0 e2 tf t0 t1 t2 ⊢
  have hlz : w.heap.size + 1 < Wz.heap.size := by omega
  have HBZ := HB
  clear hW
  go_wp2
  go_quiet (fail)
  go_wp2
  rw [HI.out]
  exact bodyPost_ret (v := .tuple #[.agg #[.int .i64 2, .int .u32 (p.v + by_), .int .i64 ((i : Int) + 1)], .int .i64 0]) (by simp [results, Try.results69, go_sem, t0, t1, t2]) rfl ⟨rfl, (by first | exact HBZ.out.trans ⟨rfl, rfl, rfl, Nat.le_refl _, fun _ _ => rfl⟩ | (repeat (first | exact HBZ.out | exact HBZ.out.trans ⟨rfl, rfl, rfl, Nat.le_refl _, fun _ _ => rfl⟩ | refine Below.drew ?_ | refine Below.setCell ?_ (by simp <;> omega) _ | refine Below.alloc ?_ (by have := HBZ.out.size; simp; omega) _)))⟩
set_option maxHeartbeats 2000000 in
theorem endsR_c (h : RX w rb ys R) (p : Vl) (hp : VlOK p) (k : Bk) (hg : goodS (stR ys) p = some k) :
    Calls Try.prog 82 #[.pointer (some ⟨rb, 0, none⟩), .agg #[.int .i64 p.kind, .int .u32 p.v, .int .i64 p.block]] w fun e w' => e = .returned (.bool (decide (p.v = k.size))) ∧ Below w.heap.size w w' := by
  have hB : Below w.heap.size w (w.alloc (.cells #[.int .i64 p.kind, .int .u32 p.v, .int .i64 p.block] TV)) := (Below.refl _ w).alloc (Nat.le_refl _) _
  obtain ⟨a0, a1, a2⟩ := box_cells w p
  obtain ⟨hk2, hvs, i, hi, hx⟩ := goodS_some hg
  obtain ⟨y, hy, hyk⟩ := st_at hx
  obtain ⟨g, cap, c0, c1, _, _, hcap, e0, e1, e2⟩ := (h.keptB hB).row hy
  obtain ⟨ow, ho⟩ := h.own
  have hmx := (ho i y k hy hyk).max
  have hil : i < ys.length := (List.getElem?_eq_some_iff.1 hy).1
  have hlen := h.len
  unfold ryS at e2
  rw [hyk] at e2
  simp only [] at e2
  have HB : Hid (Below w.heap.size w (w.alloc (.cells #[.int .i64 p.kind, .int .u32 p.v, .int .i64 p.block] TV))) := hB
  obtain ⟨v0, v1, _, _⟩ := hp
  have w1_ : IntKind.i64.wrap p.v = p.v := by rw [IntKind.wrap_i64]; omega
  have w3_ : ((i : Int) + 1 - 1) = (i : Int) := by omega
  rw [hi] at a0 a1 a2 HB c0 e2 ⊢
  clear h hB hg hi hx hk2 hy hyk ho c1 e0 e1
  go_enter Try.func82, Try.ntmps82
  go_wp2
  go_quiet (fail)
  go_wp2
  go_ret
  exact ⟨bool_ret (by rw [Bool.eq_iff_iff]; simp), HB.out.trans ⟨rfl, rfl, rfl, Nat.le_refl _, fun _ _ => rfl⟩⟩
theorem tru_true (w : World) : Calls Try.prog 70 #[.bool true] w fun e w' => e = .returned (.agg #[.int .i64 1, .int .u32 1, .int .i64 0]) ∧ Below w.heap.size w w' := by
  have HB : Hid (Below w.heap.size w (w.alloc (.cells #[.int .i64 0, .int .u32 0, .int .i64 0] TV))) := (Below.refl _ w).alloc (Nat.le_refl _) _
  have HZ : Hid ((w.alloc (.cells #[.int .i64 0, .int .u32 0, .int .i64 0] TV)).heap[w.heap.size]? = some (.cells #[.int .i64 0, .int .u32 0, .int .i64 0] TV (0, 0))) := heap_r0 w _
  have cN := fun (v : Int) Y => num_c v Y
  go_enter Try.func70, Try.ntmps70
  go_wp2_with fail
  refine (cN _ _).mono ?_; rintro e w3 ⟨rfl, hb3⟩
  have HBZ : Hid (Below w.heap.size w w3) := HB.out.trans (hb3.mono HB.out.size)
  obtain ⟨tf, t0, t1, t2⟩ := zero_facts ((hb3.block _ (lt_of_heap HZ.out)).trans HZ.out)
  have hl3 : w.heap.size < w3.heap.size := World.block_lt_of_cell? w3 _ t0
  clear hb3 cN
  go_wp2
  exact bodyPost_ret (v := .agg #[.int .i64 1, .int .u32 1, .int .i64 0]) (by simp [results, Try.results70, go_sem, t0, t1, t2]) rfl ⟨rfl, (by repeat (first | exact HBZ.out | refine Below.setCell ?_ (by simp <;> omega) _ | refine Below.alloc ?_ (by have := HBZ.out.size; simp; omega) _))⟩
theorem tru_false (w : World) : Calls Try.prog 70 #[.bool false] w fun e w' => e = .returned (.agg #[.int .i64 1, .int .u32 0, .int .i64 0]) ∧ Below w.heap.size w w' := by
  have HB : Hid (Below w.heap.size w (w.alloc (.cells #[.int .i64 0, .int .u32 0, .int .i64 0] TV))) := (Below.refl _ w).alloc (Nat.le_refl _) _
  have HZ : Hid ((w.alloc (.cells #[.int .i64 0, .int .u32 0, .int .i64 0] TV)).heap[w.heap.size]? = some (.cells #[.int .i64 0, .int .u32 0, .int .i64 0] TV (0, 0))) := heap_r0 w _
  have cN := fun (v : Int) Y => num_c v Y
  go_enter Try.func70, Try.ntmps70
  go_wp2_with fail
  refine (cN _ _).mono ?_; rintro e w3 ⟨rfl, hb3⟩
  have HBZ : Hid (Below w.heap.size w w3) := HB.out.trans (hb3.mono HB.out.size)
  obtain ⟨tf, t0, t1, t2⟩ := zero_facts ((hb3.block _ (lt_of_heap HZ.out)).trans HZ.out)
  have hl3 : w.heap.size < w3.heap.size := World.block_lt_of_cell? w3 _ t0
  clear hb3 cN
  go_wp2
  exact bodyPost_ret (v := .agg #[.int .i64 1, .int .u32 0, .int .i64 0]) (by simp [results, Try.results70, go_sem, t0, t1, t2]) rfl ⟨rfl, (by repeat (first | exact HBZ.out | refine Below.setCell ?_ (by simp <;> omega) _ | refine Below.alloc ?_ (by have := HBZ.out.size; simp; omega) _))⟩
end
end Go.Proofs.Ytigiahcfcglacaa
