/-
  Pointers moved, a pointer and a number, what may be done with a value.
-/
import Derived.Test.YtigiahcfcglacaaMmQ
import Derived.Test.YtigiahcfcglacaaWBo
namespace Go.Proofs.Ytigiahcfcglacaa
open Go.RowKit Go.Maps
set_option linter.unusedVariables false
set_option maxRecDepth 100000
theorem neqb_nil (W : World) : (binOp BinOp.neq TPB (.pointer none) (.pointer none)).run Try.prog W = .ok (.bool false) W := by kernel_rfl
theorem neqb_some (a : Addr) (W : World) : (binOp BinOp.neq TPB (.pointer (some a)) (.pointer none)).run Try.prog W = .ok (.bool true) W := by kernel_rfl
section
variable {w : World} {b : Nat} {xs : List (Option Bx)} {P : Nat → Prop}
def usX (xs : List (Option Bx)) (v : Vl) : Bool := decide (v.kind = 1) || (goodX xs v).isSome
set_option maxHeartbeats 1000000 in
theorem usable_c (h : MemX w b xs P) (p : Vl) (hp : VlOK p) :
    Calls Try.prog 23 #[.pointer (some ⟨b, 0, none⟩), .agg #[.int .i64 p.kind, .int .u32 p.v, .int .i64 p.block]] w fun e w' => e = .returned (.bool (usX xs p)) ∧ Below w.heap.size w w' := by
  have hB : Below w.heap.size w (w.alloc (.cells #[.int .i64 p.kind, .int .u32 p.v, .int .i64 p.block] TV)) := (Below.refl _ w).alloc (Nat.le_refl _) _
  obtain ⟨a0, a1, a2⟩ := box_cells w p
  have h' := h.keptB hB
  have c := given_c h'.c012.1
  have cg := good_c h' p hp
  have e1 := neqb_nil
  have e2 := neqb_some
  have HB : Hid (Below w.heap.size w (w.alloc (.cells #[.int .i64 p.kind, .int .u32 p.v, .int .i64 p.block] TV))) := hB
  unfold usX
  by_cases hk : p.kind = 1
  · have hk1 : (p.kind == 1) = true := by simpa using hk
    rw [show (decide (p.kind = 1) || (goodX xs p).isSome) = true by simp [hk]]
    clear h h' hB hk cg
    go_enter Try.func23, Try.ntmps23
    go_wp2_with (go_at_call 30; refine c.mono ?_; rintro e w' ⟨rfl, hw⟩; rw [hw]; clear hw w')
    go_ret
    exact ⟨rfl, HB.out⟩
  · have hk1 : (p.kind == 1) = false := by simpa using hk
    cases hg : goodX xs p with
    | none =>
      rw [show (decide (p.kind = 1) || (none : Option Bx).isSome) = false by simp [hk]]
      rw [hg] at cg
      simp only [ptrX, Option.map_none] at cg
      clear h h' hB hk hg
      go_enter Try.func23, Try.ntmps23
      go_wp2_with (first | (go_at_call 30; refine c.mono ?_; rintro e w' ⟨rfl, hw⟩; rw [hw]; clear hw w') | (go_at_call 51; refine cg.mono ?_; rintro e w1 ⟨rfl, hb1⟩; have HB1 : Hid (Below w.heap.size w w1) := HB.out.trans (hb1.mono HB.out.size); clear hb1 cg))
      go_ret
      exact ⟨rfl, HB1.out⟩
    | some x =>
      rw [show (decide (p.kind = 1) || (some x : Option Bx).isSome) = true by simp]
      rw [hg] at cg
      simp only [ptrX, Option.map_some] at cg
      clear h h' hB hk hg
      go_enter Try.func23, Try.ntmps23
      go_wp2_with (first | (go_at_call 30; refine c.mono ?_; rintro e w' ⟨rfl, hw⟩; rw [hw]; clear hw w') | (go_at_call 51; refine cg.mono ?_; rintro e w1 ⟨rfl, hb1⟩; have HB1 : Hid (Below w.heap.size w w1) := HB.out.trans (hb1.mono HB.out.size); clear hb1 cg))
      go_ret
      exact ⟨rfl, HB1.out⟩
set_option maxHeartbeats 2000000 in
theorem moved_low (h : MemX w b xs P) (p : Vl) (hp : VlOK p) (by_ : Int) (hby : -2147483648 ≤ by_ ∧ by_ ≤ 2147483648) (x : Bx) (hg : goodX xs p = some x) (hl : p.v + by_ < 0) :
    Calls Try.prog 56 #[.pointer (some ⟨b, 0, none⟩), .agg #[.int .i64 p.kind, .int .u32 p.v, .int .i64 p.block], .int .i64 by_] w fun e w' => e = .returned (.tuple #[.agg #[.int .i64 0, .int .u32 0, .int .i64 0], .int .i64 3]) ∧ Below w.heap.size w w' := by
  have hB : Below w.heap.size w (ZW w p) := box2_below w p vlZ
  obtain ⟨hk2, hvs, i, hi, hx⟩ := goodX_some hg
  have bl := (h.at_ hx).keptB hB
  have hmx := bl.max
  have cg := good_c (h.keptB hB) p hp
  rw [hg] at cg
  simp only [ptrX, Option.map_some] at cg
  obtain ⟨⟨a0, a1, a2⟩, _, _, _⟩ := box2_cells w p vlZ
  rw [← ZW_box] at a0 a1 a2
  have HB : Hid (Below w.heap.size w (ZW w p)) := hB
  have hsz : (ZW w p).heap.size = w.heap.size + 2 := box2_size w p vlZ
  have HZ : Hid ((ZW w p).heap[w.heap.size + 1]? = some (.cells #[.int .i64 0, .int .u32 0, .int .i64 0] TV (0, 0))) := ZW_heap w p
  have cu := fun Y => undefined_c Y
  obtain ⟨v0, v1, _, _⟩ := hp
  obtain ⟨by0, by1⟩ := hby
  have w1_ : IntKind.i64.wrap p.v = p.v := by rw [IntKind.wrap_i64]; omega
  have w2_ : IntKind.i64.wrap (p.v + by_) = p.v + by_ := by rw [IntKind.wrap_i64]; omega
  have hd : decide (p.v + by_ < 0) = true := by simpa using hl
  have BL : Hid (BlkAt (ZW w p) x) := bl
  clear h hB hg hi hx hk2 bl
  obtain ⟨Wz, hW⟩ : ∃ Wz, Wz = ZW w p := ⟨_, rfl⟩
  go_enter Try.func56, Try.ntmps56
  go_upto_region 1 with (fail)
  refine (?_ : Code.wp _ _ _ _ (ZW w p))
  rw [← hW] at a0 a1 a2 cg HB hsz HZ BL ⊢
  clear hW
  go_wp2_with fail
  refine (cu _).mono ?_; rintro e w3 ⟨rfl, hb3⟩
  have HBZ : Hid (Below w.heap.size w w3) := HB.out.trans (hb3.mono HB.out.size)
  obtain ⟨tf, t0, t1, t2⟩ := zero_facts ((hb3.block _ (lt_of_heap HZ.out)).trans HZ.out)
  have hl3 : w.heap.size + 1 < w3.heap.size := World.block_lt_of_cell? w3 _ t0
  clear hb3 cu
  go_wp2
  exact bodyPost_ret (v := .tuple #[.agg #[.int .i64 0, .int .u32 0, .int .i64 0], .int .i64 3]) (by simp [results, Try.results56, go_sem, t0, t1, t2]) rfl ⟨rfl, (by repeat (first | exact HBZ.out | refine Below.setCell ?_ (by simp <;> omega) _ | refine Below.alloc ?_ (by have := HBZ.out.size; simp; omega) _))⟩
set_option maxHeartbeats 2000000 in
theorem moved_high (h : MemX w b xs P) (p : Vl) (hp : VlOK p) (by_ : Int) (hby : -2147483648 ≤ by_ ∧ by_ ≤ 2147483648) (x : Bx) (hg : goodX xs p = some x) (hl : (x.bk.size : Int) < p.v + by_) :
    Calls Try.prog 56 #[.pointer (some ⟨b, 0, none⟩), .agg #[.int .i64 p.kind, .int .u32 p.v, .int .i64 p.block], .int .i64 by_] w fun e w' => e = .returned (.tuple #[.agg #[.int .i64 0, .int .u32 0, .int .i64 0], .int .i64 3]) ∧ Below w.heap.size w w' := by
  have hB : Below w.heap.size w (ZW w p) := box2_below w p vlZ
  obtain ⟨hk2, hvs, i, hi, hx⟩ := goodX_some hg
  have bl := (h.at_ hx).keptB hB
  have hmx := bl.max
  have cg := good_c (h.keptB hB) p hp
  rw [hg] at cg
  simp only [ptrX, Option.map_some] at cg
  obtain ⟨⟨a0, a1, a2⟩, _, _, _⟩ := box2_cells w p vlZ
  rw [← ZW_box] at a0 a1 a2
  have HB : Hid (Below w.heap.size w (ZW w p)) := hB
  have hsz : (ZW w p).heap.size = w.heap.size + 2 := box2_size w p vlZ
  have HZ : Hid ((ZW w p).heap[w.heap.size + 1]? = some (.cells #[.int .i64 0, .int .u32 0, .int .i64 0] TV (0, 0))) := ZW_heap w p
  have cu := fun Y => undefined_c Y
  obtain ⟨v0, v1, _, _⟩ := hp
  obtain ⟨by0, by1⟩ := hby
  have w1_ : IntKind.i64.wrap p.v = p.v := by rw [IntKind.wrap_i64]; omega
  have w2_ : IntKind.i64.wrap (p.v + by_) = p.v + by_ := by rw [IntKind.wrap_i64]; omega
  have hd : decide (p.v + by_ < 0) = false := by simp; omega
  have hd2 : decide ((x.bk.size : Int) < p.v + by_) = true := by simpa using hl
  have BL : Hid (BlkAt (ZW w p) x) := bl
  clear h hB hg hi hx hk2 bl
  obtain ⟨Wz, hW⟩ : ∃ Wz, Wz = ZW w p := ⟨_, rfl⟩
  go_enter Try.func56, Try.ntmps56
  go_upto_region 1 with (fail)
  refine (?_ : Code.wp _ _ _ _ (ZW w p))
  rw [← hW] at a0 a1 a2 cg HB hsz HZ BL ⊢
  clear hW
  go_wp2_with fail
  refine cg.mono ?_; rintro e w1 ⟨rfl, hb1⟩
  have HB1 : Hid (Below w.heap.size w w1) := HB.out.trans (hb1.mono (by omega))
  have HZ1 : Hid (w1.heap[w.heap.size + 1]? = some (.cells #[.int .i64 0, .int .u32 0, .int .i64 0] TV (0, 0))) := (hb1.block _ (by omega)).trans HZ.out
  have k0 := (BL.out.keptB hb1).c0
  have k2 := (hb1.cell (p := ⟨w.heap.size, 2, none⟩) (by simp; omega)).trans a2
  clear hb1 cg HZ a0 a1 a2 HB BL
  go_wp2_with fail
  refine (cu _).mono ?_; rintro e w3 ⟨rfl, hb3⟩
  have HBZ : Hid (Below w.heap.size w w3) := HB1.out.trans (hb3.mono HB1.out.size)
  obtain ⟨tf, t0, t1, t2⟩ := zero_facts ((hb3.block _ (lt_of_heap HZ1.out)).trans HZ1.out)
  have hl3 : w.heap.size + 1 < w3.heap.size := World.block_lt_of_cell? w3 _ t0
  clear hb3 cu
  go_wp2
  exact bodyPost_ret (v := .tuple #[.agg #[.int .i64 0, .int .u32 0, .int .i64 0], .int .i64 3]) (by simp [results, Try.results56, go_sem, t0, t1, t2]) rfl ⟨rfl, (by repeat (first | exact HBZ.out | refine Below.setCell ?_ (by simp <;> omega) _ | refine Below.alloc ?_ (by have := HBZ.out.size; simp; omega) _))⟩
set_option maxHeartbeats 2000000 in
theorem moved_ok (h : MemX w b xs P) (p : Vl) (hp : VlOK p) (by_ : Int) (hby : -2147483648 ≤ by_ ∧ by_ ≤ 2147483648) (x : Bx) (hg : goodX xs p = some x) (hl : 0 ≤ p.v + by_) (hh : p.v + by_ ≤ x.bk.size) :
    Calls Try.prog 56 #[.pointer (some ⟨b, 0, none⟩), .agg #[.int .i64 p.kind, .int .u32 p.v, .int .i64 p.block], .int .i64 by_] w fun e w' => e = .returned (.tuple #[.agg #[.int .i64 2, .int .u32 (p.v + by_), .int .i64 p.block], .int .i64 0]) ∧ Below w.heap.size w w' := by
  have hB : Below w.heap.size w (ZW w p) := box2_below w p vlZ
  obtain ⟨hk2, hvs, i, hi, hx⟩ := goodX_some hg
  have bl := (h.at_ hx).keptB hB
  have hmx := bl.max
  have cg := good_c (h.keptB hB) p hp
  rw [hg] at cg
  simp only [ptrX, Option.map_some] at cg
  obtain ⟨⟨a0, a1, a2⟩, _, _, _⟩ := box2_cells w p vlZ
  rw [← ZW_box] at a0 a1 a2
  have HB : Hid (Below w.heap.size w (ZW w p)) := hB
  have hsz : (ZW w p).heap.size = w.heap.size + 2 := box2_size w p vlZ
  have HZ : Hid ((ZW w p).heap[w.heap.size + 1]? = some (.cells #[.int .i64 0, .int .u32 0, .int .i64 0] TV (0, 0))) := ZW_heap w p
  have cu := fun Y => undefined_c Y
  obtain ⟨v0, v1, _, _⟩ := hp
  obtain ⟨by0, by1⟩ := hby
  have w1_ : IntKind.i64.wrap p.v = p.v := by rw [IntKind.wrap_i64]; omega
  have w2_ : IntKind.i64.wrap (p.v + by_) = p.v + by_ := by rw [IntKind.wrap_i64]; omega
  have hd : decide (p.v + by_ < 0) = false := by simp; omega
  have hd2 : decide ((x.bk.size : Int) < p.v + by_) = false := by simp; omega
  have hb5 := build_V (p.v + by_) p.block
  have BL : Hid (BlkAt (ZW w p) x) := bl
  clear h hB hg hi hx hk2 bl
  obtain ⟨Wz, hW⟩ : ∃ Wz, Wz = ZW w p := ⟨_, rfl⟩
  go_enter Try.func56, Try.ntmps56
  go_upto_region 1 with (fail)
  refine (?_ : Code.wp _ _ _ _ (ZW w p))
  rw [← hW] at a0 a1 a2 cg HB hsz HZ BL ⊢
  clear hW
  go_wp2_with fail
  refine cg.mono ?_; rintro e w1 ⟨rfl, hb1⟩
  have HB1 : Hid (Below w.heap.size w w1) := HB.out.trans (hb1.mono (by omega))
  have HZ1 : Hid (w1.heap[w.heap.size + 1]? = some (.cells #[.int .i64 0, .int .u32 0, .int .i64 0] TV (0, 0))) := (hb1.block _ (by omega)).trans HZ.out
  have k0 := (BL.out.keptB hb1).c0
  have k2 := (hb1.cell (p := ⟨w.heap.size, 2, none⟩) (by simp; omega)).trans a2
  clear hb1 cg HZ a0 a1 a2 HB BL
  have HBZ := HB1
  obtain ⟨tf, t0, t1, t2⟩ := zero_facts HZ1.out
  go_wp2
  exact bodyPost_ret (v := .tuple #[.agg #[.int .i64 2, .int .u32 (p.v + by_), .int .i64 p.block], .int .i64 0]) (by simp [results, Try.results56, go_sem, t0, t1, t2]) rfl ⟨rfl, (by repeat (first | exact HBZ.out | refine Below.setCell ?_ (by simp <;> omega) _ | refine Below.alloc ?_ (by have := HBZ.out.size; simp; omega) _))⟩
set_option maxHeartbeats 1000000 in
theorem unlike_eq (op : Int) (ho : op = 14) (w : World) : Calls Try.prog 55 #[.int .i64 op] w fun e w' => e = .returned (.tuple #[.agg #[.int .i64 1, .int .u32 0, .int .i64 0], .int .i64 0]) ∧ Below w.heap.size w w' := by
  have hB : Below w.heap.size w (w.alloc (.cells #[.int .i64 0, .int .u32 0, .int .i64 0] TV)) := (Below.refl _ w).alloc (Nat.le_refl _) _
  have HB : Hid (Below w.heap.size w (w.alloc (.cells #[.int .i64 0, .int .u32 0, .int .i64 0] TV))) := hB
  have HZ : Hid ((w.alloc (.cells #[.int .i64 0, .int .u32 0, .int .i64 0] TV)).heap[w.heap.size]? = some (.cells #[.int .i64 0, .int .u32 0, .int .i64 0] TV (0, 0))) := heap_r0 w _
  have cu := fun Y => undefined_c Y
  have cN := fun (v : Int) Y => numberOf_c v Y
  have h1 : (op == 14) = true := by simpa using ho
  clear ho
  clear hB
  go_enter Try.func55, Try.ntmps55
  go_wp2_with fail
  refine (cN 0 _).mono ?_; rintro e w3 ⟨rfl, hb3⟩
  have HBZ : Hid (Below w.heap.size w w3) := HB.out.trans (hb3.mono HB.out.size)
  obtain ⟨tf, t0, t1, t2⟩ := zero_facts ((hb3.block _ (lt_of_heap HZ.out)).trans HZ.out)
  have hl3 : w.heap.size < w3.heap.size := World.block_lt_of_cell? w3 _ t0
  clear hb3 cu cN
  go_wp2
  exact bodyPost_ret (v := .tuple #[.agg #[.int .i64 1, .int .u32 0, .int .i64 0], .int .i64 0]) (by simp [results, Try.results55, go_sem, t0, t1, t2]) rfl ⟨rfl, (by repeat (first | exact HBZ.out | refine Below.setCell ?_ (by simp <;> omega) _ | refine Below.alloc ?_ (by have := HBZ.out.size; simp; omega) _))⟩
set_option maxHeartbeats 1000000 in
theorem unlike_ne (op : Int) (ho : op = 15) (w : World) : Calls Try.prog 55 #[.int .i64 op] w fun e w' => e = .returned (.tuple #[.agg #[.int .i64 1, .int .u32 1, .int .i64 0], .int .i64 0]) ∧ Below w.heap.size w w' := by
  have hB : Below w.heap.size w (w.alloc (.cells #[.int .i64 0, .int .u32 0, .int .i64 0] TV)) := (Below.refl _ w).alloc (Nat.le_refl _) _
  have HB : Hid (Below w.heap.size w (w.alloc (.cells #[.int .i64 0, .int .u32 0, .int .i64 0] TV))) := hB
  have HZ : Hid ((w.alloc (.cells #[.int .i64 0, .int .u32 0, .int .i64 0] TV)).heap[w.heap.size]? = some (.cells #[.int .i64 0, .int .u32 0, .int .i64 0] TV (0, 0))) := heap_r0 w _
  have cu := fun Y => undefined_c Y
  have cN := fun (v : Int) Y => numberOf_c v Y
  have h1 : (op == 14) = false := by simp; omega
  have h2 : (op == 15) = true := by simpa using ho
  clear ho
  clear hB
  go_enter Try.func55, Try.ntmps55
  go_wp2_with fail
  refine (cN 1 _).mono ?_; rintro e w3 ⟨rfl, hb3⟩
  have HBZ : Hid (Below w.heap.size w w3) := HB.out.trans (hb3.mono HB.out.size)
  obtain ⟨tf, t0, t1, t2⟩ := zero_facts ((hb3.block _ (lt_of_heap HZ.out)).trans HZ.out)
  have hl3 : w.heap.size < w3.heap.size := World.block_lt_of_cell? w3 _ t0
  clear hb3 cu cN
  go_wp2
  exact bodyPost_ret (v := .tuple #[.agg #[.int .i64 1, .int .u32 1, .int .i64 0], .int .i64 0]) (by simp [results, Try.results55, go_sem, t0, t1, t2]) rfl ⟨rfl, (by repeat (first | exact HBZ.out | refine Below.setCell ?_ (by simp <;> omega) _ | refine Below.alloc ?_ (by have := HBZ.out.size; simp; omega) _))⟩
set_option maxHeartbeats 1000000 in
theorem unlike_no (op : Int) (ho : ¬ op = 14) (ho2 : ¬ op = 15) (w : World) : Calls Try.prog 55 #[.int .i64 op] w fun e w' => e = .returned (.tuple #[.agg #[.int .i64 0, .int .u32 0, .int .i64 0], .int .i64 3]) ∧ Below w.heap.size w w' := by
  have hB : Below w.heap.size w (w.alloc (.cells #[.int .i64 0, .int .u32 0, .int .i64 0] TV)) := (Below.refl _ w).alloc (Nat.le_refl _) _
  have HB : Hid (Below w.heap.size w (w.alloc (.cells #[.int .i64 0, .int .u32 0, .int .i64 0] TV))) := hB
  have HZ : Hid ((w.alloc (.cells #[.int .i64 0, .int .u32 0, .int .i64 0] TV)).heap[w.heap.size]? = some (.cells #[.int .i64 0, .int .u32 0, .int .i64 0] TV (0, 0))) := heap_r0 w _
  have cu := fun Y => undefined_c Y
  have cN := fun (v : Int) Y => numberOf_c v Y
  have h1 : (op == 14) = false := by simpa using ho
  have h2 : (op == 15) = false := by simpa using ho2
  clear ho ho2
  clear hB
  go_enter Try.func55, Try.ntmps55
  go_wp2_with fail
  refine (cu _).mono ?_; rintro e w3 ⟨rfl, hb3⟩
  have HBZ : Hid (Below w.heap.size w w3) := HB.out.trans (hb3.mono HB.out.size)
  obtain ⟨tf, t0, t1, t2⟩ := zero_facts ((hb3.block _ (lt_of_heap HZ.out)).trans HZ.out)
  have hl3 : w.heap.size < w3.heap.size := World.block_lt_of_cell? w3 _ t0
  clear hb3 cu cN
  go_wp2
  exact bodyPost_ret (v := .tuple #[.agg #[.int .i64 0, .int .u32 0, .int .i64 0], .int .i64 3]) (by simp [results, Try.results55, go_sem, t0, t1, t2]) rfl ⟨rfl, (by repeat (first | exact HBZ.out | refine Below.setCell ?_ (by simp <;> omega) _ | refine Below.alloc ?_ (by have := HBZ.out.size; simp; omega) _))⟩
end
end Go.Proofs.Ytigiahcfcglacaa
