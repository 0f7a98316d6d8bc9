/-
  A pointer and a number.
-/
import Derived.Test.YtigiahcfcglacaaMmR
namespace Go.Proofs.Ytigiahcfcglacaa
open Go.RowKit Go.Maps
set_option linter.unusedVariables false
set_option maxRecDepth 100000
theorem int_c (n : Int) (w : World) (h0 : 0 ≤ n) (h1 : n < 4294967296) : Calls Try.prog 57 #[.int .u32 n] w fun e w' => e = .returned (.int .i64 (wrap32 n)) ∧ w' = w := by
  have := W.int_any n w
  have hb := W.wrap32_bd n
  rw [W.wrap64_small (wrap32 n) (by omega) (by omega)] at this
  exact this
section
variable {w : World} {b : Nat}
set_option maxHeartbeats 4000000 in
theorem ofPtr_add (p : Vl) (op n : Int) (n0 : 0 ≤ n) (n1 : n < 4294967296) (ho : op = 1) (r : Vl) (st : Int) (cM : ∀ Y, Below w.heap.size w Y → Calls Try.prog 56 #[.pointer (some ⟨b, 0, none⟩), .agg #[.int .i64 p.kind, .int .u32 p.v, .int .i64 p.block], .int .i64 (wrap32 n)] Y fun e w' => e = .returned (.tuple #[.agg #[.int .i64 r.kind, .int .u32 r.v, .int .i64 r.block], .int .i64 st]) ∧ Below Y.heap.size Y w') :
    Calls Try.prog 27 #[.pointer (some ⟨b, 0, none⟩), .int .i64 op, .agg #[.int .i64 p.kind, .int .u32 p.v, .int .i64 p.block], .int .u32 n] w fun e w' => e = .returned (.tuple #[.agg #[.int .i64 r.kind, .int .u32 r.v, .int .i64 r.block], .int .i64 st]) ∧ Below w.heap.size w w' := by
  have hB : Below w.heap.size w (ZW w p) := box2_below w p vlZ
  obtain ⟨⟨a0, a1, a2⟩, _, _, _⟩ := box2_cells w p vlZ
  rw [← ZW_box] at a0 a1 a2
  have HB : Hid (Below w.heap.size w (ZW w p)) := hB
  have hsz : (ZW w p).heap.size = w.heap.size + 2 := box2_size w p vlZ
  have HZ : Hid ((ZW w p).heap[w.heap.size + 1]? = some (.cells #[.int .i64 0, .int .u32 0, .int .i64 0] TV (0, 0))) := ZW_heap w p
  have cu := fun Y => undefined_c Y
  have cI := fun Y => int_c n Y n0 n1
  have h1 : (op == 1) = true := by simpa using ho
  clear hB ho
  obtain ⟨Wz, hW⟩ : ∃ Wz, Wz = ZW w p := ⟨_, rfl⟩
  go_enter Try.func27, Try.ntmps27
  go_upto_region 1 with (fail)
  refine (?_ : Code.wp _ _ _ _ (ZW w p))
  rw [← hW] at a0 a1 a2 HB hsz HZ ⊢
  clear hW
  obtain ⟨s0, s1, s2, s3⟩ := zero_facts HZ.out
  have hz2 : w.heap.size + 1 < Wz.heap.size := lt_of_heap HZ.out
  go_wp2
  go_region_with (first | (go_at_call 57; refine (cI _).mono ?_; rintro e w' ⟨rfl, hw⟩; rw [hw]; clear hw w' cI) | (go_at_call 56; refine (cM _ (HB.out.trans (Below.refl _ _).drew)).mono ?_; rintro e w3 ⟨rfl, hb0⟩; have hb3 : Below Wz.heap.size Wz w3 := (Below.refl _ Wz).drew.trans hb0; have HBZ : Hid (Below w.heap.size w w3) := HB.out.trans (hb3.mono HB.out.size); obtain ⟨tf, t0, t1, t2⟩ := zero_facts ((hb3.block _ (lt_of_heap HZ.out)).trans HZ.out); have hl3 : w.heap.size + 1 < w3.heap.size := World.block_lt_of_cell? w3 _ t0; have m0 := (hb3.cell (p := ⟨w.heap.size, 0, none⟩) (by simp; omega)).trans a0; have m1 := (hb3.cell (p := ⟨w.heap.size, 1, none⟩) (by simp; omega)).trans a1; have m2 := (hb3.cell (p := ⟨w.heap.size, 2, none⟩) (by simp; omega)).trans a2; clear hb3 hb0 cM))
  all_goals go_wp2
  all_goals exact bodyPost_ret (v := .tuple #[.agg #[.int .i64 r.kind, .int .u32 r.v, .int .i64 r.block], .int .i64 st]) (by simp [results, Try.results27, go_sem, t0, t1, t2]) rfl ⟨rfl, (by repeat (first | exact HBZ.out | refine Below.setCell ?_ (by simp <;> omega) _ | refine Below.alloc ?_ (by have := HBZ.out.size; simp; omega) _))⟩

set_option maxHeartbeats 4000000 in
theorem ofPtr_sub (p : Vl) (op n : Int) (n0 : 0 ≤ n) (n1 : n < 4294967296) (ho : op = 2) (r : Vl) (st : Int) (cM : ∀ Y, Below w.heap.size w Y → Calls Try.prog 56 #[.pointer (some ⟨b, 0, none⟩), .agg #[.int .i64 p.kind, .int .u32 p.v, .int .i64 p.block], .int .i64 (-(wrap32 n))] Y fun e w' => e = .returned (.tuple #[.agg #[.int .i64 r.kind, .int .u32 r.v, .int .i64 r.block], .int .i64 st]) ∧ Below Y.heap.size Y w') :
    Calls Try.prog 27 #[.pointer (some ⟨b, 0, none⟩), .int .i64 op, .agg #[.int .i64 p.kind, .int .u32 p.v, .int .i64 p.block], .int .u32 n] w fun e w' => e = .returned (.tuple #[.agg #[.int .i64 r.kind, .int .u32 r.v, .int .i64 r.block], .int .i64 st]) ∧ Below w.heap.size w w' := by
  have hB : Below w.heap.size w (ZW w p) := box2_below w p vlZ
  obtain ⟨⟨a0, a1, a2⟩, _, _, _⟩ := box2_cells w p vlZ
  rw [← ZW_box] at a0 a1 a2
  have HB : Hid (Below w.heap.size w (ZW w p)) := hB
  have hsz : (ZW w p).heap.size = w.heap.size + 2 := box2_size w p vlZ
  have HZ : Hid ((ZW w p).heap[w.heap.size + 1]? = some (.cells #[.int .i64 0, .int .u32 0, .int .i64 0] TV (0, 0))) := ZW_heap w p
  have cu := fun Y => undefined_c Y
  have cI := fun Y => int_c n Y n0 n1
  have h1 : (op == 1) = false := by simp; omega
  have h2 : (op == 2) = true := by simpa using ho
  have hb32 := W.wrap32_bd n
  have w9_ : IntKind.i64.wrap (-(wrap32 n)) = -(wrap32 n) := by rw [IntKind.wrap_i64]; omega
  clear hB ho
  obtain ⟨Wz, hW⟩ : ∃ Wz, Wz = ZW w p := ⟨_, rfl⟩
  go_enter Try.func27, Try.ntmps27
  go_upto_region 1 with (fail)
  refine (?_ : Code.wp _ _ _ _ (ZW w p))
  rw [← hW] at a0 a1 a2 HB hsz HZ ⊢
  clear hW
  obtain ⟨s0, s1, s2, s3⟩ := zero_facts HZ.out
  have hz2 : w.heap.size + 1 < Wz.heap.size := lt_of_heap HZ.out
  go_wp2
  go_region_with (first | (go_at_call 57; refine (cI _).mono ?_; rintro e w' ⟨rfl, hw⟩; rw [hw]; clear hw w' cI) | (go_at_call 56; refine (cM _ (HB.out.trans (Below.refl _ _).drew)).mono ?_; rintro e w3 ⟨rfl, hb0⟩; have hb3 : Below Wz.heap.size Wz w3 := (Below.refl _ Wz).drew.trans hb0; have HBZ : Hid (Below w.heap.size w w3) := HB.out.trans (hb3.mono HB.out.size); obtain ⟨tf, t0, t1, t2⟩ := zero_facts ((hb3.block _ (lt_of_heap HZ.out)).trans HZ.out); have hl3 : w.heap.size + 1 < w3.heap.size := World.block_lt_of_cell? w3 _ t0; have m0 := (hb3.cell (p := ⟨w.heap.size, 0, none⟩) (by simp; omega)).trans a0; have m1 := (hb3.cell (p := ⟨w.heap.size, 1, none⟩) (by simp; omega)).trans a1; have m2 := (hb3.cell (p := ⟨w.heap.size, 2, none⟩) (by simp; omega)).trans a2; clear hb3 hb0 cM))
  all_goals go_wp2
  all_goals exact bodyPost_ret (v := .tuple #[.agg #[.int .i64 r.kind, .int .u32 r.v, .int .i64 r.block], .int .i64 st]) (by simp [results, Try.results27, go_sem, t0, t1, t2]) rfl ⟨rfl, (by repeat (first | exact HBZ.out | refine Below.setCell ?_ (by simp <;> omega) _ | refine Below.alloc ?_ (by have := HBZ.out.size; simp; omega) _))⟩

set_option maxHeartbeats 4000000 in
theorem ofPtr_no (p : Vl) (op n : Int) (n0 : 0 ≤ n) (n1 : n < 4294967296) (ho : ¬ op = 1) (ho2 : ¬ op = 2) (hn : ¬ n = 0) :
    Calls Try.prog 27 #[.pointer (some ⟨b, 0, none⟩), .int .i64 op, .agg #[.int .i64 p.kind, .int .u32 p.v, .int .i64 p.block], .int .u32 n] w fun e w' => e = .returned (.tuple #[.agg #[.int .i64 0, .int .u32 0, .int .i64 0], .int .i64 3]) ∧ Below w.heap.size w w' := by
  have hB : Below w.heap.size w (ZW w p) := box2_below w p vlZ
  obtain ⟨⟨a0, a1, a2⟩, _, _, _⟩ := box2_cells w p vlZ
  rw [← ZW_box] at a0 a1 a2
  have HB : Hid (Below w.heap.size w (ZW w p)) := hB
  have hsz : (ZW w p).heap.size = w.heap.size + 2 := box2_size w p vlZ
  have HZ : Hid ((ZW w p).heap[w.heap.size + 1]? = some (.cells #[.int .i64 0, .int .u32 0, .int .i64 0] TV (0, 0))) := ZW_heap w p
  have cu := fun Y => undefined_c Y
  have cI := fun Y => int_c n Y n0 n1
  have h1 : (op == 1) = false := by simpa using ho
  have h2 : (op == 2) = false := by simpa using ho2
  have h3 : (n != 0) = true := by simpa using hn
  clear hB ho ho2 hn
  obtain ⟨Wz, hW⟩ : ∃ Wz, Wz = ZW w p := ⟨_, rfl⟩
  go_enter Try.func27, Try.ntmps27
  go_upto_region 1 with (fail)
  refine (?_ : Code.wp _ _ _ _ (ZW w p))
  rw [← hW] at a0 a1 a2 HB hsz HZ ⊢
  clear hW
  go_wp2_with fail
  refine (cu _).mono ?_; rintro e w3 ⟨rfl, hb3⟩
  have HBZ : Hid (Below w.heap.size w w3) := HB.out.trans (hb3.mono HB.out.size)
  obtain ⟨tf, t0, t1, t2⟩ := zero_facts ((hb3.block _ (lt_of_heap HZ.out)).trans HZ.out)
  have hl3 : w.heap.size + 1 < w3.heap.size := World.block_lt_of_cell? w3 _ t0
  clear hb3 cu
  go_wp2
  exact bodyPost_ret (v := .tuple #[.agg #[.int .i64 0, .int .u32 0, .int .i64 0], .int .i64 3]) (by simp [results, Try.results27, go_sem, t0, t1, t2]) rfl ⟨rfl, (by repeat (first | exact HBZ.out | refine Below.setCell ?_ (by simp <;> omega) _ | refine Below.alloc ?_ (by have := HBZ.out.size; simp; omega) _))⟩
set_option maxHeartbeats 4000000 in
theorem ofPtr_zero (p : Vl) (op n : Int) (n0 : 0 ≤ n) (n1 : n < 4294967296) (ho : ¬ op = 1) (ho2 : ¬ op = 2) (hn : n = 0) (r : Vl) (st : Int) (cU : ∀ Y, Calls Try.prog 55 #[.int .i64 op] Y fun e w' => e = .returned (.tuple #[.agg #[.int .i64 r.kind, .int .u32 r.v, .int .i64 r.block], .int .i64 st]) ∧ Below Y.heap.size Y w') :
    Calls Try.prog 27 #[.pointer (some ⟨b, 0, none⟩), .int .i64 op, .agg #[.int .i64 p.kind, .int .u32 p.v, .int .i64 p.block], .int .u32 n] w fun e w' => e = .returned (.tuple #[.agg #[.int .i64 r.kind, .int .u32 r.v, .int .i64 r.block], .int .i64 st]) ∧ Below w.heap.size w w' := by
  have hB : Below w.heap.size w (ZW w p) := box2_below w p vlZ
  obtain ⟨⟨a0, a1, a2⟩, _, _, _⟩ := box2_cells w p vlZ
  rw [← ZW_box] at a0 a1 a2
  have HB : Hid (Below w.heap.size w (ZW w p)) := hB
  have hsz : (ZW w p).heap.size = w.heap.size + 2 := box2_size w p vlZ
  have HZ : Hid ((ZW w p).heap[w.heap.size + 1]? = some (.cells #[.int .i64 0, .int .u32 0, .int .i64 0] TV (0, 0))) := ZW_heap w p
  have cu := fun Y => undefined_c Y
  have cI := fun Y => int_c n Y n0 n1
  have h1 : (op == 1) = false := by simpa using ho
  have h2 : (op == 2) = false := by simpa using ho2
  have h3 : (n != 0) = false := by simpa using hn
  clear hB ho ho2 hn
  obtain ⟨Wz, hW⟩ : ∃ Wz, Wz = ZW w p := ⟨_, rfl⟩
  go_enter Try.func27, Try.ntmps27
  go_upto_region 1 with (fail)
  refine (?_ : Code.wp _ _ _ _ (ZW w p))
  rw [← hW] at a0 a1 a2 HB hsz HZ ⊢
  clear hW
  go_wp2_with fail
  refine (cU _).mono ?_; rintro e w3 ⟨rfl, hb3⟩
  have HBZ : Hid (Below w.heap.size w w3) := HB.out.trans (hb3.mono HB.out.size)
  obtain ⟨tf, t0, t1, t2⟩ := zero_facts ((hb3.block _ (lt_of_heap HZ.out)).trans HZ.out)
  have hl3 : w.heap.size + 1 < w3.heap.size := World.block_lt_of_cell? w3 _ t0
  clear hb3 cU
  go_wp2
  exact bodyPost_ret (v := .tuple #[.agg #[.int .i64 r.kind, .int .u32 r.v, .int .i64 r.block], .int .i64 st]) (by simp [results, Try.results27, go_sem, t0, t1, t2]) rfl ⟨rfl, (by repeat (first | exact HBZ.out | refine Below.setCell ?_ (by simp <;> omega) _ | refine Below.alloc ?_ (by have := HBZ.out.size; simp; omega) _))⟩
end
end Go.Proofs.Ytigiahcfcglacaa
