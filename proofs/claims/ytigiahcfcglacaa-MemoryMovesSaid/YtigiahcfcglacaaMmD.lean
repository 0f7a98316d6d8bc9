/-
  A block's cells: read, put; a new block.
-/
import Derived.Test.YtigiahcfcglacaaMmC
import Derived.Deep.RegionLaw
import Derived.Deep.RegionHeld3
import Derived.Deep.OwnRows
import Derived.Laws.MakeOwn
namespace Go.Proofs.Ytigiahcfcglacaa
open Go.RowKit Go.Maps
set_option linter.unusedVariables false
set_option maxRecDepth 100000

theorem eqs_nil (W : World) : (binOp BinOp.eql TP (.slice none 0 0) (.slice none 0 0)).run Try.prog W = .ok (.bool true) W := by kernel_rfl
theorem eqs_some (a : Addr) (n c : Nat) (W : World) : (binOp BinOp.eql TP (.slice (some a) n c) (.slice none 0 0)).run Try.prog W = .ok (.bool false) W := by kernel_rfl
theorem BlkAt.c0 {w : World} {x : Bx} (h : BlkAt w x) : w.cell? ⟨x.bb, 0, none⟩ = some (.int .i64 x.bk.size) := by rw [Lib.cell_of_heap h.blk]; rfl
theorem BlkAt.c1 {w : World} {x : Bx} (h : BlkAt w x) : w.cell? ⟨x.bb, 1, none⟩ = some (.int .i64 x.bk.align) := by rw [Lib.cell_of_heap h.blk]; rfl
theorem BlkAt.c2 {w : World} {x : Bx} (h : BlkAt w x) : w.cell? ⟨x.bb, 2, none⟩ = some (.slice (some ⟨x.pb, 0, none⟩) (np x.bk.size) (np x.bk.size)) := by rw [Lib.cell_of_heap h.blk]; rfl
theorem BlkAt.pc {w : World} {x : Bx} (h : BlkAt w x) {j : Nat} (hj : j < np x.bk.size) : w.cell? ⟨x.pb, j, none⟩ = some (pgV x j) := by
  obtain ⟨cs, h1, h2, h3⟩ := h.pages
  rw [Lib.cell_of_heap h1]; exact h3 j hj
theorem BlkAt.keptB {w w' : World} {x : Bx} (h : BlkAt w x) (hb : Below w.heap.size w w') : BlkAt w' x := h.kept (Turned.of_below hb (fun _ => False)) (fun h => h) (fun h => h) (fun _ _ _ _ h => h)
theorem BlkAt.lt1 {w : World} {x : Bx} (h : BlkAt w x) : x.bb < w.heap.size := lt_of_heap h.blk
theorem BlkAt.lt2 {w : World} {x : Bx} (h : BlkAt w x) : x.pb < w.heap.size := by
  obtain ⟨cs, h1, h2, h3⟩ := h.pages
  exact lt_of_heap h1
set_option maxHeartbeats 1000000 in
theorem at_c {w : World} {x : Bx} (h : BlkAt w x) (k : Nat) (hk : k < x.bk.size) :
    Calls Try.prog 35 #[.pointer (some ⟨x.bb, 0, none⟩), .int .i64 k] w fun e w' => e = .returned (.agg #[.int .i64 (x.bk.cell k).kind, .int .u32 (x.bk.cell k).v, .int .i64 (x.bk.cell k).block, .int .i64 (x.bk.cell k).part]) ∧ Below w.heap.size w w' := by
  have e1 := eqs_nil
  have e2 := eqs_some
  have hbt : ∀ (W : World), (Instr.build TC #[]).run Try.prog W = .ok (.agg #[.int .i64 0, .int .u32 0, .int .i64 0, .int .i64 0]) W := fun W => by kernel_rfl
  have hB : Below w.heap.size w (w.alloc (.cells #[.int .i64 0, .int .u32 0, .int .i64 0, .int .i64 0] TC)) := (Below.refl _ w).alloc (Nat.le_refl _) _
  have h' := h.keptB hB
  have c2 := h'.c2
  have hj := np_lt hk
  have hm := plen_lt hk
  have hmx := plen_max x.bk.size (k / 128)
  have hnx := np_max h.max
  have hp := h'.pc hj
  have hkk : k = k / 128 * 128 + k % 128 := by omega
  have hx := h.max
  have HN := h.nopg (k / 128) hj
  have HA := h'.apg (k / 128)
  have g1 := h.lt1
  have g2 := h.lt2
  have hp1 : (k : Int) / 128 = ((k / 128 : Nat) : Int) := by omega
  have hp2 : (k : Int) % 128 = ((k % 128 : Nat) : Int) := by omega
  obtain ⟨j, hjd⟩ : ∃ j, j = k / 128 := ⟨_, rfl⟩
  obtain ⟨m, hmd⟩ : ∃ m, m = k % 128 := ⟨_, rfl⟩
  rw [← hjd] at hj hm hmx hp hkk HN HA hp1
  rw [← hmd] at hm hkk hp2
  have HK : Hid (k = j * 128 + m) := hkk
  have HP1 : Hid ((k : Int) / 128 = j) := hp1
  have HP2 : Hid ((k : Int) % 128 = m) := hp2
  cases hpg : x.pg j with
  | none =>
    have hz : x.bk.cell k = clZ := by rw [hkk]; exact HN hpg m (by omega)
    rw [hz]
    simp only [pgV, hpg] at hp
    clear HN HA hz hpg hkk hjd hmd h h' hp2
    go_enter Try.func35, Try.ntmps35
    go_wp2
    exact bodyPost_ret (v := .agg #[.int .i64 0, .int .u32 0, .int .i64 0, .int .i64 0]) (by simp [results, Try.results35, go_sem]) rfl ⟨rfl, (by repeat (first | exact Below.refl _ _ | refine Below.setCell ?_ (by simp) _ | refine Below.alloc ?_ (by simp) _))⟩
  | some g =>
    have hA := HA g hj hpg
    have hc := hA.cell hm
    rw [← hkk] at hc
    obtain ⟨a0, a1, a2, a3⟩ := hc
    simp only [pgV, hpg] at hp
    generalize x.bk.cell k = c at *
    clear HN HA hA hpg hkk hjd hmd h h'
    go_enter Try.func35, Try.ntmps35
    go_wp2
    exact bodyPost_ret (v := .agg #[.int .i64 c.kind, .int .u32 c.v, .int .i64 c.block, .int .i64 c.part]) (by simp [results, Try.results35, go_sem]) rfl ⟨rfl, (by repeat (first | exact Below.refl _ _ | refine Below.setCell ?_ (by simp) _ | refine Below.alloc ?_ (by simp) _))⟩
theorem info_cell : (Try.prog.info? TC).map (fun i => (i.zero, i.size, i.bytes)) = some (some (.agg #[.int .i64 0, .int .u32 0, .int .i64 0, .int .i64 0]), 4, 32) := by kernel_rfl
theorem info_pg : (Try.prog.info? TP).map (fun i => (i.zero, i.size, i.bytes)) = some (some (.slice none 0 0), 1, 24) := by kernel_rfl
theorem info_parts {P : Program} {e : TypeId} {z : Value} {size bytes : Nat} (hinfo : (P.info? e).map (fun i => (i.zero, i.size, i.bytes)) = some (some z, size, bytes)) : ∃ i, P.info? e = some i ∧ i.zero = some z ∧ i.size = size ∧ i.bytes = bytes := by
  obtain ⟨i, hi, hzz⟩ := Option.map_eq_some_iff.1 hinfo
  simp only [Prod.mk.injEq] at hzz
  exact ⟨i, hi, hzz⟩
def zeroC (n : Nat) : Array Value := madeCells #[.int .i64 0, .int .u32 0, .int .i64 0, .int .i64 0] (n * 4)
theorem make_cells (n : Nat) (hn : n ≤ 1000000) (w : World) : (Instr.makeSlice TP (.int .i64 (n : Int)) (.int .i64 (n : Int))).run Try.prog w = .ok (.slice (some ⟨w.heap.size, 0, none⟩) n n) (w.alloc (.cells (zeroC n) TC)) := by
  obtain ⟨i0, hi, hz0, hz1, hz2⟩ := info_parts info_cell
  have := run_make (P := Try.prog) w TP TC i0 _ Try.underlying36 hi hz0 .i64 .i64 n n (by omega) (by omega) (by rw [hz2]; omega) (by omega)
  rw [this, hz1]; rfl
theorem zero_cells (w : World) (n : Nat) : CellsAt (w.alloc (.cells (zeroC n) TC)) w.heap.size n (fun _ => clZ) := by
  refine ⟨_, heap_r0 w _, by simp [zeroC, size_madeCells], fun i hi k hk => ?_⟩
  have hlt : i * 4 + k < n * 4 := by omega
  have hk4 : k = 0 ∨ k = 1 ∨ k = 2 ∨ k = 3 := by omega
  have hm : (i * 4 + k) % 4 = k := by omega
  have e : (zeroC n)[i * 4 + k]? = some (#[Value.int .i64 0, .int .u32 0, .int .i64 0, .int .i64 0][k]!) := by
    unfold zeroC madeCells
    rw [Array.getElem?_map, Array.getElem?_eq_getElem (by simpa using hlt)]
    simp [hm]
  rw [e]
  rcases hk4 with rfl | rfl | rfl | rfl <;> rfl
def zeroP (n : Nat) : Array Value := madeCells #[.slice none 0 0] n
theorem make_pages (n : Nat) (hn : n ≤ 1000000) (w : World) : (Instr.makeSlice 106 (.int .i64 (n : Int)) (.int .i64 (n : Int))).run Try.prog w = .ok (.slice (some ⟨w.heap.size, 0, none⟩) n n) (w.alloc (.cells (zeroP n) TP)) :=
  run_make_row' (P := Try.prog) 106 TP (.slice none 0 0) 24 Try.underlying106 info_pg rfl .i64 .i64 n (by omega) (by omega) w
theorem zeroP_at (n j : Nat) (hj : j < n) : (zeroP n)[j]? = some (.slice none 0 0) := by
  simp [zeroP, madeCells, hj, Nat.mod_one]
end Go.Proofs.Ytigiahcfcglacaa
