/-
  Load: the pointer whose parts are there; Load at every pointer and width.
-/
import Derived.Test.YtigiahcfcglacaaMmP
import Derived.Test.YtigiahcfcglacaaMmN
namespace Go.Proofs.Ytigiahcfcglacaa
open Go.RowKit Go.Maps
set_option linter.unusedVariables false
set_option maxRecDepth 100000
theorem build_V (v bl : Int) : ∀ (W : World), (Instr.build TV #[(0, .int .i64 2), (1, .int .u32 v), (2, .int .i64 bl)]).run Try.prog W = .ok (.agg #[.int .i64 2, .int .u32 v, .int .i64 bl]) W := fun W => by kernel_rfl
set_option maxHeartbeats 4000000 in
theorem pointer_any {w : World} {x : Bx} (h : BlkAt w x) (first : Nat) (hf : first + 4 ≤ x.bk.size) :
    Calls Try.prog 50 #[.pointer (some ⟨x.bb, 0, none⟩), .int .i64 first] w fun e w' => Below w.heap.size w w' ∧
      (((∀ j : Nat, j < 4 → x.bk.cell (first + j) = ⟨2, (x.bk.cell first).v, (x.bk.cell first).block, j⟩) ∧ e = .returned (.tuple #[.agg #[.int .i64 2, .int .u32 (x.bk.cell first).v, .int .i64 (x.bk.cell first).block], .bool true])) ∨
       ((∃ j : Nat, j < 4 ∧ ¬ x.bk.cell (first + j) = ⟨2, (x.bk.cell first).v, (x.bk.cell first).block, j⟩) ∧ e = .returned (.tuple #[.agg #[.int .i64 0, .int .u32 0, .int .i64 0], .bool false]))) := by
  have hB : Below w.heap.size w (w.alloc (.cells #[.int .i64 0, .int .u32 0, .int .i64 0] TV)) := (Below.refl _ w).alloc (Nat.le_refl _) _
  have hbz := zeroV_box
  have hmx := h.max
  have ca := at_c (h.keptB hB) first (by omega)
  have H : Hid (BlkAt w x) := h
  have HB : Hid (Below w.heap.size w (w.alloc (.cells #[.int .i64 0, .int .u32 0, .int .i64 0] TV))) := hB
  have hR := heap_r0 w (.cells #[.int .i64 0, .int .u32 0, .int .i64 0] TV)
  have HR : Hid ((w.alloc (.cells #[.int .i64 0, .int .u32 0, .int .i64 0] TV)).heap[w.heap.size]? = some (.cells #[.int .i64 0, .int .u32 0, .int .i64 0] TV (0, 0))) := hR
  obtain ⟨c0, hc0⟩ : ∃ c0, c0 = x.bk.cell first := ⟨_, rfl⟩
  rw [← hc0] at ca ⊢
  have hbv := build_V c0.v c0.block
  have HC0 : Hid (c0 = x.bk.cell first) := hc0
  clear hc0 h hB hR
  go_enter Try.func50, Try.ntmps50
  go_wp2_with fail
  refine ca.mono ?_; rintro e w1 ⟨rfl, hb1⟩
  have HB1 : Hid (Below w.heap.size w w1) := HB.out.trans (hb1.mono (by simp))
  have HR1 : Hid (w1.heap[w.heap.size]? = some (.cells #[.int .i64 0, .int .u32 0, .int .i64 0] TV (0, 0))) := (hb1.block w.heap.size (by simp)).trans HR.out
  have hl1 : w.heap.size < w1.heap.size := lt_of_heap HR1.out
  clear hb1 ca HR HB
  go_wp2
  have HV : Hid (((w1.alloc (.cells #[.int .i64 c0.kind, .int .u32 c0.v, .int .i64 c0.block, .int .i64 c0.part] TC)).alloc (.cells #[.int .i64 2, .int .u32 c0.v, .int .i64 c0.block] TV)).heap[w1.heap.size + 1]? = some (.cells #[.int .i64 2, .int .u32 c0.v, .int .i64 c0.block] TV (0, 0))) := by
    have := heap_r0 (w1.alloc (.cells #[.int .i64 c0.kind, .int .u32 c0.v, .int .i64 c0.block, .int .i64 c0.part] TC)) (.cells #[.int .i64 2, .int .u32 c0.v, .int .i64 c0.block] TV)
    show _ = _
    simpa using this
  have HB2 : Hid (Below w1.heap.size w1 ((w1.alloc (.cells #[.int .i64 c0.kind, .int .u32 c0.v, .int .i64 c0.block, .int .i64 c0.part] TC)).alloc (.cells #[.int .i64 2, .int .u32 c0.v, .int .i64 c0.block] TV))) := ((Below.refl _ w1).alloc (Nat.le_refl _) _).alloc (by simp) _
  have HR2 : Hid (((w1.alloc (.cells #[.int .i64 c0.kind, .int .u32 c0.v, .int .i64 c0.block, .int .i64 c0.part] TC)).alloc (.cells #[.int .i64 2, .int .u32 c0.v, .int .i64 c0.block] TV)).heap[w.heap.size]? = some (.cells #[.int .i64 0, .int .u32 0, .int .i64 0] TV (0, 0))) := (HB2.out.block _ hl1).trans HR1.out
  have HB3 : Hid (Below w.heap.size w ((w1.alloc (.cells #[.int .i64 c0.kind, .int .u32 c0.v, .int .i64 c0.block, .int .i64 c0.part] TC)).alloc (.cells #[.int .i64 2, .int .u32 c0.v, .int .i64 c0.block] TV))) := HB1.out.trans (HB2.out.mono HB1.out.size)
  clear HB2 HR1
  generalize ((w1.alloc (.cells #[.int .i64 c0.kind, .int .u32 c0.v, .int .i64 c0.block, .int .i64 c0.part] TC)).alloc (.cells #[.int .i64 2, .int .u32 c0.v, .int .i64 c0.block] TV)) = W2 at *
  go_loopw [17] (fun i wr => ∃ (k : Nat), i = .int .i64 k ∧ k ≤ 4 ∧ Hid (∀ j : Nat, j < k → x.bk.cell (first + j) = ⟨2, c0.v, c0.block, j⟩) ∧ SA W2 wr) (fun i _ => 4 - (intOf i).toNat)
  case atStart => exact ⟨0, rfl, by omega, fun j hj => by omega, SA.refl _⟩
  case round =>
    obtain ⟨k, rfl, hk, HK, hSA⟩ := hrel
    have HBr : Hid (Below w.heap.size w wr) := HB3.out.trans (hSA.b.mono HB3.out.size)
    have hv' : wr.heap[w1.heap.size + 1]? = some (.cells #[.int .i64 2, .int .u32 c0.v, .int .i64 c0.block] TV (0, 0)) := (hSA.b.block _ (lt_of_heap HV.out)).trans HV.out
    have hr' : wr.heap[w.heap.size]? = some (.cells #[.int .i64 0, .int .u32 0, .int .i64 0] TV (0, 0)) := (hSA.b.block _ (lt_of_heap HR2.out)).trans HR2.out
    have HV' : Hid _ := hv'
    have HR' : Hid _ := hr'
    have gl1 := lt_of_heap hv'
    have gl2 := lt_of_heap hr'
    by_cases hlt : k < 4
    · have cA := fun Y (hY : SA wr Y) => at_c ((H.out.keptB HBr.out).keptB hY.b) (first + k) (by omega)
      rw [show ((first + k : Nat) : Int) = (first : Int) + (k : Int) by omega] at cA
      have cP := fun Y => partOf_c ⟨2, c0.v, c0.block⟩ k Y
      obtain ⟨c, hc⟩ : ∃ c, c = x.bk.cell (first + k) := ⟨_, rfl⟩
      rw [← hc] at cA
      have HC : Hid (c = x.bk.cell (first + k)) := hc
      clear hc
      have hne := neC c ⟨2, c0.v, c0.block, k⟩
      simp only [] at cP hne
      obtain ⟨sm, hsm⟩ : ∃ sm, sm = sameC c ⟨2, c0.v, c0.block, k⟩ := ⟨_, rfl⟩
      rw [← hsm] at hne
      have HSM : Hid (sm = sameC c ⟨2, c0.v, c0.block, k⟩) := hsm
      clear hsm
      have b0 : ∀ Y, SA wr Y → Y.cell? ⟨w1.heap.size + 1, 0, none⟩ = some (.int .i64 2) := fun Y h => (Below.cell h (p := ⟨w1.heap.size + 1, 0, none⟩) gl1).trans ((Lib.cell_of_heap HV'.out 0).trans rfl)
      have b1 : ∀ Y, SA wr Y → Y.cell? ⟨w1.heap.size + 1, 1, none⟩ = some (.int .u32 c0.v) := fun Y h => (Below.cell h (p := ⟨w1.heap.size + 1, 1, none⟩) gl1).trans ((Lib.cell_of_heap HV'.out 1).trans rfl)
      have b2 : ∀ Y, SA wr Y → Y.cell? ⟨w1.heap.size + 1, 2, none⟩ = some (.int .i64 c0.block) := fun Y h => (Below.cell h (p := ⟨w1.heap.size + 1, 2, none⟩) gl1).trans ((Lib.cell_of_heap HV'.out 2).trans rfl)
      have w1_ := wrap_id (n := (first : Int) + (k : Int)) (by omega) (by omega)
      have HW : SA wr wr := SA.refl _
      clear hv' hr'
      go_wp2
      go_region_held3 (fun Y => SA wr Y) (first | assumption | (with_reducible refine SA.drew ?_; assumption) | (with_reducible refine SA.below ?_ (by assumption); assumption)) (first | (go_at_call 35; refine (cA _ (by assumption)).mono ?_; rintro e y1 ⟨rfl, hy1⟩) | (go_at_call 71; refine (cP _).mono ?_; rintro e y2 ⟨rfl, hy2⟩))
      rename_i hHeld
      have HBZ : Hid (Below w.heap.size w y2) := HBr.out.trans (hHeld.b.mono HBr.out.size)
      have hZ : y2.heap[w.heap.size]? = some (.cells #[.int .i64 0, .int .u32 0, .int .i64 0] TV (0, 0)) := (hHeld.b.block _ gl2).trans HR'.out
      have tf := frozen_of hZ
      have t0 : y2.cell? ⟨w.heap.size, 0, none⟩ = some (.int .i64 0) := (Lib.cell_of_heap hZ 0).trans rfl
      have t1 : y2.cell? ⟨w.heap.size, 1, none⟩ = some (.int .u32 0) := (Lib.cell_of_heap hZ 1).trans rfl
      have t2 : y2.cell? ⟨w.heap.size, 2, none⟩ = some (.int .i64 0) := (Lib.cell_of_heap hZ 2).trans rfl
      have hSA2 : Hid (SA W2 y2) := Below.trans hSA (hHeld.b.mono hSA.b.size)
      clear hZ hHeld HW b0 b1 b2 cA cP hne
      cases sm with
      | false =>
        go_wp2
        exact bodyPost_ret (v := .tuple #[.agg #[.int .i64 0, .int .u32 0, .int .i64 0], .bool false]) (by simp [results, Try.results50, go_sem, t0, t1, t2]) rfl ⟨(by repeat (first | exact HBZ.out | refine Below.setCell ?_ (by simp) _ | refine Below.alloc ?_ (by have := HBZ.out.size; simp; omega) _)), Or.inr ⟨⟨k, hlt, by rw [← HC.out]; intro e; have := HSM.out; rw [e, sameC_self] at this; cases this⟩, rfl⟩⟩
      | true =>
        go_wp2
        refine ⟨⟨k + 1, by go_num, by omega, fun j hj => ?_, hSA2.out⟩, by simp [intOf]; omega⟩
        by_cases e : j < k
        · exact HK.out j e
        · obtain rfl : j = k := by omega
          rw [← HC.out]
          exact sameC_iff.1 HSM.out.symm
    · obtain rfl : k = 4 := by omega
      have tf := frozen_of hr'
      have t0 : wr.cell? ⟨w.heap.size, 0, none⟩ = some (.int .i64 0) := (Lib.cell_of_heap hr' 0).trans rfl
      have t1 : wr.cell? ⟨w.heap.size, 1, none⟩ = some (.int .u32 0) := (Lib.cell_of_heap hr' 1).trans rfl
      have t2 : wr.cell? ⟨w.heap.size, 2, none⟩ = some (.int .i64 0) := (Lib.cell_of_heap hr' 2).trans rfl
      have b0 : wr.cell? ⟨w1.heap.size + 1, 0, none⟩ = some (.int .i64 2) := (Lib.cell_of_heap hv' 0).trans rfl
      have b1 : wr.cell? ⟨w1.heap.size + 1, 1, none⟩ = some (.int .u32 c0.v) := (Lib.cell_of_heap hv' 1).trans rfl
      have b2 : wr.cell? ⟨w1.heap.size + 1, 2, none⟩ = some (.int .i64 c0.block) := (Lib.cell_of_heap hv' 2).trans rfl
      have HBZ := HBr
      clear hv' hr'
      go_wp2
      exact bodyPost_ret (v := .tuple #[.agg #[.int .i64 2, .int .u32 c0.v, .int .i64 c0.block], .bool true]) (by simp [results, Try.results50, go_sem, t0, t1, t2]) rfl ⟨(by repeat (first | exact HBZ.out | refine Below.setCell ?_ (by simp) _ | refine Below.alloc ?_ (by have := HBZ.out.size; simp; omega) _)), Or.inl ⟨HK.out, rfl⟩⟩
def allNum (bk : Bk) (first n : Nat) : Bool := (List.range n).all (fun j => decide ((bk.cell (first + j)).kind = 1))
def allPart (bk : Bk) (first : Nat) : Bool := (List.range 4).all (fun j => sameC (bk.cell (first + j)) ⟨2, (bk.cell first).v, (bk.cell first).block, j⟩)
def numV (bk : Bk) (first n : Nat) (s : Bool) : Int := W.ext n s (valP (fByte bk first) n)
def loadB (bk : Bk) (first n : Nat) (s : Bool) : Option Vl := if allNum bk first n then some ⟨1, numV bk first n s, 0⟩ else if n = 4 ∧ allPart bk first = true then some ⟨2, (bk.cell first).v, (bk.cell first).block⟩ else none
theorem allNum_t {bk : Bk} {first n : Nat} : allNum bk first n = true ↔ ∀ j, j < n → (bk.cell (first + j)).kind = 1 := by simp [allNum]
theorem allPart_t {bk : Bk} {first : Nat} : allPart bk first = true ↔ ∀ j : Nat, j < 4 → bk.cell (first + j) = ⟨2, (bk.cell first).v, (bk.cell first).block, j⟩ := by
  simp only [allPart, List.all_eq_true, List.mem_range, sameC_iff]
theorem number_yes {w : World} {x : Bx} (h : BlkAt w x) (first n : Nat) (s : Bool) (hn : n = 1 ∨ n = 2 ∨ n = 4) (hf : first + n ≤ x.bk.size) (ha : allNum x.bk first n = true) :
    Calls Try.prog 49 #[.pointer (some ⟨x.bb, 0, none⟩), .int .i64 first, .int .i64 n, .bool s] w fun e w' => e = .returned (.tuple #[.agg #[.int .i64 1, .int .u32 (numV x.bk first n s), .int .i64 0], .bool true]) ∧ Below w.heap.size w w' := by
  refine (number_any h first n s hn hf).mono ?_
  rintro e w' ⟨hb, ⟨_, h2⟩ | ⟨⟨j, hj, h1⟩, _⟩⟩
  · exact ⟨h2, hb⟩
  · exact absurd (allNum_t.1 ha j hj) h1
theorem number_no {w : World} {x : Bx} (h : BlkAt w x) (first n : Nat) (s : Bool) (hn : n = 1 ∨ n = 2 ∨ n = 4) (hf : first + n ≤ x.bk.size) (ha : allNum x.bk first n = false) :
    Calls Try.prog 49 #[.pointer (some ⟨x.bb, 0, none⟩), .int .i64 first, .int .i64 n, .bool s] w fun e w' => e = .returned (.tuple #[.agg #[.int .i64 0, .int .u32 0, .int .i64 0], .bool false]) ∧ Below w.heap.size w w' := by
  refine (number_any h first n s hn hf).mono ?_
  rintro e w' ⟨hb, ⟨h1, h2⟩ | ⟨_, h2⟩⟩
  · rw [allNum_t.2 h1] at ha; cases ha
  · exact ⟨h2, hb⟩
theorem pointer_yes {w : World} {x : Bx} (h : BlkAt w x) (first : Nat) (hf : first + 4 ≤ x.bk.size) (ha : allPart x.bk first = true) :
    Calls Try.prog 50 #[.pointer (some ⟨x.bb, 0, none⟩), .int .i64 first] w fun e w' => e = .returned (.tuple #[.agg #[.int .i64 2, .int .u32 (x.bk.cell first).v, .int .i64 (x.bk.cell first).block], .bool true]) ∧ Below w.heap.size w w' := by
  refine (pointer_any h first hf).mono ?_
  rintro e w' ⟨hb, ⟨h1, h2⟩ | ⟨⟨j, hj, h1⟩, h2⟩⟩
  · exact ⟨h2, hb⟩
  · exact absurd (allPart_t.1 ha j hj) h1
theorem pointer_no {w : World} {x : Bx} (h : BlkAt w x) (first : Nat) (hf : first + 4 ≤ x.bk.size) (ha : allPart x.bk first = false) :
    Calls Try.prog 50 #[.pointer (some ⟨x.bb, 0, none⟩), .int .i64 first] w fun e w' => e = .returned (.tuple #[.agg #[.int .i64 0, .int .u32 0, .int .i64 0], .bool false]) ∧ Below w.heap.size w w' := by
  refine (pointer_any h first hf).mono ?_
  rintro e w' ⟨hb, ⟨h1, h2⟩ | ⟨⟨j, hj, h1⟩, h2⟩⟩
  · rw [allPart_t.2 h1] at ha; cases ha
  · exact ⟨h2, hb⟩
section
variable {w : World} {b : Nat} {xs : List (Option Bx)} {P : Nat → Prop}
def ZW (w : World) (p : Vl) : World := (w.alloc (.cells #[.int .i64 p.kind, .int .u32 p.v, .int .i64 p.block] TV)).alloc (.cells #[.int .i64 0, .int .u32 0, .int .i64 0] TV)
theorem ZW_box (w : World) (p : Vl) : ZW w p = box2 w p vlZ := rfl
theorem ZW_heap (w : World) (p : Vl) : (ZW w p).heap[w.heap.size + 1]? = some (.cells #[.int .i64 0, .int .u32 0, .int .i64 0] TV (0, 0)) := by
  have := heap_r0 (w.alloc (.cells #[.int .i64 p.kind, .int .u32 p.v, .int .i64 p.block] TV)) (.cells #[.int .i64 0, .int .u32 0, .int .i64 0] TV)
  unfold ZW
  simpa using this
theorem zero_facts {Y : World} {g : Nat} (h : Y.heap[g]? = some (.cells #[.int .i64 0, .int .u32 0, .int .i64 0] TV (0, 0))) : (∀ j, Y.frozen? ⟨g, j, none⟩ = false) ∧ Y.cell? ⟨g, 0, none⟩ = some (.int .i64 0) ∧ Y.cell? ⟨g, 1, none⟩ = some (.int .u32 0) ∧ Y.cell? ⟨g, 2, none⟩ = some (.int .i64 0) :=
  ⟨frozen_of h, (Lib.cell_of_heap h 0).trans rfl, (Lib.cell_of_heap h 1).trans rfl, (Lib.cell_of_heap h 2).trans rfl⟩
set_option maxHeartbeats 2000000 in
theorem load_none (h : MemX w b xs P) (p : Vl) (hp : VlOK p) (n : Int) (s : Bool) (n0 : -9223372036854775808 ≤ n) (n1 : n < 9223372036854775808) (hr : roomX xs p n n = none) :
    Calls Try.prog 19 #[.pointer (some ⟨b, 0, none⟩), .agg #[.int .i64 p.kind, .int .u32 p.v, .int .i64 p.block], .int .i64 n, .bool s] w fun e w' => e = .returned (.tuple #[.agg #[.int .i64 0, .int .u32 0, .int .i64 0], .int .i64 3]) ∧ Below w.heap.size w w' := by
  have hB : Below w.heap.size w (ZW w p) := box2_below w p vlZ
  have c := room_c (h.keptB hB) p hp n n n0 n1
  obtain ⟨⟨a0, a1, a2⟩, _, _, _⟩ := box2_cells w p vlZ
  rw [← ZW_box] at a0 a1 a2
  have HB : Hid (Below w.heap.size w (ZW w p)) := hB
  have hsz : (ZW w p).heap.size = w.heap.size + 2 := box2_size w p vlZ
  have HZ : Hid ((ZW w p).heap[w.heap.size + 1]? = some (.cells #[.int .i64 0, .int .u32 0, .int .i64 0] TV (0, 0))) := ZW_heap w p
  have e1 := eq_nil
  have cu := fun Y => undefined_c Y
  have n2_ := not_t
  have n3_ := not_f
  rw [hr] at c
  simp only [ptrX, Option.map_none] at c
  clear h hB hr
  obtain ⟨W, hW⟩ : ∃ Wz, Wz = ZW w p := ⟨_, rfl⟩
  go_enter Try.func19, Try.ntmps19
  go_upto_region 1 with (fail)
  refine (?_ : Code.wp _ _ _ _ (ZW w p))
  rw [← hW] at a0 a1 a2 c HB hsz HZ ⊢
  clear hW
  go_wp2_with fail
  refine c.mono ?_; rintro e w1 ⟨rfl, hb1⟩
  have HB1 : Hid (Below w.heap.size w w1) := HB.out.trans (hb1.mono (by omega))
  have HZ1 : Hid (w1.heap[w.heap.size + 1]? = some (.cells #[.int .i64 0, .int .u32 0, .int .i64 0] TV (0, 0))) := (hb1.block _ (by omega)).trans HZ.out
  have k1 := (hb1.cell (p := ⟨w.heap.size, 1, none⟩) (by simp; omega)).trans a1
  clear hb1 c HZ a0 a1 a2 HB
  go_wp2_with fail
  refine (cu _).mono ?_; rintro e w3 ⟨rfl, hb3⟩
  have HBZ : Hid (Below w.heap.size w w3) := HB1.out.trans (hb3.mono HB1.out.size)
  obtain ⟨tf, t0, t1, t2⟩ := zero_facts ((hb3.block _ (lt_of_heap HZ1.out)).trans HZ1.out)
  have hl3 : w.heap.size + 1 < w3.heap.size := World.block_lt_of_cell? w3 _ t0
  clear hb3 cu
  go_wp2
  exact bodyPost_ret (v := .tuple #[.agg #[.int .i64 0, .int .u32 0, .int .i64 0], .int .i64 3]) (by simp [results, Try.results19, go_sem, t0, t1, t2]) rfl ⟨rfl, (by repeat (first | exact HBZ.out | refine Below.setCell ?_ (by simp <;> omega) _ | refine Below.alloc ?_ (by have := HBZ.out.size; simp; omega) _))⟩
set_option maxHeartbeats 2000000 in
theorem load_num (h : MemX w b xs P) (p : Vl) (hp : VlOK p) (v n : Nat) (s : Bool) (hv : p.v = v) (x : Bx) (i : Nat) (hr : roomX xs p n n = some x) (hx : xs[i]? = some (some x)) (ha : allNum x.bk v n = true) :
    Calls Try.prog 19 #[.pointer (some ⟨b, 0, none⟩), .agg #[.int .i64 p.kind, .int .u32 p.v, .int .i64 p.block], .int .i64 n, .bool s] w fun e w' => e = .returned (.tuple #[.agg #[.int .i64 1, .int .u32 (numV x.bk v n s), .int .i64 0], .int .i64 0]) ∧ Below w.heap.size w w' := by
  have hB : Below w.heap.size w (ZW w p) := box2_below w p vlZ
  obtain ⟨hvs, _, hw, _, _, hn1, hn2⟩ := roomX_some hr
  have hn3 : n = 1 ∨ n = 2 ∨ n = 4 := by
    have : (n : Int) = 1 ∨ (n : Int) = 2 ∨ (n : Int) = 4 := by simpa [isW] using hw
    omega
  have hmx := (h.at_ hx).max
  have hvn : v + n ≤ x.bk.size := by omega
  have c := room_c (h.keptB hB) p hp n n (by omega) (by omega)
  have BL : Hid (BlkAt w x) := h.at_ hx
  have HV : Hid (p.v = v) := hv
  have cN := fun Y (hY : Below w.heap.size w Y) => number_yes (BL.out.keptB hY) v n s hn3 hvn ha
  clear ha hx hv hw

  obtain ⟨⟨a0, a1, a2⟩, _, _, _⟩ := box2_cells w p vlZ
  rw [← ZW_box] at a0 a1 a2
  have HB : Hid (Below w.heap.size w (ZW w p)) := hB
  have hsz : (ZW w p).heap.size = w.heap.size + 2 := box2_size w p vlZ
  have HZ : Hid ((ZW w p).heap[w.heap.size + 1]? = some (.cells #[.int .i64 0, .int .u32 0, .int .i64 0] TV (0, 0))) := ZW_heap w p
  have e1 := eq_some
  have cu := fun Y => undefined_c Y
  have n2_ := not_t
  have n3_ := not_f
  rw [hr] at c
  simp only [ptrX, Option.map_some] at c
  clear h hB hr
  obtain ⟨W, hW⟩ : ∃ Wz, Wz = ZW w p := ⟨_, rfl⟩
  go_enter Try.func19, Try.ntmps19
  go_upto_region 1 with (fail)
  refine (?_ : Code.wp _ _ _ _ (ZW w p))
  rw [← hW] at a0 a1 a2 c HB hsz HZ ⊢
  clear hW
  go_wp2_with fail
  refine c.mono ?_; rintro e w1 ⟨rfl, hb1⟩
  have HB1 : Hid (Below w.heap.size w w1) := HB.out.trans (hb1.mono (by omega))
  have HZ1 : Hid (w1.heap[w.heap.size + 1]? = some (.cells #[.int .i64 0, .int .u32 0, .int .i64 0] TV (0, 0))) := (hb1.block _ (by omega)).trans HZ.out
  have k1 := (hb1.cell (p := ⟨w.heap.size, 1, none⟩) (by simp; omega)).trans a1
  clear hb1 c HZ a0 a1 a2 HB
  rw [HV.out] at k1
  go_wp2_with fail
  refine (cN _ HB1.out).mono ?_; rintro e w2 ⟨rfl, hb2⟩
  have HB2 : Hid (Below w.heap.size w w2) := HB1.out.trans (hb2.mono HB1.out.size)
  have HZ2 : Hid (w2.heap[w.heap.size + 1]? = some (.cells #[.int .i64 0, .int .u32 0, .int .i64 0] TV (0, 0))) := (hb2.block _ (lt_of_heap HZ1.out)).trans HZ1.out
  have hl2 : w.heap.size + 1 < w2.heap.size := lt_of_heap HZ2.out
  clear hb2 cN
  have HBZ := HB2
  obtain ⟨tf, t0, t1, t2⟩ := zero_facts HZ2.out
  go_wp2
  exact bodyPost_ret (v := .tuple #[.agg #[.int .i64 1, .int .u32 (numV x.bk v n s), .int .i64 0], .int .i64 0]) (by simp [results, Try.results19, go_sem, t0, t1, t2, hl2]) rfl ⟨rfl, (by repeat (first | exact HBZ.out | refine Below.setCell ?_ (by simp <;> omega) _ | refine Below.alloc ?_ (by have := HBZ.out.size; simp; omega) _))⟩
set_option maxHeartbeats 2000000 in
theorem load_un (h : MemX w b xs P) (p : Vl) (hp : VlOK p) (v n : Nat) (s : Bool) (hv : p.v = v) (x : Bx) (i : Nat) (hr : roomX xs p n n = some x) (hx : xs[i]? = some (some x)) (ha : allNum x.bk v n = false) (h4 : ¬ n = 4) :
    Calls Try.prog 19 #[.pointer (some ⟨b, 0, none⟩), .agg #[.int .i64 p.kind, .int .u32 p.v, .int .i64 p.block], .int .i64 n, .bool s] w fun e w' => e = .returned (.tuple #[.agg #[.int .i64 0, .int .u32 0, .int .i64 0], .int .i64 3]) ∧ Below w.heap.size w w' := by
  have hB : Below w.heap.size w (ZW w p) := box2_below w p vlZ
  obtain ⟨hvs, _, hw, _, _, hn1, hn2⟩ := roomX_some hr
  have hn3 : n = 1 ∨ n = 2 ∨ n = 4 := by
    have : (n : Int) = 1 ∨ (n : Int) = 2 ∨ (n : Int) = 4 := by simpa [isW] using hw
    omega
  have hmx := (h.at_ hx).max
  have hvn : v + n ≤ x.bk.size := by omega
  have c := room_c (h.keptB hB) p hp n n (by omega) (by omega)
  have BL : Hid (BlkAt w x) := h.at_ hx
  have HV : Hid (p.v = v) := hv
  have cN := fun Y (hY : Below w.heap.size w Y) => number_no (BL.out.keptB hY) v n s hn3 hvn ha
  clear ha hx hv hw
  have h4b : ((n : Int) == 4) = false := by simp; omega
  clear h4
  obtain ⟨⟨a0, a1, a2⟩, _, _, _⟩ := box2_cells w p vlZ
  rw [← ZW_box] at a0 a1 a2
  have HB : Hid (Below w.heap.size w (ZW w p)) := hB
  have hsz : (ZW w p).heap.size = w.heap.size + 2 := box2_size w p vlZ
  have HZ : Hid ((ZW w p).heap[w.heap.size + 1]? = some (.cells #[.int .i64 0, .int .u32 0, .int .i64 0] TV (0, 0))) := ZW_heap w p
  have e1 := eq_some
  have cu := fun Y => undefined_c Y
  have n2_ := not_t
  have n3_ := not_f
  rw [hr] at c
  simp only [ptrX, Option.map_some] at c
  clear h hB hr
  obtain ⟨W, hW⟩ : ∃ Wz, Wz = ZW w p := ⟨_, rfl⟩
  go_enter Try.func19, Try.ntmps19
  go_upto_region 1 with (fail)
  refine (?_ : Code.wp _ _ _ _ (ZW w p))
  rw [← hW] at a0 a1 a2 c HB hsz HZ ⊢
  clear hW
  go_wp2_with fail
  refine c.mono ?_; rintro e w1 ⟨rfl, hb1⟩
  have HB1 : Hid (Below w.heap.size w w1) := HB.out.trans (hb1.mono (by omega))
  have HZ1 : Hid (w1.heap[w.heap.size + 1]? = some (.cells #[.int .i64 0, .int .u32 0, .int .i64 0] TV (0, 0))) := (hb1.block _ (by omega)).trans HZ.out
  have k1 := (hb1.cell (p := ⟨w.heap.size, 1, none⟩) (by simp; omega)).trans a1
  clear hb1 c HZ a0 a1 a2 HB
  rw [HV.out] at k1
  go_wp2_with fail
  refine (cN _ HB1.out).mono ?_; rintro e w2 ⟨rfl, hb2⟩
  have HB2 : Hid (Below w.heap.size w w2) := HB1.out.trans (hb2.mono HB1.out.size)
  have HZ2 : Hid (w2.heap[w.heap.size + 1]? = some (.cells #[.int .i64 0, .int .u32 0, .int .i64 0] TV (0, 0))) := (hb2.block _ (lt_of_heap HZ1.out)).trans HZ1.out
  have hl2 : w.heap.size + 1 < w2.heap.size := lt_of_heap HZ2.out
  clear hb2 cN
  have HBa : Hid (Below w.heap.size w (w2.alloc (.cells #[.int .i64 0, .int .u32 0, .int .i64 0] TV))) := HB2.out.alloc HB2.out.size _
  have HZa : Hid ((w2.alloc (.cells #[.int .i64 0, .int .u32 0, .int .i64 0] TV)).heap[w.heap.size + 1]? = some (.cells #[.int .i64 0, .int .u32 0, .int .i64 0] TV (0, 0))) := (Below.heap_alloc _ _ _ hl2).trans HZ2.out
  go_wp2_with fail
  refine (cu _).mono ?_; rintro e w3 ⟨rfl, hb3⟩
  have HBZ : Hid (Below w.heap.size w w3) := HBa.out.trans (hb3.mono HBa.out.size)
  obtain ⟨tf, t0, t1, t2⟩ := zero_facts ((hb3.block _ (lt_of_heap HZa.out)).trans HZa.out)
  have hl3 : w.heap.size + 1 < w3.heap.size := World.block_lt_of_cell? w3 _ t0
  clear hb3 cu
  go_wp2
  exact bodyPost_ret (v := .tuple #[.agg #[.int .i64 0, .int .u32 0, .int .i64 0], .int .i64 3]) (by simp [results, Try.results19, go_sem, t0, t1, t2]) rfl ⟨rfl, (by repeat (first | exact HBZ.out | refine Below.setCell ?_ (by simp <;> omega) _ | refine Below.alloc ?_ (by have := HBZ.out.size; simp; omega) _))⟩
set_option maxHeartbeats 2000000 in
theorem load_ptr (h : MemX w b xs P) (p : Vl) (hp : VlOK p) (v n : Nat) (h4 : n = 4) (s : Bool) (hv : p.v = v) (x : Bx) (i : Nat) (hr : roomX xs p n n = some x) (hx : xs[i]? = some (some x)) (ha : allNum x.bk v n = false) (ha2 : allPart x.bk v = true) :
    Calls Try.prog 19 #[.pointer (some ⟨b, 0, none⟩), .agg #[.int .i64 p.kind, .int .u32 p.v, .int .i64 p.block], .int .i64 n, .bool s] w fun e w' => e = .returned (.tuple #[.agg #[.int .i64 2, .int .u32 (x.bk.cell v).v, .int .i64 (x.bk.cell v).block], .int .i64 0]) ∧ Below w.heap.size w w' := by
  have hB : Below w.heap.size w (ZW w p) := box2_below w p vlZ
  obtain ⟨hvs, _, hw, _, _, hn1, hn2⟩ := roomX_some hr
  have hn3 : n = 1 ∨ n = 2 ∨ n = 4 := by
    have : (n : Int) = 1 ∨ (n : Int) = 2 ∨ (n : Int) = 4 := by simpa [isW] using hw
    omega
  have hmx := (h.at_ hx).max
  have hvn : v + n ≤ x.bk.size := by omega
  have c := room_c (h.keptB hB) p hp n n (by omega) (by omega)
  have BL : Hid (BlkAt w x) := h.at_ hx
  have HV : Hid (p.v = v) := hv
  have cN := fun Y (hY : Below w.heap.size w Y) => number_no (BL.out.keptB hY) v n s hn3 hvn ha
  clear ha hx hv hw
  have h4b : ((n : Int) == 4) = true := by simp; omega
  have cP := fun Y (hY : Below w.heap.size w Y) => pointer_yes (BL.out.keptB hY) v (by omega) ha2
  clear ha2 h4 hn3
  obtain ⟨⟨a0, a1, a2⟩, _, _, _⟩ := box2_cells w p vlZ
  rw [← ZW_box] at a0 a1 a2
  have HB : Hid (Below w.heap.size w (ZW w p)) := hB
  have hsz : (ZW w p).heap.size = w.heap.size + 2 := box2_size w p vlZ
  have HZ : Hid ((ZW w p).heap[w.heap.size + 1]? = some (.cells #[.int .i64 0, .int .u32 0, .int .i64 0] TV (0, 0))) := ZW_heap w p
  have e1 := eq_some
  have cu := fun Y => undefined_c Y
  have n2_ := not_t
  have n3_ := not_f
  rw [hr] at c
  simp only [ptrX, Option.map_some] at c
  clear h hB hr
  obtain ⟨W, hW⟩ : ∃ Wz, Wz = ZW w p := ⟨_, rfl⟩
  go_enter Try.func19, Try.ntmps19
  go_upto_region 1 with (fail)
  refine (?_ : Code.wp _ _ _ _ (ZW w p))
  rw [← hW] at a0 a1 a2 c HB hsz HZ ⊢
  clear hW
  go_wp2_with fail
  refine c.mono ?_; rintro e w1 ⟨rfl, hb1⟩
  have HB1 : Hid (Below w.heap.size w w1) := HB.out.trans (hb1.mono (by omega))
  have HZ1 : Hid (w1.heap[w.heap.size + 1]? = some (.cells #[.int .i64 0, .int .u32 0, .int .i64 0] TV (0, 0))) := (hb1.block _ (by omega)).trans HZ.out
  have k1 := (hb1.cell (p := ⟨w.heap.size, 1, none⟩) (by simp; omega)).trans a1
  clear hb1 c HZ a0 a1 a2 HB
  rw [HV.out] at k1
  go_wp2_with fail
  refine (cN _ HB1.out).mono ?_; rintro e w2 ⟨rfl, hb2⟩
  have HB2 : Hid (Below w.heap.size w w2) := HB1.out.trans (hb2.mono HB1.out.size)
  have HZ2 : Hid (w2.heap[w.heap.size + 1]? = some (.cells #[.int .i64 0, .int .u32 0, .int .i64 0] TV (0, 0))) := (hb2.block _ (lt_of_heap HZ1.out)).trans HZ1.out
  have hl2 : w.heap.size + 1 < w2.heap.size := lt_of_heap HZ2.out
  clear hb2 cN
  have HBa : Hid (Below w.heap.size w (w2.alloc (.cells #[.int .i64 0, .int .u32 0, .int .i64 0] TV))) := HB2.out.alloc HB2.out.size _
  have HZa : Hid ((w2.alloc (.cells #[.int .i64 0, .int .u32 0, .int .i64 0] TV)).heap[w.heap.size + 1]? = some (.cells #[.int .i64 0, .int .u32 0, .int .i64 0] TV (0, 0))) := (Below.heap_alloc _ _ _ hl2).trans HZ2.out
  go_wp2_with fail
  refine (cP _ HBa.out).mono ?_; rintro e w4 ⟨rfl, hb4⟩
  have HB4 : Hid (Below w.heap.size w w4) := HBa.out.trans (hb4.mono HBa.out.size)
  have HZ4 : Hid (w4.heap[w.heap.size + 1]? = some (.cells #[.int .i64 0, .int .u32 0, .int .i64 0] TV (0, 0))) := (hb4.block _ (lt_of_heap HZa.out)).trans HZa.out
  have hl4 : w.heap.size + 1 < w4.heap.size := lt_of_heap HZ4.out
  have HQ : Hid (w4.heap[w2.heap.size]? = some (.cells #[.int .i64 0, .int .u32 0, .int .i64 0] TV (0, 0))) := (hb4.block _ (by simp)).trans (heap_r0 w2 _)
  obtain ⟨uf, u0, u1, u2⟩ := zero_facts HQ.out
  have hq4 : w2.heap.size < w4.heap.size := lt_of_heap HQ.out
  clear hb4 cP
  have HBZ := HB4
  obtain ⟨tf, t0, t1, t2⟩ := zero_facts HZ4.out
  go_wp2
  exact bodyPost_ret (v := .tuple #[.agg #[.int .i64 2, .int .u32 (x.bk.cell v).v, .int .i64 (x.bk.cell v).block], .int .i64 0]) (by simp [results, Try.results19, go_sem, t0, t1, t2]) rfl ⟨rfl, (by repeat (first | exact HBZ.out | refine Below.setCell ?_ (by simp <;> omega) _ | refine Below.alloc ?_ (by have := HBZ.out.size; simp; omega) _))⟩
set_option maxHeartbeats 2000000 in
theorem load_bad (h : MemX w b xs P) (p : Vl) (hp : VlOK p) (v n : Nat) (h4 : n = 4) (s : Bool) (hv : p.v = v) (x : Bx) (i : Nat) (hr : roomX xs p n n = some x) (hx : xs[i]? = some (some x)) (ha : allNum x.bk v n = false) (ha2 : allPart x.bk v = false) :
    Calls Try.prog 19 #[.pointer (some ⟨b, 0, none⟩), .agg #[.int .i64 p.kind, .int .u32 p.v, .int .i64 p.block], .int .i64 n, .bool s] w fun e w' => e = .returned (.tuple #[.agg #[.int .i64 0, .int .u32 0, .int .i64 0], .int .i64 3]) ∧ Below w.heap.size w w' := by
  have hB : Below w.heap.size w (ZW w p) := box2_below w p vlZ
  obtain ⟨hvs, _, hw, _, _, hn1, hn2⟩ := roomX_some hr
  have hn3 : n = 1 ∨ n = 2 ∨ n = 4 := by
    have : (n : Int) = 1 ∨ (n : Int) = 2 ∨ (n : Int) = 4 := by simpa [isW] using hw
    omega
  have hmx := (h.at_ hx).max
  have hvn : v + n ≤ x.bk.size := by omega
  have c := room_c (h.keptB hB) p hp n n (by omega) (by omega)
  have BL : Hid (BlkAt w x) := h.at_ hx
  have HV : Hid (p.v = v) := hv
  have cN := fun Y (hY : Below w.heap.size w Y) => number_no (BL.out.keptB hY) v n s hn3 hvn ha
  clear ha hx hv hw
  have h4b : ((n : Int) == 4) = true := by simp; omega
  have cP := fun Y (hY : Below w.heap.size w Y) => pointer_no (BL.out.keptB hY) v (by omega) ha2
  clear ha2 h4 hn3
  obtain ⟨⟨a0, a1, a2⟩, _, _, _⟩ := box2_cells w p vlZ
  rw [← ZW_box] at a0 a1 a2
  have HB : Hid (Below w.heap.size w (ZW w p)) := hB
  have hsz : (ZW w p).heap.size = w.heap.size + 2 := box2_size w p vlZ
  have HZ : Hid ((ZW w p).heap[w.heap.size + 1]? = some (.cells #[.int .i64 0, .int .u32 0, .int .i64 0] TV (0, 0))) := ZW_heap w p
  have e1 := eq_some
  have cu := fun Y => undefined_c Y
  have n2_ := not_t
  have n3_ := not_f
  rw [hr] at c
  simp only [ptrX, Option.map_some] at c
  clear h hB hr
  obtain ⟨W, hW⟩ : ∃ Wz, Wz = ZW w p := ⟨_, rfl⟩
  go_enter Try.func19, Try.ntmps19
  go_upto_region 1 with (fail)
  refine (?_ : Code.wp _ _ _ _ (ZW w p))
  rw [← hW] at a0 a1 a2 c HB hsz HZ ⊢
  clear hW
  go_wp2_with fail
  refine c.mono ?_; rintro e w1 ⟨rfl, hb1⟩
  have HB1 : Hid (Below w.heap.size w w1) := HB.out.trans (hb1.mono (by omega))
  have HZ1 : Hid (w1.heap[w.heap.size + 1]? = some (.cells #[.int .i64 0, .int .u32 0, .int .i64 0] TV (0, 0))) := (hb1.block _ (by omega)).trans HZ.out
  have k1 := (hb1.cell (p := ⟨w.heap.size, 1, none⟩) (by simp; omega)).trans a1
  clear hb1 c HZ a0 a1 a2 HB
  rw [HV.out] at k1
  go_wp2_with fail
  refine (cN _ HB1.out).mono ?_; rintro e w2 ⟨rfl, hb2⟩
  have HB2 : Hid (Below w.heap.size w w2) := HB1.out.trans (hb2.mono HB1.out.size)
  have HZ2 : Hid (w2.heap[w.heap.size + 1]? = some (.cells #[.int .i64 0, .int .u32 0, .int .i64 0] TV (0, 0))) := (hb2.block _ (lt_of_heap HZ1.out)).trans HZ1.out
  have hl2 : w.heap.size + 1 < w2.heap.size := lt_of_heap HZ2.out
  clear hb2 cN
  have HBa : Hid (Below w.heap.size w (w2.alloc (.cells #[.int .i64 0, .int .u32 0, .int .i64 0] TV))) := HB2.out.alloc HB2.out.size _
  have HZa : Hid ((w2.alloc (.cells #[.int .i64 0, .int .u32 0, .int .i64 0] TV)).heap[w.heap.size + 1]? = some (.cells #[.int .i64 0, .int .u32 0, .int .i64 0] TV (0, 0))) := (Below.heap_alloc _ _ _ hl2).trans HZ2.out
  go_wp2_with fail
  refine (cP _ HBa.out).mono ?_; rintro e w4 ⟨rfl, hb4⟩
  have HB4 : Hid (Below w.heap.size w w4) := HBa.out.trans (hb4.mono HBa.out.size)
  have HZ4 : Hid (w4.heap[w.heap.size + 1]? = some (.cells #[.int .i64 0, .int .u32 0, .int .i64 0] TV (0, 0))) := (hb4.block _ (lt_of_heap HZa.out)).trans HZa.out
  have hl4 : w.heap.size + 1 < w4.heap.size := lt_of_heap HZ4.out
  have HQ : Hid (w4.heap[w2.heap.size]? = some (.cells #[.int .i64 0, .int .u32 0, .int .i64 0] TV (0, 0))) := (hb4.block _ (by simp)).trans (heap_r0 w2 _)
  obtain ⟨uf, u0, u1, u2⟩ := zero_facts HQ.out
  have hq4 : w2.heap.size < w4.heap.size := lt_of_heap HQ.out
  clear hb4 cP
  go_wp2_with fail
  have HBy : Hid (Below w.heap.size w (((w4.setCell ⟨w2.heap.size, 0, none⟩ (.int .i64 0)).setCell ⟨w2.heap.size, 1, none⟩ (.int .u32 0)).setCell ⟨w2.heap.size, 2, none⟩ (.int .i64 0))) := ((HB4.out.setCell (by show _ ≤ w2.heap.size; omega) _).setCell (by show _ ≤ w2.heap.size; omega) _).setCell (by show _ ≤ w2.heap.size; omega) _
  have HZy : Hid ((((w4.setCell ⟨w2.heap.size, 0, none⟩ (.int .i64 0)).setCell ⟨w2.heap.size, 1, none⟩ (.int .u32 0)).setCell ⟨w2.heap.size, 2, none⟩ (.int .i64 0)).heap[w.heap.size + 1]? = some (.cells #[.int .i64 0, .int .u32 0, .int .i64 0] TV (0, 0))) := by
    show _ = _
    rw [heap_setCell_other _ _ _ _ (by show w.heap.size + 1 ≠ w2.heap.size; omega), heap_setCell_other _ _ _ _ (by show w.heap.size + 1 ≠ w2.heap.size; omega), heap_setCell_other _ _ _ _ (by show w.heap.size + 1 ≠ w2.heap.size; omega)]
    exact HZ4.out
  refine (cu _).mono ?_; rintro e w3 ⟨rfl, hb3⟩
  have HBZ : Hid (Below w.heap.size w w3) := HBy.out.trans (hb3.mono HBy.out.size)
  obtain ⟨tf, t0, t1, t2⟩ := zero_facts ((hb3.block _ (lt_of_heap HZy.out)).trans HZy.out)
  have hl3 : w.heap.size + 1 < w3.heap.size := World.block_lt_of_cell? w3 _ t0
  clear hb3 cu
  go_wp2
  exact bodyPost_ret (v := .tuple #[.agg #[.int .i64 0, .int .u32 0, .int .i64 0], .int .i64 3]) (by simp [results, Try.results19, go_sem, t0, t1, t2]) rfl ⟨rfl, (by repeat (first | exact HBZ.out | refine Below.setCell ?_ (by simp <;> omega) _ | refine Below.alloc ?_ (by have := HBZ.out.size; simp; omega) _))⟩
end
end Go.Proofs.Ytigiahcfcglacaa
