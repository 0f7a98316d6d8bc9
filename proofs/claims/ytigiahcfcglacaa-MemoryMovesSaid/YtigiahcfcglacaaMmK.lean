/-
  What a value becomes when it is stored.
-/
import Derived.Test.YtigiahcfcglacaaMmI
import Derived.Test.YtigiahcfcglacaaWBy
namespace Go.Proofs.Ytigiahcfcglacaa
open Go.RowKit Go.Maps
set_option linter.unusedVariables false
set_option maxRecDepth 100000
def byteAt (v : Int) (j : Nat) : Int := v / 256 ^ j % 256
def stCell (p : Vl) (i : Nat) : Cl := if p.kind = 2 then ⟨2, p.v, p.block, i⟩ else ⟨1, byteAt p.v i, 0, 0⟩
theorem byteAt_bd (v : Int) (j : Nat) : 0 ≤ byteAt v j ∧ byteAt v j < 256 := by unfold byteAt; omega
theorem bytes_c (v : Int) (n : Nat) (w : World) (v0 : 0 ≤ v) (v1 : v < 4294967296) (hn : n = 1 ∨ n = 2 ∨ n = 4) :
    Calls Try.prog 72 #[.int .u32 v, .int .i64 n] w fun e w' => e = .returned (.slice (some ⟨w.heap.size, 0, none⟩) n n) ∧ (∀ j, j < n → w'.cell? ⟨w.heap.size, j, none⟩ = some (.int .u8 (byteAt v j))) ∧ Below w.heap.size w w' := by
  rcases hn with rfl | rfl | rfl
  · refine (W.bytes_1 v w v0 v1).mono ?_
    rintro e w' ⟨rfl, rfl⟩
    refine ⟨rfl, fun j hj => ?_, (Below.refl _ w).alloc (Nat.le_refl _) _⟩
    rw [Lib.cell_of_heap (heap_r0 w _)]
    obtain rfl : j = 0 := by omega
    simp [byteAt]
  · refine (W.bytes_2 v w v0 v1).mono ?_
    rintro e w' ⟨rfl, rfl⟩
    refine ⟨rfl, fun j hj => ?_, (Below.refl _ w).alloc (Nat.le_refl _) _⟩
    rw [Lib.cell_of_heap (heap_r0 w _)]
    obtain rfl | rfl : j = 0 ∨ j = 1 := by omega
    · simp [byteAt]
    · simp [byteAt]
  · refine (W.bytes_4 v w v0 v1).mono ?_
    rintro e w' ⟨rfl, rfl⟩
    refine ⟨rfl, fun j hj => ?_, (Below.refl _ w).alloc (Nat.le_refl _) _⟩
    rw [Lib.cell_of_heap (heap_r0 w _)]
    obtain rfl | rfl | rfl | rfl : j = 0 ∨ j = 1 ∨ j = 2 ∨ j = 3 := by omega
    · simp [byteAt]
    · simp [byteAt]
    · simp [byteAt]
    · simp [byteAt]; omega
def storesB (p : Vl) (n : Int) : Bool := decide (p.kind = 1) || (decide (p.kind = 2) && decide (n = 4))
set_option maxHeartbeats 1000000 in
theorem stores_c (p : Vl) (n : Int) (w : World) : Calls Try.prog 47 #[.agg #[.int .i64 p.kind, .int .u32 p.v, .int .i64 p.block], .int .i64 n] w fun e w' => e = .returned (.bool (storesB p n)) ∧ Below w.heap.size w w' := by
  go_enter Try.func47, Try.ntmps47
  go_wp2
  all_goals go_ret
  all_goals refine ⟨bool_ret ?_, (Below.refl _ w).alloc (Nat.le_refl _) _⟩
  all_goals (rw [Bool.eq_iff_iff]; simp [storesB]; try omega)
set_option maxHeartbeats 2000000 in
theorem cellsOf_ptr (p : Vl) (n : Nat) (w : World) (hk : p.kind = 2) (hn1 : 1 ≤ n) (hn4 : n ≤ 4) :
    Calls Try.prog 48 #[.agg #[.int .i64 p.kind, .int .u32 p.v, .int .i64 p.block], .int .i64 n] w fun e w' => ∃ g cap, e = .returned (.slice (some ⟨g, 0, none⟩) n cap) ∧ CellsAt w' g n (stCell p) ∧ w.heap.size ≤ g ∧ Below w.heap.size w w' := by
  obtain ⟨i0, hi, hz0, hz1, hz2⟩ := info_parts info_cell
  obtain ⟨a0, a1, a2⟩ := box_cells w p
  have hB : Below w.heap.size w (w.alloc (.cells #[.int .i64 p.kind, .int .u32 p.v, .int .i64 p.block] TV)) := (Below.refl _ w).alloc (Nat.le_refl _) _
  obtain ⟨w0, mk, mo, mg⟩ := run_make_own (P := Try.prog) (w.alloc (.cells #[.int .i64 p.kind, .int .u32 p.v, .int .i64 p.block] TV)) (w.alloc (.cells #[.int .i64 p.kind, .int .u32 p.v, .int .i64 p.block] TV)).heap.size TP TC i0 _ 4 Try.underlying36 hi hz0 hz1 .i64 .i64 n (by rw [hz2]; omega) (by unfold maxLen; omega) (Nat.le_refl _)
  have hsz : (w.alloc (.cells #[.int .i64 p.kind, .int .u32 p.v, .int .i64 p.block] TV)).heap.size = w.heap.size + 1 := by simp
  rw [hsz] at mk mo
  have hB1 : Below (w.alloc (.cells #[.int .i64 p.kind, .int .u32 p.v, .int .i64 p.block] TV)).heap.size (w.alloc (.cells #[.int .i64 p.kind, .int .u32 p.v, .int .i64 p.block] TV)) w0 := (Below.refl _ _).grown mg (Nat.le_refl _) (fun k hk => by cases hk)
  have c0 := (hB1.cell (p := ⟨w.heap.size, 0, none⟩) (by simp)).trans a0
  have c1 := (hB1.cell (p := ⟨w.heap.size, 1, none⟩) (by simp)).trans a1
  have c2 := (hB1.cell (p := ⟨w.heap.size, 2, none⟩) (by simp)).trans a2
  have hlt : w.heap.size < w0.heap.size := World.block_lt_of_cell? w0 _ c0
  have HB0 : Hid (Below w.heap.size w w0) := hB.trans (hB1.mono (by simp))
  have hk2 : (p.kind == 2) = true := by simpa using hk
  have MO : Hid (w0.ownsRow (w.heap.size + 1) TC 4 (.slice (some ⟨w.heap.size + 1, 0, none⟩) 0 n) 0 (cellsL (stCell p) 0)) := mo
  have HS : Hid (∀ k, cellsL (stCell p) (k + 1) = cellsL (stCell p) k ++ clV ⟨2, p.v, p.block, k⟩) := fun k => by rw [cellsL_succ]; simp [stCell, hk]
  have ca := fun (k : Int) Y => partOf_c p k Y
  clear hk a0 a1 a2 hB hB1 mo mg
  go_enter Try.func48, Try.ntmps48
  go_wp2
  clear mk
  go_loopw [5, 15] (fun v i wr => ∃ (k : Nat) (q : Option Addr) (cap : Nat), i = .int .i64 k ∧ k ≤ n ∧ v = .slice q k cap ∧ Hid (wr.ownsRow (w.heap.size + 1) TC 4 (.slice q k cap) k (cellsL (stCell p) k)) ∧ Hid (Below (w.heap.size + 1) w0 wr)) (fun _ i _ => n - (intOf i).toNat)
  case atStart => exact ⟨0, _, _, rfl, Nat.zero_le _, rfl, MO, Below.refl _ _⟩
  case round =>
    obtain ⟨k, q, cap, rfl, hk, rfl, HO, HB⟩ := hrel
    have d0 := (HB.out.cell (p := ⟨w.heap.size, 0, none⟩) (by simp)).trans c0
    have d1 := (HB.out.cell (p := ⟨w.heap.size, 1, none⟩) (by simp)).trans c1
    have d2 := (HB.out.cell (p := ⟨w.heap.size, 2, none⟩) (by simp)).trans c2
    have hwr : w.heap.size + 1 ≤ wr.heap.size := World.block_lt_of_cell? wr _ d0
    by_cases hlt2 : k < n
    · go_wp2_with (first | (go_at_call 71; refine (ca _ _).mono ?_; rintro e w1 ⟨rfl, hb1⟩; have HO1 : Hid ((w1.alloc (.cells #[.int .i64 2, .int .u32 p.v, .int .i64 p.block, .int .i64 k] TC)).ownsRow (w.heap.size + 1) TC 4 (.slice q k cap) k (cellsL (stCell p) k)) := (ownsRow_below HO.out hb1).alloc _; have HB1 : Hid (Below (w.heap.size + 1) w0 w1) := HB.out.trans (hb1.mono hwr); have hs1 : w.heap.size + 1 ≤ w1.heap.size := Nat.le_trans hwr hb1.size; clear hb1 ca) | (at_builtin; go_must (refine wpList_append_own_at _ rfl (.tmp 18) (.tmp 22) TP rfl (w.heap.size + 1) TC i0 _ 4 32 Try.underlying36 hi hz0 hz1 hz2 rfl (by decide) (.slice q k cap) k _ rfl HO1.out ⟨w1.heap.size, 0, none⟩ 1 1 _ rfl rfl (cells_new _ _ _) (by simp [Value.oneCell']) (by unfold maxLen; omega) (by omega) (Nat.le_trans hs1 (by simp)) ?_); intro v' w' hown hgrow hnil hat; obtain ⟨p', cap', rfl⟩ := slice_of_own hown; have HO2 : Hid (w'.ownsRow (w.heap.size + 1) TC 4 (.slice p' (k + 1) cap') (k + 1) (cellsL (stCell p) k ++ clV ⟨2, p.v, p.block, k⟩)) := hown; have HB2 : Hid (Below (w.heap.size + 1) w0 w') := (HB1.out.alloc hs1 _).grown hgrow (Nat.le_trans hs1 (by simp)) (own_base HO1.out); clear hown hgrow hnil hat))
      refine ⟨⟨k + 1, p', cap', by go_num, by omega, rfl, ?_, HB2⟩, by simp [intOf]; omega⟩
      show World.ownsRow _ _ _ _ _ _ _
      rw [HS.out]; exact HO2.out
    · obtain rfl : k = n := by omega
      go_wp2
      go_ret
      obtain ⟨_, ⟨h1, h2⟩ | ⟨g, cap', cur, hv, hb, hg, r⟩⟩ := HO.out
      · omega
      · cases hv
        exact ⟨g, cap, rfl, cellsAt_own HO.out, by omega, HB0.out.trans (HB.out.mono (by omega))⟩
set_option maxHeartbeats 2000000 in
theorem cellsOf_num (p : Vl) (n : Nat) (w : World) (hk : ¬ p.kind = 2) (v0 : 0 ≤ p.v) (v1 : p.v < 4294967296) (hn : n = 1 ∨ n = 2 ∨ n = 4) :
    Calls Try.prog 48 #[.agg #[.int .i64 p.kind, .int .u32 p.v, .int .i64 p.block], .int .i64 n] w fun e w' => ∃ g cap, e = .returned (.slice (some ⟨g, 0, none⟩) n cap) ∧ CellsAt w' g n (stCell p) ∧ w.heap.size ≤ g ∧ Below w.heap.size w w' := by
  obtain ⟨i0, hi, hz0, hz1, hz2⟩ := info_parts info_cell
  obtain ⟨a0, a1, a2⟩ := box_cells w p
  have hB : Below w.heap.size w (w.alloc (.cells #[.int .i64 p.kind, .int .u32 p.v, .int .i64 p.block] TV)) := (Below.refl _ w).alloc (Nat.le_refl _) _
  obtain ⟨w0, mk, mo, mg⟩ := run_make_own (P := Try.prog) (w.alloc (.cells #[.int .i64 p.kind, .int .u32 p.v, .int .i64 p.block] TV)) (w.alloc (.cells #[.int .i64 p.kind, .int .u32 p.v, .int .i64 p.block] TV)).heap.size TP TC i0 _ 4 Try.underlying36 hi hz0 hz1 .i64 .i64 n (by rw [hz2]; omega) (by unfold maxLen; omega) (Nat.le_refl _)
  have hsz : (w.alloc (.cells #[.int .i64 p.kind, .int .u32 p.v, .int .i64 p.block] TV)).heap.size = w.heap.size + 1 := by simp
  rw [hsz] at mk mo
  have hB1 : Below (w.alloc (.cells #[.int .i64 p.kind, .int .u32 p.v, .int .i64 p.block] TV)).heap.size (w.alloc (.cells #[.int .i64 p.kind, .int .u32 p.v, .int .i64 p.block] TV)) w0 := (Below.refl _ _).grown mg (Nat.le_refl _) (fun k hk => by cases hk)
  have c0 := (hB1.cell (p := ⟨w.heap.size, 0, none⟩) (by simp)).trans a0
  have c1 := (hB1.cell (p := ⟨w.heap.size, 1, none⟩) (by simp)).trans a1
  have c2 := (hB1.cell (p := ⟨w.heap.size, 2, none⟩) (by simp)).trans a2
  have hlt : w.heap.size < w0.heap.size := World.block_lt_of_cell? w0 _ c0
  have HB0 : Hid (Below w.heap.size w w0) := hB.trans (hB1.mono (by simp))
  have hk2 : (p.kind == 2) = false := by simpa using hk
  have hn1 : 1 ≤ n := by omega
  have hn4 : n ≤ 4 := by omega
  have cB := fun Y => bytes_c p.v n Y v0 v1 hn
  have hbd := byteAt_bd p.v
  have MO : Hid (w0.ownsRow (w.heap.size + 1) TC 4 (.slice (some ⟨w.heap.size + 1, 0, none⟩) 0 n) 0 (cellsL (stCell p) 0)) := mo
  have HS : Hid (∀ k, cellsL (stCell p) (k + 1) = cellsL (stCell p) k ++ clV ⟨1, byteAt p.v k, 0, 0⟩) := fun k => by rw [cellsL_succ]; simp [stCell, hk]
  have ca := fun (k : Nat) Y => byteOf_c (byteAt p.v k) Y (hbd k).1 (hbd k).2
  clear hk a0 a1 a2 hB hB1 mo mg hn
  go_enter Try.func48, Try.ntmps48
  go_wp2_with fail
  clear mk
  refine (cB _).mono ?_; rintro e wB ⟨rfl, hbc, hbB⟩
  have hlt0 : w.heap.size + 1 < w0.heap.size := (MO.out.lt _ rfl).2
  have MO2 : Hid (wB.ownsRow (w.heap.size + 1) TC 4 (.slice (some ⟨w.heap.size + 1, 0, none⟩) 0 n) 0 (cellsL (stCell p) 0)) := ownsRow_below MO.out hbB
  have HBB : Hid (Below w.heap.size w wB) := HB0.out.trans (hbB.mono HB0.out.size)
  have HC : Hid (∀ j, j < n → wB.cell? ⟨w0.heap.size, j, none⟩ = some (.int .u8 (byteAt p.v j))) := hbc
  have hltB : w0.heap.size < wB.heap.size := World.block_lt_of_cell? wB _ (hbc 0 (by omega))
  clear hbc hbB MO cB
  go_wp2
  go_loopw [5, 31] (fun v i wr => ∃ (k : Nat) (q : Option Addr) (cap : Nat), i = .int .i64 k ∧ k ≤ n ∧ v = .slice q k cap ∧ Hid (wr.ownsRow (w.heap.size + 1) TC 4 (.slice q k cap) k (cellsL (stCell p) k)) ∧ Hid (Turned wB wr (fun g => g = w.heap.size + 1 ∨ wB.heap.size ≤ g)) ∧ Hid (∀ g, Value.ownBlock (.slice q k cap) = some g → g = w.heap.size + 1 ∨ wB.heap.size ≤ g)) (fun _ i _ => n - (intOf i).toNat)
  case atStart => exact ⟨0, _, _, rfl, Nat.zero_le _, rfl, MO2, Turned.refl _ _, fun g hg => by cases hg; exact Or.inl rfl⟩
  case round =>
    obtain ⟨k, q, cap, rfl, hk, rfl, HO, HT, HG⟩ := hrel
    by_cases hlt2 : k < n
    · have d0 : wr.cell? ⟨w0.heap.size, k, none⟩ = some (.int .u8 (byteAt p.v k)) := (World.cell?_of_block (HT.out.block w0.heap.size hltB (fun h => by rcases h with h | h <;> omega))).trans (HC.out k hlt2)
      have hwr : wB.heap.size ≤ wr.heap.size := HT.out.size
      have cak := ca k
      have hS := HS.out k
      have HSk : Hid _ := hS
      have hb0 := (hbd k).1
      have hb1' := (hbd k).2
      clear hS
      generalize byteAt p.v k = bt at *
      go_wp2_with fail
      refine (cak _).mono ?_; rintro e w1 ⟨rfl, hb1⟩; have HO1 : Hid ((w1.alloc (.cells #[.int .i64 1, .int .u32 bt, .int .i64 0, .int .i64 0] TC)).ownsRow (w.heap.size + 1) TC 4 (.slice q k cap) k (cellsL (stCell p) k)) := (ownsRow_below HO.out hb1).alloc _; have HB1 : Hid (Turned wB (w1.alloc (.cells #[.int .i64 1, .int .u32 bt, .int .i64 0, .int .i64 0] TC)) (fun g => g = w.heap.size + 1 ∨ wB.heap.size ≤ g)) := (HT.out.trans (Turned.of_below hb1 (fun _ => False)) (fun _ _ h => h.elim)).trans (Turned.alloc _ _ (fun _ => False)) (fun _ _ h => h.elim); have hs1 : w.heap.size + 1 ≤ w1.heap.size := (by have := hb1.size; omega); have hs2 : wB.heap.size ≤ w1.heap.size := (by have := hb1.size; omega); clear hb1 cak
      go_wp2_with ((at_builtin; go_must (refine wpList_append_own_at _ rfl (.tmp 35) (.tmp 38) TP rfl (w.heap.size + 1) TC i0 _ 4 32 Try.underlying36 hi hz0 hz1 hz2 rfl (by decide) (.slice q k cap) k _ rfl HO1.out ⟨w1.heap.size, 0, none⟩ 1 1 _ rfl rfl (cells_new _ _ _) (by simp [Value.oneCell']) (by unfold maxLen; omega) (by omega) (Nat.le_trans hs1 (by simp)) ?_); intro v' w' hown hgrow hnil hat; obtain ⟨p', cap', rfl⟩ := slice_of_own hown; have HO2 : Hid (w'.ownsRow (w.heap.size + 1) TC 4 (.slice p' (k + 1) cap') (k + 1) (cellsL (stCell p) k ++ clV ⟨1, bt, 0, 0⟩)) := hown; have HB2 : Hid (Turned wB w' (fun g => g = w.heap.size + 1 ∨ wB.heap.size ≤ g)) := HB1.out.trans (S' := fun g => g = w.heap.size + 1 ∨ wB.heap.size ≤ g) ⟨hgrow.os, hgrow.tape, hgrow.output, hgrow.size, fun m hm hn => hgrow.block m hm (fun e => hn (HG.out m e.symm))⟩ (fun _ _ h => h); have HG2 : Hid (∀ g, Value.ownBlock (.slice p' (k + 1) cap') = some g → g = w.heap.size + 1 ∨ wB.heap.size ≤ g) := (fun g hg => by rcases hat with e | e; exact HG.out g (e ▸ hg); rw [hg] at e; injection e with e; subst e; exact Or.inr (Nat.le_trans hs2 (by simp))); clear hown hgrow hnil hat))
      refine ⟨⟨k + 1, p', cap', by go_num, by omega, rfl, ?_, HB2, HG2⟩, by simp [intOf]; omega⟩
      show World.ownsRow _ _ _ _ _ _ _
      rw [HSk.out]; exact HO2.out
    · obtain rfl : k = n := by omega
      go_wp2
      go_ret
      obtain ⟨_, ⟨h1, h2⟩ | ⟨g, cap', cur, hv, hb, hg, r⟩⟩ := HO.out
      · omega
      · cases hv
        refine ⟨g, cap, rfl, cellsAt_own HO.out, by omega, HBB.out.trans ⟨HT.out.os, HT.out.tape, HT.out.output, HT.out.size, fun m hm => HT.out.block m (Nat.lt_of_lt_of_le hm HBB.out.size) (fun h => ?_)⟩⟩
        have := HBB.out.size
        rcases h with h | h <;> omega
end Go.Proofs.Ytigiahcfcglacaa
