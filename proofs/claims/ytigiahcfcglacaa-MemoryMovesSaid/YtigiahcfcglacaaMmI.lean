/-
  All cells of a block, copied.
-/
import Derived.Test.YtigiahcfcglacaaMmG
import Derived.Deep.DeepMust
import Derived.Laws.AppendOwnNone
namespace Go.Proofs.Ytigiahcfcglacaa
open Go.RowKit Go.Maps
set_option linter.unusedVariables false
set_option maxRecDepth 100000
def cellsL (f : Nat → Cl) (k : Nat) : List Value := (List.range k).flatMap (fun i => clV (f i))
theorem cellsL_succ (f : Nat → Cl) (k : Nat) : cellsL f (k + 1) = cellsL f k ++ clV (f k) := by simp [cellsL, List.range_succ]
theorem cellsL_length (f : Nat → Cl) (k : Nat) : (cellsL f k).length = k * 4 := by
  induction k with
  | zero => rfl
  | succ k ih => rw [cellsL_succ, List.length_append, ih]; simp [clV]; omega
theorem cellsL_at (f : Nat → Cl) (n i k : Nat) (hi : i < n) (hk : k < 4) : (cellsL f n)[i * 4 + k]? = (clV (f i))[k]? := by
  induction n with
  | zero => omega
  | succ n ih =>
    rw [cellsL_succ]
    by_cases h : i < n
    · rw [List.getElem?_append_left (by rw [cellsL_length]; omega)]; exact ih h
    · obtain rfl : i = n := by omega
      rw [List.getElem?_append_right (by rw [cellsL_length]; omega), cellsL_length]
      congr 1; omega
theorem cellsAt_own {w : World} {base g n cap : Nat} {f : Nat → Cl} (h : w.ownsRow base TC 4 (.slice (some ⟨g, 0, none⟩) n cap) n (cellsL f n)) : CellsAt w g n f := by
  obtain ⟨_, ⟨h1, _⟩ | ⟨g', cap', cur, hv, hb, hg, h1, h2, h3, h4⟩⟩ := h
  · cases h1
  · injection hv with e1 e2 e3
    injection e1 with e1
    injection e1 with e1
    subst e1
    refine ⟨cur, hg, by rw [h3]; exact Nat.mul_le_mul_right 4 h1, fun i hi k hk => ?_⟩
    have := cellsL_at f n i k hi hk
    rw [← h4, List.getElem?_take_of_lt (by omega)] at this
    rw [← this]; simp
theorem cells_new (w : World) (cs : Array Value) (t : TypeId) : ∀ j u, cs.toList[j]? = some u → (w.alloc (.cells cs t)).cell? ((⟨w.heap.size, 0, none⟩ : Addr).add j) = some u := by
  intro j u hj
  have e : ((⟨w.heap.size, 0, none⟩ : Addr).add j) = ⟨w.heap.size, j, none⟩ := by
    simp [Addr.add]; rintro rfl; rfl
  rw [e, Lib.cell_of_heap (heap_r0 w _)]
  simpa using hj
theorem slice_of_own {w : World} {base : Nat} {e : TypeId} {size n : Nat} {v : Value} {xs : List Value} (h : w.ownsRow base e size v n xs) : ∃ p cap, v = .slice p n cap := by
  obtain ⟨_, ⟨rfl, rfl⟩ | ⟨g, cap, cur, rfl, _⟩⟩ := h
  · exact ⟨_, _, rfl⟩
  · exact ⟨_, _, rfl⟩
theorem ownsRow_below {w w' : World} {base : Nat} {e : TypeId} {size n : Nat} {v : Value} {xs : List Value} (h : w.ownsRow base e size v n xs) (ht : Below w.heap.size w w') : w'.ownsRow base e size v n xs := by
  obtain ⟨h1, h2 | ⟨g, cap, cur, rfl, hb, hg, r⟩⟩ := h
  · exact ⟨h1, Or.inl h2⟩
  · exact ⟨h1, Or.inr ⟨g, cap, cur, rfl, hb, by rw [ht.block g (lt_of_heap hg)]; exact hg, r⟩⟩
theorem own_base {w : World} {base : Nat} {e : TypeId} {size n : Nat} {v : Value} {xs : List Value} (h : w.ownsRow base e size v n xs) : ∀ k, v.ownBlock = some k → base ≤ k := fun k hk => (h.lt k hk).1
set_option maxHeartbeats 2000000 in
theorem all_c {w : World} {x : Bx} (h : BlkAt w x) :
    Calls Try.prog 31 #[.pointer (some ⟨x.bb, 0, none⟩)] w fun e w' => ∃ g cap, e = .returned (.slice (some ⟨g, 0, none⟩) x.bk.size cap) ∧ CellsAt w' g x.bk.size x.bk.cell ∧ w.heap.size ≤ g ∧ Below w.heap.size w w' := by
  obtain ⟨i0, hi, hz0, hz1, hz2⟩ := info_parts info_cell
  have c0 := h.c0
  have hmx := h.max
  have h1x := h.one
  obtain ⟨w0, mk, mo, mg⟩ := run_make_own (P := Try.prog) w w.heap.size TP TC i0 _ 4 Try.underlying36 hi hz0 hz1 .i64 .i64 x.bk.size (by rw [hz2]; omega) (by unfold maxLen; omega) (Nat.le_refl _)
  have hB0 : Below w.heap.size w w0 := (Below.refl _ w).grown mg (Nat.le_refl _) (fun k hk => by cases hk)
  have c1 := (hB0.cell (p := ⟨x.bb, 0, none⟩) h.lt1).trans c0
  have H : Hid (BlkAt w x) := h
  have HB0 : Hid (Below w.heap.size w w0) := hB0
  have MO : Hid (w0.ownsRow w.heap.size TC 4 (.slice (some ⟨w.heap.size, 0, none⟩) 0 x.bk.size) 0 []) := mo
  clear h mo mg hB0
  go_enter Try.func31, Try.ntmps31
  go_wp2
  clear mk
  go_loopw [3, 14] (fun v i wr => ∃ (k : Nat) (p : Option Addr) (cap : Nat), i = .int .i64 k ∧ k ≤ x.bk.size ∧ v = .slice p k cap ∧ Hid (wr.ownsRow w.heap.size TC 4 (.slice p k cap) k (cellsL x.bk.cell k)) ∧ Hid (Below w.heap.size w wr)) (fun _ i _ => x.bk.size - (intOf i).toNat)
  case atStart => exact ⟨0, _, _, rfl, Nat.zero_le _, rfl, MO, HB0⟩
  case round =>
    obtain ⟨k, p, cap, rfl, hk, rfl, HO, HB⟩ := hrel
    by_cases hlt : k < x.bk.size
    · have ca := at_c (H.out.keptB HB.out) k hlt
      have HS : Hid (cellsL x.bk.cell (k + 1) = cellsL x.bk.cell k ++ clV (x.bk.cell k)) := cellsL_succ _ _
      generalize x.bk.cell k = c at *
      go_wp2_with (first | (go_at_call 35; refine ca.mono ?_; rintro e w1 ⟨rfl, hb1⟩; have HO1 : Hid ((w1.alloc (.cells #[.int .i64 c.kind, .int .u32 c.v, .int .i64 c.block, .int .i64 c.part] TC)).ownsRow w.heap.size TC 4 (.slice p k cap) k (cellsL x.bk.cell k)) := (ownsRow_below HO.out hb1).alloc _; have HB1 : Hid (Below w.heap.size w w1) := HB.out.trans (hb1.mono HB.out.size); clear hb1 ca) | (at_builtin; go_must (refine wpList_append_own_at _ rfl (.tmp 17) (.tmp 21) TP rfl w.heap.size TC i0 _ 4 32 Try.underlying36 hi hz0 hz1 hz2 rfl (by decide) (.slice p k cap) k _ rfl HO1.out ⟨w1.heap.size, 0, none⟩ 1 1 _ rfl rfl (cells_new _ _ _) (by simp [Value.oneCell']) (by unfold maxLen; omega) (by omega) (Nat.le_trans HB1.out.size (by simp)) ?_); intro v' w' hown hgrow hnil hat; obtain ⟨p', cap', rfl⟩ := slice_of_own hown; have HO2 : Hid (w'.ownsRow w.heap.size TC 4 (.slice p' (k + 1) cap') (k + 1) (cellsL x.bk.cell k ++ clV c)) := hown; have HB2 : Hid (Below w.heap.size w w') := (HB1.out.alloc HB1.out.size _).grown hgrow (Nat.le_trans HB1.out.size (by simp)) (own_base HO1.out); clear hown hgrow hnil hat))
      refine ⟨⟨k + 1, p', cap', by go_num, by omega, rfl, ?_, HB2⟩, by simp [intOf]; omega⟩
      show World.ownsRow _ _ _ _ _ _ _
      rw [HS.out]; exact HO2.out
    · obtain rfl : k = x.bk.size := by omega
      go_wp2
      go_ret
      obtain ⟨_, ⟨h1, h2⟩ | ⟨g, cap', cur, hv, hb, hg, r⟩⟩ := HO.out
      · omega
      · cases hv
        exact ⟨g, cap, rfl, cellsAt_own HO.out, hb, HB.out⟩
end Go.Proofs.Ytigiahcfcglacaa
