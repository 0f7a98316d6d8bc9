/-
  What mortiseref02's At answers: the same spot as package token's.
-/
import Derived.Test.YtjbmpdcgmphhoaaDoorFirst
import Derived.Test.YtjbmpdcgmphhoaaDoorScan
namespace Go.Proofs.YtjbmpdcgmphhoaaDoor
open Go.RowKit
set_option linter.unusedVariables false

/-- Line and column at a place, from the text's beginning. -/
def lineAt (L : List UInt8) (k : Nat) : Int := onLine 1 (partL L 0 k)
def colAt (L : List UInt8) (k : Nat) : Int := onCol 1 (partL L 0 k)

theorem part_one (L : List UInt8) (k : Nat) (c : UInt8) (h : L[k]? = some c) : partL L k (k + 1) = ⟨#[c]⟩ := by
  have hk : k < L.length := (List.getElem?_eq_some_iff.1 h).1
  unfold partL
  rw [List.drop_eq_getElem_cons hk, show k + 1 - k = 1 by omega, List.take_succ_cons, List.take_zero]
  rw [List.getElem?_eq_getElem hk] at h
  rw [Option.some.inj h]
theorem lineAt_succ (L : List UInt8) (k : Nat) (c : UInt8) (h : L[k]? = some c) : lineAt L (k + 1) = if c = 10 then lineAt L k + 1 else lineAt L k := by
  unfold lineAt
  rw [← onLine_onLine L 1 (Nat.zero_le k) (Nat.le_succ k), part_one L k c h]
  unfold onLine
  split
  · rename_i hc; subst hc; rfl
  · rename_i hc
    simp [Lib.countByte, hc]
theorem colAt_succ (L : List UInt8) (k : Nat) (c : UInt8) (h : L[k]? = some c) : colAt L (k + 1) = if c = 10 then 1 else colAt L k + 1 := by
  unfold colAt
  rw [← onCol_onCol L 1 (Nat.zero_le k) (Nat.le_succ k), part_one L k c h]
  generalize onCol 1 (partL L 0 k) = q
  unfold onCol
  by_cases hc : c = 10
  · subst hc
    rw [if_pos rfl, if_pos (by decide)]; rfl
  · have hne : ¬ ((c.toNat : Int) = 10) := by
      intro e; apply hc
      apply UInt8.toNat_inj.1
      have : c.toNat = 10 := by omega
      rw [this]; rfl
    have : Lib.lastIndexByte ⟨#[c]⟩ 10 = -1 := by
      show Lib.lastIdx ⟨#[c]⟩ 10 1 = -1
      rw [Lib.lastIdx_miss ⟨#[c]⟩ 10 0 (by simpa using hne)]; rfl
    rw [this, if_neg (by omega), if_neg hc]
    rfl
theorem at_bounds (L : List UInt8) (k : Nat) : 0 ≤ lineAt L k ∧ lineAt L k ≤ 1 + k ∧ 0 ≤ colAt L k ∧ colAt L k ≤ 1 + k := by
  have h1 := part_size L 0 k
  have h2 := onLine_le 1 (partL L 0 k)
  have h3 := onCol_le 1 (partL L 0 k) (by omega)
  unfold lineAt colAt
  omega

theorem spot_frozen {w : World} {S : Nat} {a b c : Value} (h : w.heap[S]? = some (.cells #[a, b, c] 23 (0, 0))) :
    w.cell? ⟨S, 0, none⟩ = some a ∧ w.cell? ⟨S, 1, none⟩ = some b ∧ w.cell? ⟨S, 2, none⟩ = some c ∧ w.frozen? ⟨S, 0, none⟩ = false ∧ w.frozen? ⟨S, 1, none⟩ = false := by
  refine ⟨?_, ?_, ?_, ?_, ?_⟩ <;> simp [World.cell?, World.frozen?, h]

theorem heap_setCell_far {W : World} {F g j : Nat} (h : g ≠ F) (v : Value) : (W.setCell ⟨F, j, none⟩ v).heap[g]? = W.heap[g]? := by
  simp only [World.setCell, Array.getElem?_modify]
  rw [if_neg (fun e => h e.symm)]

set_option maxRecDepth 100000 in
set_option maxHeartbeats 2000000 in
theorem refAt_c (s : ByteArray) (off : Int) (w : World) (hs : s.size ≤ 1000000000000000000) (h0 : -9223372036854775808 ≤ off) (h1 : off ≤ 9223372036854775807) :
    Calls Tryd.prog 8 #[.string s, .int .i64 off] w fun e w' => e = .returned (spotV (lineAt s.data.toList (atOff s.size off)) (colAt s.data.toList (atOff s.size off)) (atOff s.size off)) ∧ Below w.heap.size w w' := by
  have ho : ((atOff s.size off : Nat) : Int) = max 0 (min off (s.size : Int)) := by unfold atOff; omega
  have hle : atOff s.size off ≤ s.size := by omega
  generalize atOff s.size off = o at *
  go_enter Tryd.func8, Tryd.ntmps8
  go_wp2
  generalize hw1 : (w.alloc _).alloc _ = w1
  have HA : Hid (w1.heap[w.heap.size]? = some (.cells #[.int .i64 0, .int .i64 0, .int .i64 0] 23 (0, 0))) := by rw [← hw1]; exact heap_in1 w _ _
  have HP : Hid (w1.heap[w.heap.size + 1]? = some (.cells #[.int .i64 1, .int .i64 1, .int .i64 o] 23 (0, 0))) := by rw [← hw1, ho]; exact (show _ = _ from by have := heap_in0 (w.alloc (.cells #[.int .i64 0, .int .i64 0, .int .i64 0] 23)) (.cells #[.int .i64 1, .int .i64 1, .int .i64 (max 0 (min off (s.size : Int)))] 23); simpa using this)
  have HB : Hid (Below w.heap.size w w1) := by rw [← hw1]; exact ((Below.refl _ w).alloc (Nat.le_refl _) _).alloc (by simp) _
  have hsz : w.heap.size + 1 < w1.heap.size := by rw [← hw1]; simp
  clear hw1
  rw [← ho]
  have HO : Hid _ := ho
  clear ho
  go_loopw [6] (fun i wr => ∃ k : Nat, k ≤ o ∧ i = .int .i64 k ∧ Hid (wr.heap[w.heap.size]? = some (.cells #[.int .i64 0, .int .i64 0, .int .i64 0] 23 (0, 0))) ∧ Hid (wr.heap[w.heap.size + 1]? = some (.cells #[.int .i64 (lineAt s.data.toList k), .int .i64 (colAt s.data.toList k), .int .i64 o] 23 (0, 0))) ∧ Hid (Below w.heap.size w wr)) (fun i _ => o - (intOf i).toNat)
  case atStart => exact ⟨0, Nat.zero_le _, rfl, HA, HP, HB⟩
  case round =>
    obtain ⟨k, hk, rfl, HA2, HP2, HB2⟩ := hrel
    clear HA HP HB HO
    by_cases hlt : k < o
    · have hks : k < s.size := by omega
      have hget : s.data.toList[k]? = some s[k] := by rw [Array.getElem?_toList]; exact Array.getElem?_eq_getElem hks
      have hl := lineAt_succ s.data.toList k s[k] hget
      have hc := colAt_succ s.data.toList k s[k] hget
      have hb := at_bounds s.data.toList k
      obtain ⟨e0, e1, e2, z0, z1⟩ := spot_frozen HP2.out
      have h12 : s[k] = 10 ↔ (s[k]).toNat = 10 := (UInt8.toNat_inj (b := 10)).symm
      generalize hLN : lineAt s.data.toList k = ln at *
      generalize hCL : colAt s.data.toList k = cl at *
      obtain ⟨b0, b1, b2, b3⟩ := hb
      by_cases hn : s[k] = 10
      · have hn' : ((s[k]).toNat : Int) = 10 := by have := h12.1 hn; omega
        rw [if_pos hn] at hl hc
        have HL : Hid _ := hl
        have HCC : Hid _ := hc
        clear hl hc h12 hn hLN hCL hget
        go_wp2
        refine ⟨⟨k + 1, by omega, by go_num, ?_, ?_, ?_⟩, by simp [intOf]; omega⟩
        · show _ = _
          rw [heap_setCell_far (by omega), heap_setCell_far (by omega), heap_setCell_far (by omega)]; exact HA2.out
        · show _ = _
          rw [HL.out, HCC.out]; exact heap_setCell_same (heap_setCell_same (heap_setCell_same HP2.out _) _) _
        · exact ((HB2.out.setCell (p := ⟨w.heap.size + 1, 1, none⟩) (Nat.le_succ _) _).setCell (p := ⟨w.heap.size + 1, 0, none⟩) (Nat.le_succ _) _).setCell (p := ⟨w.heap.size + 1, 1, none⟩) (Nat.le_succ _) _
      · have hn' : ¬ (((s[k]).toNat : Int) = 10) := by have := mt h12.2 hn; omega
        rw [if_neg hn] at hl hc
        have HL : Hid _ := hl
        have HCC : Hid _ := hc
        clear hl hc h12 hn hLN hCL hget
        go_wp2
        refine ⟨⟨k + 1, by omega, by go_num, ?_, ?_, ?_⟩, by simp [intOf]; omega⟩
        · show _ = _
          rw [heap_setCell_far (by omega)]; exact HA2.out
        · show _ = _
          rw [HL.out, HCC.out]; exact heap_setCell_same HP2.out _
        · exact HB2.out.setCell (p := ⟨w.heap.size + 1, 1, none⟩) (Nat.le_succ _) _
    · have hke : k = o := by omega
      subst hke
      obtain ⟨e0, e1, e2, z0, z1⟩ := spot_frozen HP2.out
      have hold := HA2.out
      go_wp2_with ((with_reducible apply step_store hold); rfl; rfl; kernel_rfl; rfl; kernel_rfl)
      refine ret_spot (q := 4) ?_ ?_ (setRow_heap _ _ _ _ _ _ hold) ?_ ?_
      all_goals first | rfl | (exact ⟨rfl, below_setRow HB2.out (Nat.le_refl _) _⟩)
end Go.Proofs.YtjbmpdcgmphhoaaDoor
