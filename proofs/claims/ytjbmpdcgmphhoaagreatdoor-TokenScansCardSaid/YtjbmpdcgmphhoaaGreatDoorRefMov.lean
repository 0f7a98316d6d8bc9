/-
  What mortiseref02's moved answers: the same spot as package token's onward.
-/
import Derived.Test.YtjbmpdcgmphhoaaGreatDoorFirst
import Derived.Test.YtjbmpdcgmphhoaaGreatDoorScan
namespace Go.Proofs.YtjbmpdcgmphhoaaGreatDoor
open Go.RowKit
set_option linter.unusedVariables false

theorem part_single (L : List UInt8) (k : Nat) (c : UInt8) (h : L[k]? = some c) : partL L k (k + 1) = ⟨#[c]⟩ := by
  have hk : k < L.length := (List.getElem?_eq_some_iff.1 h).1
  unfold partL
  rw [List.drop_eq_getElem_cons hk, show k + 1 - k = 1 by omega, List.take_succ_cons, List.take_zero]
  rw [List.getElem?_eq_getElem hk] at h
  rw [Option.some.inj h]
theorem onLine_succ (L : List UInt8) (line : Int) (a k : Nat) (c : UInt8) (ha : a ≤ k) (h : L[k]? = some c) : onLine line (partL L a (k + 1)) = if c = 10 then onLine line (partL L a k) + 1 else onLine line (partL L a k) := by
  rw [← onLine_onLine L line ha (Nat.le_succ k), part_single L k c h]
  generalize onLine line (partL L a k) = q
  unfold onLine
  split
  · rename_i hc; subst hc; rfl
  · rename_i hc
    simp [Lib.countByte, hc]
theorem onCol_succ (L : List UInt8) (col : Int) (a k : Nat) (c : UInt8) (ha : a ≤ k) (h : L[k]? = some c) : onCol col (partL L a (k + 1)) = if c = 10 then 1 else onCol col (partL L a k) + 1 := by
  rw [← onCol_onCol L col ha (Nat.le_succ k), part_single L k c h]
  generalize onCol col (partL L a k) = q
  unfold onCol
  by_cases hc : c = 10
  · subst hc
    rw [if_pos rfl, if_pos (by decide)]; rfl
  · have hne : ¬ ((c.toNat : Int) = 10) := by
      intro e; apply hc
      apply UInt8.toNat_inj.1
      have : c.toNat = 10 := by omega
      rw [this]; rfl
    have : Lib.lastIndexByte ⟨#[c]⟩ 10 = -1 := by
      show Lib.lastIdx ⟨#[c]⟩ 10 1 = -1
      rw [Lib.lastIdx_miss ⟨#[c]⟩ 10 0 (by simpa using hne)]; rfl
    rw [this, if_neg (by omega), if_neg hc]
    rfl

theorem spot_row {w : World} {S : Nat} {a b c : Value} (h : w.heap[S]? = some (.cells #[a, b, c] 25 (0, 0))) :
    w.cell? ⟨S, 0, none⟩ = some a ∧ w.cell? ⟨S, 1, none⟩ = some b ∧ w.cell? ⟨S, 2, none⟩ = some c ∧ w.frozen? ⟨S, 0, none⟩ = false ∧ w.frozen? ⟨S, 1, none⟩ = false ∧ w.frozen? ⟨S, 2, none⟩ = false := by
  refine ⟨?_, ?_, ?_, ?_, ?_, ?_⟩ <;> simp [World.cell?, World.frozen?, h]
theorem setCell_apart {W : World} {F g j : Nat} (h : g ≠ F) (v : Value) : (W.setCell ⟨F, j, none⟩ v).heap[g]? = W.heap[g]? := by
  simp only [World.setCell, Array.getElem?_modify]
  rw [if_neg (fun e => h e.symm)]

set_option maxRecDepth 100000 in
set_option maxHeartbeats 2000000 in
theorem moved_r (s : ByteArray) (line col : Int) (a b : Nat) (w : World) (hab : a ≤ b) (hb : b ≤ s.size) (hs : s.size ≤ 65536) (hl0 : 0 ≤ line) (hl1 : line ≤ 1000000000000) (hc0 : 0 ≤ col) (hc1 : col ≤ 1000000000000) :
    Calls Tryz.prog 19 #[.string s, spotV line col a, .int .i64 b] w fun e w' => e = .returned (spotV (onLine line (partL s.data.toList a b)) (onCol col (partL s.data.toList a b)) b) ∧ Below w.heap.size w w' := by
  have hp0 : partL s.data.toList a a = ⟨#[]⟩ := by unfold partL; rw [Nat.sub_self, List.take_zero]
  have hL0 : onLine line (partL s.data.toList a a) = line := by rw [hp0]; unfold onLine; simp [Lib.countByte]
  have hC0 : onCol col (partL s.data.toList a a) = col := by rw [hp0]; unfold onCol; rw [if_neg (by decide)]; show col + ((0 : Nat) : Int) = col; omega
  unfold spotV
  go_enter Tryz.func19, Tryz.ntmps19
  go_wp2
  generalize hw1 : (w.alloc _).alloc _ = w1
  have HP : Hid (w1.heap[w.heap.size]? = some (.cells #[.int .i64 line, .int .i64 col, .int .i64 a] 25 (0, 0))) := by rw [← hw1]; exact heap_in1 w _ _
  have HA : Hid (w1.heap[w.heap.size + 1]? = some (.cells #[.int .i64 0, .int .i64 0, .int .i64 0] 25 (0, 0))) := by
    rw [← hw1]
    show _ = _
    have := heap_in0 (w.alloc (.cells #[.int .i64 line, .int .i64 col, .int .i64 a] 25)) (.cells #[.int .i64 0, .int .i64 0, .int .i64 0] 25)
    simpa using this
  have HB : Hid (Below w.heap.size w w1) := by rw [← hw1]; exact ((Below.refl _ w).alloc (Nat.le_refl _) _).alloc (by simp) _
  have hsz : w.heap.size + 1 < w1.heap.size := by rw [← hw1]; simp
  clear hw1
  go_loopw [7] (fun i wr => ∃ k : Nat, a ≤ k ∧ k ≤ b ∧ i = .int .i64 k ∧ Hid (wr.heap[w.heap.size + 1]? = some (.cells #[.int .i64 0, .int .i64 0, .int .i64 0] 25 (0, 0))) ∧ Hid (wr.heap[w.heap.size]? = some (.cells #[.int .i64 (onLine line (partL s.data.toList a k)), .int .i64 (onCol col (partL s.data.toList a k)), .int .i64 a] 25 (0, 0))) ∧ Hid (Below w.heap.size w wr)) (fun i _ => b - (intOf i).toNat)
  case atStart => exact ⟨a, Nat.le_refl _, hab, rfl, HA, by rw [hL0, hC0]; exact HP, HB⟩
  case round =>
    obtain ⟨k, hak, hk, rfl, HA2, HP2, HB2⟩ := hrel
    clear HA HP HB hL0 hC0 hp0
    by_cases hlt : k < b
    · have hks : k < s.size := by omega
      have hget : s.data.toList[k]? = some s[k] := by rw [Array.getElem?_toList]; exact Array.getElem?_eq_getElem hks
      have hl := onLine_succ s.data.toList line a k s[k] hak hget
      have hc := onCol_succ s.data.toList col a k s[k] hak hget
      have hb1 := onLine_le line (partL s.data.toList a k)
      have hb2 := onCol_le col (partL s.data.toList a k) hc0
      have hb3 := part_size s.data.toList a k
      obtain ⟨e0, e1, e2, z0, z1, z2⟩ := spot_row HP2.out
      have h12 : s[k] = 10 ↔ (s[k]).toNat = 10 := (UInt8.toNat_inj (b := 10)).symm
      generalize hLN : onLine line (partL s.data.toList a k) = ln at *
      generalize hCL : onCol col (partL s.data.toList a k) = cl at *
      have b0 : 0 ≤ ln ∧ ln ≤ 2000000000000 := by omega
      have b1 : 0 ≤ cl ∧ cl ≤ 2000000000000 := by omega
      obtain ⟨b00, b01⟩ := b0
      obtain ⟨b10, b11⟩ := b1
      by_cases hn : s[k] = 10
      · have hn' : ((s[k]).toNat : Int) = 10 := by have := h12.1 hn; omega
        rw [if_pos hn] at hl hc
        have HL : Hid _ := hl
        have HCC : Hid _ := hc
        clear hl hc h12 hn hLN hCL hget hb1 hb2 hb3
        go_wp2
        refine ⟨⟨k + 1, by omega, by omega, by go_num, ?_, ?_, ?_⟩, by simp [intOf]; omega⟩
        · show _ = _
          rw [setCell_apart (by omega), setCell_apart (by omega), setCell_apart (by omega)]; exact HA2.out
        · show _ = _
          rw [HL.out, HCC.out]; exact heap_setCell_same (heap_setCell_same (heap_setCell_same HP2.out _) _) _
        · exact ((HB2.out.setCell (p := ⟨w.heap.size, 1, none⟩) (Nat.le_refl _) _).setCell (p := ⟨w.heap.size, 0, none⟩) (Nat.le_refl _) _).setCell (p := ⟨w.heap.size, 1, none⟩) (Nat.le_refl _) _
      · have hn' : ¬ (((s[k]).toNat : Int) = 10) := by have := mt h12.2 hn; omega
        rw [if_neg hn] at hl hc
        have HL : Hid _ := hl
        have HCC : Hid _ := hc
        clear hl hc h12 hn hLN hCL hget hb1 hb2 hb3
        go_wp2
        refine ⟨⟨k + 1, by omega, by omega, by go_num, ?_, ?_, ?_⟩, by simp [intOf]; omega⟩
        · show _ = _
          rw [setCell_apart (by omega)]; exact HA2.out
        · show _ = _
          rw [HL.out, HCC.out]; exact heap_setCell_same HP2.out _
        · exact HB2.out.setCell (p := ⟨w.heap.size, 1, none⟩) (Nat.le_refl _) _
    · have hke : k = b := by omega
      subst hke
      obtain ⟨e0, e1, e2, z0, z1, z2⟩ := spot_row HP2.out
      have HP3 : Hid ((wr.setCell ⟨w.heap.size, 2, none⟩ (.int .i64 k)).heap[w.heap.size]? = some (.cells #[.int .i64 (onLine line (partL s.data.toList a k)), .int .i64 (onCol col (partL s.data.toList a k)), .int .i64 k] 25 (0, 0))) := heap_setCell_same HP2.out _
      have hold : (wr.setCell ⟨w.heap.size, 2, none⟩ (.int .i64 k)).heap[w.heap.size + 1]? = some (.cells #[.int .i64 0, .int .i64 0, .int .i64 0] 25 (0, 0)) := by rw [setCell_apart (by omega)]; exact HA2.out
      have HB3 : Hid (Below w.heap.size w (wr.setCell ⟨w.heap.size, 2, none⟩ (.int .i64 k))) := HB2.out.setCell (p := ⟨w.heap.size, 2, none⟩) (Nat.le_refl _) _
      obtain ⟨q0, q1, q2, _, _, _⟩ := spot_row HP3.out
      go_wp2_with ((with_reducible apply step_store hold); rfl; rfl; kernel_rfl; rfl; kernel_rfl)
      refine ret_spot (q := 6) ?_ ?_ (setRow_heap _ _ _ _ _ _ hold) ?_ ?_
      all_goals first | rfl | (exact ⟨rfl, below_setRow HB3.out (Nat.le_succ _) _⟩)
end Go.Proofs.YtjbmpdcgmphhoaaGreatDoor
