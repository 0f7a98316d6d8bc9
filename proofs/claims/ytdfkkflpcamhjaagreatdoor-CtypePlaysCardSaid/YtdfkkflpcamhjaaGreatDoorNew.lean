/-
  New: a table with the basic types.
-/
import Derived.Test.YtdfkkflpcamhjaaGreatDoorMAdd
import Derived.Carry
import Derived.Deep.DeepMust
namespace Go.Proofs.YtdfkkflpcamhjaaGreatDoor
open Go.RowKit Go.Maps
set_option linter.unusedVariables false
set_option maxRecDepth 100000

theorem heap_s1' (w : World) (A B : Obj) : ((w.alloc A).alloc B).heap[w.heap.size]? = some A := by
  show ((w.heap.push A).push B)[w.heap.size]? = some A
  simp [Array.getElem?_push]
theorem heap_s2' (w : World) (A B : Obj) : ((w.alloc A).alloc B).heap[w.heap.size + 1]? = some B := by
  show ((w.heap.push A).push B)[w.heap.size + 1]? = some B
  rw [Array.getElem?_push, if_pos (by simp)]
def basic (i : Nat) : Rw × Value := (⟨(i : Int) + 1, 0, 0, ⟨#[]⟩, [], false⟩, .slice none 0 0)
def basicRows (n : Nat) : List (Rw × Value) := (List.range n).map basic

theorem tab_empty (w : World) : Tab w.heap.size ((w.alloc (.map #[] 0)).alloc (.cells #[.slice none 0 0, .map (some w.heap.size)] 54)) (w.heap.size + 1) w.heap.size (.slice none 0 0) (basicRows 0) [] where
  bB := by omega
  mB := Nat.le_refl _
  tab := heap_s2' w _ _
  rows := World.ownsRow_nil _ _ _ _
  mems := by intro p hp; cases hp
  map := ⟨#[], 0, heap_s1' w _ _, rfl⟩
  wf := by intro kv h; cases h
  len := by simp [basicRows]

set_option maxHeartbeats 1000000 in
theorem new_c (w : World) :
    Calls Tryz.prog 5 #[] w fun e w' => ∃ b mb v, e = .returned (.pointer (some ⟨b, 0, none⟩)) ∧ Tab w.heap.size w' b mb v (basicRows 11) [] ∧ Below w.heap.size w w' := by
  have hmm := @run_makeMap Tryz.prog
  have hbz : ∀ (k : Int) (W : World), (Instr.build TR #[(0, .int .i64 k)]).run Tryz.prog W = .ok (.agg #[.int .i64 k, .int .i64 0, .int .i64 0, .string ⟨#[]⟩, .slice none 0 0, .bool false]) W := fun k W => by kernel_rfl
  have hbt : ∀ (m : Value) (W : World), (Instr.build 54 #[(1, .map (some w.heap.size))]).run Tryz.prog W = .ok (.agg #[.slice none 0 0, .map (some w.heap.size)]) W := fun k W => by kernel_rfl
  have hbt := hbt (.bool true)
  obtain ⟨i0, hi, hz0, hz1, hz2⟩ := info_parts infoTR
  go_enter Tryz.func5, Tryz.ntmps5
  go_wp2
  go_loopw [2] (fun i wr => ∃ (n : Nat) (v : Value), i = .int .i64 ((n : Int) + 1) ∧ n ≤ 11 ∧ Hid (Tab w.heap.size wr (w.heap.size + 1) w.heap.size v (basicRows n) []) ∧ Hid (Below w.heap.size w wr)) (fun i _ => 12 - (intOf i).toNat)
  case atStart =>
    refine ⟨0, .slice none 0 0, rfl, by omega, ?_, ?_⟩
    · exact tab_empty w
    · exact ((Below.refl _ w).alloc (Nat.le_refl _) _).alloc (by simp) _
  case round =>
    obtain ⟨n, v, rfl, hn, HT, HB⟩ := hrel
    by_cases hlt : n < 11
    · have hc := HT.out.c0
      obtain ⟨p, cap, hv, hcap⟩ := HT.out.sl
      have hl : (basicRows n).length = n := by simp [basicRows]
      rw [hl] at hv hcap
      rw [hv] at hc
      have H3 : Hid (Tab w.heap.size (wr.alloc (.cells #[.int .i64 ((n : Int) + 1), .int .i64 0, .int .i64 0, .string ⟨#[]⟩, .slice none 0 0, .bool false] TR)) (w.heap.size + 1) w.heap.size v (basicRows n) []) := HT.out.alloc _
      have HR : Hid (World.ownsRow (wr.alloc (.cells #[.int .i64 ((n : Int) + 1), .int .i64 0, .int .i64 0, .string ⟨#[]⟩, .slice none 0 0, .bool false] TR)) w.heap.size TR 6 v n (allCells (basicRows n))) := by
        have := H3.out.rows; rw [hl] at this; exact this
      clear hl
      go_wp2_with (at_builtin; go_must (refine wpList_append_own_at _ rfl (.tmp 14) (.tmp 17) 22 rfl w.heap.size TR i0 zeroRow 6 72 Tryz.underlying22 hi hz0 hz1 hz2 rfl (by decide) v n _ hv.symm HR.out ⟨wr.heap.size, 0, none⟩ 1 1 _ rfl rfl (cells_new _ _ _) (by simp [Value.oneCell']) (by unfold maxLen; omega) (by omega) (by exact H3.out.lt) ?_); intro v' w' hown hgrow hnil hat; obtain ⟨p', cap', rfl⟩ := slice_of_own hown; have HTT : Hid (w'.heap[w.heap.size + 1]? = some (.cells #[v, .map (some w.heap.size)] 54 (0, 0))) := (hgrow.block _ (lt_of_heap H3.out.tab) (fun e => (H3.out.v_b e.symm).1 rfl)).trans H3.out.tab; have hc' : w'.cell? ⟨w.heap.size + 1, 0, none⟩ = some v := (Lib.cell_of_heap HTT.out 0).trans rfl; have hf' : w'.frozen? ⟨w.heap.size + 1, 0, none⟩ = false := frozen_of HTT.out 0; have HO : Hid (World.ownsRow _ _ _ _ _ _ _) := hown; have HG : Hid (World.grownBy _ _ _) := hgrow; have HA : Hid (_ ∨ _) := hat; clear hown hgrow hnil hat)
      have hl : (basicRows n).length = n := by simp [basicRows]
      have t := H3.out.snoc (r := (basic n).1) (s := .slice none 0 0) HG.out (by rw [hl]; exact HO.out) HA.out (Turned.setCell _ (w.heap.size + 1) 0 _ rfl) (heap_setCell HTT.out _) (World.ownsRow_nil _ _ _ _) (by omega)
      refine ⟨⟨n + 1, .slice p' (n + 1) cap', by simp, by omega, ?_, ?_⟩, by simp [intOf]; omega⟩
      · have e : basicRows (n + 1) = basicRows n ++ [((basic n).1, .slice none 0 0)] := by simp [basicRows, List.range_succ, basic]
        show Tab _ _ _ _ _ _ _
        rw [e]; exact t.1
      · exact HB.out.trans (((Below.refl _ wr).alloc HB.out.size _).trans (H3.out.below t.2))
    · go_wp2
      go_ret
      obtain rfl : n = 11 := by omega
      exact ⟨_, _, _, rfl, HT.out, HB.out⟩
end Go.Proofs.YtdfkkflpcamhjaaGreatDoor
