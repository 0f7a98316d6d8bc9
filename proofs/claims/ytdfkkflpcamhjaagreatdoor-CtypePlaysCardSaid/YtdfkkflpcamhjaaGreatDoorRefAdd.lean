/-
  The given answer's acts: add, Basic, Tagged.
-/
import Derived.Test.YtdfkkflpcamhjaaGreatDoorRefCopy
import Derived.Test.YtdfkkflpcamhjaaGreatDoorRefTag
import Derived.Test.YtdfkkflpcamhjaaGreatDoorTagged
namespace Go.Proofs.YtdfkkflpcamhjaaGreatDoor
open Go.RowKit Go.Maps
set_option linter.unusedVariables false
set_option maxRecDepth 100000

section
variable {B : Nat} {w : World} {b : Nat} {v : Value} {rs : List (Rw × Value)}
theorem RTab.drew (h : RTab B w b v rs) : RTab B w.drew b v rs := h.keptB ⟨rfl, rfl, rfl, Nat.le_refl _, fun _ _ => rfl⟩
theorem RTab.drewN (h : RTab B w b v rs) (q : Nat) : RTab B (w.drewN q) b v rs := h.keptB ⟨rfl, rfl, rfl, Nat.le_refl _, fun _ _ => rfl⟩
theorem RTab.sl (h : RTab B w b v rs) : ∃ (p : Option Addr) (cap : Nat), v = .slice p rs.length cap := slice_of_own h.rows

theorem rAdd_full (h : RTab B w b v rs) (r : Rw) (s : Value) (hl : rs.length = 512) :
    Calls Tryz.prog 50 #[.pointer (some ⟨b, 0, none⟩), .agg (rwCells r s).toArray] w fun e w' => e = .returned (.tuple #[.int .i64 0, .int .i64 32]) ∧ Below w.heap.size w w' := by
  unfold rwCells
  have hc := (h.alloc (.cells #[.int .i64 r.kind, .int .i64 r.elem, .int .i64 r.len, .string r.tag, s, .bool r.done] TR)).c0
  obtain ⟨p, cap, hv⟩ := h.sl
  rw [hv, hl] at hc
  go_enter Tryz.func50, Tryz.ntmps50
  go_wp2
  go_ret2
  exact ⟨rfl, (Below.refl _ _).alloc (Nat.le_refl _) _⟩

set_option maxHeartbeats 1000000 in
theorem rAdd_c (h : RTab B w b v rs) (r : Rw) (s : Value) (hs : w.ownsRow B TM 3 s r.mem.length (memCells r.mem)) (hl : rs.length < 512) :
    Calls Tryz.prog 50 #[.pointer (some ⟨b, 0, none⟩), .agg (rwCells r s).toArray] w fun e w' => e = .returned (.tuple #[.int .i64 rs.length, .int .i64 0]) ∧
      ∃ v', RTab B w' b v' (rs ++ [(r, s)]) ∧ Turned w w' (RTab.rown b v) ∧ (v'.ownBlock = v.ownBlock ∨ ∃ g, v'.ownBlock = some g ∧ w.heap.size ≤ g) := by
  obtain ⟨sp, sc, rfl⟩ := slice_of_own hs
  generalize hsn : r.mem.length = sn at *
  unfold rwCells
  have h2 := h.alloc (.cells #[.int .i64 r.kind, .int .i64 r.elem, .int .i64 r.len, .string r.tag, .slice sp sn sc, .bool r.done] TR)
  have hc := h2.c0
  obtain ⟨i0, hi, hz0, hz1, hz2⟩ := info_parts infoTR
  go_enter Tryz.func50, Tryz.ntmps50
  obtain ⟨p, cap, hv⟩ := h.sl
  rw [hv] at hc
  go_wp2
  have HB : Hid (Below w.heap.size w (w.alloc (.cells #[.int .i64 r.kind, .int .i64 r.elem, .int .i64 r.len, .string r.tag, .slice sp sn sc, .bool r.done] TR))) := (Below.refl _ w).alloc (Nat.le_refl _) _
  have e1 := heap_r0 w (.cells #[.int .i64 r.kind, .int .i64 r.elem, .int .i64 r.len, .string r.tag, .slice sp sn sc, .bool r.done] TR)
  generalize (w.alloc (.cells #[.int .i64 r.kind, .int .i64 r.elem, .int .i64 r.len, .string r.tag, .slice sp sn sc, .bool r.done] TR)) = W at *
  have a0 : W.cell? ⟨w.heap.size, 0, none⟩ = some (.int .i64 r.kind) := by rw [Lib.cell_of_heap e1]; rfl
  have a1 : W.cell? ⟨w.heap.size, 1, none⟩ = some (.int .i64 r.elem) := by rw [Lib.cell_of_heap e1]; rfl
  have a2 : W.cell? ⟨w.heap.size, 2, none⟩ = some (.int .i64 r.len) := by rw [Lib.cell_of_heap e1]; rfl
  have a3 : W.cell? ⟨w.heap.size, 3, none⟩ = some (.string r.tag) := by rw [Lib.cell_of_heap e1]; rfl
  have a4 : W.cell? ⟨w.heap.size, 4, none⟩ = some (.slice sp sn sc) := by rw [Lib.cell_of_heap e1]; rfl
  have a5 : W.cell? ⟨w.heap.size, 5, none⟩ = some (.bool r.done) := by rw [Lib.cell_of_heap e1]; rfl
  clear e1
  have H3 : Hid (RTab B (W.drew.alloc (.cells #[.int .i64 r.kind, .int .i64 r.elem, .int .i64 r.len, .string r.tag, .slice sp sn sc, .bool r.done] TR)) b v rs) := h2.drew.alloc _
  have hc2 : World.cell? { heap := W.drew.heap.push (Obj.cells #[.int .i64 r.kind, .int .i64 r.elem, .int .i64 r.len, .string r.tag, .slice sp sn sc, .bool r.done] TR), tape := W.tape, drawn := W.drawn + 1, os := W.drew.os, output := W.drew.output } ⟨b, 0, none⟩ = some (.slice p rs.length cap) := by rw [← hv]; exact H3.out.c0
  go_region_law (refine step_append_own_at rfl (.tmp 16) (.tmp 18) 22 rfl B TR i0 zeroRow 6 72 Tryz.underlying22 hi hz0 hz1 hz2 rfl (by decide) v rs.length _ hv.symm H3.out.rows ⟨W.heap.size, 0, none⟩ 1 1 _ rfl rfl (cells_new _ _ _) (by simp [Value.oneCell']) (by unfold maxLen; omega) (by omega) (by have := H3.out.lt; exact this) ?_; intro v' w' hown hgrow hnil hat; obtain ⟨p', cap', rfl⟩ := slice_of_own hown; have HT : Hid (w'.heap[b]? = some (.cells #[v] TT (0, 0))) := (hgrow.block b (lt_of_heap H3.out.tab) (fun e => H3.out.v_b e.symm rfl)).trans H3.out.tab; have hc' : w'.cell? ⟨b, 0, none⟩ = some v := (Lib.cell_of_heap HT.out 0).trans rfl; have hf' : w'.frozen? ⟨b, 0, none⟩ = false := frozen_of HT.out 0; have hcc : (w'.setCell ⟨b, 0, none⟩ (.slice p' (rs.length + 1) cap')).cell? ⟨b, 0, none⟩ = some (.slice p' (rs.length + 1) cap') := (by rw [Lib.cell_of_heap (heap_setCell HT.out _) 0]; rfl); have HO : Hid (World.ownsRow _ _ _ _ _ _ _) := hown; have HG : Hid (World.grownBy _ _ _) := hgrow; have HA : Hid (_ ∨ _) := hat; clear hown hgrow hnil hat)
  all_goals go_wp2
  all_goals go_ret2
  all_goals
    subst hv
    have hB2 : Below w.heap.size w (W.drew.alloc (.cells #[.int .i64 r.kind, .int .i64 r.elem, .int .i64 r.len, .string r.tag, .slice sp sn sc, .bool r.done] TR)) :=
      (HB.out.trans (⟨rfl, rfl, rfl, Nat.le_refl _, fun _ _ => rfl⟩ : Below w.heap.size W W.drew)).alloc HB.out.size _
    have t := H3.out.snoc (r := r) (s := .slice sp sn sc) HG.out HO.out HA.out (Turned.setCell _ b 0 _ rfl) (heap_setCell HT.out _) (by rw [hsn]; exact ownsRow_turned hs (Turned.of_below hB2 (fun _ => False)) (fun _ _ hf => hf))
    refine ⟨by simp, _, t.1, (Turned.of_below hB2 _).trans t.2 (fun _ _ h => h), HA.out.imp id (fun e => ⟨_, e, hB2.size⟩)⟩

theorem rBasic_c (k : Int) (hk : wf64 k) (a : Value) :
    Calls Tryz.prog 17 #[a, .int .i64 k] w fun e w' => e = .returned (.tuple (if 1 ≤ k ∧ k ≤ 11 then #[.int .i64 (k - 1), .int .i64 0] else #[.int .i64 0, .int .i64 30])) ∧ w' = w := by
  by_cases hk1 : k < 1
  · rw [if_neg (by omega)]
    go_enter Tryz.func17, Tryz.ntmps17
    go_wp2
    go_ret2
    exact ⟨rfl, rfl⟩
  by_cases hk2 : 11 < k
  · rw [if_neg (by omega)]
    go_enter Tryz.func17, Tryz.ntmps17
    go_wp2
    go_ret2
    exact ⟨rfl, rfl⟩
  · have hk3 : 1 ≤ k := by omega
    have hk4 : k ≤ 11 := by omega
    rw [if_pos ⟨hk3, hk4⟩]
    go_enter Tryz.func17, Tryz.ntmps17
    go_wp2
    go_ret2
    exact ⟨rfl, rfl⟩

theorem rTagged_bad (k : Int) (s : ByteArray) (hs : s.size ≤ 9223372036854775807) (ht : tagP s.data.toList = false) (a : Value) :
    Calls Tryz.prog 19 #[a, .int .i64 k, .string s] w fun e w' => e = .returned (.tuple #[.int .i64 0, .int .i64 31]) ∧ w' = w := by
  have c2 := refTag_c s w hs
  rw [ht] at c2
  have h1 := not_t
  have h2 := not_f
  go_enter Tryz.func19, Tryz.ntmps19
  go_wp2_with (go_at_call 40; refine c2.mono ?_; rintro e w' ⟨rfl, rfl⟩)
  go_ret2
  exact ⟨rfl, rfl⟩
theorem rTagged_of {R : Ending → World → Prop} (k : Int) (s : ByteArray) (hs : s.size ≤ 9223372036854775807) (ht : tagP s.data.toList = true) {x y : Int}
    (c3 : Calls Tryz.prog 50 #[.pointer (some ⟨b, 0, none⟩), .agg (rwCells ⟨k, 0, 0, s, [], false⟩ (.slice none 0 0)).toArray] w fun e w' => e = .returned (.tuple #[.int .i64 x, .int .i64 y]) ∧ R e w') :
    Calls Tryz.prog 19 #[.pointer (some ⟨b, 0, none⟩), .int .i64 k, .string s] w fun e w' => e = .returned (.tuple #[.int .i64 x, .int .i64 y]) ∧ R e w' := by
  have c2 := refTag_c s w hs
  rw [ht] at c2
  have h1 := not_t
  have hb := build_tag
  simp only [rwCells] at c3
  go_enter Tryz.func19, Tryz.ntmps19
  go_wp2_with (first | (go_at_call 40; refine c2.mono ?_; rintro e w' ⟨rfl, rfl⟩) | (go_at_call 50; refine c3.mono ?_; rintro e w' ⟨rfl, hR⟩))
  go_ret2
  exact ⟨rfl, hR⟩
end
end Go.Proofs.YtdfkkflpcamhjaaGreatDoor
