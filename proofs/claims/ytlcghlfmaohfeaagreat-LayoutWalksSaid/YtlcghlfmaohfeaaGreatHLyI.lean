/-
  The places of members, one behind the other: the closure of Places.
-/
import Derived.Test.YtlcghlfmaohfeaaGreatHLyZ
namespace Go.Proofs.YtlcghlfmaohfeaaGreat
open Go.RowKit Go.Maps
set_option linter.unusedVariables false
set_option maxRecDepth 100000
abbrev TPs : TypeId := 33
theorem infoTPl : (Tryz.prog.info? TPl).map (fun i => (i.zero, i.size, i.bytes)) = some (some (.agg #[.int .i64 0, .int .i64 0, .int .i64 0, .int .i64 0, .int .i64 0]), 5, 40) := by kernel_rfl
def plCells (l : List Pl) : List Value := l.flatMap fun p => (plV p).toList
/-- The list that Places makes: its box lb, its rows from base on. -/
def PlI (base lb : Nat) (l : List Pl) (W : World) : Prop := ∃ s, W.heap[lb]? = some (.cells #[s] TPs (0, 0)) ∧ W.ownsRow base TPl 5 s l.length (plCells l)
section
variable {w : World}
set_option maxHeartbeats 4000000 in
theorem places1_c {base lb : Nat} {l : List Pl} (p : Pl) (h : PlI base lb l w) (hl : l.length ≤ 64) (hbase : base ≤ w.heap.size) (hlb : lb < base) :
    Calls Tryz.prog 32 #[.agg (plV p), .pointer (some ⟨lb, 0, none⟩)] w fun e w' => e = .returned (.tuple #[]) ∧ PlI base lb (l ++ [p]) w' ∧ Turned w w' (fun k => k = lb ∨ (base ≤ k ∧ ∃ cs, w.heap[k]? = some (.cells cs TPl (0, 0)))) := by
  obtain ⟨s, hs1, hs2⟩ := h
  obtain ⟨sp, sc, rfl⟩ := slice_of_own hs2
  obtain ⟨i0, hi, hz0, hz1, hz2⟩ := info_parts infoTPl
  have hb1 := below1 w (.cells #[.int .i64 p.mem, .int .i64 p.type, .int .i64 p.off, .int .i64 p.bit, .int .i64 p.bits] TPl)
  have hb2 := two_boxes w #[.int .i64 p.mem, .int .i64 p.type, .int .i64 p.off, .int .i64 p.bit, .int .i64 p.bits] #[.int .i64 p.mem, .int .i64 p.type, .int .i64 p.off, .int .i64 p.bit, .int .i64 p.bits] TPl TPl
  have L1 := blk_b hs1 hb1
  have L2 : Hid (_ = _) := blk_b hs1 hb2
  have c0 := Lib.cell_of_heap L1 0
  have P1 := heap_r0 w (.cells #[.int .i64 p.mem, .int .i64 p.type, .int .i64 p.off, .int .i64 p.bit, .int .i64 p.bits] TPl)
  have d0 := Lib.cell_of_heap P1 0
  have d1 := Lib.cell_of_heap P1 1
  have d2 := Lib.cell_of_heap P1 2
  have d3 := Lib.cell_of_heap P1 3
  have d4 := Lib.cell_of_heap P1 4
  simp only [List.getElem?_toArray, List.getElem?_cons_succ, List.getElem?_cons_zero] at c0 d0 d1 d2 d3 d4
  have H2 : Hid (((w.alloc (.cells #[.int .i64 p.mem, .int .i64 p.type, .int .i64 p.off, .int .i64 p.bit, .int .i64 p.bits] TPl)).alloc (.cells #[.int .i64 p.mem, .int .i64 p.type, .int .i64 p.off, .int .i64 p.bit, .int .i64 p.bits] TPl)).ownsRow base TPl 5 (.slice sp l.length sc) l.length (plCells l)) := ownsRow_turned hs2 (Turned.of_below hb2 (fun _ => False)) (fun _ _ h => h.elim)
  have HS2 : Hid (w.ownsRow base TPl 5 (.slice sp l.length sc) l.length (plCells l)) := hs2
  have HB2 : Hid (Below w.heap.size w ((w.alloc (.cells #[.int .i64 p.mem, .int .i64 p.type, .int .i64 p.off, .int .i64 p.bit, .int .i64 p.bits] TPl)).alloc (.cells #[.int .i64 p.mem, .int .i64 p.type, .int .i64 p.off, .int .i64 p.bit, .int .i64 p.bits] TPl))) := hb2
  have hz : (w.alloc (.cells #[.int .i64 p.mem, .int .i64 p.type, .int .i64 p.off, .int .i64 p.bit, .int .i64 p.bits] TPl)).heap.size = w.heap.size + 1 := by simp
  clear hs1 hs2 hb1 hb2 L1 P1
  go_enter Tryz.func32, Tryz.ntmps32
  go_wp2_with (at_builtin; go_must (refine wpList_append_own_at _ rfl (.tmp 3) (.tmp 5) 33 rfl base TPl i0 _ 5 40 Tryz.underlying33 hi hz0 hz1 hz2 rfl (by decide) (.slice sp l.length sc) l.length _ rfl H2.out ⟨w.heap.size + 1, 0, none⟩ 1 1 (plV p).toList rfl rfl (by rw [← hz]; exact cells_new _ _ _) (by simp [Value.oneCell']) (by unfold maxLen; omega) (by omega) (Nat.le_trans hbase HB2.out.size) ?_); intro v' w' hown hgrow hnil hat; obtain ⟨p', cap', rfl⟩ := slice_of_own hown; have LB : Hid (w'.heap[lb]? = some (.cells #[.slice sp l.length sc] TPs (0, 0))) := (hgrow.block lb (lt_of_heap L2.out) (fun e => by have := (ownsRow_at H2.out e.symm).1; omega)).trans L2.out; have hc' : w'.cell? ⟨lb, 0, none⟩ = some (.slice sp l.length sc) := (Lib.cell_of_heap LB.out 0).trans rfl; have hf' : w'.frozen? ⟨lb, 0, none⟩ = false := frozen_of LB.out 0; have HO : Hid (w'.ownsRow base TPl 5 (.slice p' (l.length + 1) cap') (l.length + 1) (plCells l ++ (plV p).toList)) := hown; have HG : Hid (Turned w w' (fun k => k = lb ∨ (base ≤ k ∧ ∃ cs, w.heap[k]? = some (.cells cs TPl (0, 0))))) := (Turned.of_below HB2.out _).trans (Turned.of_grown hgrow (fun k e => Or.inr (ownsRow_at HS2.out e))) (fun _ _ e => e); clear hown hgrow hnil hat c0 d0 d1 d2 d3 d4 L2 H2 HS2 HB2 hz)
  go_end0
  refine ⟨rfl, ⟨_, heap_setCell LB.out _, ?_⟩, HG.out.trans (Turned.setCell (S := fun k => k = lb) _ _ _ _ rfl) (fun _ _ e => Or.inl e)⟩
  have e1 : plCells (l ++ [p]) = plCells l ++ (plV p).toList := by simp [plCells]
  rw [e1, List.length_append]
  exact ownsRow_turned HO.out (Turned.setCell (S := fun k => k = lb) _ _ _ _ rfl) (fun k hk e => by have := (ownsRow_at HO.out hk).1; omega)
end
end Go.Proofs.YtlcghlfmaohfeaaGreat
