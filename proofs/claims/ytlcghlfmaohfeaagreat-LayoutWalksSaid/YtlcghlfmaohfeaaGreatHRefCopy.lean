/-
  The given answer's Copy.
  The given answer's Row and Copy: rows of their own memory.
-/
import Derived.Test.YtlcghlfmaohfeaaGreatHCopyRows
import Derived.Deep.RegionLaw
namespace Go.Proofs.YtlcghlfmaohfeaaGreat
open Go.RowKit Go.Maps
set_option linter.unusedVariables false
set_option maxRecDepth 100000

/-- Members that came in: a slice without any may lie anywhere. -/
def MemIn (w : World) (s : Value) (l : List Mb) : Prop := MemSl w s l ∨ ∃ a c, s = .slice (some a) 0 c ∧ l = []
theorem MemIn.below {w w' : World} {v : Value} {l : List Mb} (h : MemIn w v l) (hb : Below w.heap.size w w') : MemIn w' v l := h.imp (fun h => h.below hb) id
theorem MemIn.sl {w : World} {v : Value} {l : List Mb} (h : MemIn w v l) : ∃ p n c, v = .slice p n c := by
  rcases h with h | ⟨a, c, rfl, _⟩
  · exact h.sl
  · exact ⟨_, _, _, rfl⟩
theorem MemIn.read {w : World} {v : Value} {l : List Mb} (h : MemIn w v l) : (v = .slice none 0 0 ∧ l = []) ∨ ∃ ad c, v = .slice (some ad) l.length c ∧ ∀ w', Below w.heap.size w w' → ∀ j u, (memCells l)[j]? = some u → w'.cell? (ad.add j) = some u := by
  rcases h with (h | ⟨g, o, cap, h1, h2, h3, h4⟩) | ⟨a, c, rfl, rfl⟩
  · exact Or.inl h
  · exact Or.inr ⟨⟨g, o, none⟩, cap, h1, fun w' hb => MemSl.cells (x := .bool true) (cap := 0) (fun i m hm j hj => (hb.cell (p := ⟨g, o + i * 3 + j, none⟩) h3).trans (h4 i m hm j hj))⟩
  · exact Or.inr ⟨a, c, rfl, fun w' _ j u hj => by simp [memCells] at hj⟩
/-- Rows that came in. -/
def RowIn (w : World) (v : Value) (rs : List (Rw × Value)) : Prop :=
  ((v = .slice none 0 0 ∧ rs = []) ∨ (∃ a c, v = .slice (some a) 0 c ∧ rs = []) ∨ ∃ g o cap, v = .slice (some ⟨g, o, none⟩) rs.length cap ∧ rs.length ≤ cap ∧ g < w.heap.size ∧ ∀ i p, rs[i]? = some p → ∀ j, j < 6 → w.cell? ⟨g, o + i * 6 + j, none⟩ = (rwCells p.1 p.2)[j]?) ∧
  ∀ p ∈ rs, MemIn w p.2 p.1.mem
theorem RowIn.below {w w' : World} {v : Value} {rs : List (Rw × Value)} (h : RowIn w v rs) (hb : Below w.heap.size w w') : RowIn w' v rs := by
  refine ⟨?_, fun p hp => (h.2 p hp).below hb⟩
  rcases h.1 with h | h | ⟨g, o, cap, h1, h2, h3, h4⟩
  · exact Or.inl h
  · exact Or.inr (Or.inl h)
  · exact Or.inr (Or.inr ⟨g, o, cap, h1, h2, Nat.lt_of_lt_of_le h3 hb.size, fun i m hm j hj => by rw [hb.cell (p := ⟨g, o + i * 6 + j, none⟩) h3]; exact h4 i m hm j hj⟩)
theorem RowIn.of_sl {w : World} {v : Value} {rs : List (Rw × Value)} (h : RowSl w v rs) : RowIn w v rs := ⟨h.1.imp id Or.inr, fun p hp => Or.inl (h.2 p hp)⟩

section
variable {w : World}
set_option maxHeartbeats 2000000 in
theorem refRow_c {r : Rw} {s : Value} (hs : MemIn w s r.mem) (hn : r.mem.length * 32 ≤ 140737488355328) :
    Calls Tryz.prog 48 #[.agg (rwCells r s).toArray] w fun e w' => ∃ s', e = .returned (.agg (rwCells r s').toArray) ∧ w'.ownsRow w.heap.size TM 3 s' r.mem.length (memCells r.mem) ∧ Below w.heap.size w w' := by
  obtain ⟨kd, el, ln, tg, mm, dn⟩ := r
  obtain ⟨i0, hi, hz0, hz1, hz2⟩ := info_parts infoTM
  simp only [rwCells] at *
  have HB : Hid (Below w.heap.size w ((w.alloc (.cells #[.int .i64 kd, .int .i64 el, .int .i64 ln, .string tg, s, .bool dn] TR)).alloc (.cells #[.int .i64 0, .int .i64 0, .int .i64 0, .string ⟨#[]⟩, .slice none 0 0, .bool false] TR))) := ((Below.refl _ w).alloc (Nat.le_refl _) _).alloc (by simp) _
  have e1 := heap_s1 w (.cells #[.int .i64 kd, .int .i64 el, .int .i64 ln, .string tg, s, .bool dn] TR) (.cells #[.int .i64 0, .int .i64 0, .int .i64 0, .string ⟨#[]⟩, .slice none 0 0, .bool false] TR)
  have e2 : Hid (_ = _) := heap_s2 w (.cells #[.int .i64 kd, .int .i64 el, .int .i64 ln, .string tg, s, .bool dn] TR) (.cells #[.int .i64 0, .int .i64 0, .int .i64 0, .string ⟨#[]⟩, .slice none 0 0, .bool false] TR)
  have hsz : w.heap.size + 1 < ((w.alloc (.cells #[.int .i64 kd, .int .i64 el, .int .i64 ln, .string tg, s, .bool dn] TR)).alloc (.cells #[.int .i64 0, .int .i64 0, .int .i64 0, .string ⟨#[]⟩, .slice none 0 0, .bool false] TR)).heap.size := lt_of_heap e2.out
  go_enter Tryz.func48, Tryz.ntmps48
  go_upto_region 2 with (fail)
  refine (?_ : Code.wp _ _ _ _ ((w.alloc (.cells #[.int .i64 kd, .int .i64 el, .int .i64 ln, .string tg, s, .bool dn] TR)).alloc (.cells #[.int .i64 0, .int .i64 0, .int .i64 0, .string ⟨#[]⟩, .slice none 0 0, .bool false] TR)))
  generalize (w.alloc (.cells #[.int .i64 kd, .int .i64 el, .int .i64 ln, .string tg, s, .bool dn] TR)).alloc (.cells #[.int .i64 0, .int .i64 0, .int .i64 0, .string ⟨#[]⟩, .slice none 0 0, .bool false] TR) = W at *
  have a4 : W.cell? ⟨w.heap.size, 4, none⟩ = some s := by rw [Lib.cell_of_heap e1]; rfl
  have E1 : Hid (_ = _) := e1
  clear e1
  have rest : Hid (∀ w1 sp sc, w1.ownsRow W.heap.size TM 3 (.slice sp mm.length sc) mm.length (memCells mm) → Below W.heap.size W w1 →
      (∃ s', (.returned (.agg #[.int .i64 kd, .int .i64 el, .int .i64 ln, .string tg, .slice sp mm.length sc, .bool dn]) : Ending) = .returned (.agg #[.int .i64 kd, .int .i64 el, .int .i64 ln, .string tg, s', .bool dn]) ∧
        World.ownsRow ((w1.setCell ⟨w.heap.size, 4, none⟩ (.slice sp mm.length sc)).setRow (w.heap.size + 1) #[.int .i64 kd, .int .i64 el, .int .i64 ln, .string tg, .slice sp mm.length sc, .bool dn]) w.heap.size TM 3 s' mm.length (memCells mm) ∧
        Below w.heap.size w ((w1.setCell ⟨w.heap.size, 4, none⟩ (.slice sp mm.length sc)).setRow (w.heap.size + 1) #[.int .i64 kd, .int .i64 el, .int .i64 ln, .string tg, .slice sp mm.length sc, .bool dn])) ∧
      w1.heap[w.heap.size]? = some (.cells #[.int .i64 kd, .int .i64 el, .int .i64 ln, .string tg, s, .bool dn] TR (0, 0)) ∧
      (w1.setCell ⟨w.heap.size, 4, none⟩ (.slice sp mm.length sc)).heap[w.heap.size + 1]? = some (.cells #[.int .i64 0, .int .i64 0, .int .i64 0, .string ⟨#[]⟩, .slice none 0 0, .bool false] TR (0, 0)) ∧
      (w1.setCell ⟨w.heap.size, 4, none⟩ (.slice sp mm.length sc)).heap[w.heap.size]? = some (.cells #[.int .i64 kd, .int .i64 el, .int .i64 ln, .string tg, .slice sp mm.length sc, .bool dn] TR (0, 0))) := by
    intro w1 sp sc hown hb
    have f1 := (hb.block w.heap.size (by omega)).trans E1.out
    have f2 := (hb.block (w.heap.size + 1) (by omega)).trans e2.out
    refine ⟨⟨_, rfl, ?_, ?_⟩, f1, (heap_setCell_other w1 ⟨w.heap.size, 4, none⟩ (w.heap.size + 1) _ (by show w.heap.size + 1 ≠ w.heap.size; omega)).trans f2, heap_setCell (j := 4) f1 _⟩
    · have t : Turned w1 _ (fun k => k = w.heap.size ∨ k = w.heap.size + 1) := (Turned.setCell (S := fun k => k = w.heap.size ∨ k = w.heap.size + 1) w1 w.heap.size 4 (.slice sp mm.length sc) (Or.inl rfl)).trans (Turned.setRow (S := fun k => k = w.heap.size ∨ k = w.heap.size + 1) _ (w.heap.size + 1) #[.int .i64 kd, .int .i64 el, .int .i64 ln, .string tg, .slice sp mm.length sc, .bool dn] (Or.inr rfl)) (fun _ _ x => x)
      exact ownsRow_base (ownsRow_turned hown t (fun k hk e => by have := (ownsRow_at hown hk).1; omega)) HB.out.size
    · have hb2 := HB.out.trans (hb.mono HB.out.size)
      refine below_setRow ?_ (by omega) _
      exact ⟨hb2.os, hb2.tape, hb2.output, by simpa using hb2.size, fun k hk => (heap_setCell_other w1 _ k _ (by show k ≠ w.heap.size; omega)).trans (hb2.block k hk)⟩
  rcases hs.read with ⟨rfl, rfl⟩ | ⟨ad, cap, rfl, hcell⟩
  · obtain ⟨R1, f1, g2, g1⟩ := rest.out W none 0 (World.ownsRow_nil _ _ _ _) (Below.refl _ _)
    have RR : Hid _ := R1
    have G2 : Hid (_ = _) := g2
    have fr4 : W.frozen? ⟨w.heap.size, 4, none⟩ = false := frozen_of f1 4
    have c0 := Lib.cell_of_heap g1 0
    have c1 := Lib.cell_of_heap g1 1
    have c2 := Lib.cell_of_heap g1 2
    have c3 := Lib.cell_of_heap g1 3
    have c4 := Lib.cell_of_heap g1 4
    have c5 := Lib.cell_of_heap g1 5
    simp only [List.getElem?_toArray, List.getElem?_cons_zero, List.getElem?_cons_succ, List.length_nil] at c0 c1 c2 c3 c4 c5
    clear R1 g2 g1 f1 rest
    simp only [List.length_nil] at RR G2
    go_wp2_with ((with_reducible apply step_store G2.out); rfl; rfl; kernel_rfl; rfl; kernel_rfl)
    refine ret_row1 (p := 2) (g := w.heap.size + 1) rfl rfl (setRow_heap _ _ _ #[.int .i64 kd, .int .i64 el, .int .i64 ln, .string tg, .slice none 0 0, .bool dn] _ _ G2.out) rfl ?_
    exact RR.out
  · have hcs := hcell W HB.out
    clear hcell hs
    go_wp2_with (first
      | (at_builtin; go_must (refine wpList_append_own_at _ rfl (.tmp 4) (.tmp 6) 73 rfl W.heap.size TM i0 _ 3 32 Tryz.underlying73 hi hz0 hz1 hz2 rfl (by decide) (.slice none 0 0) 0 [] rfl (World.ownsRow_nil _ _ _ _) ad mm.length cap (memCells mm) rfl (memCells_length mm) hcs (mem_one mm) (by unfold maxLen; omega) (by omega) (Nat.le_refl _) ?_); intro s w1 hown hgrow hnil hat; rw [Nat.zero_add, List.nil_append] at hown; obtain ⟨sp, sc, rfl⟩ := slice_of_own hown; obtain ⟨R1, f1, g2, g1⟩ := rest.out w1 sp sc hown ⟨hgrow.os, hgrow.tape, hgrow.output, hgrow.size, fun k hk => hgrow.block k hk (by simp [Value.ownBlock])⟩; have RR : Hid _ := R1; have G2 : Hid (_ = _) := g2; have b4 := Lib.cell_of_heap f1 4; have fr4 : w1.frozen? ⟨w.heap.size, 4, none⟩ = false := frozen_of f1 4; have c0 := Lib.cell_of_heap g1 0; have c1 := Lib.cell_of_heap g1 1; have c2 := Lib.cell_of_heap g1 2; have c3 := Lib.cell_of_heap g1 3; have c4 := Lib.cell_of_heap g1 4; have c5 := Lib.cell_of_heap g1 5; simp only [List.getElem?_toArray, List.getElem?_cons_zero, List.getElem?_cons_succ] at b4 c0 c1 c2 c3 c4 c5; clear R1 g2 g1 f1 rest hown hgrow hnil hat hcs)
      | ((with_reducible apply step_store G2.out); rfl; rfl; kernel_rfl; rfl; kernel_rfl))
    refine ret_row1 (p := 2) (g := w.heap.size + 1) rfl rfl (setRow_heap _ _ _ _ _ _ G2.out) rfl ?_
    exact RR.out
end
end Go.Proofs.YtlcghlfmaohfeaaGreat
namespace Go.Proofs.YtlcghlfmaohfeaaGreat
open Go.RowKit Go.Maps
set_option linter.unusedVariables false
set_option maxRecDepth 100000

abbrev TT : TypeId := 66
/-- The given answer's table in memory, of its own from B on. -/
structure RTab (B : Nat) (w : World) (b : Nat) (v : Value) (rs : List (Rw × Value)) : Prop where
  bB : B ≤ b
  tab : w.heap[b]? = some (.cells #[v] TT (0, 0))
  rows : w.ownsRow B TR 6 v rs.length (allCells rs)
  mems : ∀ p ∈ rs, w.ownsRow B TM 3 p.2 p.1.mem.length (memCells p.1.mem)

/-- A call of a Go function by its contract, as one step of a region that draws its order. -/
theorem step_call_fn {P : Program} {ops : Array Oper} {o : Oper} {a : Act} {w : World} {K : Act → World → Prop} {Q : Exit → Act → World → Prop} {E : Prop} (hg : o.guard = none) (f : FuncId) (args : Array Value)
    (hrun : (execOp a.eval o).run P w = .ok (.enter f args) w) {R : Ending → World → Prop} (hc : Calls P f args w R)
    (h : ∀ e w', R e w' → ∃ v, e = .returned v ∧ K (a.put o.dst v) w') : if Region.wanted o (yielded ops a.tmps) = true then Oper.wp P o a w K Q else E := by
  have hw : Region.wanted o (yielded ops a.tmps) = true := by simp [Region.wanted, hg]
  rw [if_pos hw]
  unfold Oper.wp
  rw [hrun, Oper.upon_enter]
  refine hc.mono fun e w'' hh => ?_
  obtain ⟨v, rfl, hk⟩ := h e w'' hh
  exact hk

namespace RTab
variable {B : Nat} {w w' : World} {b : Nat} {v : Value} {rs : List (Rw × Value)}
def rown (b : Nat) (v : Value) (k : Nat) : Prop := k = b ∨ v.ownBlock = some k
theorem c0 (h : RTab B w b v rs) : w.cell? ⟨b, 0, none⟩ = some v := by rw [Lib.cell_of_heap h.tab]; rfl
theorem lt (h : RTab B w b v rs) : B ≤ w.heap.size := Nat.le_trans h.bB (Nat.le_of_lt (lt_of_heap h.tab))
theorem rowSl (h : RTab B w b v rs) : RowSl w v rs := RowSl.of_own h.rows h.mems
theorem kept (h : RTab B w b v rs) {S : Nat → Prop} (ht : Turned w w' S) (h1 : ∀ k, rown b v k → ¬ S k) (h2 : ∀ p ∈ rs, ∀ k, p.2.ownBlock = some k → ¬ S k) : RTab B w' b v rs := by
  refine ⟨h.bB, ?_, ownsRow_turned h.rows ht (fun k hk => h1 k (Or.inr hk)), fun p hp => ownsRow_turned (h.mems p hp) ht (h2 p hp)⟩
  rw [ht.block b (lt_of_heap h.tab) (h1 b (Or.inl rfl))]; exact h.tab
theorem keptB (h : RTab B w b v rs) (ht : Below w.heap.size w w') : RTab B w' b v rs := h.kept (Turned.of_below ht (fun _ => False)) (fun _ _ hf => hf) (fun _ _ _ _ hf => hf)
theorem alloc (h : RTab B w b v rs) (o : Obj) : RTab B (w.alloc o) b v rs := h.keptB ((Below.refl _ w).alloc (Nat.le_refl _) o)
theorem v_b (h : RTab B w b v rs) {g : Nat} (hg : v.ownBlock = some g) : g ≠ b := by
  obtain ⟨_, cur, hc⟩ := ownsRow_at h.rows hg
  rintro rfl; have := h.tab; rw [hc] at this; injection this with h1; injection h1 with _ h2; exact absurd h2 (by decide)
theorem m_own (h : RTab B w b v rs) {s : Value} {l : List Mb} (hs : w.ownsRow B TM 3 s l.length (memCells l)) {g : Nat} (hg : s.ownBlock = some g) : ¬ rown b v g := by
  obtain ⟨_, cur, hc⟩ := ownsRow_at hs hg
  rintro (rfl | hv)
  · have := h.tab; rw [hc] at this; injection this with h1; injection h1 with _ h2; exact absurd h2 (by decide)
  · obtain ⟨_, cur', hc'⟩ := ownsRow_at h.rows hv
    rw [hc] at hc'; injection hc' with h1; injection h1 with _ h2; exact absurd h2 (by decide)
theorem below (h : RTab B w b v rs) (ht : Turned w w' (rown b v)) : Below B w w' := by
  refine ⟨ht.os, ht.tape, ht.output, ht.size, fun k hk => ht.block k (Nat.lt_of_lt_of_le hk h.lt) ?_⟩
  rintro (rfl | hv)
  · exact absurd h.bB (by omega)
  · exact absurd (ownsRow_at h.rows hv).1 (by omega)
/-- A new row at the end: what append and the store of the slice leave. -/
theorem snoc {w1 w2 : World} {v' s : Value} {r : Rw} (h : RTab B w b v rs) (hg : w.grownBy w1 v.ownBlock)
    (hr : w1.ownsRow B TR 6 v' (rs.length + 1) (allCells rs ++ rwCells r s)) (hat : v'.ownBlock = v.ownBlock ∨ v'.ownBlock = some w.heap.size)
    (h2 : Turned w1 w2 (fun k => k = b)) (hb2 : w2.heap[b]? = some (.cells #[v'] TT (0, 0)))
    (hs : w.ownsRow B TM 3 s r.mem.length (memCells r.mem)) : RTab B w2 b v' (rs ++ [(r, s)]) ∧ Turned w w2 (rown b v) := by
  have t1 : Turned w w1 (rown b v) := Turned.of_grown hg (fun k hk => Or.inr hk)
  have t2 : Turned w w2 (rown b v) := t1.trans h2 (fun i _ hi => Or.inl hi)
  have hv'b : ∀ k, v'.ownBlock = some k → k ≠ b := by
    intro k hk
    rcases hat with e | e
    · exact h.v_b (e ▸ hk)
    · rw [e] at hk; cases hk; exact Nat.ne_of_gt (lt_of_heap h.tab)
  refine ⟨⟨h.bB, hb2, ?_, ?_⟩, t2⟩
  · have := ownsRow_turned hr h2 hv'b
    simpa [allCells] using this
  · intro p hp
    rw [List.mem_append, List.mem_singleton] at hp
    rcases hp with hp | rfl
    · exact ownsRow_turned (h.mems p hp) t2 (fun k hk => h.m_own (h.mems p hp) hk)
    · exact ownsRow_turned hs t2 (fun k hk => h.m_own hs hk)
end RTab

section
variable {w : World}
set_option maxHeartbeats 2000000 in
theorem refCopy_c {b0 : Nat} {v : Value} {rs : List (Rw × Value)} (hc : w.cell? ⟨b0, 0, none⟩ = some v) (h : RowIn w v rs) (hl : rs.length * 72 ≤ 140737488355328) (hn : ∀ p ∈ rs, p.1.mem.length * 32 ≤ 140737488355328) :
    Calls Tryz.prog 24 #[.pointer (some ⟨b0, 0, none⟩)] w fun e w' => ∃ b v' rs', e = .returned (.pointer (some ⟨b, 0, none⟩)) ∧ rs'.map (·.1) = rs.map (·.1) ∧ RTab w.heap.size w' b v' rs' ∧ Below w.heap.size w w' := by
  have hbt : ∀ (W : World), (Instr.build TT #[]).run Tryz.prog W = .ok (.agg #[.slice none 0 0]) W := fun W => by kernel_rfl
  obtain ⟨i0, hi, hz0, hz1, hz2⟩ := info_parts infoTR
  have R0 : Hid (RTab w.heap.size (w.alloc (.cells #[.slice none 0 0] TT)) w.heap.size (.slice none 0 0) []) := ⟨Nat.le_refl _, heap_r0 w _, World.ownsRow_nil _ _ _ _, fun p hp => by cases hp⟩
  have B0 : Hid (Below w.heap.size w (w.alloc (.cells #[.slice none 0 0] TT))) := (Below.refl _ w).alloc (Nat.le_refl _) _
  have hb0 : b0 < w.heap.size := World.block_lt_of_cell? w _ hc
  obtain ⟨k1, m1⟩ := h
  rcases k1 with ⟨rfl, rfl⟩ | ⟨a1, c1, rfl, rfl⟩ | ⟨g1, o1, cap1, rfl, hc1, hg1, q1⟩
  · have hc2 : (w.alloc (.cells #[.slice none 0 0] TT)).cell? ⟨b0, 0, none⟩ = some (.slice none 0 0) := (B0.out.cell (p := ⟨b0, 0, none⟩) hb0).trans hc
    go_enter Tryz.func24, Tryz.ntmps24
    go_wp2
    refine wp_loop_rounds 1 ?_
    rw [rounds_succ]
    go_wp2
    go_ret
    exact ⟨_, _, [], rfl, rfl, R0.out, B0.out⟩
  · have hc2 : (w.alloc (.cells #[.slice none 0 0] TT)).cell? ⟨b0, 0, none⟩ = some (.slice (some a1) 0 c1) := (B0.out.cell (p := ⟨b0, 0, none⟩) hb0).trans hc
    go_enter Tryz.func24, Tryz.ntmps24
    go_wp2
    refine wp_loop_rounds 1 ?_
    rw [rounds_succ]
    go_wp2
    go_ret
    exact ⟨_, _, [], rfl, rfl, R0.out, B0.out⟩
  · go_enter Tryz.func24, Tryz.ntmps24
    go_wp2
    go_loopw [4] (fun i wr => ∃ k : Nat, i = .int .i64 k ∧ k ≤ rs.length ∧ Hid (∃ (v' : Value) (ds : List (Rw × Value)), ds.map (·.1) = (rs.take k).map (·.1) ∧ RTab w.heap.size wr w.heap.size v' ds) ∧ Hid (Below w.heap.size w wr)) (fun i _ => rs.length - (intOf i).toNat)
    case atStart => exact ⟨0, rfl, Nat.zero_le _, ⟨_, [], by simp, R0.out⟩, B0⟩
    case round =>
      obtain ⟨k, rfl, hk, HC, HB⟩ := hrel
      have hcw : wr.cell? ⟨b0, 0, none⟩ = some (.slice (some ⟨g1, o1, none⟩) rs.length cap1) := (HB.out.cell (p := ⟨b0, 0, none⟩) hb0).trans hc
      by_cases hlt : k < rs.length
      · obtain ⟨p, hp⟩ : ∃ p, rs[k]? = some p := ⟨_, List.getElem?_eq_getElem hlt⟩
        obtain ⟨v', ds, hds, hR⟩ := HC.out
        have hdl : ds.length = k := by
          have := congrArg List.length hds
          simp at this; omega
        have x1 := fun j hj => (HB.out.cell (p := ⟨g1, o1 + k * 6 + j, none⟩) hg1).trans (q1 k p hp j hj)
        have c0 := x1 0 (by omega)
        have c1 := x1 1 (by omega)
        have c2 := x1 2 (by omega)
        have c3 := x1 3 (by omega)
        have c4 := x1 4 (by omega)
        have c5 := x1 5 (by omega)
        simp only [rwCells, Nat.add_zero, List.getElem?_cons_zero, List.getElem?_cons_succ] at c0 c1 c2 c3 c4 c5
        have hmp := (m1 p (List.mem_of_getElem? hp)).below HB.out
        have hnp := hn p (List.mem_of_getElem? hp)
        have cR := fun X (hX : Below wr.heap.size wr X) => refRow_c (w := X) (r := p.1) (s := p.2) (hmp.below hX) hnp
        obtain ⟨⟨kd, el, ln, tg, mm, dn⟩, s0⟩ := p
        obtain ⟨sp0, sn0, sc0, rfl⟩ := hmp.sl
        have HT : Hid ((ds ++ [((⟨kd, el, ln, tg, mm, dn⟩ : Rw), (.bool true : Value))]).map (·.1) = (rs.take (k + 1)).map (·.1)) := by
          show _ = _
          rw [List.take_add_one, hp]; simp [hds]
        simp only [rwCells] at *
        have HR : Hid (RTab _ _ _ _ _) := hR
        have hv := hR.c0
        obtain ⟨vp, vc, rfl⟩ := slice_of_own hR.rows
        have HDL : Hid (ds.length = k) := hdl
        rw [hdl] at hv HR
        clear hdl
        clear x1 q1 m1 hn hp hR HC
        go_wp2
        have hcw2 : wr.drew.cell? ⟨b0, 0, none⟩ = some (.slice (some ⟨g1, o1, none⟩) rs.length cap1) := hcw
        go_region_law (first
          | (refine step_call_fn rfl 48 #[.agg #[.int .i64 kd, .int .i64 el, .int .i64 ln, .string tg, .slice sp0 sn0 sc0, .bool dn]] (by kernel_rfl) (cR _ (below_drew _ wr)) ?_; rintro e w2 ⟨s', rfl, hown, hb2⟩; obtain ⟨sp, sc, rfl⟩ := slice_of_own hown; have HB2 : Hid (Below wr.heap.size wr w2) := (below_drew _ wr).trans hb2; have H2 : Hid (RTab w.heap.size w2 w.heap.size (.slice vp k vc) ds) := HR.out.keptB HB2.out; have H3 : Hid (RTab w.heap.size (w2.alloc (.cells #[.int .i64 kd, .int .i64 el, .int .i64 ln, .string tg, .slice sp mm.length sc, .bool dn] TR)) w.heap.size (.slice vp k vc) ds) := H2.out.alloc _; have hc2 : w2.cell? ⟨w.heap.size, 0, none⟩ = some (.slice vp k vc) := H2.out.c0; have hc3 : (w2.alloc (.cells #[.int .i64 kd, .int .i64 el, .int .i64 ln, .string tg, .slice sp mm.length sc, .bool dn] TR)).cell? ⟨w.heap.size, 0, none⟩ = some (.slice vp k vc) := H3.out.c0; have HOW : Hid (World.ownsRow _ _ _ _ _ _ _) := hown; have HRR : Hid (World.ownsRow (w2.alloc (.cells #[.int .i64 kd, .int .i64 el, .int .i64 ln, .string tg, .slice sp mm.length sc, .bool dn] TR)) w.heap.size TR 6 (.slice vp k vc) k (allCells ds)) := (show World.ownsRow _ _ _ _ _ _ _ by have := H3.out.rows; rw [HDL.out] at this; exact this); clear hown hb2; refine ⟨_, rfl, ?_⟩)
          | (refine step_append_own_at rfl (.tmp 20) (.tmp 29) 22 rfl w.heap.size TR i0 zeroRow 6 72 Tryz.underlying22 hi hz0 hz1 hz2 rfl (by decide) _ k _ rfl HRR.out ⟨w2.heap.size, 0, none⟩ 1 1 _ rfl rfl (cells_new _ _ _) (by simp [Value.oneCell']) (by unfold maxLen; omega) (by omega) (by have := H3.out.lt; exact this) ?_; intro v' w3 hown hgrow hnil hat; obtain ⟨p', cap', rfl⟩ := slice_of_own hown; have HT3 : Hid (w3.heap[w.heap.size]? = some (.cells #[.slice vp k vc] TT (0, 0))) := (hgrow.block _ (lt_of_heap H3.out.tab) (fun e => H3.out.v_b e.symm rfl)).trans H3.out.tab; have hc' : w3.cell? ⟨w.heap.size, 0, none⟩ = some (.slice vp k vc) := (Lib.cell_of_heap HT3.out 0).trans rfl; have hf' : w3.frozen? ⟨w.heap.size, 0, none⟩ = false := frozen_of HT3.out 0; have HO : Hid (World.ownsRow _ _ _ _ _ _ _) := hown; have HG : Hid (World.grownBy _ _ _) := hgrow; have HA : Hid (_ ∨ _) := hat; clear hown hgrow hnil hat))
        all_goals go_wp2
        all_goals
          have t := H3.out.snoc (r := ⟨kd, el, ln, tg, mm, dn⟩) (s := .slice sp mm.length sc) HG.out (by rw [HDL.out]; exact HO.out) HA.out (Turned.setCell _ w.heap.size 0 _ rfl) (heap_setCell HT3.out _) (by
            refine ownsRow_base (ownsRow_turned HOW.out (Turned.alloc _ _ (fun _ => False)) (fun _ _ hf => hf)) ?_
            exact Nat.le_trans HB.out.size (Nat.le_refl _))
          refine ⟨⟨k + 1, by go_num, by omega, ⟨_, _, ?_, t.1⟩, ?_⟩, by simp [intOf]; omega⟩
        all_goals first
          | (simpa using HT.out)
          | (exact (HB.out.trans (HB2.out.mono HB.out.size)).trans (((Below.refl _ w2).alloc (Nat.le_trans HB.out.size HB2.out.size) _).trans (H3.out.below t.2)))
      · go_wp2
        go_ret
        obtain ⟨v', ds, hds, hR⟩ := HC.out
        obtain rfl : k = rs.length := by omega
        exact ⟨_, rfl, _, ds, by simpa using hds, hR, HB.out⟩
end
end Go.Proofs.YtlcghlfmaohfeaaGreat
