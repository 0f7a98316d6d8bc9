/-
  The given answer's Equal and Same, at rows that are the same.
-/
import Derived.Test.YtlcghlfmaohfeaaGreatHIsnamed
import Derived.Deep.CutRange
import Derived.Deep.RegionWith
import Derived.Laws.StructEq
namespace Go.Proofs.YtlcghlfmaohfeaaGreat
open Go.RowKit Go.Maps
set_option linter.unusedVariables false
set_option maxRecDepth 100000

theorem heap_s1 (w : World) (A B : Obj) : ((w.alloc A).alloc B).heap[w.heap.size]? = some A := by
  show ((w.heap.push A).push B)[w.heap.size]? = some A
  simp [Array.getElem?_push]
theorem heap_s2 (w : World) (A B : Obj) : ((w.alloc A).alloc B).heap[w.heap.size + 1]? = some B := by
  show ((w.heap.push A).push B)[w.heap.size + 1]? = some B
  rw [Array.getElem?_push, if_pos (by simp)]

theorem neq_same (a : ByteArray) (t n : Int) (X : World) : (binOp BinOp.neq TM (.agg #[.string a, .int .i64 t, .int .i64 n]) (.agg #[.string a, .int .i64 t, .int .i64 n])).run Tryz.prog X = .ok (.bool false) X := by
  have u3 := Tryz.underlying3
  have a3 := Tryz.isAgg3
  have z3 := Tryz.sizeOf3
  have u9 := Tryz.underlying9
  have a9 := Tryz.isAgg9
  have z9 := Tryz.sizeOf9
  have hS : Tryz.prog.underlying TM = some (.struct (Tryz.prog.fieldsOf TM)) := by kernel_rfl
  have hp : Tryz.prog.stoodInHeld TM = false := by kernel_rfl
  rw [run_neq_struct, show (10000 : Nat) = 9999 + 1 from rfl, run_equalIn_agg X 9999 TM _ _ hS hp]
  simp only [Program.fieldsOf, Tryz.underlying72]
  go_simp
section
variable {w : World}
set_option maxHeartbeats 2000000 in
theorem equal_c {r : Rw} {s1 s2 : Value} (h1 : MemSl w s1 r.mem) (h2 : MemSl w s2 r.mem) (hn : r.mem.length ≤ 9223372036854775807) :
    Calls Tryz.prog 69 #[.agg (rwCells r s1).toArray, .agg (rwCells r s2).toArray] w fun e w' => e = .returned (.bool true) ∧ Below w.heap.size w w' := by
  obtain ⟨kd, el, ln, tg, mm, dn⟩ := r
  simp only [rwCells] at *
  go_enter Tryz.func69, Tryz.ntmps69
  go_upto_region 1 with (fail)
  refine (?_ : Code.wp _ _ _ _ ((w.alloc (.cells #[.int .i64 kd, .int .i64 el, .int .i64 ln, .string tg, s1, .bool dn] TR)).alloc (.cells #[.int .i64 kd, .int .i64 el, .int .i64 ln, .string tg, s2, .bool dn] TR)))
  have HB : Hid (Below w.heap.size w ((w.alloc (.cells #[.int .i64 kd, .int .i64 el, .int .i64 ln, .string tg, s1, .bool dn] TR)).alloc (.cells #[.int .i64 kd, .int .i64 el, .int .i64 ln, .string tg, s2, .bool dn] TR))) := ((Below.refl _ w).alloc (Nat.le_refl _) _).alloc (by simp) _
  have e1 := heap_s1 w (.cells #[.int .i64 kd, .int .i64 el, .int .i64 ln, .string tg, s1, .bool dn] TR) (.cells #[.int .i64 kd, .int .i64 el, .int .i64 ln, .string tg, s2, .bool dn] TR)
  have e2 := heap_s2 w (.cells #[.int .i64 kd, .int .i64 el, .int .i64 ln, .string tg, s1, .bool dn] TR) (.cells #[.int .i64 kd, .int .i64 el, .int .i64 ln, .string tg, s2, .bool dn] TR)
  generalize (w.alloc (.cells #[.int .i64 kd, .int .i64 el, .int .i64 ln, .string tg, s1, .bool dn] TR)).alloc (.cells #[.int .i64 kd, .int .i64 el, .int .i64 ln, .string tg, s2, .bool dn] TR) = W at *
  have m1 := h1.below HB.out
  have m2 := h2.below HB.out
  clear h1 h2
  have a0 : W.cell? ⟨w.heap.size, 0, none⟩ = some (.int .i64 kd) := by rw [Lib.cell_of_heap e1]; rfl
  have a1 : W.cell? ⟨w.heap.size, 1, none⟩ = some (.int .i64 el) := by rw [Lib.cell_of_heap e1]; rfl
  have a2 : W.cell? ⟨w.heap.size, 2, none⟩ = some (.int .i64 ln) := by rw [Lib.cell_of_heap e1]; rfl
  have a3 : W.cell? ⟨w.heap.size, 3, none⟩ = some (.string tg) := by rw [Lib.cell_of_heap e1]; rfl
  have a4 : W.cell? ⟨w.heap.size, 4, none⟩ = some s1 := by rw [Lib.cell_of_heap e1]; rfl
  have a5 : W.cell? ⟨w.heap.size, 5, none⟩ = some (.bool dn) := by rw [Lib.cell_of_heap e1]; rfl
  have b0 : W.cell? ⟨w.heap.size + 1, 0, none⟩ = some (.int .i64 kd) := by rw [Lib.cell_of_heap e2]; rfl
  have b1 : W.cell? ⟨w.heap.size + 1, 1, none⟩ = some (.int .i64 el) := by rw [Lib.cell_of_heap e2]; rfl
  have b2 : W.cell? ⟨w.heap.size + 1, 2, none⟩ = some (.int .i64 ln) := by rw [Lib.cell_of_heap e2]; rfl
  have b3 : W.cell? ⟨w.heap.size + 1, 3, none⟩ = some (.string tg) := by rw [Lib.cell_of_heap e2]; rfl
  have b4 : W.cell? ⟨w.heap.size + 1, 4, none⟩ = some s2 := by rw [Lib.cell_of_heap e2]; rfl
  have b5 : W.cell? ⟨w.heap.size + 1, 5, none⟩ = some (.bool dn) := by rw [Lib.cell_of_heap e2]; rfl
  clear e1 e2
  rcases m1 with ⟨rfl, rfl⟩ | ⟨g1, o1, cap1, rfl, hc1, hg1, q1⟩ <;> rcases m2 with ⟨rfl, hh⟩ | ⟨g2, o2, cap2, rfl, hc2, hg2, q2⟩
  · go_wp2
    refine wp_loop_rounds 1 ?_
    rw [rounds_succ]
    go_wp2
    go_ret
    exact ⟨rfl, HB.out⟩
  · simp only [List.length_nil] at *
    go_wp2
    refine wp_loop_rounds 1 ?_
    rw [rounds_succ]
    go_wp2
    go_ret
    exact ⟨rfl, HB.out⟩
  · subst hh
    simp only [List.length_nil] at *
    go_wp2
    refine wp_loop_rounds 1 ?_
    rw [rounds_succ]
    go_wp2
    go_ret
    exact ⟨rfl, HB.out⟩
  · have hlx : ∀ (a : ByteArray) (t n : Int) (X : World), (binOp BinOp.neq TM (.agg #[.string a, .int .i64 t, .int .i64 n]) (.agg #[.string a, .int .i64 t, .int .i64 n])).run Tryz.prog X = .ok (.bool false) X := neq_same
    go_wp2
    go_loopw [5] (fun i wr => ∃ k : Nat, i = .int .i64 k ∧ k ≤ mm.length ∧ Hid (Below W.heap.size W wr)) (fun i _ => mm.length - (intOf i).toNat)
    case atStart => exact ⟨0, rfl, Nat.zero_le _, Below.refl _ _⟩
    case round =>
      obtain ⟨k, rfl, hk, HW⟩ := hrel
      have a4' : wr.cell? ⟨w.heap.size, 4, none⟩ = some (.slice (some ⟨g1, o1, none⟩) mm.length cap1) := (HW.out.cell (p := ⟨w.heap.size, 4, none⟩) (World.block_lt_of_cell? W _ a4)).trans a4
      have b4' : wr.cell? ⟨w.heap.size + 1, 4, none⟩ = some (.slice (some ⟨g2, o2, none⟩) mm.length cap2) := (HW.out.cell (p := ⟨w.heap.size + 1, 4, none⟩) (World.block_lt_of_cell? W _ b4)).trans b4
      clear a0 a1 a2 a3 a4 a5 b0 b1 b2 b3 b4 b5
      by_cases hlt : k < mm.length
      · obtain ⟨m, hm⟩ : ∃ m, mm[k]? = some m := ⟨_, List.getElem?_eq_getElem hlt⟩
        have x1 := fun j hj => (HW.out.cell (p := ⟨g1, o1 + k * 3 + j, none⟩) hg1).trans (q1 k m hm j hj)
        have x2 := fun j hj => (HW.out.cell (p := ⟨g2, o2 + k * 3 + j, none⟩) hg2).trans (q2 k m hm j hj)
        have c0 := x1 0 (by omega)
        have c1 := x1 1 (by omega)
        have c2 := x1 2 (by omega)
        have d0 := x2 0 (by omega)
        have d1 := x2 1 (by omega)
        have d2 := x2 2 (by omega)
        simp only [mbCells, Nat.add_zero, List.getElem?_cons_zero, List.getElem?_cons_succ] at c0 c1 c2 d0 d1 d2
        clear x1 x2 q1 q2 hm
        go_wp2
        go_quiet (fail)
        go_wp2
        refine ⟨⟨k + 1, by go_num, by omega, HW.out.trans (below_drewN _ _ _)⟩, by simp [intOf]; omega⟩
      · go_wp2
        go_ret
        exact ⟨rfl, HB.out.trans (HW.out.mono HB.out.size)⟩

/-- A slice of rows, wherever it begins. -/
def RowSl (w : World) (v : Value) (rs : List (Rw × Value)) : Prop :=
  ((v = .slice none 0 0 ∧ rs = []) ∨ ∃ g o cap, v = .slice (some ⟨g, o, none⟩) rs.length cap ∧ rs.length ≤ cap ∧ g < w.heap.size ∧ ∀ i p, rs[i]? = some p → ∀ j, j < 6 → w.cell? ⟨g, o + i * 6 + j, none⟩ = (rwCells p.1 p.2)[j]?) ∧
  ∀ p ∈ rs, MemSl w p.2 p.1.mem
theorem RowSl.below {w w' : World} {v : Value} {rs : List (Rw × Value)} (h : RowSl w v rs) (hb : Below w.heap.size w w') : RowSl w' v rs := by
  refine ⟨?_, fun p hp => (h.2 p hp).below hb⟩
  rcases h.1 with h | ⟨g, o, cap, h1, h2, h3, h4⟩
  · exact Or.inl h
  · exact Or.inr ⟨g, o, cap, h1, h2, Nat.lt_of_lt_of_le h3 hb.size, fun i m hm j hj => by rw [hb.cell (p := ⟨g, o + i * 6 + j, none⟩) h3]; exact h4 i m hm j hj⟩
theorem MemSl.of_own {w : World} {B : Nat} {s : Value} {l : List Mb} (h : w.ownsRow B TM 3 s l.length (memCells l)) : MemSl w s l := by
  obtain ⟨h1, ⟨rfl, h0⟩ | ⟨g, cap, cur, rfl, hb, hg, hcap, _⟩⟩ := id h
  · exact Or.inl ⟨rfl, List.eq_nil_of_length_eq_zero h0⟩
  · refine Or.inr ⟨g, 0, cap, rfl, hcap, lt_of_heap hg, fun i m hm j hj => ?_⟩
    cases hu : (mbCells m)[j]? with
    | none => simp [mbCells] at hu; omega
    | some u =>
      have := h.cells (g := g) rfl (i * 3 + j) u (by rw [memCells_at l i m hm j hj]; exact hu)
      have e : ((⟨g, 0, none⟩ : Addr).add (i * 3 + j)) = ⟨g, 0 + i * 3 + j, none⟩ := by
        simp [Addr.add]; omega
      rw [e] at this; exact this
theorem RowSl.of_own {w : World} {B : Nat} {v : Value} {rs : List (Rw × Value)} (h : w.ownsRow B TR 6 v rs.length (allCells rs)) (hm : ∀ p ∈ rs, w.ownsRow B TM 3 p.2 p.1.mem.length (memCells p.1.mem)) : RowSl w v rs := by
  refine ⟨?_, fun p hp => MemSl.of_own (hm p hp)⟩
  obtain ⟨h1, ⟨rfl, h0⟩ | ⟨g, cap, cur, rfl, hb, hg, hcap, _⟩⟩ := id h
  · exact Or.inl ⟨rfl, List.eq_nil_of_length_eq_zero h0⟩
  · refine Or.inr ⟨g, 0, cap, rfl, hcap, lt_of_heap hg, fun i p hp j hj => ?_⟩
    cases hu : (rwCells p.1 p.2)[j]? with
    | none => simp [rwCells] at hu; omega
    | some u =>
      have := h.cells (g := g) rfl (i * 6 + j) u (by rw [allCells_at rs i p hp j hj]; exact hu)
      have e : ((⟨g, 0, none⟩ : Addr).add (i * 6 + j)) = ⟨g, 0 + i * 6 + j, none⟩ := by
        simp [Addr.add]; omega
      rw [e] at this; exact this

set_option maxHeartbeats 2000000 in
/-- Same at two slices that hold the same rows. -/
theorem same_c {v1 v2 : Value} {r1 r2 : List (Rw × Value)} (h1 : RowSl w v1 r1) (h2 : RowSl w v2 r2) (hr : r1.map (·.1) = r2.map (·.1)) (hl : r1.length ≤ 9223372036854775807) (hn : ∀ p ∈ r1, p.1.mem.length ≤ 9223372036854775807) :
    Calls Tryz.prog 35 #[v1, v2] w fun e w' => e = .returned (.bool true) ∧ Below w.heap.size w w' := by
  have hlen : r1.length = r2.length := by simpa using congrArg List.length hr
  obtain ⟨k1, m1⟩ := h1
  obtain ⟨k2, m2⟩ := h2
  have hl2 := hl
  rw [hlen] at hl2
  rcases k1 with ⟨rfl, rfl⟩ | ⟨g1, o1, cap1, rfl, hc1, hg1, q1⟩ <;> rcases k2 with ⟨rfl, hh⟩ | ⟨g2, o2, cap2, rfl, hc2, hg2, q2⟩
  · go_enter Tryz.func35, Tryz.ntmps35
    go_wp2
    refine wp_loop_rounds 1 ?_
    rw [rounds_succ]
    go_wp2
    go_ret
    exact ⟨rfl, Below.refl _ _⟩
  · rw [← hlen] at *
    simp only [List.length_nil] at *
    go_enter Tryz.func35, Tryz.ntmps35
    go_wp2
    refine wp_loop_rounds 1 ?_
    rw [rounds_succ]
    go_wp2
    go_ret
    exact ⟨rfl, Below.refl _ _⟩
  · subst hh
    rw [hlen] at *
    simp only [List.length_nil] at *
    go_enter Tryz.func35, Tryz.ntmps35
    go_wp2
    refine wp_loop_rounds 1 ?_
    rw [rounds_succ]
    go_wp2
    go_ret
    exact ⟨rfl, Below.refl _ _⟩
  · rw [← hlen] at hc2 ⊢
    have hf := not_t
    have HL : Hid (r1.length = r2.length) := hlen
    clear hl2 hlen
    go_enter Tryz.func35, Tryz.ntmps35
    go_wp2
    go_loopw [5] (fun i wr => ∃ k : Nat, i = .int .i64 k ∧ k ≤ r1.length ∧ Hid (Below w.heap.size w wr)) (fun i _ => r1.length - (intOf i).toNat)
    case atStart => exact ⟨0, rfl, Nat.zero_le _, Below.refl _ _⟩
    case round =>
      obtain ⟨k, rfl, hk, HW⟩ := hrel
      by_cases hlt : k < r1.length
      · obtain ⟨p1, hp1⟩ : ∃ p, r1[k]? = some p := ⟨_, List.getElem?_eq_getElem hlt⟩
        obtain ⟨p2, hp2⟩ : ∃ p, r2[k]? = some p := ⟨_, List.getElem?_eq_getElem (by have := HL.out; omega)⟩
        have he : p1.1 = p2.1 := by
          have := congrArg (fun l => l[k]?) hr
          simpa [List.getElem?_map, hp1, hp2] using this
        obtain ⟨rr, s1⟩ := p1
        obtain ⟨rr', s2⟩ := p2
        simp only at he
        subst he
        have x1 := fun j hj => (HW.out.cell (p := ⟨g1, o1 + k * 6 + j, none⟩) hg1).trans (q1 k _ hp1 j hj)
        have x2 := fun j hj => (HW.out.cell (p := ⟨g2, o2 + k * 6 + j, none⟩) hg2).trans (q2 k _ hp2 j hj)
        have cE := fun X (hX : Below wr.heap.size wr X) => equal_c (w := X) (r := rr) (((m1 _ (List.mem_of_getElem? hp1)).below HW.out).below hX) (((m2 _ (List.mem_of_getElem? hp2)).below HW.out).below hX) (hn _ (List.mem_of_getElem? hp1))
        have c0 := x1 0 (by omega)
        have c1 := x1 1 (by omega)
        have c2 := x1 2 (by omega)
        have c3 := x1 3 (by omega)
        have c4 := x1 4 (by omega)
        have c5 := x1 5 (by omega)
        have d0 := x2 0 (by omega)
        have d1 := x2 1 (by omega)
        have d2 := x2 2 (by omega)
        have d3 := x2 3 (by omega)
        have d4 := x2 4 (by omega)
        have d5 := x2 5 (by omega)
        simp only [rwCells, Nat.add_zero, List.getElem?_cons_zero, List.getElem?_cons_succ] at c0 c1 c2 c3 c4 c5 d0 d1 d2 d3 d4 d5 cE
        clear x1 x2 q1 q2 hp1 hp2 hr m1 m2 hn
        go_wp2
        go_region_with (go_at_call 69; refine (cE _ (below_drewN _ _ _)).mono ?_; rintro e w2 ⟨rfl, hb2⟩)
        all_goals go_wp2
        all_goals refine ⟨⟨k + 1, by go_num, by omega, (HW.out.trans (below_drewN _ _ _)).trans (hb2.mono HW.out.size)⟩, by simp [intOf]; omega⟩
      · go_wp2
        go_ret
        exact ⟨rfl, HW.out⟩
end
end Go.Proofs.YtlcghlfmaohfeaaGreat
