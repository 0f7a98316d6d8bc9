/-
  hasMore: has a row something that its kind has not?
-/
import Derived.Test.YtlcghlfmaohfeaaGreatHCopyRows
import Derived.Laws.StructEq
namespace Go.Proofs.YtlcghlfmaohfeaaGreat
open Go.RowKit Go.Maps
set_option linter.unusedVariables false
set_option maxRecDepth 100000

abbrev TH : TypeId := 155
theorem neq_head (k e n e' n' : Int) (t t' : ByteArray) (d d' : Bool) (X : World) : (binOp BinOp.neq TH (.agg #[.int .i64 k, .int .i64 e, .int .i64 n, .string t, .bool d]) (.agg #[.int .i64 k, .int .i64 e', .int .i64 n', .string t', .bool d'])).run Tryz.prog X = .ok (.bool (!(e == e' && n == n' && t.toList == t'.toList && d == d'))) X := by
  have u3 := Tryz.underlying3
  have a3 := Tryz.isAgg3
  have z3 := Tryz.sizeOf3
  have u9 := Tryz.underlying9
  have a9 := Tryz.isAgg9
  have z9 := Tryz.sizeOf9
  have u4 := Tryz.underlying4
  have a4 := Tryz.isAgg4
  have z4 := Tryz.sizeOf4
  have uk := Tryz.underlying85
  have ak := Tryz.isAgg85
  have zk := Tryz.sizeOf85
  have hS : Tryz.prog.underlying TH = some (.struct (Tryz.prog.fieldsOf TH)) := by kernel_rfl
  have hp : Tryz.prog.stoodInHeld TH = false := by kernel_rfl
  rw [run_neq_struct, show (10000 : Nat) = 9999 + 1 from rfl, run_equalIn_agg X 9999 TH _ _ hS hp]
  simp only [Program.fieldsOf, Tryz.underlying155]
  go_simp
  by_cases h1 : e = e' <;> by_cases h2 : n = n' <;> by_cases h3 : t.toList = t'.toList <;> cases d <;> cases d' <;> simp [h1, h2, h3]

theorem cell3 (w : World) (cs : Array Value) (t : TypeId) (A B : Obj) (j : Nat) : (((w.alloc (.cells cs t)).alloc A).alloc B).cell? ⟨w.heap.size, j, none⟩ = cs[j]? := by
  have h : (((w.alloc (.cells cs t)).alloc A).alloc B).heap[w.heap.size]? = some (.cells cs t) := by
    show (((w.heap.push _).push A).push B)[w.heap.size]? = _
    rw [Array.getElem?_push, if_neg (by simp; omega), Array.getElem?_push, if_neg (by simp), Array.getElem?_push, if_pos rfl]
  rw [Lib.cell_of_heap h]
theorem cell4 (w : World) (cs : Array Value) (t : TypeId) (A B : Obj) (j : Nat) : (((w.alloc A).alloc (.cells cs t)).alloc B).cell? ⟨w.heap.size + 1, j, none⟩ = cs[j]? := by
  have h : (((w.alloc A).alloc (.cells cs t)).alloc B).heap[w.heap.size + 1]? = some (.cells cs t) := by
    show (((w.heap.push A).push _).push B)[w.heap.size + 1]? = _
    rw [Array.getElem?_push, if_neg (by simp), Array.getElem?_push, if_pos (by simp)]
  rw [Lib.cell_of_heap h]
/-- A row's own done. -/
def ownDone (r : Rw) : Bool := recK r.kind && r.done
def moreHead (r : Rw) : Bool :=
  if r.kind = 12 then !(r.elem == 0 && r.len == 0 && r.done == false)
  else if r.kind = 13 then !(r.len == 0 && r.tag.toList == [] && r.done == false)
  else if r.kind = 14 then !(r.tag.toList == [] && r.done == false)
  else if r.kind = 15 ∨ r.kind = 16 then !(r.elem == 0 && r.len == 0)
  else !(r.elem == 0 && r.len == 0 && r.tag.toList == [] && r.done == false)
def moreP (r : Rw) : Bool := moreHead r || (decide (0 < r.mem.length) && !ownDone r)

section
variable {w : World}
set_option maxHeartbeats 4000000 in
theorem hasMore_c (r : Rw) (s : Value) (hs : ∃ p c, s = .slice p r.mem.length c) (hl : r.mem.length ≤ 9223372036854775807) :
    Calls Tryz.prog 76 #[.agg (rwCells r s).toArray] w fun e w' => e = .returned (.bool (moreP r)) ∧ Below w.heap.size w w' := by
  obtain ⟨kd, el, ln, tg, mm, dn⟩ := r
  obtain ⟨sp, sc, rfl⟩ := hs
  simp only [rwCells] at *
  have h1 := not_f
  have h2 := not_t
  have hb1 : ∀ (k : Int) (W : World), (Instr.build TH #[(0, .int .i64 k)]).run Tryz.prog W = .ok (.agg #[.int .i64 k, .int .i64 0, .int .i64 0, .string ⟨#[]⟩, .bool false]) W := fun k W => by kernel_rfl
  have hb5 : ∀ (k e n : Int) (t : ByteArray) (d : Bool) (W : World), (Instr.build TH #[(0, .int .i64 k), (1, .int .i64 e), (2, .int .i64 n), (3, .string t), (4, .bool d)]).run Tryz.prog W = .ok (.agg #[.int .i64 k, .int .i64 e, .int .i64 n, .string t, .bool d]) W := fun k e n t d W => by kernel_rfl
  have hc3 := fun cs t A B j => cell3 w cs t A B j
  have hc4 := fun cs t A B j => cell4 w cs t A B j
  have HB3 : Hid (∀ A B C, Below w.heap.size w (((w.alloc A).alloc B).alloc C)) := fun A B C => (((Below.refl _ w).alloc (Nat.le_refl _) _).alloc (by simp) _).alloc (by simp; omega) _
  by_cases h12 : kd = 12
  · subst h12
    obtain ⟨X, hX⟩ : ∃ X, X = !(el == 0 && ln == 0 && tg.toList == (tg).toList && dn == false) := ⟨_, rfl⟩
    have hne : ∀ W, (binOp BinOp.neq TH (.agg #[.int .i64 12, .int .i64 el, .int .i64 ln, .string tg, .bool dn]) (.agg #[.int .i64 12, .int .i64 0, .int .i64 0, .string tg, .bool false])).run Tryz.prog W = .ok (.bool X) W := fun W => by rw [hX]; exact neq_head _ _ _ _ _ _ _ _ _ W
    have hM : moreP ⟨12, el, ln, tg, mm, dn⟩ = (X || (decide (0 < mm.length) && true)) := by rw [hX]; simp [moreP, moreHead, ownDone, recK]
    rw [hM]
    clear hX hM
    by_cases hm : 0 < mm.length
    all_goals cases X
    all_goals go_enter Tryz.func76, Tryz.ntmps76
    all_goals go_wp2
    all_goals go_ret
    all_goals exact ⟨bool_ret (by simp [hm]), HB3.out _ _ _⟩
  by_cases h13 : kd = 13
  · subst h13
    obtain ⟨X, hX⟩ : ∃ X, X = !(el == el && ln == 0 && tg.toList == ((⟨#[]⟩ : ByteArray)).toList && dn == false) := ⟨_, rfl⟩
    have hne : ∀ W, (binOp BinOp.neq TH (.agg #[.int .i64 13, .int .i64 el, .int .i64 ln, .string tg, .bool dn]) (.agg #[.int .i64 13, .int .i64 el, .int .i64 0, .string (⟨#[]⟩ : ByteArray), .bool false])).run Tryz.prog W = .ok (.bool X) W := fun W => by rw [hX]; exact neq_head _ _ _ _ _ _ _ _ _ W
    have hM : moreP ⟨13, el, ln, tg, mm, dn⟩ = (X || (decide (0 < mm.length) && true)) := by rw [hX]; simp [moreP, moreHead, ownDone, recK]
    rw [hM]
    clear hX hM
    by_cases hm : 0 < mm.length
    all_goals cases X
    all_goals go_enter Tryz.func76, Tryz.ntmps76
    all_goals go_wp2
    all_goals go_ret
    all_goals exact ⟨bool_ret (by simp [hm]), HB3.out _ _ _⟩
  by_cases h14 : kd = 14
  · subst h14
    obtain ⟨X, hX⟩ : ∃ X, X = !(el == el && ln == ln && tg.toList == ((⟨#[]⟩ : ByteArray)).toList && dn == false) := ⟨_, rfl⟩
    have hne : ∀ W, (binOp BinOp.neq TH (.agg #[.int .i64 14, .int .i64 el, .int .i64 ln, .string tg, .bool dn]) (.agg #[.int .i64 14, .int .i64 el, .int .i64 ln, .string (⟨#[]⟩ : ByteArray), .bool false])).run Tryz.prog W = .ok (.bool X) W := fun W => by rw [hX]; exact neq_head _ _ _ _ _ _ _ _ _ W
    have hM : moreP ⟨14, el, ln, tg, mm, dn⟩ = (X || (decide (0 < mm.length) && true)) := by rw [hX]; simp [moreP, moreHead, ownDone, recK]
    rw [hM]
    clear hX hM
    go_enter Tryz.func76, Tryz.ntmps76
    go_upto_region 9 with (fail)
    refine (?_ : Code.wp _ _ _ _ ((w.alloc (.cells #[.int .i64 14, .int .i64 el, .int .i64 ln, .string tg, .slice sp mm.length sc, .bool dn] TR)).alloc (.cells #[.int .i64 14, .int .i64 0, .int .i64 0, .string ⟨#[]⟩, .bool false] TH)))
    have HB : Hid (Below w.heap.size w ((w.alloc (.cells #[.int .i64 14, .int .i64 el, .int .i64 ln, .string tg, .slice sp mm.length sc, .bool dn] TR)).alloc (.cells #[.int .i64 14, .int .i64 0, .int .i64 0, .string ⟨#[]⟩, .bool false] TH))) := ((Below.refl _ w).alloc (Nat.le_refl _) _).alloc (by simp) _
    have e1 := heap_s1 w (.cells #[.int .i64 14, .int .i64 el, .int .i64 ln, .string tg, .slice sp mm.length sc, .bool dn] TR) (.cells #[.int .i64 14, .int .i64 0, .int .i64 0, .string ⟨#[]⟩, .bool false] TH)
    have e2 := heap_s2 w (.cells #[.int .i64 14, .int .i64 el, .int .i64 ln, .string tg, .slice sp mm.length sc, .bool dn] TR) (.cells #[.int .i64 14, .int .i64 0, .int .i64 0, .string ⟨#[]⟩, .bool false] TH)
    generalize (w.alloc (.cells #[.int .i64 14, .int .i64 el, .int .i64 ln, .string tg, .slice sp mm.length sc, .bool dn] TR)).alloc (.cells #[.int .i64 14, .int .i64 0, .int .i64 0, .string ⟨#[]⟩, .bool false] TH) = W at *
    have a1 := Lib.cell_of_heap e1 1
    have a2 := Lib.cell_of_heap e1 2
    have a3 := Lib.cell_of_heap e1 3
    have a5 := Lib.cell_of_heap e1 5
    have b1 := Lib.cell_of_heap e2 1
    have b2 := Lib.cell_of_heap e2 2
    have b3 := Lib.cell_of_heap e2 3
    have b4 := Lib.cell_of_heap e2 4
    simp only [List.getElem?_toArray, List.getElem?_cons_zero, List.getElem?_cons_succ] at a1 a2 a3 a5 b1 b2 b3 b4
    have f1 : W.frozen? ⟨w.heap.size + 1, 1, none⟩ = false := frozen_of e2 _
    have f2 : W.frozen? ⟨w.heap.size + 1, 2, none⟩ = false := frozen_of e2 _
    have f3 : W.frozen? ⟨w.heap.size + 1, 3, none⟩ = false := frozen_of e2 _
    have f4 : W.frozen? ⟨w.heap.size + 1, 4, none⟩ = false := frozen_of e2 _
    have E1 : Hid (_ = _) := e1
    have E2 : Hid (_ = _) := e2
    clear e1 e2 hc3 hc4
    go_region
    all_goals
      have d2 : ((W.setCell ⟨w.heap.size + 1, 1, none⟩ (.int .i64 el)).setCell ⟨w.heap.size + 1, 2, none⟩ (.int .i64 ln)).drew.heap[w.heap.size + 1]? = some (.cells #[.int .i64 14, .int .i64 el, .int .i64 ln, .string ⟨#[]⟩, .bool false] TH) := heap_setCell (heap_setCell E2.out _) _
      have d1 : ((W.setCell ⟨w.heap.size + 1, 1, none⟩ (.int .i64 el)).setCell ⟨w.heap.size + 1, 2, none⟩ (.int .i64 ln)).drew.heap[w.heap.size]? = _ := (heap_setCell_other _ ⟨w.heap.size + 1, 2, none⟩ w.heap.size _ (by show w.heap.size ≠ w.heap.size + 1; omega)).trans ((heap_setCell_other W ⟨w.heap.size + 1, 1, none⟩ w.heap.size _ (by show w.heap.size ≠ w.heap.size + 1; omega)).trans E1.out)
      have HB2 : Hid (Below w.heap.size w ((W.setCell ⟨w.heap.size + 1, 1, none⟩ (.int .i64 el)).setCell ⟨w.heap.size + 1, 2, none⟩ (.int .i64 ln)).drew) := by
        have t : Turned W ((W.setCell ⟨w.heap.size + 1, 1, none⟩ (.int .i64 el)).setCell ⟨w.heap.size + 1, 2, none⟩ (.int .i64 ln)) (fun k => k = w.heap.size + 1) := (Turned.setCell (S := fun k => k = w.heap.size + 1) _ _ _ _ rfl).trans (Turned.setCell (S := fun k => k = w.heap.size + 1) _ _ _ _ rfl) (fun _ _ x => x)
        have hb := HB.out
        exact ⟨t.os.trans hb.os, t.tape.trans hb.tape, t.output.trans hb.output, Nat.le_trans hb.size t.size, fun k hk => (t.block k (Nat.lt_of_lt_of_le hk hb.size) (by omega)).trans (hb.block k hk)⟩
      clear a1 a2 a3 a5 b1 b2 b3 b4 f1 f2 f3 f4 E1 E2
      generalize ((W.setCell ⟨w.heap.size + 1, 1, none⟩ (.int .i64 el)).setCell ⟨w.heap.size + 1, 2, none⟩ (.int .i64 ln)).drew = V at *
      have hA : ∀ C j, (V.alloc C).cell? ⟨w.heap.size, j, none⟩ = V.cell? ⟨w.heap.size, j, none⟩ := fun C j => ((Below.refl _ V).alloc (Nat.le_refl _) C).cell (p := ⟨w.heap.size, j, none⟩) (lt_of_heap d1)
      have hA2 : ∀ C j, (V.alloc C).cell? ⟨w.heap.size + 1, j, none⟩ = V.cell? ⟨w.heap.size + 1, j, none⟩ := fun C j => ((Below.refl _ V).alloc (Nat.le_refl _) C).cell (p := ⟨w.heap.size + 1, j, none⟩) (lt_of_heap d2)
      have a0 := Lib.cell_of_heap d1 0
      have a1 := Lib.cell_of_heap d1 1
      have a2 := Lib.cell_of_heap d1 2
      have a3 := Lib.cell_of_heap d1 3
      have a4 := Lib.cell_of_heap d1 4
      have a5 := Lib.cell_of_heap d1 5
      have b0 := Lib.cell_of_heap d2 0
      have b1 := Lib.cell_of_heap d2 1
      have b2 := Lib.cell_of_heap d2 2
      have b3 := Lib.cell_of_heap d2 3
      have b4 := Lib.cell_of_heap d2 4
      simp only [List.getElem?_toArray, List.getElem?_cons_zero, List.getElem?_cons_succ] at a0 a1 a2 a3 a4 a5 b0 b1 b2 b3 b4
      clear d1 d2
      by_cases hm : 0 < mm.length
      all_goals cases X
      all_goals go_wp2
      all_goals go_ret
      all_goals exact ⟨bool_ret (by simp [hm]), HB2.out.alloc HB2.out.size _⟩
  by_cases h15 : kd = 15
  · subst h15
    obtain ⟨X, hX⟩ : ∃ X, X = !(el == 0 && ln == 0 && tg.toList == (tg).toList && dn == dn) := ⟨_, rfl⟩
    have hne : ∀ W, (binOp BinOp.neq TH (.agg #[.int .i64 15, .int .i64 el, .int .i64 ln, .string tg, .bool dn]) (.agg #[.int .i64 15, .int .i64 0, .int .i64 0, .string tg, .bool dn])).run Tryz.prog W = .ok (.bool X) W := fun W => by rw [hX]; exact neq_head _ _ _ _ _ _ _ _ _ W
    have hM : moreP ⟨15, el, ln, tg, mm, dn⟩ = (X || (decide (0 < mm.length) && !dn)) := by rw [hX]; simp [moreP, moreHead, ownDone, recK]
    rw [hM]
    clear hX hM
    go_enter Tryz.func76, Tryz.ntmps76
    go_upto_region 11 with (fail)
    refine (?_ : Code.wp _ _ _ _ ((w.alloc (.cells #[.int .i64 15, .int .i64 el, .int .i64 ln, .string tg, .slice sp mm.length sc, .bool dn] TR)).alloc (.cells #[.int .i64 15, .int .i64 0, .int .i64 0, .string ⟨#[]⟩, .bool false] TH)))
    have HB : Hid (Below w.heap.size w ((w.alloc (.cells #[.int .i64 15, .int .i64 el, .int .i64 ln, .string tg, .slice sp mm.length sc, .bool dn] TR)).alloc (.cells #[.int .i64 15, .int .i64 0, .int .i64 0, .string ⟨#[]⟩, .bool false] TH))) := ((Below.refl _ w).alloc (Nat.le_refl _) _).alloc (by simp) _
    have e1 := heap_s1 w (.cells #[.int .i64 15, .int .i64 el, .int .i64 ln, .string tg, .slice sp mm.length sc, .bool dn] TR) (.cells #[.int .i64 15, .int .i64 0, .int .i64 0, .string ⟨#[]⟩, .bool false] TH)
    have e2 := heap_s2 w (.cells #[.int .i64 15, .int .i64 el, .int .i64 ln, .string tg, .slice sp mm.length sc, .bool dn] TR) (.cells #[.int .i64 15, .int .i64 0, .int .i64 0, .string ⟨#[]⟩, .bool false] TH)
    generalize (w.alloc (.cells #[.int .i64 15, .int .i64 el, .int .i64 ln, .string tg, .slice sp mm.length sc, .bool dn] TR)).alloc (.cells #[.int .i64 15, .int .i64 0, .int .i64 0, .string ⟨#[]⟩, .bool false] TH) = W at *
    have a1 := Lib.cell_of_heap e1 1
    have a2 := Lib.cell_of_heap e1 2
    have a3 := Lib.cell_of_heap e1 3
    have a5 := Lib.cell_of_heap e1 5
    have b1 := Lib.cell_of_heap e2 1
    have b2 := Lib.cell_of_heap e2 2
    have b3 := Lib.cell_of_heap e2 3
    have b4 := Lib.cell_of_heap e2 4
    simp only [List.getElem?_toArray, List.getElem?_cons_zero, List.getElem?_cons_succ] at a1 a2 a3 a5 b1 b2 b3 b4
    have f1 : W.frozen? ⟨w.heap.size + 1, 1, none⟩ = false := frozen_of e2 _
    have f2 : W.frozen? ⟨w.heap.size + 1, 2, none⟩ = false := frozen_of e2 _
    have f3 : W.frozen? ⟨w.heap.size + 1, 3, none⟩ = false := frozen_of e2 _
    have f4 : W.frozen? ⟨w.heap.size + 1, 4, none⟩ = false := frozen_of e2 _
    have E1 : Hid (_ = _) := e1
    have E2 : Hid (_ = _) := e2
    clear e1 e2 hc3 hc4
    go_region
    all_goals
      have d2 : ((W.setCell ⟨w.heap.size + 1, 3, none⟩ (.string tg)).setCell ⟨w.heap.size + 1, 4, none⟩ (.bool dn)).drew.heap[w.heap.size + 1]? = some (.cells #[.int .i64 15, .int .i64 0, .int .i64 0, .string tg, .bool dn] TH) := heap_setCell (heap_setCell E2.out _) _
      have d1 : ((W.setCell ⟨w.heap.size + 1, 3, none⟩ (.string tg)).setCell ⟨w.heap.size + 1, 4, none⟩ (.bool dn)).drew.heap[w.heap.size]? = _ := (heap_setCell_other _ ⟨w.heap.size + 1, 4, none⟩ w.heap.size _ (by show w.heap.size ≠ w.heap.size + 1; omega)).trans ((heap_setCell_other W ⟨w.heap.size + 1, 3, none⟩ w.heap.size _ (by show w.heap.size ≠ w.heap.size + 1; omega)).trans E1.out)
      have HB2 : Hid (Below w.heap.size w ((W.setCell ⟨w.heap.size + 1, 3, none⟩ (.string tg)).setCell ⟨w.heap.size + 1, 4, none⟩ (.bool dn)).drew) := by
        have t : Turned W ((W.setCell ⟨w.heap.size + 1, 3, none⟩ (.string tg)).setCell ⟨w.heap.size + 1, 4, none⟩ (.bool dn)) (fun k => k = w.heap.size + 1) := (Turned.setCell (S := fun k => k = w.heap.size + 1) _ _ _ _ rfl).trans (Turned.setCell (S := fun k => k = w.heap.size + 1) _ _ _ _ rfl) (fun _ _ x => x)
        have hb := HB.out
        exact ⟨t.os.trans hb.os, t.tape.trans hb.tape, t.output.trans hb.output, Nat.le_trans hb.size t.size, fun k hk => (t.block k (Nat.lt_of_lt_of_le hk hb.size) (by omega)).trans (hb.block k hk)⟩
      clear a1 a2 a3 a5 b1 b2 b3 b4 f1 f2 f3 f4 E1 E2
      generalize ((W.setCell ⟨w.heap.size + 1, 3, none⟩ (.string tg)).setCell ⟨w.heap.size + 1, 4, none⟩ (.bool dn)).drew = V at *
      have hA : ∀ C j, (V.alloc C).cell? ⟨w.heap.size, j, none⟩ = V.cell? ⟨w.heap.size, j, none⟩ := fun C j => ((Below.refl _ V).alloc (Nat.le_refl _) C).cell (p := ⟨w.heap.size, j, none⟩) (lt_of_heap d1)
      have hA2 : ∀ C j, (V.alloc C).cell? ⟨w.heap.size + 1, j, none⟩ = V.cell? ⟨w.heap.size + 1, j, none⟩ := fun C j => ((Below.refl _ V).alloc (Nat.le_refl _) C).cell (p := ⟨w.heap.size + 1, j, none⟩) (lt_of_heap d2)
      have a0 := Lib.cell_of_heap d1 0
      have a1 := Lib.cell_of_heap d1 1
      have a2 := Lib.cell_of_heap d1 2
      have a3 := Lib.cell_of_heap d1 3
      have a4 := Lib.cell_of_heap d1 4
      have a5 := Lib.cell_of_heap d1 5
      have b0 := Lib.cell_of_heap d2 0
      have b1 := Lib.cell_of_heap d2 1
      have b2 := Lib.cell_of_heap d2 2
      have b3 := Lib.cell_of_heap d2 3
      have b4 := Lib.cell_of_heap d2 4
      simp only [List.getElem?_toArray, List.getElem?_cons_zero, List.getElem?_cons_succ] at a0 a1 a2 a3 a4 a5 b0 b1 b2 b3 b4
      clear d1 d2
      by_cases hm : 0 < mm.length
      all_goals cases X
      all_goals cases dn
      all_goals go_wp2
      all_goals go_ret
      all_goals exact ⟨bool_ret (by simp [hm]), HB2.out.alloc HB2.out.size _⟩
  by_cases h16 : kd = 16
  · subst h16
    obtain ⟨X, hX⟩ : ∃ X, X = !(el == 0 && ln == 0 && tg.toList == (tg).toList && dn == dn) := ⟨_, rfl⟩
    have hne : ∀ W, (binOp BinOp.neq TH (.agg #[.int .i64 16, .int .i64 el, .int .i64 ln, .string tg, .bool dn]) (.agg #[.int .i64 16, .int .i64 0, .int .i64 0, .string tg, .bool dn])).run Tryz.prog W = .ok (.bool X) W := fun W => by rw [hX]; exact neq_head _ _ _ _ _ _ _ _ _ W
    have hM : moreP ⟨16, el, ln, tg, mm, dn⟩ = (X || (decide (0 < mm.length) && !dn)) := by rw [hX]; simp [moreP, moreHead, ownDone, recK]
    rw [hM]
    clear hX hM
    go_enter Tryz.func76, Tryz.ntmps76
    go_upto_region 11 with (fail)
    refine (?_ : Code.wp _ _ _ _ ((w.alloc (.cells #[.int .i64 16, .int .i64 el, .int .i64 ln, .string tg, .slice sp mm.length sc, .bool dn] TR)).alloc (.cells #[.int .i64 16, .int .i64 0, .int .i64 0, .string ⟨#[]⟩, .bool false] TH)))
    have HB : Hid (Below w.heap.size w ((w.alloc (.cells #[.int .i64 16, .int .i64 el, .int .i64 ln, .string tg, .slice sp mm.length sc, .bool dn] TR)).alloc (.cells #[.int .i64 16, .int .i64 0, .int .i64 0, .string ⟨#[]⟩, .bool false] TH))) := ((Below.refl _ w).alloc (Nat.le_refl _) _).alloc (by simp) _
    have e1 := heap_s1 w (.cells #[.int .i64 16, .int .i64 el, .int .i64 ln, .string tg, .slice sp mm.length sc, .bool dn] TR) (.cells #[.int .i64 16, .int .i64 0, .int .i64 0, .string ⟨#[]⟩, .bool false] TH)
    have e2 := heap_s2 w (.cells #[.int .i64 16, .int .i64 el, .int .i64 ln, .string tg, .slice sp mm.length sc, .bool dn] TR) (.cells #[.int .i64 16, .int .i64 0, .int .i64 0, .string ⟨#[]⟩, .bool false] TH)
    generalize (w.alloc (.cells #[.int .i64 16, .int .i64 el, .int .i64 ln, .string tg, .slice sp mm.length sc, .bool dn] TR)).alloc (.cells #[.int .i64 16, .int .i64 0, .int .i64 0, .string ⟨#[]⟩, .bool false] TH) = W at *
    have a1 := Lib.cell_of_heap e1 1
    have a2 := Lib.cell_of_heap e1 2
    have a3 := Lib.cell_of_heap e1 3
    have a5 := Lib.cell_of_heap e1 5
    have b1 := Lib.cell_of_heap e2 1
    have b2 := Lib.cell_of_heap e2 2
    have b3 := Lib.cell_of_heap e2 3
    have b4 := Lib.cell_of_heap e2 4
    simp only [List.getElem?_toArray, List.getElem?_cons_zero, List.getElem?_cons_succ] at a1 a2 a3 a5 b1 b2 b3 b4
    have f1 : W.frozen? ⟨w.heap.size + 1, 1, none⟩ = false := frozen_of e2 _
    have f2 : W.frozen? ⟨w.heap.size + 1, 2, none⟩ = false := frozen_of e2 _
    have f3 : W.frozen? ⟨w.heap.size + 1, 3, none⟩ = false := frozen_of e2 _
    have f4 : W.frozen? ⟨w.heap.size + 1, 4, none⟩ = false := frozen_of e2 _
    have E1 : Hid (_ = _) := e1
    have E2 : Hid (_ = _) := e2
    clear e1 e2 hc3 hc4
    go_region
    all_goals
      have d2 : ((W.setCell ⟨w.heap.size + 1, 3, none⟩ (.string tg)).setCell ⟨w.heap.size + 1, 4, none⟩ (.bool dn)).drew.heap[w.heap.size + 1]? = some (.cells #[.int .i64 16, .int .i64 0, .int .i64 0, .string tg, .bool dn] TH) := heap_setCell (heap_setCell E2.out _) _
      have d1 : ((W.setCell ⟨w.heap.size + 1, 3, none⟩ (.string tg)).setCell ⟨w.heap.size + 1, 4, none⟩ (.bool dn)).drew.heap[w.heap.size]? = _ := (heap_setCell_other _ ⟨w.heap.size + 1, 4, none⟩ w.heap.size _ (by show w.heap.size ≠ w.heap.size + 1; omega)).trans ((heap_setCell_other W ⟨w.heap.size + 1, 3, none⟩ w.heap.size _ (by show w.heap.size ≠ w.heap.size + 1; omega)).trans E1.out)
      have HB2 : Hid (Below w.heap.size w ((W.setCell ⟨w.heap.size + 1, 3, none⟩ (.string tg)).setCell ⟨w.heap.size + 1, 4, none⟩ (.bool dn)).drew) := by
        have t : Turned W ((W.setCell ⟨w.heap.size + 1, 3, none⟩ (.string tg)).setCell ⟨w.heap.size + 1, 4, none⟩ (.bool dn)) (fun k => k = w.heap.size + 1) := (Turned.setCell (S := fun k => k = w.heap.size + 1) _ _ _ _ rfl).trans (Turned.setCell (S := fun k => k = w.heap.size + 1) _ _ _ _ rfl) (fun _ _ x => x)
        have hb := HB.out
        exact ⟨t.os.trans hb.os, t.tape.trans hb.tape, t.output.trans hb.output, Nat.le_trans hb.size t.size, fun k hk => (t.block k (Nat.lt_of_lt_of_le hk hb.size) (by omega)).trans (hb.block k hk)⟩
      clear a1 a2 a3 a5 b1 b2 b3 b4 f1 f2 f3 f4 E1 E2
      generalize ((W.setCell ⟨w.heap.size + 1, 3, none⟩ (.string tg)).setCell ⟨w.heap.size + 1, 4, none⟩ (.bool dn)).drew = V at *
      have hA : ∀ C j, (V.alloc C).cell? ⟨w.heap.size, j, none⟩ = V.cell? ⟨w.heap.size, j, none⟩ := fun C j => ((Below.refl _ V).alloc (Nat.le_refl _) C).cell (p := ⟨w.heap.size, j, none⟩) (lt_of_heap d1)
      have hA2 : ∀ C j, (V.alloc C).cell? ⟨w.heap.size + 1, j, none⟩ = V.cell? ⟨w.heap.size + 1, j, none⟩ := fun C j => ((Below.refl _ V).alloc (Nat.le_refl _) C).cell (p := ⟨w.heap.size + 1, j, none⟩) (lt_of_heap d2)
      have a0 := Lib.cell_of_heap d1 0
      have a1 := Lib.cell_of_heap d1 1
      have a2 := Lib.cell_of_heap d1 2
      have a3 := Lib.cell_of_heap d1 3
      have a4 := Lib.cell_of_heap d1 4
      have a5 := Lib.cell_of_heap d1 5
      have b0 := Lib.cell_of_heap d2 0
      have b1 := Lib.cell_of_heap d2 1
      have b2 := Lib.cell_of_heap d2 2
      have b3 := Lib.cell_of_heap d2 3
      have b4 := Lib.cell_of_heap d2 4
      simp only [List.getElem?_toArray, List.getElem?_cons_zero, List.getElem?_cons_succ] at a0 a1 a2 a3 a4 a5 b0 b1 b2 b3 b4
      clear d1 d2
      by_cases hm : 0 < mm.length
      all_goals cases X
      all_goals cases dn
      all_goals go_wp2
      all_goals go_ret
      all_goals exact ⟨bool_ret (by simp [hm]), HB2.out.alloc HB2.out.size _⟩
  · have b12 : (kd == 12) = false := by simpa using h12
    have b13 : (kd == 13) = false := by simpa using h13
    have b14 : (kd == 14) = false := by simpa using h14
    have b15 : (kd == 15) = false := by simpa using h15
    have b16 : (kd == 16) = false := by simpa using h16
    obtain ⟨X, hX⟩ : ∃ X, X = !(el == 0 && ln == 0 && tg.toList == ((⟨#[]⟩ : ByteArray)).toList && dn == false) := ⟨_, rfl⟩
    have hne : ∀ W, (binOp BinOp.neq TH (.agg #[.int .i64 kd, .int .i64 el, .int .i64 ln, .string tg, .bool dn]) (.agg #[.int .i64 kd, .int .i64 0, .int .i64 0, .string (⟨#[]⟩ : ByteArray), .bool false])).run Tryz.prog W = .ok (.bool X) W := fun W => by rw [hX]; exact neq_head _ _ _ _ _ _ _ _ _ W
    have hM : moreP ⟨kd, el, ln, tg, mm, dn⟩ = (X || (decide (0 < mm.length) && true)) := by rw [hX]; simp [moreP, moreHead, ownDone, recK, h12, h13, h14, h15, h16, b15, b16]
    rw [hM]
    clear hX hM
    by_cases hm : 0 < mm.length
    all_goals cases X
    all_goals go_enter Tryz.func76, Tryz.ntmps76
    all_goals go_wp2
    all_goals go_ret
    all_goals exact ⟨bool_ret (by simp [hm]), HB3.out _ _ _⟩
end
end Go.Proofs.YtlcghlfmaohfeaaGreat
