/-
  operandOf: a type as an operand.
-/
import Derived.Test.YtpnpilbmhkiphaaDoorCvA
namespace Go.Proofs.YtpnpilbmhkiphaaDoor
open Go.RowKit Go.Maps
set_option linter.unusedVariables false
set_option maxRecDepth 100000

theorem ret_st {fn : Func} {R : Ending → World → Prop} {tmps : Array Value} {w : World} {g p q : Nat} {cs : Array Value} {ty : TypeId}
    (hres : fn.results = #[.cell p ty, .tmp q]) (hp : tmps.getD p undef = .pointer (some ⟨g, 0, none⟩)) (hl : (loadVar ty ⟨g, 0, none⟩).run Tryd.prog w = .ok (.agg cs) w)
    (hR : R (.returned (.tuple #[.agg cs, tmps.getD q undef])) w) : bodyPost Tryd.prog fn R .ret ⟨tmps, []⟩ w := by
  refine bodyPost_ret ?_ rfl hR
  rw [results_cell2 hres]
  simp only [hp]
  simp [asAddr, Result.andThen, hl]

section
variable {B : Nat} {w : World} {b mb : Nat} {v : Value} {rs : List (Rw × Value)} {ps : List (Value × Value)}
set_option maxHeartbeats 1000000 in
theorem row_none (h : Tab B w b mb v rs ps) (h0 : 0 < rs.length) (id : Int) (hid : hasP rs.length id = false) :
    Calls Tryd.prog 76 #[.pointer (some ⟨b, 0, none⟩), .int .i64 id] w fun e w' => e = .returned (.tuple #[zeroRow, .bool false]) ∧ Below w.heap.size w w' := by
  have hB : Below w.heap.size w (w.alloc (.cells #[.int .i64 0, .int .i64 0, .int .i64 0, .string ⟨#[]⟩, .slice none 0 0, .bool false] 70)) := (Below.refl _ w).alloc (Nat.le_refl _) _
  have c := has_c (h.keptB hB) h0 id
  rw [hid] at c
  have h1 := not_f
  have hbz : ∀ W : World, (Instr.build 70 #[]).run Tryd.prog W = .ok (.agg #[.int .i64 0, .int .i64 0, .int .i64 0, .string ⟨#[]⟩, .slice none 0 0, .bool false]) W := fun W => by kernel_rfl
  clear h
  go_enter Tryd.func76, Tryd.ntmps76
  go_wp2_with fail
  refine c.mono ?_
  rintro e w' ⟨rfl, rfl⟩
  have hold := heap_r0 w (.cells #[.int .i64 0, .int .i64 0, .int .i64 0, .string ⟨#[]⟩, .slice none 0 0, .bool false] 70)
  go_wp2_with ((with_reducible apply step_store hold); rfl; rfl; kernel_rfl; rfl; kernel_rfl)
  refine ret_rowb (p := 4) (q := 5) ?_ ?_ (setRow_heap _ _ _ _ _ _ hold) ?_ ?_
  · rfl
  · rfl
  · rfl
  · exact ⟨rfl, below_setRow hB (Nat.le_refl _) _⟩

theorem build_O (i k e n : Int) (t : ByteArray) (p : Option Addr) (a u : Nat) (d : Bool) (W : World) : (Instr.build TO #[(0, .int .i64 i), (1, .agg #[.int .i64 k, .int .i64 e, .int .i64 n, .string t, .slice p a u, .bool d])]).run Tryd.prog W = .ok (.agg #[.int .i64 i, .int .i64 k, .int .i64 e, .int .i64 n, .string t, .slice p a u, .bool d]) W := by kernel_rfl
theorem build_O0 (W : World) : (Instr.build TO #[]).run Tryd.prog W = .ok (.agg #[.int .i64 0, .int .i64 0, .int .i64 0, .int .i64 0, .string ⟨#[]⟩, .slice none 0 0, .bool false]) W := by kernel_rfl
def zeroOp : Value := .agg #[.int .i64 0, .int .i64 0, .int .i64 0, .int .i64 0, .string ⟨#[]⟩, .slice none 0 0, .bool false]

set_option maxHeartbeats 2000000 in
theorem operandOf_c (h : Tab B w b mb v rs ps) (hs : Small rs) {i : Nat} {p : Rw × Value} (hp : rs[i]? = some p) :
    Calls Tryd.prog 46 #[.pointer (some ⟨b, 0, none⟩), .int .i64 i] w fun e w' => (∃ q a u, e = .returned (.tuple #[.agg #[.int .i64 i, .int .i64 p.1.kind, .int .i64 p.1.elem, .int .i64 p.1.len, .string p.1.tag, .slice q a u, .bool p.1.done], .int .i64 0])) ∧ Below w.heap.size w w' := by
  have hlt : i < rs.length := (List.getElem?_eq_some_iff.1 hp).1
  have hl := h.len
  have h1 := not_t
  have hB : Below w.heap.size w (w.alloc (.cells #[.int .i64 0, .int .i64 0, .int .i64 0, .int .i64 0, .string ⟨#[]⟩, .slice none 0 0, .bool false] TO)) := below1 w _
  have E0 : Hid (_ = _) := heap_r0 w (.cells #[.int .i64 0, .int .i64 0, .int .i64 0, .int .i64 0, .string ⟨#[]⟩, .slice none 0 0, .bool false] TO)
  have hsz := lt_of_heap E0.out
  have h2 := h.keptB hB
  have HB : Hid (Below _ _ _) := hB
  have c1 := len_c h2 (by omega)
  have c2 := row_c h2 hp hs
  have hne : ((rs.length : Int) == 0) = false := beq_eq_false_iff_ne.2 (by omega)
  obtain ⟨⟨kd, el, ln, tg, mm, dn⟩, s0⟩ := p
  simp only [rwCells] at c2
  have hbo := build_O
  clear h h2 hB hp hs
  go_enter Tryd.func46, Tryd.ntmps46
  go_wp2_with fail
  generalize w.alloc (.cells #[.int .i64 0, .int .i64 0, .int .i64 0, .int .i64 0, .string ⟨#[]⟩, .slice none 0 0, .bool false] TO) = W at *
  refine c1.mono ?_
  rintro e w' ⟨rfl, hw⟩
  rw [hw]
  clear hw w' c1
  go_wp2_with fail
  refine c2.mono ?_
  rintro e w2 ⟨s', rfl, hown, hb2⟩
  obtain ⟨sp, sc, rfl⟩ := slice_of_own hown
  have hold := heap_r0 w2 (.cells #[.int .i64 0, .int .i64 0, .int .i64 0, .string ⟨#[]⟩, .slice none 0 0, .bool false] TR)
  have E2 : w2.heap[w.heap.size]? = some (.cells #[.int .i64 0, .int .i64 0, .int .i64 0, .int .i64 0, .string ⟨#[]⟩, .slice none 0 0, .bool false] TO (0, 0)) := (hb2.block _ hsz).trans E0.out
  have hlt2 := lt_of_heap E2
  have hB3 : Below w2.heap.size w2 (w2.alloc (.cells #[.int .i64 kd, .int .i64 el, .int .i64 ln, .string tg, .slice sp mm.length sc, .bool dn] TR)) := below1 w2 _
  have E3 : Hid (_ = _) := (hB3.block _ hlt2).trans E2
  have HB3 : Hid (Below w.heap.size w (w2.alloc (.cells #[.int .i64 kd, .int .i64 el, .int .i64 ln, .string tg, .slice sp mm.length sc, .bool dn] TR))) := HB.out.trans ((hb2.trans (hB3.mono hb2.size)).mono HB.out.size)
  clear hown hb2 c2 E2 hB3 E0
  go_wp2_with (first | ((with_reducible apply step_store hold); rfl; rfl; kernel_rfl; rfl; kernel_rfl; rw [World.setRow_alloc_new]) | ((with_reducible apply step_store E3.out); rfl; rfl; kernel_rfl; rfl; kernel_rfl))
  refine ret_st (p := 4) (q := 5) rfl rfl (run_loadVar_row _ _ _ _ _ (0, 0) _ (setRow_heap _ _ _ _ _ _ E3.out) Tryd.underlying76 rfl (by kernel_rfl)) ?_
  exact ⟨⟨_, _, _, rfl⟩, below_setRow HB3.out (Nat.le_refl _) _⟩
set_option maxHeartbeats 2000000 in
theorem operandOf_bad (h : Tab B w b mb v rs ps) (h0 : 0 < rs.length) (id : Int) (hid : hasP rs.length id = false) :
    Calls Tryd.prog 46 #[.pointer (some ⟨b, 0, none⟩), .int .i64 id] w fun e w' => e = .returned (.tuple #[zeroOp, .int .i64 30]) ∧ Below w.heap.size w w' := by
  have hl := h.len
  have h1 := not_f
  have hB : Below w.heap.size w (w.alloc (.cells #[.int .i64 0, .int .i64 0, .int .i64 0, .int .i64 0, .string ⟨#[]⟩, .slice none 0 0, .bool false] TO)) := below1 w _
  have E0 : Hid (_ = _) := heap_r0 w (.cells #[.int .i64 0, .int .i64 0, .int .i64 0, .int .i64 0, .string ⟨#[]⟩, .slice none 0 0, .bool false] TO)
  have hsz := lt_of_heap E0.out
  have h2 := h.keptB hB
  have HB : Hid (Below _ _ _) := hB
  have c1 := len_c h2 h0
  have c2 := row_none h2 h0 id hid
  unfold zeroRow at c2
  unfold zeroOp
  have hne : ((rs.length : Int) == 0) = false := beq_eq_false_iff_ne.2 (by omega)
  have hbo := build_O0
  clear h h2 hB
  go_enter Tryd.func46, Tryd.ntmps46
  go_wp2_with fail
  generalize w.alloc (.cells #[.int .i64 0, .int .i64 0, .int .i64 0, .int .i64 0, .string ⟨#[]⟩, .slice none 0 0, .bool false] TO) = W at *
  refine c1.mono ?_
  rintro e w' ⟨rfl, hw⟩
  rw [hw]
  clear hw w' c1
  go_wp2_with fail
  refine c2.mono ?_
  rintro e w2 ⟨rfl, hb2⟩
  have hold := heap_r0 w2 (.cells #[.int .i64 0, .int .i64 0, .int .i64 0, .string ⟨#[]⟩, .slice none 0 0, .bool false] TR)
  have E2 : w2.heap[w.heap.size]? = some (.cells #[.int .i64 0, .int .i64 0, .int .i64 0, .int .i64 0, .string ⟨#[]⟩, .slice none 0 0, .bool false] TO (0, 0)) := (hb2.block _ hsz).trans E0.out
  have hlt2 := lt_of_heap E2
  have hB3 : Below w2.heap.size w2 (w2.alloc (.cells #[.int .i64 0, .int .i64 0, .int .i64 0, .string ⟨#[]⟩, .slice none 0 0, .bool false] TR)) := below1 w2 _
  have E3 : Hid (_ = _) := (hB3.block _ hlt2).trans E2
  have HB3 : Hid (Below w.heap.size w (w2.alloc (.cells #[.int .i64 0, .int .i64 0, .int .i64 0, .string ⟨#[]⟩, .slice none 0 0, .bool false] TR))) := HB.out.trans ((hb2.trans (hB3.mono hb2.size)).mono HB.out.size)
  clear hb2 c2 E2 hB3 E0
  go_wp2_with (first | ((with_reducible apply step_store hold); rfl; rfl; kernel_rfl; rfl; kernel_rfl; rw [World.setRow_alloc_new]) | ((with_reducible apply step_store E3.out); rfl; rfl; kernel_rfl; rfl; kernel_rfl))
  refine ret_st (p := 4) (q := 5) rfl rfl (run_loadVar_row _ _ _ _ _ (0, 0) _ (setRow_heap _ _ _ _ _ _ E3.out) Tryd.underlying76 rfl (by kernel_rfl)) ?_
  exact ⟨rfl, below_setRow HB3.out (Nat.le_refl _) _⟩
end
section
variable {w : World}
set_option maxHeartbeats 2000000 in
theorem operandOf_no {v : Value} (h : NoT v w) (id : Int) :
    Calls Tryd.prog 46 #[v, .int .i64 id] w fun e w' => e = .returned (.tuple #[zeroOp, .int .i64 1]) ∧ Below w.heap.size w w' := by
  have hB : Below w.heap.size w (w.alloc (.cells #[.int .i64 0, .int .i64 0, .int .i64 0, .int .i64 0, .string ⟨#[]⟩, .slice none 0 0, .bool false] TO)) := below1 w _
  have E0 : Hid (_ = _) := heap_r0 w (.cells #[.int .i64 0, .int .i64 0, .int .i64 0, .int .i64 0, .string ⟨#[]⟩, .slice none 0 0, .bool false] TO)
  have HB : Hid (Below _ _ _) := hB
  have c1 := len_no (noT_below h hB)
  unfold zeroOp
  have hbo := build_O0
  clear h hB
  go_enter Tryd.func46, Tryd.ntmps46
  go_wp2_with fail
  generalize w.alloc (.cells #[.int .i64 0, .int .i64 0, .int .i64 0, .int .i64 0, .string ⟨#[]⟩, .slice none 0 0, .bool false] TO) = W at *
  refine c1.mono ?_
  rintro e w' ⟨rfl, hw⟩
  rw [hw]
  clear hw w' c1
  go_wp2_with ((with_reducible apply step_store E0.out); rfl; rfl; kernel_rfl; rfl; kernel_rfl)
  refine ret_st (p := 4) (q := 5) rfl rfl (run_loadVar_row _ _ _ _ _ (0, 0) _ (setRow_heap _ _ _ _ _ _ E0.out) Tryd.underlying76 rfl (by kernel_rfl)) ?_
  exact ⟨rfl, below_setRow HB.out (Nat.le_refl _) _⟩
end
end Go.Proofs.YtpnpilbmhkiphaaDoor
