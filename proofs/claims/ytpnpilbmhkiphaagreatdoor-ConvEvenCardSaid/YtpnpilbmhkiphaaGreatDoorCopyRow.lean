/-
  A row copied: memory of its own.
-/
import Derived.Test.YtpnpilbmhkiphaaGreatDoorCopymem
import Derived.Test.YtpnpilbmhkiphaaGreatDoorRefEq
namespace Go.Proofs.YtpnpilbmhkiphaaGreatDoor
open Go.RowKit Go.Maps
set_option linter.unusedVariables false
set_option maxRecDepth 100000

theorem results_cell1 {fn : Func} {p : Tmp} {ty : TypeId} (h : fn.results = #[.cell p ty]) (tmps : Array Value) (P : Program) (w : World) :
    (results fn tmps).run P w = ((asAddr (tmps.getD p undef)).run P w).andThen fun a w₁ => (loadVar ty a).run P w₁ := by
  simp only [results, h]
  simp [Sem.run_bind, Result.andThen]
  try rfl
theorem ret_row1 {fn : Func} {R : Ending → World → Prop} {tmps : Array Value} {w : World} {g p : Nat} {cs : Array Value}
    (hres : fn.results = #[.cell p TR]) (hp : tmps.getD p undef = .pointer (some ⟨g, 0, none⟩)) (hg : w.heap[g]? = some (.cells cs TR (0, 0))) (hcs : cs.size = 6)
    (hR : R (.returned (.agg cs)) w) : bodyPost Tryz.prog fn R .ret ⟨tmps, []⟩ w := by
  refine bodyPost_ret ?_ rfl hR
  have hl := run_loadVar_row (P := Tryz.prog) w g TR TR cs (0, 0) _ hg Tryz.underlying67 rfl (by rw [hcs]; kernel_rfl)
  rw [results_cell1 hres]
  simp only [hp]
  simp [asAddr, Result.andThen, hl]

section
variable {w : World}
theorem copyRow_c {r : Rw} {s : Value} (hs : MemSl w s r.mem) (hn : r.mem.length * 32 ≤ 140737488355328) :
    Calls Tryz.prog 96 #[.agg (rwCells r s).toArray] w fun e w' => ∃ s', e = .returned (.agg (rwCells r s').toArray) ∧ w'.ownsRow w.heap.size TM 3 s' r.mem.length (memCells r.mem) ∧ Below w.heap.size w w' := by
  obtain ⟨kd, el, ln, tg, mm, dn⟩ := r
  simp only [rwCells] at *
  go_enter Tryz.func96, Tryz.ntmps96
  go_wp2_with fail
  have HB : Hid (Below w.heap.size w ((w.alloc (.cells #[.int .i64 kd, .int .i64 el, .int .i64 ln, .string tg, s, .bool dn] TR)).alloc (.cells #[.int .i64 0, .int .i64 0, .int .i64 0, .string ⟨#[]⟩, .slice none 0 0, .bool false] TR))) := ((Below.refl _ w).alloc (Nat.le_refl _) _).alloc (by simp) _
  have e1 : Hid (_ = _) := heap_s1 w (.cells #[.int .i64 kd, .int .i64 el, .int .i64 ln, .string tg, s, .bool dn] TR) (.cells #[.int .i64 0, .int .i64 0, .int .i64 0, .string ⟨#[]⟩, .slice none 0 0, .bool false] TR)
  have e2 : Hid (_ = _) := heap_s2 w (.cells #[.int .i64 kd, .int .i64 el, .int .i64 ln, .string tg, s, .bool dn] TR) (.cells #[.int .i64 0, .int .i64 0, .int .i64 0, .string ⟨#[]⟩, .slice none 0 0, .bool false] TR)
  have hsz : w.heap.size + 1 < ((w.alloc (.cells #[.int .i64 kd, .int .i64 el, .int .i64 ln, .string tg, s, .bool dn] TR)).alloc (.cells #[.int .i64 0, .int .i64 0, .int .i64 0, .string ⟨#[]⟩, .slice none 0 0, .bool false] TR)).heap.size := lt_of_heap e2.out
  generalize (w.alloc (.cells #[.int .i64 kd, .int .i64 el, .int .i64 ln, .string tg, s, .bool dn] TR)).alloc (.cells #[.int .i64 0, .int .i64 0, .int .i64 0, .string ⟨#[]⟩, .slice none 0 0, .bool false] TR) = W at *
  refine (copyMembers_any (hs.below HB.out) hn).mono ?_
  rintro e w1 ⟨s', rfl, hown, hb1⟩
  obtain ⟨sp, sc, rfl⟩ := slice_of_own hown
  have f1 := (hb1.block w.heap.size (by omega)).trans e1.out
  have f2 := (hb1.block (w.heap.size + 1) (by omega)).trans e2.out
  have a4 : w1.cell? ⟨w.heap.size, 4, none⟩ = some s := by rw [Lib.cell_of_heap f1]; rfl
  have fr4 : w1.frozen? ⟨w.heap.size, 4, none⟩ = false := frozen_of f1 4
  have F1 : Hid (_ = _) := f1
  have F2 : Hid (_ = _) := f2
  have HO : Hid (World.ownsRow _ _ _ _ _ _ _) := hown
  have HB1 : Hid (Below _ _ w1) := hb1
  clear f1 f2 hown hb1 e1 e2
  have G1 := heap_setCell (j := 4) F1.out (.slice sp mm.length sc)
  have G2 : Hid ((w1.setCell ⟨w.heap.size, 4, none⟩ (.slice sp mm.length sc)).heap[w.heap.size + 1]? = _) := (heap_setCell_other w1 ⟨w.heap.size, 4, none⟩ (w.heap.size + 1) (.slice sp mm.length sc) (by show w.heap.size + 1 ≠ w.heap.size; omega)).trans F2.out
  have c0 : (w1.setCell ⟨w.heap.size, 4, none⟩ (.slice sp mm.length sc)).cell? ⟨w.heap.size, 0, none⟩ = some (.int .i64 kd) := by rw [Lib.cell_of_heap G1]; rfl
  have c1 : (w1.setCell ⟨w.heap.size, 4, none⟩ (.slice sp mm.length sc)).cell? ⟨w.heap.size, 1, none⟩ = some (.int .i64 el) := by rw [Lib.cell_of_heap G1]; rfl
  have c2 : (w1.setCell ⟨w.heap.size, 4, none⟩ (.slice sp mm.length sc)).cell? ⟨w.heap.size, 2, none⟩ = some (.int .i64 ln) := by rw [Lib.cell_of_heap G1]; rfl
  have c3 : (w1.setCell ⟨w.heap.size, 4, none⟩ (.slice sp mm.length sc)).cell? ⟨w.heap.size, 3, none⟩ = some (.string tg) := by rw [Lib.cell_of_heap G1]; rfl
  have c4 : (w1.setCell ⟨w.heap.size, 4, none⟩ (.slice sp mm.length sc)).cell? ⟨w.heap.size, 4, none⟩ = some (.slice sp mm.length sc) := by rw [Lib.cell_of_heap G1]; rfl
  have c5 : (w1.setCell ⟨w.heap.size, 4, none⟩ (.slice sp mm.length sc)).cell? ⟨w.heap.size, 5, none⟩ = some (.bool dn) := by rw [Lib.cell_of_heap G1]; rfl
  have T1 : Hid (Below w.heap.size w (w1.setCell ⟨w.heap.size, 4, none⟩ (.slice sp mm.length sc))) := by
    have hb := HB.out.trans (HB1.out.mono HB.out.size)
    exact ⟨hb.os, hb.tape, hb.output, by simpa using hb.size, fun k hk => (heap_setCell_other w1 _ k _ (by show k ≠ w.heap.size; omega)).trans (hb.block k hk)⟩
  have HO2 : Hid (World.ownsRow (w1.setCell ⟨w.heap.size, 4, none⟩ (.slice sp mm.length sc)) W.heap.size TM 3 (.slice sp mm.length sc) mm.length (memCells mm)) :=
    ownsRow_turned HO.out (Turned.setCell (S := fun k => k = w.heap.size) w1 w.heap.size 4 _ rfl) (fun k hk e => by have := (ownsRow_at HO.out hk).1; omega)
  clear G1 F1 F2 HO HB1
  go_wp2_with ((with_reducible apply step_store G2.out); rfl; rfl; kernel_rfl; rfl; kernel_rfl)
  refine ret_row1 (p := 2) (g := w.heap.size + 1) rfl rfl (setRow_heap _ _ _ _ _ _ G2.out) rfl ?_
  refine ⟨_, rfl, ownsRow_base (ownsRow_turned HO2.out (Turned.setRow (S := fun k => k = w.heap.size + 1) _ _ _ rfl) (fun k hk e => by have := (ownsRow_at HO2.out hk).1; omega)) HB.out.size, ?_⟩
  exact below_setRow T1.out (by omega) _
end
end Go.Proofs.YtpnpilbmhkiphaaGreatDoor
