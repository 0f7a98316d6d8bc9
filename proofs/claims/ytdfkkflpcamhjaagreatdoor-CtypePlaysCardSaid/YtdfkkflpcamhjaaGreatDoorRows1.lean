/-
  Rows and Row of a table; the law's Like.
-/
import Derived.Test.YtdfkkflpcamhjaaGreatDoorMCop
namespace Go.Proofs.YtdfkkflpcamhjaaGreatDoor
open Go.RowKit Go.Maps
set_option linter.unusedVariables false
set_option maxRecDepth 100000

def Small (rs : List (Rw × Value)) : Prop := ∀ p ∈ rs, p.1.mem.length ≤ 64

section
variable {B : Nat} {w : World} {b mb : Nat} {v : Value} {rs : List (Rw × Value)} {ps : List (Value × Value)}

theorem Tab.rowSl (h : Tab B w b mb v rs ps) : RowSl w v rs := RowSl.of_own h.rows h.mems

theorem rows_c (h : Tab B w b mb v rs ps) (h0 : 0 < rs.length) (hs : Small rs) :
    Calls Tryz.prog 9 #[.pointer (some ⟨b, 0, none⟩)] w fun e w' => ∃ v' rs', e = .returned v' ∧ rs'.map (·.1) = rs.map (·.1) ∧ w'.ownsRow w.heap.size TR 6 v' rs'.length (allCells rs') ∧
      (∀ p ∈ rs', w'.ownsRow w.heap.size TM 3 p.2 p.1.mem.length (memCells p.1.mem)) ∧ Below w.heap.size w w' := by
  have c1 := made_c h h0
  have c2 := copyRows_c h.rowSl (by have := h.len; omega) (fun p hp => by have := hs p hp; omega)
  have hc := h.c0
  have h1 := not_t
  go_enter Tryz.func9, Tryz.ntmps9
  go_wp2_with (first | (go_at_call 41; refine c1.mono ?_; rintro e w' ⟨rfl, rfl⟩) | (go_at_call 42; refine c2.mono ?_; rintro e w' ⟨v', rs', rfl, x1, x2, x3, x4⟩))
  go_ret
  exact ⟨_, _, rfl, x1, x2, x3, x4⟩

set_option maxHeartbeats 2000000 in
theorem row_c (h : Tab B w b mb v rs ps) {i : Nat} {p : Rw × Value} (hp : rs[i]? = some p) (hs : Small rs) :
    Calls Tryz.prog 29 #[.pointer (some ⟨b, 0, none⟩), .int .i64 i] w fun e w' => ∃ s', e = .returned (.tuple #[.agg (rwCells p.1 s').toArray, .bool true]) ∧
      w'.ownsRow w.heap.size TM 3 s' p.1.mem.length (memCells p.1.mem) ∧ Below w.heap.size w w' := by
  have hlt : i < rs.length := (List.getElem?_eq_some_iff.1 hp).1
  have hl := h.len
  have h1 := not_t
  have hB : Below w.heap.size w (w.alloc (.cells #[.int .i64 0, .int .i64 0, .int .i64 0, .string ⟨#[]⟩, .slice none 0 0, .bool false] TR)) := (Below.refl _ w).alloc (Nat.le_refl _) _
  have e1 : Hid (_ = _) := heap_r0 w (.cells #[.int .i64 0, .int .i64 0, .int .i64 0, .string ⟨#[]⟩, .slice none 0 0, .bool false] TR)
  have hsz : w.heap.size < (w.alloc (.cells #[.int .i64 0, .int .i64 0, .int .i64 0, .string ⟨#[]⟩, .slice none 0 0, .bool false] TR)).heap.size := lt_of_heap e1.out
  have h2 := h.keptB hB
  have HB : Hid (Below _ _ _) := hB
  have c1 := has_c h2 (by omega) i
  rw [hasP_nat hlt] at c1
  have hc := h2.c0
  obtain ⟨g, cap, hv, hcap, hcell⟩ := h2.cell hp
  have cR := copyRow_c (r := p.1) (s := p.2) (MemSl.of_own (h2.mems p (List.mem_of_getElem? hp))) (by have := hs p (List.mem_of_getElem? hp); omega)
  obtain ⟨sp0, sn0, sc0, hs0⟩ := (MemSl.of_own (h2.mems p (List.mem_of_getElem? hp))).sl
  obtain ⟨⟨kd, el, ln, tg, mm, dn⟩, s0⟩ := p
  simp only at hs0
  subst hs0
  rw [hv] at hc
  have c0 := hcell 0 (by omega)
  have c1' := hcell 1 (by omega)
  have c2 := hcell 2 (by omega)
  have c3 := hcell 3 (by omega)
  have c4 := hcell 4 (by omega)
  have c5 := hcell 5 (by omega)
  simp only [rwCells, Nat.add_zero, List.getElem?_cons_zero, List.getElem?_cons_succ] at c0 c1' c2 c3 c4 c5 cR ⊢
  clear hcell h h2 hp hB hs
  go_enter Tryz.func29, Tryz.ntmps29
  go_wp2_with fail
  generalize w.alloc (.cells #[.int .i64 0, .int .i64 0, .int .i64 0, .string ⟨#[]⟩, .slice none 0 0, .bool false] TR) = W at *
  refine c1.mono ?_
  rintro e w' ⟨rfl, hw⟩
  rw [hw]
  clear hw w' c1
  go_wp2_with fail
  refine cR.mono ?_
  rintro e w2 ⟨s', rfl, hown, hb2⟩
  obtain ⟨sp, sc, rfl⟩ := slice_of_own hown
  have e2 : Hid (w2.heap[w.heap.size]? = _) := (hb2.block _ hsz).trans e1.out
  have HO : Hid (World.ownsRow _ _ _ _ _ _ _) := hown
  have HB2 : Hid (Below _ _ w2) := hb2
  clear hown hb2 cR c0 c1' c2 c3 c4 c5 hc e1
  go_wp2_with ((with_reducible apply step_store e2.out); rfl; rfl; kernel_rfl; rfl; kernel_rfl)
  refine ret_rowb (p := 4) (q := 5) rfl rfl (setRow_heap _ _ _ _ _ _ e2.out) rfl ?_
  refine ⟨_, rfl, ownsRow_base (ownsRow_turned HO.out (Turned.setRow (S := fun k => k = w.heap.size) _ _ _ rfl) (fun k hk e => by have := (ownsRow_at HO.out hk).1; omega)) HB.out.size, ?_⟩
  exact below_setRow (HB.out.trans (HB2.out.mono HB.out.size)) (Nat.le_refl _) _
end
end Go.Proofs.YtdfkkflpcamhjaaGreatDoor
