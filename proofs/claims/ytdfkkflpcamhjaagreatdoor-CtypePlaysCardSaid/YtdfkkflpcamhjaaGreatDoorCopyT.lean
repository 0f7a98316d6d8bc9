/-
  Copy: a table of its own.
-/
import Derived.Test.YtdfkkflpcamhjaaGreatDoorRows1
import Derived.Shelf.SlMaps.Clone
namespace Go.Proofs.YtdfkkflpcamhjaaGreatDoor
open Go.RowKit Go.Maps
set_option linter.unusedVariables false
set_option maxRecDepth 100000

section
variable {B : Nat} {w : World} {b mb : Nat} {v : Value} {rs : List (Rw × Value)} {ps : List (Value × Value)}
set_option maxHeartbeats 2000000 in
theorem clone_c {es : Array MapEntry} {ck : Nat} (hb : w.heap[mb]? = some (.map es ck)) :
    Calls Tryz.prog 62 #[.map (some mb)] w fun e w' => e = .returned (.map (some w.heap.size)) ∧ w' = w.alloc (.map es ck) := by
  have hq := fun w => run_eql_map_nil_sl (P := Tryz.prog) w 52 _ _ (some mb) Tryz.underlying52
  go_enter Tryz.func62, Tryz.ntmps62
  go_wp2
  rw [run_callFunc_extern Tryz.func82 (by kernel_rfl) (by kernel_rfl) (by kernel_rfl) (e := Extern.MapsClone.clone) (by kernel_rfl), run_maps_clone_sl w 52 hb]
  simp only [Result.andThen]
  rw [Oper.upon_value]
  go_wp2
  rw [run_typeAssert_map_sl _ 52 20 _ _ _ Tryz.underlying52]
  simp only [Result.andThen]
  rw [Oper.upon_value]
  go_wp2
  go_ret
  exact ⟨rfl, rfl⟩

set_option maxHeartbeats 2000000 in
theorem copyT_c (h : Tab B w b mb v rs ps) (h0 : 0 < rs.length) (hs : Small rs) :
    Calls Tryz.prog 28 #[.pointer (some ⟨b, 0, none⟩)] w fun e w' => ∃ b2 mb2 v2 rs2, e = .returned (.pointer (some ⟨b2, 0, none⟩)) ∧ rs2.map (·.1) = rs.map (·.1) ∧ Tab w.heap.size w' b2 mb2 v2 rs2 ps ∧ Below w.heap.size w w' := by
  have c1 := made_c h h0
  have c2 := fun X (hX : Below w.heap.size w X) => copyRows_c (h.keptB hX).rowSl (by have := h.len; omega) (fun p hp => by have := hs p hp; omega)
  have hc0 := h.c0
  have hc1 := h.c1
  have hbl := lt_of_heap h.tab
  obtain ⟨es, ck, hm, hes⟩ := h.map
  have hml := lt_of_heap hm
  have h1 := not_t
  have HH : Hid (Tab _ _ _ _ _ _ _) := h
  have HM : Hid (w.heap[mb]? = some (.map es ck)) := hm
  obtain ⟨vp, vc, hv, _⟩ := h.sl
  rw [hv] at hc0 c2
  clear h hm
  go_enter Tryz.func28, Tryz.ntmps28
  go_wp2_with fail
  refine c1.mono ?_
  rintro e w' ⟨rfl, hw⟩
  rw [hw]
  clear hw w' c1
  go_wp2
  have hbt : ∀ (p : Option Addr) (n c m : Nat) (W : World), (Instr.build 54 #[(0, .slice p n c), (1, .map (some m))]).run Tryz.prog W = .ok (.agg #[.slice p n c, .map (some m)]) W := fun p n c m W => by kernel_rfl
  go_region_with (first
    | (go_at_call 42; refine (c2 _ (by exact below_drew _ w)).mono ?_; rintro e w2 ⟨v', rs', rfl, x1, x2, x3, x4⟩; obtain ⟨p', c', rfl⟩ := slice_of_own x2; have HB2 : Hid (Below w.heap.size w w2) := (below_drew _ w).trans x4; have q1 : w2.cell? ⟨b, 1, none⟩ = some (.map (some mb)) := (HB2.out.cell (p := ⟨b, 1, none⟩) hbl).trans hc1; have HM2 : Hid (w2.heap[mb]? = some (.map es ck)) := (HB2.out.block mb hml).trans HM.out; have X1 : Hid (rs'.map (·.1) = rs.map (·.1)) := x1; have X2 : Hid (World.ownsRow w2 w.heap.size TR 6 (.slice p' rs'.length c') rs'.length (allCells rs')) := x2; have X3 : Hid (∀ p ∈ rs', w2.ownsRow w.heap.size TM 3 p.2 p.1.mem.length (memCells p.1.mem)) := x3; clear x1 x2 x3 x4)
    | (go_at_call 62; refine (clone_c HM2.out).mono ?_; rintro e w3 ⟨rfl, rfl⟩))
  all_goals go_wp2
  all_goals go_ret
  all_goals
    have T : Turned w2 ((w2.alloc (.map es ck)).alloc (.cells #[.slice p' rs'.length c', .map (some w2.heap.size)] 54)) (fun _ => False) := (Turned.alloc _ _ _).trans (Turned.alloc _ _ _) (fun _ _ x => x)
    refine ⟨w2.heap.size + 1, w2.heap.size, .slice p' rs'.length c', rs', rfl, X1.out, ?_, ?_⟩
  all_goals first
    | exact (HB2.out.alloc HB2.out.size _).alloc (by simp; have := HB2.out.size; omega) _
    | exact ⟨by have := HB2.out.size; omega, HB2.out.size, heap_s2 w2 _ _, ownsRow_turned X2.out T (fun _ _ hf => hf), fun p hp => ownsRow_turned (X3.out p hp) T (fun _ _ hf => hf), ⟨es, ck, heap_s1 w2 _ _, hes⟩, HH.out.wf, by have h1 := HH.out.len; have h2 := congrArg List.length X1.out; simp at h2; omega⟩
end
end Go.Proofs.YtdfkkflpcamhjaaGreatDoor
