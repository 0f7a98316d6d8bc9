/-
  parts: the types that lie within a type.
-/
import Derived.Test.YtfdjghfgbibedaaDoorCopyRows
import Derived.Test.YtfdjghfgbibedaaDoorGraph
namespace Go.Proofs.YtfdjghfgbibedaaDoor
open Go.RowKit Go.Maps
set_option linter.unusedVariables false
set_option maxRecDepth 100000

abbrev TI : TypeId := 3
theorem infoTI : (Tryd.prog.info? 3).map (fun i => (i.zero, i.size, i.bytes)) = some (some (.int .i64 0), 1, 8) := by kernel_rfl
def intCells (l : List Int) : List Value := l.map fun x => .int .i64 x

section
variable {B : Nat} {w : World} {b mb : Nat} {v : Value} {rs : List (Rw × Value)} {ps : List (Value × Value)}
set_option maxHeartbeats 2000000 in
theorem parts_c (h : Tab B w b mb v rs ps) {i : Nat} {p : Rw × Value} (hp : rs[i]? = some p) (hs : p.1.mem.length ≤ 64) :
    Calls Tryd.prog 72 #[.pointer (some ⟨b, 0, none⟩), .int .i64 i] w fun e w' => ∃ s, e = .returned s ∧ w'.ownsRow w.heap.size 3 1 s (partsR p.1).length (intCells (partsR p.1)) ∧ Below w.heap.size w w' := by
  have hlt : i < rs.length := (List.getElem?_eq_some_iff.1 hp).1
  have hl := h.len
  have hc := h.c0
  obtain ⟨g, cap, hv, hcap, hcell⟩ := h.cell hp
  have hms := MemSl.of_own (h.mems p (List.mem_of_getElem? hp))
  obtain ⟨sp0, sc0, hs0⟩ := slice_of_own (h.mems p (List.mem_of_getElem? hp))
  obtain ⟨⟨kd, el, ln, tg, mm, dn⟩, s0⟩ := p
  simp only at hs0 hs
  subst hs0
  rw [hv] at hc
  have c0 := hcell 0 (by omega)
  have c1 := hcell 1 (by omega)
  have c2 := hcell 2 (by omega)
  have c3 := hcell 3 (by omega)
  have c4 := hcell 4 (by omega)
  have c5 := hcell 5 (by omega)
  simp only [rwCells, Nat.add_zero, List.getElem?_cons_zero, List.getElem?_cons_succ] at c0 c1 c2 c3 c4 c5
  clear hcell
  have hold := heap_r0 w (.cells #[.int .i64 0, .int .i64 0, .int .i64 0, .string ⟨#[]⟩, .slice none 0 0, .bool false] TR)
  have HB : Hid (Below w.heap.size w (w.alloc (.cells #[.int .i64 kd, .int .i64 el, .int .i64 ln, .string tg, .slice sp0 mm.length sc0, .bool dn] TR))) := (Below.refl _ w).alloc (Nat.le_refl _) _
  have E1 := heap_r0 w (.cells #[.int .i64 kd, .int .i64 el, .int .i64 ln, .string tg, .slice sp0 mm.length sc0, .bool dn] TR)
  clear hp h
  by_cases h14 : kd = 14
  · subst h14
    clear E1
    go_enter Tryd.func72, Tryd.ntmps72
    go_wp2_with (first | ((with_reducible apply step_store hold); rfl; rfl; kernel_rfl; rfl; kernel_rfl; rw [World.setRow_alloc_new]) | fail)
    go_ret
    refine ⟨_, rfl, ?_, ?_⟩
    · refine ⟨by simp [intCells, partsR], Or.inr ⟨w.heap.size + 1, 1, #[.int .i64 el], rfl, by omega, heap_s2 w _ _, Nat.le_refl _, by unfold maxLen; omega, rfl, ?_⟩⟩
      simp [intCells, partsR]
    · exact ((Below.refl _ w).alloc (Nat.le_refl _) _).alloc (by simp) _
  · have b14 : (kd == 14) = false := by simpa using h14
    have hpr : partsR ⟨kd, el, ln, tg, mm, dn⟩ = mm.map (·.type) := if_neg h14
    rw [hpr]
    clear hpr
    go_enter Tryd.func72, Tryd.ntmps72
    go_wp2_with (first | ((with_reducible apply step_store hold); rfl; rfl; kernel_rfl; rfl; kernel_rfl; rw [World.setRow_alloc_new]) | fail)
    obtain ⟨i0, hi, hz0, hz1, hz2⟩ := info_parts infoTI
    generalize w.alloc (.cells #[.int .i64 kd, .int .i64 el, .int .i64 ln, .string tg, .slice sp0 mm.length sc0, .bool dn] TR) = W at *
    clear c0 c1 c2 c3 c4 c5 hc hold E1
    go_loopw [6, 25] (fun l j wr => ∃ k : Nat, j = .int .i64 k ∧ k ≤ mm.length ∧ Hid (wr.ownsRow w.heap.size 3 1 l k (intCells ((mm.take k).map (·.type)))) ∧ Hid (Below w.heap.size w wr)) (fun _ j _ => mm.length - (intOf j).toNat)
    case atStart => exact ⟨0, rfl, Nat.zero_le _, World.ownsRow_nil _ _ _ _, HB⟩
    case round =>
      obtain ⟨k, rfl, hk, HO, HW⟩ := hrel
      by_cases hlt2 : k < mm.length
      · obtain ⟨m, hm⟩ : ∃ m, mm[k]? = some m := ⟨_, List.getElem?_eq_getElem hlt2⟩
        have HT : Hid (intCells ((mm.take (k + 1)).map (·.type)) = intCells ((mm.take k).map (·.type)) ++ [.int .i64 m.type]) := by
          show _ = _
          rw [List.take_add_one, hm]; simp [intCells]
        rcases hms with ⟨hh, rfl⟩ | ⟨ga, oa, cap', hh, hcap', hg', hcell'⟩
        · simp at hlt2
        · injection hh with hh1 hh2 hh3
          subst hh1 hh3
          have x := fun j hj => (HW.out.cell (p := ⟨ga, oa + k * 3 + j, none⟩) hg').trans (hcell' k m hm j hj)
          have a0 := x 0 (by omega)
          have a1 := x 1 (by omega)
          have a2 := x 2 (by omega)
          simp only [mbCells, Nat.add_zero, List.getElem?_cons_zero, List.getElem?_cons_succ] at a0 a1 a2
          clear x hcell' hm hh2
          obtain ⟨lp, lc, hlv⟩ := slice_of_own HO.out
          have H3 : Hid (World.ownsRow ((wr.alloc (.cells #[.string m.name, .int .i64 m.type, .int .i64 m.bits] TM)).alloc (.cells #[.int .i64 m.type] 3)) w.heap.size 3 1 u6 k (intCells ((mm.take k).map (·.type)))) :=
            ownsRow_turned HO.out ((Turned.alloc _ _ (fun _ => False)).trans (Turned.alloc _ _ (fun _ => False)) (fun _ _ x => x)) (fun _ _ hf => hf)
          have HB3 : Hid (Below w.heap.size w ((wr.alloc (.cells #[.string m.name, .int .i64 m.type, .int .i64 m.bits] TM)).alloc (.cells #[.int .i64 m.type] 3))) := (HW.out.alloc HW.out.size _).alloc (by simp; have := HW.out.size; omega) _
          have HCN : Hid (∀ j u, ([.int .i64 m.type] : List Value)[j]? = some u → ((wr.alloc (.cells #[.string m.name, .int .i64 m.type, .int .i64 m.bits] TM)).alloc (.cells #[.int .i64 m.type] 3)).cell? ((⟨wr.heap.size + 1, 0, none⟩ : Addr).add j) = some u) := by
            intro j u hj
            have := cells_new (wr.alloc (.cells #[.string m.name, .int .i64 m.type, .int .i64 m.bits] TM)) #[.int .i64 m.type] 3 j u hj
            rw [show (wr.alloc (.cells #[.string m.name, .int .i64 m.type, .int .i64 m.bits] TM)).heap.size = wr.heap.size + 1 by simp] at this
            exact this
          have hold := heap_r0 wr (.cells #[.string ⟨#[]⟩, .int .i64 0, .int .i64 0] TM)
          go_wp2_with (first | ((with_reducible apply step_store hold); rfl; rfl; kernel_rfl; rfl; kernel_rfl; rw [World.setRow_alloc_new]) | (at_builtin; go_must (refine wpList_append_own_at _ rfl (.tmp 29) (.tmp 32) 98 rfl w.heap.size 3 i0 _ 1 8 Tryd.underlying98 hi hz0 hz1 hz2 rfl (by decide) u6 k _ rfl H3.out ⟨wr.heap.size + 1, 0, none⟩ 1 1 [.int .i64 m.type] rfl rfl HCN.out (by simp [Value.oneCell']) (by unfold maxLen; omega) (by omega) (by simp; have := HW.out.size; omega) ?_); intro l' w3 hown hgrow hnil hat; obtain ⟨p', cap3, rfl⟩ := slice_of_own hown; have HO3 : Hid (World.ownsRow _ _ _ _ _ _ _) := hown; have HG : Hid (World.grownBy _ _ _) := hgrow; clear hown hgrow hnil hat))
          refine ⟨⟨k + 1, by go_num, by omega, ?_, ?_⟩, by simp [intOf]; omega⟩
          · show World.ownsRow _ _ _ _ _ _ _
            rw [HT.out]; exact HO3.out
          · have ht : Turned ((wr.alloc (.cells #[.string m.name, .int .i64 m.type, .int .i64 m.bits] TM)).alloc (.cells #[.int .i64 m.type] 3)) w3 (fun j => w.heap.size ≤ j) := Turned.of_grown HG.out (fun j hj => (ownsRow_at H3.out hj).1)
            exact ⟨ht.os.trans HB3.out.os, ht.tape.trans HB3.out.tape, ht.output.trans HB3.out.output, Nat.le_trans HB3.out.size ht.size, fun j hj => (ht.block j (Nat.lt_of_lt_of_le hj HB3.out.size) (by omega)).trans (HB3.out.block j hj)⟩
      · go_wp2
        go_ret
        obtain rfl : k = mm.length := by omega
        refine ⟨_, rfl, ?_, HW.out⟩
        have := HO.out
        simpa using this
end
end Go.Proofs.YtfdjghfgbibedaaDoor
