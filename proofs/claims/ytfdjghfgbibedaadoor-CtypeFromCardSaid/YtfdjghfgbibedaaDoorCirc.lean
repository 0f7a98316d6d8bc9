/-
  circular: has a type itself within it?
-/
import Derived.Test.YtfdjghfgbibedaaDoorBack
namespace Go.Proofs.YtfdjghfgbibedaaDoor
open Go.RowKit Go.Maps
set_option linter.unusedVariables false
set_option maxRecDepth 100000

def CircP (P : Nat → List Nat) (n : Nat) (r : Bool) : Prop := if r then Cyc P n else Acyc P n

section
variable {B : Nat} {w : World} {b mb : Nat} {v : Value} {rs : List (Rw × Value)} {ps : List (Value × Value)}
set_option maxHeartbeats 4000000 in
theorem circular_c (h : Tab B w b mb v rs ps) (hin : ∀ (i : Nat) (p : Rw × Value), rs[i]? = some p → ∀ x ∈ partsR p.1, 0 ≤ x ∧ x < rs.length) (hsm : ∀ p : Rw × Value, p ∈ rs → p.1.mem.length ≤ 64) :
    Calls Tryd.prog 42 #[.pointer (some ⟨b, 0, none⟩)] w fun e w' => ∃ r : Bool, e = .returned (.bool r) ∧ Below w.heap.size w w' ∧ CircP (partsAt rs) rs.length r := by
  obtain ⟨i0, hi, hz0, hz1, hz2⟩ := info_parts infoTI
  have hl := h.len
  have hc := h.c0
  obtain ⟨p, cap, hv, hcap⟩ := h.sl
  rw [hv] at hc
  have hmf : ∀ (x y z : Value) (W : World), (Instr.makeFunc (Fn.func FB) #[] #[x, y, z]).run Tryd.prog W = .ok (.func (.func FB) #[] #[x, y, z]) W := fun _ _ _ _ => rfl
  have hmk := fun W : World => run_make (P := Tryd.prog) W 98 3 i0 (.int .i64 0) Tryd.underlying98 hi hz0 .i64 .i64 rs.length rs.length (by omega) (by omega) (by rw [hz2]; omega) (by omega)
  rw [hz1] at hmk
  have hm0 : madeCells (Value.int .i64 0).cells rs.length = stCells rs.length (fun _ => 0) := by
    apply Array.ext'
    show (madeCells #[.int .i64 0] rs.length).toList = _
    rw [toList_madeCells_one]
    simp [stCells]
    apply List.ext_getElem?
    intro j
    by_cases hj : j < rs.length
    · simp [hj]
    · simp [hj]
  simp only [Int.toNat_natCast, Nat.mul_one, hm0] at hmk
  clear hm0
  have hA : ∀ (C : Obj), (w.alloc C).cell? ⟨b, 0, none⟩ = some (.slice p rs.length cap) := fun C => by rw [← hv]; exact (h.alloc C).c0
  have HH : Hid (Tab _ _ _ _ _ _ _) := h
  have HIN : Hid _ := hin
  have HSM : Hid _ := hsm
  clear h hin hsm
  obtain ⟨W4, hW4⟩ : ∃ W, W = (((w.alloc (.cells #[.pointer (some ⟨b, 0, none⟩)] 24)).alloc (.cells (stCells rs.length (fun _ => 0)) 3)).alloc (.cells #[.slice (some ⟨w.heap.size + 1, 0, none⟩) rs.length rs.length] 98)).alloc (.cells #[.nilFunc] 78) := ⟨_, rfl⟩
  have HB4 : Hid (Below w.heap.size w W4) := by rw [hW4]; exact ((((Below.refl _ w).alloc (Nat.le_refl _) _).alloc (by simp) _).alloc (by simp; omega) _).alloc (by simp; omega) _
  have g0 : W4.heap[w.heap.size]? = some (.cells #[.pointer (some ⟨b, 0, none⟩)] 24 (0, 0)) := by
    rw [hW4]; show ((((w.heap.push _).push _).push _).push _)[w.heap.size]? = _
    rw [Array.getElem?_push, if_neg (by simp; omega), Array.getElem?_push, if_neg (by simp; omega), Array.getElem?_push, if_neg (by simp), Array.getElem?_push, if_pos rfl]
  have g1 : W4.heap[w.heap.size + 1]? = some (.cells (stCells rs.length (fun _ => 0)) 3 (0, 0)) := by
    rw [hW4]; show ((((w.heap.push _).push _).push _).push _)[w.heap.size + 1]? = _
    rw [Array.getElem?_push, if_neg (by simp), Array.getElem?_push, if_neg (by simp), Array.getElem?_push, if_pos (by simp)]
  have g2 : W4.heap[w.heap.size + 1 + 1]? = some (.cells #[.slice (some ⟨w.heap.size + 1, 0, none⟩) rs.length rs.length] 98 (0, 0)) := by
    rw [hW4]; show ((((w.heap.push _).push _).push _).push _)[w.heap.size + 1 + 1]? = _
    rw [Array.getElem?_push, if_neg (by simp), Array.getElem?_push, if_pos (by simp)]
  have g3 : W4.heap[w.heap.size + 1 + 1 + 1]? = some (.cells #[.nilFunc] 78 (0, 0)) := by
    rw [hW4]; show ((((w.heap.push _).push _).push _).push _)[w.heap.size + 1 + 1 + 1]? = _
    rw [Array.getElem?_push, if_pos (by simp)]
  have d0 : W4.cell? ⟨w.heap.size + 1 + 1 + 1, 0, none⟩ = some .nilFunc := Lib.cell_of_heap g3 0
  have d1 : W4.frozen? ⟨w.heap.size + 1 + 1 + 1, 0, none⟩ = false := frozen_of g3 0
  have T5 := Turned.setCell (S := fun k => k = w.heap.size + 1 + 1 + 1) W4 (w.heap.size + 1 + 1 + 1) 0 (.func (.func FB) #[] #[.pointer (some ⟨w.heap.size + 1 + 1, 0, none⟩), .pointer (some ⟨w.heap.size, 0, none⟩), .pointer (some ⟨w.heap.size + 1 + 1 + 1, 0, none⟩)]) rfl
  have D5 : Hid (Dfs B b mb v rs ps (w.heap.size + 1 + 1) w.heap.size (w.heap.size + 1 + 1 + 1) (w.heap.size + 1) (W4.setCell ⟨w.heap.size + 1 + 1 + 1, 0, none⟩ (.func (.func FB) #[] #[.pointer (some ⟨w.heap.size + 1 + 1, 0, none⟩), .pointer (some ⟨w.heap.size, 0, none⟩), .pointer (some ⟨w.heap.size + 1 + 1 + 1, 0, none⟩)])) (fun _ => 0)) := by
    refine ⟨?_, ?_, ?_, ?_, ?_, fun _ => by omega⟩
    · exact (T5.block _ (lt_of_heap g2) (by omega)).trans g2
    · exact (T5.block _ (lt_of_heap g0) (by omega)).trans g0
    · exact heap_setCell g3 _
    · exact (T5.block _ (lt_of_heap g1) (by omega)).trans g1
    · refine (HH.out.keptB HB4.out).kept T5 ?_ ?_
      · rintro k (rfl | rfl | hk) e
        · have := lt_of_heap HH.out.tab; omega
        · obtain ⟨es, ck, hm, _⟩ := HH.out.map
          have := lt_of_heap hm; omega
        · obtain ⟨_, cur, hcur⟩ := ownsRow_at HH.out.rows hk
          have := lt_of_heap hcur; omega
      · intro q hq k hk e
        obtain ⟨_, cur, hcur⟩ := ownsRow_at (HH.out.mems q hq) hk
        have := lt_of_heap hcur; omega
  have B5 : Hid (Below w.heap.size w (W4.setCell ⟨w.heap.size + 1 + 1 + 1, 0, none⟩ (.func (.func FB) #[] #[.pointer (some ⟨w.heap.size + 1 + 1, 0, none⟩), .pointer (some ⟨w.heap.size, 0, none⟩), .pointer (some ⟨w.heap.size + 1 + 1 + 1, 0, none⟩)]))) :=
    ⟨T5.os.trans HB4.out.os, T5.tape.trans HB4.out.tape, T5.output.trans HB4.out.output, Nat.le_trans HB4.out.size T5.size, fun k hk => (T5.block k (Nat.lt_of_lt_of_le hk HB4.out.size) (by omega)).trans (HB4.out.block k hk)⟩
  have HS4 : Hid (w.heap.size + 1 + 1 + 1 < W4.heap.size) := lt_of_heap g3
  clear g0 g1 g2 g3 T5
  have hst : (store ⟨w.heap.size + 1 + 1 + 1, 0, none⟩ (.func (.func FB) #[] #[.pointer (some ⟨w.heap.size + 1 + 1, 0, none⟩), .pointer (some ⟨w.heap.size, 0, none⟩), .pointer (some ⟨w.heap.size + 1 + 1 + 1, 0, none⟩)])).run Tryd.prog W4 = .ok () (W4.setCell ⟨w.heap.size + 1 + 1 + 1, 0, none⟩ (.func (.func FB) #[] #[.pointer (some ⟨w.heap.size + 1 + 1, 0, none⟩), .pointer (some ⟨w.heap.size, 0, none⟩), .pointer (some ⟨w.heap.size + 1 + 1 + 1, 0, none⟩)])) := by
    rw [run_store _ _ _ _ _ rfl, d0, d1]; rfl
  generalize (W4.setCell ⟨w.heap.size + 1 + 1 + 1, 0, none⟩ (.func (.func FB) #[] #[.pointer (some ⟨w.heap.size + 1 + 1, 0, none⟩), .pointer (some ⟨w.heap.size, 0, none⟩), .pointer (some ⟨w.heap.size + 1 + 1 + 1, 0, none⟩)])) = W5 at *
  rw [hW4] at hst
  clear d0 d1 hW4 HB4
  go_enter Tryd.func42, Tryd.ntmps42
  have z1 : W5.cell? ⟨w.heap.size, 0, none⟩ = some (.pointer (some ⟨b, 0, none⟩)) := Lib.cell_of_heap D5.out.ht 0
  have z2 : W5.cell? ⟨b, 0, none⟩ = some (.slice p rs.length cap) := by rw [← hv]; exact D5.out.tab.c0
  go_wp2
  clear z1 z2 hst hmk hmf hA hc
  go_loopw [18] (fun j wr => ∃ (k : Nat), j = .int .i64 k ∧ k ≤ rs.length ∧ Hid (∃ σ, Dfs B b mb v rs ps (w.heap.size + 1 + 1) w.heap.size (w.heap.size + 1 + 1 + 1) (w.heap.size + 1) wr σ ∧ Left (partsAt rs) σ ∧ (∀ i, σ i ≠ 1) ∧ ∀ i, i < k → σ i = 2) ∧ Hid (Below w.heap.size w wr)) (fun j _ => rs.length - (intOf j).toNat)
  case atStart => exact ⟨0, rfl, Nat.zero_le _, ⟨_, D5.out, ⟨fun _ => 0, fun i hi => by simp at hi⟩, fun i => by decide, fun i hi => by omega⟩, B5⟩
  case round =>
    obtain ⟨k, rfl, hk, HX, HW⟩ := hrel
    obtain ⟨σ, hD, hL, h1, h2⟩ := HX.out
    have HH2 : Hid (∀ i, i < k → σ i = 2) := h2
    have HH1 : Hid (∀ i, σ i ≠ 1) := h1
    have HL : Hid (Left _ _) := hL
    by_cases hlt : k < rs.length
    · have q2 : wr.cell? ⟨w.heap.size + 1 + 1 + 1, 0, none⟩ = some (.func (.func FB) #[] #[.pointer (some ⟨w.heap.size + 1 + 1, 0, none⟩), .pointer (some ⟨w.heap.size, 0, none⟩), .pointer (some ⟨w.heap.size + 1 + 1 + 1, 0, none⟩)]) := Lib.cell_of_heap hD.hb 0
      have cB := back_c HIN.out HSM.out _ wr σ k rfl hD hlt hL (fun i hi => absurd hi (h1 i))
      clear hD hL h1 h2 HX
      go_wp2_with (first | (go_at_call 71; refine cB.mono ?_; rintro e w3 ⟨r, rfl, ht3, hgo⟩) | fail)
      · rename_i hr
        subst hr
        go_ret
        exact ⟨_, rfl, ⟨ht3.os.trans HW.out.os, ht3.tape.trans HW.out.tape, ht3.output.trans HW.out.output, Nat.le_trans HW.out.size ht3.size, fun j hj => (ht3.block j (Nat.lt_of_lt_of_le hj HW.out.size) (by omega)).trans (HW.out.block j hj)⟩, hgo⟩
      · rename_i hr
        subst hr
        obtain ⟨τ', hD', hL', hG', h2'⟩ := hgo
        refine ⟨⟨k + 1, by go_num, by omega, ⟨τ', hD', hL', fun i hi => HH1.out i ((hG'.one i).1 hi), fun i hi => ?_⟩, ?_⟩, by simp [intOf]; omega⟩
        · by_cases hik : i = k
          · rw [hik]; exact h2'
          · exact hG'.two i (HH2.out i (by omega))
        · exact ⟨ht3.os.trans HW.out.os, ht3.tape.trans HW.out.tape, ht3.output.trans HW.out.output, Nat.le_trans HW.out.size ht3.size, fun j hj => (ht3.block j (Nat.lt_of_lt_of_le hj HW.out.size) (by omega)).trans (HW.out.block j hj)⟩
    · obtain rfl : k = rs.length := by omega
      clear hD hL h1 h2 HX
      go_wp2
      go_ret
      exact ⟨_, rfl, HW.out, left_acyc HL.out HH2.out⟩
end
end Go.Proofs.YtfdjghfgbibedaaDoor
