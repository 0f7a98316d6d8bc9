/-
  What the law asks of a type, on both tables: the same answers.
-/
import Derived.Test.YtdfkkflpcamhjaaGreatDoorMFine
namespace Go.Proofs.YtdfkkflpcamhjaaGreatDoor
open Go.RowKit Go.Maps
set_option linter.unusedVariables false
set_option maxRecDepth 100000
section
variable {B : Nat} {w : World} {b mb rb : Nat} {v rv : Value} {rs rs2 : List (Rw × Value)}
set_option maxHeartbeats 20000000 in
theorem asks_yes (h : Duo B w b mb v rs rb rv rs2) (hT : Tabs w) (hN : Names w) (id : Int) (nm : ByteArray) (hs : nm.size ≤ 9223372036854775807) (hh : hasP rs.length id = true) :
    Calls Tryz.prog 8 #[.pointer (some ⟨b, 0, none⟩), .pointer (some ⟨rb, 0, none⟩), .int .i64 id, .string nm] w fun e w' => e = .returned (.bool true) ∧ Below w.heap.size w w' := by
  have hl := h.len
  have hl5 := h.tab.len
  have hl2 := h.len2
  obtain ⟨S, er, cD, cE⟩ := decl_both h hT hN id nm hs
  have cH := fun Y (hY : Below w.heap.size w Y) => rHas_c (h.rt.below hY) id
  have cW1 := fun Y (hY : Below w.heap.size w Y) => whole_c (h.tab.keptB hY) (by omega) id
  have cW2 := fun Y (hY : Below w.heap.size w Y) => rWhole_c (h.rt.below hY) id
  have cS1 := fun Y (hY : Below w.heap.size w Y) => scalar_c (h.tab.keptB hY) (by omega) id
  have cS2 := fun Y (hY : Below w.heap.size w Y) => rScalar_c (h.rt.below hY) id
  have cL := fun Y (hY : Below w.heap.size w Y) => len_c (h.tab.keptB hY) (by omega)
  have cT1 := fun Y => tag_c nm Y hs
  have cT2 := fun Y => refTag_c nm Y hs
  rw [rWholeP_fst h.same, ← wholeP_same h.sane] at cW2
  rw [kindP_fst h.same] at cS2
  rw [hl2] at cH
  rw [hh] at cH
  obtain ⟨i, rfl⟩ : ∃ i : Nat, id = i := ⟨id.toNat, by simp [hasP] at hh; omega⟩
  have hi : i < rs.length := by simp [hasP] at hh; omega
  obtain ⟨p, hp⟩ : ∃ p, rs[i]? = some p := ⟨_, List.getElem?_eq_getElem hi⟩
  obtain ⟨p2, hp2, he⟩ : ∃ p2, rs2[i]? = some p2 ∧ p2.1 = p.1 := by
    have e := fst_at h.same i
    rw [hp] at e
    cases h1 : rs2[i]? with
    | none => rw [h1] at e; cases e
    | some q => rw [h1] at e; exact ⟨q, rfl, by simpa using e⟩
  have cR := row_c h.tab hp h.small
  have HMN : Hid (p.1.mem.length ≤ 9223372036854775807) := by have := h.small p (List.mem_of_getElem? hp); show _ ≤ _; omega
  have hrt := h.rt
  obtain ⟨g, o, rc, hrv, hrc, hcell⟩ := hrt.at hp2
  obtain ⟨tp, tn, tc, hsl⟩ : ∃ tp tn tc, p2.2 = .slice tp tn tc := by
    rcases hrt.rows.2 p2 (List.mem_of_getElem? hp2) with ⟨e, _⟩ | ⟨_, _, _, e, _⟩
    · exact ⟨_, _, _, e⟩
    · exact ⟨_, _, _, e⟩
  have hm2 := hrt.rows.2 p2 (List.mem_of_getElem? hp2)
  have HM2w : Hid (MemSl w (.slice tp tn tc) p.1.mem) := by show MemSl _ _ _; rw [← hsl, ← he]; exact hm2
  have hq : w.cell? ⟨rb, 0, none⟩ = some (.slice (some ⟨g, o, none⟩) rs2.length rc) := by rw [← hrv]; exact hrt.cell
  have HRT : Hid (∀ Y, Below w.heap.size w Y → Y.cell? ⟨rb, 0, none⟩ = some (.slice (some ⟨g, o, none⟩) rs2.length rc)) := fun Y hY => (hY.cell (p := ⟨rb, 0, none⟩) (World.block_lt_of_cell? w _ hq)).trans hq
  have HCELL : Hid (∀ Y, Below w.heap.size w Y → ∀ j, j < 6 → Y.cell? ⟨g, o + i * 6 + j, none⟩ = (rwCells p.1 (.slice tp tn tc))[j]?) := by
    intro Y hY j hj
    have e := hcell j hj
    rw [he, hsl] at e
    have hlt : g < w.heap.size := by
      have e0 := hcell 0 (by omega)
      exact World.block_lt_of_cell? w _ e0
    exact (hY.cell (p := ⟨g, o + i * 6 + j, none⟩) hlt).trans e
  have hi2 : i < rs2.length := by omega
  have hl3 : rs2.length ≤ 512 := by omega
  obtain ⟨r0, hr0⟩ : ∃ r0, r0 = p.1 := ⟨_, rfl⟩
  rw [← hr0] at cR HMN HM2w HCELL
  have n1 := not_t
  have n2 := not_f
  have hbz : ∀ W : World, (Instr.build TR #[]).run Tryz.prog W = .ok (.agg #[.int .i64 0, .int .i64 0, .int .i64 0, .string ⟨#[]⟩, .slice none 0 0, .bool false]) W := fun W => by kernel_rfl
  clear h hT hN hh hp hp2 he hcell hsl hm2 hrt hq hr0 hrv hi
  go_enter Tryz.func8, Tryz.ntmps8
  go_wp2_with fail
  refine cR.mono ?_; rintro e w1 ⟨s1, rfl, hown, hb1⟩
  have HO : Hid (MemSl w1 s1 r0.mem) := MemSl.of_own hown
  obtain ⟨q1, c1, hs1⟩ := slice_of_own hown
  generalize r0.mem.length = sn1 at hs1
  subst hs1
  have HB1 : Hid (Below w.heap.size w w1) := hb1
  clear hown hb1 cR
  simp only [rwCells]
  have hold1 := heap_r0 w1 (.cells #[.int .i64 0, .int .i64 0, .int .i64 0, .string ⟨#[]⟩, .slice none 0 0, .bool false] TR)
  have hold2 := heap_r0 (w1.alloc (.cells #[.int .i64 r0.kind, .int .i64 r0.elem, .int .i64 r0.len, .string r0.tag, .slice q1 sn1 c1, .bool r0.done] TR)) (.cells #[.int .i64 0, .int .i64 0, .int .i64 0, .string ⟨#[]⟩, .slice none 0 0, .bool false] TR)
  go_wp2_with (first | ((with_reducible apply step_store hold1); rfl; rfl; kernel_rfl; rfl; kernel_rfl; rw [World.setRow_alloc_new]) | ((with_reducible apply step_store hold2); rfl; rfl; kernel_rfl; rfl; kernel_rfl; rw [World.setRow_alloc_new]))
  clear hold1 hold2 hbz
  have e1 : Hid (_ = _) := heap_s1 w1 (.cells #[.int .i64 r0.kind, .int .i64 r0.elem, .int .i64 r0.len, .string r0.tag, .slice q1 sn1 c1, .bool r0.done] TR) (.cells #[.int .i64 0, .int .i64 0, .int .i64 0, .string ⟨#[]⟩, .slice none 0 0, .bool false] TR)
  have e2 := heap_s2 w1 (.cells #[.int .i64 r0.kind, .int .i64 r0.elem, .int .i64 r0.len, .string r0.tag, .slice q1 sn1 c1, .bool r0.done] TR) (.cells #[.int .i64 0, .int .i64 0, .int .i64 0, .string ⟨#[]⟩, .slice none 0 0, .bool false] TR)
  have HX : Hid (Below w1.heap.size w1 ((w1.alloc (.cells #[.int .i64 r0.kind, .int .i64 r0.elem, .int .i64 r0.len, .string r0.tag, .slice q1 sn1 c1, .bool r0.done] TR)).alloc (.cells #[.int .i64 0, .int .i64 0, .int .i64 0, .string ⟨#[]⟩, .slice none 0 0, .bool false] TR))) := ((Below.refl _ w1).alloc (Nat.le_refl _) _).alloc (by simp) _
  generalize (w1.alloc (.cells #[.int .i64 r0.kind, .int .i64 r0.elem, .int .i64 r0.len, .string r0.tag, .slice q1 sn1 c1, .bool r0.done] TR)).alloc (.cells #[.int .i64 0, .int .i64 0, .int .i64 0, .string ⟨#[]⟩, .slice none 0 0, .bool false] TR) = W2 at *
  have HX2 : Hid (Below w.heap.size w W2) := HB1.out.trans (HX.out.mono HB1.out.size)
  refine (cH _ HX2.out).mono ?_; rintro e w' ⟨rfl, hw⟩; rw [hw]; clear hw w'
  have k0 := HRT.out W2 HX2.out
  have u0 := HCELL.out W2 HX2.out 0 (by omega)
  have u1 := HCELL.out W2 HX2.out 1 (by omega)
  have u2 := HCELL.out W2 HX2.out 2 (by omega)
  have u3 := HCELL.out W2 HX2.out 3 (by omega)
  have u4 := HCELL.out W2 HX2.out 4 (by omega)
  have u5 := HCELL.out W2 HX2.out 5 (by omega)
  simp only [rwCells, Nat.add_zero, List.getElem?_cons_zero, List.getElem?_cons_succ] at u0 u1 u2 u3 u4 u5
  have E2 : Hid (_ = _) := e2
  go_wp2_with (first | ((with_reducible apply step_store e2); rfl; rfl; kernel_rfl; rfl; kernel_rfl) | fail)
  clear k0 u0 u1 u2 u3 u4 u5 e2
  have G1 : Hid ((W2.setRow (w1.heap.size + 1) #[.int .i64 r0.kind, .int .i64 r0.elem, .int .i64 r0.len, .string r0.tag, .slice tp tn tc, .bool r0.done]).heap[w1.heap.size]? = some (.cells (rwCells r0 (.slice q1 sn1 c1)).toArray TR (0, 0))) := (setRow_other _ _ _ _ (by omega)).trans e1.out
  have G2 : Hid ((W2.setRow (w1.heap.size + 1) #[.int .i64 r0.kind, .int .i64 r0.elem, .int .i64 r0.len, .string r0.tag, .slice tp tn tc, .bool r0.done]).heap[w1.heap.size + 1]? = some (.cells (rwCells r0 (.slice tp tn tc)).toArray TR (0, 0))) := setRow_heap _ _ _ _ _ _ E2.out
  have HX3 : Hid (Below w1.heap.size w1 (W2.setRow (w1.heap.size + 1) #[.int .i64 r0.kind, .int .i64 r0.elem, .int .i64 r0.len, .string r0.tag, .slice tp tn tc, .bool r0.done])) := below_setRow HX.out (by omega) _
  generalize W2.setRow (w1.heap.size + 1) #[.int .i64 r0.kind, .int .i64 r0.elem, .int .i64 r0.len, .string r0.tag, .slice tp tn tc, .bool r0.done] = W3 at *
  have HW1 : Hid (Below w.heap.size w W3) := HB1.out.trans (HX3.out.mono HB1.out.size)
  have HM1 : Hid (MemSl W3 (.slice q1 sn1 c1) r0.mem) := HO.out.below HX3.out
  have HM2 : Hid (MemSl W3 (.slice tp tn tc) r0.mem) := HM2w.out.below HW1.out
  clear HX HX2 HX3 HO HM2w e1 E2 HCELL HB1
  go_wp2_with fail
  refine (cD _ HW1.out).mono ?_; rintro e w3 ⟨rfl, hb3⟩
  have HW3 : Hid (Below w.heap.size w w3) := HW1.out.trans (hb3.mono HW1.out.size)
  have f1 : Hid (w3.heap[w1.heap.size]? = some (.cells (rwCells r0 (.slice q1 sn1 c1)).toArray TR (0, 0))) := (hb3.block _ (lt_of_heap G1.out)).trans G1.out
  have f2 : Hid (w3.heap[(w1.heap.size + 1)]? = some (.cells (rwCells r0 (.slice tp tn tc)).toArray TR (0, 0))) := (hb3.block _ (lt_of_heap G2.out)).trans G2.out
  have m1 : Hid (MemSl w3 (.slice q1 sn1 c1) r0.mem) := HM1.out.below hb3
  have m2 : Hid (MemSl w3 (.slice tp tn tc) r0.mem) := HM2.out.below hb3
  clear hb3 cD G1 G2 HM1 HM2 HW1
  go_wp2_with fail
  refine (cE _ HW3.out).mono ?_; rintro e w4 ⟨rfl, hb4⟩
  have HW4 : Hid (Below w.heap.size w w4) := HW3.out.trans (hb4.mono HW3.out.size)
  have j1 : w4.heap[w1.heap.size]? = some (.cells (rwCells r0 (.slice q1 sn1 c1)).toArray TR (0, 0)) := (hb4.block _ (lt_of_heap f1.out)).trans f1.out
  have j2 : w4.heap[(w1.heap.size + 1)]? = some (.cells (rwCells r0 (.slice tp tn tc)).toArray TR (0, 0)) := (hb4.block _ (lt_of_heap f2.out)).trans f2.out
  have M1 : Hid (MemSl w4 (.slice q1 sn1 c1) r0.mem) := m1.out.below hb4
  have M2 : Hid (MemSl w4 (.slice tp tn tc) r0.mem) := m2.out.below hb4
  clear hb4 cE f1 f2 m1 m2 HW3
  have hg1 := lt_of_heap j1
  have hg2 := lt_of_heap j2
  have cEq := fun Y (hY : SA w4 Y) => equal_c (r := r0) (M1.out.below hY.b) (M2.out.below hY.b) HMN.out
  have J1 : Hid (_ = _) := j1
  have J2 : Hid (_ = _) := j2
  obtain ⟨kd, el, ln, tg, mm, dn⟩ := r0
  simp only [rwCells] at J1 J2 cEq
  have hc0 : ∀ Y, SA w4 Y → Y.cell? ⟨w1.heap.size, 0, none⟩ = some (.int .i64 kd) := fun Y h => (Below.cell h (p := ⟨w1.heap.size, 0, none⟩) hg1).trans (Lib.cell_of_heap J1.out 0)
  have hc1 : ∀ Y, SA w4 Y → Y.cell? ⟨w1.heap.size, 1, none⟩ = some (.int .i64 el) := fun Y h => (Below.cell h (p := ⟨w1.heap.size, 1, none⟩) hg1).trans (Lib.cell_of_heap J1.out 1)
  have hc2 : ∀ Y, SA w4 Y → Y.cell? ⟨w1.heap.size, 2, none⟩ = some (.int .i64 ln) := fun Y h => (Below.cell h (p := ⟨w1.heap.size, 2, none⟩) hg1).trans (Lib.cell_of_heap J1.out 2)
  have hc3 : ∀ Y, SA w4 Y → Y.cell? ⟨w1.heap.size, 3, none⟩ = some (.string tg) := fun Y h => (Below.cell h (p := ⟨w1.heap.size, 3, none⟩) hg1).trans (Lib.cell_of_heap J1.out 3)
  have hc4 : ∀ Y, SA w4 Y → Y.cell? ⟨w1.heap.size, 4, none⟩ = some (.slice q1 sn1 c1) := fun Y h => (Below.cell h (p := ⟨w1.heap.size, 4, none⟩) hg1).trans (Lib.cell_of_heap J1.out 4)
  have hc5 : ∀ Y, SA w4 Y → Y.cell? ⟨w1.heap.size, 5, none⟩ = some (.bool dn) := fun Y h => (Below.cell h (p := ⟨w1.heap.size, 5, none⟩) hg1).trans (Lib.cell_of_heap J1.out 5)
  have hd0 : ∀ Y, SA w4 Y → Y.cell? ⟨(w1.heap.size + 1), 0, none⟩ = some (.int .i64 kd) := fun Y h => (Below.cell h (p := ⟨(w1.heap.size + 1), 0, none⟩) hg2).trans (Lib.cell_of_heap J2.out 0)
  have hd1 : ∀ Y, SA w4 Y → Y.cell? ⟨(w1.heap.size + 1), 1, none⟩ = some (.int .i64 el) := fun Y h => (Below.cell h (p := ⟨(w1.heap.size + 1), 1, none⟩) hg2).trans (Lib.cell_of_heap J2.out 1)
  have hd2 : ∀ Y, SA w4 Y → Y.cell? ⟨(w1.heap.size + 1), 2, none⟩ = some (.int .i64 ln) := fun Y h => (Below.cell h (p := ⟨(w1.heap.size + 1), 2, none⟩) hg2).trans (Lib.cell_of_heap J2.out 2)
  have hd3 : ∀ Y, SA w4 Y → Y.cell? ⟨(w1.heap.size + 1), 3, none⟩ = some (.string tg) := fun Y h => (Below.cell h (p := ⟨(w1.heap.size + 1), 3, none⟩) hg2).trans (Lib.cell_of_heap J2.out 3)
  have hd4 : ∀ Y, SA w4 Y → Y.cell? ⟨(w1.heap.size + 1), 4, none⟩ = some (.slice tp tn tc) := fun Y h => (Below.cell h (p := ⟨(w1.heap.size + 1), 4, none⟩) hg2).trans (Lib.cell_of_heap J2.out 4)
  have hd5 : ∀ Y, SA w4 Y → Y.cell? ⟨(w1.heap.size + 1), 5, none⟩ = some (.bool dn) := fun Y h => (Below.cell h (p := ⟨(w1.heap.size + 1), 5, none⟩) hg2).trans (Lib.cell_of_heap J2.out 5)
  have hr0 : ∀ Y, SA w4 Y → Y.cell? ⟨rb, 0, none⟩ = some (.slice (some ⟨g, o, none⟩) rs2.length rc) := fun Y h => HRT.out Y (HW4.out.trans (Below.mono h HW4.out.size))
  have HSA : SA w4 w4 := SA.refl _
  have HCP : Hid (∀ Y, SA w4 Y → Below w.heap.size w Y) := fun Y h => HW4.out.trans (Below.mono h HW4.out.size)
  clear J1 J2 M1 M2
  go_wp2
  go_region_held3 (fun Y => SA w4 Y) (first | assumption | (with_reducible refine SA.drew ?_; assumption) | (with_reducible refine SA.below ?_ (by assumption); assumption)) (first
    | (go_at_call 33; refine (cEq _ (by assumption)).mono ?_; rintro e y1 ⟨rfl, hy1⟩)
    | (go_at_call 30; refine (cH _ (HCP.out _ (by assumption))).mono ?_; rintro e y2 ⟨rfl, rfl⟩)
    | (go_at_call 34; refine (cW1 _ (HCP.out _ (by assumption))).mono ?_; rintro e y3 ⟨rfl, rfl⟩)
    | (go_at_call 35; refine (cW2 _ (HCP.out _ (by assumption))).mono ?_; rintro e y4 ⟨rfl, rfl⟩)
    | (go_at_call 36; refine (cS1 _ (HCP.out _ (by assumption))).mono ?_; rintro e y5 ⟨rfl, rfl⟩)
    | (go_at_call 37; refine (cS2 _ (HCP.out _ (by assumption))).mono ?_; rintro e y6 ⟨rfl, rfl⟩)
    | (go_at_call 38; refine (cL _ (HCP.out _ (by assumption))).mono ?_; rintro e y7 ⟨rfl, rfl⟩)
    | (go_at_call 39; refine (cT1 _).mono ?_; rintro e y8 ⟨rfl, rfl⟩)
    | (go_at_call 40; refine (cT2 _).mono ?_; rintro e y9 ⟨rfl, rfl⟩))
  rename_i hHeld
  have HBF : Hid (Below w.heap.size w _) := HCP.out _ hHeld
  clear hHeld HSA hc0 hc1 hc2 hc3 hc4 hc5 hd0 hd1 hd2 hd3 hd4 hd5 hr0 cEq cH cW1 cW2 cS1 cS2 cL cT1 cT2
  go_wp2
  go_ret
  exact ⟨rfl, HBF.out⟩
end
end Go.Proofs.YtdfkkflpcamhjaaGreatDoor
