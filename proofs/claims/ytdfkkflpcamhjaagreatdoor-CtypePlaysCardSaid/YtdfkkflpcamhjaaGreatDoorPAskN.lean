/-
  What the law asks of a type, on both tables: the same answers.
-/
import Derived.Test.YtdfkkflpcamhjaaGreatDoorPAsk
namespace Go.Proofs.YtdfkkflpcamhjaaGreatDoor
open Go.RowKit Go.Maps
set_option linter.unusedVariables false
set_option maxRecDepth 100000
section
variable {B : Nat} {w : World} {b mb rb : Nat} {v rv : Value} {rs rs2 : List (Rw × Value)}
set_option maxHeartbeats 20000000 in
theorem asks_no (h : Duo B w b mb v rs rb rv rs2) (hT : Tabs w) (hN : Names w) (id : Int) (nm : ByteArray) (hs : nm.size ≤ 9223372036854775807) (hh : hasP rs.length id = false) :
    Calls Tryz.prog 8 #[.pointer (some ⟨b, 0, none⟩), .pointer (some ⟨rb, 0, none⟩), .int .i64 id, .string nm] w fun e w' => e = .returned (.bool true) ∧ Below w.heap.size w w' := by
  have hl := h.len
  have hl5 := h.tab.len
  have hl2 := h.len2
  obtain ⟨S, er, cD, cE⟩ := decl_both h hT hN id nm hs
  have cH := fun Y (hY : Below w.heap.size w Y) => rHas_c (h.rt.below hY) id
  have cW1 := fun Y (hY : Below w.heap.size w Y) => whole_c (h.tab.keptB hY) (by omega) id
  have cW2 := fun Y (hY : Below w.heap.size w Y) => rWhole_c (h.rt.below hY) id
  have cS1 := fun Y (hY : Below w.heap.size w Y) => scalar_c (h.tab.keptB hY) (by omega) id
  have cS2 := fun Y (hY : Below w.heap.size w Y) => rScalar_c (h.rt.below hY) id
  have cL := fun Y (hY : Below w.heap.size w Y) => len_c (h.tab.keptB hY) (by omega)
  have cT1 := fun Y => tag_c nm Y hs
  have cT2 := fun Y => refTag_c nm Y hs
  rw [rWholeP_fst h.same, ← wholeP_same h.sane] at cW2
  rw [kindP_fst h.same] at cS2
  rw [hl2] at cH
  rw [hh] at cH
  have cR := row_none h.tab (by omega) id hh
  have HMN : Hid (([] : List Mb).length ≤ 9223372036854775807) := by show 0 ≤ _; omega
  have hrt := h.rt
  obtain ⟨rp, rc, hrv, hrc⟩ := hrt.sl
  have hq : w.cell? ⟨rb, 0, none⟩ = some (.slice rp rs2.length rc) := by rw [← hrv]; exact hrt.cell
  have HRT : Hid (∀ Y, Below w.heap.size w Y → Y.cell? ⟨rb, 0, none⟩ = some (.slice rp rs2.length rc)) := fun Y hY => (hY.cell (p := ⟨rb, 0, none⟩) (World.block_lt_of_cell? w _ hq)).trans hq
  have hl3 : rs2.length ≤ 512 := by omega
  have n1 := not_t
  have n2 := not_f
  have hbz : ∀ W : World, (Instr.build TR #[]).run Tryz.prog W = .ok (.agg #[.int .i64 0, .int .i64 0, .int .i64 0, .string ⟨#[]⟩, .slice none 0 0, .bool false]) W := fun W => by kernel_rfl
  clear h hT hN hh hrt hq hrv
  go_enter Tryz.func8, Tryz.ntmps8
  go_wp2_with fail
  refine cR.mono ?_; rintro e w1 ⟨rfl, hb1⟩
  have HB1 : Hid (Below w.heap.size w w1) := hb1
  clear hb1 cR
  have hold1 := heap_r0 w1 (.cells #[.int .i64 0, .int .i64 0, .int .i64 0, .string ⟨#[]⟩, .slice none 0 0, .bool false] TR)
  have hold2 := heap_r0 (w1.alloc (.cells #[.int .i64 0, .int .i64 0, .int .i64 0, .string ⟨#[]⟩, .slice none 0 0, .bool false] TR)) (.cells #[.int .i64 0, .int .i64 0, .int .i64 0, .string ⟨#[]⟩, .slice none 0 0, .bool false] TR)
  go_wp2_with (first | ((with_reducible apply step_store hold1); rfl; rfl; kernel_rfl; rfl; kernel_rfl; rw [World.setRow_alloc_new]) | ((with_reducible apply step_store hold2); rfl; rfl; kernel_rfl; rfl; kernel_rfl; rw [World.setRow_alloc_new]))
  clear hold1 hold2 hbz
  have G1 : Hid (_ = _) := heap_s1 w1 (.cells #[.int .i64 0, .int .i64 0, .int .i64 0, .string ⟨#[]⟩, .slice none 0 0, .bool false] TR) (.cells #[.int .i64 0, .int .i64 0, .int .i64 0, .string ⟨#[]⟩, .slice none 0 0, .bool false] TR)
  have G2 : Hid (_ = _) := heap_s2 w1 (.cells #[.int .i64 0, .int .i64 0, .int .i64 0, .string ⟨#[]⟩, .slice none 0 0, .bool false] TR) (.cells #[.int .i64 0, .int .i64 0, .int .i64 0, .string ⟨#[]⟩, .slice none 0 0, .bool false] TR)
  have HX : Hid (Below w1.heap.size w1 ((w1.alloc (.cells #[.int .i64 0, .int .i64 0, .int .i64 0, .string ⟨#[]⟩, .slice none 0 0, .bool false] TR)).alloc (.cells #[.int .i64 0, .int .i64 0, .int .i64 0, .string ⟨#[]⟩, .slice none 0 0, .bool false] TR))) := ((Below.refl _ w1).alloc (Nat.le_refl _) _).alloc (by simp) _
  generalize (w1.alloc (.cells #[.int .i64 0, .int .i64 0, .int .i64 0, .string ⟨#[]⟩, .slice none 0 0, .bool false] TR)).alloc (.cells #[.int .i64 0, .int .i64 0, .int .i64 0, .string ⟨#[]⟩, .slice none 0 0, .bool false] TR) = W3 at *
  have HW1 : Hid (Below w.heap.size w W3) := HB1.out.trans (HX.out.mono HB1.out.size)
  refine (cH _ HW1.out).mono ?_; rintro e w' ⟨rfl, hw⟩; rw [hw]; clear hw w'
  have HM1 : Hid (MemSl W3 (.slice none 0 0) []) := Or.inl ⟨rfl, rfl⟩
  have HM2 : Hid (MemSl W3 (.slice none 0 0) []) := Or.inl ⟨rfl, rfl⟩
  clear HX HB1
  go_wp2_with fail
  refine (cD _ HW1.out).mono ?_; rintro e w3 ⟨rfl, hb3⟩
  have HW3 : Hid (Below w.heap.size w w3) := HW1.out.trans (hb3.mono HW1.out.size)
  have f1 : Hid (w3.heap[w1.heap.size]? = some (.cells (rwCells (⟨0, 0, 0, ⟨#[]⟩, [], false⟩ : Rw) (.slice none 0 0)).toArray TR (0, 0))) := (hb3.block _ (lt_of_heap G1.out)).trans G1.out
  have f2 : Hid (w3.heap[(w1.heap.size + 1)]? = some (.cells (rwCells (⟨0, 0, 0, ⟨#[]⟩, [], false⟩ : Rw) (.slice none 0 0)).toArray TR (0, 0))) := (hb3.block _ (lt_of_heap G2.out)).trans G2.out
  have m1 : Hid (MemSl w3 (.slice none 0 0) ([] : List Mb)) := HM1.out.below hb3
  have m2 : Hid (MemSl w3 (.slice none 0 0) ([] : List Mb)) := HM2.out.below hb3
  clear hb3 cD G1 G2 HM1 HM2 HW1
  go_wp2_with fail
  refine (cE _ HW3.out).mono ?_; rintro e w4 ⟨rfl, hb4⟩
  have HW4 : Hid (Below w.heap.size w w4) := HW3.out.trans (hb4.mono HW3.out.size)
  have j1 : w4.heap[w1.heap.size]? = some (.cells (rwCells (⟨0, 0, 0, ⟨#[]⟩, [], false⟩ : Rw) (.slice none 0 0)).toArray TR (0, 0)) := (hb4.block _ (lt_of_heap f1.out)).trans f1.out
  have j2 : w4.heap[(w1.heap.size + 1)]? = some (.cells (rwCells (⟨0, 0, 0, ⟨#[]⟩, [], false⟩ : Rw) (.slice none 0 0)).toArray TR (0, 0)) := (hb4.block _ (lt_of_heap f2.out)).trans f2.out
  have M1 : Hid (MemSl w4 (.slice none 0 0) ([] : List Mb)) := m1.out.below hb4
  have M2 : Hid (MemSl w4 (.slice none 0 0) ([] : List Mb)) := m2.out.below hb4
  clear hb4 cE f1 f2 m1 m2 HW3
  have hg1 := lt_of_heap j1
  have hg2 := lt_of_heap j2
  have cEq := fun Y (hY : SA w4 Y) => equal_c (r := (⟨0, 0, 0, ⟨#[]⟩, [], false⟩ : Rw)) (M1.out.below hY.b) (M2.out.below hY.b) HMN.out
  have J1 : Hid (_ = _) := j1
  have J2 : Hid (_ = _) := j2
  simp only [rwCells] at J1 J2 cEq
  have hc0 : ∀ Y, SA w4 Y → Y.cell? ⟨w1.heap.size, 0, none⟩ = some (.int .i64 0) := fun Y h => (Below.cell h (p := ⟨w1.heap.size, 0, none⟩) hg1).trans (Lib.cell_of_heap J1.out 0)
  have hc1 : ∀ Y, SA w4 Y → Y.cell? ⟨w1.heap.size, 1, none⟩ = some (.int .i64 0) := fun Y h => (Below.cell h (p := ⟨w1.heap.size, 1, none⟩) hg1).trans (Lib.cell_of_heap J1.out 1)
  have hc2 : ∀ Y, SA w4 Y → Y.cell? ⟨w1.heap.size, 2, none⟩ = some (.int .i64 0) := fun Y h => (Below.cell h (p := ⟨w1.heap.size, 2, none⟩) hg1).trans (Lib.cell_of_heap J1.out 2)
  have hc3 : ∀ Y, SA w4 Y → Y.cell? ⟨w1.heap.size, 3, none⟩ = some (.string ⟨#[]⟩) := fun Y h => (Below.cell h (p := ⟨w1.heap.size, 3, none⟩) hg1).trans (Lib.cell_of_heap J1.out 3)
  have hc4 : ∀ Y, SA w4 Y → Y.cell? ⟨w1.heap.size, 4, none⟩ = some (.slice none 0 0) := fun Y h => (Below.cell h (p := ⟨w1.heap.size, 4, none⟩) hg1).trans (Lib.cell_of_heap J1.out 4)
  have hc5 : ∀ Y, SA w4 Y → Y.cell? ⟨w1.heap.size, 5, none⟩ = some (.bool false) := fun Y h => (Below.cell h (p := ⟨w1.heap.size, 5, none⟩) hg1).trans (Lib.cell_of_heap J1.out 5)
  have hd0 : ∀ Y, SA w4 Y → Y.cell? ⟨(w1.heap.size + 1), 0, none⟩ = some (.int .i64 0) := fun Y h => (Below.cell h (p := ⟨(w1.heap.size + 1), 0, none⟩) hg2).trans (Lib.cell_of_heap J2.out 0)
  have hd1 : ∀ Y, SA w4 Y → Y.cell? ⟨(w1.heap.size + 1), 1, none⟩ = some (.int .i64 0) := fun Y h => (Below.cell h (p := ⟨(w1.heap.size + 1), 1, none⟩) hg2).trans (Lib.cell_of_heap J2.out 1)
  have hd2 : ∀ Y, SA w4 Y → Y.cell? ⟨(w1.heap.size + 1), 2, none⟩ = some (.int .i64 0) := fun Y h => (Below.cell h (p := ⟨(w1.heap.size + 1), 2, none⟩) hg2).trans (Lib.cell_of_heap J2.out 2)
  have hd3 : ∀ Y, SA w4 Y → Y.cell? ⟨(w1.heap.size + 1), 3, none⟩ = some (.string ⟨#[]⟩) := fun Y h => (Below.cell h (p := ⟨(w1.heap.size + 1), 3, none⟩) hg2).trans (Lib.cell_of_heap J2.out 3)
  have hd4 : ∀ Y, SA w4 Y → Y.cell? ⟨(w1.heap.size + 1), 4, none⟩ = some (.slice none 0 0) := fun Y h => (Below.cell h (p := ⟨(w1.heap.size + 1), 4, none⟩) hg2).trans (Lib.cell_of_heap J2.out 4)
  have hd5 : ∀ Y, SA w4 Y → Y.cell? ⟨(w1.heap.size + 1), 5, none⟩ = some (.bool false) := fun Y h => (Below.cell h (p := ⟨(w1.heap.size + 1), 5, none⟩) hg2).trans (Lib.cell_of_heap J2.out 5)
  have hr0 : ∀ Y, SA w4 Y → Y.cell? ⟨rb, 0, none⟩ = some (.slice rp rs2.length rc) := fun Y h => HRT.out Y (HW4.out.trans (Below.mono h HW4.out.size))
  have HSA : SA w4 w4 := SA.refl _
  have HCP : Hid (∀ Y, SA w4 Y → Below w.heap.size w Y) := fun Y h => HW4.out.trans (Below.mono h HW4.out.size)
  clear J1 J2 M1 M2
  go_wp2
  go_region_held3 (fun Y => SA w4 Y) (first | assumption | (with_reducible refine SA.drew ?_; assumption) | (with_reducible refine SA.below ?_ (by assumption); assumption)) (first
    | (go_at_call 33; refine (cEq _ (by assumption)).mono ?_; rintro e y1 ⟨rfl, hy1⟩)
    | (go_at_call 30; refine (cH _ (HCP.out _ (by assumption))).mono ?_; rintro e y2 ⟨rfl, rfl⟩)
    | (go_at_call 34; refine (cW1 _ (HCP.out _ (by assumption))).mono ?_; rintro e y3 ⟨rfl, rfl⟩)
    | (go_at_call 35; refine (cW2 _ (HCP.out _ (by assumption))).mono ?_; rintro e y4 ⟨rfl, rfl⟩)
    | (go_at_call 36; refine (cS1 _ (HCP.out _ (by assumption))).mono ?_; rintro e y5 ⟨rfl, rfl⟩)
    | (go_at_call 37; refine (cS2 _ (HCP.out _ (by assumption))).mono ?_; rintro e y6 ⟨rfl, rfl⟩)
    | (go_at_call 38; refine (cL _ (HCP.out _ (by assumption))).mono ?_; rintro e y7 ⟨rfl, rfl⟩)
    | (go_at_call 39; refine (cT1 _).mono ?_; rintro e y8 ⟨rfl, rfl⟩)
    | (go_at_call 40; refine (cT2 _).mono ?_; rintro e y9 ⟨rfl, rfl⟩))
  rename_i hHeld
  have HBF : Hid (Below w.heap.size w _) := HCP.out _ hHeld
  clear hHeld HSA hc0 hc1 hc2 hc3 hc4 hc5 hd0 hd1 hd2 hd3 hd4 hd5 hr0 cEq cH cW1 cW2 cS1 cS2 cL cT1 cT2
  go_wp2
  go_ret
  exact ⟨rfl, HBF.out⟩
theorem asks_c (h : Duo B w b mb v rs rb rv rs2) (hT : Tabs w) (hN : Names w) (id : Int) (nm : ByteArray) (hs : nm.size ≤ 9223372036854775807) :
    Calls Tryz.prog 8 #[.pointer (some ⟨b, 0, none⟩), .pointer (some ⟨rb, 0, none⟩), .int .i64 id, .string nm] w fun e w' => e = .returned (.bool true) ∧ Below w.heap.size w w' := by
  cases hh : hasP rs.length id with
  | true => exact asks_yes h hT hN id nm hs hh
  | false => exact asks_no h hT hN id nm hs hh
end
end Go.Proofs.YtdfkkflpcamhjaaGreatDoor
