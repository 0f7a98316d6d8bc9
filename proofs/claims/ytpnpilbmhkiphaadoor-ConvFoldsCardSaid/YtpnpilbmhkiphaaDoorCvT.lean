/-
  heads of layer 7.
-/
import Derived.Test.YtpnpilbmhkiphaaDoorCvQ
namespace Go.Proofs.YtpnpilbmhkiphaaDoor
open Go.RowKit Go.Maps
set_option linter.unusedVariables false
set_option maxRecDepth 100000

section
variable {w : World}
theorem name_add (w : World) (hN : W.NamesIn w) : Calls Tryd.prog 17 #[.int .i64 1] w fun e w' => e = .returned (.string ⟨#[97, 100, 100]⟩) ∧ w' = w := by
  have hn : w.cell? ⟨0, 0, none⟩ = some (.string ⟨#[97, 100, 100]⟩) := hN 0 (by decide)
  clear hN
  go_enter Tryd.func17, Tryd.ntmps17
  go_wp2
  go_ret
  exact ⟨rfl, rfl⟩
theorem name_divs (w : World) (hN : W.NamesIn w) : Calls Tryd.prog 17 #[.int .i64 4] w fun e w' => e = .returned (.string ⟨#[100, 105, 118, 115]⟩) ∧ w' = w := by
  have hn : w.cell? ⟨0, 3, none⟩ = some (.string ⟨#[100, 105, 118, 115]⟩) := hN 3 (by decide)
  clear hN
  go_enter Tryd.func17, Tryd.ntmps17
  go_wp2
  go_ret
  exact ⟨rfl, rfl⟩
theorem names_b {w w' : World} (h : W.NamesIn w) (hz : 0 < w.heap.size) (hb : Below w.heap.size w w') : W.NamesIn w' := fun i hi => (hb.cell (p := ⟨0, i, none⟩) hz).trans (h i hi)
theorem hFold1 (w : World) (hN : W.NamesIn w) : Calls Tryd.prog 6 #[.int .i64 5, .int .i64 1, .int .u32 250, .int .u32 10] w fun e w' => e = .returned (.tuple #[.int .u32 4, .int .i64 0]) ∧ Below w.heap.size w w' := by
  have c := cFold_c (k := 5) (op := 1) (a := 250) (b := 10) (v := (250 + 10) % 4294967296) (c := true) (name_add w hN) (fun w => W.bin_add 250 10 w (by decide) (by decide) (by decide) (by decide)) (by decide) (by decide)
  rw [show foldV (!intK 5 || decide ((⟨#[97, 100, 100]⟩ : ByteArray) = ⟨#[]⟩)) true (W.conv 5 ((250 + 10) % 4294967296)) = #[.int .u32 4, .int .i64 0] from rfl] at c
  exact c
theorem hFold2 (w : World) (hN : W.NamesIn w) : Calls Tryd.prog 6 #[.int .i64 8, .int .i64 4, .int .u32 1, .int .u32 0] w fun e w' => e = .returned (.tuple #[.int .u32 0, .int .i64 71]) ∧ Below w.heap.size w w' := by
  have c := cFold_c (k := 8) (op := 4) (a := 1) (b := 0) (v := 0) (c := false) (name_divs w hN) (fun w => W.bin_divs_zero 1 w) (by decide) (by decide)
  rw [show foldV (!intK 8 || decide ((⟨#[100, 105, 118, 115]⟩ : ByteArray) = ⟨#[]⟩)) false (W.conv 8 0) = #[.int .u32 0, .int .i64 71] from rfl] at c
  exact c
theorem eqA (W : World) : (binOp BinOp.eql TOp (.agg #[.int .i64 1, .int .i64 11, .int .i64 7, .int .i64 11, .int .i64 4]) (.agg #[.int .i64 1, .int .i64 11, .int .i64 7, .int .i64 11, .int .i64 4])).run Tryd.prog W = .ok (.bool true) W := by kernel_rfl
theorem eqB (W : World) : (binOp BinOp.eql TOp (.agg #[.int .i64 17, .int .i64 8, .int .i64 8, .int .i64 7, .int .i64 0]) (.agg #[.int .i64 17, .int .i64 8, .int .i64 8, .int .i64 7, .int .i64 0])).run Tryd.prog W = .ok (.bool true) W := by kernel_rfl
theorem build_A (W : World) : (Instr.build TOp #[(0, .int .i64 1), (1, .int .i64 11), (2, .int .i64 7), (3, .int .i64 11), (4, .int .i64 4)]).run Tryd.prog W = .ok (.agg #[.int .i64 1, .int .i64 11, .int .i64 7, .int .i64 11, .int .i64 4]) W := by kernel_rfl
theorem build_B (W : World) : (Instr.build TOp #[(0, .int .i64 17), (1, .int .i64 8), (2, .int .i64 8), (3, .int .i64 7)]).run Tryd.prog W = .ok (.agg #[.int .i64 17, .int .i64 8, .int .i64 8, .int .i64 7, .int .i64 0]) W := by kernel_rfl
theorem load_Op {Y : World} {g : Nat} {cs : Array Value} (h : Y.heap[g]? = some (.cells cs TOp (0, 0))) (hc : cs.size = 5) : (Instr.loadAt TOp (.pointer (some ⟨g, 0, none⟩))).run Tryd.prog Y = .ok (.agg cs) Y := by
  have hl := run_loadVar_row (P := Tryd.prog) Y g TOp TOp cs (0, 0) _ h Tryd.underlying55 rfl (by rw [hc]; kernel_rfl)
  simp only [Instr.loadAt, Instr.sureAddr, Sem.run_bind, Sem.run_pure, Result.andThen]
  exact hl
set_option maxHeartbeats 8000000 in
theorem cHeads_c (w : World) (hN : W.NamesIn w) (hz : 0 < w.heap.size) :
    Calls Tryd.prog 8 #[] w fun e w' => e = .returned (.bool true) ∧ Below w.heap.size w w' := by
  have HN : Hid (W.NamesIn w) := hN
  clear hN
  go_enter Tryd.func8, Tryd.ntmps8
  go_wp2_with fail
  refine (new_c w).mono ?_
  rintro e w1 ⟨b, mb, v, rfl, hT1, hb1⟩
  have c := ptr_new hT1 7 (by decide) (by decide) (by unfold wf64; decide) (by intro kv hkv; cases hkv) (by decide) (n := 11) rfl
  have HB1 : Hid (Below w.heap.size w w1) := hb1
  clear hT1 hb1
  go_wp2_with fail
  refine c.mono ?_
  rintro e w2 ⟨rfl, v2, hT2, hb2⟩
  have c2 := ptr_new hT2 2 (by decide) (by decide) (by unfold wf64; decide) (by intro kv hkv; simp at hkv; subst hkv; simp [keyV]) (by decide) (n := 12) rfl
  have HB2 : Hid (Below w.heap.size w w2) := HB1.out.trans hb2
  clear c hT2 hb2 HB1
  go_wp2_with fail
  refine c2.mono ?_
  rintro e w3 ⟨rfl, v3, hT3, hb3⟩
  have HT : Hid (HTab w3 b) := ⟨_, _, _, _, hT3⟩
  have HB3 : Hid (Below w.heap.size w w3) := HB2.out.trans hb3
  clear c2 hT3 hb3 HB2
  have cU := cUsual_c 10 9 w3
  rw [show usualV 10 9 = #[.int .i64 11, .int .i64 0] from rfl] at cU
  go_wp2_with fail
  refine cU.mono ?_
  rintro e w' ⟨rfl, hw⟩
  rw [hw]
  clear hw w' cU
  have cA := hPlus HT.out w3 (Below.refl _ _)
  go_wp2_with fail
  refine cA.mono ?_
  rintro e w4 ⟨rfl, hb4⟩
  have hold := heap_r0 w4 (.cells #[.int .i64 0, .int .i64 0, .int .i64 0, .int .i64 0, .int .i64 0] TOp)
  have H5 : Hid (Below w3.heap.size w3 (w4.alloc (.cells #[.int .i64 1, .int .i64 11, .int .i64 7, .int .i64 11, .int .i64 4] TOp))) := hb4.trans ((below1 w4 _).mono hb4.size)
  have G5 : Hid (_ = _) := heap_r0 w4 (.cells #[.int .i64 1, .int .i64 11, .int .i64 7, .int .i64 11, .int .i64 4] TOp)
  have cL := hLess HT.out _ H5.out
  clear cA hb4
  go_wp2_with (first | ((with_reducible apply step_store hold); rfl; rfl; kernel_rfl; rfl; kernel_rfl; rw [World.setRow_alloc_new]) | fail)
  generalize w4.alloc (.cells #[.int .i64 1, .int .i64 11, .int .i64 7, .int .i64 11, .int .i64 4] TOp) = w5 at *
  clear hold
  refine cL.mono ?_
  rintro e w6 ⟨rfl, hb6⟩
  have hold := heap_r0 w6 (.cells #[.int .i64 0, .int .i64 0, .int .i64 0, .int .i64 0, .int .i64 0] TOp)
  have hB7 := hb6.trans ((below1 w6 (.cells #[.int .i64 17, .int .i64 8, .int .i64 8, .int .i64 7, .int .i64 0] TOp)).mono hb6.size)
  have H7 : Hid (Below w3.heap.size w3 (w6.alloc (.cells #[.int .i64 17, .int .i64 8, .int .i64 8, .int .i64 7, .int .i64 0] TOp))) := H5.out.trans (hB7.mono H5.out.size)
  have G7 : Hid (_ = _) := blk_b G5.out hB7
  have K7 : Hid (_ = _) := heap_r0 w6 (.cells #[.int .i64 17, .int .i64 8, .int .i64 8, .int .i64 7, .int .i64 0] TOp)
  have cM := hMinus HT.out _ H7.out
  clear cL hb6 hB7 H5 G5
  go_wp2_with (first | ((with_reducible apply step_store hold); rfl; rfl; kernel_rfl; rfl; kernel_rfl; rw [World.setRow_alloc_new]) | fail)
  generalize w6.alloc (.cells #[.int .i64 17, .int .i64 8, .int .i64 8, .int .i64 7, .int .i64 0] TOp) = w7 at *
  clear hold
  refine cM.mono ?_
  rintro e w8 ⟨rfl, hb8⟩
  have hold := heap_r0 w8 (.cells #[.int .i64 0, .int .i64 0, .int .i64 0, .int .i64 0, .int .i64 0] TOp)
  have hB9 := hb8.trans ((below1 w8 (.cells #[.int .i64 0, .int .i64 0, .int .i64 0, .int .i64 0, .int .i64 0] TOp)).mono hb8.size)
  have H9 : Hid (Below w3.heap.size w3 (w8.alloc (.cells #[.int .i64 0, .int .i64 0, .int .i64 0, .int .i64 0, .int .i64 0] TOp))) := H7.out.trans (hB9.mono H7.out.size)
  have G9 : Hid (_ = _) := blk_b G7.out hB9
  have K9 : Hid (_ = _) := blk_b K7.out hB9
  clear cM hb8 hB9 H7 G7 K7
  go_wp2_with (first | ((with_reducible apply step_store hold); rfl; rfl; kernel_rfl; rfl; kernel_rfl; rw [World.setRow_alloc_new]) | fail)
  generalize w8.alloc (.cells #[.int .i64 0, .int .i64 0, .int .i64 0, .int .i64 0, .int .i64 0] TOp) = w9 at *
  clear hold
  have HNM : Hid (∀ Y, Below w3.heap.size w3 Y → W.NamesIn Y) := fun Y hY => names_b HN.out hz (HB3.out.trans (hY.mono HB3.out.size))
  refine (hFold1 _ (HNM.out _ H9.out)).mono ?_
  rintro e w10 ⟨rfl, hb10⟩
  have H10 : Hid (Below w3.heap.size w3 w10) := H9.out.trans (hb10.mono H9.out.size)
  have G10 : Hid (_ = _) := blk_b G9.out hb10
  have K10 : Hid (_ = _) := blk_b K9.out hb10
  clear hb10 H9 G9 K9
  go_wp2_with fail
  refine (hFold2 _ (HNM.out _ H10.out)).mono ?_
  rintro e w11 ⟨rfl, hb11⟩
  have H11 : Hid (Below w3.heap.size w3 w11) := H10.out.trans (hb11.mono H10.out.size)
  have G11 : Hid (_ = _) := blk_b G10.out hb11
  have K11 : Hid (_ = _) := blk_b K10.out hb11
  clear hb11 H10 G10 K10 HNM
  have cN := hNot HT.out _ H11.out
  go_wp2_with fail
  refine cN.mono ?_
  rintro e w12 ⟨rfl, hb12⟩
  have H12 : Hid (Below w3.heap.size w3 w12) := H11.out.trans (hb12.mono H11.out.size)
  have G12 : Hid (_ = _) := blk_b G11.out hb12
  have K12 : Hid (_ = _) := blk_b K11.out hb12
  clear hb12 H11 G11 K11 cN
  have cC := hCond HT.out _ H12.out
  go_wp2_with fail
  refine cC.mono ?_
  rintro e w13 ⟨rfl, hb13⟩
  have H13 : Hid (Below w3.heap.size w3 w13) := H12.out.trans (hb13.mono H12.out.size)
  obtain ⟨s0, s1, s2, s3, s4, _⟩ := cells5 (blk_b G12.out hb13)
  obtain ⟨r0, r1, r2, r3, r4, _⟩ := cells5 (blk_b K12.out hb13)
  clear hb13 H12 G12 K12 cC
  have hqa := eqA
  have hqb := eqB
  have hba := build_A
  have hbb := build_B
  have cAs := hAssign HT.out _ H13.out
  go_wp2_with fail
  refine cAs.mono ?_
  rintro e w14 ⟨rfl, hb14⟩
  have H14 : Hid (Below w3.heap.size w3 w14) := H13.out.trans (hb14.mono H13.out.size)
  have cCa := hCast HT.out _ H14.out
  clear hb14 cAs s0 s1 s2 s3 s4 r0 r1 r2 r3 r4 hqa hqb hba hbb
  go_wp2_with fail
  refine cCa.mono ?_
  rintro e w15 ⟨rfl, hb15⟩
  have H15 : Hid (Below w.heap.size w w15) := HB3.out.trans ((H14.out.trans (hb15.mono H14.out.size)).mono HB3.out.size)
  clear hb15 cCa
  have cPr := cPromote_c 9 5 w15
  rw [show promP 9 5 = 8 from rfl] at cPr
  go_wp2_with fail
  refine cPr.mono ?_
  rintro e w' ⟨rfl, hw⟩
  rw [hw]
  clear hw w' cPr
  go_wp2
  go_ret
  exact ⟨rfl, H15.out⟩
end
end Go.Proofs.YtpnpilbmhkiphaaDoor
