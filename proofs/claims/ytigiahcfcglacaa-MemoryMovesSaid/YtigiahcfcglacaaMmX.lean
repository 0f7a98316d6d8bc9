/-
  heads: what must come at any rate.
-/
import Derived.Test.YtigiahcfcglacaaMmV
namespace Go.Proofs.Ytigiahcfcglacaa
open Go.RowKit Go.Maps
set_option linter.unusedVariables false
set_option maxRecDepth 100000
theorem boxV {Y : World} {g : Nat} {k v bl : Int} (h : Y.heap[g]? = some (.cells #[.int .i64 k, .int .u32 v, .int .i64 bl] TV (0, 0))) : Y.cell? ⟨g, 0, none⟩ = some (.int .i64 k) ∧ Y.cell? ⟨g, 1, none⟩ = some (.int .u32 v) ∧ Y.cell? ⟨g, 2, none⟩ = some (.int .i64 bl) :=
  ⟨(Lib.cell_of_heap h 0).trans rfl, (Lib.cell_of_heap h 1).trans rfl, (Lib.cell_of_heap h 2).trans rfl⟩
set_option maxHeartbeats 8000000 in
theorem heads_c (w : World) : Calls Try.prog 11 #[] w fun e w' => e = .returned (.bool true) ∧ Below w.heap.size w w' := by
  have cP := fun (bl v : Int) Y => ptr_c bl v Y
  have cN := fun (v : Int) Y => num_c v Y
  have c1 := new_c w
  go_enter Try.func11, Try.ntmps11
  go_wp2_with fail
  refine c1.mono ?_; rintro e w1 ⟨b, P0, rfl, hM, hP0, hb1⟩
  have c2 := hd_make (B := w.heap.size) hb1.size hM hP0
  have HB0 : Hid (Below w.heap.size w w1) := hb1
  have HP0 : Hid (∀ k, P0 k → w.heap.size ≤ k) := hP0
  clear c1 hM hP0 hb1
  go_wp2_with fail
  refine c2.mono ?_; rintro e w2 ⟨rfl, P, hS, hT⟩
  have HB : Hid (Below w.heap.size w w2) := HB0.out.trans (hT.below HB0.out.size HP0.out)
  have HS2 : Hid (HS w.heap.size w2 b K0 P) := hS
  clear c2 hS hT HB0 HP0
  go_wp2_with fail
  refine (cP _ _ _).mono ?_; rintro e w3 ⟨rfl, hb⟩
  have HB : Hid (Below w.heap.size w w3) := HB.out.trans (hb.mono HB.out.size)
  have HS2 : Hid (HS w.heap.size w3 b K0 P) := HS2.out.below hb
  clear hb
  go_wp2_with fail
  refine (hd_load1 HS2.out).mono ?_; rintro e w4 ⟨rfl, hS, hb⟩
  have HB : Hid (Below w.heap.size w w4) := HB.out.trans (hb.mono HB.out.size)
  have HS2 : Hid (HS w.heap.size w4 b K0 P) := hS
  clear hb hS
  have hbx : Below w4.heap.size w4 (w4.alloc (.cells #[.int .i64 0, .int .u32 0, .int .i64 0] TV)) := (Below.refl _ w4).alloc (Nat.le_refl _) _
  have HS2 : Hid (HS w.heap.size (w4.alloc (.cells #[.int .i64 0, .int .u32 0, .int .i64 0] TV)) b K0 P) := HS2.out.below hbx
  have HB : Hid (Below w.heap.size w (w4.alloc (.cells #[.int .i64 0, .int .u32 0, .int .i64 0] TV))) := HB.out.trans (hbx.mono HB.out.size)
  clear hbx
  go_wp2_with fail
  refine (cP _ _ _).mono ?_; rintro e w5 ⟨rfl, hb⟩
  have HB : Hid (Below w.heap.size w w5) := HB.out.trans (hb.mono HB.out.size)
  have HS2 : Hid (HS w.heap.size w5 b K0 P) := HS2.out.below hb
  clear hb
  go_wp2_with fail
  refine (cN _ _).mono ?_; rintro e w6 ⟨rfl, hb⟩
  have HB : Hid (Below w.heap.size w w6) := HB.out.trans (hb.mono HB.out.size)
  have HS2 : Hid (HS w.heap.size w6 b K0 P) := HS2.out.below hb
  clear hb
  go_wp2_with fail
  refine (hd_store1 HS2.out).mono ?_; rintro e w7 ⟨rfl, P7, hS, hT, hG⟩
  have HB : Hid (Below w.heap.size w w7) := HB.out.trans (hT.below HB.out.size HS2.out.bB)
  have HS2 : Hid (HS w.heap.size w7 b K1 P7) := hS
  clear hS hT hG
  go_wp2_with fail
  refine (cP _ _ _).mono ?_; rintro e w8 ⟨rfl, hb⟩
  have HB : Hid (Below w.heap.size w w8) := HB.out.trans (hb.mono HB.out.size)
  have HS2 : Hid (HS w.heap.size w8 b K1 P7) := HS2.out.below hb
  clear hb
  go_wp2_with fail
  refine (hd_load2 HS2.out).mono ?_; rintro e w9 ⟨rfl, hS, hb⟩
  have HB : Hid (Below w.heap.size w w9) := HB.out.trans (hb.mono HB.out.size)
  have HS2 : Hid (HS w.heap.size w9 b K1 P7) := hS
  clear hb hS
  have hbx : Below w9.heap.size w9 (w9.alloc (.cells #[.int .i64 1, .int .u32 1, .int .i64 0] TV)) := (Below.refl _ w9).alloc (Nat.le_refl _) _
  have HSv := HS2
  have HS2 : Hid (HS w.heap.size (w9.alloc (.cells #[.int .i64 1, .int .u32 1, .int .i64 0] TV)) b K1 P7) := HS2.out.below hbx
  have gvN : ¬ P7 w9.heap.size := fun hp => absurd (HSv.out.bd _ hp) (Nat.lt_irrefl _)
  have HB : Hid (Below w.heap.size w (w9.alloc (.cells #[.int .i64 1, .int .u32 1, .int .i64 0] TV))) := HB.out.trans (hbx.mono HB.out.size)
  clear hbx
  have gv : Hid ((w9.alloc (.cells #[.int .i64 1, .int .u32 1, .int .i64 0] TV)).heap[w9.heap.size]? = some (.cells #[.int .i64 1, .int .u32 1, .int .i64 0] TV (0, 0))) := heap_r0 w9 _
  go_wp2_with fail
  refine (cP _ _ _).mono ?_; rintro e w10 ⟨rfl, hb⟩
  have HB : Hid (Below w.heap.size w w10) := HB.out.trans (hb.mono HB.out.size)
  have HS2 : Hid (HS w.heap.size w10 b K1 P7) := HS2.out.below hb
  have gv := (hb.block _ (lt_of_heap gv.out)).trans gv.out
  have gv : Hid _ := gv
  clear hb
  go_wp2_with fail
  refine (hd_load3 HS2.out).mono ?_; rintro e w11 ⟨rfl, hS, hb⟩
  have HB : Hid (Below w.heap.size w w11) := HB.out.trans (hb.mono HB.out.size)
  have HS2 : Hid (HS w.heap.size w11 b K1 P7) := hS
  have gv := (hb.block _ (lt_of_heap gv.out)).trans gv.out
  have gv : Hid _ := gv
  clear hb hS
  have hbx : Below w11.heap.size w11 (w11.alloc (.cells #[.int .i64 0, .int .u32 0, .int .i64 0] TV)) := (Below.refl _ w11).alloc (Nat.le_refl _) _
  have HS2 : Hid (HS w.heap.size (w11.alloc (.cells #[.int .i64 0, .int .u32 0, .int .i64 0] TV)) b K1 P7) := HS2.out.below hbx
  have HB : Hid (Below w.heap.size w (w11.alloc (.cells #[.int .i64 0, .int .u32 0, .int .i64 0] TV))) := HB.out.trans (hbx.mono HB.out.size)
  have gv := (hbx.block _ (lt_of_heap gv.out)).trans gv.out
  have gv : Hid _ := gv
  clear hbx
  go_wp2_with fail
  refine (cP _ _ _).mono ?_; rintro e w12 ⟨rfl, hb⟩
  have HB : Hid (Below w.heap.size w w12) := HB.out.trans (hb.mono HB.out.size)
  have HS2 : Hid (HS w.heap.size w12 b K1 P7) := HS2.out.below hb
  have gv := (hb.block _ (lt_of_heap gv.out)).trans gv.out
  have gv : Hid _ := gv
  clear hb
  go_wp2_with fail
  refine (cP _ _ _).mono ?_; rintro e w13 ⟨rfl, hb⟩
  have HB : Hid (Below w.heap.size w w13) := HB.out.trans (hb.mono HB.out.size)
  have HS2 : Hid (HS w.heap.size w13 b K1 P7) := HS2.out.below hb
  have gv := (hb.block _ (lt_of_heap gv.out)).trans gv.out
  have gv : Hid _ := gv
  clear hb
  go_wp2_with fail
  refine (hd_store2 HS2.out).mono ?_; rintro e w14 ⟨rfl, P14, hS, hT, hG⟩
  have HB : Hid (Below w.heap.size w w14) := HB.out.trans (hT.below HB.out.size HS2.out.bB)
  have gvl := lt_of_heap gv.out
  have gv := (hT.block _ gvl gvN).trans gv.out
  have gv : Hid _ := gv
  have gvN := fun hp => ((hG _ hp).elim gvN (fun h => absurd h (by omega)))
  have HS2 : Hid (HS w.heap.size w14 b K2 P14) := hS
  clear hS hT hG
  go_wp2_with fail
  refine (cP _ _ _).mono ?_; rintro e w15 ⟨rfl, hb⟩
  have HB : Hid (Below w.heap.size w w15) := HB.out.trans (hb.mono HB.out.size)
  have HS2 : Hid (HS w.heap.size w15 b K2 P14) := HS2.out.below hb
  have gv := (hb.block _ (lt_of_heap gv.out)).trans gv.out
  have gv : Hid _ := gv
  clear hb
  go_wp2_with fail
  refine (cP _ _ _).mono ?_; rintro e w16 ⟨rfl, hb⟩
  have HB : Hid (Below w.heap.size w w16) := HB.out.trans (hb.mono HB.out.size)
  have HS2 : Hid (HS w.heap.size w16 b K2 P14) := HS2.out.below hb
  have gv := (hb.block _ (lt_of_heap gv.out)).trans gv.out
  have gv : Hid _ := gv
  clear hb
  go_wp2_with fail
  refine (hd_copy HS2.out).mono ?_; rintro e w17 ⟨rfl, P17, hS, hT, hG⟩
  have HB : Hid (Below w.heap.size w w17) := HB.out.trans (hT.below HB.out.size HS2.out.bB)
  have gvl := lt_of_heap gv.out
  have gv := (hT.block _ gvl gvN).trans gv.out
  have gv : Hid _ := gv
  have gvN := fun hp => ((hG _ hp).elim gvN (fun h => absurd h (by omega)))
  have HS2 : Hid (HS w.heap.size w17 b K3 P17) := hS
  clear hS hT hG
  go_wp2_with fail
  refine (cP _ _ _).mono ?_; rintro e w18 ⟨rfl, hb⟩
  have HB : Hid (Below w.heap.size w w18) := HB.out.trans (hb.mono HB.out.size)
  have HS2 : Hid (HS w.heap.size w18 b K3 P17) := HS2.out.below hb
  have gv := (hb.block _ (lt_of_heap gv.out)).trans gv.out
  have gv : Hid _ := gv
  clear hb
  go_wp2_with fail
  refine (hd_load4 HS2.out).mono ?_; rintro e w19 ⟨rfl, hS, hb⟩
  have HB : Hid (Below w.heap.size w w19) := HB.out.trans (hb.mono HB.out.size)
  have HS2 : Hid (HS w.heap.size w19 b K3 P17) := hS
  have gv := (hb.block _ (lt_of_heap gv.out)).trans gv.out
  have gv : Hid _ := gv
  clear hb hS
  have hbx : Below w19.heap.size w19 (w19.alloc (.cells #[.int .i64 2, .int .u32 0, .int .i64 1] TV)) := (Below.refl _ w19).alloc (Nat.le_refl _) _
  have HS2 : Hid (HS w.heap.size (w19.alloc (.cells #[.int .i64 2, .int .u32 0, .int .i64 1] TV)) b K3 P17) := HS2.out.below hbx
  have HB : Hid (Below w.heap.size w (w19.alloc (.cells #[.int .i64 2, .int .u32 0, .int .i64 1] TV))) := HB.out.trans (hbx.mono HB.out.size)
  have gv := (hbx.block _ (lt_of_heap gv.out)).trans gv.out
  have gv : Hid _ := gv
  clear hbx
  have gp : Hid ((w19.alloc (.cells #[.int .i64 2, .int .u32 0, .int .i64 1] TV)).heap[w19.heap.size]? = some (.cells #[.int .i64 2, .int .u32 0, .int .i64 1] TV (0, 0))) := heap_r0 w19 _
  go_wp2_with fail
  refine (cP _ _ _).mono ?_; rintro e w20 ⟨rfl, hb⟩
  have HB : Hid (Below w.heap.size w w20) := HB.out.trans (hb.mono HB.out.size)
  have HS2 : Hid (HS w.heap.size w20 b K3 P17) := HS2.out.below hb
  have gv := (hb.block _ (lt_of_heap gv.out)).trans gv.out
  have gv : Hid _ := gv
  have gp := (hb.block _ (lt_of_heap gp.out)).trans gp.out
  have gp : Hid _ := gp
  clear hb
  go_wp2_with fail
  refine (hd_load5 HS2.out).mono ?_; rintro e w21 ⟨rfl, hS, hb⟩
  have HB : Hid (Below w.heap.size w w21) := HB.out.trans (hb.mono HB.out.size)
  have HS2 : Hid (HS w.heap.size w21 b K3 P17) := hS
  have gv := (hb.block _ (lt_of_heap gv.out)).trans gv.out
  have gv : Hid _ := gv
  have gp := (hb.block _ (lt_of_heap gp.out)).trans gp.out
  have gp : Hid _ := gp
  clear hb hS
  have hbx : Below w21.heap.size w21 (w21.alloc (.cells #[.int .i64 0, .int .u32 0, .int .i64 0] TV)) := (Below.refl _ w21).alloc (Nat.le_refl _) _
  have HS2 : Hid (HS w.heap.size (w21.alloc (.cells #[.int .i64 0, .int .u32 0, .int .i64 0] TV)) b K3 P17) := HS2.out.below hbx
  have HB : Hid (Below w.heap.size w (w21.alloc (.cells #[.int .i64 0, .int .u32 0, .int .i64 0] TV))) := HB.out.trans (hbx.mono HB.out.size)
  have gv := (hbx.block _ (lt_of_heap gv.out)).trans gv.out
  have gv : Hid _ := gv
  have gp := (hbx.block _ (lt_of_heap gp.out)).trans gp.out
  have gp : Hid _ := gp
  clear hbx
  go_wp2_with fail
  refine (cP _ _ _).mono ?_; rintro e w22 ⟨rfl, hb⟩
  have HB : Hid (Below w.heap.size w w22) := HB.out.trans (hb.mono HB.out.size)
  have HS2 : Hid (HS w.heap.size w22 b K3 P17) := HS2.out.below hb
  have gv := (hb.block _ (lt_of_heap gv.out)).trans gv.out
  have gv : Hid _ := gv
  have gp := (hb.block _ (lt_of_heap gp.out)).trans gp.out
  have gp : Hid _ := gp
  clear hb
  go_wp2_with fail
  refine (cN _ _).mono ?_; rintro e w23 ⟨rfl, hb⟩
  have HB : Hid (Below w.heap.size w w23) := HB.out.trans (hb.mono HB.out.size)
  have HS2 : Hid (HS w.heap.size w23 b K3 P17) := HS2.out.below hb
  have gv := (hb.block _ (lt_of_heap gv.out)).trans gv.out
  have gv : Hid _ := gv
  have gp := (hb.block _ (lt_of_heap gp.out)).trans gp.out
  have gp : Hid _ := gp
  clear hb
  go_wp2_with fail
  refine (hd_bin1 HS2.out).mono ?_; rintro e w24 ⟨rfl, hS, hb⟩
  have HB : Hid (Below w.heap.size w w24) := HB.out.trans (hb.mono HB.out.size)
  have HS2 : Hid (HS w.heap.size w24 b K3 P17) := hS
  have gv := (hb.block _ (lt_of_heap gv.out)).trans gv.out
  have gv : Hid _ := gv
  have gp := (hb.block _ (lt_of_heap gp.out)).trans gp.out
  have gp : Hid _ := gp
  clear hb hS
  have hbx : Below w24.heap.size w24 (w24.alloc (.cells #[.int .i64 2, .int .u32 8, .int .i64 1] TV)) := (Below.refl _ w24).alloc (Nat.le_refl _) _
  have HS2 : Hid (HS w.heap.size (w24.alloc (.cells #[.int .i64 2, .int .u32 8, .int .i64 1] TV)) b K3 P17) := HS2.out.below hbx
  have HB : Hid (Below w.heap.size w (w24.alloc (.cells #[.int .i64 2, .int .u32 8, .int .i64 1] TV))) := HB.out.trans (hbx.mono HB.out.size)
  have gv := (hbx.block _ (lt_of_heap gv.out)).trans gv.out
  have gv : Hid _ := gv
  have gp := (hbx.block _ (lt_of_heap gp.out)).trans gp.out
  have gp : Hid _ := gp
  clear hbx
  have gq : Hid ((w24.alloc (.cells #[.int .i64 2, .int .u32 8, .int .i64 1] TV)).heap[w24.heap.size]? = some (.cells #[.int .i64 2, .int .u32 8, .int .i64 1] TV (0, 0))) := heap_r0 w24 _
  go_wp2_with fail
  refine (cP _ _ _).mono ?_; rintro e w25 ⟨rfl, hb⟩
  have HB : Hid (Below w.heap.size w w25) := HB.out.trans (hb.mono HB.out.size)
  have HS2 : Hid (HS w.heap.size w25 b K3 P17) := HS2.out.below hb
  have gv := (hb.block _ (lt_of_heap gv.out)).trans gv.out
  have gv : Hid _ := gv
  have gp := (hb.block _ (lt_of_heap gp.out)).trans gp.out
  have gp : Hid _ := gp
  have gq := (hb.block _ (lt_of_heap gq.out)).trans gq.out
  have gq : Hid _ := gq
  clear hb
  go_wp2_with fail
  refine (cN _ _).mono ?_; rintro e w26 ⟨rfl, hb⟩
  have HB : Hid (Below w.heap.size w w26) := HB.out.trans (hb.mono HB.out.size)
  have HS2 : Hid (HS w.heap.size w26 b K3 P17) := HS2.out.below hb
  have gv := (hb.block _ (lt_of_heap gv.out)).trans gv.out
  have gv : Hid _ := gv
  have gp := (hb.block _ (lt_of_heap gp.out)).trans gp.out
  have gp : Hid _ := gp
  have gq := (hb.block _ (lt_of_heap gq.out)).trans gq.out
  have gq : Hid _ := gq
  clear hb
  go_wp2_with fail
  refine (hd_bin2 HS2.out).mono ?_; rintro e w27 ⟨rfl, hS, hb⟩
  have HB : Hid (Below w.heap.size w w27) := HB.out.trans (hb.mono HB.out.size)
  have HS2 : Hid (HS w.heap.size w27 b K3 P17) := hS
  have gv := (hb.block _ (lt_of_heap gv.out)).trans gv.out
  have gv : Hid _ := gv
  have gp := (hb.block _ (lt_of_heap gp.out)).trans gp.out
  have gp : Hid _ := gp
  have gq := (hb.block _ (lt_of_heap gq.out)).trans gq.out
  have gq : Hid _ := gq
  clear hb hS
  have hbx : Below w27.heap.size w27 (w27.alloc (.cells #[.int .i64 0, .int .u32 0, .int .i64 0] TV)) := (Below.refl _ w27).alloc (Nat.le_refl _) _
  have HS2 : Hid (HS w.heap.size (w27.alloc (.cells #[.int .i64 0, .int .u32 0, .int .i64 0] TV)) b K3 P17) := HS2.out.below hbx
  have HB : Hid (Below w.heap.size w (w27.alloc (.cells #[.int .i64 0, .int .u32 0, .int .i64 0] TV))) := HB.out.trans (hbx.mono HB.out.size)
  have gv := (hbx.block _ (lt_of_heap gv.out)).trans gv.out
  have gv : Hid _ := gv
  have gp := (hbx.block _ (lt_of_heap gp.out)).trans gp.out
  have gp : Hid _ := gp
  have gq := (hbx.block _ (lt_of_heap gq.out)).trans gq.out
  have gq : Hid _ := gq
  clear hbx
  go_wp2_with fail
  refine (cP _ _ _).mono ?_; rintro e w28 ⟨rfl, hb⟩
  have HB : Hid (Below w.heap.size w w28) := HB.out.trans (hb.mono HB.out.size)
  have HS2 : Hid (HS w.heap.size w28 b K3 P17) := HS2.out.below hb
  have gv := (hb.block _ (lt_of_heap gv.out)).trans gv.out
  have gv : Hid _ := gv
  have gp := (hb.block _ (lt_of_heap gp.out)).trans gp.out
  have gp : Hid _ := gp
  have gq := (hb.block _ (lt_of_heap gq.out)).trans gq.out
  have gq : Hid _ := gq
  clear hb
  go_wp2_with fail
  refine (cN _ _).mono ?_; rintro e w29 ⟨rfl, hb⟩
  have HB : Hid (Below w.heap.size w w29) := HB.out.trans (hb.mono HB.out.size)
  have HS2 : Hid (HS w.heap.size w29 b K3 P17) := HS2.out.below hb
  have gv := (hb.block _ (lt_of_heap gv.out)).trans gv.out
  have gv : Hid _ := gv
  have gp := (hb.block _ (lt_of_heap gp.out)).trans gp.out
  have gp : Hid _ := gp
  have gq := (hb.block _ (lt_of_heap gq.out)).trans gq.out
  have gq : Hid _ := gq
  clear hb
  go_wp2_with fail
  refine (hd_bin3 HS2.out).mono ?_; rintro e w30 ⟨rfl, hS, hb⟩
  have HB : Hid (Below w.heap.size w w30) := HB.out.trans (hb.mono HB.out.size)
  have HS2 : Hid (HS w.heap.size w30 b K3 P17) := hS
  have gv := (hb.block _ (lt_of_heap gv.out)).trans gv.out
  have gv : Hid _ := gv
  have gp := (hb.block _ (lt_of_heap gp.out)).trans gp.out
  have gp : Hid _ := gp
  have gq := (hb.block _ (lt_of_heap gq.out)).trans gq.out
  have gq : Hid _ := gq
  clear hb hS
  have hbx : Below w30.heap.size w30 (w30.alloc (.cells #[.int .i64 1, .int .u32 0, .int .i64 0] TV)) := (Below.refl _ w30).alloc (Nat.le_refl _) _
  have HS2 : Hid (HS w.heap.size (w30.alloc (.cells #[.int .i64 1, .int .u32 0, .int .i64 0] TV)) b K3 P17) := HS2.out.below hbx
  have HB : Hid (Below w.heap.size w (w30.alloc (.cells #[.int .i64 1, .int .u32 0, .int .i64 0] TV))) := HB.out.trans (hbx.mono HB.out.size)
  have gv := (hbx.block _ (lt_of_heap gv.out)).trans gv.out
  have gv : Hid _ := gv
  have gp := (hbx.block _ (lt_of_heap gp.out)).trans gp.out
  have gp : Hid _ := gp
  have gq := (hbx.block _ (lt_of_heap gq.out)).trans gq.out
  have gq : Hid _ := gq
  clear hbx
  have gc : Hid ((w30.alloc (.cells #[.int .i64 1, .int .u32 0, .int .i64 0] TV)).heap[w30.heap.size]? = some (.cells #[.int .i64 1, .int .u32 0, .int .i64 0] TV (0, 0))) := heap_r0 w30 _
  have q1 := eqV ⟨1, 1, 0⟩ ⟨1, 1, 0⟩
  have q2 := eqV ⟨2, 0, 1⟩ ⟨2, 0, 1⟩
  have q3 := eqV ⟨2, 8, 1⟩ ⟨2, 8, 1⟩
  have q4 := eqV ⟨1, 0, 0⟩ ⟨1, 0, 0⟩
  simp only [sameV_self] at q1 q2 q3 q4
  go_wp2
  clear HS2 gvN
  generalize w30.alloc (.cells #[.int .i64 1, .int .u32 0, .int .i64 0] TV) = Wf at *
  have HW : SA Wf Wf := SA.refl _
  have gv0 : ∀ Y, SA Wf Y → Y.cell? ⟨w9.heap.size, 0, none⟩ = some (.int .i64 1) := fun Y h => (Below.cell h (p := ⟨w9.heap.size, 0, none⟩) (lt_of_heap gv.out)).trans ((Lib.cell_of_heap gv.out 0).trans rfl)
  have gv1 : ∀ Y, SA Wf Y → Y.cell? ⟨w9.heap.size, 1, none⟩ = some (.int .u32 1) := fun Y h => (Below.cell h (p := ⟨w9.heap.size, 1, none⟩) (lt_of_heap gv.out)).trans ((Lib.cell_of_heap gv.out 1).trans rfl)
  have gv2 : ∀ Y, SA Wf Y → Y.cell? ⟨w9.heap.size, 2, none⟩ = some (.int .i64 0) := fun Y h => (Below.cell h (p := ⟨w9.heap.size, 2, none⟩) (lt_of_heap gv.out)).trans ((Lib.cell_of_heap gv.out 2).trans rfl)
  have gp0 : ∀ Y, SA Wf Y → Y.cell? ⟨w19.heap.size, 0, none⟩ = some (.int .i64 2) := fun Y h => (Below.cell h (p := ⟨w19.heap.size, 0, none⟩) (lt_of_heap gp.out)).trans ((Lib.cell_of_heap gp.out 0).trans rfl)
  have gp1 : ∀ Y, SA Wf Y → Y.cell? ⟨w19.heap.size, 1, none⟩ = some (.int .u32 0) := fun Y h => (Below.cell h (p := ⟨w19.heap.size, 1, none⟩) (lt_of_heap gp.out)).trans ((Lib.cell_of_heap gp.out 1).trans rfl)
  have gp2 : ∀ Y, SA Wf Y → Y.cell? ⟨w19.heap.size, 2, none⟩ = some (.int .i64 1) := fun Y h => (Below.cell h (p := ⟨w19.heap.size, 2, none⟩) (lt_of_heap gp.out)).trans ((Lib.cell_of_heap gp.out 2).trans rfl)
  have gq0 : ∀ Y, SA Wf Y → Y.cell? ⟨w24.heap.size, 0, none⟩ = some (.int .i64 2) := fun Y h => (Below.cell h (p := ⟨w24.heap.size, 0, none⟩) (lt_of_heap gq.out)).trans ((Lib.cell_of_heap gq.out 0).trans rfl)
  have gq1 : ∀ Y, SA Wf Y → Y.cell? ⟨w24.heap.size, 1, none⟩ = some (.int .u32 8) := fun Y h => (Below.cell h (p := ⟨w24.heap.size, 1, none⟩) (lt_of_heap gq.out)).trans ((Lib.cell_of_heap gq.out 1).trans rfl)
  have gq2 : ∀ Y, SA Wf Y → Y.cell? ⟨w24.heap.size, 2, none⟩ = some (.int .i64 1) := fun Y h => (Below.cell h (p := ⟨w24.heap.size, 2, none⟩) (lt_of_heap gq.out)).trans ((Lib.cell_of_heap gq.out 2).trans rfl)
  have gc0 : ∀ Y, SA Wf Y → Y.cell? ⟨w30.heap.size, 0, none⟩ = some (.int .i64 1) := fun Y h => (Below.cell h (p := ⟨w30.heap.size, 0, none⟩) (lt_of_heap gc.out)).trans ((Lib.cell_of_heap gc.out 0).trans rfl)
  have gc1 : ∀ Y, SA Wf Y → Y.cell? ⟨w30.heap.size, 1, none⟩ = some (.int .u32 0) := fun Y h => (Below.cell h (p := ⟨w30.heap.size, 1, none⟩) (lt_of_heap gc.out)).trans ((Lib.cell_of_heap gc.out 1).trans rfl)
  have gc2 : ∀ Y, SA Wf Y → Y.cell? ⟨w30.heap.size, 2, none⟩ = some (.int .i64 0) := fun Y h => (Below.cell h (p := ⟨w30.heap.size, 2, none⟩) (lt_of_heap gc.out)).trans ((Lib.cell_of_heap gc.out 2).trans rfl)
  have HCP : Hid (∀ Y, SA Wf Y → Below w.heap.size w Y) := fun Y h => HB.out.trans (Below.mono h HB.out.size)
  clear gv gp gq gc
  simp only [List.append]
  go_region_held3 (fun Y => SA Wf Y) (first | assumption | (with_reducible refine SA.drew ?_; assumption) | (with_reducible refine SA.below ?_ (by assumption); assumption)) (first | (go_at_call 12; refine (cN _ _).mono ?_; rintro e y1 ⟨rfl, hy1⟩) | (go_at_call 29; refine (cP _ _ _).mono ?_; rintro e y2 ⟨rfl, hy2⟩))
  rename_i hHeld
  have HBF : Hid (Below w.heap.size w _) := HCP.out _ hHeld
  clear hHeld HW gv0 gv1 gv2 gp0 gp1 gp2 gq0 gq1 gq2 gc0 gc1 gc2
  go_wp2
  go_ret
  exact ⟨rfl, HBF.out⟩
end Go.Proofs.Ytigiahcfcglacaa
