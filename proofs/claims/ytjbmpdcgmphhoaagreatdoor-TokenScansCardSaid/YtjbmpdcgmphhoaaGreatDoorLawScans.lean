/-
  What the statement TokenScans answers: true, at every text.
-/
import Derived.Test.YtjbmpdcgmphhoaaGreatDoorHeads
import Derived.Test.YtjbmpdcgmphhoaaGreatDoorSameS
import Derived.Test.YtjbmpdcgmphhoaaGreatDoorRefScan
namespace Go.Proofs.YtjbmpdcgmphhoaaGreatDoor
open Go.RowKit
set_option linter.unusedVariables false

set_option maxRecDepth 100000 in
set_option maxHeartbeats 4000000 in
theorem tokenScans_c (s : ByteArray) (w : World) (mx : Int) (hs : s.size ≤ 9223372036854775807) (hm : w.cell? ⟨0, 0, none⟩ = some (.int .i64 mx)) :
    Calls Tryz.prog 3 #[.string s] w fun e w' => e = .returned (.bool true) ∧ Below w.heap.size w w' := by
  have hmb : 0 < w.heap.size := World.block_lt_of_cell? w _ hm
  have cH : ∀ W : World, Below w.heap.size w W → Calls Tryz.prog 8 #[] W fun e w' => e = .returned (.bool true) ∧ Below W.heap.size W w' := fun W hW => heads_c W mx ((hW.cell (p := ⟨0, 0, none⟩) hmb).trans hm)
  have cS := scan_c s w mx hs hm
  have cR := fun W => rscan_r s W hs
  rcases hR : scan s.data.toList with f | l
  · rw [hR] at cS cR
    obtain ⟨code, line, col, off⟩ := f
    unfold ScanPost at cS cR
    simp only [fltV] at cS cR
    have cE : ∀ W : World, Calls Tryz.prog 7 #[.slice none 0 0, .slice none 0 0] W fun e w' => e = .returned (.bool true) ∧ ∃ q, w' = W.drewN q := fun W => same_c _ _ [] W (.inl ⟨rfl, rfl⟩) (.inl ⟨rfl, rfl⟩) (by simp)
    clear hR
    go_enter Tryz.func3, Tryz.ntmps3
    go_wp2_with (first | (go_at_call 5; refine cS.mono ?_; rintro e w1 ⟨hb1, rfl⟩; have HB1 : Hid (Below w.heap.size w (w1.alloc (.cells #[.int .i64 code, .int .i64 line, .int .i64 col, .int .i64 off] 27))) := hb1.alloc hb1.size _; have HF : Hid _ := heap_in0 w1 (.cells #[.int .i64 code, .int .i64 line, .int .i64 col, .int .i64 off] 27); clear hb1 cS) | (go_at_call 6; refine (cR _).mono ?_; rintro e w2 ⟨hb2, rfl⟩; have HB2 : Hid (Below w.heap.size w (w2.alloc (.cells #[.int .i64 code, .int .i64 line, .int .i64 col, .int .i64 off] 27))) := (HB1.out.trans (hb2.mono HB1.out.size)).alloc (Nat.le_trans HB1.out.size hb2.size) _; obtain ⟨f0, f1, f2, f3, _, _, _, _⟩ := flt_cells ((hb2.block w1.heap.size (by simp)).trans HF.out); have h12 : w1.heap.size < w2.heap.size := (by have := hb2.size; simp at this; omega); clear cR hb2) | (go_at_call 7; refine (cE _).mono ?_; rintro e w3 ⟨rfl, q, rfl⟩; have HB3 := below_drewN HB2.out q) | (go_at_call 8; refine (cH _ HB3).mono ?_; rintro e w4 ⟨rfl, hb4⟩))
    go_ret
    exact ⟨rfl, HB3.trans (hb4.mono HB3.size)⟩
  · rw [hR] at cS cR
    unfold ScanPost at cS cR
    simp only [fltV] at cS cR
    have hll : l.length ≤ 16385 := (scan_toks hR).2.1
    clear hR
    go_enter Tryz.func3, Tryz.ntmps3
    go_wp2_with (first | (go_at_call 5; refine cS.mono ?_; rintro e w1 ⟨hb1, v1, rfl, hown⟩; have HB1 : Hid (Below w.heap.size w (w1.alloc (.cells #[.int .i64 0, .int .i64 0, .int .i64 0, .int .i64 0] 27))) := hb1.alloc hb1.size _; have HF : Hid _ := heap_in0 w1 (.cells #[.int .i64 0, .int .i64 0, .int .i64 0, .int .i64 0] 27); have H1 : Hid (TokSl (w1.alloc (.cells #[.int .i64 0, .int .i64 0, .int .i64 0, .int .i64 0] 27)) v1 (l.map Tok.r)) := (scan_tokSl hown).alloc _; clear hb1 cS hown) | (go_at_call 6; refine (cR _).mono ?_; rintro e w2 ⟨hb2, v2, rfl, hown⟩; have HB2 : Hid (Below w.heap.size w (w2.alloc (.cells #[.int .i64 0, .int .i64 0, .int .i64 0, .int .i64 0] 27))) := (HB1.out.trans (hb2.mono HB1.out.size)).alloc (Nat.le_trans HB1.out.size hb2.size) _; obtain ⟨f0, f1, f2, f3, _, _, _, _⟩ := flt_cells ((hb2.block w1.heap.size (by simp)).trans HF.out); have h12 : w1.heap.size < w2.heap.size := (by have := hb2.size; simp at this; omega); have H2a : Hid (TokSl (w2.alloc (.cells #[.int .i64 0, .int .i64 0, .int .i64 0, .int .i64 0] 27)) v1 (l.map Tok.r)) := (H1.out.below hb2).alloc _; have H2b : Hid (TokSl (w2.alloc (.cells #[.int .i64 0, .int .i64 0, .int .i64 0, .int .i64 0] 27)) v2 (l.map Tok.r)) := (scan_tokSl hown).alloc _; clear cR hb2 hown) | (go_at_call 7; refine (same_c v1 v2 _ _ H2a.out H2b.out (by simp; omega)).mono ?_; rintro e w3 ⟨rfl, q, rfl⟩; have HB3 := below_drewN HB2.out q) | (go_at_call 8; refine (cH _ HB3).mono ?_; rintro e w4 ⟨rfl, hb4⟩))
    go_ret
    exact ⟨rfl, HB3.trans (hb4.mono HB3.size)⟩
end Go.Proofs.YtjbmpdcgmphhoaaGreatDoor
