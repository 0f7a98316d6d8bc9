/-
  What the statement TokenSpots answers: true, at every text and place.
-/
import Derived.Test.YtjbmpdcgmphhoaaDoorRefNmW
import Derived.Test.YtjbmpdcgmphhoaaDoorRefAt
import Derived.Test.YtjbmpdcgmphhoaaDoorHeads
namespace Go.Proofs.YtjbmpdcgmphhoaaDoor
open Go.RowKit
set_option linter.unusedVariables false

set_option maxRecDepth 100000 in
set_option maxHeartbeats 4000000 in
theorem tokenSpots_c (s : ByteArray) (off : Int) (w : World) (mx : Int) (hs : s.size ≤ 1000000000000000000) (h0 : -9223372036854775808 ≤ off) (h1 : off ≤ 9223372036854775807) (hm : w.cell? ⟨0, 0, none⟩ = some (.int .i64 mx)) :
    Calls Tryd.prog 3 #[.string s, .int .i64 off] w fun e w' => e = .returned (.bool true) ∧ Below w.heap.size w w' := by
  have hmb : 0 < w.heap.size := World.block_lt_of_cell? w _ hm
  have cH : ∀ W : World, Below w.heap.size w W → Calls Tryd.prog 13 #[] W fun e w' => e = .returned (.bool true) ∧ Below W.heap.size W w' := fun W hW => heads_c W mx ((hW.cell (p := ⟨0, 0, none⟩) hmb).trans hm)
  have cA := fun W => at_c s off W hs h0 h1
  have cR := fun W => refAt_c s off W hs h0 h1
  have cN := fun W => name_c s W (by omega)
  have cM := fun W => name_r s W (by omega)
  have cW := fun W => word_c s W
  have cV := fun W => word_r s W
  have e1 : onLine 1 (s.extract 0 (atOff s.size off)) = lineAt s.data.toList (atOff s.size off) := by rw [extract_part]; rfl
  have e2 : onCol 1 (s.extract 0 (atOff s.size off)) = colAt s.data.toList (atOff s.size off) := by rw [extract_part]; rfl
  rw [e1, e2] at cA
  clear e1 e2
  generalize lineAt s.data.toList (atOff s.size off) = ln at *
  generalize colAt s.data.toList (atOff s.size off) = cl at *
  generalize atOff s.size off = o at *
  generalize isName s.data.toList = nm at *
  generalize isWord s.data.toList = wd at *
  unfold spotV at cA cR
  have hnn : (nm == nm) = true := by simp
  have hww : (wd == wd) = true := by simp
  go_enter Tryd.func3, Tryd.ntmps3
  go_wp2_with (first | (go_at_call 7; refine (cA _).mono ?_; rintro e w1 ⟨rfl, hb1⟩; have HB1 : Hid (Below w.heap.size w w1) := hb1; clear hb1 cA) | (go_at_call 8; refine (cR _).mono ?_; rintro e w2 ⟨rfl, hb2⟩; have HB2 : Hid (Below w.heap.size w w2) := HB1.out.trans (hb2.mono HB1.out.size); clear hb2 cR) | (go_at_call 9; refine (cN _).mono ?_; rintro e w' ⟨rfl, rfl⟩; clear cN) | (go_at_call 10; refine (cM _).mono ?_; rintro e w3 ⟨rfl, hb3⟩; have HB3 : Hid (Below w.heap.size w w3) := HB2.out.trans (hb3.mono HB2.out.size); clear hb3 cM) | (go_at_call 11; refine (cW _).mono ?_; rintro e w' ⟨rfl, rfl⟩; clear cW) | (go_at_call 12; refine (cV _).mono ?_; rintro e w4 ⟨rfl, hb4⟩; have HB4 : Hid (Below w.heap.size w w4) := HB3.out.trans (hb4.mono HB3.out.size); clear hb4 cV) | (go_at_call 13; refine (cH _ HB4.out).mono ?_; rintro e w5 ⟨rfl, hb5⟩))
  go_ret
  exact ⟨rfl, HB4.out.trans (hb5.mono HB4.out.size)⟩
end Go.Proofs.YtjbmpdcgmphhoaaDoor
