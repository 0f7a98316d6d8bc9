/-
  What the statement TokenFirst answers: true, at every text.
-/
import Derived.Test.YtmcghikanhhkfaaDoorHeads
import Derived.Test.YtmcghikanhhkfaaDoorFirst
namespace Go.Proofs.YtmcghikanhhkfaaDoor
open Go.RowKit
set_option linter.unusedVariables false

theorem flt_at (w : World) (a b c d : Value) : (w.alloc (.cells #[a, b, c, d] 34)).cell? ⟨w.heap.size, 0, none⟩ = some a ∧ (w.alloc (.cells #[a, b, c, d] 34)).cell? ⟨w.heap.size, 1, none⟩ = some b ∧ (w.alloc (.cells #[a, b, c, d] 34)).cell? ⟨w.heap.size, 2, none⟩ = some c ∧ (w.alloc (.cells #[a, b, c, d] 34)).cell? ⟨w.heap.size, 3, none⟩ = some d := by
  refine ⟨?_, ?_, ?_, ?_⟩ <;> (rw [World.cell?_alloc_mark]; rfl)

theorem kept_drew {B b : Nat} {x y z : Value} {W w : World} (h : w.cell? ⟨b, 1, none⟩ = some x ∧ w.cell? ⟨b, 2, none⟩ = some y ∧ w.cell? ⟨b, 3, none⟩ = some z ∧ Below B W w) :
    w.drew.cell? ⟨b, 1, none⟩ = some x ∧ w.drew.cell? ⟨b, 2, none⟩ = some y ∧ w.drew.cell? ⟨b, 3, none⟩ = some z ∧ Below B W w.drew := ⟨by simpa using h.1, by simpa using h.2.1, by simpa using h.2.2.1, h.2.2.2.drew⟩
theorem kept_below {B b : Nat} {x y z : Value} {W w w' : World} (h : w.cell? ⟨b, 1, none⟩ = some x ∧ w.cell? ⟨b, 2, none⟩ = some y ∧ w.cell? ⟨b, 3, none⟩ = some z ∧ Below B W w) (hb : Below w.heap.size w w') (hB : B ≤ W.heap.size) :
    w'.cell? ⟨b, 1, none⟩ = some x ∧ w'.cell? ⟨b, 2, none⟩ = some y ∧ w'.cell? ⟨b, 3, none⟩ = some z ∧ Below B W w' := by
  have hlt : b < w.heap.size := World.block_lt_of_cell? w ⟨b, 1, none⟩ h.1
  exact ⟨(hb.cell (p := ⟨b, 1, none⟩) hlt).trans h.1, (hb.cell (p := ⟨b, 2, none⟩) hlt).trans h.2.1, (hb.cell (p := ⟨b, 3, none⟩) hlt).trans h.2.2.1, h.2.2.2.trans (hb.mono (Nat.le_trans hB h.2.2.2.size))⟩

set_option maxRecDepth 100000 in
set_option maxHeartbeats 4000000 in
theorem tokenFirst_c (s : ByteArray) (w : World) (mx : Int) (hs : s.size ≤ 9223372036854775807) (hm : w.cell? ⟨0, 0, none⟩ = some (.int .i64 mx)) :
    Calls Tryd.prog 6 #[.string s] w fun e w' => e = .returned (.bool true) ∧ Below w.heap.size w w' := by
  have hmb : 0 < w.heap.size := World.block_lt_of_cell? w _ hm
  have cS := scan_c s w mx hs hm
  have hll : s.data.toList.length = s.size := by simp
  have cM := fun n W => num_c n W
  have cH : ∀ W : World, Below w.heap.size w W → Calls Tryd.prog 13 #[] W fun e w' => e = .returned (.bool true) ∧ Below W.heap.size W w' := fun W hW => heads_c W mx ((hW.cell (p := ⟨0, 0, none⟩) hmb).trans hm)
  by_cases hlong : 65536 < s.size
  · have hlong' : (65536 : Int) < s.size := by omega
    rw [scan_long_code s.data.toList (by omega)] at cS
    unfold ScanPost at cS
    simp only [fltV] at cS
    go_enter Tryd.func6, Tryd.ntmps6
    go_wp2_with (first | (go_at_call 16; refine cS.mono ?_; rintro e w1 ⟨hb1, rfl⟩; have HB1 : Hid (Below w.heap.size w w1) := hb1; clear hb1 cS) | (go_at_call 15; refine (cM _ _).mono ?_; rintro e w' ⟨rfl, rfl⟩) | (go_at_call 13; refine (cH _ (HB1.out.alloc HB1.out.size _)).mono ?_; rintro e w2 ⟨rfl, hb2⟩))
    go_ret
    exact ⟨rfl, (HB1.out.alloc HB1.out.size _).trans (hb2.mono (Nat.le_trans HB1.out.size (by simp)))⟩
  have hshort : ¬ ((65536 : Int) < s.size) := by omega
  rcases hR : scan s.data.toList with f | l
  · obtain ⟨hF, r, hr⟩ := scan_first s.data.toList f (by omega) hR
    rw [hR] at cS
    obtain ⟨code, line, col, off⟩ := f
    have hle := hF.le
    simp only at hle hr
    rw [hll] at hle
    have hline := hF.line
    have hcol := hF.col
    simp only at hline hcol
    have hcode := hF.code
    simp only at hcode
    have hao : atOff s.size (off : Int) = off := by unfold atOff; omega
    have cA : ∀ W, Calls Tryd.prog 7 #[.string s, .int .i64 (off : Int)] W fun e w' => e = .returned (.agg #[.int .i64 line, .int .i64 col, .int .i64 (off : Int)]) ∧ Below W.heap.size W w' := fun W => by
      have := at_c s off W (by omega) (by omega) (by omega)
      rw [hao, extract_part, ← hline, ← hcol] at this
      exact this
    have hx : (s.extract 0 off).data.toList = s.data.toList.take off := by rw [extract_list]; simp
    have cS2 : ∀ W, Below w.heap.size w W → Calls Tryd.prog 16 #[.string (s.extract 0 off)] W (ScanPost W (.ok r)) := fun W hW => by
      have := scan_c (s.extract 0 off) W mx (by simp; omega) ((hW.cell (p := ⟨0, 0, none⟩) hmb).trans hm)
      rw [hx, hr] at this; exact this
    unfold ScanPost at cS cS2
    simp only [fltV] at cS cS2
    have hc0 : ¬ ((code : Int) = 0) := by omega
    have hc24 : ¬ ((code : Int) = 24) := by omega
    have ho0 : decide ((off : Int) < 0) = false := by simp
    have ho1 : decide (s.size < off) = false := by simp; omega
    clear hF hline hcol hcode hao hx hr hR hll
    go_enter Tryd.func6, Tryd.ntmps6
    go_wp2_with (first | (go_at_call 16; refine cS.mono ?_; rintro e w1 ⟨hb1, rfl⟩; have HB1 : Hid (Below w.heap.size w w1) := hb1; clear hb1 cS) | (go_at_call 15; refine (cM _ _).mono ?_; rintro e w' ⟨rfl, rfl⟩))
    have HB2 : Hid (Below w.heap.size w (w1.alloc (.cells #[.int .i64 code, .int .i64 line, .int .i64 col, .int .i64 off] 34))) := HB1.out.alloc HB1.out.size _
    obtain ⟨d0, d1, d2, d3⟩ := flt_at w1 (.int .i64 code) (.int .i64 line) (.int .i64 col) (.int .i64 off)
    have hS0 : (w1.alloc (.cells #[.int .i64 code, .int .i64 line, .int .i64 col, .int .i64 off] 34)).cell? ⟨w1.heap.size, 1, none⟩ = some (.int .i64 line) ∧ (w1.alloc (.cells #[.int .i64 code, .int .i64 line, .int .i64 col, .int .i64 off] 34)).cell? ⟨w1.heap.size, 2, none⟩ = some (.int .i64 col) ∧ (w1.alloc (.cells #[.int .i64 code, .int .i64 line, .int .i64 col, .int .i64 off] 34)).cell? ⟨w1.heap.size, 3, none⟩ = some (.int .i64 off) ∧ Below w.heap.size w (w1.alloc (.cells #[.int .i64 code, .int .i64 line, .int .i64 col, .int .i64 off] 34)) := ⟨d1, d2, d3, HB2.out⟩
    generalize w1.alloc (.cells #[.int .i64 code, .int .i64 line, .int .i64 col, .int .i64 off] 34) = W1 at *
    generalize w1.heap.size = b1 at *
    go_region_held3 (fun w' => w'.cell? ⟨b1, 1, none⟩ = some (.int .i64 line) ∧ w'.cell? ⟨b1, 2, none⟩ = some (.int .i64 col) ∧ w'.cell? ⟨b1, 3, none⟩ = some (.int .i64 off) ∧ Below w.heap.size w w') (first | exact kept_drew (by assumption) | exact kept_below (by assumption) (by assumption) (Nat.le_refl _)) (first | (go_at_call 7; refine (cA _).mono ?_; rintro e w' ⟨rfl, hb⟩))
    rename_i hHeld
    obtain ⟨e1, e2, e3, hBW⟩ := hHeld
    have HBW : Hid (Below w.heap.size w w') := hBW
    clear hb hBW d0 d1 d2 d3 hS0 HB2
    go_wp2_with (first | (go_at_call 16; refine (cS2 _ HBW.out).mono ?_; rintro e w3 ⟨hb3, v, rfl, hown⟩; have HB3 : Hid (Below w.heap.size w (w3.alloc (.cells #[.int .i64 0, .int .i64 0, .int .i64 0, .int .i64 0] 34))) := (HBW.out.trans (hb3.mono HBW.out.size)).alloc (Nat.le_trans HBW.out.size hb3.size) _; clear hb3 hown) | (go_at_call 13; refine (cH _ HB3.out).mono ?_; rintro e w4 ⟨rfl, hb4⟩))
    go_ret
    exact ⟨rfl, HB3.out.trans (hb4.mono HB3.out.size)⟩
  · rw [hR] at cS
    unfold ScanPost at cS
    simp only [fltV] at cS
    go_enter Tryd.func6, Tryd.ntmps6
    go_wp2_with (first | (go_at_call 16; refine cS.mono ?_; rintro e w1 ⟨hb1, v, rfl, hown⟩; have HB1 : Hid (Below w.heap.size w w1) := hb1; clear hb1 cS hown) | (go_at_call 15; refine (cM _ _).mono ?_; rintro e w' ⟨rfl, rfl⟩) | (go_at_call 13; refine (cH _ (HB1.out.alloc HB1.out.size _)).mono ?_; rintro e w2 ⟨rfl, hb2⟩))
    go_ret
    exact ⟨bool_ret (by simp; omega), (HB1.out.alloc HB1.out.size _).trans (hb2.mono (Nat.le_trans HB1.out.size (by simp)))⟩
end Go.Proofs.YtmcghikanhhkfaaDoor
