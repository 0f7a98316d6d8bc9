/-
  The law ConvKinds' own walk.
-/
import Derived.Test.YtpnpilbmhkiphaaDoorCvT
namespace Go.Proofs.YtpnpilbmhkiphaaDoor
open Go.RowKit Go.Maps
set_option linter.unusedVariables false
set_option maxRecDepth 100000

theorem usual_two (a b : Int) : ∃ x y, usualV a b = #[.int .i64 x, .int .i64 y] := by
  unfold usualV; split <;> exact ⟨_, _, rfl⟩
theorem fold_two (z c : Bool) (x : Int) : ∃ p q, foldV z c x = #[.int .u32 p, .int .i64 q] := by
  unfold foldV; split
  · exact ⟨_, _, rfl⟩
  · split <;> exact ⟨_, _, rfl⟩
set_option maxHeartbeats 4000000 in
theorem convKinds_c (a b bits op x y : Int) (w : World) (x0 : 0 ≤ x) (x1 : x < 4294967296) (y0 : 0 ≤ y) (y1 : y < 4294967296) (hN : W.NamesIn w) (hz : 0 < w.heap.size) :
    Calls Tryd.prog 4 #[.int .i64 a, .int .i64 b, .int .i64 bits, .int .i64 op, .int .u32 x, .int .u32 y] w fun e w' => e = .returned (.bool true) ∧ Below w.heap.size w w' := by
  have cU := cUsual_c a b w
  have rU := rUsual_c a b w
  obtain ⟨u1, u2, hu⟩ := usual_two a b
  rw [hu] at cU rU
  obtain ⟨s, N1, N2⟩ := (W.both_any op x y x0 x1 y0 y1).2
  obtain ⟨v, c, B1, B2, v0, v1⟩ := both_bd op x y x0 x1 y0 y1
  have cF := cFold_c (k := a) (N1 w hN) B1 v0 v1
  have rF := fun Y => rFold_c (k := a) (W0 := Y) (N2 Y) B2 v0 v1
  obtain ⟨f1, f2, hf⟩ := fold_two (!intK a || decide (s = ⟨#[]⟩)) c (W.conv a v)
  rw [hf] at cF
  simp only [hf] at rF
  have cP := fun Y => cPromote_c a bits Y
  have rP := fun Y => rPromote_c a bits Y
  generalize promP a bits = pr at *
  have HN : Hid (W.NamesIn w) := hN
  clear hN N1 N2 B1 B2 hu hf v0 v1
  go_enter Tryd.func4, Tryd.ntmps4
  go_wp2_with fail
  refine cU.mono ?_
  rintro e w' ⟨rfl, hw⟩
  rw [hw]
  clear hw w' cU
  go_wp2_with fail
  refine rU.mono ?_
  rintro e w' ⟨rfl, hw⟩
  rw [hw]
  clear hw w' rU
  go_wp2_with fail
  refine cF.mono ?_
  rintro e w1 ⟨rfl, hb1⟩
  have H1 : Hid (Below w.heap.size w w1) := hb1
  clear hb1 cF
  go_wp2_with fail
  refine (rF _).mono ?_
  rintro e w2 ⟨rfl, hb2⟩
  have H2 : Hid (Below w.heap.size w w2) := H1.out.trans (hb2.mono H1.out.size)
  clear hb2 rF
  go_wp2_with fail
  refine (cP _).mono ?_
  rintro e w' ⟨rfl, hw⟩
  rw [hw]
  clear hw w' cP
  go_wp2_with fail
  refine (rP _).mono ?_
  rintro e w' ⟨rfl, hw⟩
  rw [hw]
  clear hw w' rP
  go_wp2_with fail
  refine (cHeads_c w2 (names_b HN.out hz H2.out) (Nat.lt_of_lt_of_le hz H2.out.size)).mono ?_
  rintro e w3 ⟨rfl, hb3⟩
  have H3 : Hid (Below w.heap.size w w3) := H2.out.trans (hb3.mono H2.out.size)
  clear hb3
  go_wp2
  go_ret
  exact ⟨rfl, H3.out⟩
end Go.Proofs.YtpnpilbmhkiphaaDoor
