/-
  The law ConvFolds' own walk.
-/
import Derived.Test.YtpnpilbmhkiphaaDoorCvT
namespace Go.Proofs.YtpnpilbmhkiphaaDoor
open Go.RowKit Go.Maps
set_option linter.unusedVariables false
set_option maxRecDepth 100000

theorem low8_bd (v : Int) : 0 ≤ W.low8 v ∧ W.low8 v < 4294967296 ∧ W.low8 (W.low8 v) = W.low8 v := by
  unfold W.low8
  split
  · refine ⟨by omega, by omega, ?_⟩
    rw [if_pos (by omega)]; omega
  · refine ⟨by omega, by omega, ?_⟩
    rw [if_neg (by omega)]; omega
theorem low16_bd (v : Int) : 0 ≤ W.low16 v ∧ W.low16 v < 4294967296 ∧ W.low16 (W.low16 v) = W.low16 v := by
  unfold W.low16
  split
  · refine ⟨by omega, by omega, ?_⟩
    rw [if_pos (by omega)]; omega
  · refine ⟨by omega, by omega, ?_⟩
    rw [if_neg (by omega)]; omega
theorem conv_bd (k v : Int) (v0 : 0 ≤ v) (v1 : v < 4294967296) : 0 ≤ W.conv k v ∧ W.conv k v < 4294967296 ∧ W.conv k (W.conv k v) = W.conv k v := by
  by_cases h2 : k = 2
  · subst h2
    simp only [W.conv, if_true]
    by_cases h : v = 0
    · simp [h]
    · simp [h]
  by_cases h3 : k = 3 ∨ k = 4
  · simp only [W.conv, if_neg h2, if_pos h3]; exact low8_bd v
  by_cases h5 : k = 5
  · subst h5; simp only [W.conv]; simp; omega
  by_cases h6 : k = 6
  · simp only [W.conv, if_neg h2, if_neg h3, if_neg h5, if_pos h6]; exact low16_bd v
  by_cases h7 : k = 7
  · subst h7; simp only [W.conv]; simp; omega
  simp only [W.conv, if_neg h2, if_neg h3, if_neg h5, if_neg h6, if_neg h7]
  exact ⟨v0, v1, trivial⟩
set_option maxHeartbeats 4000000 in
theorem convFolds_c (k op a b : Int) (w : World) (a0 : 0 ≤ a) (a1 : a < 4294967296) (b0 : 0 ≤ b) (b1 : b < 4294967296) (hN : W.NamesIn w) (hz : 0 < w.heap.size) :
    Calls Tryd.prog 3 #[.int .i64 k, .int .i64 op, .int .u32 a, .int .u32 b] w fun e w' => e = .returned (.bool true) ∧ Below w.heap.size w w' := by
  obtain ⟨s, N1, N2⟩ := (W.both_any op a b a0 a1 b0 b1).2
  obtain ⟨v, c, B1, B2, v0, v1⟩ := both_bd op a b a0 a1 b0 b1
  have cF := cFold_c (k := k) (N1 w hN) B1 v0 v1
  have HB1 : Hid (∀ w, Calls Tryd.prog 7 #[.int .i64 op, .int .u32 a, .int .u32 b] w fun e w' => e = .returned (.tuple #[.int .u32 v, .bool c]) ∧ w' = w) := B1
  have HN : Hid (W.NamesIn w) := hN
  have cC := fun Y => (W.convert_any k v v0 v1).1 Y
  obtain ⟨x0, x1, x2⟩ := conv_bd k v v0 v1
  have nf := not_f
  have HG : Hid (∀ Y, Below w.heap.size w Y → intK k = true → Calls Tryd.prog 6 #[.int .i64 k, .int .i64 1, .int .u32 (W.conv k v), .int .u32 0] Y fun e w' => e = .returned (.tuple #[.int .u32 (W.conv k v), .int .i64 0]) ∧ Below Y.heap.size Y w') := by
    intro Y hY hi
    have c2 := cFold_c (k := k) (op := 1) (a := W.conv k v) (b := 0) (v := (W.conv k v + 0) % 4294967296) (c := true) (name_add Y (names_b hN hz hY)) (fun w => W.bin_add (W.conv k v) 0 w x0 x1 (by decide) (by decide)) (by omega) (by omega)
    have e1 : (W.conv k v + 0) % 4294967296 = W.conv k v := by omega
    rw [e1, x2, hi] at c2
    exact c2
  clear hN N1 N2 B1 B2
  cases hzz : (!intK k || decide (s = ⟨#[]⟩)) with
  | true =>
    rw [hzz, show foldV true c (W.conv k v) = #[.int .u32 0, .int .i64 70] from rfl] at cF
    clear cC HG x0 x1 x2 hzz
    go_enter Tryd.func3, Tryd.ntmps3
    go_wp2_with fail
    refine cF.mono ?_
    rintro e w1 ⟨rfl, hb1⟩
    have H1 : Hid (Below w.heap.size w w1) := hb1
    clear hb1 cF
    go_wp2_with fail
    refine (HB1.out _).mono ?_
    rintro e w' ⟨rfl, hw⟩
    rw [hw]
    clear hw w' HB1
    go_wp2_with fail
    refine (cHeads_c w1 (names_b HN.out hz H1.out) (Nat.lt_of_lt_of_le hz H1.out.size)).mono ?_
    rintro e w3 ⟨rfl, hb3⟩
    have H3 : Hid (Below w.heap.size w w3) := H1.out.trans (hb3.mono H1.out.size)
    clear hb3
    go_wp2
    go_ret
    exact ⟨rfl, H3.out⟩
  | false =>
    have hi : intK k = true := by
      cases hq : intK k with
      | true => rfl
      | false => rw [hq] at hzz; cases hzz
    cases c with
    | false =>
      rw [hzz, show foldV false false (W.conv k v) = #[.int .u32 0, .int .i64 71] from rfl] at cF
      clear cC HG x0 x1 x2 hzz
      go_enter Tryd.func3, Tryd.ntmps3
      go_wp2_with fail
      refine cF.mono ?_
      rintro e w1 ⟨rfl, hb1⟩
      have H1 : Hid (Below w.heap.size w w1) := hb1
      clear hb1 cF
      go_wp2_with fail
      refine (HB1.out _).mono ?_
      rintro e w' ⟨rfl, hw⟩
      rw [hw]
      clear hw w' HB1
      go_wp2_with fail
      refine (cHeads_c w1 (names_b HN.out hz H1.out) (Nat.lt_of_lt_of_le hz H1.out.size)).mono ?_
      rintro e w3 ⟨rfl, hb3⟩
      have H3 : Hid (Below w.heap.size w w3) := H1.out.trans (hb3.mono H1.out.size)
      clear hb3
      go_wp2
      go_ret
      exact ⟨rfl, H3.out⟩
    | true =>
      rw [hzz, show foldV false true (W.conv k v) = #[.int .u32 (W.conv k v), .int .i64 0] from rfl] at cF
      have HGi : Hid (∀ Y, Below w.heap.size w Y → Calls Tryd.prog 6 #[.int .i64 k, .int .i64 1, .int .u32 (W.conv k v), .int .u32 0] Y fun e w' => e = .returned (.tuple #[.int .u32 (W.conv k v), .int .i64 0]) ∧ Below Y.heap.size Y w') := fun Y hY => HG.out Y hY hi
      generalize W.conv k v = x at *
      clear HG x0 x1 x2 hzz hi
      go_enter Tryd.func3, Tryd.ntmps3
      go_wp2_with fail
      refine cF.mono ?_
      rintro e w1 ⟨rfl, hb1⟩
      have H1 : Hid (Below w.heap.size w w1) := hb1
      clear hb1 cF
      go_wp2_with fail
      refine (HB1.out _).mono ?_
      rintro e w' ⟨rfl, hw⟩
      rw [hw]
      clear hw w' HB1
      go_wp2_with fail
      refine (HGi.out _ H1.out).mono ?_
      rintro e w2 ⟨rfl, hb2⟩
      have H2 : Hid (Below w.heap.size w w2) := H1.out.trans (hb2.mono H1.out.size)
      clear hb2 HGi
      go_wp2_with fail
      refine (cC _).mono ?_
      rintro e w' ⟨rfl, hw⟩
      rw [hw]
      clear hw w' cC
      go_wp2_with fail
      refine (cHeads_c w2 (names_b HN.out hz H2.out) (Nat.lt_of_lt_of_le hz H2.out.size)).mono ?_
      rintro e w3 ⟨rfl, hb3⟩
      have H3 : Hid (Below w.heap.size w w3) := H2.out.trans (hb3.mono H2.out.size)
      clear hb3
      go_wp2
      go_ret
      exact ⟨rfl, H3.out⟩
end Go.Proofs.YtpnpilbmhkiphaaDoor
