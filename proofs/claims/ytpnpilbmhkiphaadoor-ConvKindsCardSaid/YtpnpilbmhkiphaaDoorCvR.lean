/-
  What a pair's methods answer.
-/
import Derived.Test.YtpnpilbmhkiphaaDoorCvL
namespace Go.Proofs.YtpnpilbmhkiphaaDoor
open Go.RowKit Go.Maps
set_option linter.unusedVariables false
set_option maxRecDepth 100000

section
set_option maxHeartbeats 1000000 in
theorem pSame_c (tp : Option Addr) (op : ByteArray) (i1 k1 e1 n1 : Int) (t1 : ByteArray) (p1 : Option Addr) (a1 u1 : Nat) (d1 : Bool) (i2 k2 e2 n2 : Int) (t2 : ByteArray) (p2 : Option Addr) (a2 u2 : Nat) (d2 : Bool) (w : World) : Calls Tryd.prog 80 #[.agg #[.pointer tp, .string op, .int .i64 i1, .int .i64 k1, .int .i64 e1, .int .i64 n1, .string t1, .slice p1 a1 u1, .bool d1, .int .i64 i2, .int .i64 k2, .int .i64 e2, .int .i64 n2, .string t2, .slice p2 a2 u2, .bool d2]] w fun e w' => e = .returned (.bool (i1 == i2)) ∧ Below w.heap.size w w' := by
  have HB : Hid (Below w.heap.size w (w.alloc (.cells #[.pointer tp, .string op, .int .i64 i1, .int .i64 k1, .int .i64 e1, .int .i64 n1, .string t1, .slice p1 a1 u1, .bool d1, .int .i64 i2, .int .i64 k2, .int .i64 e2, .int .i64 n2, .string t2, .slice p2 a2 u2, .bool d2] TP))) := below1 w _
  go_enter Tryd.func80, Tryd.ntmps80
  go_wp2
  go_ret
  exact ⟨rfl, HB.out⟩
set_option maxHeartbeats 1000000 in
theorem pInts_c (tp : Option Addr) (op : ByteArray) (i1 k1 e1 n1 : Int) (t1 : ByteArray) (p1 : Option Addr) (a1 u1 : Nat) (d1 : Bool) (i2 k2 e2 n2 : Int) (t2 : ByteArray) (p2 : Option Addr) (a2 u2 : Nat) (d2 : Bool) (w : World) : Calls Tryd.prog 51 #[.agg #[.pointer tp, .string op, .int .i64 i1, .int .i64 k1, .int .i64 e1, .int .i64 n1, .string t1, .slice p1 a1 u1, .bool d1, .int .i64 i2, .int .i64 k2, .int .i64 e2, .int .i64 n2, .string t2, .slice p2 a2 u2, .bool d2]] w fun e w' => e = .returned (.bool ((intK k1) && (intK k2))) ∧ Below w.heap.size w w' := by
  have c1 := fun W => oInt_c i1 k1 e1 n1 t1 p1 a1 u1 d1 W
  have c2 := fun W => oInt_c i2 k2 e2 n2 t2 p2 a2 u2 d2 W
  have E0 : Hid (∀ Y, Below (w.alloc (.cells #[.pointer tp, .string op, .int .i64 i1, .int .i64 k1, .int .i64 e1, .int .i64 n1, .string t1, .slice p1 a1 u1, .bool d1, .int .i64 i2, .int .i64 k2, .int .i64 e2, .int .i64 n2, .string t2, .slice p2 a2 u2, .bool d2] TP)).heap.size (w.alloc (.cells #[.pointer tp, .string op, .int .i64 i1, .int .i64 k1, .int .i64 e1, .int .i64 n1, .string t1, .slice p1 a1 u1, .bool d1, .int .i64 i2, .int .i64 k2, .int .i64 e2, .int .i64 n2, .string t2, .slice p2 a2 u2, .bool d2] TP)) Y → Below w.heap.size w Y) := fun Y h => below_box h
  have HC : Hid (∀ Y, Below (w.alloc (.cells #[.pointer tp, .string op, .int .i64 i1, .int .i64 k1, .int .i64 e1, .int .i64 n1, .string t1, .slice p1 a1 u1, .bool d1, .int .i64 i2, .int .i64 k2, .int .i64 e2, .int .i64 n2, .string t2, .slice p2 a2 u2, .bool d2] TP)).heap.size (w.alloc (.cells #[.pointer tp, .string op, .int .i64 i1, .int .i64 k1, .int .i64 e1, .int .i64 n1, .string t1, .slice p1 a1 u1, .bool d1, .int .i64 i2, .int .i64 k2, .int .i64 e2, .int .i64 n2, .string t2, .slice p2 a2 u2, .bool d2] TP)) Y → InP Y w.heap.size #[.pointer tp, .string op, .int .i64 i1, .int .i64 k1, .int .i64 e1, .int .i64 n1, .string t1, .slice p1 a1 u1, .bool d1, .int .i64 i2, .int .i64 k2, .int .i64 e2, .int .i64 n2, .string t2, .slice p2 a2 u2, .bool d2]) := fun Y h => inP_box h
  obtain ⟨L0, L1, L2⟩ := load_P (HC.out _ (Below.refl _ _))
  generalize (intK k1) = z1 at c1 ⊢
  generalize (intK k2) = z2 at c2 ⊢
  cases z1 with
  | false =>
    clear c2
    go_enter Tryd.func51, Tryd.ntmps51
    go_wp2_with (first | ((with_reducible apply step_load L0); rfl; rfl) | ((with_reducible apply step_load L1); rfl; rfl) | ((with_reducible apply step_load L2); rfl; rfl) | fail)
    generalize w.alloc (.cells #[.pointer tp, .string op, .int .i64 i1, .int .i64 k1, .int .i64 e1, .int .i64 n1, .string t1, .slice p1 a1 u1, .bool d1, .int .i64 i2, .int .i64 k2, .int .i64 e2, .int .i64 n2, .string t2, .slice p2 a2 u2, .bool d2] TP) = W at *
    refine (c1 _).mono ?_
    rintro e w1 ⟨rfl, hb⟩
    have Hw1 : Hid (Below W.heap.size W w1) := hb
    clear hb c1 L0 L1 L2
    obtain ⟨L0, L1, L2⟩ := load_P (HC.out _ Hw1.out)
    clear L0 L1 L2
    go_wp2
    go_ret
    exact ⟨rfl, E0.out _ Hw1.out⟩
  | true =>
    go_enter Tryd.func51, Tryd.ntmps51
    go_wp2_with (first | ((with_reducible apply step_load L0); rfl; rfl) | ((with_reducible apply step_load L1); rfl; rfl) | ((with_reducible apply step_load L2); rfl; rfl) | fail)
    generalize w.alloc (.cells #[.pointer tp, .string op, .int .i64 i1, .int .i64 k1, .int .i64 e1, .int .i64 n1, .string t1, .slice p1 a1 u1, .bool d1, .int .i64 i2, .int .i64 k2, .int .i64 e2, .int .i64 n2, .string t2, .slice p2 a2 u2, .bool d2] TP) = W at *
    refine (c1 _).mono ?_
    rintro e w1 ⟨rfl, hb⟩
    have Hw1 : Hid (Below W.heap.size W w1) := hb
    clear hb c1 L0 L1 L2
    obtain ⟨L0, L1, L2⟩ := load_P (HC.out _ Hw1.out)
    go_wp2_with (first | ((with_reducible apply step_load L0); rfl; rfl) | ((with_reducible apply step_load L1); rfl; rfl) | ((with_reducible apply step_load L2); rfl; rfl) | fail)
    refine (c2 _).mono ?_
    rintro e w2 ⟨rfl, hb⟩
    have Hw2 : Hid (Below W.heap.size W w2) := Hw1.out.trans (hb.mono Hw1.out.size)
    clear hb c2 L0 L1 L2
    obtain ⟨L0, L1, L2⟩ := load_P (HC.out _ Hw2.out)
    clear L0 L1 L2
    go_wp2
    go_ret
    exact ⟨rfl, E0.out _ Hw2.out⟩
set_option maxHeartbeats 1000000 in
theorem pPtrs_c (tp : Option Addr) (op : ByteArray) (i1 k1 e1 n1 : Int) (t1 : ByteArray) (p1 : Option Addr) (a1 u1 : Nat) (d1 : Bool) (i2 k2 e2 n2 : Int) (t2 : ByteArray) (p2 : Option Addr) (a2 u2 : Nat) (d2 : Bool) (w : World) : Calls Tryd.prog 59 #[.agg #[.pointer tp, .string op, .int .i64 i1, .int .i64 k1, .int .i64 e1, .int .i64 n1, .string t1, .slice p1 a1 u1, .bool d1, .int .i64 i2, .int .i64 k2, .int .i64 e2, .int .i64 n2, .string t2, .slice p2 a2 u2, .bool d2]] w fun e w' => e = .returned (.bool ((k1 == 13) && (k2 == 13))) ∧ Below w.heap.size w w' := by
  have c1 := fun W => oPtr_c i1 k1 e1 n1 t1 p1 a1 u1 d1 W
  have c2 := fun W => oPtr_c i2 k2 e2 n2 t2 p2 a2 u2 d2 W
  have E0 : Hid (∀ Y, Below (w.alloc (.cells #[.pointer tp, .string op, .int .i64 i1, .int .i64 k1, .int .i64 e1, .int .i64 n1, .string t1, .slice p1 a1 u1, .bool d1, .int .i64 i2, .int .i64 k2, .int .i64 e2, .int .i64 n2, .string t2, .slice p2 a2 u2, .bool d2] TP)).heap.size (w.alloc (.cells #[.pointer tp, .string op, .int .i64 i1, .int .i64 k1, .int .i64 e1, .int .i64 n1, .string t1, .slice p1 a1 u1, .bool d1, .int .i64 i2, .int .i64 k2, .int .i64 e2, .int .i64 n2, .string t2, .slice p2 a2 u2, .bool d2] TP)) Y → Below w.heap.size w Y) := fun Y h => below_box h
  have HC : Hid (∀ Y, Below (w.alloc (.cells #[.pointer tp, .string op, .int .i64 i1, .int .i64 k1, .int .i64 e1, .int .i64 n1, .string t1, .slice p1 a1 u1, .bool d1, .int .i64 i2, .int .i64 k2, .int .i64 e2, .int .i64 n2, .string t2, .slice p2 a2 u2, .bool d2] TP)).heap.size (w.alloc (.cells #[.pointer tp, .string op, .int .i64 i1, .int .i64 k1, .int .i64 e1, .int .i64 n1, .string t1, .slice p1 a1 u1, .bool d1, .int .i64 i2, .int .i64 k2, .int .i64 e2, .int .i64 n2, .string t2, .slice p2 a2 u2, .bool d2] TP)) Y → InP Y w.heap.size #[.pointer tp, .string op, .int .i64 i1, .int .i64 k1, .int .i64 e1, .int .i64 n1, .string t1, .slice p1 a1 u1, .bool d1, .int .i64 i2, .int .i64 k2, .int .i64 e2, .int .i64 n2, .string t2, .slice p2 a2 u2, .bool d2]) := fun Y h => inP_box h
  obtain ⟨L0, L1, L2⟩ := load_P (HC.out _ (Below.refl _ _))
  generalize (k1 == 13) = z1 at c1 ⊢
  generalize (k2 == 13) = z2 at c2 ⊢
  cases z1 with
  | false =>
    clear c2
    go_enter Tryd.func59, Tryd.ntmps59
    go_wp2_with (first | ((with_reducible apply step_load L0); rfl; rfl) | ((with_reducible apply step_load L1); rfl; rfl) | ((with_reducible apply step_load L2); rfl; rfl) | fail)
    generalize w.alloc (.cells #[.pointer tp, .string op, .int .i64 i1, .int .i64 k1, .int .i64 e1, .int .i64 n1, .string t1, .slice p1 a1 u1, .bool d1, .int .i64 i2, .int .i64 k2, .int .i64 e2, .int .i64 n2, .string t2, .slice p2 a2 u2, .bool d2] TP) = W at *
    refine (c1 _).mono ?_
    rintro e w1 ⟨rfl, hb⟩
    have Hw1 : Hid (Below W.heap.size W w1) := hb
    clear hb c1 L0 L1 L2
    obtain ⟨L0, L1, L2⟩ := load_P (HC.out _ Hw1.out)
    clear L0 L1 L2
    go_wp2
    go_ret
    exact ⟨rfl, E0.out _ Hw1.out⟩
  | true =>
    go_enter Tryd.func59, Tryd.ntmps59
    go_wp2_with (first | ((with_reducible apply step_load L0); rfl; rfl) | ((with_reducible apply step_load L1); rfl; rfl) | ((with_reducible apply step_load L2); rfl; rfl) | fail)
    generalize w.alloc (.cells #[.pointer tp, .string op, .int .i64 i1, .int .i64 k1, .int .i64 e1, .int .i64 n1, .string t1, .slice p1 a1 u1, .bool d1, .int .i64 i2, .int .i64 k2, .int .i64 e2, .int .i64 n2, .string t2, .slice p2 a2 u2, .bool d2] TP) = W at *
    refine (c1 _).mono ?_
    rintro e w1 ⟨rfl, hb⟩
    have Hw1 : Hid (Below W.heap.size W w1) := hb
    clear hb c1 L0 L1 L2
    obtain ⟨L0, L1, L2⟩ := load_P (HC.out _ Hw1.out)
    go_wp2_with (first | ((with_reducible apply step_load L0); rfl; rfl) | ((with_reducible apply step_load L1); rfl; rfl) | ((with_reducible apply step_load L2); rfl; rfl) | fail)
    refine (c2 _).mono ?_
    rintro e w2 ⟨rfl, hb⟩
    have Hw2 : Hid (Below W.heap.size W w2) := Hw1.out.trans (hb.mono Hw1.out.size)
    clear hb c2 L0 L1 L2
    obtain ⟨L0, L1, L2⟩ := load_P (HC.out _ Hw2.out)
    clear L0 L1 L2
    go_wp2
    go_ret
    exact ⟨rfl, E0.out _ Hw2.out⟩
set_option maxHeartbeats 1000000 in
theorem pRecs_c (tp : Option Addr) (op : ByteArray) (i1 k1 e1 n1 : Int) (t1 : ByteArray) (p1 : Option Addr) (a1 u1 : Nat) (d1 : Bool) (i2 k2 e2 n2 : Int) (t2 : ByteArray) (p2 : Option Addr) (a2 u2 : Nat) (d2 : Bool) (w : World) : Calls Tryd.prog 55 #[.agg #[.pointer tp, .string op, .int .i64 i1, .int .i64 k1, .int .i64 e1, .int .i64 n1, .string t1, .slice p1 a1 u1, .bool d1, .int .i64 i2, .int .i64 k2, .int .i64 e2, .int .i64 n2, .string t2, .slice p2 a2 u2, .bool d2]] w fun e w' => e = .returned (.bool ((i1 == i2) && (k1 == 15 || k1 == 16))) ∧ Below w.heap.size w w' := by
  have c1 := fun W => pSame_c tp op i1 k1 e1 n1 t1 p1 a1 u1 d1 i2 k2 e2 n2 t2 p2 a2 u2 d2 W
  have E0 : Hid (∀ Y, Below (w.alloc (.cells #[.pointer tp, .string op, .int .i64 i1, .int .i64 k1, .int .i64 e1, .int .i64 n1, .string t1, .slice p1 a1 u1, .bool d1, .int .i64 i2, .int .i64 k2, .int .i64 e2, .int .i64 n2, .string t2, .slice p2 a2 u2, .bool d2] TP)).heap.size (w.alloc (.cells #[.pointer tp, .string op, .int .i64 i1, .int .i64 k1, .int .i64 e1, .int .i64 n1, .string t1, .slice p1 a1 u1, .bool d1, .int .i64 i2, .int .i64 k2, .int .i64 e2, .int .i64 n2, .string t2, .slice p2 a2 u2, .bool d2] TP)) Y → Below w.heap.size w Y) := fun Y h => below_box h
  have HC : Hid (∀ Y, Below (w.alloc (.cells #[.pointer tp, .string op, .int .i64 i1, .int .i64 k1, .int .i64 e1, .int .i64 n1, .string t1, .slice p1 a1 u1, .bool d1, .int .i64 i2, .int .i64 k2, .int .i64 e2, .int .i64 n2, .string t2, .slice p2 a2 u2, .bool d2] TP)).heap.size (w.alloc (.cells #[.pointer tp, .string op, .int .i64 i1, .int .i64 k1, .int .i64 e1, .int .i64 n1, .string t1, .slice p1 a1 u1, .bool d1, .int .i64 i2, .int .i64 k2, .int .i64 e2, .int .i64 n2, .string t2, .slice p2 a2 u2, .bool d2] TP)) Y → InP Y w.heap.size #[.pointer tp, .string op, .int .i64 i1, .int .i64 k1, .int .i64 e1, .int .i64 n1, .string t1, .slice p1 a1 u1, .bool d1, .int .i64 i2, .int .i64 k2, .int .i64 e2, .int .i64 n2, .string t2, .slice p2 a2 u2, .bool d2]) := fun Y h => inP_box h
  obtain ⟨L0, L1, L2⟩ := load_P (HC.out _ (Below.refl _ _))
  generalize (i1 == i2) = z1 at c1 ⊢
  cases z1 with
  | false =>
    go_enter Tryd.func55, Tryd.ntmps55
    go_wp2_with (first | ((with_reducible apply step_load L0); rfl; rfl) | ((with_reducible apply step_load L1); rfl; rfl) | ((with_reducible apply step_load L2); rfl; rfl) | fail)
    generalize w.alloc (.cells #[.pointer tp, .string op, .int .i64 i1, .int .i64 k1, .int .i64 e1, .int .i64 n1, .string t1, .slice p1 a1 u1, .bool d1, .int .i64 i2, .int .i64 k2, .int .i64 e2, .int .i64 n2, .string t2, .slice p2 a2 u2, .bool d2] TP) = W at *
    refine (c1 _).mono ?_
    rintro e w1 ⟨rfl, hb⟩
    have Hw1 : Hid (Below W.heap.size W w1) := hb
    clear hb c1 L0 L1 L2
    have Hq := HC.out _ Hw1.out 3
    simp only [List.getElem?_toArray, List.getElem?_cons_succ, List.getElem?_cons_zero] at Hq
    clear HC
    go_wp2
    go_ret
    exact ⟨rfl, E0.out _ Hw1.out⟩
  | true =>
    rw [Bool.true_and]
    by_cases ha : k1 = 15
    · subst ha
      go_enter Tryd.func55, Tryd.ntmps55
      go_wp2_with (first | ((with_reducible apply step_load L0); rfl; rfl) | ((with_reducible apply step_load L1); rfl; rfl) | ((with_reducible apply step_load L2); rfl; rfl) | fail)
      generalize w.alloc (.cells #[.pointer tp, .string op, .int .i64 i1, .int .i64 15, .int .i64 e1, .int .i64 n1, .string t1, .slice p1 a1 u1, .bool d1, .int .i64 i2, .int .i64 k2, .int .i64 e2, .int .i64 n2, .string t2, .slice p2 a2 u2, .bool d2] TP) = W at *
      refine (c1 _).mono ?_
      rintro e w1 ⟨rfl, hb⟩
      have Hw1 : Hid (Below W.heap.size W w1) := hb
      clear hb c1 L0 L1 L2
      have Hq := HC.out _ Hw1.out 3
      simp only [List.getElem?_toArray, List.getElem?_cons_succ, List.getElem?_cons_zero] at Hq
      clear HC
      go_wp2
      go_ret
      exact ⟨rfl, E0.out _ Hw1.out⟩
    · have dk : (k1 == 15) = false := by simpa using ha
      rw [dk, Bool.false_or]
      by_cases hb6 : k1 = 16
      · subst hb6
        go_enter Tryd.func55, Tryd.ntmps55
        go_wp2_with (first | ((with_reducible apply step_load L0); rfl; rfl) | ((with_reducible apply step_load L1); rfl; rfl) | ((with_reducible apply step_load L2); rfl; rfl) | fail)
        generalize w.alloc (.cells #[.pointer tp, .string op, .int .i64 i1, .int .i64 16, .int .i64 e1, .int .i64 n1, .string t1, .slice p1 a1 u1, .bool d1, .int .i64 i2, .int .i64 k2, .int .i64 e2, .int .i64 n2, .string t2, .slice p2 a2 u2, .bool d2] TP) = W at *
        refine (c1 _).mono ?_
        rintro e w1 ⟨rfl, hb⟩
        have Hw1 : Hid (Below W.heap.size W w1) := hb
        clear hb c1 L0 L1 L2
        have Hq := HC.out _ Hw1.out 3
        simp only [List.getElem?_toArray, List.getElem?_cons_succ, List.getElem?_cons_zero] at Hq
        clear HC
        go_wp2
        go_ret
        exact ⟨rfl, E0.out _ Hw1.out⟩
      · have dk2 : (k1 == 16) = false := by simpa using hb6
        rw [dk2]
        go_enter Tryd.func55, Tryd.ntmps55
        go_wp2_with (first | ((with_reducible apply step_load L0); rfl; rfl) | ((with_reducible apply step_load L1); rfl; rfl) | ((with_reducible apply step_load L2); rfl; rfl) | fail)
        generalize w.alloc (.cells #[.pointer tp, .string op, .int .i64 i1, .int .i64 k1, .int .i64 e1, .int .i64 n1, .string t1, .slice p1 a1 u1, .bool d1, .int .i64 i2, .int .i64 k2, .int .i64 e2, .int .i64 n2, .string t2, .slice p2 a2 u2, .bool d2] TP) = W at *
        refine (c1 _).mono ?_
        rintro e w1 ⟨rfl, hb⟩
        have Hw1 : Hid (Below W.heap.size W w1) := hb
        clear hb c1 L0 L1 L2
        have Hq := HC.out _ Hw1.out 3
        simp only [List.getElem?_toArray, List.getElem?_cons_succ, List.getElem?_cons_zero] at Hq
        clear HC
        go_wp2
        go_ret
        exact ⟨rfl, E0.out _ Hw1.out⟩
set_option maxHeartbeats 1000000 in
theorem pVoids_c (tp : Option Addr) (op : ByteArray) (i1 k1 e1 n1 : Int) (t1 : ByteArray) (p1 : Option Addr) (a1 u1 : Nat) (d1 : Bool) (i2 k2 e2 n2 : Int) (t2 : ByteArray) (p2 : Option Addr) (a2 u2 : Nat) (d2 : Bool) (w : World) : Calls Tryd.prog 56 #[.agg #[.pointer tp, .string op, .int .i64 i1, .int .i64 k1, .int .i64 e1, .int .i64 n1, .string t1, .slice p1 a1 u1, .bool d1, .int .i64 i2, .int .i64 k2, .int .i64 e2, .int .i64 n2, .string t2, .slice p2 a2 u2, .bool d2]] w fun e w' => e = .returned (.bool ((i1 == i2) && k1 == 1)) ∧ Below w.heap.size w w' := by
  have c1 := fun W => pSame_c tp op i1 k1 e1 n1 t1 p1 a1 u1 d1 i2 k2 e2 n2 t2 p2 a2 u2 d2 W
  have E0 : Hid (∀ Y, Below (w.alloc (.cells #[.pointer tp, .string op, .int .i64 i1, .int .i64 k1, .int .i64 e1, .int .i64 n1, .string t1, .slice p1 a1 u1, .bool d1, .int .i64 i2, .int .i64 k2, .int .i64 e2, .int .i64 n2, .string t2, .slice p2 a2 u2, .bool d2] TP)).heap.size (w.alloc (.cells #[.pointer tp, .string op, .int .i64 i1, .int .i64 k1, .int .i64 e1, .int .i64 n1, .string t1, .slice p1 a1 u1, .bool d1, .int .i64 i2, .int .i64 k2, .int .i64 e2, .int .i64 n2, .string t2, .slice p2 a2 u2, .bool d2] TP)) Y → Below w.heap.size w Y) := fun Y h => below_box h
  have HC : Hid (∀ Y, Below (w.alloc (.cells #[.pointer tp, .string op, .int .i64 i1, .int .i64 k1, .int .i64 e1, .int .i64 n1, .string t1, .slice p1 a1 u1, .bool d1, .int .i64 i2, .int .i64 k2, .int .i64 e2, .int .i64 n2, .string t2, .slice p2 a2 u2, .bool d2] TP)).heap.size (w.alloc (.cells #[.pointer tp, .string op, .int .i64 i1, .int .i64 k1, .int .i64 e1, .int .i64 n1, .string t1, .slice p1 a1 u1, .bool d1, .int .i64 i2, .int .i64 k2, .int .i64 e2, .int .i64 n2, .string t2, .slice p2 a2 u2, .bool d2] TP)) Y → InP Y w.heap.size #[.pointer tp, .string op, .int .i64 i1, .int .i64 k1, .int .i64 e1, .int .i64 n1, .string t1, .slice p1 a1 u1, .bool d1, .int .i64 i2, .int .i64 k2, .int .i64 e2, .int .i64 n2, .string t2, .slice p2 a2 u2, .bool d2]) := fun Y h => inP_box h
  obtain ⟨L0, L1, L2⟩ := load_P (HC.out _ (Below.refl _ _))
  generalize (i1 == i2) = z1 at c1 ⊢
  cases z1 with
  | false =>
    go_enter Tryd.func56, Tryd.ntmps56
    go_wp2_with (first | ((with_reducible apply step_load L0); rfl; rfl) | ((with_reducible apply step_load L1); rfl; rfl) | ((with_reducible apply step_load L2); rfl; rfl) | fail)
    generalize w.alloc (.cells #[.pointer tp, .string op, .int .i64 i1, .int .i64 k1, .int .i64 e1, .int .i64 n1, .string t1, .slice p1 a1 u1, .bool d1, .int .i64 i2, .int .i64 k2, .int .i64 e2, .int .i64 n2, .string t2, .slice p2 a2 u2, .bool d2] TP) = W at *
    refine (c1 _).mono ?_
    rintro e w1 ⟨rfl, hb⟩
    have Hw1 : Hid (Below W.heap.size W w1) := hb
    clear hb c1 L0 L1 L2
    have Hq := HC.out _ Hw1.out 3
    simp only [List.getElem?_toArray, List.getElem?_cons_succ, List.getElem?_cons_zero] at Hq
    clear HC
    go_wp2
    go_ret
    exact ⟨rfl, E0.out _ Hw1.out⟩
  | true =>
    rw [Bool.true_and]
    by_cases ha : k1 = 1
    · subst ha
      go_enter Tryd.func56, Tryd.ntmps56
      go_wp2_with (first | ((with_reducible apply step_load L0); rfl; rfl) | ((with_reducible apply step_load L1); rfl; rfl) | ((with_reducible apply step_load L2); rfl; rfl) | fail)
      generalize w.alloc (.cells #[.pointer tp, .string op, .int .i64 i1, .int .i64 1, .int .i64 e1, .int .i64 n1, .string t1, .slice p1 a1 u1, .bool d1, .int .i64 i2, .int .i64 k2, .int .i64 e2, .int .i64 n2, .string t2, .slice p2 a2 u2, .bool d2] TP) = W at *
      refine (c1 _).mono ?_
      rintro e w1 ⟨rfl, hb⟩
      have Hw1 : Hid (Below W.heap.size W w1) := hb
      clear hb c1 L0 L1 L2
      have Hq := HC.out _ Hw1.out 3
      simp only [List.getElem?_toArray, List.getElem?_cons_succ, List.getElem?_cons_zero] at Hq
      clear HC
      go_wp2
      go_ret
      exact ⟨rfl, E0.out _ Hw1.out⟩
    · have dk : (k1 == 1) = false := by simpa using ha
      rw [dk]
      go_enter Tryd.func56, Tryd.ntmps56
      go_wp2_with (first | ((with_reducible apply step_load L0); rfl; rfl) | ((with_reducible apply step_load L1); rfl; rfl) | ((with_reducible apply step_load L2); rfl; rfl) | fail)
      generalize w.alloc (.cells #[.pointer tp, .string op, .int .i64 i1, .int .i64 k1, .int .i64 e1, .int .i64 n1, .string t1, .slice p1 a1 u1, .bool d1, .int .i64 i2, .int .i64 k2, .int .i64 e2, .int .i64 n2, .string t2, .slice p2 a2 u2, .bool d2] TP) = W at *
      refine (c1 _).mono ?_
      rintro e w1 ⟨rfl, hb⟩
      have Hw1 : Hid (Below W.heap.size W w1) := hb
      clear hb c1 L0 L1 L2
      have Hq := HC.out _ Hw1.out 3
      simp only [List.getElem?_toArray, List.getElem?_cons_succ, List.getElem?_cons_zero] at Hq
      clear HC
      go_wp2
      go_ret
      exact ⟨rfl, E0.out _ Hw1.out⟩
set_option maxHeartbeats 1000000 in
theorem pUsual_c (tp : Option Addr) (op : ByteArray) (i1 k1 e1 n1 : Int) (t1 : ByteArray) (p1 : Option Addr) (a1 u1 : Nat) (d1 : Bool) (i2 k2 e2 n2 : Int) (t2 : ByteArray) (p2 : Option Addr) (a2 u2 : Nat) (d2 : Bool) (h1 : intK k1 = true) (h2 : intK k2 = true) (w : World) : Calls Tryd.prog 52 #[.agg #[.pointer tp, .string op, .int .i64 i1, .int .i64 k1, .int .i64 e1, .int .i64 n1, .string t1, .slice p1 a1 u1, .bool d1, .int .i64 i2, .int .i64 k2, .int .i64 e2, .int .i64 n2, .string t2, .slice p2 a2 u2, .bool d2]] w fun e w' => e = .returned (.int .i64 (usualP k1 k2)) ∧ Below w.heap.size w w' := by
  have c1 := fun W => cUsual_c k1 k2 W
  have HB : Hid (Below w.heap.size w (w.alloc (.cells #[.pointer tp, .string op, .int .i64 i1, .int .i64 k1, .int .i64 e1, .int .i64 n1, .string t1, .slice p1 a1 u1, .bool d1, .int .i64 i2, .int .i64 k2, .int .i64 e2, .int .i64 n2, .string t2, .slice p2 a2 u2, .bool d2] TP))) := below1 w _
  rw [usual_yes h1 h2] at c1
  unfold usualP
  go_enter Tryd.func52, Tryd.ntmps52
  go_wp2_with fail
  refine (c1 _).mono ?_
  rintro e w' ⟨rfl, rfl⟩
  go_wp2
  go_ret
  exact ⟨rfl, HB.out⟩
def relP (i1 k1 e1 i2 k2 e2 : Int) : Bool := (k1 == 13 && k2 == 13) && ((i1 == i2) || toV k1 e1 || toV k2 e2)
set_option maxHeartbeats 1000000 in
theorem pRel_c (tp : Option Addr) (op : ByteArray) (i1 k1 e1 n1 : Int) (t1 : ByteArray) (p1 : Option Addr) (a1 u1 : Nat) (d1 : Bool) (i2 k2 e2 n2 : Int) (t2 : ByteArray) (p2 : Option Addr) (a2 u2 : Nat) (d2 : Bool) (w : World) : Calls Tryd.prog 53 #[.agg #[.pointer tp, .string op, .int .i64 i1, .int .i64 k1, .int .i64 e1, .int .i64 n1, .string t1, .slice p1 a1 u1, .bool d1, .int .i64 i2, .int .i64 k2, .int .i64 e2, .int .i64 n2, .string t2, .slice p2 a2 u2, .bool d2]] w fun e w' => e = .returned (.bool (relP i1 k1 e1 i2 k2 e2)) ∧ Below w.heap.size w w' := by
  have c1 := fun W => pPtrs_c tp op i1 k1 e1 n1 t1 p1 a1 u1 d1 i2 k2 e2 n2 t2 p2 a2 u2 d2 W
  have c2 := fun W => pSame_c tp op i1 k1 e1 n1 t1 p1 a1 u1 d1 i2 k2 e2 n2 t2 p2 a2 u2 d2 W
  have c3 := fun W => oVoid_c i1 k1 e1 n1 t1 p1 a1 u1 d1 W
  have c4 := fun W => oVoid_c i2 k2 e2 n2 t2 p2 a2 u2 d2 W
  have E0 : Hid (∀ Y, Below (w.alloc (.cells #[.pointer tp, .string op, .int .i64 i1, .int .i64 k1, .int .i64 e1, .int .i64 n1, .string t1, .slice p1 a1 u1, .bool d1, .int .i64 i2, .int .i64 k2, .int .i64 e2, .int .i64 n2, .string t2, .slice p2 a2 u2, .bool d2] TP)).heap.size (w.alloc (.cells #[.pointer tp, .string op, .int .i64 i1, .int .i64 k1, .int .i64 e1, .int .i64 n1, .string t1, .slice p1 a1 u1, .bool d1, .int .i64 i2, .int .i64 k2, .int .i64 e2, .int .i64 n2, .string t2, .slice p2 a2 u2, .bool d2] TP)) Y → Below w.heap.size w Y) := fun Y h => below_box h
  have HC : Hid (∀ Y, Below (w.alloc (.cells #[.pointer tp, .string op, .int .i64 i1, .int .i64 k1, .int .i64 e1, .int .i64 n1, .string t1, .slice p1 a1 u1, .bool d1, .int .i64 i2, .int .i64 k2, .int .i64 e2, .int .i64 n2, .string t2, .slice p2 a2 u2, .bool d2] TP)).heap.size (w.alloc (.cells #[.pointer tp, .string op, .int .i64 i1, .int .i64 k1, .int .i64 e1, .int .i64 n1, .string t1, .slice p1 a1 u1, .bool d1, .int .i64 i2, .int .i64 k2, .int .i64 e2, .int .i64 n2, .string t2, .slice p2 a2 u2, .bool d2] TP)) Y → InP Y w.heap.size #[.pointer tp, .string op, .int .i64 i1, .int .i64 k1, .int .i64 e1, .int .i64 n1, .string t1, .slice p1 a1 u1, .bool d1, .int .i64 i2, .int .i64 k2, .int .i64 e2, .int .i64 n2, .string t2, .slice p2 a2 u2, .bool d2]) := fun Y h => inP_box h
  obtain ⟨L0, L1, L2⟩ := load_P (HC.out _ (Below.refl _ _))
  unfold relP
  generalize (k1 == 13 && k2 == 13) = z1 at c1 ⊢
  generalize (i1 == i2) = z2 at c2 ⊢
  generalize toV k1 e1 = z3 at c3 ⊢
  generalize toV k2 e2 = z4 at c4 ⊢
  cases z1 with
  | false =>
    clear c2 c3 c4
    go_enter Tryd.func53, Tryd.ntmps53
    go_wp2_with (first | ((with_reducible apply step_load L0); rfl; rfl) | ((with_reducible apply step_load L1); rfl; rfl) | ((with_reducible apply step_load L2); rfl; rfl) | fail)
    generalize w.alloc (.cells #[.pointer tp, .string op, .int .i64 i1, .int .i64 k1, .int .i64 e1, .int .i64 n1, .string t1, .slice p1 a1 u1, .bool d1, .int .i64 i2, .int .i64 k2, .int .i64 e2, .int .i64 n2, .string t2, .slice p2 a2 u2, .bool d2] TP) = W at *
    refine (c1 _).mono ?_
    rintro e w1 ⟨rfl, hb⟩
    have Hw1 : Hid (Below W.heap.size W w1) := hb
    clear hb c1 L0 L1 L2
    obtain ⟨L0, L1, L2⟩ := load_P (HC.out _ Hw1.out)
    clear L0 L1 L2
    go_wp2
    go_ret
    exact ⟨rfl, E0.out _ Hw1.out⟩
  | true =>
    cases z2 with
    | true =>
      clear c3 c4
      go_enter Tryd.func53, Tryd.ntmps53
      go_wp2_with (first | ((with_reducible apply step_load L0); rfl; rfl) | ((with_reducible apply step_load L1); rfl; rfl) | ((with_reducible apply step_load L2); rfl; rfl) | fail)
      generalize w.alloc (.cells #[.pointer tp, .string op, .int .i64 i1, .int .i64 k1, .int .i64 e1, .int .i64 n1, .string t1, .slice p1 a1 u1, .bool d1, .int .i64 i2, .int .i64 k2, .int .i64 e2, .int .i64 n2, .string t2, .slice p2 a2 u2, .bool d2] TP) = W at *
      refine (c1 _).mono ?_
      rintro e w1 ⟨rfl, hb⟩
      have Hw1 : Hid (Below W.heap.size W w1) := hb
      clear hb c1 L0 L1 L2
      obtain ⟨L0, L1, L2⟩ := load_P (HC.out _ Hw1.out)
      go_wp2_with (first | ((with_reducible apply step_load L0); rfl; rfl) | ((with_reducible apply step_load L1); rfl; rfl) | ((with_reducible apply step_load L2); rfl; rfl) | fail)
      refine (c2 _).mono ?_
      rintro e w2 ⟨rfl, hb⟩
      have Hw2 : Hid (Below W.heap.size W w2) := Hw1.out.trans (hb.mono Hw1.out.size)
      clear hb c2 L0 L1 L2
      obtain ⟨L0, L1, L2⟩ := load_P (HC.out _ Hw2.out)
      clear L0 L1 L2
      go_wp2
      go_ret
      exact ⟨rfl, E0.out _ Hw2.out⟩
    | false =>
      cases z3 with
      | true =>
        clear c4
        go_enter Tryd.func53, Tryd.ntmps53
        go_wp2_with (first | ((with_reducible apply step_load L0); rfl; rfl) | ((with_reducible apply step_load L1); rfl; rfl) | ((with_reducible apply step_load L2); rfl; rfl) | fail)
        generalize w.alloc (.cells #[.pointer tp, .string op, .int .i64 i1, .int .i64 k1, .int .i64 e1, .int .i64 n1, .string t1, .slice p1 a1 u1, .bool d1, .int .i64 i2, .int .i64 k2, .int .i64 e2, .int .i64 n2, .string t2, .slice p2 a2 u2, .bool d2] TP) = W at *
        refine (c1 _).mono ?_
        rintro e w1 ⟨rfl, hb⟩
        have Hw1 : Hid (Below W.heap.size W w1) := hb
        clear hb c1 L0 L1 L2
        obtain ⟨L0, L1, L2⟩ := load_P (HC.out _ Hw1.out)
        go_wp2_with (first | ((with_reducible apply step_load L0); rfl; rfl) | ((with_reducible apply step_load L1); rfl; rfl) | ((with_reducible apply step_load L2); rfl; rfl) | fail)
        refine (c2 _).mono ?_
        rintro e w2 ⟨rfl, hb⟩
        have Hw2 : Hid (Below W.heap.size W w2) := Hw1.out.trans (hb.mono Hw1.out.size)
        clear hb c2 L0 L1 L2
        obtain ⟨L0, L1, L2⟩ := load_P (HC.out _ Hw2.out)
        go_wp2_with (first | ((with_reducible apply step_load L0); rfl; rfl) | ((with_reducible apply step_load L1); rfl; rfl) | ((with_reducible apply step_load L2); rfl; rfl) | fail)
        refine (c3 _).mono ?_
        rintro e w3 ⟨rfl, hb⟩
        have Hw3 : Hid (Below W.heap.size W w3) := Hw2.out.trans (hb.mono Hw2.out.size)
        clear hb c3 L0 L1 L2
        obtain ⟨L0, L1, L2⟩ := load_P (HC.out _ Hw3.out)
        clear L0 L1 L2
        go_wp2
        go_ret
        exact ⟨rfl, E0.out _ Hw3.out⟩
      | false =>
        go_enter Tryd.func53, Tryd.ntmps53
        go_wp2_with (first | ((with_reducible apply step_load L0); rfl; rfl) | ((with_reducible apply step_load L1); rfl; rfl) | ((with_reducible apply step_load L2); rfl; rfl) | fail)
        generalize w.alloc (.cells #[.pointer tp, .string op, .int .i64 i1, .int .i64 k1, .int .i64 e1, .int .i64 n1, .string t1, .slice p1 a1 u1, .bool d1, .int .i64 i2, .int .i64 k2, .int .i64 e2, .int .i64 n2, .string t2, .slice p2 a2 u2, .bool d2] TP) = W at *
        refine (c1 _).mono ?_
        rintro e w1 ⟨rfl, hb⟩
        have Hw1 : Hid (Below W.heap.size W w1) := hb
        clear hb c1 L0 L1 L2
        obtain ⟨L0, L1, L2⟩ := load_P (HC.out _ Hw1.out)
        go_wp2_with (first | ((with_reducible apply step_load L0); rfl; rfl) | ((with_reducible apply step_load L1); rfl; rfl) | ((with_reducible apply step_load L2); rfl; rfl) | fail)
        refine (c2 _).mono ?_
        rintro e w2 ⟨rfl, hb⟩
        have Hw2 : Hid (Below W.heap.size W w2) := Hw1.out.trans (hb.mono Hw1.out.size)
        clear hb c2 L0 L1 L2
        obtain ⟨L0, L1, L2⟩ := load_P (HC.out _ Hw2.out)
        go_wp2_with (first | ((with_reducible apply step_load L0); rfl; rfl) | ((with_reducible apply step_load L1); rfl; rfl) | ((with_reducible apply step_load L2); rfl; rfl) | fail)
        refine (c3 _).mono ?_
        rintro e w3 ⟨rfl, hb⟩
        have Hw3 : Hid (Below W.heap.size W w3) := Hw2.out.trans (hb.mono Hw2.out.size)
        clear hb c3 L0 L1 L2
        obtain ⟨L0, L1, L2⟩ := load_P (HC.out _ Hw3.out)
        go_wp2_with (first | ((with_reducible apply step_load L0); rfl; rfl) | ((with_reducible apply step_load L1); rfl; rfl) | ((with_reducible apply step_load L2); rfl; rfl) | fail)
        refine (c4 _).mono ?_
        rintro e w4 ⟨rfl, hb⟩
        have Hw4 : Hid (Below W.heap.size W w4) := Hw3.out.trans (hb.mono Hw3.out.size)
        clear hb c4 L0 L1 L2
        obtain ⟨L0, L1, L2⟩ := load_P (HC.out _ Hw4.out)
        clear L0 L1 L2
        go_wp2
        go_ret
        exact ⟨rfl, E0.out _ Hw4.out⟩
theorem cRefuse_c (z : Bool) (w : World) : Calls Tryd.prog 57 #[.bool z] w fun e w' => e = .returned (.int .i64 (if z then 0 else 70)) ∧ w' = w := by
  cases z <;>
  · go_enter Tryd.func57, Tryd.ntmps57
    go_wp2
    go_ret
    exact ⟨rfl, rfl⟩
end
end Go.Proofs.YtpnpilbmhkiphaaDoor
