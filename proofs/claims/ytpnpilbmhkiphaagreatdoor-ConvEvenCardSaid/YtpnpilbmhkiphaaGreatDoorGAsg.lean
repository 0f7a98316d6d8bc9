/-
  Unary and Cond where heads asks them; what a table that no call made is answered.
  Assign, Cast and Cond of two operands.
-/
import Derived.Test.YtpnpilbmhkiphaaGreatDoorGPair
import Derived.Test.YtpnpilbmhkiphaaGreatDoorGSize
namespace Go.Proofs.YtpnpilbmhkiphaaGreatDoor
open Go.RowKit Go.Maps
set_option linter.unusedVariables false
set_option maxRecDepth 100000

section
variable {w : World}
def assignP (i1 k1 e1 : Int) (d1 : Bool) (i2 k2 e2 : Int) : Bool := (intK k1 && intK k2) || relP i1 k1 e1 i2 k2 e2 || ((i1 == i2) && (k1 == 15 || k1 == 16)) && d1
def castP (k1 k2 : Int) : Bool := (k1 == 1) || (intK k1 && intK k2) || (k1 == 13 && k2 == 13) || (k1 == 2 && k2 == 13)
set_option maxHeartbeats 4000000 in
theorem assign_of {tp : Option Addr} {x y : Int} {i1 k1 e1 n1 : Int} {t1 : ByteArray} {d1 : Bool} {i2 k2 e2 n2 : Int} {t2 : ByteArray} {d2 : Bool} (cP : Calls Tryz.prog 31 #[.pointer tp, .int .i64 x, .int .i64 y] w fun e w' => (∃ p1 a1 u1 p2 a2 u2, e = .returned (.tuple #[.agg #[.pointer tp, .string ⟨#[]⟩, .int .i64 i1, .int .i64 k1, .int .i64 e1, .int .i64 n1, .string t1, .slice p1 a1 u1, .bool d1, .int .i64 i2, .int .i64 k2, .int .i64 e2, .int .i64 n2, .string t2, .slice p2 a2 u2, .bool d2], .int .i64 0])) ∧ Below w.heap.size w w') :
    Calls Tryz.prog 13 #[.pointer tp, .int .i64 x, .int .i64 y] w fun e w' => e = .returned (.int .i64 (if assignP i1 k1 e1 d1 i2 k2 e2 then 0 else 70)) ∧ Below w.heap.size w w' := by
  have CP : Hid (Calls Tryz.prog 31 #[.pointer tp, .int .i64 x, .int .i64 y] w fun e w' => (∃ p1 a1 u1 p2 a2 u2, e = .returned (.tuple #[.agg #[.pointer tp, .string ⟨#[]⟩, .int .i64 i1, .int .i64 k1, .int .i64 e1, .int .i64 n1, .string t1, .slice p1 a1 u1, .bool d1, .int .i64 i2, .int .i64 k2, .int .i64 e2, .int .i64 n2, .string t2, .slice p2 a2 u2, .bool d2], .int .i64 0])) ∧ Below w.heap.size w w') := cP
  clear cP
  unfold assignP
  generalize h1 : (intK k1 && intK k2) = z1
  generalize h2 : relP i1 k1 e1 i2 k2 e2 = z2
  generalize h3 : ((i1 == i2) && (k1 == 15 || k1 == 16)) = z3
  cases z1 with
  | true =>
    go_enter Tryz.func13, Tryz.ntmps13
    go_wp2_with fail
    refine CP.out.mono ?_
    rintro e w2 ⟨⟨p1, a1, u1, p2, a2, u2, rfl⟩, hb2⟩
    have hold := heap_r0 w2 (.cells #[.pointer none, .string ⟨#[]⟩, .int .i64 0, .int .i64 0, .int .i64 0, .int .i64 0, .string ⟨#[]⟩, .slice none 0 0, .bool false, .int .i64 0, .int .i64 0, .int .i64 0, .int .i64 0, .string ⟨#[]⟩, .slice none 0 0, .bool false] TP)
    have HB : Hid (Below w.heap.size w (w2.alloc (.cells #[.pointer tp, .string ⟨#[]⟩, .int .i64 i1, .int .i64 k1, .int .i64 e1, .int .i64 n1, .string t1, .slice p1 a1 u1, .bool d1, .int .i64 i2, .int .i64 k2, .int .i64 e2, .int .i64 n2, .string t2, .slice p2 a2 u2, .bool d2] TP))) := hb2.trans ((below1 w2 _).mono hb2.size)
    have HC : Hid (∀ Y, Below (w2.alloc (.cells #[.pointer tp, .string ⟨#[]⟩, .int .i64 i1, .int .i64 k1, .int .i64 e1, .int .i64 n1, .string t1, .slice p1 a1 u1, .bool d1, .int .i64 i2, .int .i64 k2, .int .i64 e2, .int .i64 n2, .string t2, .slice p2 a2 u2, .bool d2] TP)).heap.size (w2.alloc (.cells #[.pointer tp, .string ⟨#[]⟩, .int .i64 i1, .int .i64 k1, .int .i64 e1, .int .i64 n1, .string t1, .slice p1 a1 u1, .bool d1, .int .i64 i2, .int .i64 k2, .int .i64 e2, .int .i64 n2, .string t2, .slice p2 a2 u2, .bool d2] TP)) Y → InP Y w2.heap.size #[.pointer tp, .string ⟨#[]⟩, .int .i64 i1, .int .i64 k1, .int .i64 e1, .int .i64 n1, .string t1, .slice p1 a1 u1, .bool d1, .int .i64 i2, .int .i64 k2, .int .i64 e2, .int .i64 n2, .string t2, .slice p2 a2 u2, .bool d2]) := fun Y h => inP_box h
    obtain ⟨L0, L1, L2⟩ := load_P (HC.out _ (Below.refl _ _))
    clear hb2
    have cI := fun W => pInts_c tp ⟨#[]⟩ i1 k1 e1 n1 t1 p1 a1 u1 d1 i2 k2 e2 n2 t2 p2 a2 u2 d2 W
    rw [h1] at cI
    clear h1 h2 h3
    go_wp2_with (first | ((with_reducible apply step_store hold); rfl; rfl; kernel_rfl; rfl; kernel_rfl; rw [World.setRow_alloc_new]) | ((with_reducible apply step_load L0); rfl; rfl) | fail)
    generalize w2.alloc (.cells #[.pointer tp, .string ⟨#[]⟩, .int .i64 i1, .int .i64 k1, .int .i64 e1, .int .i64 n1, .string t1, .slice p1 a1 u1, .bool d1, .int .i64 i2, .int .i64 k2, .int .i64 e2, .int .i64 n2, .string t2, .slice p2 a2 u2, .bool d2] TP) = W at *
    clear hold
    refine (cI _).mono ?_
    rintro e w3 ⟨rfl, hb⟩
    have Hw3 : Hid (Below W.heap.size W w3) := hb
    clear hb cI L0 L1 L2
    obtain ⟨L0, L1, L2⟩ := load_P (HC.out _ Hw3.out)
    have cF := fun W => cRefuse_c true W
    clear L0 L1 L2
    go_wp2_with fail
    refine (cF _).mono ?_
    rintro e w9 ⟨rfl, rfl⟩
    go_wp2
    go_ret
    exact ⟨rfl, HB.out.trans (Hw3.out.mono HB.out.size)⟩
  | false =>
    cases z2 with
    | true =>
      go_enter Tryz.func13, Tryz.ntmps13
      go_wp2_with fail
      refine CP.out.mono ?_
      rintro e w2 ⟨⟨p1, a1, u1, p2, a2, u2, rfl⟩, hb2⟩
      have hold := heap_r0 w2 (.cells #[.pointer none, .string ⟨#[]⟩, .int .i64 0, .int .i64 0, .int .i64 0, .int .i64 0, .string ⟨#[]⟩, .slice none 0 0, .bool false, .int .i64 0, .int .i64 0, .int .i64 0, .int .i64 0, .string ⟨#[]⟩, .slice none 0 0, .bool false] TP)
      have HB : Hid (Below w.heap.size w (w2.alloc (.cells #[.pointer tp, .string ⟨#[]⟩, .int .i64 i1, .int .i64 k1, .int .i64 e1, .int .i64 n1, .string t1, .slice p1 a1 u1, .bool d1, .int .i64 i2, .int .i64 k2, .int .i64 e2, .int .i64 n2, .string t2, .slice p2 a2 u2, .bool d2] TP))) := hb2.trans ((below1 w2 _).mono hb2.size)
      have HC : Hid (∀ Y, Below (w2.alloc (.cells #[.pointer tp, .string ⟨#[]⟩, .int .i64 i1, .int .i64 k1, .int .i64 e1, .int .i64 n1, .string t1, .slice p1 a1 u1, .bool d1, .int .i64 i2, .int .i64 k2, .int .i64 e2, .int .i64 n2, .string t2, .slice p2 a2 u2, .bool d2] TP)).heap.size (w2.alloc (.cells #[.pointer tp, .string ⟨#[]⟩, .int .i64 i1, .int .i64 k1, .int .i64 e1, .int .i64 n1, .string t1, .slice p1 a1 u1, .bool d1, .int .i64 i2, .int .i64 k2, .int .i64 e2, .int .i64 n2, .string t2, .slice p2 a2 u2, .bool d2] TP)) Y → InP Y w2.heap.size #[.pointer tp, .string ⟨#[]⟩, .int .i64 i1, .int .i64 k1, .int .i64 e1, .int .i64 n1, .string t1, .slice p1 a1 u1, .bool d1, .int .i64 i2, .int .i64 k2, .int .i64 e2, .int .i64 n2, .string t2, .slice p2 a2 u2, .bool d2]) := fun Y h => inP_box h
      obtain ⟨L0, L1, L2⟩ := load_P (HC.out _ (Below.refl _ _))
      clear hb2
      have cI := fun W => pInts_c tp ⟨#[]⟩ i1 k1 e1 n1 t1 p1 a1 u1 d1 i2 k2 e2 n2 t2 p2 a2 u2 d2 W
      rw [h1] at cI
      have cR := fun W => pRel_c tp ⟨#[]⟩ i1 k1 e1 n1 t1 p1 a1 u1 d1 i2 k2 e2 n2 t2 p2 a2 u2 d2 W
      rw [h2] at cR
      clear h1 h2 h3
      go_wp2_with (first | ((with_reducible apply step_store hold); rfl; rfl; kernel_rfl; rfl; kernel_rfl; rw [World.setRow_alloc_new]) | ((with_reducible apply step_load L0); rfl; rfl) | fail)
      generalize w2.alloc (.cells #[.pointer tp, .string ⟨#[]⟩, .int .i64 i1, .int .i64 k1, .int .i64 e1, .int .i64 n1, .string t1, .slice p1 a1 u1, .bool d1, .int .i64 i2, .int .i64 k2, .int .i64 e2, .int .i64 n2, .string t2, .slice p2 a2 u2, .bool d2] TP) = W at *
      clear hold
      refine (cI _).mono ?_
      rintro e w3 ⟨rfl, hb⟩
      have Hw3 : Hid (Below W.heap.size W w3) := hb
      clear hb cI L0 L1 L2
      obtain ⟨L0, L1, L2⟩ := load_P (HC.out _ Hw3.out)
      go_wp2_with (first | ((with_reducible apply step_load L0); rfl; rfl) | ((with_reducible apply step_load L1); rfl; rfl) | ((with_reducible apply step_load L2); rfl; rfl) | fail)
      refine (cR _).mono ?_
      rintro e w4 ⟨rfl, hb⟩
      have Hw4 : Hid (Below W.heap.size W w4) := Hw3.out.trans (hb.mono Hw3.out.size)
      clear hb cR L0 L1 L2
      obtain ⟨L0, L1, L2⟩ := load_P (HC.out _ Hw4.out)
      have cF := fun W => cRefuse_c true W
      clear L0 L1 L2
      go_wp2_with fail
      refine (cF _).mono ?_
      rintro e w9 ⟨rfl, rfl⟩
      go_wp2
      go_ret
      exact ⟨rfl, HB.out.trans (Hw4.out.mono HB.out.size)⟩
    | false =>
      cases z3 with
      | false =>
        go_enter Tryz.func13, Tryz.ntmps13
        go_wp2_with fail
        refine CP.out.mono ?_
        rintro e w2 ⟨⟨p1, a1, u1, p2, a2, u2, rfl⟩, hb2⟩
        have hold := heap_r0 w2 (.cells #[.pointer none, .string ⟨#[]⟩, .int .i64 0, .int .i64 0, .int .i64 0, .int .i64 0, .string ⟨#[]⟩, .slice none 0 0, .bool false, .int .i64 0, .int .i64 0, .int .i64 0, .int .i64 0, .string ⟨#[]⟩, .slice none 0 0, .bool false] TP)
        have HB : Hid (Below w.heap.size w (w2.alloc (.cells #[.pointer tp, .string ⟨#[]⟩, .int .i64 i1, .int .i64 k1, .int .i64 e1, .int .i64 n1, .string t1, .slice p1 a1 u1, .bool d1, .int .i64 i2, .int .i64 k2, .int .i64 e2, .int .i64 n2, .string t2, .slice p2 a2 u2, .bool d2] TP))) := hb2.trans ((below1 w2 _).mono hb2.size)
        have HC : Hid (∀ Y, Below (w2.alloc (.cells #[.pointer tp, .string ⟨#[]⟩, .int .i64 i1, .int .i64 k1, .int .i64 e1, .int .i64 n1, .string t1, .slice p1 a1 u1, .bool d1, .int .i64 i2, .int .i64 k2, .int .i64 e2, .int .i64 n2, .string t2, .slice p2 a2 u2, .bool d2] TP)).heap.size (w2.alloc (.cells #[.pointer tp, .string ⟨#[]⟩, .int .i64 i1, .int .i64 k1, .int .i64 e1, .int .i64 n1, .string t1, .slice p1 a1 u1, .bool d1, .int .i64 i2, .int .i64 k2, .int .i64 e2, .int .i64 n2, .string t2, .slice p2 a2 u2, .bool d2] TP)) Y → InP Y w2.heap.size #[.pointer tp, .string ⟨#[]⟩, .int .i64 i1, .int .i64 k1, .int .i64 e1, .int .i64 n1, .string t1, .slice p1 a1 u1, .bool d1, .int .i64 i2, .int .i64 k2, .int .i64 e2, .int .i64 n2, .string t2, .slice p2 a2 u2, .bool d2]) := fun Y h => inP_box h
        obtain ⟨L0, L1, L2⟩ := load_P (HC.out _ (Below.refl _ _))
        clear hb2
        have cI := fun W => pInts_c tp ⟨#[]⟩ i1 k1 e1 n1 t1 p1 a1 u1 d1 i2 k2 e2 n2 t2 p2 a2 u2 d2 W
        rw [h1] at cI
        have cR := fun W => pRel_c tp ⟨#[]⟩ i1 k1 e1 n1 t1 p1 a1 u1 d1 i2 k2 e2 n2 t2 p2 a2 u2 d2 W
        rw [h2] at cR
        have cS := fun W => pRecs_c tp ⟨#[]⟩ i1 k1 e1 n1 t1 p1 a1 u1 d1 i2 k2 e2 n2 t2 p2 a2 u2 d2 W
        rw [h3] at cS
        clear h1 h2 h3
        go_wp2_with (first | ((with_reducible apply step_store hold); rfl; rfl; kernel_rfl; rfl; kernel_rfl; rw [World.setRow_alloc_new]) | ((with_reducible apply step_load L0); rfl; rfl) | fail)
        generalize w2.alloc (.cells #[.pointer tp, .string ⟨#[]⟩, .int .i64 i1, .int .i64 k1, .int .i64 e1, .int .i64 n1, .string t1, .slice p1 a1 u1, .bool d1, .int .i64 i2, .int .i64 k2, .int .i64 e2, .int .i64 n2, .string t2, .slice p2 a2 u2, .bool d2] TP) = W at *
        clear hold
        refine (cI _).mono ?_
        rintro e w3 ⟨rfl, hb⟩
        have Hw3 : Hid (Below W.heap.size W w3) := hb
        clear hb cI L0 L1 L2
        obtain ⟨L0, L1, L2⟩ := load_P (HC.out _ Hw3.out)
        go_wp2_with (first | ((with_reducible apply step_load L0); rfl; rfl) | ((with_reducible apply step_load L1); rfl; rfl) | ((with_reducible apply step_load L2); rfl; rfl) | fail)
        refine (cR _).mono ?_
        rintro e w4 ⟨rfl, hb⟩
        have Hw4 : Hid (Below W.heap.size W w4) := Hw3.out.trans (hb.mono Hw3.out.size)
        clear hb cR L0 L1 L2
        obtain ⟨L0, L1, L2⟩ := load_P (HC.out _ Hw4.out)
        go_wp2_with (first | ((with_reducible apply step_load L0); rfl; rfl) | ((with_reducible apply step_load L1); rfl; rfl) | ((with_reducible apply step_load L2); rfl; rfl) | fail)
        refine (cS _).mono ?_
        rintro e w5 ⟨rfl, hb⟩
        have Hw5 : Hid (Below W.heap.size W w5) := Hw4.out.trans (hb.mono Hw4.out.size)
        clear hb cS L0 L1 L2
        obtain ⟨L0, L1, L2⟩ := load_P (HC.out _ Hw5.out)
        have cF := fun W => cRefuse_c false W
        clear L0 L1 L2
        go_wp2_with fail
        refine (cF _).mono ?_
        rintro e w9 ⟨rfl, rfl⟩
        go_wp2
        go_ret
        exact ⟨rfl, HB.out.trans (Hw5.out.mono HB.out.size)⟩
      | true =>
        cases d1 with
        | true =>
          go_enter Tryz.func13, Tryz.ntmps13
          go_wp2_with fail
          refine CP.out.mono ?_
          rintro e w2 ⟨⟨p1, a1, u1, p2, a2, u2, rfl⟩, hb2⟩
          have hold := heap_r0 w2 (.cells #[.pointer none, .string ⟨#[]⟩, .int .i64 0, .int .i64 0, .int .i64 0, .int .i64 0, .string ⟨#[]⟩, .slice none 0 0, .bool false, .int .i64 0, .int .i64 0, .int .i64 0, .int .i64 0, .string ⟨#[]⟩, .slice none 0 0, .bool false] TP)
          have HB : Hid (Below w.heap.size w (w2.alloc (.cells #[.pointer tp, .string ⟨#[]⟩, .int .i64 i1, .int .i64 k1, .int .i64 e1, .int .i64 n1, .string t1, .slice p1 a1 u1, .bool true, .int .i64 i2, .int .i64 k2, .int .i64 e2, .int .i64 n2, .string t2, .slice p2 a2 u2, .bool d2] TP))) := hb2.trans ((below1 w2 _).mono hb2.size)
          have HC : Hid (∀ Y, Below (w2.alloc (.cells #[.pointer tp, .string ⟨#[]⟩, .int .i64 i1, .int .i64 k1, .int .i64 e1, .int .i64 n1, .string t1, .slice p1 a1 u1, .bool true, .int .i64 i2, .int .i64 k2, .int .i64 e2, .int .i64 n2, .string t2, .slice p2 a2 u2, .bool d2] TP)).heap.size (w2.alloc (.cells #[.pointer tp, .string ⟨#[]⟩, .int .i64 i1, .int .i64 k1, .int .i64 e1, .int .i64 n1, .string t1, .slice p1 a1 u1, .bool true, .int .i64 i2, .int .i64 k2, .int .i64 e2, .int .i64 n2, .string t2, .slice p2 a2 u2, .bool d2] TP)) Y → InP Y w2.heap.size #[.pointer tp, .string ⟨#[]⟩, .int .i64 i1, .int .i64 k1, .int .i64 e1, .int .i64 n1, .string t1, .slice p1 a1 u1, .bool true, .int .i64 i2, .int .i64 k2, .int .i64 e2, .int .i64 n2, .string t2, .slice p2 a2 u2, .bool d2]) := fun Y h => inP_box h
          obtain ⟨L0, L1, L2⟩ := load_P (HC.out _ (Below.refl _ _))
          clear hb2
          have cI := fun W => pInts_c tp ⟨#[]⟩ i1 k1 e1 n1 t1 p1 a1 u1 true i2 k2 e2 n2 t2 p2 a2 u2 d2 W
          rw [h1] at cI
          have cR := fun W => pRel_c tp ⟨#[]⟩ i1 k1 e1 n1 t1 p1 a1 u1 true i2 k2 e2 n2 t2 p2 a2 u2 d2 W
          rw [h2] at cR
          have cS := fun W => pRecs_c tp ⟨#[]⟩ i1 k1 e1 n1 t1 p1 a1 u1 true i2 k2 e2 n2 t2 p2 a2 u2 d2 W
          rw [h3] at cS
          clear h1 h2 h3
          go_wp2_with (first | ((with_reducible apply step_store hold); rfl; rfl; kernel_rfl; rfl; kernel_rfl; rw [World.setRow_alloc_new]) | ((with_reducible apply step_load L0); rfl; rfl) | fail)
          generalize w2.alloc (.cells #[.pointer tp, .string ⟨#[]⟩, .int .i64 i1, .int .i64 k1, .int .i64 e1, .int .i64 n1, .string t1, .slice p1 a1 u1, .bool true, .int .i64 i2, .int .i64 k2, .int .i64 e2, .int .i64 n2, .string t2, .slice p2 a2 u2, .bool d2] TP) = W at *
          clear hold
          refine (cI _).mono ?_
          rintro e w3 ⟨rfl, hb⟩
          have Hw3 : Hid (Below W.heap.size W w3) := hb
          clear hb cI L0 L1 L2
          obtain ⟨L0, L1, L2⟩ := load_P (HC.out _ Hw3.out)
          go_wp2_with (first | ((with_reducible apply step_load L0); rfl; rfl) | ((with_reducible apply step_load L1); rfl; rfl) | ((with_reducible apply step_load L2); rfl; rfl) | fail)
          refine (cR _).mono ?_
          rintro e w4 ⟨rfl, hb⟩
          have Hw4 : Hid (Below W.heap.size W w4) := Hw3.out.trans (hb.mono Hw3.out.size)
          clear hb cR L0 L1 L2
          obtain ⟨L0, L1, L2⟩ := load_P (HC.out _ Hw4.out)
          go_wp2_with (first | ((with_reducible apply step_load L0); rfl; rfl) | ((with_reducible apply step_load L1); rfl; rfl) | ((with_reducible apply step_load L2); rfl; rfl) | fail)
          refine (cS _).mono ?_
          rintro e w5 ⟨rfl, hb⟩
          have Hw5 : Hid (Below W.heap.size W w5) := Hw4.out.trans (hb.mono Hw4.out.size)
          clear hb cS L0 L1 L2
          obtain ⟨L0, L1, L2⟩ := load_P (HC.out _ Hw5.out)
          have hd := HC.out _ Hw5.out 8
          simp only [List.getElem?_toArray, List.getElem?_cons_succ, List.getElem?_cons_zero] at hd
          have cF := fun W => cRefuse_c true W
          clear L0 L1 L2
          go_wp2_with fail
          refine (cF _).mono ?_
          rintro e w9 ⟨rfl, rfl⟩
          go_wp2
          go_ret
          exact ⟨rfl, HB.out.trans (Hw5.out.mono HB.out.size)⟩
        | false =>
          go_enter Tryz.func13, Tryz.ntmps13
          go_wp2_with fail
          refine CP.out.mono ?_
          rintro e w2 ⟨⟨p1, a1, u1, p2, a2, u2, rfl⟩, hb2⟩
          have hold := heap_r0 w2 (.cells #[.pointer none, .string ⟨#[]⟩, .int .i64 0, .int .i64 0, .int .i64 0, .int .i64 0, .string ⟨#[]⟩, .slice none 0 0, .bool false, .int .i64 0, .int .i64 0, .int .i64 0, .int .i64 0, .string ⟨#[]⟩, .slice none 0 0, .bool false] TP)
          have HB : Hid (Below w.heap.size w (w2.alloc (.cells #[.pointer tp, .string ⟨#[]⟩, .int .i64 i1, .int .i64 k1, .int .i64 e1, .int .i64 n1, .string t1, .slice p1 a1 u1, .bool false, .int .i64 i2, .int .i64 k2, .int .i64 e2, .int .i64 n2, .string t2, .slice p2 a2 u2, .bool d2] TP))) := hb2.trans ((below1 w2 _).mono hb2.size)
          have HC : Hid (∀ Y, Below (w2.alloc (.cells #[.pointer tp, .string ⟨#[]⟩, .int .i64 i1, .int .i64 k1, .int .i64 e1, .int .i64 n1, .string t1, .slice p1 a1 u1, .bool false, .int .i64 i2, .int .i64 k2, .int .i64 e2, .int .i64 n2, .string t2, .slice p2 a2 u2, .bool d2] TP)).heap.size (w2.alloc (.cells #[.pointer tp, .string ⟨#[]⟩, .int .i64 i1, .int .i64 k1, .int .i64 e1, .int .i64 n1, .string t1, .slice p1 a1 u1, .bool false, .int .i64 i2, .int .i64 k2, .int .i64 e2, .int .i64 n2, .string t2, .slice p2 a2 u2, .bool d2] TP)) Y → InP Y w2.heap.size #[.pointer tp, .string ⟨#[]⟩, .int .i64 i1, .int .i64 k1, .int .i64 e1, .int .i64 n1, .string t1, .slice p1 a1 u1, .bool false, .int .i64 i2, .int .i64 k2, .int .i64 e2, .int .i64 n2, .string t2, .slice p2 a2 u2, .bool d2]) := fun Y h => inP_box h
          obtain ⟨L0, L1, L2⟩ := load_P (HC.out _ (Below.refl _ _))
          clear hb2
          have cI := fun W => pInts_c tp ⟨#[]⟩ i1 k1 e1 n1 t1 p1 a1 u1 false i2 k2 e2 n2 t2 p2 a2 u2 d2 W
          rw [h1] at cI
          have cR := fun W => pRel_c tp ⟨#[]⟩ i1 k1 e1 n1 t1 p1 a1 u1 false i2 k2 e2 n2 t2 p2 a2 u2 d2 W
          rw [h2] at cR
          have cS := fun W => pRecs_c tp ⟨#[]⟩ i1 k1 e1 n1 t1 p1 a1 u1 false i2 k2 e2 n2 t2 p2 a2 u2 d2 W
          rw [h3] at cS
          clear h1 h2 h3
          go_wp2_with (first | ((with_reducible apply step_store hold); rfl; rfl; kernel_rfl; rfl; kernel_rfl; rw [World.setRow_alloc_new]) | ((with_reducible apply step_load L0); rfl; rfl) | fail)
          generalize w2.alloc (.cells #[.pointer tp, .string ⟨#[]⟩, .int .i64 i1, .int .i64 k1, .int .i64 e1, .int .i64 n1, .string t1, .slice p1 a1 u1, .bool false, .int .i64 i2, .int .i64 k2, .int .i64 e2, .int .i64 n2, .string t2, .slice p2 a2 u2, .bool d2] TP) = W at *
          clear hold
          refine (cI _).mono ?_
          rintro e w3 ⟨rfl, hb⟩
          have Hw3 : Hid (Below W.heap.size W w3) := hb
          clear hb cI L0 L1 L2
          obtain ⟨L0, L1, L2⟩ := load_P (HC.out _ Hw3.out)
          go_wp2_with (first | ((with_reducible apply step_load L0); rfl; rfl) | ((with_reducible apply step_load L1); rfl; rfl) | ((with_reducible apply step_load L2); rfl; rfl) | fail)
          refine (cR _).mono ?_
          rintro e w4 ⟨rfl, hb⟩
          have Hw4 : Hid (Below W.heap.size W w4) := Hw3.out.trans (hb.mono Hw3.out.size)
          clear hb cR L0 L1 L2
          obtain ⟨L0, L1, L2⟩ := load_P (HC.out _ Hw4.out)
          go_wp2_with (first | ((with_reducible apply step_load L0); rfl; rfl) | ((with_reducible apply step_load L1); rfl; rfl) | ((with_reducible apply step_load L2); rfl; rfl) | fail)
          refine (cS _).mono ?_
          rintro e w5 ⟨rfl, hb⟩
          have Hw5 : Hid (Below W.heap.size W w5) := Hw4.out.trans (hb.mono Hw4.out.size)
          clear hb cS L0 L1 L2
          obtain ⟨L0, L1, L2⟩ := load_P (HC.out _ Hw5.out)
          have hd := HC.out _ Hw5.out 8
          simp only [List.getElem?_toArray, List.getElem?_cons_succ, List.getElem?_cons_zero] at hd
          have cF := fun W => cRefuse_c false W
          clear L0 L1 L2
          go_wp2_with fail
          refine (cF _).mono ?_
          rintro e w9 ⟨rfl, rfl⟩
          go_wp2
          go_ret
          exact ⟨rfl, HB.out.trans (Hw5.out.mono HB.out.size)⟩
set_option maxHeartbeats 4000000 in
theorem cast_of {tp : Option Addr} {x y : Int} {i1 k1 e1 n1 : Int} {t1 : ByteArray} {d1 : Bool} {i2 k2 e2 n2 : Int} {t2 : ByteArray} {d2 : Bool} (cP : Calls Tryz.prog 31 #[.pointer tp, .int .i64 x, .int .i64 y] w fun e w' => (∃ p1 a1 u1 p2 a2 u2, e = .returned (.tuple #[.agg #[.pointer tp, .string ⟨#[]⟩, .int .i64 i1, .int .i64 k1, .int .i64 e1, .int .i64 n1, .string t1, .slice p1 a1 u1, .bool d1, .int .i64 i2, .int .i64 k2, .int .i64 e2, .int .i64 n2, .string t2, .slice p2 a2 u2, .bool d2], .int .i64 0])) ∧ Below w.heap.size w w') :
    Calls Tryz.prog 15 #[.pointer tp, .int .i64 x, .int .i64 y] w fun e w' => e = .returned (.int .i64 (if castP k1 k2 then 0 else 70)) ∧ Below w.heap.size w w' := by
  have CP : Hid (Calls Tryz.prog 31 #[.pointer tp, .int .i64 x, .int .i64 y] w fun e w' => (∃ p1 a1 u1 p2 a2 u2, e = .returned (.tuple #[.agg #[.pointer tp, .string ⟨#[]⟩, .int .i64 i1, .int .i64 k1, .int .i64 e1, .int .i64 n1, .string t1, .slice p1 a1 u1, .bool d1, .int .i64 i2, .int .i64 k2, .int .i64 e2, .int .i64 n2, .string t2, .slice p2 a2 u2, .bool d2], .int .i64 0])) ∧ Below w.heap.size w w') := cP
  clear cP
  by_cases ka : k1 = 1
  · subst ka
    rw [show castP 1 k2 = true by simp [castP]]
    go_enter Tryz.func15, Tryz.ntmps15
    go_wp2_with fail
    refine CP.out.mono ?_
    rintro e w2 ⟨⟨p1, a1, u1, p2, a2, u2, rfl⟩, hb2⟩
    have hold := heap_r0 w2 (.cells #[.pointer none, .string ⟨#[]⟩, .int .i64 0, .int .i64 0, .int .i64 0, .int .i64 0, .string ⟨#[]⟩, .slice none 0 0, .bool false, .int .i64 0, .int .i64 0, .int .i64 0, .int .i64 0, .string ⟨#[]⟩, .slice none 0 0, .bool false] TP)
    have HB : Hid (Below w.heap.size w (w2.alloc (.cells #[.pointer tp, .string ⟨#[]⟩, .int .i64 i1, .int .i64 1, .int .i64 e1, .int .i64 n1, .string t1, .slice p1 a1 u1, .bool d1, .int .i64 i2, .int .i64 k2, .int .i64 e2, .int .i64 n2, .string t2, .slice p2 a2 u2, .bool d2] TP))) := hb2.trans ((below1 w2 _).mono hb2.size)
    have HC : Hid (∀ Y, Below (w2.alloc (.cells #[.pointer tp, .string ⟨#[]⟩, .int .i64 i1, .int .i64 1, .int .i64 e1, .int .i64 n1, .string t1, .slice p1 a1 u1, .bool d1, .int .i64 i2, .int .i64 k2, .int .i64 e2, .int .i64 n2, .string t2, .slice p2 a2 u2, .bool d2] TP)).heap.size (w2.alloc (.cells #[.pointer tp, .string ⟨#[]⟩, .int .i64 i1, .int .i64 1, .int .i64 e1, .int .i64 n1, .string t1, .slice p1 a1 u1, .bool d1, .int .i64 i2, .int .i64 k2, .int .i64 e2, .int .i64 n2, .string t2, .slice p2 a2 u2, .bool d2] TP)) Y → InP Y w2.heap.size #[.pointer tp, .string ⟨#[]⟩, .int .i64 i1, .int .i64 1, .int .i64 e1, .int .i64 n1, .string t1, .slice p1 a1 u1, .bool d1, .int .i64 i2, .int .i64 k2, .int .i64 e2, .int .i64 n2, .string t2, .slice p2 a2 u2, .bool d2]) := fun Y h => inP_box h
    obtain ⟨L0, L1, L2⟩ := load_P (HC.out _ (Below.refl _ _))
    clear hb2
    have cF := fun W => cRefuse_c true W
    go_wp2_with (first | ((with_reducible apply step_store hold); rfl; rfl; kernel_rfl; rfl; kernel_rfl; rw [World.setRow_alloc_new]) | fail)
    refine (cF _).mono ?_
    rintro e w9 ⟨rfl, rfl⟩
    go_wp2
    go_ret
    exact ⟨rfl, HB.out⟩
  by_cases kb : k1 = 2
  · subst kb
    unfold castP
    generalize h4 : (k2 == 13) = z4
    generalize h1 : (intK 2 && intK k2) = z1
    cases z1 with
    | true =>
      rw [show ((2 : Int) == 1 || true || ((2 : Int) == 13 && z4) || ((2 : Int) == 2 && z4)) = true by simp]
      go_enter Tryz.func15, Tryz.ntmps15
      go_wp2_with fail
      refine CP.out.mono ?_
      rintro e w2 ⟨⟨p1, a1, u1, p2, a2, u2, rfl⟩, hb2⟩
      have hold := heap_r0 w2 (.cells #[.pointer none, .string ⟨#[]⟩, .int .i64 0, .int .i64 0, .int .i64 0, .int .i64 0, .string ⟨#[]⟩, .slice none 0 0, .bool false, .int .i64 0, .int .i64 0, .int .i64 0, .int .i64 0, .string ⟨#[]⟩, .slice none 0 0, .bool false] TP)
      have HB : Hid (Below w.heap.size w (w2.alloc (.cells #[.pointer tp, .string ⟨#[]⟩, .int .i64 i1, .int .i64 2, .int .i64 e1, .int .i64 n1, .string t1, .slice p1 a1 u1, .bool d1, .int .i64 i2, .int .i64 k2, .int .i64 e2, .int .i64 n2, .string t2, .slice p2 a2 u2, .bool d2] TP))) := hb2.trans ((below1 w2 _).mono hb2.size)
      have HC : Hid (∀ Y, Below (w2.alloc (.cells #[.pointer tp, .string ⟨#[]⟩, .int .i64 i1, .int .i64 2, .int .i64 e1, .int .i64 n1, .string t1, .slice p1 a1 u1, .bool d1, .int .i64 i2, .int .i64 k2, .int .i64 e2, .int .i64 n2, .string t2, .slice p2 a2 u2, .bool d2] TP)).heap.size (w2.alloc (.cells #[.pointer tp, .string ⟨#[]⟩, .int .i64 i1, .int .i64 2, .int .i64 e1, .int .i64 n1, .string t1, .slice p1 a1 u1, .bool d1, .int .i64 i2, .int .i64 k2, .int .i64 e2, .int .i64 n2, .string t2, .slice p2 a2 u2, .bool d2] TP)) Y → InP Y w2.heap.size #[.pointer tp, .string ⟨#[]⟩, .int .i64 i1, .int .i64 2, .int .i64 e1, .int .i64 n1, .string t1, .slice p1 a1 u1, .bool d1, .int .i64 i2, .int .i64 k2, .int .i64 e2, .int .i64 n2, .string t2, .slice p2 a2 u2, .bool d2]) := fun Y h => inP_box h
      obtain ⟨L0, L1, L2⟩ := load_P (HC.out _ (Below.refl _ _))
      clear hb2
      have cP2 := fun W => oPtr_c i2 k2 e2 n2 t2 p2 a2 u2 d2 W
      rw [h4] at cP2
      have cI := fun W => pInts_c tp ⟨#[]⟩ i1 2 e1 n1 t1 p1 a1 u1 d1 i2 k2 e2 n2 t2 p2 a2 u2 d2 W
      rw [h1] at cI
      clear h1 h4
      go_wp2_with (first | ((with_reducible apply step_store hold); rfl; rfl; kernel_rfl; rfl; kernel_rfl; rw [World.setRow_alloc_new]) | ((with_reducible apply step_load L2); rfl; rfl) | fail)
      generalize w2.alloc (.cells #[.pointer tp, .string ⟨#[]⟩, .int .i64 i1, .int .i64 2, .int .i64 e1, .int .i64 n1, .string t1, .slice p1 a1 u1, .bool d1, .int .i64 i2, .int .i64 k2, .int .i64 e2, .int .i64 n2, .string t2, .slice p2 a2 u2, .bool d2] TP) = W at *
      clear hold
      refine (cP2 _).mono ?_
      rintro e w3 ⟨rfl, hb⟩
      have Hw3 : Hid (Below W.heap.size W w3) := hb
      clear hb cP2 L0 L1 L2
      obtain ⟨L0, L1, L2⟩ := load_P (HC.out _ Hw3.out)
      have hk := HC.out _ Hw3.out 3
      simp only [List.getElem?_toArray, List.getElem?_cons_succ, List.getElem?_cons_zero] at hk
      go_wp2_with (first | ((with_reducible apply step_load L0); rfl; rfl) | ((with_reducible apply step_load L1); rfl; rfl) | ((with_reducible apply step_load L2); rfl; rfl) | fail)
      refine (cI _).mono ?_
      rintro e w4 ⟨rfl, hb⟩
      have Hw4 : Hid (Below W.heap.size W w4) := Hw3.out.trans (hb.mono Hw3.out.size)
      clear hb cI L0 L1 L2
      obtain ⟨L0, L1, L2⟩ := load_P (HC.out _ Hw4.out)
      have cF := fun W => cRefuse_c true W
      clear L0 L1 L2
      go_wp2_with fail
      refine (cF _).mono ?_
      rintro e w9 ⟨rfl, rfl⟩
      go_wp2
      go_ret
      exact ⟨rfl, HB.out.trans (Hw4.out.mono HB.out.size)⟩
    | false =>
      rw [show ((2 : Int) == 1 || false || ((2 : Int) == 13 && z4) || ((2 : Int) == 2 && z4)) = z4 by simp]
      have h5 : ((2 : Int) == 13 && k2 == 13) = false := by simp
      cases z4 with
      | true =>
        go_enter Tryz.func15, Tryz.ntmps15
        go_wp2_with fail
        refine CP.out.mono ?_
        rintro e w2 ⟨⟨p1, a1, u1, p2, a2, u2, rfl⟩, hb2⟩
        have hold := heap_r0 w2 (.cells #[.pointer none, .string ⟨#[]⟩, .int .i64 0, .int .i64 0, .int .i64 0, .int .i64 0, .string ⟨#[]⟩, .slice none 0 0, .bool false, .int .i64 0, .int .i64 0, .int .i64 0, .int .i64 0, .string ⟨#[]⟩, .slice none 0 0, .bool false] TP)
        have HB : Hid (Below w.heap.size w (w2.alloc (.cells #[.pointer tp, .string ⟨#[]⟩, .int .i64 i1, .int .i64 2, .int .i64 e1, .int .i64 n1, .string t1, .slice p1 a1 u1, .bool d1, .int .i64 i2, .int .i64 k2, .int .i64 e2, .int .i64 n2, .string t2, .slice p2 a2 u2, .bool d2] TP))) := hb2.trans ((below1 w2 _).mono hb2.size)
        have HC : Hid (∀ Y, Below (w2.alloc (.cells #[.pointer tp, .string ⟨#[]⟩, .int .i64 i1, .int .i64 2, .int .i64 e1, .int .i64 n1, .string t1, .slice p1 a1 u1, .bool d1, .int .i64 i2, .int .i64 k2, .int .i64 e2, .int .i64 n2, .string t2, .slice p2 a2 u2, .bool d2] TP)).heap.size (w2.alloc (.cells #[.pointer tp, .string ⟨#[]⟩, .int .i64 i1, .int .i64 2, .int .i64 e1, .int .i64 n1, .string t1, .slice p1 a1 u1, .bool d1, .int .i64 i2, .int .i64 k2, .int .i64 e2, .int .i64 n2, .string t2, .slice p2 a2 u2, .bool d2] TP)) Y → InP Y w2.heap.size #[.pointer tp, .string ⟨#[]⟩, .int .i64 i1, .int .i64 2, .int .i64 e1, .int .i64 n1, .string t1, .slice p1 a1 u1, .bool d1, .int .i64 i2, .int .i64 k2, .int .i64 e2, .int .i64 n2, .string t2, .slice p2 a2 u2, .bool d2]) := fun Y h => inP_box h
        obtain ⟨L0, L1, L2⟩ := load_P (HC.out _ (Below.refl _ _))
        clear hb2
        have cP2 := fun W => oPtr_c i2 k2 e2 n2 t2 p2 a2 u2 d2 W
        rw [h4] at cP2
        have cI := fun W => pInts_c tp ⟨#[]⟩ i1 2 e1 n1 t1 p1 a1 u1 d1 i2 k2 e2 n2 t2 p2 a2 u2 d2 W
        rw [h1] at cI
        have cQ := fun W => pPtrs_c tp ⟨#[]⟩ i1 2 e1 n1 t1 p1 a1 u1 d1 i2 k2 e2 n2 t2 p2 a2 u2 d2 W
        rw [h5] at cQ
        clear h1 h4 h5
        go_wp2_with (first | ((with_reducible apply step_store hold); rfl; rfl; kernel_rfl; rfl; kernel_rfl; rw [World.setRow_alloc_new]) | ((with_reducible apply step_load L2); rfl; rfl) | fail)
        generalize w2.alloc (.cells #[.pointer tp, .string ⟨#[]⟩, .int .i64 i1, .int .i64 2, .int .i64 e1, .int .i64 n1, .string t1, .slice p1 a1 u1, .bool d1, .int .i64 i2, .int .i64 k2, .int .i64 e2, .int .i64 n2, .string t2, .slice p2 a2 u2, .bool d2] TP) = W at *
        clear hold
        refine (cP2 _).mono ?_
        rintro e w3 ⟨rfl, hb⟩
        have Hw3 : Hid (Below W.heap.size W w3) := hb
        clear hb cP2 L0 L1 L2
        obtain ⟨L0, L1, L2⟩ := load_P (HC.out _ Hw3.out)
        have hk := HC.out _ Hw3.out 3
        simp only [List.getElem?_toArray, List.getElem?_cons_succ, List.getElem?_cons_zero] at hk
        go_wp2_with (first | ((with_reducible apply step_load L0); rfl; rfl) | ((with_reducible apply step_load L1); rfl; rfl) | ((with_reducible apply step_load L2); rfl; rfl) | fail)
        refine (cI _).mono ?_
        rintro e w4 ⟨rfl, hb⟩
        have Hw4 : Hid (Below W.heap.size W w4) := Hw3.out.trans (hb.mono Hw3.out.size)
        clear hb cI L0 L1 L2
        obtain ⟨L0, L1, L2⟩ := load_P (HC.out _ Hw4.out)
        go_wp2_with (first | ((with_reducible apply step_load L0); rfl; rfl) | ((with_reducible apply step_load L1); rfl; rfl) | ((with_reducible apply step_load L2); rfl; rfl) | fail)
        refine (cQ _).mono ?_
        rintro e w5 ⟨rfl, hb⟩
        have Hw5 : Hid (Below W.heap.size W w5) := Hw4.out.trans (hb.mono Hw4.out.size)
        clear hb cQ L0 L1 L2
        obtain ⟨L0, L1, L2⟩ := load_P (HC.out _ Hw5.out)
        have cF := fun W => cRefuse_c true W
        clear L0 L1 L2
        go_wp2_with fail
        refine (cF _).mono ?_
        rintro e w9 ⟨rfl, rfl⟩
        go_wp2
        go_ret
        exact ⟨rfl, HB.out.trans (Hw5.out.mono HB.out.size)⟩
      | false =>
        go_enter Tryz.func15, Tryz.ntmps15
        go_wp2_with fail
        refine CP.out.mono ?_
        rintro e w2 ⟨⟨p1, a1, u1, p2, a2, u2, rfl⟩, hb2⟩
        have hold := heap_r0 w2 (.cells #[.pointer none, .string ⟨#[]⟩, .int .i64 0, .int .i64 0, .int .i64 0, .int .i64 0, .string ⟨#[]⟩, .slice none 0 0, .bool false, .int .i64 0, .int .i64 0, .int .i64 0, .int .i64 0, .string ⟨#[]⟩, .slice none 0 0, .bool false] TP)
        have HB : Hid (Below w.heap.size w (w2.alloc (.cells #[.pointer tp, .string ⟨#[]⟩, .int .i64 i1, .int .i64 2, .int .i64 e1, .int .i64 n1, .string t1, .slice p1 a1 u1, .bool d1, .int .i64 i2, .int .i64 k2, .int .i64 e2, .int .i64 n2, .string t2, .slice p2 a2 u2, .bool d2] TP))) := hb2.trans ((below1 w2 _).mono hb2.size)
        have HC : Hid (∀ Y, Below (w2.alloc (.cells #[.pointer tp, .string ⟨#[]⟩, .int .i64 i1, .int .i64 2, .int .i64 e1, .int .i64 n1, .string t1, .slice p1 a1 u1, .bool d1, .int .i64 i2, .int .i64 k2, .int .i64 e2, .int .i64 n2, .string t2, .slice p2 a2 u2, .bool d2] TP)).heap.size (w2.alloc (.cells #[.pointer tp, .string ⟨#[]⟩, .int .i64 i1, .int .i64 2, .int .i64 e1, .int .i64 n1, .string t1, .slice p1 a1 u1, .bool d1, .int .i64 i2, .int .i64 k2, .int .i64 e2, .int .i64 n2, .string t2, .slice p2 a2 u2, .bool d2] TP)) Y → InP Y w2.heap.size #[.pointer tp, .string ⟨#[]⟩, .int .i64 i1, .int .i64 2, .int .i64 e1, .int .i64 n1, .string t1, .slice p1 a1 u1, .bool d1, .int .i64 i2, .int .i64 k2, .int .i64 e2, .int .i64 n2, .string t2, .slice p2 a2 u2, .bool d2]) := fun Y h => inP_box h
        obtain ⟨L0, L1, L2⟩ := load_P (HC.out _ (Below.refl _ _))
        clear hb2
        have cP2 := fun W => oPtr_c i2 k2 e2 n2 t2 p2 a2 u2 d2 W
        rw [h4] at cP2
        have cI := fun W => pInts_c tp ⟨#[]⟩ i1 2 e1 n1 t1 p1 a1 u1 d1 i2 k2 e2 n2 t2 p2 a2 u2 d2 W
        rw [h1] at cI
        have cQ := fun W => pPtrs_c tp ⟨#[]⟩ i1 2 e1 n1 t1 p1 a1 u1 d1 i2 k2 e2 n2 t2 p2 a2 u2 d2 W
        rw [h5] at cQ
        clear h1 h4 h5
        go_wp2_with (first | ((with_reducible apply step_store hold); rfl; rfl; kernel_rfl; rfl; kernel_rfl; rw [World.setRow_alloc_new]) | ((with_reducible apply step_load L2); rfl; rfl) | fail)
        generalize w2.alloc (.cells #[.pointer tp, .string ⟨#[]⟩, .int .i64 i1, .int .i64 2, .int .i64 e1, .int .i64 n1, .string t1, .slice p1 a1 u1, .bool d1, .int .i64 i2, .int .i64 k2, .int .i64 e2, .int .i64 n2, .string t2, .slice p2 a2 u2, .bool d2] TP) = W at *
        clear hold
        refine (cP2 _).mono ?_
        rintro e w3 ⟨rfl, hb⟩
        have Hw3 : Hid (Below W.heap.size W w3) := hb
        clear hb cP2 L0 L1 L2
        obtain ⟨L0, L1, L2⟩ := load_P (HC.out _ Hw3.out)
        have hk := HC.out _ Hw3.out 3
        simp only [List.getElem?_toArray, List.getElem?_cons_succ, List.getElem?_cons_zero] at hk
        go_wp2_with (first | ((with_reducible apply step_load L0); rfl; rfl) | ((with_reducible apply step_load L1); rfl; rfl) | ((with_reducible apply step_load L2); rfl; rfl) | fail)
        refine (cI _).mono ?_
        rintro e w4 ⟨rfl, hb⟩
        have Hw4 : Hid (Below W.heap.size W w4) := Hw3.out.trans (hb.mono Hw3.out.size)
        clear hb cI L0 L1 L2
        obtain ⟨L0, L1, L2⟩ := load_P (HC.out _ Hw4.out)
        go_wp2_with (first | ((with_reducible apply step_load L0); rfl; rfl) | ((with_reducible apply step_load L1); rfl; rfl) | ((with_reducible apply step_load L2); rfl; rfl) | fail)
        refine (cQ _).mono ?_
        rintro e w5 ⟨rfl, hb⟩
        have Hw5 : Hid (Below W.heap.size W w5) := Hw4.out.trans (hb.mono Hw4.out.size)
        clear hb cQ L0 L1 L2
        obtain ⟨L0, L1, L2⟩ := load_P (HC.out _ Hw5.out)
        have cF := fun W => cRefuse_c false W
        clear L0 L1 L2
        go_wp2_with fail
        refine (cF _).mono ?_
        rintro e w9 ⟨rfl, rfl⟩
        go_wp2
        go_ret
        exact ⟨rfl, HB.out.trans (Hw5.out.mono HB.out.size)⟩
  have e1' : (k1 == 1) = false := by simpa using ka
  have e2' : (k1 == 2) = false := by simpa using kb
  unfold castP
  rw [e1', e2']
  generalize h1 : (intK k1 && intK k2) = z1
  generalize h5 : (k1 == 13 && k2 == 13) = z2
  rw [show (false || z1 || z2 || (false && k2 == 13)) = (z1 || z2) by simp]
  cases z1 with
  | true =>
    go_enter Tryz.func15, Tryz.ntmps15
    go_wp2_with fail
    refine CP.out.mono ?_
    rintro e w2 ⟨⟨p1, a1, u1, p2, a2, u2, rfl⟩, hb2⟩
    have hold := heap_r0 w2 (.cells #[.pointer none, .string ⟨#[]⟩, .int .i64 0, .int .i64 0, .int .i64 0, .int .i64 0, .string ⟨#[]⟩, .slice none 0 0, .bool false, .int .i64 0, .int .i64 0, .int .i64 0, .int .i64 0, .string ⟨#[]⟩, .slice none 0 0, .bool false] TP)
    have HB : Hid (Below w.heap.size w (w2.alloc (.cells #[.pointer tp, .string ⟨#[]⟩, .int .i64 i1, .int .i64 k1, .int .i64 e1, .int .i64 n1, .string t1, .slice p1 a1 u1, .bool d1, .int .i64 i2, .int .i64 k2, .int .i64 e2, .int .i64 n2, .string t2, .slice p2 a2 u2, .bool d2] TP))) := hb2.trans ((below1 w2 _).mono hb2.size)
    have HC : Hid (∀ Y, Below (w2.alloc (.cells #[.pointer tp, .string ⟨#[]⟩, .int .i64 i1, .int .i64 k1, .int .i64 e1, .int .i64 n1, .string t1, .slice p1 a1 u1, .bool d1, .int .i64 i2, .int .i64 k2, .int .i64 e2, .int .i64 n2, .string t2, .slice p2 a2 u2, .bool d2] TP)).heap.size (w2.alloc (.cells #[.pointer tp, .string ⟨#[]⟩, .int .i64 i1, .int .i64 k1, .int .i64 e1, .int .i64 n1, .string t1, .slice p1 a1 u1, .bool d1, .int .i64 i2, .int .i64 k2, .int .i64 e2, .int .i64 n2, .string t2, .slice p2 a2 u2, .bool d2] TP)) Y → InP Y w2.heap.size #[.pointer tp, .string ⟨#[]⟩, .int .i64 i1, .int .i64 k1, .int .i64 e1, .int .i64 n1, .string t1, .slice p1 a1 u1, .bool d1, .int .i64 i2, .int .i64 k2, .int .i64 e2, .int .i64 n2, .string t2, .slice p2 a2 u2, .bool d2]) := fun Y h => inP_box h
    obtain ⟨L0, L1, L2⟩ := load_P (HC.out _ (Below.refl _ _))
    clear hb2
    have cI := fun W => pInts_c tp ⟨#[]⟩ i1 k1 e1 n1 t1 p1 a1 u1 d1 i2 k2 e2 n2 t2 p2 a2 u2 d2 W
    rw [h1] at cI
    clear h1 h5
    go_wp2_with (first | ((with_reducible apply step_store hold); rfl; rfl; kernel_rfl; rfl; kernel_rfl; rw [World.setRow_alloc_new]) | ((with_reducible apply step_load L0); rfl; rfl) | fail)
    generalize w2.alloc (.cells #[.pointer tp, .string ⟨#[]⟩, .int .i64 i1, .int .i64 k1, .int .i64 e1, .int .i64 n1, .string t1, .slice p1 a1 u1, .bool d1, .int .i64 i2, .int .i64 k2, .int .i64 e2, .int .i64 n2, .string t2, .slice p2 a2 u2, .bool d2] TP) = W at *
    clear hold
    refine (cI _).mono ?_
    rintro e w3 ⟨rfl, hb⟩
    have Hw3 : Hid (Below W.heap.size W w3) := hb
    clear hb cI L0 L1 L2
    obtain ⟨L0, L1, L2⟩ := load_P (HC.out _ Hw3.out)
    have cF := fun W => cRefuse_c true W
    clear L0 L1 L2
    go_wp2_with fail
    refine (cF _).mono ?_
    rintro e w9 ⟨rfl, rfl⟩
    go_wp2
    go_ret
    exact ⟨rfl, HB.out.trans (Hw3.out.mono HB.out.size)⟩
  | false =>
    rw [Bool.false_or]
    cases z2 with
    | true =>
      go_enter Tryz.func15, Tryz.ntmps15
      go_wp2_with fail
      refine CP.out.mono ?_
      rintro e w2 ⟨⟨p1, a1, u1, p2, a2, u2, rfl⟩, hb2⟩
      have hold := heap_r0 w2 (.cells #[.pointer none, .string ⟨#[]⟩, .int .i64 0, .int .i64 0, .int .i64 0, .int .i64 0, .string ⟨#[]⟩, .slice none 0 0, .bool false, .int .i64 0, .int .i64 0, .int .i64 0, .int .i64 0, .string ⟨#[]⟩, .slice none 0 0, .bool false] TP)
      have HB : Hid (Below w.heap.size w (w2.alloc (.cells #[.pointer tp, .string ⟨#[]⟩, .int .i64 i1, .int .i64 k1, .int .i64 e1, .int .i64 n1, .string t1, .slice p1 a1 u1, .bool d1, .int .i64 i2, .int .i64 k2, .int .i64 e2, .int .i64 n2, .string t2, .slice p2 a2 u2, .bool d2] TP))) := hb2.trans ((below1 w2 _).mono hb2.size)
      have HC : Hid (∀ Y, Below (w2.alloc (.cells #[.pointer tp, .string ⟨#[]⟩, .int .i64 i1, .int .i64 k1, .int .i64 e1, .int .i64 n1, .string t1, .slice p1 a1 u1, .bool d1, .int .i64 i2, .int .i64 k2, .int .i64 e2, .int .i64 n2, .string t2, .slice p2 a2 u2, .bool d2] TP)).heap.size (w2.alloc (.cells #[.pointer tp, .string ⟨#[]⟩, .int .i64 i1, .int .i64 k1, .int .i64 e1, .int .i64 n1, .string t1, .slice p1 a1 u1, .bool d1, .int .i64 i2, .int .i64 k2, .int .i64 e2, .int .i64 n2, .string t2, .slice p2 a2 u2, .bool d2] TP)) Y → InP Y w2.heap.size #[.pointer tp, .string ⟨#[]⟩, .int .i64 i1, .int .i64 k1, .int .i64 e1, .int .i64 n1, .string t1, .slice p1 a1 u1, .bool d1, .int .i64 i2, .int .i64 k2, .int .i64 e2, .int .i64 n2, .string t2, .slice p2 a2 u2, .bool d2]) := fun Y h => inP_box h
      obtain ⟨L0, L1, L2⟩ := load_P (HC.out _ (Below.refl _ _))
      clear hb2
      have cI := fun W => pInts_c tp ⟨#[]⟩ i1 k1 e1 n1 t1 p1 a1 u1 d1 i2 k2 e2 n2 t2 p2 a2 u2 d2 W
      rw [h1] at cI
      have cQ := fun W => pPtrs_c tp ⟨#[]⟩ i1 k1 e1 n1 t1 p1 a1 u1 d1 i2 k2 e2 n2 t2 p2 a2 u2 d2 W
      rw [h5] at cQ
      clear h1 h5
      go_wp2_with (first | ((with_reducible apply step_store hold); rfl; rfl; kernel_rfl; rfl; kernel_rfl; rw [World.setRow_alloc_new]) | ((with_reducible apply step_load L0); rfl; rfl) | fail)
      generalize w2.alloc (.cells #[.pointer tp, .string ⟨#[]⟩, .int .i64 i1, .int .i64 k1, .int .i64 e1, .int .i64 n1, .string t1, .slice p1 a1 u1, .bool d1, .int .i64 i2, .int .i64 k2, .int .i64 e2, .int .i64 n2, .string t2, .slice p2 a2 u2, .bool d2] TP) = W at *
      clear hold
      refine (cI _).mono ?_
      rintro e w3 ⟨rfl, hb⟩
      have Hw3 : Hid (Below W.heap.size W w3) := hb
      clear hb cI L0 L1 L2
      obtain ⟨L0, L1, L2⟩ := load_P (HC.out _ Hw3.out)
      go_wp2_with (first | ((with_reducible apply step_load L0); rfl; rfl) | ((with_reducible apply step_load L1); rfl; rfl) | ((with_reducible apply step_load L2); rfl; rfl) | fail)
      refine (cQ _).mono ?_
      rintro e w4 ⟨rfl, hb⟩
      have Hw4 : Hid (Below W.heap.size W w4) := Hw3.out.trans (hb.mono Hw3.out.size)
      clear hb cQ L0 L1 L2
      obtain ⟨L0, L1, L2⟩ := load_P (HC.out _ Hw4.out)
      have cF := fun W => cRefuse_c true W
      clear L0 L1 L2
      go_wp2_with fail
      refine (cF _).mono ?_
      rintro e w9 ⟨rfl, rfl⟩
      go_wp2
      go_ret
      exact ⟨rfl, HB.out.trans (Hw4.out.mono HB.out.size)⟩
    | false =>
      go_enter Tryz.func15, Tryz.ntmps15
      go_wp2_with fail
      refine CP.out.mono ?_
      rintro e w2 ⟨⟨p1, a1, u1, p2, a2, u2, rfl⟩, hb2⟩
      have hold := heap_r0 w2 (.cells #[.pointer none, .string ⟨#[]⟩, .int .i64 0, .int .i64 0, .int .i64 0, .int .i64 0, .string ⟨#[]⟩, .slice none 0 0, .bool false, .int .i64 0, .int .i64 0, .int .i64 0, .int .i64 0, .string ⟨#[]⟩, .slice none 0 0, .bool false] TP)
      have HB : Hid (Below w.heap.size w (w2.alloc (.cells #[.pointer tp, .string ⟨#[]⟩, .int .i64 i1, .int .i64 k1, .int .i64 e1, .int .i64 n1, .string t1, .slice p1 a1 u1, .bool d1, .int .i64 i2, .int .i64 k2, .int .i64 e2, .int .i64 n2, .string t2, .slice p2 a2 u2, .bool d2] TP))) := hb2.trans ((below1 w2 _).mono hb2.size)
      have HC : Hid (∀ Y, Below (w2.alloc (.cells #[.pointer tp, .string ⟨#[]⟩, .int .i64 i1, .int .i64 k1, .int .i64 e1, .int .i64 n1, .string t1, .slice p1 a1 u1, .bool d1, .int .i64 i2, .int .i64 k2, .int .i64 e2, .int .i64 n2, .string t2, .slice p2 a2 u2, .bool d2] TP)).heap.size (w2.alloc (.cells #[.pointer tp, .string ⟨#[]⟩, .int .i64 i1, .int .i64 k1, .int .i64 e1, .int .i64 n1, .string t1, .slice p1 a1 u1, .bool d1, .int .i64 i2, .int .i64 k2, .int .i64 e2, .int .i64 n2, .string t2, .slice p2 a2 u2, .bool d2] TP)) Y → InP Y w2.heap.size #[.pointer tp, .string ⟨#[]⟩, .int .i64 i1, .int .i64 k1, .int .i64 e1, .int .i64 n1, .string t1, .slice p1 a1 u1, .bool d1, .int .i64 i2, .int .i64 k2, .int .i64 e2, .int .i64 n2, .string t2, .slice p2 a2 u2, .bool d2]) := fun Y h => inP_box h
      obtain ⟨L0, L1, L2⟩ := load_P (HC.out _ (Below.refl _ _))
      clear hb2
      have cI := fun W => pInts_c tp ⟨#[]⟩ i1 k1 e1 n1 t1 p1 a1 u1 d1 i2 k2 e2 n2 t2 p2 a2 u2 d2 W
      rw [h1] at cI
      have cQ := fun W => pPtrs_c tp ⟨#[]⟩ i1 k1 e1 n1 t1 p1 a1 u1 d1 i2 k2 e2 n2 t2 p2 a2 u2 d2 W
      rw [h5] at cQ
      clear h1 h5
      go_wp2_with (first | ((with_reducible apply step_store hold); rfl; rfl; kernel_rfl; rfl; kernel_rfl; rw [World.setRow_alloc_new]) | ((with_reducible apply step_load L0); rfl; rfl) | fail)
      generalize w2.alloc (.cells #[.pointer tp, .string ⟨#[]⟩, .int .i64 i1, .int .i64 k1, .int .i64 e1, .int .i64 n1, .string t1, .slice p1 a1 u1, .bool d1, .int .i64 i2, .int .i64 k2, .int .i64 e2, .int .i64 n2, .string t2, .slice p2 a2 u2, .bool d2] TP) = W at *
      clear hold
      refine (cI _).mono ?_
      rintro e w3 ⟨rfl, hb⟩
      have Hw3 : Hid (Below W.heap.size W w3) := hb
      clear hb cI L0 L1 L2
      obtain ⟨L0, L1, L2⟩ := load_P (HC.out _ Hw3.out)
      go_wp2_with (first | ((with_reducible apply step_load L0); rfl; rfl) | ((with_reducible apply step_load L1); rfl; rfl) | ((with_reducible apply step_load L2); rfl; rfl) | fail)
      refine (cQ _).mono ?_
      rintro e w4 ⟨rfl, hb⟩
      have Hw4 : Hid (Below W.heap.size W w4) := Hw3.out.trans (hb.mono Hw3.out.size)
      clear hb cQ L0 L1 L2
      obtain ⟨L0, L1, L2⟩ := load_P (HC.out _ Hw4.out)
      have cF := fun W => cRefuse_c false W
      clear L0 L1 L2
      go_wp2_with fail
      refine (cF _).mono ?_
      rintro e w9 ⟨rfl, rfl⟩
      go_wp2
      go_ret
      exact ⟨rfl, HB.out.trans (Hw4.out.mono HB.out.size)⟩
end
end Go.Proofs.YtpnpilbmhkiphaaGreatDoor
namespace Go.Proofs.YtpnpilbmhkiphaaGreatDoor
open Go.RowKit Go.Maps
set_option linter.unusedVariables false
set_option maxRecDepth 100000

section
variable {w : World}
set_option maxHeartbeats 2000000 in
theorem unary_not {tp : Option Addr} {x n : Int} {i1 k1 e1 n1 : Int} {t1 : ByteArray} {d1 : Bool}
    (cO : ∀ Y, Below w.heap.size w Y → Calls Tryz.prog 39 #[.pointer tp, .int .i64 x] Y fun e w' => (∃ p1 a1 u1, e = .returned (.tuple #[.agg #[.int .i64 i1, .int .i64 k1, .int .i64 e1, .int .i64 n1, .string t1, .slice p1 a1 u1, .bool d1], .int .i64 0])) ∧ Below Y.heap.size Y w')
    (cS : ∀ Y, Below w.heap.size w Y → Calls Tryz.prog 43 #[.pointer tp, .int .i64 x] Y fun e w' => e = .returned (.bool true) ∧ w' = Y)
    (cB : ∀ Y, Below w.heap.size w Y → Calls Tryz.prog 41 #[.pointer tp, .int .i64 8] Y fun e w' => e = .returned (.int .i64 n) ∧ w' = Y) :
    ∀ Y, Below w.heap.size w Y → Calls Tryz.prog 9 #[.pointer tp, .string ⟨#[33]⟩, .int .i64 x] Y fun e w' => e = .returned (.tuple #[.int .i64 n, .int .i64 0]) ∧ Below Y.heap.size Y w' := by
  intro w0 hw0
  have c1 := cO w0 hw0
  have HW0 : Hid (Below w.heap.size w w0) := hw0
  have CS : Hid (∀ Y, Below w.heap.size w Y → Calls Tryz.prog 43 #[.pointer tp, .int .i64 x] Y fun e w' => e = .returned (.bool true) ∧ w' = Y) := cS
  have CB : Hid (∀ Y, Below w.heap.size w Y → Calls Tryz.prog 41 #[.pointer tp, .int .i64 8] Y fun e w' => e = .returned (.int .i64 n) ∧ w' = Y) := cB
  clear cO cS cB hw0
  go_enter Tryz.func9, Tryz.ntmps9
  go_wp2_with fail
  refine c1.mono ?_
  rintro e w2 ⟨⟨p1, a1, u1, rfl⟩, hb2⟩
  have hold := heap_r0 w2 (.cells #[.int .i64 0, .int .i64 0, .int .i64 0, .int .i64 0, .string ⟨#[]⟩, .slice none 0 0, .bool false] TO)
  have HB : Hid (Below w0.heap.size w0 (w2.alloc (.cells #[.int .i64 i1, .int .i64 k1, .int .i64 e1, .int .i64 n1, .string t1, .slice p1 a1 u1, .bool d1] TO))) := hb2.trans ((below1 w2 _).mono hb2.size)
  clear hb2 c1
  go_wp2_with (first | ((with_reducible apply step_store hold); rfl; rfl; kernel_rfl; rfl; kernel_rfl; rw [World.setRow_alloc_new]) | fail)
  generalize w2.alloc (.cells #[.int .i64 i1, .int .i64 k1, .int .i64 e1, .int .i64 n1, .string t1, .slice p1 a1 u1, .bool d1] TO) = W at *
  refine (CS.out _ (HW0.out.trans (HB.out.mono HW0.out.size))).mono ?_
  rintro e w' ⟨rfl, hw⟩
  rw [hw]
  clear hw w' hold
  go_wp2_with fail
  refine (CB.out _ (HW0.out.trans (HB.out.mono HW0.out.size))).mono ?_
  rintro e w' ⟨rfl, hw⟩
  rw [hw]
  clear hw w'
  go_wp2
  go_ret2
  exact ⟨rfl, HB.out⟩
set_option maxHeartbeats 2000000 in
theorem cond_int {tp : Option Addr} {x y n : Int} {i1 k1 e1 n1 : Int} {t1 : ByteArray} {d1 : Bool} {i2 k2 e2 n2 : Int} {t2 : ByteArray} {d2 : Bool} (h1 : intK k1 = true) (h2 : intK k2 = true)
    (cP : ∀ Y, Below w.heap.size w Y → Calls Tryz.prog 31 #[.pointer tp, .int .i64 x, .int .i64 y] Y fun e w' => (∃ p1 a1 u1 p2 a2 u2, e = .returned (.tuple #[.agg #[.pointer tp, .string ⟨#[]⟩, .int .i64 i1, .int .i64 k1, .int .i64 e1, .int .i64 n1, .string t1, .slice p1 a1 u1, .bool d1, .int .i64 i2, .int .i64 k2, .int .i64 e2, .int .i64 n2, .string t2, .slice p2 a2 u2, .bool d2], .int .i64 0])) ∧ Below Y.heap.size Y w')
    (cB : ∀ Y, Below w.heap.size w Y → Calls Tryz.prog 41 #[.pointer tp, .int .i64 (usualP k1 k2)] Y fun e w' => e = .returned (.int .i64 n) ∧ w' = Y) :
    ∀ Y, Below w.heap.size w Y → Calls Tryz.prog 11 #[.pointer tp, .int .i64 x, .int .i64 y] Y fun e w' => e = .returned (.tuple #[.int .i64 n, .int .i64 0]) ∧ Below Y.heap.size Y w' := by
  intro w0 hw0
  have c1 := cP w0 hw0
  have HW0 : Hid (Below w.heap.size w w0) := hw0
  have CB : Hid (∀ Y, Below w.heap.size w Y → Calls Tryz.prog 41 #[.pointer tp, .int .i64 (usualP k1 k2)] Y fun e w' => e = .returned (.int .i64 n) ∧ w' = Y) := cB
  clear cP cB hw0
  go_enter Tryz.func11, Tryz.ntmps11
  go_wp2_with fail
  refine c1.mono ?_
  rintro e w2 ⟨⟨p1, a1, u1, p2, a2, u2, rfl⟩, hb2⟩
  have cI := fun Y => pInts_c tp ⟨#[]⟩ i1 k1 e1 n1 t1 p1 a1 u1 d1 i2 k2 e2 n2 t2 p2 a2 u2 d2 Y
  rw [h1, h2] at cI
  have cU := fun Y => pUsual_c tp ⟨#[]⟩ i1 k1 e1 n1 t1 p1 a1 u1 d1 i2 k2 e2 n2 t2 p2 a2 u2 d2 h1 h2 Y
  generalize usualP k1 k2 = uk at *
  have hold := heap_r0 w2 (.cells #[.pointer none, .string ⟨#[]⟩, .int .i64 0, .int .i64 0, .int .i64 0, .int .i64 0, .string ⟨#[]⟩, .slice none 0 0, .bool false, .int .i64 0, .int .i64 0, .int .i64 0, .int .i64 0, .string ⟨#[]⟩, .slice none 0 0, .bool false] TP)
  have HB : Hid (Below w0.heap.size w0 (w2.alloc (.cells #[.pointer tp, .string ⟨#[]⟩, .int .i64 i1, .int .i64 k1, .int .i64 e1, .int .i64 n1, .string t1, .slice p1 a1 u1, .bool d1, .int .i64 i2, .int .i64 k2, .int .i64 e2, .int .i64 n2, .string t2, .slice p2 a2 u2, .bool d2] TP))) := hb2.trans ((below1 w2 _).mono hb2.size)
  have HC : Hid (∀ Y, Below (w2.alloc (.cells #[.pointer tp, .string ⟨#[]⟩, .int .i64 i1, .int .i64 k1, .int .i64 e1, .int .i64 n1, .string t1, .slice p1 a1 u1, .bool d1, .int .i64 i2, .int .i64 k2, .int .i64 e2, .int .i64 n2, .string t2, .slice p2 a2 u2, .bool d2] TP)).heap.size (w2.alloc (.cells #[.pointer tp, .string ⟨#[]⟩, .int .i64 i1, .int .i64 k1, .int .i64 e1, .int .i64 n1, .string t1, .slice p1 a1 u1, .bool d1, .int .i64 i2, .int .i64 k2, .int .i64 e2, .int .i64 n2, .string t2, .slice p2 a2 u2, .bool d2] TP)) Y → InP Y w2.heap.size #[.pointer tp, .string ⟨#[]⟩, .int .i64 i1, .int .i64 k1, .int .i64 e1, .int .i64 n1, .string t1, .slice p1 a1 u1, .bool d1, .int .i64 i2, .int .i64 k2, .int .i64 e2, .int .i64 n2, .string t2, .slice p2 a2 u2, .bool d2]) := fun Y h => inP_box h
  obtain ⟨L0, L1, L2⟩ := load_P (HC.out _ (Below.refl _ _))
  clear hb2 c1
  go_wp2_with (first | ((with_reducible apply step_store hold); rfl; rfl; kernel_rfl; rfl; kernel_rfl; rw [World.setRow_alloc_new]) | ((with_reducible apply step_load L0); rfl; rfl) | fail)
  generalize w2.alloc (.cells #[.pointer tp, .string ⟨#[]⟩, .int .i64 i1, .int .i64 k1, .int .i64 e1, .int .i64 n1, .string t1, .slice p1 a1 u1, .bool d1, .int .i64 i2, .int .i64 k2, .int .i64 e2, .int .i64 n2, .string t2, .slice p2 a2 u2, .bool d2] TP) = W at *
  clear hold
  refine (cI _).mono ?_
  rintro e w3 ⟨rfl, hb3⟩
  have H3 : Hid (Below W.heap.size W w3) := hb3
  clear L0 L1 L2 hb3 cI
  obtain ⟨L0, L1, L2⟩ := load_P (HC.out _ H3.out)
  go_wp2_with (first | ((with_reducible apply step_load L0); rfl; rfl) | fail)
  refine (cU _).mono ?_
  rintro e w4 ⟨rfl, hb4⟩
  have HB4 : Hid (Below w0.heap.size w0 w4) := HB.out.trans ((H3.out.trans (hb4.mono H3.out.size)).mono HB.out.size)
  clear L0 L1 L2 hb4 cU
  go_wp2_with fail
  refine (CB.out _ (HW0.out.trans (HB4.out.mono HW0.out.size))).mono ?_
  rintro e w' ⟨rfl, hw⟩
  rw [hw]
  clear hw w'
  go_wp2
  go_ret2
  exact ⟨rfl, HB4.out⟩
/-! A table that no call made. -/
theorem pairOf_no {v : Value} (h : NoT v w) (hv : ∃ q, v = .pointer q) (x y : Int) : Calls Tryz.prog 31 #[v, .int .i64 x, .int .i64 y] w fun e w' => e = .returned (.tuple #[zeroPair, .int .i64 1]) ∧ Below w.heap.size w w' :=
  pair_bad1 (by decide) hv (fun W hW => operandOf_no (noT_below h hW) x)
set_option maxHeartbeats 2000000 in
theorem assign_no {v : Value} (h : NoT v w) (hv : ∃ q, v = .pointer q) (x y : Int) : Calls Tryz.prog 13 #[v, .int .i64 x, .int .i64 y] w fun e w' => e = .returned (.int .i64 1) ∧ Below w.heap.size w w' := by
  have c1 := pairOf_no h hv x y
  unfold zeroPair at c1
  obtain ⟨q, rfl⟩ := hv
  clear h
  go_enter Tryz.func13, Tryz.ntmps13
  go_wp2_with fail
  refine c1.mono ?_
  rintro e w2 ⟨rfl, hb2⟩
  have hold := heap_r0 w2 (.cells #[.pointer none, .string ⟨#[]⟩, .int .i64 0, .int .i64 0, .int .i64 0, .int .i64 0, .string ⟨#[]⟩, .slice none 0 0, .bool false, .int .i64 0, .int .i64 0, .int .i64 0, .int .i64 0, .string ⟨#[]⟩, .slice none 0 0, .bool false] TP)
  have HB : Hid (Below w.heap.size w (w2.alloc (.cells #[.pointer none, .string ⟨#[]⟩, .int .i64 0, .int .i64 0, .int .i64 0, .int .i64 0, .string ⟨#[]⟩, .slice none 0 0, .bool false, .int .i64 0, .int .i64 0, .int .i64 0, .int .i64 0, .string ⟨#[]⟩, .slice none 0 0, .bool false] TP))) := hb2.trans ((below1 w2 _).mono hb2.size)
  clear hb2 c1
  go_wp2_with (first | ((with_reducible apply step_store hold); rfl; rfl; kernel_rfl; rfl; kernel_rfl; rw [World.setRow_alloc_new]) | fail)
  go_ret
  exact ⟨rfl, HB.out⟩
set_option maxHeartbeats 2000000 in
theorem cast_no {v : Value} (h : NoT v w) (hv : ∃ q, v = .pointer q) (x y : Int) : Calls Tryz.prog 15 #[v, .int .i64 x, .int .i64 y] w fun e w' => e = .returned (.int .i64 1) ∧ Below w.heap.size w w' := by
  have c1 := pairOf_no h hv x y
  unfold zeroPair at c1
  obtain ⟨q, rfl⟩ := hv
  clear h
  go_enter Tryz.func15, Tryz.ntmps15
  go_wp2_with fail
  refine c1.mono ?_
  rintro e w2 ⟨rfl, hb2⟩
  have hold := heap_r0 w2 (.cells #[.pointer none, .string ⟨#[]⟩, .int .i64 0, .int .i64 0, .int .i64 0, .int .i64 0, .string ⟨#[]⟩, .slice none 0 0, .bool false, .int .i64 0, .int .i64 0, .int .i64 0, .int .i64 0, .string ⟨#[]⟩, .slice none 0 0, .bool false] TP)
  have HB : Hid (Below w.heap.size w (w2.alloc (.cells #[.pointer none, .string ⟨#[]⟩, .int .i64 0, .int .i64 0, .int .i64 0, .int .i64 0, .string ⟨#[]⟩, .slice none 0 0, .bool false, .int .i64 0, .int .i64 0, .int .i64 0, .int .i64 0, .string ⟨#[]⟩, .slice none 0 0, .bool false] TP))) := hb2.trans ((below1 w2 _).mono hb2.size)
  clear hb2 c1
  go_wp2_with (first | ((with_reducible apply step_store hold); rfl; rfl; kernel_rfl; rfl; kernel_rfl; rw [World.setRow_alloc_new]) | fail)
  go_ret
  exact ⟨rfl, HB.out⟩
set_option maxHeartbeats 2000000 in
theorem cond_no {v : Value} (h : NoT v w) (hv : ∃ q, v = .pointer q) (x y : Int) : Calls Tryz.prog 11 #[v, .int .i64 x, .int .i64 y] w fun e w' => e = .returned (.tuple #[.int .i64 0, .int .i64 1]) ∧ Below w.heap.size w w' := by
  have c1 := pairOf_no h hv x y
  unfold zeroPair at c1
  obtain ⟨q, rfl⟩ := hv
  clear h
  go_enter Tryz.func11, Tryz.ntmps11
  go_wp2_with fail
  refine c1.mono ?_
  rintro e w2 ⟨rfl, hb2⟩
  have hold := heap_r0 w2 (.cells #[.pointer none, .string ⟨#[]⟩, .int .i64 0, .int .i64 0, .int .i64 0, .int .i64 0, .string ⟨#[]⟩, .slice none 0 0, .bool false, .int .i64 0, .int .i64 0, .int .i64 0, .int .i64 0, .string ⟨#[]⟩, .slice none 0 0, .bool false] TP)
  have HB : Hid (Below w.heap.size w (w2.alloc (.cells #[.pointer none, .string ⟨#[]⟩, .int .i64 0, .int .i64 0, .int .i64 0, .int .i64 0, .string ⟨#[]⟩, .slice none 0 0, .bool false, .int .i64 0, .int .i64 0, .int .i64 0, .int .i64 0, .string ⟨#[]⟩, .slice none 0 0, .bool false] TP))) := hb2.trans ((below1 w2 _).mono hb2.size)
  clear hb2 c1
  go_wp2_with (first | ((with_reducible apply step_store hold); rfl; rfl; kernel_rfl; rfl; kernel_rfl; rw [World.setRow_alloc_new]) | fail)
  go_ret2
  exact ⟨rfl, HB.out⟩
set_option maxHeartbeats 2000000 in
theorem unary_no {v : Value} (h : NoT v w) (hv : ∃ q, v = .pointer q) (op : ByteArray) (x : Int) : Calls Tryz.prog 9 #[v, .string op, .int .i64 x] w fun e w' => e = .returned (.tuple #[.int .i64 0, .int .i64 1]) ∧ Below w.heap.size w w' := by
  have c1 := operandOf_no h x
  unfold zeroOp at c1
  obtain ⟨q, rfl⟩ := hv
  clear h
  go_enter Tryz.func9, Tryz.ntmps9
  go_wp2_with fail
  refine c1.mono ?_
  rintro e w2 ⟨rfl, hb2⟩
  have hold := heap_r0 w2 (.cells #[.int .i64 0, .int .i64 0, .int .i64 0, .int .i64 0, .string ⟨#[]⟩, .slice none 0 0, .bool false] TO)
  have HB : Hid (Below w.heap.size w (w2.alloc (.cells #[.int .i64 0, .int .i64 0, .int .i64 0, .int .i64 0, .string ⟨#[]⟩, .slice none 0 0, .bool false] TO))) := hb2.trans ((below1 w2 _).mono hb2.size)
  clear hb2 c1
  go_wp2_with (first | ((with_reducible apply step_store hold); rfl; rfl; kernel_rfl; rfl; kernel_rfl; rw [World.setRow_alloc_new]) | fail)
  go_ret2
  exact ⟨rfl, HB.out⟩
set_option maxHeartbeats 2000000 in
theorem binary_no {v : Value} (h : NoT v w) (hv : ∃ q, v = .pointer q) (op : ByteArray) (x y : Int) : Calls Tryz.prog 7 #[v, .string op, .int .i64 x, .int .i64 y] w fun e w' => e = .returned (.tuple #[zeroOper, .int .i64 1]) ∧ Below w.heap.size w w' := by
  have hB := below1 w (.cells #[.int .i64 0, .int .i64 0, .int .i64 0, .int .i64 0, .int .i64 0] TOp)
  have E0 : Hid (_ = _) := heap_r0 w (.cells #[.int .i64 0, .int .i64 0, .int .i64 0, .int .i64 0, .int .i64 0] TOp)
  have HB0 : Hid (Below w.heap.size w (w.alloc (.cells #[.int .i64 0, .int .i64 0, .int .i64 0, .int .i64 0, .int .i64 0] TOp))) := hB
  have c1 := pairOf_no (noT_below h hB) hv x y
  unfold zeroPair at c1
  unfold zeroOper
  have hbo := build_Op0
  obtain ⟨q, rfl⟩ := hv
  clear h hB
  go_enter Tryz.func7, Tryz.ntmps7
  go_wp2_with fail
  generalize w.alloc (.cells #[.int .i64 0, .int .i64 0, .int .i64 0, .int .i64 0, .int .i64 0] TOp) = W at *
  refine c1.mono ?_
  rintro e w2 ⟨rfl, hb2⟩
  have hold := heap_r0 w2 (.cells #[.pointer none, .string ⟨#[]⟩, .int .i64 0, .int .i64 0, .int .i64 0, .int .i64 0, .string ⟨#[]⟩, .slice none 0 0, .bool false, .int .i64 0, .int .i64 0, .int .i64 0, .int .i64 0, .string ⟨#[]⟩, .slice none 0 0, .bool false] TP)
  have hB23 := hb2.trans ((below1 w2 (.cells #[.pointer none, .string ⟨#[]⟩, .int .i64 0, .int .i64 0, .int .i64 0, .int .i64 0, .string ⟨#[]⟩, .slice none 0 0, .bool false, .int .i64 0, .int .i64 0, .int .i64 0, .int .i64 0, .string ⟨#[]⟩, .slice none 0 0, .bool false] TP)).mono hb2.size)
  have E3 : Hid (_ = _) := blk_b E0.out hB23
  have HB : Hid (Below w.heap.size w (w2.alloc (.cells #[.pointer none, .string ⟨#[]⟩, .int .i64 0, .int .i64 0, .int .i64 0, .int .i64 0, .string ⟨#[]⟩, .slice none 0 0, .bool false, .int .i64 0, .int .i64 0, .int .i64 0, .int .i64 0, .string ⟨#[]⟩, .slice none 0 0, .bool false] TP))) := HB0.out.trans (hB23.mono HB0.out.size)
  clear hb2 c1 hB23
  go_wp2_with (first | ((with_reducible apply step_store hold); rfl; rfl; kernel_rfl; rfl; kernel_rfl; rw [World.setRow_alloc_new]) | ((with_reducible apply step_store E3.out); rfl; rfl; kernel_rfl; rfl; kernel_rfl) | fail)
  refine ret_op (p := 8) (q := 9) rfl rfl (setRow_heap _ _ _ _ _ _ E3.out) rfl ?_
  exact ⟨rfl, below_setRow HB.out (Nat.le_refl _) _⟩
end
end Go.Proofs.YtpnpilbmhkiphaaGreatDoor
