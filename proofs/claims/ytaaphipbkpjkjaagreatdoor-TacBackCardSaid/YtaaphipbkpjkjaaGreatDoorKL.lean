/-
  The given answer's same: are two instructions the same but for their operands' rows?
  The given answer's small questions: temp, arg, none.
  The given answer's none: is an operand none?
-/
import Derived.Test.YtaaphipbkpjkjaaGreatDoorKK
import Derived.Test.YtaaphipbkpjkjaaGreatDoorKI
namespace Go.Proofs.YtaaphipbkpjkjaaGreatDoor
open Go.RowKit Go.Maps
set_option linter.unusedVariables false
set_option maxRecDepth 100000
def fnV (f : Fn) : Value := .agg #[.string f.nm, .int .i64 f.pr, .int .i64 f.tp, .bool f.gv, .slice f.sp f.sn f.sc, .slice f.cp f.cn f.cc]
theorem bool_zero {an tp : Int} {b : Bool} (h : decide (an < tp) = b) (e : tp = 0) : Ending.returned (.bool (decide (an < 0))) = .returned (.bool b) := by rw [← h, e]
section
theorem rTemp_c (f : Fn) (d : Int) (w : World) :
    Calls Tryz.prog 85 #[fnV f, .int .i64 d] w fun e w' => e = .returned (.bool (tempB f.tp d)) ∧ Below w.heap.size w w' := by
  have b1 := below1 w (.cells #[.string f.nm, .int .i64 f.pr, .int .i64 f.tp, .bool f.gv, .slice f.sp f.sn f.sc, .slice f.cp f.cn f.cc] TFn)
  have c2 := (Lib.cell_of_heap (heap_r0 w (.cells #[.string f.nm, .int .i64 f.pr, .int .i64 f.tp, .bool f.gv, .slice f.sp f.sn f.sc, .slice f.cp f.cn f.cc] TFn)) 2).trans rfl
  have HB : Hid (Below w.heap.size w (w.alloc (.cells #[.string f.nm, .int .i64 f.pr, .int .i64 f.tp, .bool f.gv, .slice f.sp f.sn f.sc, .slice f.cp f.cn f.cc] TFn))) := b1
  have HE : Hid (tempB f.tp d = (decide (0 ≤ d) && decide (d < f.tp))) := by
    show _ = _
    unfold tempB withinP
    rw [Bool.eq_iff_iff]
    simp
    omega
  rw [HE.out]
  clear HE
  unfold fnV
  clear b1
  by_cases h0 : 0 ≤ d
  · have e0 : decide (0 ≤ d) = true := by simpa using h0
    rw [e0, Bool.true_and]
    go_enter Tryz.func85, Tryz.ntmps85
    go_upto_region 1 with (fail)
    refine (?_ : Code.wp _ _ _ _ (w.alloc (.cells #[.string f.nm, .int .i64 f.pr, .int .i64 f.tp, .bool f.gv, .slice f.sp f.sn f.sc, .slice f.cp f.cn f.cc] TFn)))
    generalize w.alloc (.cells #[.string f.nm, .int .i64 f.pr, .int .i64 f.tp, .bool f.gv, .slice f.sp f.sn f.sc, .slice f.cp f.cn f.cc] TFn) = W1 at *
    go_wp2
    go_ret
    exact ⟨rfl, HB.out⟩
  · have e0 : decide (0 ≤ d) = false := by simpa using h0
    rw [e0, Bool.false_and]
    go_enter Tryz.func85, Tryz.ntmps85
    go_upto_region 1 with (fail)
    refine (?_ : Code.wp _ _ _ _ (w.alloc (.cells #[.string f.nm, .int .i64 f.pr, .int .i64 f.tp, .bool f.gv, .slice f.sp f.sn f.sc, .slice f.cp f.cn f.cc] TFn)))
    generalize w.alloc (.cells #[.string f.nm, .int .i64 f.pr, .int .i64 f.tp, .bool f.gv, .slice f.sp f.sn f.sc, .slice f.cp f.cn f.cc] TFn) = W1 at *
    go_wp2
    go_ret
    exact ⟨rfl, HB.out⟩
theorem rArg_c (f : Fn) (h0 : 0 ≤ f.tp) (h1 : f.tp ≤ 9223372036854775807) (a : Ar) (ha : ArOK a) (w : World) :
    Calls Tryz.prog 86 #[fnV f, arV a] w fun e w' => e = .returned (.bool (operB f.tp a)) ∧ Below w.heap.size w w' := by
  obtain ⟨ak, an⟩ := a
  obtain ⟨ha0, ha1⟩ := ha
  simp only at ha0 ha1
  have b1 := below1 w (.cells #[.string f.nm, .int .i64 f.pr, .int .i64 f.tp, .bool f.gv, .slice f.sp f.sn f.sc, .slice f.cp f.cn f.cc] TFn)
  have N1 := heap_r0 w (.cells #[.string f.nm, .int .i64 f.pr, .int .i64 f.tp, .bool f.gv, .slice f.sp f.sn f.sc, .slice f.cp f.cn f.cc] TFn)
  have b2 := below1 (w.alloc (.cells #[.string f.nm, .int .i64 f.pr, .int .i64 f.tp, .bool f.gv, .slice f.sp f.sn f.sc, .slice f.cp f.cn f.cc] TFn)) (.cells #[.int .i64 ak, .int .u32 an] TAr)
  have N2 := heap_r0 (w.alloc (.cells #[.string f.nm, .int .i64 f.pr, .int .i64 f.tp, .bool f.gv, .slice f.sp f.sn f.sc, .slice f.cp f.cn f.cc] TFn)) (.cells #[.int .i64 ak, .int .u32 an] TAr)
  have hz : (w.alloc (.cells #[.string f.nm, .int .i64 f.pr, .int .i64 f.tp, .bool f.gv, .slice f.sp f.sn f.sc, .slice f.cp f.cn f.cc] TFn)).heap.size = w.heap.size + 1 := by simp
  rw [hz] at N2
  have c5 := Lib.cell_of_heap (blk_b N1 b2) 2
  have a0 := Lib.cell_of_heap N2 0
  have a1 := Lib.cell_of_heap N2 1
  simp only [List.getElem?_toArray, List.getElem?_cons_zero, List.getElem?_cons_succ] at c5 a0 a1
  have HB : Hid (Below w.heap.size w ((w.alloc (.cells #[.string f.nm, .int .i64 f.pr, .int .i64 f.tp, .bool f.gv, .slice f.sp f.sn f.sc, .slice f.cp f.cn f.cc] TFn)).alloc (.cells #[.int .i64 ak, .int .u32 an] TAr))) := b1.trans (b2.mono b1.size)
  unfold fnV operB arV
  simp only
  obtain ⟨R, hR⟩ : ∃ R, R = (ak == 2 || (ak == 1 && decide (an < f.tp))) := ⟨_, rfl⟩
  rw [← hR]
  have HR : Hid (R = _) := hR
  have hw1 : IntKind.u64.wrap an = an := by simp [IntKind.wrap, IntKind.signed, IntKind.bits]; omega
  have hw2 : IntKind.u64.wrap f.tp = f.tp := by simp [IntKind.wrap, IntKind.signed, IntKind.bits]; omega
  have hmx : max 0 f.tp = f.tp := by omega
  clear b1 b2 N1 N2 hR
  go_enter Tryz.func86, Tryz.ntmps86
  go_upto_region 1 with (fail)
  refine (?_ : Code.wp _ _ _ _ ((w.alloc (.cells #[.string f.nm, .int .i64 f.pr, .int .i64 f.tp, .bool f.gv, .slice f.sp f.sn f.sc, .slice f.cp f.cn f.cc] TFn)).alloc (.cells #[.int .i64 ak, .int .u32 an] TAr)))
  generalize (w.alloc (.cells #[.string f.nm, .int .i64 f.pr, .int .i64 f.tp, .bool f.gv, .slice f.sp f.sn f.sc, .slice f.cp f.cn f.cc] TFn)).alloc (.cells #[.int .i64 ak, .int .u32 an] TAr) = W1 at *
  cases k2 : (ak == 2) with
  | true =>
    have HR2 : Hid (R = true) := by show R = true; rw [HR.out, k2]; rfl
    clear HR
    go_wp2
    go_ret
    exact ⟨by rw [HR2.out]; rfl, HB.out⟩
  | false =>
    cases k1 : (ak == 1) with
    | false =>
      have HR2 : Hid (R = false) := by show R = false; rw [HR.out, k2, k1]; rfl
      clear HR
      go_wp2
      go_ret
      exact ⟨by rw [HR2.out]; rfl, HB.out⟩
    | true =>
      have HR2 : Hid (R = decide (an < f.tp)) := by show R = _; rw [HR.out, k2, k1]; rfl
      clear HR
      generalize hdd : decide (an < f.tp) = dd at *
      cases dd
      all_goals
        go_wp2
        all_goals go_ret
        all_goals refine ⟨?_, HB.out⟩
        all_goals rw [HR2.out]
        all_goals first | rfl | exact bool_zero hdd (by omega)
end
end Go.Proofs.YtaaphipbkpjkjaaGreatDoor
namespace Go.Proofs.YtaaphipbkpjkjaaGreatDoor
open Go.RowKit Go.Maps
set_option linter.unusedVariables false
set_option maxRecDepth 100000
section
theorem rNone_c (a : Ar) (w : World) :
    Calls Tryz.prog 89 #[arV a] w fun e w' => e = .returned (.bool (a.kind == 0 && a.n == 0)) ∧ Below w.heap.size w w' := by
  obtain ⟨ak, an⟩ := a
  unfold arV
  simp only
  go_enter Tryz.func89, Tryz.ntmps89
  go_wp2
  all_goals go_ret
  all_goals refine ⟨bool_ret ?_, below1 w _⟩
  all_goals simp_all
end
end Go.Proofs.YtaaphipbkpjkjaaGreatDoor
namespace Go.Proofs.YtaaphipbkpjkjaaGreatDoor
open Go.RowKit Go.Maps
set_option linter.unusedVariables false
set_option maxRecDepth 100000
def arEq (a b : Ar) : Bool := a.kind == b.kind && a.n == b.n
def sameB (x y : In) : Bool := (x.op == y.op && (x.bin == y.bin && (x.d == y.d && (arEq x.a y.a && (arEq x.b y.b && (x.n == y.n && (x.off == y.off && (x.width == y.width && x.sg == y.sg))))))))
theorem arEq_t {a b : Ar} (h : arEq a b = true) : a.kind = b.kind ∧ a.n = b.n := by unfold arEq at h; simpa using h
theorem arEq_f {a b : Ar} (h : arEq a b = false) : ¬ (a.kind = b.kind ∧ a.n = b.n) := fun e => by unfold arEq at h; simp [e.1, e.2] at h
section
set_option maxHeartbeats 8000000 in
theorem rSame_c (x y : In) (sx sy : Value) (w : World) :
    Calls Tryz.prog 90 #[.agg (inCells x sx).toArray, .agg (inCells y sy).toArray] w fun e w' => e = .returned (.bool (sameB x y)) ∧ Below w.heap.size w w' := by
  have b1 := below1 w (.cells #[.int .i64 x.op, .int .i64 x.bin, .int .i64 x.d, .int .i64 x.a.kind, .int .u32 x.a.n, .int .i64 x.b.kind, .int .u32 x.b.n, .int .i64 x.n, .int .i64 x.off, .int .i64 x.width, .bool x.sg, sx] TIn)
  have b2 := below1 (w.alloc (.cells #[.int .i64 x.op, .int .i64 x.bin, .int .i64 x.d, .int .i64 x.a.kind, .int .u32 x.a.n, .int .i64 x.b.kind, .int .u32 x.b.n, .int .i64 x.n, .int .i64 x.off, .int .i64 x.width, .bool x.sg, sx] TIn)) (.cells #[.int .i64 y.op, .int .i64 y.bin, .int .i64 y.d, .int .i64 y.a.kind, .int .u32 y.a.n, .int .i64 y.b.kind, .int .u32 y.b.n, .int .i64 y.n, .int .i64 y.off, .int .i64 y.width, .bool y.sg, sy] TIn)
  have N1 := blk_b (heap_r0 w (.cells #[.int .i64 x.op, .int .i64 x.bin, .int .i64 x.d, .int .i64 x.a.kind, .int .u32 x.a.n, .int .i64 x.b.kind, .int .u32 x.b.n, .int .i64 x.n, .int .i64 x.off, .int .i64 x.width, .bool x.sg, sx] TIn)) b2
  have N2 := heap_r0 (w.alloc (.cells #[.int .i64 x.op, .int .i64 x.bin, .int .i64 x.d, .int .i64 x.a.kind, .int .u32 x.a.n, .int .i64 x.b.kind, .int .u32 x.b.n, .int .i64 x.n, .int .i64 x.off, .int .i64 x.width, .bool x.sg, sx] TIn)) (.cells #[.int .i64 y.op, .int .i64 y.bin, .int .i64 y.d, .int .i64 y.a.kind, .int .u32 y.a.n, .int .i64 y.b.kind, .int .u32 y.b.n, .int .i64 y.n, .int .i64 y.off, .int .i64 y.width, .bool y.sg, sy] TIn)
  have hz : (w.alloc (.cells #[.int .i64 x.op, .int .i64 x.bin, .int .i64 x.d, .int .i64 x.a.kind, .int .u32 x.a.n, .int .i64 x.b.kind, .int .u32 x.b.n, .int .i64 x.n, .int .i64 x.off, .int .i64 x.width, .bool x.sg, sx] TIn)).heap.size = w.heap.size + 1 := by simp
  rw [hz] at N2
  obtain ⟨x0, x1, x2, x3, x4, x5, x6, x7, x8, x9, x10, x11⟩ := cells12 N1
  obtain ⟨y0, y1, y2, y3, y4, y5, y6, y7, y8, y9, y10, y11⟩ := cells12 N2
  have HB : Hid (Below w.heap.size w ((w.alloc (.cells #[.int .i64 x.op, .int .i64 x.bin, .int .i64 x.d, .int .i64 x.a.kind, .int .u32 x.a.n, .int .i64 x.b.kind, .int .u32 x.b.n, .int .i64 x.n, .int .i64 x.off, .int .i64 x.width, .bool x.sg, sx] TIn)).alloc (.cells #[.int .i64 y.op, .int .i64 y.bin, .int .i64 y.d, .int .i64 y.a.kind, .int .u32 y.a.n, .int .i64 y.b.kind, .int .u32 y.b.n, .int .i64 y.n, .int .i64 y.off, .int .i64 y.width, .bool y.sg, sy] TIn))) := b1.trans (b2.mono b1.size)
  obtain ⟨R, hR⟩ : ∃ R, R = sameB x y := ⟨_, rfl⟩
  rw [← hR]
  have HR : Hid (R = (x.op == y.op && (x.bin == y.bin && (x.d == y.d && (arEq x.a y.a && (arEq x.b y.b && (x.n == y.n && (x.off == y.off && (x.width == y.width && x.sg == y.sg))))))))) := hR
  unfold inCells
  clear b1 b2 N1 N2 hR
  go_enter Tryz.func90, Tryz.ntmps90
  go_upto_region 1 with (fail)
  refine (?_ : Code.wp _ _ _ _ ((w.alloc (.cells #[.int .i64 x.op, .int .i64 x.bin, .int .i64 x.d, .int .i64 x.a.kind, .int .u32 x.a.n, .int .i64 x.b.kind, .int .u32 x.b.n, .int .i64 x.n, .int .i64 x.off, .int .i64 x.width, .bool x.sg, sx] TIn)).alloc (.cells #[.int .i64 y.op, .int .i64 y.bin, .int .i64 y.d, .int .i64 y.a.kind, .int .u32 y.a.n, .int .i64 y.b.kind, .int .u32 y.b.n, .int .i64 y.n, .int .i64 y.off, .int .i64 y.width, .bool y.sg, sy] TIn)))
  generalize ((w.alloc (.cells #[.int .i64 x.op, .int .i64 x.bin, .int .i64 x.d, .int .i64 x.a.kind, .int .u32 x.a.n, .int .i64 x.b.kind, .int .u32 x.b.n, .int .i64 x.n, .int .i64 x.off, .int .i64 x.width, .bool x.sg, sx] TIn)).alloc (.cells #[.int .i64 y.op, .int .i64 y.bin, .int .i64 y.d, .int .i64 y.a.kind, .int .u32 y.a.n, .int .i64 y.b.kind, .int .u32 y.b.n, .int .i64 y.n, .int .i64 y.off, .int .i64 y.width, .bool y.sg, sy] TIn)) = W1 at *
  cases h0 : (x.op == y.op) with
  | false =>
    have HV : Hid (R = false) := by show R = _; rw [HR.out, h0]; rfl
    clear HR
    go_wp2
    all_goals go_ret
    all_goals exact ⟨by rw [HV.out]; rfl, HB.out⟩
  | true =>
    cases h1 : (x.bin == y.bin) with
    | false =>
      have HV : Hid (R = false) := by show R = _; rw [HR.out, h0, h1]; rfl
      clear HR
      go_wp2
      all_goals go_ret
      all_goals exact ⟨by rw [HV.out]; rfl, HB.out⟩
    | true =>
      cases h2 : (x.d == y.d) with
      | false =>
        have HV : Hid (R = false) := by show R = _; rw [HR.out, h0, h1, h2]; rfl
        clear HR
        go_wp2
        all_goals go_ret
        all_goals exact ⟨by rw [HV.out]; rfl, HB.out⟩
      | true =>
        cases h3 : (arEq x.a y.a) with
        | false =>
          have HV : Hid (R = false) := by show R = _; rw [HR.out, h0, h1, h2, h3]; rfl
          clear HR
          have g3 := arEq_f h3
          go_wp2
          all_goals go_ret
          all_goals exact ⟨by rw [HV.out]; rfl, HB.out⟩
        | true =>
          cases h4 : (arEq x.b y.b) with
          | false =>
            have HV : Hid (R = false) := by show R = _; rw [HR.out, h0, h1, h2, h3, h4]; rfl
            clear HR
            have g3 := arEq_t h3
            have g4 := arEq_f h4
            go_wp2
            all_goals go_ret
            all_goals exact ⟨by rw [HV.out]; rfl, HB.out⟩
          | true =>
            cases h5 : (x.n == y.n) with
            | false =>
              have HV : Hid (R = false) := by show R = _; rw [HR.out, h0, h1, h2, h3, h4, h5]; rfl
              clear HR
              have g3 := arEq_t h3
              have g4 := arEq_t h4
              go_wp2
              all_goals go_ret
              all_goals exact ⟨by rw [HV.out]; rfl, HB.out⟩
            | true =>
              cases h6 : (x.off == y.off) with
              | false =>
                have HV : Hid (R = false) := by show R = _; rw [HR.out, h0, h1, h2, h3, h4, h5, h6]; rfl
                clear HR
                have g3 := arEq_t h3
                have g4 := arEq_t h4
                go_wp2
                all_goals go_ret
                all_goals exact ⟨by rw [HV.out]; rfl, HB.out⟩
              | true =>
                cases h7 : (x.width == y.width) with
                | false =>
                  have HV : Hid (R = false) := by show R = _; rw [HR.out, h0, h1, h2, h3, h4, h5, h6, h7]; rfl
                  clear HR
                  have g3 := arEq_t h3
                  have g4 := arEq_t h4
                  go_wp2
                  all_goals go_ret
                  all_goals exact ⟨by rw [HV.out]; rfl, HB.out⟩
                | true =>
                  cases h8 : (x.sg == y.sg) with
                  | false =>
                    have HV : Hid (R = false) := by show R = _; rw [HR.out, h0, h1, h2, h3, h4, h5, h6, h7, h8]; rfl
                    clear HR
                    have g3 := arEq_t h3
                    have g4 := arEq_t h4
                    go_wp2
                    all_goals go_ret
                    all_goals exact ⟨by rw [HV.out]; rfl, HB.out⟩
                  | true =>
                    have HV : Hid (R = true) := by show R = _; rw [HR.out, h0, h1, h2, h3, h4, h5, h6, h7, h8]; rfl
                    clear HR
                    have g3 := arEq_t h3
                    have g4 := arEq_t h4
                    go_wp2
                    all_goals go_ret
                    all_goals exact ⟨by rw [HV.out]; rfl, HB.out⟩
end
end Go.Proofs.YtaaphipbkpjkjaaGreatDoor
