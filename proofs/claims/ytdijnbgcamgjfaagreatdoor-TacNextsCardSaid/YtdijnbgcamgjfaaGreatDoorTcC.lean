/-
  The given answer's same: are two instructions the same but for their operands' rows?
-/
import Derived.Test.YtdijnbgcamgjfaaGreatDoorKL
namespace Go.Proofs.YtdijnbgcamgjfaaGreatDoor
open Go.RowKit Go.Maps
set_option linter.unusedVariables false
set_option maxRecDepth 100000
def arEq (a b : Ar) : Bool := a.kind == b.kind && a.n == b.n
def sameB (x y : In) : Bool := (x.op == y.op && (x.bin == y.bin && (x.d == y.d && (arEq x.a y.a && (arEq x.b y.b && (x.n == y.n && (x.off == y.off && (x.width == y.width && x.sg == y.sg))))))))
theorem arEq_t {a b : Ar} (h : arEq a b = true) : a.kind = b.kind ∧ a.n = b.n := by unfold arEq at h; simpa using h
theorem arEq_f {a b : Ar} (h : arEq a b = false) : ¬ (a.kind = b.kind ∧ a.n = b.n) := fun e => by unfold arEq at h; simp [e.1, e.2] at h
section
set_option maxHeartbeats 8000000 in
theorem rSame_c (x y : In) (sx sy : Value) (w : World) :
    Calls Tryz.prog 90 #[.agg (inCells x sx).toArray, .agg (inCells y sy).toArray] w fun e w' => e = .returned (.bool (sameB x y)) ∧ Below w.heap.size w w' := by
  have b1 := below1 w (.cells #[.int .i64 x.op, .int .i64 x.bin, .int .i64 x.d, .int .i64 x.a.kind, .int .u32 x.a.n, .int .i64 x.b.kind, .int .u32 x.b.n, .int .i64 x.n, .int .i64 x.off, .int .i64 x.width, .bool x.sg, sx] TIn)
  have b2 := below1 (w.alloc (.cells #[.int .i64 x.op, .int .i64 x.bin, .int .i64 x.d, .int .i64 x.a.kind, .int .u32 x.a.n, .int .i64 x.b.kind, .int .u32 x.b.n, .int .i64 x.n, .int .i64 x.off, .int .i64 x.width, .bool x.sg, sx] TIn)) (.cells #[.int .i64 y.op, .int .i64 y.bin, .int .i64 y.d, .int .i64 y.a.kind, .int .u32 y.a.n, .int .i64 y.b.kind, .int .u32 y.b.n, .int .i64 y.n, .int .i64 y.off, .int .i64 y.width, .bool y.sg, sy] TIn)
  have N1 := blk_b (heap_r0 w (.cells #[.int .i64 x.op, .int .i64 x.bin, .int .i64 x.d, .int .i64 x.a.kind, .int .u32 x.a.n, .int .i64 x.b.kind, .int .u32 x.b.n, .int .i64 x.n, .int .i64 x.off, .int .i64 x.width, .bool x.sg, sx] TIn)) b2
  have N2 := heap_r0 (w.alloc (.cells #[.int .i64 x.op, .int .i64 x.bin, .int .i64 x.d, .int .i64 x.a.kind, .int .u32 x.a.n, .int .i64 x.b.kind, .int .u32 x.b.n, .int .i64 x.n, .int .i64 x.off, .int .i64 x.width, .bool x.sg, sx] TIn)) (.cells #[.int .i64 y.op, .int .i64 y.bin, .int .i64 y.d, .int .i64 y.a.kind, .int .u32 y.a.n, .int .i64 y.b.kind, .int .u32 y.b.n, .int .i64 y.n, .int .i64 y.off, .int .i64 y.width, .bool y.sg, sy] TIn)
  have hz : (w.alloc (.cells #[.int .i64 x.op, .int .i64 x.bin, .int .i64 x.d, .int .i64 x.a.kind, .int .u32 x.a.n, .int .i64 x.b.kind, .int .u32 x.b.n, .int .i64 x.n, .int .i64 x.off, .int .i64 x.width, .bool x.sg, sx] TIn)).heap.size = w.heap.size + 1 := by simp
  rw [hz] at N2
  obtain ⟨x0, x1, x2, x3, x4, x5, x6, x7, x8, x9, x10, x11⟩ := cells12 N1
  obtain ⟨y0, y1, y2, y3, y4, y5, y6, y7, y8, y9, y10, y11⟩ := cells12 N2
  have HB : Hid (Below w.heap.size w ((w.alloc (.cells #[.int .i64 x.op, .int .i64 x.bin, .int .i64 x.d, .int .i64 x.a.kind, .int .u32 x.a.n, .int .i64 x.b.kind, .int .u32 x.b.n, .int .i64 x.n, .int .i64 x.off, .int .i64 x.width, .bool x.sg, sx] TIn)).alloc (.cells #[.int .i64 y.op, .int .i64 y.bin, .int .i64 y.d, .int .i64 y.a.kind, .int .u32 y.a.n, .int .i64 y.b.kind, .int .u32 y.b.n, .int .i64 y.n, .int .i64 y.off, .int .i64 y.width, .bool y.sg, sy] TIn))) := b1.trans (b2.mono b1.size)
  obtain ⟨R, hR⟩ : ∃ R, R = sameB x y := ⟨_, rfl⟩
  rw [← hR]
  have HR : Hid (R = (x.op == y.op && (x.bin == y.bin && (x.d == y.d && (arEq x.a y.a && (arEq x.b y.b && (x.n == y.n && (x.off == y.off && (x.width == y.width && x.sg == y.sg))))))))) := hR
  unfold inCells
  clear b1 b2 N1 N2 hR
  go_enter Tryz.func90, Tryz.ntmps90
  go_upto_region 1 with (fail)
  refine (?_ : Code.wp _ _ _ _ ((w.alloc (.cells #[.int .i64 x.op, .int .i64 x.bin, .int .i64 x.d, .int .i64 x.a.kind, .int .u32 x.a.n, .int .i64 x.b.kind, .int .u32 x.b.n, .int .i64 x.n, .int .i64 x.off, .int .i64 x.width, .bool x.sg, sx] TIn)).alloc (.cells #[.int .i64 y.op, .int .i64 y.bin, .int .i64 y.d, .int .i64 y.a.kind, .int .u32 y.a.n, .int .i64 y.b.kind, .int .u32 y.b.n, .int .i64 y.n, .int .i64 y.off, .int .i64 y.width, .bool y.sg, sy] TIn)))
  generalize ((w.alloc (.cells #[.int .i64 x.op, .int .i64 x.bin, .int .i64 x.d, .int .i64 x.a.kind, .int .u32 x.a.n, .int .i64 x.b.kind, .int .u32 x.b.n, .int .i64 x.n, .int .i64 x.off, .int .i64 x.width, .bool x.sg, sx] TIn)).alloc (.cells #[.int .i64 y.op, .int .i64 y.bin, .int .i64 y.d, .int .i64 y.a.kind, .int .u32 y.a.n, .int .i64 y.b.kind, .int .u32 y.b.n, .int .i64 y.n, .int .i64 y.off, .int .i64 y.width, .bool y.sg, sy] TIn)) = W1 at *
  cases h0 : (x.op == y.op) with
  | false =>
    have HV : Hid (R = false) := by show R = _; rw [HR.out, h0]; rfl
    clear HR
    go_wp2
    all_goals go_ret
    all_goals exact ⟨by rw [HV.out]; rfl, HB.out⟩
  | true =>
    cases h1 : (x.bin == y.bin) with
    | false =>
      have HV : Hid (R = false) := by show R = _; rw [HR.out, h0, h1]; rfl
      clear HR
      go_wp2
      all_goals go_ret
      all_goals exact ⟨by rw [HV.out]; rfl, HB.out⟩
    | true =>
      cases h2 : (x.d == y.d) with
      | false =>
        have HV : Hid (R = false) := by show R = _; rw [HR.out, h0, h1, h2]; rfl
        clear HR
        go_wp2
        all_goals go_ret
        all_goals exact ⟨by rw [HV.out]; rfl, HB.out⟩
      | true =>
        cases h3 : (arEq x.a y.a) with
        | false =>
          have HV : Hid (R = false) := by show R = _; rw [HR.out, h0, h1, h2, h3]; rfl
          clear HR
          have g3 := arEq_f h3
          go_wp2
          all_goals go_ret
          all_goals exact ⟨by rw [HV.out]; rfl, HB.out⟩
        | true =>
          cases h4 : (arEq x.b y.b) with
          | false =>
            have HV : Hid (R = false) := by show R = _; rw [HR.out, h0, h1, h2, h3, h4]; rfl
            clear HR
            have g3 := arEq_t h3
            have g4 := arEq_f h4
            go_wp2
            all_goals go_ret
            all_goals exact ⟨by rw [HV.out]; rfl, HB.out⟩
          | true =>
            cases h5 : (x.n == y.n) with
            | false =>
              have HV : Hid (R = false) := by show R = _; rw [HR.out, h0, h1, h2, h3, h4, h5]; rfl
              clear HR
              have g3 := arEq_t h3
              have g4 := arEq_t h4
              go_wp2
              all_goals go_ret
              all_goals exact ⟨by rw [HV.out]; rfl, HB.out⟩
            | true =>
              cases h6 : (x.off == y.off) with
              | false =>
                have HV : Hid (R = false) := by show R = _; rw [HR.out, h0, h1, h2, h3, h4, h5, h6]; rfl
                clear HR
                have g3 := arEq_t h3
                have g4 := arEq_t h4
                go_wp2
                all_goals go_ret
                all_goals exact ⟨by rw [HV.out]; rfl, HB.out⟩
              | true =>
                cases h7 : (x.width == y.width) with
                | false =>
                  have HV : Hid (R = false) := by show R = _; rw [HR.out, h0, h1, h2, h3, h4, h5, h6, h7]; rfl
                  clear HR
                  have g3 := arEq_t h3
                  have g4 := arEq_t h4
                  go_wp2
                  all_goals go_ret
                  all_goals exact ⟨by rw [HV.out]; rfl, HB.out⟩
                | true =>
                  cases h8 : (x.sg == y.sg) with
                  | false =>
                    have HV : Hid (R = false) := by show R = _; rw [HR.out, h0, h1, h2, h3, h4, h5, h6, h7, h8]; rfl
                    clear HR
                    have g3 := arEq_t h3
                    have g4 := arEq_t h4
                    go_wp2
                    all_goals go_ret
                    all_goals exact ⟨by rw [HV.out]; rfl, HB.out⟩
                  | true =>
                    have HV : Hid (R = true) := by show R = _; rw [HR.out, h0, h1, h2, h3, h4, h5, h6, h7, h8]; rfl
                    clear HR
                    have g3 := arEq_t h3
                    have g4 := arEq_t h4
                    go_wp2
                    all_goals go_ret
                    all_goals exact ⟨by rw [HV.out]; rfl, HB.out⟩
end
end Go.Proofs.YtdijnbgcamgjfaaGreatDoor
