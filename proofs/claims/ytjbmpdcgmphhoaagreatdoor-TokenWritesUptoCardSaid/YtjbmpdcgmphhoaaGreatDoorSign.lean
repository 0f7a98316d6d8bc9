/-
  What package token's sign answers: the longest sign with which a text begins.
-/
import Derived.Test.YtjbmpdcgmphhoaaGreatDoorWord
import Derived.Deep.WholeRow
namespace Go.Proofs.YtjbmpdcgmphhoaaGreatDoor
open Go.RowKit
set_option linter.unusedVariables false

def signs : List (List UInt8) := [[60, 60, 61], [62, 62, 61], [45, 62], [43, 43], [45, 45], [60, 60], [62, 62], [60, 61], [62, 61], [61, 61], [33, 61], [38, 38], [124, 124], [42, 61], [47, 61], [37, 61], [43, 61], [45, 61], [38, 61], [94, 61], [124, 61], [91], [93], [40], [41], [123], [125], [46], [38], [42], [43], [45], [126], [33], [47], [37], [60], [62], [94], [124], [63], [58], [59], [61], [44]]
def signOf (l : List UInt8) : List UInt8 := (signs.find? fun x => Lib.hasPrefix l x).getD []
def signCells : Array Value := (signs.map fun x => Value.string ⟨x.toArray⟩).toArray
def noCells : Array Value := Array.replicate 45 (.string ⟨#[]⟩)

theorem step_value {P : Program} {o : Oper} {a a' : Act} {w w' : World} {K : Act → World → Prop} {Q : Exit → Act → World → Prop} (v : Value)
    (h : (execOp a.eval o).run P w = .ok (.value v) w') (ha : a.put o.dst v = a') (k : K a' w') : o.wp P a w K Q := by
  unfold Oper.wp; rw [h, Oper.upon_value, ha]; exact k
theorem step_skip {P : Program} {o : Oper} {a a' : Act} {w w' : World} {K : Act → World → Prop} {Q : Exit → Act → World → Prop}
    (h : (execOp a.eval o).run P w = .ok .skip w') (ha : a.put o.dst undef = a') (k : K a' w') : o.wp P a w K Q := by
  unfold Oper.wp; rw [h, Oper.upon_skip, ha]; exact k

set_option maxRecDepth 100000 in
theorem sign_build {x0 x1 x2 x3 x4 x5 x6 x7 x8 x9 x10 x11 x12 x13 x14 x15 : Value} {ty : TypeId} {pos : String} {af : Array Edge} {gd : Option (Nat × Bool)} {w : World} {K : Act → World → Prop} {Q : Exit → Act → World → Prop} {parts : Array (Nat × Operand)}
    (h : (execOp (Act.eval ⟨#[x0, x1, x2, x3, x4, x5, x6, x7, x8, x9, x10, x11, x12, x13, x14, x15], []⟩) { dst := some 6, op := Op.build 95 parts, type := ty, pos := pos, after := af, guard := gd }).run Tryz.prog w = .ok (.value (.agg signCells)) w) (k : K ⟨#[x0, x1, x2, x3, x4, x5, .agg signCells, x7, x8, x9, x10, x11, x12, x13, x14, x15], []⟩ w) :
    Oper.wp Tryz.prog { dst := some 6, op := Op.build 95 parts, type := ty, pos := pos, after := af, guard := gd } ⟨#[x0, x1, x2, x3, x4, x5, x6, x7, x8, x9, x10, x11, x12, x13, x14, x15], []⟩ w K Q :=
  step_value (.agg signCells) h (by kernel_rfl) k
set_option maxRecDepth 100000 in
theorem sign_alloc {x0 x1 x2 x3 x4 x5 x6 x7 x8 x9 x10 x11 x12 x13 x14 x15 : Value} {ty : TypeId} {pos : String} {af : Array Edge} {gd : Option (Nat × Bool)} {w : World} {K : Act → World → Prop} {Q : Exit → Act → World → Prop} (k : K ⟨#[x0, x1, x2, .pointer (some ⟨w.heap.size, 0, none⟩), x4, x5, x6, x7, x8, x9, x10, x11, x12, x13, x14, x15], []⟩ (w.alloc (.cells noCells 95))) :
    Oper.wp Tryz.prog { dst := some 3, op := Op.alloc 95, type := ty, pos := pos, after := af, guard := gd } ⟨#[x0, x1, x2, x3, x4, x5, x6, x7, x8, x9, x10, x11, x12, x13, x14, x15], []⟩ w K Q :=
  step_value (.pointer (some ⟨w.heap.size, 0, none⟩)) (by kernel_rfl) (by kernel_rfl) k
set_option maxRecDepth 100000 in
theorem sign_store {x0 x1 x2 x4 x5 x7 x8 x9 x10 x11 x12 x13 x14 x15 : Value} {ty : TypeId} {pos : String} {af : Array Edge} {gd : Option (Nat × Bool)} {w : World} {K : Act → World → Prop} {Q : Exit → Act → World → Prop} (k : K ⟨#[x0, x1, x2, .pointer (some ⟨w.heap.size, 0, none⟩), x4, x5, .agg signCells, x7, x8, x9, x10, x11, x12, x13, x14, x15], []⟩ (w.alloc (.cells signCells 95))) :
    Oper.wp Tryz.prog { dst := none, op := Op.store 95 (.tmp 3) (.tmp 6), type := ty, pos := pos, after := af, guard := gd } ⟨#[x0, x1, x2, .pointer (some ⟨w.heap.size, 0, none⟩), x4, x5, .agg signCells, x7, x8, x9, x10, x11, x12, x13, x14, x15], []⟩ (w.alloc (.cells noCells 95)) K Q := by
  have h := run_storeAt_new (P := Tryz.prog) w 95 noCells signCells (by kernel_rfl) (by kernel_rfl) (by kernel_rfl)
  refine step_skip (w' := w.alloc (.cells signCells 95)) ?_ (by kernel_rfl) k
  show ((do let _ ← Instr.storeAt 95 (.pointer (some ⟨w.heap.size, 0, none⟩)) (.agg signCells); pure Next.skip : Sem Next)).run Tryz.prog _ = _
  simp only [Sem.run_bind, h, Result.andThen, Sem.run_pure]
set_option maxRecDepth 100000 in
theorem sign_load {x0 x1 x2 x4 x5 x6 x7 x8 x9 x10 x11 x12 x13 x14 x15 : Value} {ty : TypeId} {pos : String} {af : Array Edge} {gd : Option (Nat × Bool)} {w : World} {K : Act → World → Prop} {Q : Exit → Act → World → Prop} (k : K ⟨#[x0, x1, x2, .pointer (some ⟨w.heap.size, 0, none⟩), x4, x5, x6, .agg signCells, x8, x9, x10, x11, x12, x13, x14, x15], []⟩ (w.alloc (.cells signCells 95))) :
    Oper.wp Tryz.prog { dst := some 7, op := Op.load 95 (.tmp 3), type := ty, pos := pos, after := af, guard := gd } ⟨#[x0, x1, x2, .pointer (some ⟨w.heap.size, 0, none⟩), x4, x5, x6, x7, x8, x9, x10, x11, x12, x13, x14, x15], []⟩ (w.alloc (.cells signCells 95)) K Q := by
  have h := run_loadAt_new (P := Tryz.prog) w 95 signCells 45 9 (by kernel_rfl) (by kernel_rfl)
  refine step_value (.agg signCells) (w' := w.alloc (.cells signCells 95)) ?_ (by kernel_rfl) k
  show ((do let x ← Instr.loadAt 95 (.pointer (some ⟨w.heap.size, 0, none⟩)); pure (Next.value x) : Sem Next)).run Tryz.prog _ = _
  simp only [Sem.run_bind, h, Result.andThen, Sem.run_pure]

theorem index_at : ∀ (k : Nat) (h : k < 45) (w : World), (Instr.index 95 (.agg signCells) (.int .i64 k)).run Tryz.prog w = .ok (.string ⟨(signs.getD k []).toArray⟩) w
  | 0, _, _ => by kernel_rfl
  | 1, _, _ => by kernel_rfl
  | 2, _, _ => by kernel_rfl
  | 3, _, _ => by kernel_rfl
  | 4, _, _ => by kernel_rfl
  | 5, _, _ => by kernel_rfl
  | 6, _, _ => by kernel_rfl
  | 7, _, _ => by kernel_rfl
  | 8, _, _ => by kernel_rfl
  | 9, _, _ => by kernel_rfl
  | 10, _, _ => by kernel_rfl
  | 11, _, _ => by kernel_rfl
  | 12, _, _ => by kernel_rfl
  | 13, _, _ => by kernel_rfl
  | 14, _, _ => by kernel_rfl
  | 15, _, _ => by kernel_rfl
  | 16, _, _ => by kernel_rfl
  | 17, _, _ => by kernel_rfl
  | 18, _, _ => by kernel_rfl
  | 19, _, _ => by kernel_rfl
  | 20, _, _ => by kernel_rfl
  | 21, _, _ => by kernel_rfl
  | 22, _, _ => by kernel_rfl
  | 23, _, _ => by kernel_rfl
  | 24, _, _ => by kernel_rfl
  | 25, _, _ => by kernel_rfl
  | 26, _, _ => by kernel_rfl
  | 27, _, _ => by kernel_rfl
  | 28, _, _ => by kernel_rfl
  | 29, _, _ => by kernel_rfl
  | 30, _, _ => by kernel_rfl
  | 31, _, _ => by kernel_rfl
  | 32, _, _ => by kernel_rfl
  | 33, _, _ => by kernel_rfl
  | 34, _, _ => by kernel_rfl
  | 35, _, _ => by kernel_rfl
  | 36, _, _ => by kernel_rfl
  | 37, _, _ => by kernel_rfl
  | 38, _, _ => by kernel_rfl
  | 39, _, _ => by kernel_rfl
  | 40, _, _ => by kernel_rfl
  | 41, _, _ => by kernel_rfl
  | 42, _, _ => by kernel_rfl
  | 43, _, _ => by kernel_rfl
  | 44, _, _ => by kernel_rfl
  | n + 45, h, _ => absurd h (by omega)

set_option maxRecDepth 100000 in
theorem sign_index (j : Nat) (hj : j < 45) {x0 x1 x2 x3 x4 x5 x6 x9 x10 x11 x12 x13 x14 x15 : Value} {ty : TypeId} {pos : String} {af : Array Edge} {gd : Option (Nat × Bool)} {w : World} {K : Act → World → Prop} {Q : Exit → Act → World → Prop} (k : K ⟨#[x0, x1, x2, x3, x4, x5, x6, .agg signCells, .int .i64 j, x9, .string ⟨(signs.getD j []).toArray⟩, x11, x12, x13, x14, x15], []⟩ w) :
    Oper.wp Tryz.prog { dst := some 10, op := Op.index 95 (.tmp 7) (.tmp 8), type := ty, pos := pos, after := af, guard := gd } ⟨#[x0, x1, x2, x3, x4, x5, x6, .agg signCells, .int .i64 j, x9, x10, x11, x12, x13, x14, x15], []⟩ w K Q := by
  refine step_value (.string ⟨(signs.getD j []).toArray⟩) (w' := w) ?_ (by kernel_rfl) k
  show ((do let x ← Instr.index 95 (.agg signCells) (.int .i64 j); pure (Next.value x) : Sem Next)).run Tryz.prog _ = _
  simp only [Sem.run_bind, index_at j hj w, Result.andThen, Sem.run_pure]

def signFrom (l : List UInt8) (k : Nat) : List UInt8 := ((signs.drop k).find? fun x => Lib.hasPrefix l x).getD []
theorem signFrom_step (l : List UInt8) (k : Nat) (h : k < 45) : signFrom l k = if Lib.hasPrefix l (signs.getD k []) then signs.getD k [] else signFrom l (k + 1) := by
  have hl : k < signs.length := h
  unfold signFrom
  rw [List.drop_eq_getElem_cons hl, List.find?_cons]
  have hg : signs.getD k [] = signs[k] := by simp [List.getD, hl]
  rw [hg]
  cases Lib.hasPrefix l signs[k] <;> simp

theorem str_ret {x y : List UInt8} (h : x = y) : Ending.returned (.string ⟨x.toArray⟩) = .returned (.string ⟨y.toArray⟩) := by rw [h]

set_option maxRecDepth 100000 in
set_option maxHeartbeats 2000000 in
theorem sign_c (s : ByteArray) (w : World) :
    Calls Tryz.prog 42 #[.string s] w fun e w' => e = .returned (.string ⟨(signOf s.data.toList).toArray⟩) ∧ Below w.heap.size w w' := by
  go_enter Tryz.func42, Tryz.ntmps42
  iterate 12 go_step
  refine sign_build (by kernel_rfl) ?_
  iterate 2 go_step
  refine sign_alloc ?_
  iterate 2 go_step
  refine sign_store ?_
  iterate 8 go_step
  refine sign_load ?_
  go_wp2
  go_loop [8] (fun i => ∃ k : Nat, i = .int .i64 k ∧ k ≤ 45 ∧ Hid (signOf s.data.toList = signFrom s.data.toList k)) (fun i => 45 - (intOf i).toNat)
  case atStart => exact ⟨0, rfl, Nat.zero_le _, rfl⟩
  case round =>
    obtain ⟨k, rfl, hk, hR⟩ := hrel
    have HB : Hid (Below w.heap.size w (w.alloc (.cells signCells 95))) := (Below.refl _ w).alloc (Nat.le_refl _) _
    by_cases hlt : k < 45
    · have HS : Hid _ := signFrom_step s.data.toList k hlt
      have hp := fun W => Tryz.strings_HasPrefix s ⟨(signs.getD k []).toArray⟩ W
      rcases hP : Lib.hasPrefix s.data.toList (signs.getD k []) with _ | _
      · have hp' : ∀ W, Calls Tryz.prog 31 #[.string s, .string ⟨(signs.getD k []).toArray⟩] W fun e w' => e = .returned (.bool false) ∧ w' = W := by
          intro W; have := hp W; simp only [hP] at this; exact this
        clear hp
        iterate 19 go_step
        refine sign_index k hlt ?_
        go_wp2_with (go_at_call 31; refine (hp' _).mono ?_; rintro e w' ⟨rfl, rfl⟩)
        refine ⟨⟨k + 1, by go_num, by omega, ?_⟩, by simp [intOf]; omega⟩
        have h1 := hR.out; rw [HS.out, hP] at h1; exact h1
      · have hp' : ∀ W, Calls Tryz.prog 31 #[.string s, .string ⟨(signs.getD k []).toArray⟩] W fun e w' => e = .returned (.bool true) ∧ w' = W := by
          intro W; have := hp W; simp only [hP] at this; exact this
        clear hp
        iterate 19 go_step
        refine sign_index k hlt ?_
        go_wp2_with (go_at_call 31; refine (hp' _).mono ?_; rintro e w' ⟨rfl, rfl⟩)
        go_ret
        refine ⟨str_ret ?_, HB.out⟩
        have h1 := hR.out; rw [HS.out, hP, if_pos rfl] at h1; rw [h1]; rfl
    · go_wp2
      go_ret
      refine ⟨str_ret ?_, HB.out⟩
      have hk45 : k = 45 := by omega
      subst hk45
      exact hR.out.symm
end Go.Proofs.YtjbmpdcgmphhoaaGreatDoor
