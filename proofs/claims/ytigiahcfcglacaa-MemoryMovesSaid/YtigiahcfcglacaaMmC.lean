/-
  What the map of a memory answers; what the functions given, isWidth, undefined, numberOf, byteOf, partOf answer.
-/
import Derived.Test.YtigiahcfcglacaaMmB
import Derived.Deep.QuietTactic
import Derived.BigQuiet
import Derived.LoopN
import Derived.LaidEqlPtr
namespace Go.Proofs.Ytigiahcfcglacaa
open Go.RowKit Go.Maps
set_option linter.unusedVariables false
set_option maxRecDepth 100000

abbrev TPM : TypeId := 27
abbrev TPB : TypeId := 74
abbrev TMap : TypeId := 63
def ptrX (x : Option Bx) : Value := .pointer (x.map fun x => ⟨x.bb, 0, none⟩)
theorem not_f (W : World) : (Op.unary UnOp.not (.bool false)).run Try.prog W = .ok (.bool true) W := rfl
theorem not_t (W : World) : (Op.unary UnOp.not (.bool true)).run Try.prog W = .ok (.bool false) W := rfl
theorem neq_nil (W : World) : (binOp BinOp.neq TPM (.pointer none) (.pointer none)).run Try.prog W = .ok (.bool false) W := by kernel_rfl
theorem neq_some (a : Addr) (W : World) : (binOp BinOp.neq TPM (.pointer (some a)) (.pointer none)).run Try.prog W = .ok (.bool true) W := by kernel_rfl
theorem eq_nil (W : World) : (binOp BinOp.eql TPB (.pointer none) (.pointer none)).run Try.prog W = .ok (.bool true) W := by kernel_rfl
theorem eq_some (a : Addr) (W : World) : (binOp BinOp.eql TPB (.pointer (some a)) (.pointer none)).run Try.prog W = .ok (.bool false) W := by kernel_rfl
theorem eql_nil_some (a : Addr) (W : World) : (binOp BinOp.eql TPM (.pointer none) (.pointer (some a))).run Try.prog W = .ok (.bool false) W := by kernel_rfl
theorem eql_self (b : Nat) (W : World) : (binOp BinOp.eql TPM (.pointer (some ⟨b, 0, none⟩)) (.pointer (some ⟨b, 0, none⟩))).run Try.prog W = .ok (.bool true) W := by
  obtain ⟨j, hj⟩ : ∃ j, Try.prog.info? TMm = some j := Option.isSome_iff_exists.1 (by kernel_rfl)
  exact run_eql_ptr_same W _ Try.underlying27 hj

theorem look_none {α : Type} {xs : List (Option α)} {n : Int} (h : look xs n = none) : ∀ (i : Nat) (x : α), xs[i]? = some (some x) → ¬ n = (i : Int) + 1 := by
  intro i x hx e
  unfold look at h
  rw [if_pos (by omega), show (n - 1).toNat = i by omega, hx] at h
  cases h
theorem look_some {α : Type} {xs : List (Option α)} {n : Int} {x : α} (h : look xs n = some x) : ∃ i : Nat, n = (i : Int) + 1 ∧ xs[i]? = some (some x) := by
  unfold look at h
  split at h
  · refine ⟨(n - 1).toNat, by omega, ?_⟩
    cases hh : xs[(n - 1).toNat]? with
    | none => rw [hh] at h; cases h
    | some y => rw [hh] at h; rw [show y = some x from h]
  · cases h
theorem look_at {α : Type} {xs : List (Option α)} {i : Nat} {x : α} (h : xs[i]? = some (some x)) : look xs ((i : Int) + 1) = some x := by
  unfold look
  rw [if_pos (by omega), show ((i : Int) + 1 - 1).toNat = i by omega, h]; rfl
theorem Ents.keys {es : Array MapEntry} {xs : List (Option Bx)} (h : Ents es xs) (hl : xs.length < 140737488355328) : ∀ x ∈ es.toList, ∃ l, keyOf Try.prog 3 x.key = some l := by
  intro e he
  obtain ⟨i, x, h1, h2, _⟩ := h.sound e he
  have := (List.getElem?_eq_some_iff.1 h1).1
  rw [h2]
  exact ⟨_, key_int (by omega) (by omega)⟩
theorem look_run {w : World} {mb : Nat} {es : Array MapEntry} {ck : Nat} {xs : List (Option Bx)} (hm : w.heap[mb]? = some (.map es ck)) (he : Ents es xs) (hl : xs.length < 140737488355328) (n : Int) (h1 : -9223372036854775808 ≤ n) (h2 : n < 9223372036854775808) :
    (Instr.lookup TMap (.map (some mb)) (.int .i64 n) false).run Try.prog w = .ok (ptrX (look xs n)) w := by
  have ht := Try.underlying63
  rcases keyed_int.find w (key_int h1 h2) es.toList (he.keys hl) with ⟨f1, f2⟩ | ⟨j, e0, f1, f2, f3⟩
  · have : look xs n = none := by
      cases hn : look xs n with
      | none => rfl
      | some x =>
        obtain ⟨i, rfl, hx⟩ := look_some hn
        obtain ⟨e, he1, he2⟩ := he.all i x hx
        exact absurd he2 (f2 e he1)
    rw [this]
    simp [Instr.lookup, run_underlying ht, MapKept.run_getObj_map hm, keyed_int.check w _ (key_int h1 h2), f1, Result.andThen, ptrX]
  · obtain ⟨i, x, g1, g2, g3⟩ := he.sound e0 (List.mem_of_getElem? f2)
    rw [f3] at g2
    injection g2 with _ g2
    rw [g2, look_at g1]
    rw [g2] at f1
    simp [Instr.lookup, run_underlying ht, MapKept.run_getObj_map hm, keyed_int.check w _ (key_int (a := (i : Int) + 1) (by omega) (by omega)), f1, g3, Result.andThen, ptrX]
theorem len_run {w : World} {mb : Nat} {es : Array MapEntry} {ck : Nat} (hm : w.heap[mb]? = some (.map es ck)) : (Builtin.len_ #[TMap] 3 #[.map (some mb)]).run Try.prog w = .ok (.int .i64 es.size) w := by
  simp [Builtin.len_, run_underlying Try.underlying63, MapKept.run_getObj_map hm, Result.andThen, goInt]
theorem del_run {w : World} {mb : Nat} {es : Array MapEntry} {ck : Nat} {xs : List (Option Bx)} (hm : w.heap[mb]? = some (.map es ck)) (he : Ents es xs) (hl : xs.length < 140737488355328) {i : Nat} {x : Bx} (hx : xs[i]? = some (some x)) (ty : TypeId) :
    ∃ j e0 es2, es.toList[j]? = some e0 ∧ e0.key = .int .i64 ((i : Int) + 1) ∧ es2.toList = es.toList.eraseIdx j ∧ (Builtin.delete_ #[TMap, 3] ty #[.map (some mb), .int .i64 ((i : Int) + 1)]).run Try.prog w = .ok (.tuple #[]) (ChangeMaps.setBlock w mb (.map es2 ck)) := by
  have ht := Try.underlying63
  have hil := (List.getElem?_eq_some_iff.1 hx).1
  rcases keyed_int.find w (key_int (a := (i : Int) + 1) (by omega) (by omega)) es.toList (he.keys hl) with ⟨f1, f2⟩ | ⟨j, e0, f1, f2, f3⟩
  · obtain ⟨e, he1, he2⟩ := he.all i x hx
    exact absurd he2 (f2 e he1)
  · have hjl : j < es.toList.length := (List.getElem?_eq_some_iff.1 f2).1
    have hjs : j < es.size := by simpa using hjl
    refine ⟨j, e0, es.eraseIdxIfInBounds j, f2, f3, ?_, ?_⟩
    · unfold Array.eraseIdxIfInBounds
      rw [dif_pos hjs]
      simp
    · simp [Builtin.delete_, run_underlying ht, MapKept.run_getObj_map hm, keyed_int.check w _ (key_int (a := (i : Int) + 1) (by omega) (by omega)), f1, MapKept.run_setObj_map _ hm, Result.andThen, ChangeMaps.setBlock]
theorem store_run {w : World} {mb : Nat} {es : Array MapEntry} {ck : Nat} {xs : List (Option Bx)} (hm : w.heap[mb]? = some (.map es ck)) (he : Ents es xs) (hl : xs.length < 140737488355328) (v : Value) :
    (Instr.mapUpdate TMap (.map (some mb)) (.int .i64 ((xs.length : Int) + 1)) v).run Try.prog w = .ok () (ChangeMaps.setBlock w mb (.map (es.push ⟨.int .i64 ((xs.length : Int) + 1), v, ck⟩) (ck + 1))) := by
  have ht := Try.underlying63
  rcases keyed_int.find w (key_int (a := (xs.length : Int) + 1) (by omega) (by omega)) es.toList (he.keys hl) with ⟨f1, f2⟩ | ⟨j, e0, f1, f2, f3⟩
  · simp [Instr.mapUpdate, run_underlying ht, MapKept.run_getObj_map hm, keyed_int.check w false (key_int (a := (xs.length : Int) + 1) (by omega) (by omega)), f1, MapKept.run_setObj_map _ hm, Result.andThen, ChangeMaps.setBlock]
  · obtain ⟨i, x, g1, g2, _⟩ := he.sound e0 (List.mem_of_getElem? f2)
    rw [f3] at g2
    injection g2 with _ g2
    have := (List.getElem?_eq_some_iff.1 g1).1
    omega

/-- A memory that New did not give. -/
def NoM (v : Value) (w : World) : Prop := v = .pointer none ∨ ∃ b, v = .pointer (some ⟨b, 0, none⟩) ∧ w.cell? ⟨b, 0, none⟩ = some (.pointer none)
theorem given_no {v : Value} {w : World} (h : NoM v w) :
    Calls Try.prog 30 #[v] w fun e w' => e = .returned (.bool false) ∧ w' = w := by
  have h0 := neq_nil
  have h1 := neq_some
  have h2 := eql_nil_some
  rcases h with rfl | ⟨b, rfl, hb⟩
  · go_enter Try.func30, Try.ntmps30
    go_wp2
    go_ret
    exact ⟨rfl, rfl⟩
  · go_enter Try.func30, Try.ntmps30
    go_wp2
    go_ret
    exact ⟨rfl, rfl⟩
theorem given_c {b : Nat} {w : World} (h : w.cell? ⟨b, 0, none⟩ = some (.pointer (some ⟨b, 0, none⟩))) :
    Calls Try.prog 30 #[.pointer (some ⟨b, 0, none⟩)] w fun e w' => e = .returned (.bool true) ∧ w' = w := by
  have h1 := neq_some
  have h2 := eql_self
  go_enter Try.func30, Try.ntmps30
  go_wp2
  go_ret
  exact ⟨rfl, rfl⟩
theorem bool_ret {x y : Bool} (h : x = y) : Ending.returned (.bool x) = .returned (.bool y) := by rw [h]
def isW (n : Int) : Bool := decide (n = 1 ∨ n = 2 ∨ n = 4)
theorem isWidth_c (n : Int) (w : World) : Calls Try.prog 58 #[.int .i64 n] w fun e w' => e = .returned (.bool (isW n)) ∧ w' = w := by
  go_enter Try.func58, Try.ntmps58
  go_wp2
  all_goals go_ret
  all_goals refine ⟨bool_ret ?_, rfl⟩
  all_goals (rw [Bool.eq_iff_iff]; simp [isW]; try omega)
def vlA (p : Vl) : Value := .agg (vlV p).toArray
def clA (c : Cl) : Value := .agg (clV c).toArray
def vlZ : Vl := ⟨0, 0, 0⟩
theorem undefined_c (w : World) : Calls Try.prog 24 #[] w fun e w' => e = .returned (.tuple #[.agg #[.int .i64 0, .int .u32 0, .int .i64 0], .int .i64 3]) ∧ Below w.heap.size w w' := by
  have hb : ∀ W : World, (Instr.build TV #[]).run Try.prog W = .ok (.agg #[.int .i64 0, .int .u32 0, .int .i64 0]) W := fun W => by kernel_rfl
  go_enter Try.func24, Try.ntmps24
  go_wp2
  exact bodyPost_ret (v := .tuple #[.agg #[.int .i64 0, .int .u32 0, .int .i64 0], .int .i64 3]) (by simp [results, Try.results24, go_sem]) rfl ⟨rfl, (by repeat (first | exact Below.refl _ _ | refine Below.setCell ?_ (by simp) _ | refine Below.alloc ?_ (by simp) _))⟩
theorem numberOf_c (v : Int) (w : World) : Calls Try.prog 53 #[.int .u32 v] w fun e w' => e = .returned (.agg #[.int .i64 1, .int .u32 v, .int .i64 0]) ∧ Below w.heap.size w w' := by
  have hb : ∀ W : World, (Instr.build TV #[(0, .int .i64 1), (1, .int .u32 v)]).run Try.prog W = .ok (.agg #[.int .i64 1, .int .u32 v, .int .i64 0]) W := fun W => by kernel_rfl
  go_enter Try.func53, Try.ntmps53
  go_wp2
  exact bodyPost_ret (v := .agg #[.int .i64 1, .int .u32 v, .int .i64 0]) (by simp [results, Try.results53, go_sem]) rfl ⟨rfl, (by repeat (first | exact Below.refl _ _ | refine Below.setCell ?_ (by simp) _ | refine Below.alloc ?_ (by simp) _))⟩
theorem byteOf_c (v : Int) (w : World) (h0 : 0 ≤ v) (h1 : v < 256) : Calls Try.prog 64 #[.int .u8 v] w fun e w' => e = .returned (.agg #[.int .i64 1, .int .u32 v, .int .i64 0, .int .i64 0]) ∧ Below w.heap.size w w' := by
  have hb : ∀ W : World, (Instr.build TC #[(0, .int .i64 1), (1, .int .u32 v)]).run Try.prog W = .ok (.agg #[.int .i64 1, .int .u32 v, .int .i64 0, .int .i64 0]) W := fun W => by kernel_rfl
  go_enter Try.func64, Try.ntmps64
  go_wp2
  exact bodyPost_ret (v := .agg #[.int .i64 1, .int .u32 v, .int .i64 0, .int .i64 0]) (by simp [results, Try.results64, go_sem]) rfl ⟨rfl, (by repeat (first | exact Below.refl _ _ | refine Below.setCell ?_ (by simp) _ | refine Below.alloc ?_ (by simp) _))⟩
theorem partOf_c (p : Vl) (i : Int) (w : World) : Calls Try.prog 71 #[.agg #[.int .i64 p.kind, .int .u32 p.v, .int .i64 p.block], .int .i64 i] w fun e w' => e = .returned (.agg #[.int .i64 2, .int .u32 p.v, .int .i64 p.block, .int .i64 i]) ∧ Below w.heap.size w w' := by
  have hb : ∀ W : World, (Instr.build TC #[(0, .int .i64 2), (1, .int .u32 p.v), (2, .int .i64 p.block), (3, .int .i64 i)]).run Try.prog W = .ok (.agg #[.int .i64 2, .int .u32 p.v, .int .i64 p.block, .int .i64 i]) W := fun W => by kernel_rfl
  go_enter Try.func71, Try.ntmps71
  go_wp2
  exact bodyPost_ret (v := .agg #[.int .i64 2, .int .u32 p.v, .int .i64 p.block, .int .i64 i]) (by simp [results, Try.results71, go_sem]) rfl ⟨rfl, (by repeat (first | exact Below.refl _ _ | refine Below.setCell ?_ (by simp) _ | refine Below.alloc ?_ (by simp) _))⟩
end Go.Proofs.Ytigiahcfcglacaa
