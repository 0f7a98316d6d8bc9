/-
  The law's own function nobody: a table that no call made refuses all.
-/
import Derived.Test.YthmcmnaooodcdaaDoorEqual0
namespace Go.Proofs.YthmcmnaooodcdaaDoor
open Go.RowKit
set_option linter.unusedVariables false
set_option maxRecDepth 100000

set_option maxHeartbeats 4000000 in
theorem nobody_c {v : Value} {w : World} (h : NoT v w) (id : Int) (s : ByteArray) (l : Value) :
    Calls Tryd.prog 21 #[v, .int .i64 id, .string s, l] w fun e w' => e = .returned (.bool true) ∧ Below w.heap.size w w' := by
  have h0 := not_f
  have h1 := not_t
  have cB := fun W (hW : NoT v W) => basic_no hW 8
  have cE := fun W (hW : NoT v W) => enum_no hW s
  have cP := fun W (hW : NoT v W) => ptr_no hW id
  have cA := fun W (hW : NoT v W) => array_no hW id 3
  have cS := fun W (hW : NoT v W) => struct_no hW s
  have cU := fun W (hW : NoT v W) => union_no hW s
  have cD := fun W (hW : NoT v W) => declare_no hW id s
  have cR := fun W (hW : NoT v W) => row_no hW id
  go_enter Tryd.func21, Tryd.ntmps21
  go_wp2_with (first
    | (go_at_call 22; refine (cB _ (by first | exact h | exact noT_below h ((Below.refl _ _).alloc (Nat.le_refl _) _))).mono ?_; rintro e w' ⟨rfl, rfl⟩)
    | (go_at_call 24; refine (cE _ (by first | exact h | exact noT_below h ((Below.refl _ _).alloc (Nat.le_refl _) _))).mono ?_; rintro e w' ⟨rfl, rfl⟩)
    | (go_at_call 19; refine (cP _ (by first | exact h | exact noT_below h ((Below.refl _ _).alloc (Nat.le_refl _) _))).mono ?_; rintro e w' ⟨rfl, rfl⟩)
    | (go_at_call 20; refine (cA _ (by first | exact h | exact noT_below h ((Below.refl _ _).alloc (Nat.le_refl _) _))).mono ?_; rintro e w' ⟨rfl, rfl⟩)
    | (go_at_call 28; refine (cS _ (by first | exact h | exact noT_below h ((Below.refl _ _).alloc (Nat.le_refl _) _))).mono ?_; rintro e w' ⟨rfl, rfl⟩)
    | (go_at_call 29; refine (cU _ (by first | exact h | exact noT_below h ((Below.refl _ _).alloc (Nat.le_refl _) _))).mono ?_; rintro e w' ⟨rfl, rfl⟩)
    | (go_at_call 37; refine (cD _ (by first | exact h | exact noT_below h ((Below.refl _ _).alloc (Nat.le_refl _) _))).mono ?_; rintro e w' ⟨rfl, rfl⟩)
    | fail)
  refine (cR _ h).mono ?_
  rintro e w1 ⟨rfl, hb1⟩
  have h2 := noT_below h hb1
  have HB : Hid (Below _ _ w1) := hb1
  clear cB cE cP cA cS cU cD cR hb1
  have hbz : ∀ W : World, (Instr.build 47 #[]).run Tryd.prog W = .ok (.agg #[.int .i64 0, .int .i64 0, .int .i64 0, .string ⟨#[]⟩, .slice none 0 0, .bool false]) W := fun W => by kernel_rfl
  have heq : ∀ W : World, (binOp BinOp.eql 24 (.pointer none) (.pointer none)).run Tryd.prog W = .ok (.bool true) W := fun W => by kernel_rfl
  unfold zeroRow
  have hold := heap_r0 w1 (.cells #[.int .i64 0, .int .i64 0, .int .i64 0, .string ⟨#[]⟩, .slice none 0 0, .bool false] 47)
  go_wp2_with ((with_reducible apply step_store hold); rfl; rfl; kernel_rfl; rfl; kernel_rfl)
  have hb2 := below_setRow ((Below.refl _ w1).alloc (Nat.le_refl _) (.cells #[.int .i64 0, .int .i64 0, .int .i64 0, .string ⟨#[]⟩, .slice none 0 0, .bool false] 47)) (Nat.le_refl _) #[.int .i64 0, .int .i64 0, .int .i64 0, .string ⟨#[]⟩, .slice none 0 0, .bool false]
  have e1 := setRow_heap _ _ _ #[.int .i64 0, .int .i64 0, .int .i64 0, .string ⟨#[]⟩, .slice none 0 0, .bool false] _ _ hold
  clear hold
  generalize (w1.alloc (.cells #[.int .i64 0, .int .i64 0, .int .i64 0, .string ⟨#[]⟩, .slice none 0 0, .bool false] 47)).setRow w1.heap.size #[.int .i64 0, .int .i64 0, .int .i64 0, .string ⟨#[]⟩, .slice none 0 0, .bool false] = W at *
  have h3 := noT_below h2 hb2
  have HB2 : Hid (Below _ _ W) := hb2
  clear hb2
  have a0 : W.cell? ⟨w1.heap.size, 0, none⟩ = some (.int .i64 0) := by rw [Lib.cell_of_heap e1]; rfl
  have a1 : W.cell? ⟨w1.heap.size, 1, none⟩ = some (.int .i64 0) := by rw [Lib.cell_of_heap e1]; rfl
  have a2 : W.cell? ⟨w1.heap.size, 2, none⟩ = some (.int .i64 0) := by rw [Lib.cell_of_heap e1]; rfl
  have a3 : W.cell? ⟨w1.heap.size, 3, none⟩ = some (.string ⟨#[]⟩) := by rw [Lib.cell_of_heap e1]; rfl
  have a4 : W.cell? ⟨w1.heap.size, 4, none⟩ = some (.slice none 0 0) := by rw [Lib.cell_of_heap e1]; rfl
  have a5 : W.cell? ⟨w1.heap.size, 5, none⟩ = some (.bool false) := by rw [Lib.cell_of_heap e1]; rfl
  clear e1
  refine (complete_no h3 id l).mono ?_
  rintro e W' ⟨rfl, rfl⟩
  have cQ := equal_zero W'
  unfold zeroRow at cQ
  go_wp2_with fail
  refine cQ.mono ?_
  rintro e w3 ⟨rfl, hb3⟩
  have h4 := noT_below h3 hb3
  have HB3 : Hid (Below _ _ w3) := hb3
  clear cQ hb3 a0 a1 a2 a3 a4 a5
  have c1 := whole_no h4 id
  have c2 := scalar_no h4 id
  have c3 := len_no h4
  have c4 := rows_no h4
  have c5 := copy_no h4
  go_wp2_with (first
    | (go_at_call 38; refine c1.mono ?_; rintro e w' ⟨rfl, rfl⟩)
    | (go_at_call 39; refine c2.mono ?_; rintro e w' ⟨rfl, rfl⟩)
    | (go_at_call 40; refine c3.mono ?_; rintro e w' ⟨rfl, rfl⟩)
    | (go_at_call 11; refine c4.mono ?_; rintro e w' ⟨rfl, rfl⟩)
    | (go_at_call 12; refine c5.mono ?_; rintro e w' ⟨rfl, rfl⟩))
  go_ret
  exact ⟨rfl, (HB.out.trans (HB2.out.mono HB.out.size)).trans (HB3.out.mono (Nat.le_trans HB.out.size HB2.out.size))⟩
end Go.Proofs.YthmcmnaooodcdaaDoor
