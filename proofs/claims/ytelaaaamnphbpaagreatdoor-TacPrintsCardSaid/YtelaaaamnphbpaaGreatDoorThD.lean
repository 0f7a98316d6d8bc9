/- What remains bare of an instruction is told by the given answer's Same of it and its shape. -/
import Derived.Test.YtelaaaamnphbpaaGreatDoorThB
import Derived.Test.YtelaaaamnphbpaaGreatDoorND
namespace Go.Proofs.YtelaaaamnphbpaaGreatDoor
open Go.RowKit
set_option linter.unusedVariables false
set_option linter.unusedSimpArgs false
set_option maxRecDepth 100000
theorem sat_calls {P : Program} {n : FuncId} {args : Array Value} {R : Ending → Prop} {W : World} (h : ∀ Y, SH W Y → Calls P n args Y fun e w' => R e ∧ Below Y.heap.size Y w') : ∀ Z : SAT W, Calls P n args Z.val fun e w' => R e ∧ ∃ Z' : SAT W, w' = Z'.val := fun Z => (h Z.val Z.ok).mono fun e w' ⟨he, hb⟩ => ⟨he, ⟨w', SH.below Z.ok hb⟩, rfl⟩
theorem sh12 {W : World} {g : Nat} {t : TypeId} {v0 v1 v2 v3 v4 v5 v6 v7 v8 v9 v10 v11 : Value} (h : W.heap[g]? = some (.cells #[v0, v1, v2, v3, v4, v5, v6, v7, v8, v9, v10, v11] t (0, 0))) :
 (∀ Y, SH W Y → Y.cell? ⟨g, 0, none⟩ = some v0) ∧ (∀ Y, SH W Y → Y.cell? ⟨g, 1, none⟩ = some v1) ∧ (∀ Y, SH W Y → Y.cell? ⟨g, 2, none⟩ = some v2) ∧ (∀ Y, SH W Y → Y.cell? ⟨g, 3, none⟩ = some v3) ∧ (∀ Y, SH W Y → Y.cell? ⟨g, 4, none⟩ = some v4) ∧ (∀ Y, SH W Y → Y.cell? ⟨g, 5, none⟩ = some v5) ∧ (∀ Y, SH W Y → Y.cell? ⟨g, 6, none⟩ = some v6) ∧ (∀ Y, SH W Y → Y.cell? ⟨g, 7, none⟩ = some v7) ∧ (∀ Y, SH W Y → Y.cell? ⟨g, 8, none⟩ = some v8) ∧ (∀ Y, SH W Y → Y.cell? ⟨g, 9, none⟩ = some v9) ∧ (∀ Y, SH W Y → Y.cell? ⟨g, 10, none⟩ = some v10) ∧ (∀ Y, SH W Y → Y.cell? ⟨g, 11, none⟩ = some v11) :=
 ⟨fun Y k => (cells12 (blk_b h k)).1, fun Y k => (cells12 (blk_b h k)).2.1, fun Y k => (cells12 (blk_b h k)).2.2.1, fun Y k => (cells12 (blk_b h k)).2.2.2.1, fun Y k => (cells12 (blk_b h k)).2.2.2.2.1, fun Y k => (cells12 (blk_b h k)).2.2.2.2.2.1, fun Y k => (cells12 (blk_b h k)).2.2.2.2.2.2.1, fun Y k => (cells12 (blk_b h k)).2.2.2.2.2.2.2.1, fun Y k => (cells12 (blk_b h k)).2.2.2.2.2.2.2.2.1, fun Y k => (cells12 (blk_b h k)).2.2.2.2.2.2.2.2.2.1, fun Y k => (cells12 (blk_b h k)).2.2.2.2.2.2.2.2.2.2.1, fun Y k => (cells12 (blk_b h k)).2.2.2.2.2.2.2.2.2.2.2⟩
theorem sh6 {W : World} {g : Nat} {t : TypeId} {v0 v1 v2 v3 v4 v5 : Value} (h : W.heap[g]? = some (.cells #[v0, v1, v2, v3, v4, v5] t (0, 0))) :
 (∀ Y, SH W Y → Y.cell? ⟨g, 0, none⟩ = some v0) ∧ (∀ Y, SH W Y → Y.cell? ⟨g, 1, none⟩ = some v1) ∧ (∀ Y, SH W Y → Y.cell? ⟨g, 2, none⟩ = some v2) ∧ (∀ Y, SH W Y → Y.cell? ⟨g, 3, none⟩ = some v3) ∧ (∀ Y, SH W Y → Y.cell? ⟨g, 4, none⟩ = some v4) ∧ (∀ Y, SH W Y → Y.cell? ⟨g, 5, none⟩ = some v5) :=
 ⟨fun Y k => (cel6 (blk_b h k)).1, fun Y k => (cel6 (blk_b h k)).2.1, fun Y k => (cel6 (blk_b h k)).2.2.1, fun Y k => (cel6 (blk_b h k)).2.2.2.1, fun Y k => (cel6 (blk_b h k)).2.2.2.2.1, fun Y k => (cel6 (blk_b h k)).2.2.2.2.2⟩
theorem sat12 {W : World} {g : Nat} {t : TypeId} {v0 v1 v2 v3 v4 v5 v6 v7 v8 v9 v10 v11 : Value} (h : W.heap[g]? = some (.cells #[v0, v1, v2, v3, v4, v5, v6, v7, v8, v9, v10, v11] t (0, 0))) :
 (∀ Z : SAT W, Z.val.cell? ⟨g, 0, none⟩ = some v0) ∧ (∀ Z : SAT W, Z.val.cell? ⟨g, 1, none⟩ = some v1) ∧ (∀ Z : SAT W, Z.val.cell? ⟨g, 2, none⟩ = some v2) ∧ (∀ Z : SAT W, Z.val.cell? ⟨g, 3, none⟩ = some v3) ∧ (∀ Z : SAT W, Z.val.cell? ⟨g, 4, none⟩ = some v4) ∧ (∀ Z : SAT W, Z.val.cell? ⟨g, 5, none⟩ = some v5) ∧ (∀ Z : SAT W, Z.val.cell? ⟨g, 6, none⟩ = some v6) ∧ (∀ Z : SAT W, Z.val.cell? ⟨g, 7, none⟩ = some v7) ∧ (∀ Z : SAT W, Z.val.cell? ⟨g, 8, none⟩ = some v8) ∧ (∀ Z : SAT W, Z.val.cell? ⟨g, 9, none⟩ = some v9) ∧ (∀ Z : SAT W, Z.val.cell? ⟨g, 10, none⟩ = some v10) ∧ (∀ Z : SAT W, Z.val.cell? ⟨g, 11, none⟩ = some v11) := by
 obtain ⟨a0, a1, a2, a3, a4, a5, a6, a7, a8, a9, a10, a11⟩ := sh12 h
 exact ⟨fun Z => a0 _ Z.ok, fun Z => a1 _ Z.ok, fun Z => a2 _ Z.ok, fun Z => a3 _ Z.ok, fun Z => a4 _ Z.ok, fun Z => a5 _ Z.ok, fun Z => a6 _ Z.ok, fun Z => a7 _ Z.ok, fun Z => a8 _ Z.ok, fun Z => a9 _ Z.ok, fun Z => a10 _ Z.ok, fun Z => a11 _ Z.ok⟩
theorem sat6 {W : World} {g : Nat} {t : TypeId} {v0 v1 v2 v3 v4 v5 : Value} (h : W.heap[g]? = some (.cells #[v0, v1, v2, v3, v4, v5] t (0, 0))) :
 (∀ Z : SAT W, Z.val.cell? ⟨g, 0, none⟩ = some v0) ∧ (∀ Z : SAT W, Z.val.cell? ⟨g, 1, none⟩ = some v1) ∧ (∀ Z : SAT W, Z.val.cell? ⟨g, 2, none⟩ = some v2) ∧ (∀ Z : SAT W, Z.val.cell? ⟨g, 3, none⟩ = some v3) ∧ (∀ Z : SAT W, Z.val.cell? ⟨g, 4, none⟩ = some v4) ∧ (∀ Z : SAT W, Z.val.cell? ⟨g, 5, none⟩ = some v5) := by
 obtain ⟨a0, a1, a2, a3, a4, a5⟩ := sh6 h
 exact ⟨fun Z => a0 _ Z.ok, fun Z => a1 _ Z.ok, fun Z => a2 _ Z.ok, fun Z => a3 _ Z.ok, fun Z => a4 _ Z.ok, fun Z => a5 _ Z.ok⟩
theorem bare_same_1 (bin d ak an bk bn xn off wd : Int) (sg : Bool) (args : List Ar) :
 bareP (fieldsOf ⟨1, bin, d, ⟨ak, an⟩, ⟨bk, bn⟩, xn, off, wd, sg, args⟩) ⟨1, bin, d, ⟨ak, an⟩, ⟨bk, bn⟩, xn, off, wd, sg, args⟩ = (sameB ⟨1, bin, d, ⟨ak, an⟩, ⟨bk, bn⟩, xn, off, wd, sg, args⟩ ⟨1, 0, d, ⟨ak, an⟩, ⟨0, 0⟩, 0, 0, 0, false, []⟩ && decide (args.length = 0)) := by
 rw [Bool.eq_iff_iff]
 simp [bareP, bareB, fieldsOf, fieldTab, clrS, clrI, sameB, arEq]
 try (constructor <;> intro h <;> simp_all)
theorem bare_same_2 (bin d ak an bk bn xn off wd : Int) (sg : Bool) (args : List Ar) :
 bareP (fieldsOf ⟨2, bin, d, ⟨ak, an⟩, ⟨bk, bn⟩, xn, off, wd, sg, args⟩) ⟨2, bin, d, ⟨ak, an⟩, ⟨bk, bn⟩, xn, off, wd, sg, args⟩ = (sameB ⟨2, bin, d, ⟨ak, an⟩, ⟨bk, bn⟩, xn, off, wd, sg, args⟩ ⟨2, bin, d, ⟨ak, an⟩, ⟨bk, bn⟩, 0, 0, 0, false, []⟩ && decide (args.length = 0)) := by
 rw [Bool.eq_iff_iff]
 simp [bareP, bareB, fieldsOf, fieldTab, clrS, clrI, sameB, arEq]
 try (constructor <;> intro h <;> simp_all)
theorem bare_same_3 (bin d ak an bk bn xn off wd : Int) (sg : Bool) (args : List Ar) :
 bareP (fieldsOf ⟨3, bin, d, ⟨ak, an⟩, ⟨bk, bn⟩, xn, off, wd, sg, args⟩) ⟨3, bin, d, ⟨ak, an⟩, ⟨bk, bn⟩, xn, off, wd, sg, args⟩ = (sameB ⟨3, bin, d, ⟨ak, an⟩, ⟨bk, bn⟩, xn, off, wd, sg, args⟩ ⟨3, 0, d, ⟨0, 0⟩, ⟨0, 0⟩, xn, off, 0, false, []⟩ && decide (args.length = 0)) := by
 rw [Bool.eq_iff_iff]
 simp [bareP, bareB, fieldsOf, fieldTab, clrS, clrI, sameB, arEq]
 try (constructor <;> intro h <;> simp_all)
theorem bare_same_4 (bin d ak an bk bn xn off wd : Int) (sg : Bool) (args : List Ar) :
 bareP (fieldsOf ⟨4, bin, d, ⟨ak, an⟩, ⟨bk, bn⟩, xn, off, wd, sg, args⟩) ⟨4, bin, d, ⟨ak, an⟩, ⟨bk, bn⟩, xn, off, wd, sg, args⟩ = (sameB ⟨4, bin, d, ⟨ak, an⟩, ⟨bk, bn⟩, xn, off, wd, sg, args⟩ ⟨4, 0, d, ⟨0, 0⟩, ⟨0, 0⟩, xn, off, 0, false, []⟩ && decide (args.length = 0)) := by
 rw [Bool.eq_iff_iff]
 simp [bareP, bareB, fieldsOf, fieldTab, clrS, clrI, sameB, arEq]
 try (constructor <;> intro h <;> simp_all)
theorem bare_same_5 (bin d ak an bk bn xn off wd : Int) (sg : Bool) (args : List Ar) :
 bareP (fieldsOf ⟨5, bin, d, ⟨ak, an⟩, ⟨bk, bn⟩, xn, off, wd, sg, args⟩) ⟨5, bin, d, ⟨ak, an⟩, ⟨bk, bn⟩, xn, off, wd, sg, args⟩ = (sameB ⟨5, bin, d, ⟨ak, an⟩, ⟨bk, bn⟩, xn, off, wd, sg, args⟩ ⟨5, 0, d, ⟨ak, an⟩, ⟨0, 0⟩, 0, off, wd, sg, []⟩ && decide (args.length = 0)) := by
 rw [Bool.eq_iff_iff]
 simp [bareP, bareB, fieldsOf, fieldTab, clrS, clrI, sameB, arEq]
 try (constructor <;> intro h <;> simp_all)
theorem bare_same_6 (bin d ak an bk bn xn off wd : Int) (sg : Bool) (args : List Ar) :
 bareP (fieldsOf ⟨6, bin, d, ⟨ak, an⟩, ⟨bk, bn⟩, xn, off, wd, sg, args⟩) ⟨6, bin, d, ⟨ak, an⟩, ⟨bk, bn⟩, xn, off, wd, sg, args⟩ = (sameB ⟨6, bin, d, ⟨ak, an⟩, ⟨bk, bn⟩, xn, off, wd, sg, args⟩ ⟨6, 0, -1, ⟨ak, an⟩, ⟨bk, bn⟩, 0, off, wd, false, []⟩ && decide (args.length = 0)) := by
 rw [Bool.eq_iff_iff]
 simp [bareP, bareB, fieldsOf, fieldTab, clrS, clrI, sameB, arEq]
 try (constructor <;> intro h <;> simp_all)
theorem bare_same_7 (bin d ak an bk bn xn off wd : Int) (sg : Bool) (args : List Ar) :
 bareP (fieldsOf ⟨7, bin, d, ⟨ak, an⟩, ⟨bk, bn⟩, xn, off, wd, sg, args⟩) ⟨7, bin, d, ⟨ak, an⟩, ⟨bk, bn⟩, xn, off, wd, sg, args⟩ = (sameB ⟨7, bin, d, ⟨ak, an⟩, ⟨bk, bn⟩, xn, off, wd, sg, args⟩ ⟨7, 0, -1, ⟨ak, an⟩, ⟨bk, bn⟩, 0, off, wd, false, []⟩ && decide (args.length = 0)) := by
 rw [Bool.eq_iff_iff]
 simp [bareP, bareB, fieldsOf, fieldTab, clrS, clrI, sameB, arEq]
 try (constructor <;> intro h <;> simp_all)
theorem bare_same_8 (bin d ak an bk bn xn off wd : Int) (sg : Bool) (args : List Ar) :
 bareP (fieldsOf ⟨8, bin, d, ⟨ak, an⟩, ⟨bk, bn⟩, xn, off, wd, sg, args⟩) ⟨8, bin, d, ⟨ak, an⟩, ⟨bk, bn⟩, xn, off, wd, sg, args⟩ = (sameB ⟨8, bin, d, ⟨ak, an⟩, ⟨bk, bn⟩, xn, off, wd, sg, args⟩ ⟨8, 0, d, ⟨0, 0⟩, ⟨0, 0⟩, xn, 0, 0, false, args⟩ && decide (args.length = args.length)) := by
 rw [Bool.eq_iff_iff]
 simp [bareP, bareB, fieldsOf, fieldTab, clrS, clrI, sameB, arEq]
 try (constructor <;> intro h <;> simp_all)
theorem bare_same_9 (bin d ak an bk bn xn off wd : Int) (sg : Bool) (args : List Ar) :
 bareP (fieldsOf ⟨9, bin, d, ⟨ak, an⟩, ⟨bk, bn⟩, xn, off, wd, sg, args⟩) ⟨9, bin, d, ⟨ak, an⟩, ⟨bk, bn⟩, xn, off, wd, sg, args⟩ = (sameB ⟨9, bin, d, ⟨ak, an⟩, ⟨bk, bn⟩, xn, off, wd, sg, args⟩ ⟨9, 0, -1, ⟨ak, an⟩, ⟨0, 0⟩, 0, 0, 0, false, []⟩ && decide (args.length = 0)) := by
 rw [Bool.eq_iff_iff]
 simp [bareP, bareB, fieldsOf, fieldTab, clrS, clrI, sameB, arEq]
 try (constructor <;> intro h <;> simp_all)
theorem bare_same_10 (bin d ak an bk bn xn off wd : Int) (sg : Bool) (args : List Ar) :
 bareP (fieldsOf ⟨10, bin, d, ⟨ak, an⟩, ⟨bk, bn⟩, xn, off, wd, sg, args⟩) ⟨10, bin, d, ⟨ak, an⟩, ⟨bk, bn⟩, xn, off, wd, sg, args⟩ = (sameB ⟨10, bin, d, ⟨ak, an⟩, ⟨bk, bn⟩, xn, off, wd, sg, args⟩ ⟨10, 0, -1, ⟨0, 0⟩, ⟨0, 0⟩, xn, 0, 0, false, []⟩ && decide (args.length = 0)) := by
 rw [Bool.eq_iff_iff]
 simp [bareP, bareB, fieldsOf, fieldTab, clrS, clrI, sameB, arEq]
 try (constructor <;> intro h <;> simp_all)
theorem bare_same_11 (bin d ak an bk bn xn off wd : Int) (sg : Bool) (args : List Ar) :
 bareP (fieldsOf ⟨11, bin, d, ⟨ak, an⟩, ⟨bk, bn⟩, xn, off, wd, sg, args⟩) ⟨11, bin, d, ⟨ak, an⟩, ⟨bk, bn⟩, xn, off, wd, sg, args⟩ = (sameB ⟨11, bin, d, ⟨ak, an⟩, ⟨bk, bn⟩, xn, off, wd, sg, args⟩ ⟨11, 0, -1, ⟨ak, an⟩, ⟨0, 0⟩, xn, 0, 0, false, []⟩ && decide (args.length = 0)) := by
 rw [Bool.eq_iff_iff]
 simp [bareP, bareB, fieldsOf, fieldTab, clrS, clrI, sameB, arEq]
 try (constructor <;> intro h <;> simp_all)
theorem bare_same_12 (bin d ak an bk bn xn off wd : Int) (sg : Bool) (args : List Ar) :
 bareP (fieldsOf ⟨12, bin, d, ⟨ak, an⟩, ⟨bk, bn⟩, xn, off, wd, sg, args⟩) ⟨12, bin, d, ⟨ak, an⟩, ⟨bk, bn⟩, xn, off, wd, sg, args⟩ = (sameB ⟨12, bin, d, ⟨ak, an⟩, ⟨bk, bn⟩, xn, off, wd, sg, args⟩ ⟨12, 0, -1, ⟨ak, an⟩, ⟨0, 0⟩, 0, 0, 0, false, []⟩ && decide (args.length = 0)) := by
 rw [Bool.eq_iff_iff]
 simp [bareP, bareB, fieldsOf, fieldTab, clrS, clrI, sameB, arEq]
 try (constructor <;> intro h <;> simp_all)
theorem bare_same_13 (bin d ak an bk bn xn off wd : Int) (sg : Bool) (args : List Ar) :
 bareP (fieldsOf ⟨13, bin, d, ⟨ak, an⟩, ⟨bk, bn⟩, xn, off, wd, sg, args⟩) ⟨13, bin, d, ⟨ak, an⟩, ⟨bk, bn⟩, xn, off, wd, sg, args⟩ = (sameB ⟨13, bin, d, ⟨ak, an⟩, ⟨bk, bn⟩, xn, off, wd, sg, args⟩ ⟨13, 0, d, ⟨0, 0⟩, ⟨0, 0⟩, 0, 0, 0, false, []⟩ && decide (args.length = 0)) := by
 rw [Bool.eq_iff_iff]
 simp [bareP, bareB, fieldsOf, fieldTab, clrS, clrI, sameB, arEq]
 try (constructor <;> intro h <;> simp_all)
theorem bare_same_14 (bin d ak an bk bn xn off wd : Int) (sg : Bool) (args : List Ar) :
 bareP (fieldsOf ⟨14, bin, d, ⟨ak, an⟩, ⟨bk, bn⟩, xn, off, wd, sg, args⟩) ⟨14, bin, d, ⟨ak, an⟩, ⟨bk, bn⟩, xn, off, wd, sg, args⟩ = (sameB ⟨14, bin, d, ⟨ak, an⟩, ⟨bk, bn⟩, xn, off, wd, sg, args⟩ ⟨14, 0, -1, ⟨ak, an⟩, ⟨0, 0⟩, 0, 0, 0, false, []⟩ && decide (args.length = 0)) := by
 rw [Bool.eq_iff_iff]
 simp [bareP, bareB, fieldsOf, fieldTab, clrS, clrI, sameB, arEq]
 try (constructor <;> intro h <;> simp_all)
end Go.Proofs.YtelaaaamnphbpaaGreatDoor