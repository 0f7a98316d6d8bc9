/-
  A table that no call made (none at all, or one whose rows are nil) refuses each of package ctype's calls.
-/
import Derived.Test.YtaodheilmbefhaaDoorTags
namespace Go.Proofs.YtaodheilmbefhaaDoor
open Go.RowKit
set_option linter.unusedVariables false
set_option maxRecDepth 100000

/-- A table that no call made. -/
def NoT (v : Value) (w : World) : Prop := v = .pointer none ∨ ∃ b, v = .pointer (some ⟨b, 0, none⟩) ∧ w.cell? ⟨b, 0, none⟩ = some (.slice none 0 0)

theorem not_f (W : World) : (Op.unary UnOp.not (.bool false)).run Tryd.prog W = .ok (.bool true) W := rfl
theorem not_t (W : World) : (Op.unary UnOp.not (.bool true)).run Tryd.prog W = .ok (.bool false) W := rfl
theorem neq_nil (W : World) : (binOp BinOp.neq 24 (.pointer none) (.pointer none)).run Tryd.prog W = .ok (.bool false) W := by kernel_rfl
theorem neq_some (a : Addr) (W : World) : (binOp BinOp.neq 24 (.pointer (some a)) (.pointer none)).run Tryd.prog W = .ok (.bool true) W := by kernel_rfl

theorem made_no {v : Value} {w : World} (h : NoT v w) :
    Calls Tryd.prog 32 #[v] w fun e w' => e = .returned (.bool false) ∧ w' = w := by
  have h0 := neq_nil
  have h1 := neq_some
  rcases h with rfl | ⟨b, rfl, hb⟩
  · go_enter Tryd.func32, Tryd.ntmps32
    go_wp2
    go_ret
    exact ⟨rfl, rfl⟩
  · go_enter Tryd.func32, Tryd.ntmps32
    go_wp2
    go_ret
    exact ⟨rfl, rfl⟩

theorem has_no {v : Value} {w : World} (h : NoT v w) (id : Int) :
    Calls Tryd.prog 46 #[v, .int .i64 id] w fun e w' => e = .returned (.bool false) ∧ w' = w := by
  have c := made_no h
  go_enter Tryd.func46, Tryd.ntmps46
  go_wp2_with fail
  refine c.mono ?_
  rintro e w' ⟨rfl, rfl⟩
  go_wp2
  go_ret
  exact ⟨rfl, rfl⟩

theorem kind_no {v : Value} {w : World} (h : NoT v w) (id : Int) :
    Calls Tryd.prog 58 #[v, .int .i64 id] w fun e w' => e = .returned (.int .i64 0) ∧ w' = w := by
  have c := has_no h id
  have h0 := not_f
  go_enter Tryd.func58, Tryd.ntmps58
  go_wp2_with fail
  refine c.mono ?_
  rintro e w' ⟨rfl, rfl⟩
  go_wp2
  go_ret
  exact ⟨rfl, rfl⟩

theorem basic_no {v : Value} {w : World} (h : NoT v w) (k : Int) :
    Calls Tryd.prog 22 #[v, .int .i64 k] w fun e w' => e = .returned (.tuple #[.int .i64 0, .int .i64 1]) ∧ w' = w := by
  have c := made_no h
  have h0 := not_f
  go_enter Tryd.func22, Tryd.ntmps22
  go_wp2_with fail
  refine c.mono ?_
  rintro e w' ⟨rfl, rfl⟩
  go_wp2
  go_ret2
  exact ⟨rfl, rfl⟩

theorem tagged_no {v : Value} {w : World} (h : NoT v w) (k : Int) (s : ByteArray) :
    Calls Tryd.prog 50 #[v, .int .i64 k, .string s] w fun e w' => e = .returned (.tuple #[.int .i64 0, .int .i64 1]) ∧ w' = w := by
  have c := made_no h
  have h0 := not_f
  go_enter Tryd.func50, Tryd.ntmps50
  go_wp2_with fail
  refine c.mono ?_
  rintro e w' ⟨rfl, rfl⟩
  go_wp2
  go_ret2
  exact ⟨rfl, rfl⟩

theorem enum_no {v : Value} {w : World} (h : NoT v w) (s : ByteArray) :
    Calls Tryd.prog 24 #[v, .string s] w fun e w' => e = .returned (.tuple #[.int .i64 0, .int .i64 1]) ∧ w' = w := by
  have c := tagged_no h 12 s
  have h0 := not_f
  go_enter Tryd.func24, Tryd.ntmps24
  go_wp2_with fail
  refine c.mono ?_
  rintro e w' ⟨rfl, rfl⟩
  go_wp2
  go_ret2
  exact ⟨rfl, rfl⟩

theorem struct_no {v : Value} {w : World} (h : NoT v w) (s : ByteArray) :
    Calls Tryd.prog 28 #[v, .string s] w fun e w' => e = .returned (.tuple #[.int .i64 0, .int .i64 1]) ∧ w' = w := by
  have c := tagged_no h 15 s
  have h0 := not_f
  go_enter Tryd.func28, Tryd.ntmps28
  go_wp2_with fail
  refine c.mono ?_
  rintro e w' ⟨rfl, rfl⟩
  go_wp2
  go_ret2
  exact ⟨rfl, rfl⟩

theorem union_no {v : Value} {w : World} (h : NoT v w) (s : ByteArray) :
    Calls Tryd.prog 29 #[v, .string s] w fun e w' => e = .returned (.tuple #[.int .i64 0, .int .i64 1]) ∧ w' = w := by
  have c := tagged_no h 16 s
  have h0 := not_f
  go_enter Tryd.func29, Tryd.ntmps29
  go_wp2_with fail
  refine c.mono ?_
  rintro e w' ⟨rfl, rfl⟩
  go_wp2
  go_ret2
  exact ⟨rfl, rfl⟩

theorem ptr_no {v : Value} {w : World} (h : NoT v w) (id : Int) :
    Calls Tryd.prog 19 #[v, .int .i64 id] w fun e w' => e = .returned (.tuple #[.int .i64 0, .int .i64 1]) ∧ w' = w := by
  have c := made_no h
  have h0 := not_f
  go_enter Tryd.func19, Tryd.ntmps19
  go_wp2_with fail
  refine c.mono ?_
  rintro e w' ⟨rfl, rfl⟩
  go_wp2
  go_ret2
  exact ⟨rfl, rfl⟩

theorem array_no {v : Value} {w : World} (h : NoT v w) (id n : Int) :
    Calls Tryd.prog 20 #[v, .int .i64 id, .int .i64 n] w fun e w' => e = .returned (.tuple #[.int .i64 0, .int .i64 1]) ∧ w' = w := by
  have c := made_no h
  have h0 := not_f
  go_enter Tryd.func20, Tryd.ntmps20
  go_wp2_with fail
  refine c.mono ?_
  rintro e w' ⟨rfl, rfl⟩
  go_wp2
  go_ret2
  exact ⟨rfl, rfl⟩

theorem declare_no {v : Value} {w : World} (h : NoT v w) (id : Int) (s : ByteArray) :
    Calls Tryd.prog 37 #[v, .int .i64 id, .string s] w fun e w' => e = .returned (.tuple #[.string ⟨#[]⟩, .int .i64 1]) ∧ w' = w := by
  have c := made_no h
  have h0 := not_f
  go_enter Tryd.func37, Tryd.ntmps37
  go_wp2_with fail
  refine c.mono ?_
  rintro e w' ⟨rfl, rfl⟩
  go_wp2
  go_ret2
  exact ⟨rfl, rfl⟩

theorem complete_no {v : Value} {w : World} (h : NoT v w) (id : Int) (l : Value) :
    Calls Tryd.prog 30 #[v, .int .i64 id, l] w fun e w' => e = .returned (.int .i64 1) ∧ w' = w := by
  have c := made_no h
  have h0 := not_f
  go_enter Tryd.func30, Tryd.ntmps30
  go_wp2_with fail
  refine c.mono ?_
  rintro e w' ⟨rfl, rfl⟩
  go_wp2
  go_ret
  exact ⟨rfl, rfl⟩

theorem scalar_no {v : Value} {w : World} (h : NoT v w) (id : Int) :
    Calls Tryd.prog 39 #[v, .int .i64 id] w fun e w' => e = .returned (.bool false) ∧ w' = w := by
  have c := kind_no h id
  have h0 := not_f
  go_enter Tryd.func39, Tryd.ntmps39
  go_wp2_with fail
  refine c.mono ?_
  rintro e w' ⟨rfl, rfl⟩
  go_wp2
  go_ret
  exact ⟨rfl, rfl⟩

theorem len_no {v : Value} {w : World} (h : NoT v w)  :
    Calls Tryd.prog 40 #[v] w fun e w' => e = .returned (.int .i64 0) ∧ w' = w := by
  have c := made_no h
  have h0 := not_f
  go_enter Tryd.func40, Tryd.ntmps40
  go_wp2_with fail
  refine c.mono ?_
  rintro e w' ⟨rfl, rfl⟩
  go_wp2
  go_ret
  exact ⟨rfl, rfl⟩

theorem rows_no {v : Value} {w : World} (h : NoT v w)  :
    Calls Tryd.prog 11 #[v] w fun e w' => e = .returned (.slice none 0 0) ∧ w' = w := by
  have c := made_no h
  have h0 := not_f
  go_enter Tryd.func11, Tryd.ntmps11
  go_wp2_with fail
  refine c.mono ?_
  rintro e w' ⟨rfl, rfl⟩
  go_wp2
  go_ret
  exact ⟨rfl, rfl⟩

theorem copy_no {v : Value} {w : World} (h : NoT v w)  :
    Calls Tryd.prog 12 #[v] w fun e w' => e = .returned (.pointer none) ∧ w' = w := by
  have c := made_no h
  have h0 := not_f
  go_enter Tryd.func12, Tryd.ntmps12
  go_wp2_with fail
  refine c.mono ?_
  rintro e w' ⟨rfl, rfl⟩
  go_wp2
  go_ret
  exact ⟨rfl, rfl⟩
end Go.Proofs.YtaodheilmbefhaaDoor
