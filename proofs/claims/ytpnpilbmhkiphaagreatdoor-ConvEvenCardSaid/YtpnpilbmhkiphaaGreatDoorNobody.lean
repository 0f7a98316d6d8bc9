/-
  A table that no call made (none at all, or one whose rows are nil) refuses each of package ctype's calls.
-/
import Derived.Test.YtpnpilbmhkiphaaGreatDoorTags
namespace Go.Proofs.YtpnpilbmhkiphaaGreatDoor
open Go.RowKit
set_option linter.unusedVariables false
set_option maxRecDepth 100000

/-- A table that no call made. -/
def NoT (v : Value) (w : World) : Prop := v = .pointer none ∨ ∃ b, v = .pointer (some ⟨b, 0, none⟩) ∧ w.cell? ⟨b, 0, none⟩ = some (.slice none 0 0)

theorem not_f (W : World) : (Op.unary UnOp.not (.bool false)).run Tryz.prog W = .ok (.bool true) W := rfl
theorem not_t (W : World) : (Op.unary UnOp.not (.bool true)).run Tryz.prog W = .ok (.bool false) W := rfl
theorem neq_nil (W : World) : (binOp BinOp.neq 23 (.pointer none) (.pointer none)).run Tryz.prog W = .ok (.bool false) W := by kernel_rfl
theorem neq_some (a : Addr) (W : World) : (binOp BinOp.neq 23 (.pointer (some a)) (.pointer none)).run Tryz.prog W = .ok (.bool true) W := by kernel_rfl

theorem made_no {v : Value} {w : World} (h : NoT v w) :
    Calls Tryz.prog 68 #[v] w fun e w' => e = .returned (.bool false) ∧ w' = w := by
  have h0 := neq_nil
  have h1 := neq_some
  rcases h with rfl | ⟨b, rfl, hb⟩
  · go_enter Tryz.func68, Tryz.ntmps68
    go_wp2
    go_ret
    exact ⟨rfl, rfl⟩
  · go_enter Tryz.func68, Tryz.ntmps68
    go_wp2
    go_ret
    exact ⟨rfl, rfl⟩

theorem has_no {v : Value} {w : World} (h : NoT v w) (id : Int) :
    Calls Tryz.prog 69 #[v, .int .i64 id] w fun e w' => e = .returned (.bool false) ∧ w' = w := by
  have c := made_no h
  go_enter Tryz.func69, Tryz.ntmps69
  go_wp2_with fail
  refine c.mono ?_
  rintro e w' ⟨rfl, rfl⟩
  go_wp2
  go_ret
  exact ⟨rfl, rfl⟩

theorem kind_no {v : Value} {w : World} (h : NoT v w) (id : Int) :
    Calls Tryz.prog 86 #[v, .int .i64 id] w fun e w' => e = .returned (.int .i64 0) ∧ w' = w := by
  have c := has_no h id
  have h0 := not_f
  go_enter Tryz.func86, Tryz.ntmps86
  go_wp2_with fail
  refine c.mono ?_
  rintro e w' ⟨rfl, rfl⟩
  go_wp2
  go_ret
  exact ⟨rfl, rfl⟩

theorem basic_no {v : Value} {w : World} (h : NoT v w) (k : Int) :
    Calls Tryz.prog 85 #[v, .int .i64 k] w fun e w' => e = .returned (.tuple #[.int .i64 0, .int .i64 1]) ∧ w' = w := by
  have c := made_no h
  have h0 := not_f
  go_enter Tryz.func85, Tryz.ntmps85
  go_wp2_with fail
  refine c.mono ?_
  rintro e w' ⟨rfl, rfl⟩
  go_wp2
  go_ret2
  exact ⟨rfl, rfl⟩

theorem ptr_no {v : Value} {w : World} (h : NoT v w) (id : Int) :
    Calls Tryz.prog 29 #[v, .int .i64 id] w fun e w' => e = .returned (.tuple #[.int .i64 0, .int .i64 1]) ∧ w' = w := by
  have c := made_no h
  have h0 := not_f
  go_enter Tryz.func29, Tryz.ntmps29
  go_wp2_with fail
  refine c.mono ?_
  rintro e w' ⟨rfl, rfl⟩
  go_wp2
  go_ret2
  exact ⟨rfl, rfl⟩

theorem scalar_no {v : Value} {w : World} (h : NoT v w) (id : Int) :
    Calls Tryz.prog 43 #[v, .int .i64 id] w fun e w' => e = .returned (.bool false) ∧ w' = w := by
  have c := kind_no h id
  have h0 := not_f
  go_enter Tryz.func43, Tryz.ntmps43
  go_wp2_with fail
  refine c.mono ?_
  rintro e w' ⟨rfl, rfl⟩
  go_wp2
  go_ret
  exact ⟨rfl, rfl⟩

theorem len_no {v : Value} {w : World} (h : NoT v w)  :
    Calls Tryz.prog 57 #[v] w fun e w' => e = .returned (.int .i64 0) ∧ w' = w := by
  have c := made_no h
  have h0 := not_f
  go_enter Tryz.func57, Tryz.ntmps57
  go_wp2_with fail
  refine c.mono ?_
  rintro e w' ⟨rfl, rfl⟩
  go_wp2
  go_ret
  exact ⟨rfl, rfl⟩

theorem rows_no {v : Value} {w : World} (h : NoT v w)  :
    Calls Tryz.prog 56 #[v] w fun e w' => e = .returned (.slice none 0 0) ∧ w' = w := by
  have c := made_no h
  have h0 := not_f
  go_enter Tryz.func56, Tryz.ntmps56
  go_wp2_with fail
  refine c.mono ?_
  rintro e w' ⟨rfl, rfl⟩
  go_wp2
  go_ret
  exact ⟨rfl, rfl⟩

end Go.Proofs.YtpnpilbmhkiphaaGreatDoor
