/-
  Ptr and Array: refusals, one that is there, a new one.
-/
import Derived.Test.YtlcghlfmaohfeaaGreatHKinds
namespace Go.Proofs.YtlcghlfmaohfeaaGreat
open Go.RowKit Go.Maps
set_option linter.unusedVariables false
set_option maxRecDepth 100000

section
variable {B : Nat} {w : World} {b mb : Nat} {v : Value} {rs : List (Rw × Value)} {ps : List (Value × Value)}

theorem build_shape2 (k e : Int) (W : World) : (Instr.build TK #[(0, .int .i64 k), (1, .int .i64 e)]).run Tryz.prog W = .ok (.agg #[.int .i64 k, .int .i64 e, .int .i64 0]) W := by kernel_rfl
theorem build_shape3 (k e n : Int) (W : World) : (Instr.build TK #[(0, .int .i64 k), (1, .int .i64 e), (2, .int .i64 n)]).run Tryz.prog W = .ok (.agg #[.int .i64 k, .int .i64 e, .int .i64 n]) W := by kernel_rfl

end
end Go.Proofs.YtlcghlfmaohfeaaGreat
