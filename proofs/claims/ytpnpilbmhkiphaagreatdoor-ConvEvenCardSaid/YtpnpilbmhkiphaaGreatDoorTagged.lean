/-
  Struct, Union, Enum: a type with a tag.
-/
import Derived.Test.YtpnpilbmhkiphaaGreatDoorKinds
import Derived.Test.YtpnpilbmhkiphaaGreatDoorTag
namespace Go.Proofs.YtpnpilbmhkiphaaGreatDoor
open Go.RowKit Go.Maps
set_option linter.unusedVariables false
set_option maxRecDepth 100000

section
variable {B : Nat} {w : World} {b mb : Nat} {v : Value} {rs : List (Rw × Value)} {ps : List (Value × Value)}

theorem build_tag (k : Int) (s : ByteArray) (W : World) : (Instr.build TR #[(0, .int .i64 k), (3, .string s)]).run Tryz.prog W = .ok (.agg #[.int .i64 k, .int .i64 0, .int .i64 0, .string s, .slice none 0 0, .bool false]) W := by kernel_rfl

end
end Go.Proofs.YtpnpilbmhkiphaaGreatDoor
