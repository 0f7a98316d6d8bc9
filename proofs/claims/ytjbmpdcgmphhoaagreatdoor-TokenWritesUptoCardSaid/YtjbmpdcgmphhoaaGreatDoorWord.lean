/-
  What package token's Word, typeOf, most, baseOf, ending, sign answer.
-/
import Derived.Test.YtjbmpdcgmphhoaaGreatDoorLex
import Derived.Test.YtjbmpdcgmphhoaaGreatDoorShelf
import Derived.LoopN
namespace Go.Proofs.YtjbmpdcgmphhoaaGreatDoor
open Go.RowKit
set_option linter.unusedVariables false

def words : List (List UInt8) := [[95, 66, 111, 111, 108], [98, 114, 101, 97, 107], [99, 104, 97, 114], [99, 111, 110, 116, 105, 110, 117, 101], [100, 111], [101, 108, 115, 101], [101, 110, 117, 109], [102, 111, 114], [105, 102], [105, 110, 116], [108, 111, 110, 103], [111, 102, 102, 115, 101, 116, 111, 102], [114, 101, 116, 117, 114, 110], [115, 104, 111, 114, 116], [115, 105, 103, 110, 101, 100], [115, 105, 122, 101, 111, 102], [115, 116, 97, 116, 105, 99], [115, 116, 114, 117, 99, 116], [116, 121, 112, 101, 100, 101, 102], [117, 110, 105, 111, 110], [117, 110, 115, 105, 103, 110, 101, 100], [118, 111, 105, 100], [119, 104, 105, 108, 101]]
def isWord (l : List UInt8) : Bool := words.any fun x => l == x

set_option maxRecDepth 100000 in
theorem word_c (s : ByteArray) (w : World) :
    Calls Tryz.prog 22 #[.string s] w fun e w' => e = .returned (.bool (isWord s.data.toList)) ∧ w' = w := by
  rw [← ByteArray.toList_eq]
  go_enter Tryz.func22, Tryz.ntmps22
  go_wp2
  all_goals go_ret
  all_goals refine ⟨bool_ret ?_, rfl⟩
  all_goals first | (simp_all; done) | (simp [isWord, words, *]; done)

def typeText (u l : Bool) : List UInt8 := if u && l then [117, 110, 115, 105, 103, 110, 101, 100, 32, 108, 111, 110, 103] else if u then [117, 110, 115, 105, 103, 110, 101, 100, 32, 105, 110, 116] else if l then [108, 111, 110, 103] else [105, 110, 116]

set_option maxRecDepth 100000 in
theorem typeOf_c (u l : Bool) (w : World) :
    Calls Tryz.prog 81 #[.bool u, .bool l] w fun e w' => e = .returned (.string ⟨(typeText u l).toArray⟩) ∧ w' = w := by
  cases u <;> cases l
  all_goals go_enter Tryz.func81, Tryz.ntmps81
  all_goals go_wp2
  all_goals go_ret
  all_goals exact ⟨rfl, rfl⟩

def mostOf (l : List UInt8) : Int := if l == [105, 110, 116] || l == [108, 111, 110, 103] then 2147483647 else if l == [117, 110, 115, 105, 103, 110, 101, 100, 32, 105, 110, 116] || l == [117, 110, 115, 105, 103, 110, 101, 100, 32, 108, 111, 110, 103] then 4294967295 else -1

set_option maxRecDepth 100000 in
theorem most_c (s : ByteArray) (w : World) :
    Calls Tryz.prog 51 #[.string s] w fun e w' => e = .returned (.int .i64 (mostOf s.data.toList)) ∧ w' = w := by
  rw [← ByteArray.toList_eq]
  go_enter Tryz.func51, Tryz.ntmps51
  go_wp2
  all_goals go_ret
  all_goals refine ⟨int_ret ?_, rfl⟩
  all_goals first | (simp_all; done) | (simp [mostOf, *]; done) | (simp_all [mostOf]; done)

end Go.Proofs.YtjbmpdcgmphhoaaGreatDoor
