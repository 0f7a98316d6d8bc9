/-
  A name, told byte by byte: what mortiseref02's Name is to be held against.
-/
import Derived.Test.YtjbmpdcgmphhoaaDoorRefName
import Derived.Test.YtjbmpdcgmphhoaaDoorDigs
namespace Go.Proofs.YtjbmpdcgmphhoaaDoor
open Go.RowKit
set_option linter.unusedVariables false

theorem refName_plain (c : UInt8) (r : List UInt8) : isName (c :: r) = (bLetter c.toNat && decide ((c :: r).length ≤ 63) && (c :: r).all (fun x => bName x.toNat) && !isWord (c :: r)) := by
  have h : (runLen bName (c :: r) == (c :: r).length) = (c :: r).all (fun x => bName x.toNat) := by
    rw [Bool.eq_iff_iff, beq_iff_eq, List.all_eq_true]
    constructor
    · intro h x hx
      have h2 := runLen_mem bName (c :: r) x (by rw [h, List.take_length]; exact hx)
      exact h2
    · intro h; exact runLen_all bName _ h
  unfold isName
  simp only
  rw [h]
end Go.Proofs.YtjbmpdcgmphhoaaDoor
