/-
  refusal: why a struct or a union may not have these members.
-/
import Derived.Test.YtpnpilbmhkiphaaDoorIsnamed
import Derived.Test.YtpnpilbmhkiphaaDoorBits
import Derived.Deep.RegionWith
import Derived.Laws.Slices
namespace Go.Proofs.YtpnpilbmhkiphaaDoor
open Go.RowKit Go.Maps
set_option linter.unusedVariables false
set_option maxRecDepth 100000

def memberErr (rs : List (Rw × Value)) (pre : List Mb) (m : Mb) : Int :=
  if hasP rs.length m.type = false then 30 else if wholeP rs m.type = false then 50 else if bitsP (kindP rs m.type) m.bits = false then 52 else if namedP m pre = false then 31 else 0
def refusFrom (rs : List (Rw × Value)) : List Mb → List Mb → Int
  | _, [] => 0
  | pre, m :: r => if memberErr rs pre m = 0 then refusFrom rs (pre ++ [m]) r else memberErr rs pre m
def refusP (rs : List (Rw × Value)) (l : List Mb) : Int := if l.length < 1 ∨ 64 < l.length then 2 else refusFrom rs [] l

theorem refusFrom_step (rs : List (Rw × Value)) (l : List Mb) (k : Nat) (m : Mb) (hm : l[k]? = some m) :
    refusFrom rs (l.take k) (l.drop k) = if memberErr rs (l.take k) m = 0 then refusFrom rs (l.take (k + 1)) (l.drop (k + 1)) else memberErr rs (l.take k) m := by
  have hlt : k < l.length := (List.getElem?_eq_some_iff.1 hm).1
  have e : l[k] = m := (List.getElem?_eq_some_iff.1 hm).2
  rw [List.drop_eq_getElem_cons hlt, e]
  simp only [refusFrom]
  rw [List.take_add_one, hm]; rfl
theorem MemSl.take {w : World} {v : Value} {l : List Mb} {g o cap : Nat} (hv : v = .slice (some ⟨g, o, none⟩) l.length cap) (hcap : l.length ≤ cap) (hg : g < w.heap.size)
    (hcell : ∀ i m, l[i]? = some m → ∀ j, j < 3 → w.cell? ⟨g, o + i * 3 + j, none⟩ = (mbCells m)[j]?) (k : Nat) (hk : k ≤ l.length) : MemSl w (.slice (some ⟨g, o, none⟩) k cap) (l.take k) :=
  Or.inr ⟨g, o, cap, by simp [Nat.min_eq_left hk], by simp; omega, hg, fun i m hm j hj => hcell i m (by
    rw [List.getElem?_take] at hm; split at hm
    · exact hm
    · cases hm) j hj⟩

theorem slice_mem (ga oa n cap k : Nat) (hk : k ≤ cap) (W : World) :
    (Instr.sliceAt 68 (.slice (some ⟨ga, oa, none⟩) n cap) none (some (.int .i64 k)) none).run Tryd.prog W = .ok (.slice (some ⟨ga, oa, none⟩) k cap) W := by
  have h2 : (Instr.sliceAt 68 (.slice (some ⟨ga, oa, none⟩) n cap) none (some (.int .i64 (k : Int))) none).run Tryd.prog W = (Instr.slice 68 (.slice (some ⟨ga, oa, none⟩) n cap) none (some (.int .i64 (k : Int))) none).run Tryd.prog W := by simp [Instr.sliceAt, run_underlying Tryd.underlying68]
  have ht : Tryd.prog.underlying 68 = some (.slice (Tryd.prog.elem 68)) := by kernel_rfl
  have hz : (sizeOf (Tryd.prog.elem 68)).run Tryd.prog W = .ok 3 W := by kernel_rfl
  rw [h2, run_slice_h W 68 (some ⟨ga, oa, none⟩) n cap ht .i64 k (by omega) (by omega), hz]
  simp [sliced, Result.andThen, Addr.add]

section
variable {B : Nat} {w : World} {b mb : Nat} {v : Value} {rs : List (Rw × Value)} {ps : List (Value × Value)}

end
end Go.Proofs.YtpnpilbmhkiphaaDoor
