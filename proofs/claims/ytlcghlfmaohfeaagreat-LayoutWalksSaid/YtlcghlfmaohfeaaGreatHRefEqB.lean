/-
  The given answer's Equal, held against a basic type's row.
  The given answer's derived, Ptr, Array.
-/
import Derived.Test.YtlcghlfmaohfeaaGreatHRefAdd
import Derived.Test.YtlcghlfmaohfeaaGreatHRefKind
import Derived.Test.YtlcghlfmaohfeaaGreatHPtrArr
import Derived.Test.YtlcghlfmaohfeaaGreatHRefEq
namespace Go.Proofs.YtlcghlfmaohfeaaGreat
open Go.RowKit Go.Maps
set_option linter.unusedVariables false
set_option maxRecDepth 100000

def likeK (k e n : Int) (q : Rw) : Bool := q.kind == k && q.elem == e && q.len == n

section
variable {w : World} {b : Nat} {v : Value} {rs : List (Rw × Value)}
theorem RT.read {w : World} {b : Nat} {v : Value} {rs : List (Rw × Value)} (h : RT w b v rs) (hn : 0 < rs.length) : ∃ g o c, v = .slice (some ⟨g, o, none⟩) rs.length c ∧ rs.length ≤ c ∧ g < w.heap.size ∧ ∀ k q, rs[k]? = some q → ∀ j, j < 6 → w.cell? ⟨g, o + k * 6 + j, none⟩ = (rwCells q.1 q.2)[j]? := by
  rcases h.rows.1 with ⟨_, hh⟩ | ⟨g, o, cap, hv, hc, hg, hq⟩
  · rw [hh] at hn; simp at hn
  · exact ⟨g, o, cap, hv, hc, hg, hq⟩

end
end Go.Proofs.YtlcghlfmaohfeaaGreat
namespace Go.Proofs.YtlcghlfmaohfeaaGreat
open Go.RowKit Go.Maps
set_option linter.unusedVariables false
set_option maxRecDepth 100000

def basicEq (r : Rw) (k : Int) : Bool := r.kind == k && r.elem == 0 && r.len == 0 && r.tag.toList == [] && !r.done && decide (r.mem.length = 0)
theorem nil_of_toList {t : ByteArray} (h : t.toList = []) : t = ⟨#[]⟩ := by
  rw [ByteArray.toList_eq] at h
  apply ByteArray.ext
  exact Array.ext' h

section
variable {w : World}
set_option maxHeartbeats 4000000 in
theorem equal_basic {r : Rw} {s : Value} (hs : MemSl w s r.mem) (hn : r.mem.length ≤ 9223372036854775807) (k : Int) :
    Calls Tryz.prog 69 #[.agg (rwCells r s).toArray, .agg #[.int .i64 k, .int .i64 0, .int .i64 0, .string ⟨#[]⟩, .slice none 0 0, .bool false]] w fun e w' => e = .returned (.bool (basicEq r k)) ∧ Below w.heap.size w w' := by
  by_cases hall : basicEq r k = true
  · rw [hall]
    obtain ⟨kd, el, ln, tg, mm, dn⟩ := r
    simp only [basicEq, Bool.and_eq_true, Bool.not_eq_true', beq_iff_eq, decide_eq_true_eq] at hall
    obtain ⟨⟨⟨⟨⟨rfl, rfl⟩, rfl⟩, h4⟩, rfl⟩, h6⟩ := hall
    obtain rfl : mm = [] := List.eq_nil_of_length_eq_zero h6
    obtain rfl := nil_of_toList h4
    exact equal_c (r := ⟨kd, 0, 0, ⟨#[]⟩, [], false⟩) hs (Or.inl ⟨rfl, rfl⟩) (by simp)
  · have hf : basicEq r k = false := by simpa using hall
    rw [hf]
    obtain ⟨kd, el, ln, tg, mm, dn⟩ := r
    obtain ⟨sp, sc, rfl⟩ : ∃ sp sc, s = .slice sp mm.length sc := by
      rcases hs with ⟨rfl, h⟩ | ⟨g, o, cap, rfl, _⟩
      · simp only at h; subst h; exact ⟨none, 0, rfl⟩
      · exact ⟨_, _, rfl⟩
    simp only [rwCells] at *
    clear hs hall
    have hne : basicEq ⟨kd, el, ln, tg, mm, dn⟩ k = false := hf
    clear hf
    simp only [basicEq] at hne
    go_enter Tryz.func69, Tryz.ntmps69
    go_upto_region 1 with (fail)
    refine (?_ : Code.wp _ _ _ _ ((w.alloc (.cells #[.int .i64 kd, .int .i64 el, .int .i64 ln, .string tg, .slice sp mm.length sc, .bool dn] TR)).alloc (.cells #[.int .i64 k, .int .i64 0, .int .i64 0, .string ⟨#[]⟩, .slice none 0 0, .bool false] TR)))
    have HB : Hid (Below w.heap.size w ((w.alloc (.cells #[.int .i64 kd, .int .i64 el, .int .i64 ln, .string tg, .slice sp mm.length sc, .bool dn] TR)).alloc (.cells #[.int .i64 k, .int .i64 0, .int .i64 0, .string ⟨#[]⟩, .slice none 0 0, .bool false] TR))) := ((Below.refl _ w).alloc (Nat.le_refl _) _).alloc (by simp) _
    have e1 := heap_s1 w (.cells #[.int .i64 kd, .int .i64 el, .int .i64 ln, .string tg, .slice sp mm.length sc, .bool dn] TR) (.cells #[.int .i64 k, .int .i64 0, .int .i64 0, .string ⟨#[]⟩, .slice none 0 0, .bool false] TR)
    have e2 := heap_s2 w (.cells #[.int .i64 kd, .int .i64 el, .int .i64 ln, .string tg, .slice sp mm.length sc, .bool dn] TR) (.cells #[.int .i64 k, .int .i64 0, .int .i64 0, .string ⟨#[]⟩, .slice none 0 0, .bool false] TR)
    generalize (w.alloc (.cells #[.int .i64 kd, .int .i64 el, .int .i64 ln, .string tg, .slice sp mm.length sc, .bool dn] TR)).alloc (.cells #[.int .i64 k, .int .i64 0, .int .i64 0, .string ⟨#[]⟩, .slice none 0 0, .bool false] TR) = W at *
    have a0 := Lib.cell_of_heap e1 0
    have a1 := Lib.cell_of_heap e1 1
    have a2 := Lib.cell_of_heap e1 2
    have a3 := Lib.cell_of_heap e1 3
    have a4 := Lib.cell_of_heap e1 4
    have a5 := Lib.cell_of_heap e1 5
    have b0 := Lib.cell_of_heap e2 0
    have b1 := Lib.cell_of_heap e2 1
    have b2 := Lib.cell_of_heap e2 2
    have b3 := Lib.cell_of_heap e2 3
    have b4 := Lib.cell_of_heap e2 4
    have b5 := Lib.cell_of_heap e2 5
    simp only [List.getElem?_toArray, List.getElem?_cons_zero, List.getElem?_cons_succ] at a0 a1 a2 a3 a4 a5 b0 b1 b2 b3 b4 b5
    clear e1 e2
    by_cases h0 : kd = k
    case neg =>
      have z : (kd != k) = true := by simpa using h0
      go_wp2
      go_ret
      exact ⟨rfl, HB.out⟩
    subst h0
    by_cases h1 : el = 0
    case neg =>
      have z : (el != 0) = true := by simpa using h1
      go_wp2
      go_ret
      exact ⟨rfl, HB.out⟩
    subst h1
    by_cases h2 : ln = 0
    case neg =>
      have z : (ln != 0) = true := by simpa using h2
      go_wp2
      go_ret
      exact ⟨rfl, HB.out⟩
    subst h2
    by_cases h3 : tg.toList = []
    case neg =>
      have z : (tg.toList == []) = false := by simpa using h3
      have z2 : (tg.toList == (⟨#[]⟩ : ByteArray).toList) = false := by rw [show (⟨#[]⟩ : ByteArray).toList = [] by rw [ByteArray.toList_eq]]; exact z
      go_wp2
      go_ret
      exact ⟨rfl, HB.out⟩
    obtain rfl := nil_of_toList h3
    cases dn
    case true =>
      go_wp2
      go_ret
      exact ⟨rfl, HB.out⟩
    have hm : ¬ mm.length = 0 := by
      intro hh
      have e : (⟨#[]⟩ : ByteArray).toList = [] := by rw [ByteArray.toList_eq]
      simp [hh, e] at hne
    have z : ((mm.length : Int) != 0) = true := by
      simp
      intro e
      subst e
      simp at hm
    clear hne
    go_wp2
    go_ret
    exact ⟨rfl, HB.out⟩
end
end Go.Proofs.YtlcghlfmaohfeaaGreat
