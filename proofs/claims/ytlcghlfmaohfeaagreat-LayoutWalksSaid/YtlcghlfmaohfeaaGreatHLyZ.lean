/-
  Size and Align.
-/
import Derived.Test.YtlcghlfmaohfeaaGreatHLyO
namespace Go.Proofs.YtlcghlfmaohfeaaGreat
open Go.RowKit Go.Maps
set_option linter.unusedVariables false
set_option maxRecDepth 100000
/-- Why a type has no layout, or 0. -/
def openE (rs : List (Rw × Value)) (M : Int → Ex) (id : Int) : Int :=
  if hasP rs.length id = false then 30 else if wholeP rs id = false then 50 else if 16384 < (M id).size then 51 else 0
def openX (rs : List (Rw × Value)) (M : Int → Ex) (id : Int) : Ex := if openE rs M id = 0 then M id else ⟨0, 0⟩
section
variable {B : Nat} {w : World} {b mb : Nat} {v : Value} {rs : List (Rw × Value)} {ps : List (Value × Value)} {M : Int → Ex}
theorem has_at {id : Int} (h : hasP rs.length id = true) : ∃ (i : Nat) (p : Rw × Value), id = i ∧ rs[i]? = some p := by
  have hh : 0 ≤ id ∧ id < rs.length := by simpa [hasP] using h
  exact ⟨id.toNat, rs[id.toNat]'(by omega), by omega, List.getElem?_eq_getElem _⟩
theorem wholeP_at {i : Nat} {p : Rw × Value} (hp : rs[i]? = some p) : wholeP rs i = wholeR p.1 := by simp [wholeP, hp]
theorem openE_none {id : Int} (h : hasP rs.length id = false) : openE rs M id = 30 ∧ openX rs M id = ⟨0, 0⟩ := by
  have e : openE rs M id = 30 := by unfold openE; rw [if_pos h]
  exact ⟨e, by unfold openX; rw [e]; rfl⟩
theorem openE_inc {id : Int} (h : hasP rs.length id = true) (hw : wholeP rs id = false) : openE rs M id = 50 ∧ openX rs M id = ⟨0, 0⟩ := by
  have e : openE rs M id = 50 := by unfold openE; rw [if_neg (by simp [h]), if_pos hw]
  exact ⟨e, by unfold openX; rw [e]; rfl⟩
theorem openE_large {id : Int} (h : hasP rs.length id = true) (hw : wholeP rs id = true) (hg : 16384 < (M id).size) : openE rs M id = 51 ∧ openX rs M id = ⟨0, 0⟩ := by
  have e : openE rs M id = 51 := by unfold openE; rw [if_neg (by simp [h]), if_neg (by simp [hw]), if_pos hg]
  exact ⟨e, by unfold openX; rw [e]; rfl⟩
theorem openE_ok {id : Int} (h : hasP rs.length id = true) (hw : wholeP rs id = true) (hg : (M id).size ≤ 16384) : openE rs M id = 0 ∧ openX rs M id = M id := by
  have e : openE rs M id = 0 := by unfold openE; rw [if_neg (by simp [h]), if_neg (by simp [hw]), if_neg (by omega)]
  exact ⟨e, by unfold openX; rw [e]; rfl⟩
theorem open_any (h : Tab B w b mb v rs ps) (h0 : 0 < rs.length) (hs : Small rs) (hf : FromOK rs) (hM : IsMeas (rowsOf rs) M) (id : Int) :
    Calls Tryz.prog 28 #[.pointer (some ⟨b, 0, none⟩), .int .i64 id] w fun e w' => ∃ q, e = .returned (.tuple #[.pointer q, exV (openX rs M id), .int .i64 (openE rs M id)]) ∧ Below w.heap.size w w' := by
  cases hh : hasP rs.length id with
  | false =>
    rw [(openE_none (M := M) hh).1, (openE_none (M := M) hh).2]
    refine (open_none h h0 id hh).mono ?_
    rintro e w' ⟨rfl, hb⟩
    exact ⟨_, rfl, hb⟩
  | true =>
    obtain ⟨i, p, rfl, hp⟩ := has_at hh
    have hwP := wholeP_at hp
    cases hw : wholeR p.1 with
    | false =>
      rw [hw] at hwP
      rw [(openE_inc (M := M) hh hwP).1, (openE_inc (M := M) hh hwP).2]
      refine (open_inc h hs hp hw).mono ?_
      rintro e w' ⟨rfl, hb⟩
      exact ⟨_, rfl, hb⟩
    | true =>
      rw [hw] at hwP
      by_cases hg : 16384 < (M i).size
      · rw [(openE_large hh hwP hg).1, (openE_large hh hwP hg).2]
        refine (open_large h hs hf hM hp hw hg).mono ?_
        rintro e w' ⟨rfl, hb⟩
        exact ⟨_, rfl, hb⟩
      · rw [(openE_ok hh hwP (by omega)).1, (openE_ok hh hwP (by omega)).2]
        refine (open_ok h hs hf hM hp hw (by omega)).mono ?_
        rintro e w' ⟨rb, m, rfl, hu, _, _⟩
        exact ⟨_, rfl, hu.below⟩
set_option maxHeartbeats 2000000 in
theorem size_c (h : Tab B w b mb v rs ps) (h0 : 0 < rs.length) (hs : Small rs) (hf : FromOK rs) (hM : IsMeas (rowsOf rs) M) (id : Int) :
    Calls Tryz.prog 7 #[.pointer (some ⟨b, 0, none⟩), .int .i64 id] w fun e w' => e = .returned (.tuple #[.int .i64 (openX rs M id).size, .int .i64 (openE rs M id)]) ∧ Below w.heap.size w w' := by
  have c := open_any h h0 hs hf hM id
  generalize openX rs M id = ex at *
  generalize openE rs M id = er at *
  clear h hs hf hM
  go_enter Tryz.func7, Tryz.ntmps7
  go_wp2_with fail
  refine c.mono ?_
  rintro e w2 ⟨q, rfl, hb2⟩
  have HB : Hid (Below w.heap.size w (w2.alloc (.cells #[.int .i64 ex.size, .int .i64 ex.align] TX))) := hb2.trans ((below1 w2 _).mono hb2.size)
  clear c hb2
  go_wp2
  go_ret2
  exact ⟨rfl, HB.out⟩
set_option maxHeartbeats 2000000 in
theorem align_c (h : Tab B w b mb v rs ps) (h0 : 0 < rs.length) (hs : Small rs) (hf : FromOK rs) (hM : IsMeas (rowsOf rs) M) (id : Int) :
    Calls Tryz.prog 9 #[.pointer (some ⟨b, 0, none⟩), .int .i64 id] w fun e w' => e = .returned (.tuple #[.int .i64 (openX rs M id).align, .int .i64 (openE rs M id)]) ∧ Below w.heap.size w w' := by
  have c := open_any h h0 hs hf hM id
  generalize openX rs M id = ex at *
  generalize openE rs M id = er at *
  clear h hs hf hM
  go_enter Tryz.func9, Tryz.ntmps9
  go_wp2_with fail
  refine c.mono ?_
  rintro e w2 ⟨q, rfl, hb2⟩
  have HB : Hid (Below w.heap.size w (w2.alloc (.cells #[.int .i64 ex.size, .int .i64 ex.align] TX))) := hb2.trans ((below1 w2 _).mono hb2.size)
  clear c hb2
  go_wp2
  go_ret2
  exact ⟨rfl, HB.out⟩
end
end Go.Proofs.YtlcghlfmaohfeaaGreat
