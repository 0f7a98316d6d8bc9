/-
  What the given answer's shaped answers.
  The given answer's member and members.
-/
import Derived.Test.YtlcghlfmaohfeaaGreatHRefKind
import Derived.Test.YtlcghlfmaohfeaaGreatHRefTag
import Derived.Test.YtlcghlfmaohfeaaGreatHRefEqB
import Derived.Test.YtlcghlfmaohfeaaGreatHCopyRows
import Derived.Test.YtlcghlfmaohfeaaGreatHEnter
namespace Go.Proofs.YtlcghlfmaohfeaaGreat
open Go.RowKit Go.Maps
set_option linter.unusedVariables false
set_option maxRecDepth 100000

def rMemberErr (rs : List (Rw × Value)) (pre : List Mb) (m : Mb) : Int :=
  if hasP rs.length m.type = false then 30 else if rWholeP rs m.type = false then 50 else if bitsP (kindP rs m.type) m.bits = false then 52 else if namedP m pre = false then 31 else 0
def rRefusFrom (rs : List (Rw × Value)) : List Mb → List Mb → Int
  | _, [] => 0
  | pre, m :: r => if rMemberErr rs pre m = 0 then rRefusFrom rs (pre ++ [m]) r else rMemberErr rs pre m
def rRefusP (rs : List (Rw × Value)) (l : List Mb) : Int := if l.length < 1 ∨ 64 < l.length then 2 else rRefusFrom rs [] l
theorem rRefusFrom_step (rs : List (Rw × Value)) (l : List Mb) (k : Nat) (m : Mb) (hm : l[k]? = some m) :
    rRefusFrom rs (l.take k) (l.drop k) = if rMemberErr rs (l.take k) m = 0 then rRefusFrom rs (l.take (k + 1)) (l.drop (k + 1)) else rMemberErr rs (l.take k) m := by
  have hlt : k < l.length := (List.getElem?_eq_some_iff.1 hm).1
  have e : l[k] = m := (List.getElem?_eq_some_iff.1 hm).2
  rw [List.drop_eq_getElem_cons hlt, e]
  simp only [rRefusFrom]
  rw [List.take_add_one, hm]; rfl
/-- What a member's name comes to. -/
def nameErr (pre : List Mb) (m : Mb) : Int := if namedP m pre = false then 31 else 0

section
variable {w : World} {b : Nat} {v : Value} {rs : List (Rw × Value)}
set_option maxHeartbeats 4000000 in
theorem rMember_c (h : RT w b v rs) {g o cap : Nat} {l : List Mb} (hcap : l.length ≤ cap) (hg : g < w.heap.size) (hcell : ∀ i m, l[i]? = some m → ∀ j, j < 3 → w.cell? ⟨g, o + i * 3 + j, none⟩ = (mbCells m)[j]?)
    {k : Nat} {m : Mb} (hm : l[k]? = some m) (hl : l.length ≤ 64) (hs : m.name.size ≤ 9223372036854775807) :
    Calls Tryz.prog 96 #[.pointer (some ⟨b, 0, none⟩), .slice (some ⟨g, o, none⟩) l.length cap, .int .i64 k] w fun e w' => e = .returned (.int .i64 (rMemberErr rs (l.take k) m)) ∧ Below w.heap.size w w' := by
  have hlt : k < l.length := (List.getElem?_eq_some_iff.1 hm).1
  have c0 := hcell k m hm 0 (by omega)
  have c1 := hcell k m hm 1 (by omega)
  have c2 := hcell k m hm 2 (by omega)
  simp only [mbCells, Nat.add_zero, List.getElem?_cons_zero, List.getElem?_cons_succ] at c0 c1 c2
  have HB : Hid (Below w.heap.size w (w.alloc (.cells #[.string m.name, .int .i64 m.type, .int .i64 m.bits] TM))) := (Below.refl _ w).alloc (Nat.le_refl _) _
  have E1 := heap_r0 w (.cells #[.string m.name, .int .i64 m.type, .int .i64 m.bits] TM)
  have hT := h.below HB.out
  have cH := rHas_c hT m.type
  have cW := rWhole_c hT m.type
  have cB := rBits_c hT m.type m.bits
  have cN := fun W => refWord_c m.name W hs
  have h1 := not_f
  have h2 := not_t
  have hold := heap_r0 w (.cells #[.string ⟨#[]⟩, .int .i64 0, .int .i64 0] TM)
  have HC : Hid (∀ i q, l[i]? = some q → w.cell? ⟨g, o + i * 3, none⟩ = some (.string q.name)) := fun i q hq => by
    have := hcell i q hq 0 (by omega); simpa [mbCells] using this
  have HM : Hid (l[k]? = some m) := hm
  obtain ⟨RES, hRES⟩ : ∃ x, x = rMemberErr rs (l.take k) m := ⟨_, rfl⟩
  rw [← hRES]
  have HR : Hid (RES = _) := hRES
  clear hRES hcell h hT hm
  go_enter Tryz.func96, Tryz.ntmps96
  go_wp2_with (first | ((with_reducible apply step_store hold); rfl; rfl; kernel_rfl; rfl; kernel_rfl; rw [World.setRow_alloc_new]) | fail)
  generalize w.alloc (.cells #[.string m.name, .int .i64 m.type, .int .i64 m.bits] TM) = W at *
  have a0 := Lib.cell_of_heap E1 0
  have a1 := Lib.cell_of_heap E1 1
  have a2 := Lib.cell_of_heap E1 2
  simp only [List.getElem?_toArray, List.getElem?_cons_zero, List.getElem?_cons_succ] at a0 a1 a2
  clear c0 c1 c2 hold E1
  refine cH.mono ?_
  rintro e w' ⟨rfl, hw⟩
  rw [hw]
  clear hw w' cH
  rcases x1 : hasP rs.length m.type with _ | _
  · go_wp2
    go_ret
    exact ⟨int_ret (by rw [HR.out]; simp [rMemberErr, x1]), HB.out⟩
  rcases x2 : rWholeP rs m.type with _ | _ <;> rw [x2] at cW
  · go_wp2_with (go_at_call 59; refine cW.mono ?_; rintro e w' ⟨rfl, rfl⟩)
    go_ret
    exact ⟨int_ret (by rw [HR.out]; simp [rMemberErr, x1, x2]), HB.out⟩
  go_wp2_with fail
  refine cW.mono ?_
  rintro e w' ⟨rfl, hw⟩
  rw [hw]
  clear hw w' cW
  go_wp2_with fail
  refine cB.mono ?_
  rintro e w' ⟨rfl, hw⟩
  rw [hw]
  clear hw w' cB
  rcases x3 : bitsP (kindP rs m.type) m.bits with _ | _
  · go_wp2
    go_ret
    exact ⟨int_ret (by rw [HR.out]; simp [rMemberErr, x1, x2, x3]), HB.out⟩
  have HR2 : Hid (RES = nameErr (l.take k) m) := by
    show RES = _
    rw [HR.out]; simp [rMemberErr, x1, x2, x3, nameErr]
  clear HR x1 x2 x3
  have cN := cN W
  rcases he : m.name.toList.isEmpty with _ | _
  · have he2 : (m.name.toList == []) = false := by rw [← he]; cases m.name.toList <;> rfl
    rcases x4 : nameP m.name.data.toList with _ | _ <;> rw [x4] at cN
    · go_wp2_with (go_at_call 94; refine cN.mono ?_; rintro e w' ⟨rfl, rfl⟩)
      go_ret
      exact ⟨int_ret (by rw [HR2.out]; simp [nameErr, namedP, he, x4]), HB.out⟩
    · by_cases hb : m.bits = 0
      · have hb2 : (m.bits == 0) = true := by simpa using hb
        go_wp2_with (go_at_call 94; refine cN.mono ?_; rintro e w' ⟨rfl, rfl⟩)
        go_ret
        exact ⟨int_ret (by rw [HR2.out]; simp [nameErr, namedP, he, x4, hb]), HB.out⟩
      · have hb2 : (m.bits == 0) = false := by simpa using hb
        go_wp2_with (go_at_call 94; refine cN.mono ?_; rintro e w' ⟨rfl, rfl⟩)
        go_loopw [8] (fun i wr => ∃ j : Nat, i = .int .i64 j ∧ j ≤ k ∧ Hid (anyNm (l.take j) m.name = false) ∧ Hid (Below w.heap.size w wr) ∧ wr.cell? ⟨w.heap.size, 0, none⟩ = some (.string m.name)) (fun i _ => k - (intOf i).toNat)
        case atStart => exact ⟨0, rfl, Nat.zero_le _, by simp [Hid, anyNm], HB, a0⟩
        case round =>
          obtain ⟨j, rfl, hj, HA, HW, d0⟩ := hrel
          clear a0 a1 a2 cN
          by_cases hjk : j < k
          · obtain ⟨q, hq⟩ : ∃ q, l[j]? = some q := ⟨_, List.getElem?_eq_getElem (by omega)⟩
            have f0 : wr.cell? ⟨g, o + j * 3, none⟩ = some (.string q.name) := (HW.out.cell (p := ⟨g, o + j * 3, none⟩) hg).trans (HC.out j q hq)
            have HQ : Hid (l[j]? = some q) := hq
            have HN : Hid (anyNm (l.take (j + 1)) m.name = (q.name.toList == m.name.toList)) := by
              show _ = _
              have := HA.out
              unfold anyNm at this ⊢
              rw [List.take_add_one, hq]
              simp only [Option.toList_some, List.any_append, List.any_cons, List.any_nil, this, Bool.false_or, Bool.or_false]
            clear hq
            rcases hqq : (q.name.toList == m.name.toList) with _ | _ <;> rw [hqq] at HN
            · go_wp2
              go_quiet (fail)
              go_wp2
              refine ⟨⟨j + 1, by go_num, by omega, HN, HW.out.trans (below_drewN _ _ _), d0⟩, by simp [intOf]; omega⟩
            · go_wp2
              go_quiet (fail)
              go_wp2
              go_ret
              refine ⟨int_ret ?_, HW.out.trans (below_drewN _ _ _)⟩
              rw [HR2.out]
              have ha : anyNm (l.take k) m.name = true := by
                have h1 := HN.out
                unfold anyNm at h1 ⊢
                rw [List.any_eq_true] at h1 ⊢
                obtain ⟨z, hz, hz2⟩ := h1
                refine ⟨z, ?_, hz2⟩
                have : l.take (j + 1) = (l.take k).take (j + 1) := by rw [List.take_take, Nat.min_eq_left (by omega)]
                rw [this] at hz
                exact List.mem_of_mem_take hz
              simp [nameErr, namedP, he, ha]
          · obtain rfl : j = k := by omega
            go_wp2
            go_ret
            refine ⟨int_ret ?_, HW.out⟩
            rw [HR2.out]
            have ha := HA.out
            simp [nameErr, namedP, he, ha, x4, hb]
  · have he2 : (m.name.toList == []) = true := by
      have : m.name.toList = [] := by simpa using he
      rw [this]; rfl
    by_cases hb : m.bits < 0
    all_goals go_wp2
    all_goals go_ret
    all_goals refine ⟨int_ret ?_, HB.out⟩
    all_goals (rw [HR2.out]; simp [nameErr, namedP, he]; omega)

set_option maxHeartbeats 2000000 in
theorem rMembers_c (h : RT w b v rs) {x : Value} {l : List Mb} (hl : MemSl w x l) (hs : ∀ m ∈ l, m.name.size ≤ 9223372036854775807) (hbig : l.length ≤ 9223372036854775807) :
    Calls Tryz.prog 73 #[.pointer (some ⟨b, 0, none⟩), x] w fun e w' => e = .returned (.int .i64 (rRefusP rs l)) ∧ Below w.heap.size w w' := by
  by_cases hn : l.length < 1 ∨ 64 < l.length
  · have hr : rRefusP rs l = 2 := if_pos hn
    rw [hr]
    rcases hl with ⟨rfl, rfl⟩ | ⟨ga, oa, cap, rfl, hcap, hg, hcell⟩
    · go_enter Tryz.func73, Tryz.ntmps73
      go_wp2
      go_ret
      exact ⟨rfl, Below.refl _ _⟩
    · go_enter Tryz.func73, Tryz.ntmps73
      rcases hn with hn | hn
      all_goals go_wp2
      all_goals go_ret
      all_goals exact ⟨rfl, Below.refl _ _⟩
  · have hr : rRefusP rs l = rRefusFrom rs [] l := if_neg hn
    rw [hr]
    have hn1 : 1 ≤ l.length := by omega
    have hn2 : l.length ≤ 64 := by omega
    rcases hl with ⟨rfl, rfl⟩ | ⟨ga, oa, cap, hx, hcap, hg, hcell⟩
    · simp at hn1
    · clear hn hr hbig
      subst hx
      have HC : Hid _ := hcell
      have HT : Hid (RT w b v rs) := h
      clear hcell h
      go_enter Tryz.func73, Tryz.ntmps73
      go_wp2
      go_loopw [5] (fun i wr => ∃ k : Nat, i = .int .i64 k ∧ k ≤ l.length ∧ Hid (rRefusFrom rs [] l = rRefusFrom rs (l.take k) (l.drop k)) ∧ Hid (Below w.heap.size w wr)) (fun i _ => l.length - (intOf i).toNat)
      case atStart => exact ⟨0, rfl, Nat.zero_le _, by simp [Hid], Below.refl _ _⟩
      case round =>
        obtain ⟨k, rfl, hk, hR, HB⟩ := hrel
        by_cases hlt : k < l.length
        · obtain ⟨m, hm⟩ : ∃ m, l[k]? = some m := ⟨_, List.getElem?_eq_getElem hlt⟩
          have HN : Hid (rRefusFrom rs (l.take k) (l.drop k) = if rMemberErr rs (l.take k) m = 0 then rRefusFrom rs (l.take (k + 1)) (l.drop (k + 1)) else rMemberErr rs (l.take k) m) := rRefusFrom_step rs l k m hm
          have cM := rMember_c (HT.out.below HB.out) hcap (Nat.lt_of_lt_of_le hg HB.out.size) (fun i q hq j hj => (HB.out.cell (p := ⟨ga, oa + i * 3 + j, none⟩) hg).trans (HC.out i q hq j hj)) hm hn2 (hs m (List.mem_of_getElem? hm))
          generalize rMemberErr rs (l.take k) m = z at *
          clear hm
          by_cases hz : z = 0
          · subst hz
            go_wp2_with (go_at_call 96; refine cM.mono ?_; rintro e w2 ⟨rfl, hb2⟩)
            refine ⟨⟨k + 1, by go_num, by omega, ?_, HB.out.trans (hb2.mono HB.out.size)⟩, by simp [intOf]; omega⟩
            show _ = _
            rw [hR.out, HN.out]; rfl
          · have hz2 : (z != 0) = true := by simpa using hz
            go_wp2_with (go_at_call 96; refine cM.mono ?_; rintro e w2 ⟨rfl, hb2⟩)
            go_ret
            exact ⟨int_ret (by rw [hR.out, HN.out, if_neg hz]), HB.out.trans (hb2.mono HB.out.size)⟩
        · go_wp2
          go_ret
          refine ⟨int_ret ?_, HB.out⟩
          rw [hR.out, List.drop_eq_nil_of_le (by omega)]; rfl
end
end Go.Proofs.YtlcghlfmaohfeaaGreat
namespace Go.Proofs.YtlcghlfmaohfeaaGreat
open Go.RowKit Go.Maps
set_option linter.unusedVariables false
set_option maxRecDepth 100000

def plainB (r : Rw) : Bool := decide (r.mem.length = 0) && !r.done
def shapedB (rs : List (Rw × Value)) (i : Nat) (r : Rw) : Bool :=
  if i < 11 then basicEq r ((i : Int) + 1)
  else if r.kind = 12 then r.elem == 0 && r.len == 0 && tagP r.tag.data.toList && plainB r
  else if r.kind = 15 ∨ r.kind = 16 then r.elem == 0 && r.len == 0 && tagP r.tag.data.toList && (plainB r || (r.done && rRefusP rs r.mem == 0))
  else if r.kind = 13 then decide (0 ≤ r.elem) && decide (r.elem < i) && r.len == 0 && r.tag.toList == [] && plainB r
  else if r.kind = 14 then decide (0 ≤ r.elem) && decide (r.elem < i) && lenK r.len && r.tag.toList == [] && plainB r && rWholeP rs r.elem
  else false

end Go.Proofs.YtlcghlfmaohfeaaGreat
