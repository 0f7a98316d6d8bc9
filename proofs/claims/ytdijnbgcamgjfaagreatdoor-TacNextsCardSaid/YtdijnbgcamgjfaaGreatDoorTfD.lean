/-
  What the law on right programs asks of each instruction, by plain functions.
-/
import Derived.Test.YtdijnbgcamgjfaaGreatDoorTfC
namespace Go.Proofs.YtdijnbgcamgjfaaGreatDoor
open Go.RowKit
set_option linter.unusedVariables false
set_option linter.unusedSimpArgs false
set_option maxRecDepth 100000
def GoodA (tp : Int) (a : Ar) : Prop := a.kind = 1 → a.n < tp
theorem good_oper {tp : Int} {a : Ar} (h : operB tp a = true) : GoodA tp a := by
  intro hk
  unfold operB at h
  rw [hk] at h
  simpa using h
theorem good_zero {tp : Int} {a : Ar} (h : a.kind = 0) : GoodA tp a := fun hk => by rw [h] at hk; cases hk
theorem reads_good {tp : Int} {x : In} (ha : ArOK x.a) (hb : ArOK x.b) (hc : ∀ a ∈ x.args, ArOK a) (ga : GoodA tp x.a) (gb : GoodA tp x.b) (gc : ∀ a ∈ x.args, GoodA tp a) : ∀ m ∈ readsP x, 0 ≤ m ∧ m < tp := by
  intro m hm
  unfold readsP rdF at hm
  obtain ⟨a, hin, rfl⟩ := List.mem_map.1 hm
  rw [List.mem_filter] at hin
  obtain ⟨hin, hk⟩ := hin
  have hk1 : a.kind = 1 := by simpa using hk
  simp only [List.mem_cons] at hin
  rcases hin with rfl | rfl | hin
  · exact ⟨ha.1, ga hk1⟩
  · exact ⟨hb.1, gb hk1⟩
  · exact ⟨(hc a hin).1, gc a hin hk1⟩
structure InGood (tp : Int) (n : Nat) (x : In) : Prop where
  op : 1 ≤ x.op ∧ x.op ≤ 14
  jump : x.op = 10 ∨ x.op = 11 → 0 ≤ x.n ∧ x.n < n
  wr : -1 ≤ writesP x ∧ writesP x < tp
  rd : ∀ m ∈ readsP x, 0 ≤ m ∧ m < tp
theorem right_good {tp : Int} {gv : Bool} {n : Nat} {sls : List Slt} {obs : List Ob} {fns : List Fn} {x : In} (h : rightB tp gv n sls obs fns x = true) (htp : 0 ≤ tp) (ha : ArOK x.a) (hb : ArOK x.b) (hc : ∀ a ∈ x.args, ArOK a) : InGood tp n x := by
  unfold rightB at h
  rw [Bool.and_eq_true] at h
  obtain ⟨h1, h2⟩ := h
  have hop : 1 ≤ x.op ∧ x.op ≤ 14 := by
    refine Decidable.byContradiction fun hn => ?_
    have : holdsB tp gv n sls obs fns x = false := by
      unfold holdsB
      repeat rw [if_neg (by omega)]
    rw [this] at h1
    cases h1
  have key : (x.op = 10 ∨ x.op = 11 → 0 ≤ x.n ∧ x.n < n) ∧ (-1 ≤ writesP x ∧ writesP x < tp) ∧ GoodA tp x.a ∧ GoodA tp x.b ∧ ∀ a ∈ x.args, GoodA tp a := by
    obtain ⟨op, bin, d, a, b, xn, off, wd, sg, args⟩ := x
    simp only at hop ha hb hc
    have : op = 1 ∨ op = 2 ∨ op = 3 ∨ op = 4 ∨ op = 5 ∨ op = 6 ∨ op = 7 ∨ op = 8 ∨ op = 9 ∨ op = 10 ∨ op = 11 ∨ op = 12 ∨ op = 13 ∨ op = 14 := by omega
    rcases this with rfl | rfl | rfl | rfl | rfl | rfl | rfl | rfl | rfl | rfl | rfl | rfl | rfl | rfl <;>
      simp [holdsB, bareP, bareB, fieldsOf, fieldTab, clrS, clrI, tempB, withinP, retB] at h1 h2 <;>
      simp only [writesP]
    · exact ⟨fun hh => by omega, ⟨by split <;> omega, by split <;> omega⟩, good_oper h1.2, good_zero h2.2.1.1, fun y hy => by rw [h2.2.2.2.2.2.2] at hy; cases hy⟩
    · exact ⟨fun hh => by omega, ⟨by split <;> omega, by split <;> omega⟩, good_oper h1.2.2.1, good_oper h1.2.2.2, fun y hy => by rw [h2.2.2.2.2] at hy; cases hy⟩
    · exact ⟨fun hh => by omega, ⟨by split <;> omega, by split <;> omega⟩, good_zero h2.2.1.1, good_zero h2.2.2.1.1, fun y hy => by rw [h2.2.2.2.2.2] at hy; cases hy⟩
    · exact ⟨fun hh => by omega, ⟨by split <;> omega, by split <;> omega⟩, good_zero h2.2.1.1, good_zero h2.2.2.1.1, fun y hy => by rw [h2.2.2.2.2.2] at hy; cases hy⟩
    · exact ⟨fun hh => by omega, ⟨by split <;> omega, by split <;> omega⟩, good_oper h1.2.1, good_zero h2.2.1.1, fun y hy => by rw [h2.2.2.2] at hy; cases hy⟩
    · exact ⟨fun hh => by omega, ⟨by split <;> omega, by split <;> omega⟩, good_oper h1.1, good_oper h1.2.1, fun y hy => by rw [h2.2.2.2.2] at hy; cases hy⟩
    · exact ⟨fun hh => by omega, ⟨by split <;> omega, by split <;> omega⟩, good_oper h1.1, good_oper h1.2.1, fun y hy => by rw [h2.2.2.2.2] at hy; cases hy⟩
    · split at h1
      · rename_i f hf
        have h3 := h1.2
        simp [callB, tempB, withinP] at h3
        obtain ⟨_, hall, hd⟩ := h3
        refine ⟨fun hh => by omega, ⟨by split <;> omega, by split <;> (rcases hd with hd | hd <;> omega)⟩, good_zero h2.2.1.1, good_zero h2.2.2.1.1, fun y hy => good_oper (hall y hy)⟩
      · exact absurd h1.2 (by simp)
    · refine ⟨fun hh => by omega, ⟨by split <;> omega, by split <;> omega⟩, ?_, good_zero h2.2.2.1.1, fun y hy => by rw [h2.2.2.2.2.2.2.2] at hy; cases hy⟩
      cases gv
      · exact good_zero h1.1
      · exact good_oper h1
    · exact ⟨fun hh => by omega, ⟨by split <;> omega, by split <;> omega⟩, good_zero h2.2.2.1.1, good_zero h2.2.2.2.1.1, fun y hy => by rw [h2.2.2.2.2.2.2.2] at hy; cases hy⟩
    · exact ⟨fun hh => by omega, ⟨by split <;> omega, by split <;> omega⟩, good_oper h1.2, good_zero h2.2.2.1.1, fun y hy => by rw [h2.2.2.2.2.2.2] at hy; cases hy⟩
    · exact ⟨fun hh => by omega, ⟨by split <;> omega, by split <;> omega⟩, good_oper h1, good_zero h2.2.2.1.1, fun y hy => by rw [h2.2.2.2.2.2.2.2] at hy; cases hy⟩
    · exact ⟨fun hh => by omega, ⟨by split <;> omega, by split <;> omega⟩, good_zero h2.2.1.1, good_zero h2.2.2.1.1, fun y hy => by rw [h2.2.2.2.2.2.2.2] at hy; cases hy⟩
    · exact ⟨fun hh => by omega, ⟨by split <;> omega, by split <;> omega⟩, good_oper h1, good_zero h2.2.2.1.1, fun y hy => by rw [h2.2.2.2.2.2.2.2] at hy; cases hy⟩
  exact ⟨hop, key.1, key.2.1, reads_good ha hb hc key.2.2.1 key.2.2.2.1 key.2.2.2.2⟩
theorem funL_all {obs : List Ob} {fns : List Fn} : ∀ {seen : List (List UInt8)} {l : List Fg}, funL obs fns seen l = true → ∀ q ∈ l, fun1 obs fns q = true
  | _, [], _, q, hq => by cases hq
  | seen, a :: r, h, q, hq => by
    unfold funL at h
    rw [Bool.and_eq_true, Bool.and_eq_true] at h
    rcases List.mem_cons.1 hq with rfl | hq
    · exact h.2.1
    · exact funL_all h.2.2 q hq
structure FnGood (q : Fg) : Prop where
  tp : 0 ≤ q.f.tp ∧ q.f.tp ≤ 4096
  len : q.code.length ≤ 16384
  last : lastB q.code = true
  ins : ∀ i ∈ q.code, InGood q.f.tp q.code.length i.x
theorem prog_good {x : Pg} (h : checkB x = true) (hI : ∀ q ∈ x.fns, ∀ i ∈ q.code, ArOK i.x.a ∧ ArOK i.x.b ∧ ∀ a ∈ i.x.args, ArOK a) : ∀ q ∈ x.fns, FnGood q := by
  intro q hq
  unfold checkB funsB at h
  simp only [Bool.and_eq_true] at h
  have h1 := funL_all h.2.1.2 q hq
  unfold fun1 frameB codeB withinP at h1
  simp only [Bool.and_eq_true, decide_eq_true_eq, List.all_eq_true] at h1
  obtain ⟨_, ⟨hp, ht, _⟩, hl, hlast, hr⟩ := h1
  refine ⟨⟨by omega, ht.2⟩, by omega, hlast, fun i hi => ?_⟩
  obtain ⟨ha, hb, hc⟩ := hI q hq i hi
  exact right_good (hr i hi) (by omega) ha hb hc
def endsX (op : Int) : Bool := op == 9 || op == 14
structure NextGood (n : Nat) (op : Int) (L : List Int) : Prop where
  ends : endsX op = decide (L.length = 0)
  len : L.length ≤ 2
  rng : ∀ (i : Nat) (m : Int), L[i]? = some m → 0 ≤ m ∧ m < n
  asc : ∀ (i : Nat) (m m' : Int), L[i]? = some m' → L[i + 1]? = some m → m' < m
theorem next_good {tp : Int} {xs : List (In × Value)} {k : Nat} {q : In × Value} (hk : xs[k]? = some q) (hq : InGood tp xs.length q.1) (hlast : k + 1 = xs.length → endsB q.1.op = true) : NextGood xs.length q.1.op (nextP xs k) := by
  have hlt : k < xs.length := (List.getElem?_eq_some_iff.1 hk).1
  have e : nextP xs k = (waysP q.1.op q.1.n k).filter (fun x => withinP x 0 ((xs.length : Int) - 1)) := by
    unfold nextP
    rw [if_pos (by unfold withinP; simp; omega), Int.toNat_natCast, hk]
  rw [e]
  obtain ⟨⟨h1, h2⟩, hj, _, _⟩ := hq
  generalize q.1.op = op at *
  generalize q.1.n = tn at *
  have hm : k + 1 = xs.length → op = 9 ∨ op = 10 ∨ op = 14 := fun h => by
    have := hlast h
    unfold endsB at this
    simpa using this
  unfold waysP
  by_cases c1 : op = 9 ∨ op = 14
  · rw [if_pos c1]
    refine ⟨?_, by simp, fun i m h => by simp at h, fun i m m' h => by simp at h⟩
    unfold endsX
    simpa using c1
  rw [if_neg c1]
  have he : endsX op = false := by unfold endsX; simpa using c1
  by_cases c2 : op = 10
  · rw [if_pos c2]
    have hin := hj (Or.inl c2)
    rw [List.filter_cons_of_pos (by unfold withinP; simp; omega), List.filter_nil]
    refine ⟨by rw [he]; simp, by simp, fun i m h => ?_, fun i m m' h h' => by cases i <;> simp at h'⟩
    cases i with
    | zero => obtain rfl : tn = m := by simpa using h
              exact hin
    | succ i => simp at h
  rw [if_neg c2]
  have hnl : k + 1 < xs.length := by
    rcases Nat.lt_or_ge (k + 1) xs.length with h | h
    · exact h
    · have := hm (by omega); omega
  by_cases c3 : op = 11
  · rw [if_pos c3]
    have hin := hj (Or.inr c3)
    by_cases c4 : (k : Int) + 1 = tn
    · rw [if_pos c4, List.filter_cons_of_pos (by unfold withinP; simp; omega), List.filter_nil]
      refine ⟨by rw [he]; simp, by simp, fun i m h => ?_, fun i m m' h h' => by cases i <;> simp at h'⟩
      cases i with
      | zero => obtain rfl : tn = m := by simpa using h
                exact hin
      | succ i => simp at h
    · rw [if_neg c4, List.filter_cons_of_pos (by unfold withinP; simp; omega), List.filter_cons_of_pos (by unfold withinP; simp; omega), List.filter_nil]
      refine ⟨by rw [he]; simp, by simp, fun i m h => ?_, fun i m m' h h' => ?_⟩
      · match i, h with
        | 0, h => obtain rfl : min ((k : Int) + 1) tn = m := by simpa using h
                  omega
        | 1, h => obtain rfl : max ((k : Int) + 1) tn = m := by simpa using h
                  omega
      · match i, h, h' with
        | 0, h, h' =>
          obtain rfl : min ((k : Int) + 1) tn = m' := by simpa using h
          obtain rfl : max ((k : Int) + 1) tn = m := by simpa using h'
          omega
  · rw [if_neg c3, List.filter_cons_of_pos (by unfold withinP; simp; omega), List.filter_nil]
    refine ⟨by rw [he]; simp, by simp, fun i m h => ?_, fun i m m' h h' => by cases i <;> simp at h'⟩
    cases i with
    | zero => obtain rfl : (k : Int) + 1 = m := by simpa using h
              omega
    | succ i => simp at h
end Go.Proofs.YtdijnbgcamgjfaaGreatDoor
