/-
  A walk into an object: what it comes to, that it stays within the object, and that it goes on from where another one ended. (Pure.)
-/
import Derived.Test.YtkobggbipoappaaHLyX
namespace Go.Proofs.Ytkobggbipoappaa
open Go.RowKit Go.Maps
set_option linter.unusedVariables false
/-- What a hop comes to. -/
def hopP (M : Int → Ex) (r : Rw) (a : Pl) (nm : ByteArray) (idx : Int) : Pl × Bool :=
  if (!nm.toList.isEmpty) = true then
    (⟨(foundS r.mem nm (pl0, false) (placesS (r.kind == 16) M ls0 0 r.mem)).1.mem, (foundS r.mem nm (pl0, false) (placesS (r.kind == 16) M ls0 0 r.mem)).1.type, (foundS r.mem nm (pl0, false) (placesS (r.kind == 16) M ls0 0 r.mem)).1.off + a.off, (foundS r.mem nm (pl0, false) (placesS (r.kind == 16) M ls0 0 r.mem)).1.bit, (foundS r.mem nm (pl0, false) (placesS (r.kind == 16) M ls0 0 r.mem)).1.bits⟩, (foundS r.mem nm (pl0, false) (placesS (r.kind == 16) M ls0 0 r.mem)).2)
  else if r.kind = 14 ∧ 0 ≤ idx ∧ idx < r.len then (⟨a.mem, r.elem, a.off + idx * (M r.elem).size, 0, 0⟩, true) else (pl0, false)
/-- A walk: none, if a hop leads nowhere. -/
def walkP (rs : List (Rw × Value)) (M : Int → Ex) : Pl → List (ByteArray × Int) → Option Pl
  | a, [] => some a
  | a, h :: t => match rs[a.type.toNat]? with
    | some p => if (hopP M p.1 a h.1 h.2).2 = true then walkP rs M (hopP M p.1 a h.1 h.2).1 t else none
    | none => none
theorem found_in (mem : List Mb) (nm : ByteArray) : ∀ (l : List Pl) (s : Pl × Bool), (foundS mem nm s l).2 = true → foundS mem nm s l = s ∨ (foundS mem nm s l).1 ∈ l
  | [], s, _ => .inl rfl
  | p :: l, s, h => by
    have e : foundS mem nm s (p :: l) = foundS mem nm (if hitP mem nm p then (p, true) else s) l := rfl
    rw [e] at h ⊢
    rcases found_in mem nm l _ h with h1 | h1
    · by_cases hh : hitP mem nm p = true
      · rw [if_pos hh] at h1 ⊢
        right; rw [h1]; simp
      · rw [if_neg hh] at h1 ⊢
        exact .inl h1
    · right; simp [h1]
theorem found_mem {mem : List Mb} {nm : ByteArray} {l : List Pl} (h : (foundS mem nm (pl0, false) l).2 = true) : (foundS mem nm (pl0, false) l).1 ∈ l := by
  rcases found_in mem nm l _ h with h1 | h1
  · rw [h1] at h; cases h
  · exact h1
theorem place_bit0 {un : Bool} {M : Int → Ex} : ∀ (l : List Mb) (s : Ls) (i : Nat), (∀ m ∈ l, BitsOK m (M m.type)) → ∀ P ∈ placesS un M s i l, (P.bits = 0 ∧ P.bit = 0) ∨ 0 < P.bits
  | [], _, _, _, P, hP => by simp [placesS] at hP
  | m :: l, s, i, hm, P, hP => by
    simp only [placesS, List.mem_append] at hP
    rcases hP with hP | hP
    · by_cases hb : m.bits = 0
      · rw [if_pos hb] at hP; simp at hP
      · rw [if_neg hb] at hP
        simp only [List.mem_singleton] at hP
        subst hP
        unfold spotP
        split
        · exact .inl ⟨rfl, rfl⟩
        · right
          rcases hm m (by simp) with h | h
          · rename_i h'; exact absurd h h'
          · show 0 < m.bits
            omega
    · exact place_bit0 l _ _ (fun x hx => hm x (by simp [hx])) P hP
section
variable {rs : List (Rw × Value)} {M : Int → Ex}
theorem no_mem (hf : FromOK rs) {i : Nat} {p : Rw × Value} (hp : rs[i]? = some p) (hk : recK p.1.kind = false) : p.1.mem = [] := by
  have hlt : i < rs.length := (List.getElem?_eq_some_iff.1 hp).1
  obtain ⟨hm, hc⟩ := enter_cut (hf.1 i p hlt hp)
  have h1 : (decide (0 < p.1.mem.length) && !ownDone p.1) = false := by
    unfold moreP at hm
    simp only [Bool.or_eq_false_iff] at hm
    exact hm.2
  have h2 : ownDone p.1 = false := by unfold ownDone; rw [hk]; rfl
  rw [h2] at h1
  simpa using h1
/-- Where a walk stands: within the object of size S. -/
structure AtOK (rs : List (Rw × Value)) (M : Int → Ex) (S : Int) (a : Pl) : Prop where
  ex : ∃ (i : Nat) (p : Rw × Value), a.type = i ∧ rs[i]? = some p ∧ wholeR p.1 = true ∧ (recK p.1.kind = true ∨ p.1.kind = 14 → a.off + (M i).size ≤ S)
  lo : 0 ≤ a.off
  hi : a.off ≤ S
  bz : (a.bits = 0 ∧ a.bit = 0) ∨ 0 < a.bits
theorem at_first (hf : FromOK rs) (hM : IsMeas (rowsOf rs) M) {i : Nat} {p : Rw × Value} (hp : rs[i]? = some p) (hwh : wholeR p.1 = true) : AtOK rs M (M i).size ⟨0, i, 0, 0, 0⟩ := by
  have he := meas_ok hf hM i p hp hwh
  have := he.lo
  exact ⟨⟨i, p, rfl, hp, hwh, fun _ => by show 0 + (M i).size ≤ _; omega⟩, Int.le_refl _, by show 0 ≤ (M i).size; omega, .inl ⟨rfl, rfl⟩⟩
theorem at_size (hf : FromOK rs) (hM : IsMeas (rowsOf rs) M) {S : Int} {a : Pl} (h : AtOK rs M S a) (hS : S ≤ 16384) : (M a.type).size ≤ 16384 := by
  obtain ⟨i, p, e, hp, hw, ho⟩ := h.ex
  have lo := h.lo
  rw [e]
  by_cases hk : recK p.1.kind = true ∨ p.1.kind = 14
  · have := ho hk; omega
  · have h14 : ¬ p.1.kind = 14 := fun e => hk (.inr e)
    have hr : recK p.1.kind = false := by simpa using fun e => hk (.inl e)
    unfold wholeR at hw
    rw [if_neg h14, if_neg (by rw [hr]; decide)] at hw
    have hk2 : intK p.1.kind = true ∨ p.1.kind = 13 := by simpa using hw
    rw [meas_int hM hp hk2]
    have := width_cases _ hk2
    show widthP p.1.kind ≤ 16384
    omega
theorem arr_room (hf : FromOK rs) (hM : IsMeas (rowsOf rs) M) {i : Nat} {p : Rw × Value} (hp : rs[i]? = some p) (hwh : wholeR p.1 = true) (h14 : p.1.kind = 14) (hgt : (M i).size ≤ 16384) :
    ∃ (k : Nat) (q : Rw × Value), p.1.elem = k ∧ rs[k]? = some q ∧ wholeR q.1 = true ∧ 1 ≤ p.1.len ∧ p.1.len ≤ 16384 ∧ 1 ≤ (M p.1.elem).size ∧ (M i).size = p.1.len * (M p.1.elem).size ∧ (M i).align = (M p.1.elem).align := by
  obtain ⟨_, _, hwe, hln, _⟩ := ok_arr hf hp h14
  obtain ⟨q, hq, hwq, x0, xl⟩ := whole_at hwe
  have hlen : 1 ≤ p.1.len ∧ p.1.len ≤ 16384 := by
    unfold wholeR at hwh
    rw [if_pos h14] at hwh
    simp [lenK] at hln
    simp at hwh
    omega
  have hxe : p.1.elem = (p.1.elem.toNat : Int) := by omega
  have hE : ExOK (M p.1.elem) := by rw [hxe]; exact meas_ok hf hM _ q hq hwq
  have hMi := hM i p.1 (rows_at hp)
  unfold roomP clampE at hMi
  rw [if_pos h14] at hMi
  refine ⟨p.1.elem.toNat, q, hxe, hq, hwq, hlen.1, hlen.2, hE.lo, ?_, by rw [hMi]⟩
  have e : (M i).size = min (p.1.len * (M p.1.elem).size) 16385 := by rw [hMi]
  omega
/-- A hop stays within the object. -/
theorem hop_at (hf : FromOK rs) (hM : IsMeas (rowsOf rs) M) {S : Int} (hS : S ≤ 16384) {a : Pl} (h : AtOK rs M S a) {i : Nat} {p : Rw × Value} (hi : a.type = i) (hp : rs[i]? = some p) (nm : ByteArray) (idx : Int)
    (hh : (hopP M p.1 a nm idx).2 = true) : AtOK rs M S (hopP M p.1 a nm idx).1 := by
  have hsz := at_size hf hM h hS
  obtain ⟨i', p', e, hp', hw, ho⟩ := h.ex
  have lo := h.lo
  have hii : i = i' := by omega
  subst hii
  obtain rfl : p = p' := Option.some.inj (hp.symm.trans hp')
  rw [hi] at hsz
  unfold hopP at hh ⊢
  by_cases hn : (!nm.toList.isEmpty) = true
  · rw [if_pos hn] at hh ⊢
    simp only at hh ⊢
    have hin := found_mem hh
    generalize (foundS p.1.mem nm (pl0, false) (placesS (p.1.kind == 16) M ls0 0 p.1.mem)).1 = P at *
    cases hk : recK p.1.kind with
    | false => rw [no_mem hf hp hk] at hin; simp [placesS] at hin
    | true =>
      have hroom := ho (.inl hk)
      obtain ⟨q1, q2, m, q3, q4, q5⟩ := place_within hf hM hp hw hk hsz P hin
      have h14 : ¬ p.1.kind = 14 := by intro e; rw [e] at hk; exact absurd hk (by decide)
      have hd : p.1.done = true := by
        unfold wholeR at hw
        rw [if_neg h14, if_pos hk] at hw
        exact hw
      have hmm := ok_members hf hp hk hd
      obtain ⟨q, hq, hwq, x0, xl⟩ := whole_at (hmm m q3).1
      have hxe : m.type = (m.type.toNat : Int) := by omega
      have hb0 := place_bit0 (un := p.1.kind == 16) (M := M) p.1.mem ls0 0 (fun x hx => bits_ok hf hM (hmm x hx).1 (hmm x hx).2) P hin
      refine ⟨⟨m.type.toNat, q, by show P.type = _; omega, hq, hwq, fun hkk => ?_⟩, by show 0 ≤ P.off + a.off; omega, by show P.off + a.off ≤ S; omega, hb0⟩
      have hb1 : m.bits = -1 := by
        have hb := (hmm m q3).2
        rw [hxe, kindP_some hq] at hb
        simp only [bitsP, Bool.or_eq_true, beq_iff_eq, Bool.and_eq_true, decide_eq_true_eq] at hb
        rcases hb with hb | ⟨⟨hb, _⟩, _⟩
        · exact hb
        · simp [intK] at hb
          simp [recK] at hkk
          omega
      obtain ⟨_, _, a3⟩ := q5 hb1
      rw [hxe] at a3
      show P.off + a.off + (M (m.type.toNat : Int)).size ≤ S
      omega
  · rw [if_neg hn] at hh ⊢
    by_cases ha : p.1.kind = 14 ∧ 0 ≤ idx ∧ idx < p.1.len
    · rw [if_pos ha] at hh ⊢
      have hroom := ho (.inr ha.1)
      obtain ⟨k, q, hk, hq, hwq, l1, l2, s1, hMi, _⟩ := arr_room hf hM hp hw ha.1 hsz
      have hmul : (idx + 1) * (M p.1.elem).size ≤ p.1.len * (M p.1.elem).size := Int.mul_le_mul_of_nonneg_right (by omega) (by omega)
      have h0 : 0 ≤ idx * (M p.1.elem).size := Int.mul_nonneg ha.2.1 (by omega)
      rw [Int.add_mul, Int.one_mul] at hmul
      refine ⟨⟨k, q, hk, hq, hwq, fun _ => ?_⟩, by show 0 ≤ a.off + idx * (M p.1.elem).size; omega, by show a.off + idx * (M p.1.elem).size ≤ S; omega, .inl ⟨rfl, rfl⟩⟩
      show a.off + idx * (M p.1.elem).size + (M k).size ≤ S
      rw [← hk]
      omega
    · rw [if_neg ha] at hh
      cases hh
theorem walk_at (hf : FromOK rs) (hM : IsMeas (rowsOf rs) M) {S : Int} (hS : S ≤ 16384) : ∀ (l : List (ByteArray × Int)) {a b : Pl}, AtOK rs M S a → walkP rs M a l = some b → AtOK rs M S b
  | [], a, b, h, e => by cases e; exact h
  | x :: l, a, b, h, e => by
    obtain ⟨i, p, hi, hp, _, _⟩ := h.ex
    have hp2 : rs[a.type.toNat]? = some p := by rw [hi]; simpa using hp
    unfold walkP at e
    rw [hp2] at e
    simp only at e
    by_cases hh : (hopP M p.1 a x.1 x.2).2 = true
    · rw [if_pos hh] at e
      exact walk_at hf hM hS l (hop_at hf hM hS h hi hp x.1 x.2 hh) e
    · rw [if_neg hh] at e; cases e
theorem walk_append : ∀ (l m : List (ByteArray × Int)) (a : Pl), walkP rs M a (l ++ m) = (walkP rs M a l).bind fun b => walkP rs M b m
  | [], m, a => rfl
  | x :: l, m, a => by
    have e1 : ∀ k, walkP rs M a (x :: k) = match rs[a.type.toNat]? with | some p => if (hopP M p.1 a x.1 x.2).2 = true then walkP rs M (hopP M p.1 a x.1 x.2).1 k else none | none => none := fun _ => rfl
    rw [List.cons_append, e1, e1]
    cases rs[a.type.toNat]? with
    | none => rfl
    | some p =>
      simp only
      by_cases hh : (hopP M p.1 a x.1 x.2).2 = true
      · rw [if_pos hh, if_pos hh]; exact walk_append l m _
      · rw [if_neg hh, if_neg hh]; rfl
/-- The same place of the same type, d further on. -/
structure Far (d : Int) (a b : Pl) : Prop where
  ty : a.type = b.type
  bit : a.bit = b.bit
  bits : a.bits = b.bits
  off : a.off = b.off + d
theorem hop_far {d : Int} {a b : Pl} (h : Far d a b) (r : Rw) (nm : ByteArray) (idx : Int) : (hopP M r a nm idx).2 = (hopP M r b nm idx).2 ∧ ((hopP M r a nm idx).2 = true → Far d (hopP M r a nm idx).1 (hopP M r b nm idx).1) := by
  have ho := h.off
  unfold hopP
  split
  · exact ⟨rfl, fun _ => ⟨rfl, rfl, rfl, by simp only; omega⟩⟩
  · split
    · exact ⟨rfl, fun _ => ⟨rfl, rfl, rfl, by simp only; omega⟩⟩
    · exact ⟨rfl, fun e => by cases e⟩
/-- Both walks lead nowhere, or both somewhere, d further on. -/
theorem walk_far : ∀ (l : List (ByteArray × Int)) {d : Int} {a b : Pl}, Far d a b → (walkP rs M a l = none ∧ walkP rs M b l = none) ∨ ∃ x y, walkP rs M a l = some x ∧ walkP rs M b l = some y ∧ Far d x y
  | [], d, a, b, h => .inr ⟨a, b, rfl, rfl, h⟩
  | x :: l, d, a, b, h => by
    have e1 : walkP rs M a (x :: l) = match rs[a.type.toNat]? with | some p => if (hopP M p.1 a x.1 x.2).2 = true then walkP rs M (hopP M p.1 a x.1 x.2).1 l else none | none => none := rfl
    have e2 : walkP rs M b (x :: l) = match rs[b.type.toNat]? with | some p => if (hopP M p.1 b x.1 x.2).2 = true then walkP rs M (hopP M p.1 b x.1 x.2).1 l else none | none => none := rfl
    rw [e1, e2, ← h.ty]
    cases rs[a.type.toNat]? with
    | none => exact .inl ⟨rfl, rfl⟩
    | some p =>
      simp only
      obtain ⟨h1, h2⟩ := hop_far (M := M) h p.1 x.1 x.2
      by_cases hh : (hopP M p.1 a x.1 x.2).2 = true
      · rw [← h1, if_pos hh, if_pos hh]; exact walk_far l (h2 hh)
      · rw [← h1, if_neg hh, if_neg hh]; exact .inl ⟨rfl, rfl⟩
end
end Go.Proofs.Ytkobggbipoappaa
