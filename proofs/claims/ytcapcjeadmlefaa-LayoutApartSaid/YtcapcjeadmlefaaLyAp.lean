/-
  Members of a struct share no bit; offsets are multiples; bit-fields lie within a unit; members of a union begin at 0. (Pure.)
-/
import Derived.Test.YtcapcjeadmlefaaHLyPh
import Derived.Test.YtcapcjeadmlefaaHLyX
namespace Go.Proofs.Ytcapcjeadmlefaa
open Go.RowKit Go.Maps
set_option linter.unusedVariables false
/-- A member's first bit, and behind its last one. -/
def loP (P : Pl) : Int := 8 * P.off + P.bit
def hiP (M : Int → Ex) (P : Pl) : Int := if 0 < P.bits then 8 * P.off + P.bit + P.bits else 8 * P.off + 8 * (M P.type).size
/-- What is known of a member's type. -/
def MemOK (M : Int → Ex) (m : Mb) : Prop := ExOK (M m.type) ∧ BitsOK m (M m.type) ∧ (m.bits ≠ -1 → (M m.type).align = (M m.type).size)
theorem rup_zero {a : Int} (h : 1 ≤ a) : rup 0 a = 0 := by
  unfold rup
  rw [Int.ediv_eq_zero_of_lt (by omega) (by omega)]
  simp
theorem rup_mod {p a : Int} (h : 1 ≤ a) : rup p a % a = 0 := by
  unfold rup
  exact Int.mul_emod_left _ _
/-- A place's span, by where it begins. -/
theorem spot_span {M : Int → Ex} {p : Int} {i : Nat} {m : Mb} (hm : MemOK M m) (hp : 0 ≤ p) (hb : m.bits ≠ 0) :
    loP (spotP (beginP p m (M m.type)) i m (M m.type)) = beginP p m (M m.type) ∧ hiP M (spotP (beginP p m (M m.type)) i m (M m.type)) = beginP p m (M m.type) + takenP m (M m.type) ∧
      (spotP (beginP p m (M m.type)) i m (M m.type)).off % (M m.type).align = 0 ∧ (0 < (spotP (beginP p m (M m.type)) i m (M m.type)).bits → (spotP (beginP p m (M m.type)) i m (M m.type)).bit + (spotP (beginP p m (M m.type)) i m (M m.type)).bits ≤ 8 * (M m.type).size) ∧
      (p = 0 → (spotP (beginP p m (M m.type)) i m (M m.type)).off = 0 ∧ (spotP (beginP p m (M m.type)) i m (M m.type)).bit = 0) ∧ (spotP (beginP p m (M m.type)) i m (M m.type)).bits = max 0 m.bits := by
  obtain ⟨hE, hB, hA⟩ := hm
  have e1 := hE.lo
  have al := hE.al
  by_cases h1 : m.bits = -1
  · have hq : beginP p m (M m.type) = 8 * ((p + 8 * (M m.type).align - 1) / (8 * (M m.type).align) * (M m.type).align) := by
      unfold beginP; rw [if_pos h1, rup_mul]
    have ht : takenP m (M m.type) = 8 * (M m.type).size := by unfold takenP; rw [if_pos h1]
    have hz : p = 0 → beginP p m (M m.type) = 0 := by
      intro e; unfold beginP; rw [if_pos h1, e, rup_zero (by omega)]
    rw [ht]
    generalize hk : (p + 8 * (M m.type).align - 1) / (8 * (M m.type).align) = k at *
    unfold spotP loP hiP
    rw [if_pos h1]
    simp only
    have hd : beginP p m (M m.type) / 8 = k * (M m.type).align := by rw [hq]; omega
    rw [hd]
    refine ⟨by omega, by rw [if_neg (by omega)]; omega, Int.mul_emod_left _ _, fun h => by omega, fun e => ⟨by have := hz e; omega, by trivial⟩, by omega⟩
  · have hb0 : 0 ≤ m.bits ∧ m.bits ≤ 8 * (M m.type).size := by rcases hB with h | h; exact absurd h h1; exact h
    have ht : takenP m (M m.type) = m.bits := by unfold takenP; rw [if_neg h1]
    have hfit : beginP p m (M m.type) % (8 * (M m.type).size) + m.bits ≤ 8 * (M m.type).size := by
      unfold beginP
      rw [if_neg h1]
      split
      · rw [rup_mod (by omega)]; omega
      · rename_i hc
        have hc2 : p / (8 * (M m.type).size) = (p + m.bits - 1) / (8 * (M m.type).size) := by
          by_cases e : p / (8 * (M m.type).size) = (p + m.bits - 1) / (8 * (M m.type).size)
          · exact e
          · exact absurd (.inr e) hc
        have x1 := Int.mul_ediv_add_emod p (8 * (M m.type).size)
        have x2 := Int.mul_ediv_add_emod (p + m.bits - 1) (8 * (M m.type).size)
        have x3 := Int.emod_lt_of_pos (p + m.bits - 1) (show 0 < 8 * (M m.type).size by omega)
        rw [← hc2] at x2
        omega
    have hz : p = 0 → beginP p m (M m.type) = 0 := by
      intro e
      unfold beginP
      rw [if_neg h1, e]
      split
      · exact rup_zero (by omega)
      · rfl
    have hg := (begin_bd (m := m) hE hp).1
    rw [ht]
    generalize beginP p m (M m.type) = q at *
    have hx := Int.mul_ediv_add_emod q (8 * (M m.type).size)
    rw [Int.mul_assoc] at hx
    have hmod := Int.emod_nonneg q (show 8 * (M m.type).size ≠ 0 by omega)
    unfold spotP loP hiP
    rw [if_neg h1]
    simp only
    refine ⟨by omega, by rw [if_pos (by omega)]; omega, by rw [hA h1]; exact Int.mul_emod_right _ _, fun _ => hfit, fun e => ?_, by omega⟩
    have hq0 := hz e
    rw [hq0]
    simp
theorem span_ge {M : Int → Ex} : ∀ (l : List Mb) (n : Nat) (s : Ls) (i : Nat), LsOK n s → (∀ m ∈ l, MemOK M m) → ∀ P ∈ placesS false M s i l, s.place ≤ loP P
  | [], _, _, _, _, _, P, hP => by simp [placesS] at hP
  | m :: l, n, s, i, hs, hm, P, hP => by
    have hM := hm m (by simp)
    have hq := begin_bd (m := m) hM.1 hs.p0
    have ht := taken_bd hM.1 hM.2.1
    simp only [placesS, List.mem_append] at hP
    rcases hP with hP | hP
    · by_cases hb : m.bits = 0
      · rw [if_pos hb] at hP; simp at hP
      · rw [if_neg hb, List.mem_singleton] at hP
        have := (spot_span (i := i) hM hs.p0 hb).1
        simp only [Bool.false_eq_true, if_false] at hP
        rw [hP, this]; omega
    · have := span_ge l (n + 1) (stepP false M s m) (i + 1) (step_ok hs hM.1 hM.2.1) (fun x hx => hm x (by simp [hx])) P hP
      have e : (stepP false M s m).place = beginP s.place m (M m.type) + takenP m (M m.type) := rfl
      omega
theorem span_sorted {M : Int → Ex} : ∀ (l : List Mb) (n : Nat) (s : Ls) (i : Nat), LsOK n s → (∀ m ∈ l, MemOK M m) → (placesS false M s i l).Pairwise (fun P Q => hiP M P ≤ loP Q)
  | [], _, _, _, _, _ => by simp [placesS]
  | m :: l, n, s, i, hs, hm => by
    have hM := hm m (by simp)
    have hs1 := step_ok (un := false) hs hM.1 hM.2.1
    have ih := span_sorted l (n + 1) (stepP false M s m) (i + 1) hs1 (fun x hx => hm x (by simp [hx]))
    have hge := span_ge l (n + 1) (stepP false M s m) (i + 1) hs1 (fun x hx => hm x (by simp [hx]))
    simp only [placesS]
    by_cases hb : m.bits = 0
    · rw [if_pos hb]; simpa using ih
    · rw [if_neg hb]
      simp only [Bool.false_eq_true, if_false, List.singleton_append, List.pairwise_cons]
      refine ⟨fun Q hQ => ?_, ih⟩
      have := hge Q hQ
      rw [(spot_span (i := i) hM hs.p0 hb).2.1]
      exact this
theorem align_mono {un : Bool} {M : Int → Ex} : ∀ (l : List Mb) (s : Ls), s.align ≤ (layS un M s l).align ∧ ∀ m ∈ l, (m.name.toList == []) = false → (M m.type).align ≤ (layS un M s l).align
  | [], s => ⟨Int.le_refl _, fun m hm => by simp at hm⟩
  | a :: l, s => by
    obtain ⟨h1, h2⟩ := align_mono (un := un) (M := M) l (stepP un M s a)
    have q : (stepP un M s a).align = if a.name.toList == [] then s.align else max s.align (M a.type).align := rfl
    refine ⟨?_, fun m hm hn => ?_⟩
    · simp only [layS]
      rw [q] at h1
      split at h1 <;> omega
    · simp only [layS]
      rcases List.mem_cons.1 hm with rfl | hm
      · rw [q, if_neg (by rw [hn]; decide)] at h1
        omega
      · exact h2 m hm hn
theorem place_more {un : Bool} {M : Int → Ex} : ∀ (l : List Mb) (n : Nat) (s : Ls) (i : Nat), LsOK n s → (∀ m ∈ l, MemOK M m) → ∀ P ∈ placesS un M s i l, ∃ (j : Nat) (m : Mb), l[j]? = some m ∧ P.mem = ((i + j : Nat) : Int) ∧ P.type = m.type ∧ P.bits = max 0 m.bits ∧ 0 ≤ P.off ∧ 0 ≤ P.bit ∧ P.off % (M m.type).align = 0 ∧ (0 < P.bits → P.bit + P.bits ≤ 8 * (M m.type).size) ∧ (un = true → P.off = 0 ∧ P.bit = 0)
  | [], _, _, _, _, _, P, hP => by simp [placesS] at hP
  | m :: l, n, s, i, hs, hm, P, hP => by
    have hM := hm m (by simp)
    have hP0 := hP
    simp only [placesS, List.mem_append] at hP
    rcases hP with hP | hP
    · by_cases hb : m.bits = 0
      · rw [if_pos hb] at hP; simp at hP
      · rw [if_neg hb, List.mem_singleton] at hP
        have hp0 : 0 ≤ (if un = true then 0 else s.place) := by split; exact Int.le_refl _; exact hs.p0
        obtain ⟨q1, q2, _⟩ := place_bits (m :: l) n s i hs (fun x hx => ⟨(hm x hx).1, (hm x hx).2.1⟩) P hP0
        obtain ⟨a1, a2, a3, a4, a5, a6⟩ := spot_span (i := i) hM hp0 hb
        subst hP
        exact ⟨0, m, rfl, by rw [spot_mem']; simp, by unfold spotP; split <;> rfl, a6, q1, q2, a3, a4, fun e => a5 (by rw [if_pos e])⟩
    · obtain ⟨j, m', r1, r2, r3⟩ := place_more l (n + 1) (stepP un M s m) (i + 1) (step_ok hs hM.1 hM.2.1) (fun x hx => hm x (by simp [hx])) P hP
      exact ⟨j + 1, m', by simpa using r1, by rw [r2]; congr 1; omega, r3⟩
section
variable {rs : List (Rw × Value)} {M : Int → Ex}
theorem mem_ok (hf : FromOK rs) (hM : IsMeas (rowsOf rs) M) {i : Nat} {p : Rw × Value} (hp : rs[i]? = some p) (hwh : wholeR p.1 = true) (hk : recK p.1.kind = true) : ∀ m ∈ p.1.mem, MemOK M m ∧ wholeP rs m.type = true := by
  have h14 : ¬ p.1.kind = 14 := by intro e; rw [e] at hk; exact absurd hk (by decide)
  have hd : p.1.done = true := by
    unfold wholeR at hwh
    rw [if_neg h14, if_pos hk] at hwh
    exact hwh
  have hmem := ok_members hf hp hk hd
  intro m hm
  obtain ⟨q, hq, hwq, x0, xl⟩ := whole_at (hmem m hm).1
  have hxe : m.type = (m.type.toNat : Int) := by omega
  refine ⟨⟨?_, bits_ok hf hM (hmem m hm).1 (hmem m hm).2, fun hb => ?_⟩, (hmem m hm).1⟩
  · rw [hxe]; exact meas_ok hf hM _ q hq hwq
  · have hbb := (hmem m hm).2
    have hkind : kindP rs m.type = q.1.kind := by rw [hxe]; exact kindP_some hq
    rw [hkind] at hbb
    simp only [bitsP, Bool.or_eq_true, beq_iff_eq, Bool.and_eq_true, decide_eq_true_eq] at hbb
    rcases hbb with hbb | ⟨⟨hi, _⟩, _⟩
    · exact absurd hbb hb
    · rw [hxe, meas_int hM hq (.inl hi)]
/-- All that is known of a place of a struct or a union. -/
theorem apart_one (hf : FromOK rs) (hM : IsMeas (rowsOf rs) M) {i : Nat} {p : Rw × Value} (hp : rs[i]? = some p) (hwh : wholeR p.1 = true) (hk : recK p.1.kind = true) (hgt : (M i).size ≤ 16384) {P : Pl} (hP : P ∈ placesS (p.1.kind == 16) M ls0 0 p.1.mem) :
    ∃ (j : Nat) (m : Mb), p.1.mem[j]? = some m ∧ P.mem = (j : Int) ∧ P.type = m.type ∧ P.bits = max 0 m.bits ∧ 0 ≤ P.off ∧ 0 ≤ P.bit ∧ P.off % (M m.type).align = 0 ∧ (0 < P.bits → P.bit + P.bits ≤ 8 * (M m.type).size) ∧ ((p.1.kind == 16) = true → P.off = 0 ∧ P.bit = 0) ∧ hiP M P ≤ 8 * (M i).size ∧ (M m.type).size ≤ 16384 ∧ wholeP rs m.type = true ∧ ExOK (M m.type) ∧ ((m.name.toList == []) = false → (M i).align % (M m.type).align = 0) := by
  have hall := mem_ok hf hM hp hwh hk
  obtain ⟨_, hls, hfin, hMi⟩ := rec_size hf hM hp hwh hk hgt
  have h0 : LsOK 0 ls0 := ⟨by decide, by decide, by decide, by decide, by decide⟩
  obtain ⟨j, m, r1, r2, r3, r4, r5, r6, r7, r8, r9⟩ := place_more p.1.mem 0 ls0 0 h0 (fun m hm => (hall m hm).1) P hP
  obtain ⟨_, _, j', m', s1, s2, s3, s4, s5, s6⟩ := place_all hf hM hp hwh hk hgt P hP
  have hjj : j = j' := by omega
  subst hjj
  rw [r1] at s1
  cases s1
  have hmm := hall m (List.mem_of_getElem? r1)
  have hE := hmm.1.1
  refine ⟨j, m, r1, by rw [r2]; simp, r3, r4, r5, r6, r7, r8, r9, ?_, ?_, hmm.2, hE, fun hn => ?_⟩
  · unfold hiP
    by_cases hb : m.bits = -1
    · obtain ⟨t1, t2, t3⟩ := s5 hb
      rw [if_neg (by omega), r3]; omega
    · obtain ⟨t1, t2, t3⟩ := s6 hb
      rw [if_pos t2]; exact t3
  · by_cases hb : m.bits = -1
    · have := (s5 hb).2.2; omega
    · have e := hmm.1.2.2 hb
      have al := hE.al
      omega
  · have h2 := (align_mono (un := p.1.kind == 16) (M := M) p.1.mem ls0).2 m (List.mem_of_getElem? r1) hn
    have h3 : (M i).align = (layS (p.1.kind == 16) M ls0 p.1.mem).align := by rw [hMi]; rfl
    have a1 := hE.al
    have a2 := hls.al
    rw [h3]
    rcases a1 with a1 | a1 | a1 <;> rcases a2 with a2 | a2 | a2 <;> first | (rw [a1, a2]; decide) | (exfalso; omega)
theorem apart_two (hf : FromOK rs) (hM : IsMeas (rowsOf rs) M) {i : Nat} {p : Rw × Value} (hp : rs[i]? = some p) (hwh : wholeR p.1 = true) (hk : p.1.kind = 15) {s t : Nat} (hst : s < t) {P Q : Pl} (hP : (placesS (p.1.kind == 16) M ls0 0 p.1.mem)[s]? = some P) (hQ : (placesS (p.1.kind == 16) M ls0 0 p.1.mem)[t]? = some Q) : hiP M P ≤ loP Q := by
  have hall := mem_ok hf hM hp hwh (by rw [hk]; decide)
  have hpw := span_sorted (M := M) p.1.mem 0 ls0 0 ⟨by decide, by decide, by decide, by decide, by decide⟩ (fun m hm => (hall m hm).1)
  rw [show (p.1.kind == 16) = false by rw [hk]; decide] at hP hQ
  obtain ⟨hs, hP'⟩ := List.getElem?_eq_some_iff.1 hP
  obtain ⟨ht, hQ'⟩ := List.getElem?_eq_some_iff.1 hQ
  have := List.pairwise_iff_getElem.1 hpw s t hs ht hst
  rw [hP', hQ'] at this
  exact this
theorem size_mod (hf : FromOK rs) (hM : IsMeas (rowsOf rs) M) {i : Nat} {p : Rw × Value} (hp : rs[i]? = some p) (hwh : wholeR p.1 = true) (hk : recK p.1.kind = true) (hgt : (M i).size ≤ 16384) : (M i).size % (M i).align = 0 := by
  obtain ⟨_, hls, hfin, hMi⟩ := rec_size hf hM hp hwh hk hgt
  rw [hMi]
  have al := hls.al
  show rup _ (layS (p.1.kind == 16) M ls0 p.1.mem).align % (layS (p.1.kind == 16) M ls0 p.1.mem).align = 0
  exact rup_mod (by omega)
end
end Go.Proofs.Ytcapcjeadmlefaa
