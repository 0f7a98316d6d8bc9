/-
  What the law asks of a type, on both tables: the same answers.
  What the rows of a table are: pointers and arrays stand once, elements ahead; all can be read again. (Pure.)
  What Declare needs of a table's rows follows from what every table has; and that only the rows themselves matter to it. (Pure.)
-/
import Derived.Test.YtdfkkflpcamhjaaGreatDoorMDuo
import Derived.Test.YtdfkkflpcamhjaaGreatDoorMNo
import Derived.Lib.ItoaLen
import Derived.Deep.RegionHeld3
namespace Go.Proofs.YtdfkkflpcamhjaaGreatDoor
open Go.RowKit Go.Maps
set_option linter.unusedVariables false
set_option maxRecDepth 100000

theorem wf64_of {x : Int} (h1 : -9223372036854775808 ≤ x) (h2 : x ≤ 9223372036854775807) : wf64 x := by
  have e1 : IntKind.min .i64 = -9223372036854775808 := by decide
  have e2 : IntKind.max .i64 = 9223372036854775807 := by decide
  simp only [wf64, Lit.wf, e1, e2, Bool.and_eq_true, decide_eq_true_eq]
  exact ⟨h1, h2⟩
section
variable {rs : List (Rw × Value)}
theorem enter_cut {ps : List (Value × Value)} {i : Nat} {r : Rw} (h : enterB rs ps i r = true) : moreP r = false ∧ ((i < 11 ∧ r.kind = 1 + (i : Int)) ∨ (11 ≤ i ∧ (
    (r.kind = 12 ∧ tagP r.tag.data.toList = true) ∨ ((r.kind = 15 ∨ r.kind = 16) ∧ tagP r.tag.data.toList = true ∧ (r.done = false ∨ refusP rs r.mem = 0)) ∨
    (r.kind = 13 ∧ 0 ≤ r.elem ∧ r.elem < i) ∨ (r.kind = 14 ∧ 0 ≤ r.elem ∧ r.elem < i ∧ wholeP rs r.elem = true ∧ lenK r.len = true)))) := by
  unfold enterB at h
  by_cases c0 : moreP r = true
  · rw [if_pos c0] at h; cases h
  rw [if_neg c0] at h
  refine ⟨by simpa using c0, ?_⟩
  by_cases c1 : i < 11
  · rw [if_pos c1] at h
    exact Or.inl ⟨c1, by simpa using h⟩
  rw [if_neg c1] at h
  refine Or.inr ⟨by omega, ?_⟩
  by_cases c2 : r.kind = 12
  · rw [if_pos c2] at h; exact Or.inl ⟨c2, h⟩
  rw [if_neg c2] at h
  by_cases c3 : r.kind = 15 ∨ r.kind = 16
  · rw [if_pos c3] at h
    simp only [Bool.and_eq_true, Bool.or_eq_true] at h
    exact Or.inr (Or.inl ⟨c3, h.1, h.2.imp (fun x => by simpa using x) (fun x => by simpa using x)⟩)
  rw [if_neg c3] at h
  by_cases c4 : r.kind = 13
  · rw [if_pos c4] at h
    split at h
    · cases h
    · simp only [Bool.and_eq_true, decide_eq_true_eq] at h
      exact Or.inr (Or.inr (Or.inl ⟨c4, h⟩))
  rw [if_neg c4] at h
  by_cases c5 : r.kind = 14
  · rw [if_pos c5] at h
    simp only [Bool.and_eq_true] at h
    have h1 := h.1.1
    split at h1
    · cases h1
    · simp only [Bool.and_eq_true, decide_eq_true_eq] at h1
      exact Or.inr (Or.inr (Or.inr ⟨c5, h1.1, h1.2, h.1.2, h.2⟩))
  rw [if_neg c5] at h; cases h
theorem more_13 {r : Rw} (h : moreP r = false) (hk : r.kind = 13) : r.len = 0 := by
  simp only [moreP, Bool.or_eq_false_iff] at h
  have h1 := h.1
  simp only [moreHead] at h1
  rw [if_neg (by omega), if_pos hk] at h1
  simp at h1
  exact h1.1.1
theorem nameP_len {l : List UInt8} (h : nameP l = true) : l.length ≤ 63 := by
  unfold nameP at h
  split at h
  · cases h
  · simp only [Bool.and_eq_true, decide_eq_true_eq] at h; exact h.1.1
theorem tagP_len {l : List UInt8} (h : tagP l = true) : l.length ≤ 63 := by
  unfold tagP at h
  simp only [Bool.or_eq_true] at h
  rcases h with h | h
  · exact nameP_len h
  · unfold numbP at h
    simp only [Bool.and_eq_true, decide_eq_true_eq] at h
    omega
theorem size_of (s : ByteArray) : s.size = s.data.toList.length := by simp
theorem namedP_len {m : Mb} {l : List Mb} (h : namedP m l = true) : m.name.size ≤ 63 := by
  unfold namedP at h
  split at h
  · rename_i he
    rw [ByteArray.toList_eq] at he
    have : m.name.data.toList = [] := by simpa using he
    rw [size_of, this]; simp
  · simp only [Bool.and_eq_true] at h
    rw [size_of]; exact nameP_len h.1.1
theorem more_zero {r : Rw} (h : moreP r = false) : (r.kind ≠ 13 → r.kind ≠ 14 → r.elem = 0) ∧ (r.kind ≠ 14 → r.len = 0) ∧ (r.kind ≠ 12 → ¬ (r.kind = 15 ∨ r.kind = 16) → r.tag.toList = []) := by
  simp only [moreP, Bool.or_eq_false_iff] at h
  have h1 := h.1
  simp only [moreHead] at h1
  by_cases c2 : r.kind = 12
  · rw [if_pos c2] at h1; simp at h1
    exact ⟨fun _ _ => h1.1.1, fun _ => h1.1.2, fun e => absurd c2 e⟩
  rw [if_neg c2] at h1
  by_cases c3 : r.kind = 13
  · rw [if_pos c3] at h1; simp at h1
    exact ⟨fun e => absurd c3 e, fun _ => h1.1.1, fun _ _ => h1.1.2⟩
  rw [if_neg c3] at h1
  by_cases c4 : r.kind = 14
  · rw [if_pos c4] at h1; simp at h1
    exact ⟨fun _ e => absurd c4 e, fun e => absurd c4 e, fun _ _ => h1.1⟩
  rw [if_neg c4] at h1
  by_cases c5 : r.kind = 15 ∨ r.kind = 16
  · rw [if_pos c5] at h1; simp at h1
    exact ⟨fun _ _ => h1.1, fun _ => h1.2, fun _ e => absurd c5 e⟩
  rw [if_neg c5] at h1; simp at h1
  exact ⟨fun _ _ => h1.1.1.1, fun _ => h1.1.1.2, fun _ _ => h1.1.2⟩
theorem lenK_wf {n : Int} (h : lenK n = true) : -1 ≤ n ∧ n ≤ 16384 := by
  simp [lenK] at h; omega
theorem enter_okay {ps : List (Value × Value)} {i : Nat} {r : Rw} (h : enterB rs ps i r = true) (hi : i < 512) : Okay r := by
  obtain ⟨hm, hc⟩ := enter_cut h
  obtain ⟨z1, z2, z3⟩ := more_zero hm
  have hS := enter_sane h
  have hel : 0 ≤ r.elem ∧ r.elem ≤ 512 := by
    by_cases c : r.kind = 13 ∨ r.kind = 14
    · rcases hc with ⟨a, b⟩ | ⟨_, ⟨a, _⟩ | ⟨a, _⟩ | ⟨_, a, b⟩ | ⟨_, a, b, _⟩⟩ <;> omega
    · rw [z1 (by omega) (by omega)]; omega
  have hln : -1 ≤ r.len ∧ r.len ≤ 16384 := by
    by_cases c : r.kind = 14
    · rcases hc with ⟨a, b⟩ | ⟨_, ⟨a, _⟩ | ⟨a, _⟩ | ⟨a, _⟩ | ⟨_, _, _, _, a⟩⟩
      · omega
      · omega
      · omega
      · omega
      · exact lenK_wf a
    · rw [z2 c]; omega
  have htg : r.tag.size ≤ 63 := by
    by_cases c : r.kind = 12 ∨ r.kind = 15 ∨ r.kind = 16
    · rcases hc with ⟨a, b⟩ | ⟨_, ⟨_, a⟩ | ⟨_, a, _⟩ | ⟨a, _⟩ | ⟨a, _⟩⟩
      · omega
      · rw [size_of]; exact tagP_len a
      · rw [size_of]; exact tagP_len a
      · omega
      · omega
    · have := z3 (by omega) (by omega)
      rw [ByteArray.toList_eq] at this
      rw [size_of, this]; simp
  have hmm : r.mem = [] ∨ refusP rs r.mem = 0 := by
    cases hd : ownDone r with
    | false => exact Or.inl (more_mem hm hd)
    | true =>
      have h2 : (r.kind = 15 ∨ r.kind = 16) ∧ r.done = true := by simpa [ownDone, recK] using hd
      rcases hc with ⟨a, b⟩ | ⟨_, ⟨a, _⟩ | ⟨_, _, a | a⟩ | ⟨a, _⟩ | ⟨a, _⟩⟩
      · omega
      · omega
      · rw [h2.2] at a; cases a
      · exact Or.inr a
      · omega
      · omega
  refine ⟨wf64_of (by have := hS.1; omega) (by have := hS.2.1; omega), wf64_of (by omega) (by omega), wf64_of (by omega) (by omega), by omega, ?_, ?_⟩
  · rcases hmm with e | e
    · rw [e]; simp
    · have := (refus_len e).2.1; omega
  · intro m hmem
    rcases hmm with e | e
    · rw [e] at hmem; cases hmem
    · obtain ⟨pre, he⟩ := refus_err r.mem [] (refus_len e).2.2 m hmem
      have := namedP_len (memberErr_parts he).2.2.2
      omega
theorem ok_okay (h : FromOK rs) (hl : rs.length ≤ 512) : ∀ p ∈ rs, Okay p.1 := by
  intro p hp
  obtain ⟨i, hi⟩ := List.mem_iff_getElem?.1 hp
  have hlt : i < rs.length := (List.getElem?_eq_some_iff.1 hi).1
  exact enter_okay (h.1 i p hlt hi) (by omega)
theorem ok_ptr (h : FromOK rs) {i : Nat} {p : Rw × Value} (hp : rs[i]? = some p) (hk : p.1.kind = 13) : 0 ≤ p.1.elem ∧ p.1.elem < i ∧ p.1.len = 0 ∧ (keyV 13 p.1.elem 0, Value.int .i64 i) ∈ pairs (rowsOf rs) := by
  have hlt : i < rs.length := (List.getElem?_eq_some_iff.1 hp).1
  obtain ⟨hm, hc⟩ := enter_cut (h.1 i p hlt hp)
  have h0 := more_13 hm hk
  refine ⟨?_, ?_, h0, mem_pairs.2 ⟨i, p.1, by simp [rowsOf, hp], by simp [derivd, hk], by rw [hk, h0]⟩⟩
  · rcases hc with ⟨a, b⟩ | ⟨_, ⟨a, _⟩ | ⟨a, _⟩ | ⟨_, a, b⟩ | ⟨a, _⟩⟩ <;> omega
  · rcases hc with ⟨a, b⟩ | ⟨_, ⟨a, _⟩ | ⟨a, _⟩ | ⟨_, a, b⟩ | ⟨a, _⟩⟩ <;> omega
theorem ok_arr (h : FromOK rs) {i : Nat} {p : Rw × Value} (hp : rs[i]? = some p) (hk : p.1.kind = 14) : 0 ≤ p.1.elem ∧ p.1.elem < i ∧ wholeP rs p.1.elem = true ∧ lenK p.1.len = true ∧ (keyV 14 p.1.elem p.1.len, Value.int .i64 i) ∈ pairs (rowsOf rs) := by
  have hlt : i < rs.length := (List.getElem?_eq_some_iff.1 hp).1
  obtain ⟨hm, hc⟩ := enter_cut (h.1 i p hlt hp)
  have hall : 0 ≤ p.1.elem ∧ p.1.elem < i ∧ wholeP rs p.1.elem = true ∧ lenK p.1.len = true := by
    rcases hc with ⟨a, b⟩ | ⟨_, ⟨a, _⟩ | ⟨a, _⟩ | ⟨a, _⟩ | ⟨_, a⟩⟩
    · omega
    · omega
    · omega
    · omega
    · exact a
  exact ⟨hall.1, hall.2.1, hall.2.2.1, hall.2.2.2, mem_pairs.2 ⟨i, p.1, by simp [rowsOf, hp], by simp [derivd, hk], by rw [hk]⟩⟩
end
end Go.Proofs.YtdfkkflpcamhjaaGreatDoor
namespace Go.Proofs.YtdfkkflpcamhjaaGreatDoor
open Go.RowKit Go.Maps
set_option linter.unusedVariables false
set_option maxRecDepth 100000
section
variable {rs rs' : List (Rw × Value)}
theorem ok_based (h : FromOK rs) : Based rs := by
  refine ⟨fun i p hp hi => ?_, fun i p hp hi hd => ?_, fun p hp hk => ?_⟩
  · have hlt : i < rs.length := (List.getElem?_eq_some_iff.1 hp).1
    obtain ⟨_, hc⟩ := enter_cut (h.1 i p hlt hp)
    rcases hc with ⟨_, b⟩ | ⟨a, _⟩
    · exact b
    · omega
  · have hlt : i < rs.length := (List.getElem?_eq_some_iff.1 hp).1
    obtain ⟨_, hc⟩ := enter_cut (h.1 i p hlt hp)
    have hd2 : ¬ (p.1.kind = 13 ∨ p.1.kind = 14) := by simpa [derivd] using hd
    rcases hc with ⟨a, _⟩ | ⟨_, ⟨a, _⟩ | ⟨a, _⟩ | ⟨a, _⟩ | ⟨a, _⟩⟩ <;> omega
  · obtain ⟨i, hi⟩ := List.mem_iff_getElem?.1 hp
    obtain ⟨_, _, _, hl, _⟩ := ok_arr h hi hk
    simp [lenK] at hl
    omega
theorem ok_fine (h : FromOK rs) (hl : rs.length ≤ 512) : Fine rs := by
  have key : ∀ (i : Nat) (p : Rw × Value), rs[i]? = some p → (1 ≤ p.1.kind ∧ p.1.kind ≤ 16) ∧ (-1 ≤ p.1.len ∧ p.1.len ≤ 16384) ∧ p.1.tag.size ≤ 63 := by
    intro i p hp
    have hlt : i < rs.length := (List.getElem?_eq_some_iff.1 hp).1
    obtain ⟨hm, hc⟩ := enter_cut (h.1 i p hlt hp)
    obtain ⟨z1, z2, z3⟩ := more_zero hm
    refine ⟨?_, ?_, ?_⟩
    · rcases hc with ⟨a, b⟩ | ⟨_, ⟨a, _⟩ | ⟨a, _⟩ | ⟨a, _⟩ | ⟨a, _⟩⟩ <;> omega
    · by_cases c : p.1.kind = 14
      · obtain ⟨_, _, _, hq, _⟩ := ok_arr h hp c
        exact lenK_wf hq
      · rw [z2 c]; omega
    · by_cases c : p.1.kind = 12 ∨ p.1.kind = 15 ∨ p.1.kind = 16
      · rcases hc with ⟨a, b⟩ | ⟨_, ⟨_, a⟩ | ⟨_, a, _⟩ | ⟨a, _⟩ | ⟨a, _⟩⟩
        · omega
        · rw [size_of]; exact tagP_len a
        · rw [size_of]; exact tagP_len a
        · omega
        · omega
      · have := z3 (by omega) (by omega)
        rw [ByteArray.toList_eq] at this
        rw [size_of, this]; simp
  refine ⟨fun i p hp hd => ?_, fun p hp => ?_, fun p hp => ?_, fun p hp => ?_⟩
  · have hd2 : p.1.kind = 13 ∨ p.1.kind = 14 := by simpa [derivd] using hd
    rcases hd2 with hk | hk
    · obtain ⟨a, b, _⟩ := ok_ptr h hp hk
      omega
    · obtain ⟨a, b, _⟩ := ok_arr h hp hk
      omega
  · obtain ⟨i, hi⟩ := List.mem_iff_getElem?.1 hp
    exact (key i p hi).1
  · obtain ⟨i, hi⟩ := List.mem_iff_getElem?.1 hp
    have e := (key i p hi).2.1
    have := Lib.itoa_length_le p.1.len (by omega) (by omega)
    exact ⟨e.1, e.2, by omega⟩
  · obtain ⟨i, hi⟩ := List.mem_iff_getElem?.1 hp
    have e := (key i p hi).2.2
    omega
theorem declL_fst (h : rs'.map (·.1) = rs.map (·.1)) : ∀ (n : Nat) (r : Rw) (d : ByteArray), declL rs' n r d = declL rs n r d := by
  intro n
  induction n with
  | zero => intro r d; rfl
  | succ n ih =>
    intro r d
    have e := fst_at h r.elem.toNat
    simp only [declL]
    split
    · cases h1 : rs'[r.elem.toNat]? with
      | none =>
        rw [h1] at e
        cases h2 : rs[r.elem.toNat]? with
        | none => rfl
        | some q => rw [h2] at e; cases e
      | some p =>
        rw [h1] at e
        cases h2 : rs[r.elem.toNat]? with
        | none => rw [h2] at e; cases e
        | some q =>
          rw [h2] at e
          have e2 : p.1 = q.1 := by simpa using e
          simp only [e2]
          exact ih _ _
    · rfl
theorem declS_fst (h : rs'.map (·.1) = rs.map (·.1)) (i : Nat) (r : Rw) (nm : ByteArray) : declS rs' i r nm = declS rs i r nm := by
  unfold declS; rw [declL_fst h]
end
end Go.Proofs.YtdfkkflpcamhjaaGreatDoor
namespace Go.Proofs.YtdfkkflpcamhjaaGreatDoor
open Go.RowKit Go.Maps
set_option linter.unusedVariables false
set_option maxRecDepth 100000
/-- Nothing has turned since. -/
def SA (W0 Y : World) : Prop := Below W0.heap.size W0 Y
theorem SA.drew {W0 Y : World} (h : SA W0 Y) : SA W0 Y.drew := Below.drew h
theorem SA.below {W0 Y Z : World} (h : SA W0 Y) (hb : Below Y.heap.size Y Z) : SA W0 Z := Below.trans h (hb.mono (Below.size h))
theorem SA.b {W0 Y : World} (h : SA W0 Y) : Below W0.heap.size W0 Y := h
theorem SA.refl (W0 : World) : SA W0 W0 := Below.refl _ _
theorem eq_bool (c : Bool) (W : World) : (binOp BinOp.eql 4 (.bool c) (.bool c)).run Tryz.prog W = .ok (.bool true) W := by cases c <;> kernel_rfl
section
variable {B : Nat} {w : World} {b mb rb : Nat} {v rv : Value} {rs rs2 : List (Rw × Value)}
/-- Both functions Declare answer the same. -/
theorem decl_both (h : Duo B w b mb v rs rb rv rs2) (hT : Tabs w) (hN : Names w) (id : Int) (nm : ByteArray) (hs : nm.size ≤ 9223372036854775807) : ∃ (S : ByteArray) (er : Int),
    (∀ Y, Below w.heap.size w Y → Calls Tryz.prog 31 #[.pointer (some ⟨b, 0, none⟩), .int .i64 id, .string nm] Y fun e w' => e = .returned (.tuple #[.string S, .int .i64 er]) ∧ Below Y.heap.size Y w') ∧
    (∀ Y, Below w.heap.size w Y → Calls Tryz.prog 32 #[.pointer (some ⟨rb, 0, none⟩), .int .i64 id, .string nm] Y fun e w' => e = .returned (.tuple #[.string S, .int .i64 er]) ∧ Below Y.heap.size Y w') := by
  have hl := h.len
  have hl5 := h.tab.len
  have hl2 := h.len2
  cases hh : hasP rs.length id with
  | false =>
    refine ⟨⟨#[]⟩, 30, fun Y hY => ?_, fun Y hY => ?_⟩
    · exact (declare_none (h.tab.keptB hY) (by omega) id hh nm).mono (fun e w' ⟨h1, h2⟩ => ⟨h1, by rw [h2]; exact Below.refl _ _⟩)
    · exact (rDeclare_none (h.rt.below hY) id (by rw [hl2]; exact hh) nm).mono (fun e w' ⟨h1, h2⟩ => ⟨h1, by rw [h2]; exact Below.refl _ _⟩)
  | true =>
    obtain ⟨i, rfl⟩ : ∃ i : Nat, id = i := ⟨id.toNat, by simp [hasP] at hh; omega⟩
    have hi : i < rs.length := by simp [hasP] at hh; omega
    by_cases hg : (nm.toList == []) = true ∨ ((nm.toList == []) = false ∧ tagP nm.data.toList = true)
    · obtain ⟨p, hp⟩ : ∃ p, rs[i]? = some p := ⟨_, List.getElem?_eq_getElem hi⟩
      obtain ⟨p2, hp2, he⟩ : ∃ p2, rs2[i]? = some p2 ∧ p2.1 = p.1 := by
        have e := fst_at h.same i
        rw [hp] at e
        cases h1 : rs2[i]? with
        | none => rw [h1] at e; cases e
        | some q => rw [h1] at e; exact ⟨q, rfl, by simpa using e⟩
      have hsz : nm.size ≤ 100 := by
        rcases hg with hg | ⟨_, hg⟩
        · rw [ByteArray.toList_eq] at hg
          have : nm.data.toList = [] := by simpa using hg
          rw [size_of, this]; simp
        · rw [size_of]; have := tagP_len hg; omega
      have hok2 : FromOK rs2 := FromOK_fst h.same h.ok
      refine ⟨declS rs i p.1 nm, 0, fun Y hY => ?_, fun Y hY => ?_⟩
      · exact declare_c (h.tab.keptB hY) (ok_fine h.ok hl5) (hT.below hY) (hN.below hY) nm hsz (hg.imp (fun x => x) (fun x => x.2)) hp
      · have c := rDeclare_c (h.rt.below hY) (ok_fine hok2 (by omega)) (ok_based hok2) nm hsz hg hp2
        rw [declS_fst h.same, he] at c
        exact c
    · have he : (nm.toList == []) = false := by
        cases hq : (nm.toList == []) with
        | true => exact absurd (Or.inl hq) hg
        | false => rfl
      have ht : tagP nm.data.toList = false := by
        cases hq : tagP nm.data.toList with
        | true => exact absurd (Or.inr ⟨he, hq⟩) hg
        | false => rfl
      refine ⟨⟨#[]⟩, 31, fun Y hY => ?_, fun Y hY => ?_⟩
      · exact (declare_bad (h.tab.keptB hY) (by omega) i hh nm hs he ht).mono (fun e w' ⟨h1, h2⟩ => ⟨h1, by rw [h2]; exact Below.refl _ _⟩)
      · exact (rDeclare_bad (h.rt.below hY) i (by rw [hl2]; exact hh) nm hs he ht).mono (fun e w' ⟨h1, h2⟩ => ⟨h1, by rw [h2]; exact Below.refl _ _⟩)
end
end Go.Proofs.YtdfkkflpcamhjaaGreatDoor
