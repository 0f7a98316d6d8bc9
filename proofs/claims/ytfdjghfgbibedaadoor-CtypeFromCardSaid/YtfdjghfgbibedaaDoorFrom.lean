/-
  From: rows become a table, or are refused.
-/
import Derived.Test.YtfdjghfgbibedaaDoorFromP
namespace Go.Proofs.YtfdjghfgbibedaaDoor
open Go.RowKit Go.Maps
set_option linter.unusedVariables false
set_option maxRecDepth 100000

def FromPost (rs : List (Rw × Value)) (w w' : World) (e : Ending) : Prop :=
  (¬ FromOK rs ∧ e = .returned (.tuple #[.pointer none, .int .i64 30])) ∨
  (FromOK rs ∧ ∃ b mb v' rs', e = .returned (.tuple #[.pointer (some ⟨b, 0, none⟩), .int .i64 0]) ∧ rs'.map (·.1) = rs.map (·.1) ∧ Tab w.heap.size w' b mb v' rs' (pairs (rowsOf rs')))

section
variable {rs rs' : List (Rw × Value)}
theorem rowsOf_fst (h : rs'.map (·.1) = rs.map (·.1)) : rowsOf rs' = rowsOf rs := h
theorem AllIn_fst (h : rs'.map (·.1) = rs.map (·.1)) {k : Nat} (ha : AllIn rs k) : AllIn rs' k := by
  intro i p hi hp
  have e := fst_at h i
  rw [hp] at e
  cases h2 : rs[i]? with
  | none => rw [h2] at e; cases e
  | some q =>
    rw [h2] at e
    have e2 : p.1 = q.1 := by simpa using e
    rw [enterB_fst h, rowsOf_fst h, e2]
    exact ha i q hi h2
theorem FromOK_fst (h : rs'.map (·.1) = rs.map (·.1)) (ha : FromOK rs) : FromOK rs' := by
  refine ⟨?_, ?_⟩
  · rw [fst_len h]; exact AllIn_fst h ha.1
  · rw [partsAt_fst h, fst_len h]; exact ha.2
theorem AllIn_parts (h : AllIn rs rs.length) : (∀ (i : Nat) (p : Rw × Value), rs[i]? = some p → ∀ x ∈ partsR p.1, 0 ≤ x ∧ x < rs.length) ∧ ∀ p : Rw × Value, p ∈ rs → p.1.mem.length ≤ 64 := by
  constructor
  · intro i p hp
    have hi : i < rs.length := (List.getElem?_eq_some_iff.1 hp).1
    exact (enter_parts (h i p hi hp) hi).1
  · intro p hp
    obtain ⟨i, hi⟩ := List.mem_iff_getElem?.1 hp
    have hlt : i < rs.length := (List.getElem?_eq_some_iff.1 hi).1
    exact (enter_parts (h i p hlt hi) hlt).2
theorem partsAt_in (h : ∀ (i : Nat) (p : Rw × Value), rs[i]? = some p → ∀ x ∈ partsR p.1, 0 ≤ x ∧ x < rs.length) : ∀ i, i < rs.length → ∀ j ∈ partsAt rs i, j < rs.length := by
  intro i hi j hj
  unfold partsAt at hj
  cases h2 : rs[i]? with
  | none => rw [h2] at hj; cases hj
  | some p =>
    rw [h2] at hj
    obtain ⟨x, hx, rfl⟩ := List.mem_map.1 hj
    have := h i p h2 x hx
    omega
end
section
variable {w : World}
theorem from_len {v : Value} {p : Option Addr} {n cap : Nat} (hv : v = .slice p n cap) (hn : n < 11 ∨ 512 < n) (hb : n ≤ 9223372036854775807) :
    Calls Tryd.prog 16 #[v] w fun e w' => e = .returned (.tuple #[.pointer none, .int .i64 30]) ∧ w' = w := by
  subst hv
  rcases hn with hn | hn
  all_goals go_enter Tryd.func16, Tryd.ntmps16
  all_goals go_wp2
  all_goals go_ret2
  all_goals exact ⟨rfl, rfl⟩

set_option maxHeartbeats 4000000 in
theorem from_c {v : Value} {rs : List (Rw × Value)} (h : RowSl w v rs) (hl1 : 11 ≤ rs.length) (hl2 : rs.length ≤ 512) (hO : ∀ p ∈ rs, Okay p.1) :
    Calls Tryd.prog 16 #[v] w fun e w' => FromPost rs w w' e ∧ Below w.heap.size w w' := by
  have hmm := @run_makeMap Tryd.prog
  have cC := copyRows_c h (by omega) (fun p hp => (hO p hp).mem)
  have h1 := not_f
  have h2 := not_t
  obtain ⟨sp, sc, rfl, hsc⟩ : ∃ sp sc, v = .slice sp rs.length sc ∧ rs.length ≤ sc := by
    rcases h.1 with ⟨_, hh⟩ | ⟨g, o, cap, hv, hc, _⟩
    · rw [hh] at hl1; simp at hl1
    · exact ⟨_, _, hv, hc⟩
  have HO : Hid (∀ p ∈ rs, Okay p.1) := hO
  clear h hO
  go_enter Tryd.func16, Tryd.ntmps16
  go_wp2_with fail
  refine cC.mono ?_
  rintro e w1 ⟨v', rs', rfl, hfst, hrows, hmems, hb1⟩
  obtain ⟨vp, vc, rfl⟩ := slice_of_own hrows
  have hlen : rs'.length = rs.length := fst_len hfst
  have hbt : ∀ (m : Value) (W : World), (Instr.build 59 #[(0, .slice vp rs'.length vc), (1, .map (some w1.heap.size))]).run Tryd.prog W = .ok (.agg #[.slice vp rs'.length vc, .map (some w1.heap.size)]) W := fun k W => by kernel_rfl
  have hbt := hbt (.bool true)
  have HB2 : Hid (Below w.heap.size w ((w1.alloc (.map #[] 0)).alloc (.cells #[.slice vp rs'.length vc, .map (some w1.heap.size)] 59))) := (hb1.alloc hb1.size _).alloc (by simp; have := hb1.size; omega) _
  have HT0 : Hid (Tab w.heap.size ((w1.alloc (.map #[] 0)).alloc (.cells #[.slice vp rs'.length vc, .map (some w1.heap.size)] 59)) (w1.heap.size + 1) w1.heap.size (.slice vp rs'.length vc) rs' []) := by
    have T : Turned w1 ((w1.alloc (.map #[] 0)).alloc (.cells #[.slice vp rs'.length vc, .map (some w1.heap.size)] 59)) (fun _ => False) := (Turned.alloc _ _ _).trans (Turned.alloc _ _ _) (fun _ _ x => x)
    exact ⟨by have := hb1.size; omega, hb1.size, heap_s2 w1 _ _, ownsRow_turned hrows T (fun _ _ hf => hf), fun p hp => ownsRow_turned (hmems p hp) T (fun _ _ hf => hf), ⟨#[], 0, heap_s1 w1 _ _, rfl⟩, fun kv hk => (by cases hk), by omega⟩
  clear hrows hmems hb1 cC
  have HFST : Hid (rs'.map (·.1) = rs.map (·.1)) := hfst
  have HLEN : Hid (rs'.length = rs.length) := hlen
  clear hfst hlen
  go_upto_region 4 with (fail)
  refine (?_ : Code.wp _ _ _ _ ((w1.alloc (.map #[] 0)).alloc (.cells #[.slice vp rs'.length vc, .map (some w1.heap.size)] 59)))
  generalize (w1.alloc (.map #[] 0)).alloc (.cells #[.slice vp rs'.length vc, .map (some w1.heap.size)] 59) = W at *
  have hc0 := HT0.out.c0
  go_wp2
  clear hc0 hbt hmm
  go_loopw [24] (fun j wr => ∃ (k : Nat), j = .int .i64 k ∧ k ≤ rs'.length ∧ Hid (Tab w.heap.size wr (w1.heap.size + 1) w1.heap.size (.slice vp rs'.length vc) rs' (pairs ((rowsOf rs').take k))) ∧ Hid (AllIn rs' k ∧ Uniq (pairs ((rowsOf rs').take k))) ∧ Hid (Below w.heap.size w wr)) (fun j _ => rs'.length - (intOf j).toNat)
  case atStart => exact ⟨0, rfl, Nat.zero_le _, HT0, ⟨fun i p hi _ => by omega, fun k a a' h1 _ => by cases h1⟩, HB2⟩
  case round =>
    obtain ⟨k, rfl, hk, HT, HA, HW⟩ := hrel
    have hl3 : rs'.length ≤ 512 := HT.out.len
    by_cases hlt : k < rs'.length
    · obtain ⟨p, hp⟩ : ∃ p, rs'[k]? = some p := ⟨_, List.getElem?_eq_getElem hlt⟩
      have hOp : Okay p.1 := by
        have e := fst_at HFST.out k
        rw [hp] at e
        cases h2 : rs[k]? with
        | none => rw [h2] at e; cases e
        | some q =>
          rw [h2] at e
          have e2 : p.1 = q.1 := by simpa using e
          rw [e2]; exact HO.out q (List.mem_of_getElem? h2)
      have cE := enter_c HT.out hp hOp HA.out.2
      obtain ⟨X, hX⟩ : ∃ X, X = enterB rs' (pairs ((rowsOf rs').take k)) k p.1 := ⟨_, rfl⟩
      rw [← hX, ← pairs_take hp] at cE
      have HX : Hid (X = _) := hX
      have HP : Hid (_ = _) := hp
      clear hX hp hOp
      cases X
      · go_wp2_with (go_at_call 41; refine cE.mono ?_; rintro e w2 ⟨rfl, ht2, h2t⟩)
        go_ret2
        refine ⟨Or.inl ⟨fun hok => ?_, rfl⟩, HW.out.trans (HT.out.below ht2)⟩
        have := (FromOK_fst HFST.out hok).1 k p hlt HP.out
        rw [← HX.out] at this; cases this
      · go_wp2_with (go_at_call 41; refine cE.mono ?_; rintro e w2 ⟨rfl, ht2, h2t⟩)
        refine ⟨⟨k + 1, by go_num, by omega, h2t trivial, ⟨?_, ?_⟩, HW.out.trans (HT.out.below ht2)⟩, by simp [intOf]; omega⟩
        · intro i q hi hq
          by_cases hik : i = k
          · subst hik
            rw [HP.out] at hq; cases hq
            exact HX.out.symm
          · exact HA.out.1 i q (by omega) hq
        · rw [pairs_take HP.out]; exact enter_uniq HX.out.symm HA.out.2
    · obtain rfl : k = rs'.length := by omega
      have hin := AllIn_parts HA.out.1
      have cC := circular_c HT.out hin.1 hin.2
      have hps : pairs ((rowsOf rs').take rs'.length) = pairs (rowsOf rs') := by rw [List.take_of_length_le (by simp [rowsOf])]
      have HIN : Hid _ := hin
      clear hin
      go_wp2_with (go_at_call 42; refine cC.mono ?_; rintro e w2 ⟨r, rfl, hb2, hr⟩)
      · rename_i hrr
        subst hrr
        go_ret2
        refine ⟨Or.inl ⟨fun hok => ?_, rfl⟩, HW.out.trans (hb2.mono HW.out.size)⟩
        exact not_cyc (partsAt_in HIN.out.1) (FromOK_fst HFST.out hok).2 hr
      · rename_i hrr
        subst hrr
        go_ret2
        refine ⟨Or.inr ⟨FromOK_fst HFST.out.symm ⟨HA.out.1, hr⟩, w1.heap.size + 1, w1.heap.size, .slice vp rs'.length vc, rs', rfl, HFST.out, ?_⟩, HW.out.trans (hb2.mono HW.out.size)⟩
        rw [← hps]; exact HT.out.keptB hb2
end
end Go.Proofs.YtfdjghfgbibedaaDoor
