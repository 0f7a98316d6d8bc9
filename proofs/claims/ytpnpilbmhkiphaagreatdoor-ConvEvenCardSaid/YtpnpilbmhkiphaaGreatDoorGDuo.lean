/-
  Both: two tables of rows that came in.
  What is done to a table leaves its rows rows that make a table. (Pure.)
  The given answer's derived, Ptr, Array.
  Two tables side by side: the program's and the given answer's, with the same rows.
  The given answer's New.
  The first two tables: by New, and by rows.
-/
import Derived.Test.YtpnpilbmhkiphaaGreatDoorRefP
import Derived.Test.YtpnpilbmhkiphaaGreatDoorGFrom
import Derived.Test.YtpnpilbmhkiphaaGreatDoorNew
import Derived.Test.YtpnpilbmhkiphaaGreatDoorRefAdd
import Derived.Test.YtpnpilbmhkiphaaGreatDoorRefKind
import Derived.Test.YtpnpilbmhkiphaaGreatDoorPtrArr
import Derived.Test.YtpnpilbmhkiphaaGreatDoorRows1
import Derived.Test.YtpnpilbmhkiphaaGreatDoorRefFrom
namespace Go.Proofs.YtpnpilbmhkiphaaGreatDoor
open Go.RowKit Go.Maps
set_option linter.unusedVariables false
set_option maxRecDepth 100000

/-- A later table: no fewer rows, of the same kinds, what was whole is whole. -/
structure Ext (rs rs' : List (Rw × Value)) : Prop where
  len : rs.length ≤ rs'.length
  whole : ∀ id, wholeP rs id = true → wholeP rs' id = true
  kind : ∀ id, hasP rs.length id = true → kindP rs' id = kindP rs id

section
variable {rs rs' : List (Rw × Value)}
theorem memberErr_parts {pre : List Mb} {m : Mb} (h : memberErr rs pre m = 0) : hasP rs.length m.type = true ∧ wholeP rs m.type = true ∧ bitsP (kindP rs m.type) m.bits = true ∧ namedP m pre = true := by
  unfold memberErr at h
  split at h
  · cases h
  · rename_i h1
    split at h
    · cases h
    · rename_i h2
      split at h
      · cases h
      · rename_i h3
        split at h
        · cases h
        · rename_i h4
          exact ⟨by simpa using h1, by simpa using h2, by simpa using h3, by simpa using h4⟩
theorem memberErr_mk {pre : List Mb} {m : Mb} (h1 : hasP rs.length m.type = true) (h2 : wholeP rs m.type = true) (h3 : bitsP (kindP rs m.type) m.bits = true) (h4 : namedP m pre = true) : memberErr rs pre m = 0 := by
  unfold memberErr
  rw [if_neg (by simp [h1]), if_neg (by simp [h2]), if_neg (by simp [h3]), if_neg (by simp [h4])]
theorem hasP_mono {n n' : Nat} (hn : n ≤ n') {id : Int} (h : hasP n id = true) : hasP n' id = true := by
  simp [hasP] at h ⊢; omega
theorem memberErr_mono (hE : Ext rs rs') {pre : List Mb} {m : Mb} (h : memberErr rs pre m = 0) : memberErr rs' pre m = 0 := by
  obtain ⟨h1, h2, h3, h4⟩ := memberErr_parts h
  exact memberErr_mk (hasP_mono hE.len h1) (hE.whole _ h2) (by rw [hE.kind _ h1]; exact h3) h4
theorem refusFrom_mono (hE : Ext rs rs') : ∀ (l pre : List Mb), refusFrom rs pre l = 0 → refusFrom rs' pre l = 0
  | [], _, _ => rfl
  | a :: r, pre, h => by
    simp only [refusFrom] at h ⊢
    split at h
    · rename_i h0
      rw [if_pos (memberErr_mono hE h0)]
      exact refusFrom_mono hE r _ h
    · rename_i h0; exact absurd h h0
theorem refusP_mono (hE : Ext rs rs') {l : List Mb} (h : refusP rs l = 0) : refusP rs' l = 0 := by
  obtain ⟨h1, h2, h3⟩ := refus_len h
  unfold refusP
  rw [if_neg (by omega)]
  exact refusFrom_mono hE l [] h3
theorem enterB_mono (hE : Ext rs rs') {ps : List (Value × Value)} {i : Nat} {r : Rw} (h : enterB rs ps i r = true) : enterB rs' ps i r = true := by
  have q1 : (refusP rs r.mem == 0) = true → (refusP rs' r.mem == 0) = true := by
    intro h; simp only [beq_iff_eq] at h ⊢; exact refusP_mono hE h
  have q2 := hE.whole r.elem
  unfold enterB at h ⊢
  by_cases c0 : moreP r = true
  · rw [if_pos c0] at h; cases h
  rw [if_neg c0] at h ⊢
  by_cases c1 : i < 11
  · rw [if_pos c1] at h ⊢; exact h
  rw [if_neg c1] at h ⊢
  by_cases c2 : r.kind = 12
  · rw [if_pos c2] at h ⊢; exact h
  rw [if_neg c2] at h ⊢
  by_cases c3 : r.kind = 15 ∨ r.kind = 16
  · rw [if_pos c3] at h ⊢
    simp only [Bool.and_eq_true, Bool.or_eq_true] at h ⊢
    exact ⟨h.1, h.2.imp id q1⟩
  rw [if_neg c3] at h ⊢
  by_cases c4 : r.kind = 13
  · rw [if_pos c4] at h ⊢; exact h
  rw [if_neg c4] at h ⊢
  by_cases c5 : r.kind = 14
  · rw [if_pos c5] at h ⊢
    simp only [Bool.and_eq_true] at h ⊢
    exact ⟨⟨h.1.1, q2 h.1.2⟩, h.2⟩
  rw [if_neg c5] at h; cases h

theorem refus_whole {l : List Mb} (h : refusP rs l = 0) : ∀ m ∈ l, wholeP rs m.type = true := by
  intro m hm
  obtain ⟨pre, he⟩ := refus_err l [] (refus_len h).2.2 m hm
  exact (memberErr_parts he).2.1
/-- An entered row's parts are whole. -/
theorem enter_whole {ps : List (Value × Value)} {i : Nat} {r : Rw} (h : enterB rs ps i r = true) : ∀ x ∈ partsR r, wholeP rs x = true := by
  intro x hx
  unfold enterB at h
  by_cases c0 : moreP r = true
  · rw [if_pos c0] at h; cases h
  have c0' : moreP r = false := by simpa using c0
  rw [if_neg c0] at h
  unfold partsR at hx
  by_cases c5 : r.kind = 14
  · rw [if_pos c5, List.mem_singleton] at hx
    subst hx
    by_cases c1 : i < 11
    · rw [if_pos c1] at h
      have : r.kind = 1 + (i : Int) := by simpa using h
      omega
    · rw [if_neg c1, if_neg (by omega), if_neg (by omega), if_neg (by omega), if_pos c5] at h
      simp only [Bool.and_eq_true] at h
      exact h.1.2
  · rw [if_neg c5] at hx
    obtain ⟨m, hm, rfl⟩ := List.mem_map.1 hx
    by_cases hd : ownDone r = true
    · have h2 : (r.kind = 15 ∨ r.kind = 16) ∧ r.done = true := by simpa [ownDone, recK] using hd
      by_cases c1 : i < 11
      · rw [if_pos c1] at h
        have : r.kind = 1 + (i : Int) := by simpa using h
        omega
      · rw [if_neg c1, if_neg (by omega), if_pos h2.1, h2.2] at h
        simp only [Bool.and_eq_true, Bool.or_eq_true] at h
        rcases h.2 with h3 | h3
        · cases h3
        · exact refus_whole (by simpa using h3) m hm
    · rw [more_mem c0' (by simpa using hd)] at hm; cases hm

theorem whole_at {x : Int} (h : wholeP rs x = true) : ∃ p, rs[x.toNat]? = some p ∧ wholeR p.1 = true ∧ 0 ≤ x ∧ x.toNat < rs.length := by
  unfold wholeP at h
  split at h
  · rename_i h0
    cases hp : rs[x.toNat]? with
    | none => rw [hp] at h; cases h
    | some p => rw [hp] at h; exact ⟨p, rfl, h, h0, (List.getElem?_eq_some_iff.1 hp).1⟩
  · cases h
theorem le_foldr : ∀ (l : List Nat) (x : Nat), x ∈ l → x ≤ l.foldr max 0 := by
  intro l
  induction l with
  | nil => intro x hx; cases hx
  | cons a l ih =>
    intro x hx
    simp only [List.foldr_cons]
    rcases List.mem_cons.1 hx with rfl | hx
    · exact Nat.le_max_left _ _
    · exact Nat.le_trans (ih x hx) (Nat.le_max_right _ _)
/-- One type turns that is part of none: no circle comes of it. -/
theorem acyc_turn {P P' : Nat → List Nat} {n n' i0 : Nat} (h : Acyc P n) (hP : ∀ i, i < n' → i ≠ i0 → i < n ∧ P' i = P i) (hout : ∀ i, i < n' → ∀ j ∈ P' i, j ≠ i0) : Acyc P' n' := by
  obtain ⟨rank, h⟩ := h
  refine ⟨fun i => if i = i0 then ((P' i0).map rank).foldr max 0 + 1 else rank i, fun i hi j hj => ?_⟩
  have hne := hout i hi j hj
  simp only [hne, if_false]
  by_cases hik : i = i0
  · subst hik
    simp only [if_true]
    exact Nat.lt_succ_of_le (le_foldr _ _ (List.mem_map.2 ⟨j, hj, rfl⟩))
  · simp only [hik, if_false]
    obtain ⟨h1, h2⟩ := hP i hi hik
    rw [h2] at hj
    exact h i h1 j hj

theorem append_ext (x : Rw × Value) : Ext rs (rs ++ [x]) := by
  have hat : ∀ k, k < rs.length → (rs ++ [x])[k]? = rs[k]? := fun k hk => List.getElem?_append_left hk
  refine ⟨by simp, fun id h => ?_, fun id h => ?_⟩
  · obtain ⟨p, hp, hw, h0, hl⟩ := whole_at h
    unfold wholeP
    rw [if_pos h0, hat _ hl, hp]; exact hw
  · have h2 : 0 ≤ id ∧ id < rs.length := by simpa [hasP] using h
    unfold kindP
    rw [if_pos h2.1, if_pos h2.1, hat _ (by omega)]
theorem FromOK.more (h : FromOK rs) {r : Rw} (hr : enterB rs (pairs (rowsOf rs)) rs.length r = true) (s : Value) : FromOK (rs ++ [(r, s)]) := by
  have hE := append_ext (rs := rs) (r, s)
  have hat : ∀ k, k < rs.length → (rs ++ [(r, s)])[k]? = rs[k]? := fun k hk => List.getElem?_append_left hk
  have hlast : (rs ++ [(r, s)])[rs.length]? = some (r, s) := by simp
  have hall : AllIn (rs ++ [(r, s)]) (rs ++ [(r, s)]).length := by
    intro i p hi hp
    have htk : ∀ k, k ≤ rs.length → (rowsOf (rs ++ [(r, s)])).take k = (rowsOf rs).take k := by
      intro k hk
      simp only [rowsOf, List.map_append]
      exact List.take_append_of_le_length (by simpa using hk)
    simp only [List.length_append, List.length_singleton] at hi
    rw [htk i (by omega)]
    by_cases hlt : i < rs.length
    · rw [hat i hlt] at hp
      exact enterB_mono hE (h.1 i p hlt hp)
    · obtain rfl : i = rs.length := by omega
      rw [hlast] at hp
      cases hp
      rw [show (rowsOf rs).take rs.length = rowsOf rs by rw [List.take_of_length_le]; simp [rowsOf]]
      exact enterB_mono hE hr
  refine ⟨hall, ?_⟩
  have hpa : ∀ i, i < rs.length → partsAt (rs ++ [(r, s)]) i = partsAt rs i := by
    intro i hi; unfold partsAt; rw [hat i hi]
  refine acyc_turn (i0 := rs.length) h.2 (fun i hi hne => ?_) (fun i hi j hj => ?_)
  · simp at hi
    exact ⟨by omega, hpa i (by omega)⟩
  · simp at hi
    have hx : ∃ x, wholeP rs x = true ∧ j = x.toNat := by
      by_cases hlt : i < rs.length
      · rw [hpa i hlt] at hj
        unfold partsAt at hj
        obtain ⟨p, hp⟩ : ∃ p, rs[i]? = some p := ⟨_, List.getElem?_eq_getElem hlt⟩
        rw [hp] at hj
        obtain ⟨x, hx, rfl⟩ := List.mem_map.1 hj
        exact ⟨x, enter_whole (h.1 i p hlt hp) x hx, rfl⟩
      · obtain rfl : i = rs.length := by omega
        unfold partsAt at hj
        rw [hlast] at hj
        obtain ⟨x, hx, rfl⟩ := List.mem_map.1 hj
        exact ⟨x, enter_whole hr x hx, rfl⟩
    obtain ⟨x, hw, rfl⟩ := hx
    obtain ⟨_, _, _, _, hl⟩ := whole_at hw
    omega

theorem set_at {i k : Nat} {x : Rw × Value} (hi : i < rs.length) : (rs.set i x)[k]? = if k = i then some x else rs[k]? := by
  rw [List.getElem?_set]
  by_cases h : i = k
  · subst h; simp [hi]
  · rw [if_neg h, if_neg (fun e => h e.symm)]
theorem set_ext {i : Nat} {r : Rw} {s0 s : Value} {l : List Mb} (hp : rs[i]? = some (r, s0)) (hk : recK r.kind = true) (hd : r.done = false) : Ext rs (rs.set i ({ r with mem := l, done := true }, s)) := by
  have hi : i < rs.length := (List.getElem?_eq_some_iff.1 hp).1
  have hkk : r.kind = 15 ∨ r.kind = 16 := by simpa [recK] using hk
  refine ⟨by simp, fun id h => ?_, fun id h => ?_⟩
  · obtain ⟨p, hq, hw, h0, hl⟩ := whole_at h
    unfold wholeP
    rw [if_pos h0, set_at hi]
    by_cases e : id.toNat = i
    · rw [if_pos e]
      simp only [wholeR]
      rw [if_neg (by omega), if_pos hk]
    · rw [if_neg e, hq]; exact hw
  · have h2 : 0 ≤ id ∧ id < rs.length := by simpa [hasP] using h
    unfold kindP
    rw [if_pos h2.1, if_pos h2.1, set_at hi]
    by_cases e : id.toNat = i
    · rw [if_pos e, e, hp]
    · rw [if_neg e]
theorem moreP_done {r : Rw} {l : List Mb} (hk : recK r.kind = true) (h : moreP r = false) : moreP { r with mem := l, done := true } = false := by
  have hkk : r.kind = 15 ∨ r.kind = 16 := by simpa [recK] using hk
  simp only [moreP, Bool.or_eq_false_iff] at h ⊢
  refine ⟨?_, by simp [ownDone, hk]⟩
  have h1 := h.1
  simp only [moreHead] at h1 ⊢
  rw [if_neg (by omega), if_neg (by omega), if_neg (by omega), if_pos hkk] at h1 ⊢
  exact h1
theorem zip_set0 {r r' : Rw} (h1 : derivd r = false) (h2 : derivd r' = false) : ∀ (l : List Rw) (n i : Nat), l[i]? = some r → ((l.set i r').zipIdx n).filterMap pairOf = (l.zipIdx n).filterMap pairOf
  | [], _, _, h => by simp at h
  | a :: t, n, 0, h => by
    have e : a = r := by simpa using h
    subst e
    simp [pairOf, h1, h2]
  | a :: t, n, i + 1, h => by
    have e := zip_set0 h1 h2 t (n + 1) i (by simpa using h)
    rw [List.set_cons_succ, List.zipIdx_cons, List.zipIdx_cons, List.filterMap_cons, List.filterMap_cons, e]
theorem pairs_set0 {k i : Nat} {r r' : Rw} {s0 s : Value} (hp : rs[i]? = some (r, s0)) (h1 : derivd r = false) (h2 : derivd r' = false) : pairs ((rowsOf (rs.set i (r', s))).take k) = pairs ((rowsOf rs).take k) := by
  have e : rowsOf (rs.set i (r', s)) = (rowsOf rs).set i r' := by simp [rowsOf, List.map_set]
  rw [e, List.take_set]
  by_cases hik : i < k
  · exact zip_set0 h1 h2 _ 0 i (by rw [List.getElem?_take, if_pos hik]; simp [rowsOf, hp])
  · rw [List.set_eq_of_length_le (by simp; omega)]
theorem FromOK.set (h : FromOK rs) {i : Nat} {r : Rw} {s0 : Value} {l : List Mb} (hp : rs[i]? = some (r, s0)) (hk : recK r.kind = true) (hd : r.done = false) (hl : refusP rs l = 0) (s : Value) : FromOK (rs.set i ({ r with mem := l, done := true }, s)) := by
  have hi : i < rs.length := (List.getElem?_eq_some_iff.1 hp).1
  have hkk : r.kind = 15 ∨ r.kind = 16 := by simpa [recK] using hk
  have hE := set_ext (l := l) (s := s) hp hk hd
  have hd1 : derivd r = false := by simp [derivd]; omega
  have hd2 : derivd { r with mem := l, done := true } = false := by simp [derivd]; omega
  have hr := h.1 i (r, s0) hi hp
  have hall : AllIn (rs.set i ({ r with mem := l, done := true }, s)) (rs.set i ({ r with mem := l, done := true }, s)).length := by
    intro j p hj hq
    rw [pairs_set0 hp hd1 hd2]
    rw [set_at hi] at hq
    rw [List.length_set] at hj
    by_cases e : j = i
    · subst e
      rw [if_pos rfl] at hq
      cases hq
      simp only at hr ⊢
      unfold enterB at hr ⊢
      by_cases c0 : moreP r = true
      · rw [if_pos c0] at hr; cases hr
      have c0' : moreP r = false := by simpa using c0
      rw [if_neg c0] at hr
      rw [if_neg (by rw [moreP_done hk c0']; simp)]
      by_cases c1 : j < 11
      · rw [if_pos c1] at hr
        have : r.kind = 1 + (j : Int) := by simpa using hr
        omega
      · rw [if_neg c1, if_neg (by omega), if_pos hkk] at hr
        rw [if_neg c1, if_neg (by show ¬ r.kind = 12; omega), if_pos hkk]
        simp only [Bool.and_eq_true, Bool.or_eq_true] at hr ⊢
        exact ⟨hr.1, Or.inr (by simpa using refusP_mono hE hl)⟩
    · rw [if_neg e] at hq
      exact enterB_mono hE (h.1 j p hj hq)
  refine ⟨hall, ?_⟩
  have hpa : ∀ j, j ≠ i → partsAt (rs.set i ({ r with mem := l, done := true }, s)) j = partsAt rs j := by
    intro j hj; unfold partsAt; rw [set_at hi, if_neg hj]
  refine acyc_turn (i0 := i) h.2 (fun j hj hne => ?_) (fun j hj y hy => ?_)
  · rw [List.length_set] at hj
    exact ⟨hj, hpa j hne⟩
  · rw [List.length_set] at hj
    have hx : ∃ x, wholeP rs x = true ∧ y = x.toNat := by
      by_cases e : j = i
      · subst e
        unfold partsAt at hy
        rw [set_at hi, if_pos rfl] at hy
        obtain ⟨x, hx, rfl⟩ := List.mem_map.1 hy
        unfold partsR at hx
        rw [if_neg (by show ¬ r.kind = 14; omega)] at hx
        obtain ⟨m, hm, rfl⟩ := List.mem_map.1 hx
        exact ⟨_, refus_whole hl m hm, rfl⟩
      · rw [hpa j e] at hy
        unfold partsAt at hy
        obtain ⟨p, hq⟩ : ∃ p, rs[j]? = some p := ⟨_, List.getElem?_eq_getElem hj⟩
        rw [hq] at hy
        obtain ⟨x, hx, rfl⟩ := List.mem_map.1 hy
        exact ⟨x, enter_whole (h.1 j p hj hq) x hx, rfl⟩
    obtain ⟨x, hw, rfl⟩ := hx
    intro e
    obtain ⟨p, hq, hw2, _, _⟩ := whole_at hw
    rw [e, hp] at hq
    cases hq
    simp only [wholeR] at hw2
    rw [if_neg (by omega), if_pos hk, hd] at hw2
    cases hw2

theorem enter_tag {k : Int} (hk : k = 12 ∨ k = 15 ∨ k = 16) {s : ByteArray} (ht : tagP s.data.toList = true) (hl : 11 ≤ rs.length) (ps : List (Value × Value)) : enterB rs ps rs.length ⟨k, 0, 0, s, [], false⟩ = true := by
  unfold enterB
  have c0 : moreP ⟨k, 0, 0, s, [], false⟩ = false := by
    simp only [moreP, moreHead]
    rcases hk with rfl | rfl | rfl <;> simp
  rw [if_neg (by rw [c0]; simp), if_neg (by omega)]
  simp only
  rcases hk with rfl | hk
  · rw [if_pos rfl]; exact ht
  · rw [if_neg (by omega), if_pos hk, ht]; rfl
theorem enter_der {k e n : Int} (hk : k = 13 ∨ k = 14) (he : 0 ≤ e ∧ e < rs.length) (h13 : k = 13 → n = 0) (hW : k = 14 → wholeP rs e = true) (hlen : k = 14 → lenK n = true) (hl : 11 ≤ rs.length) {ps : List (Value × Value)} (hno : ∀ kv ∈ ps, kv.1 ≠ keyV k e n) :
    enterB rs ps rs.length ⟨k, e, n, ⟨#[]⟩, [], false⟩ = true := by
  have ht : ¬ twiceB ps ⟨k, e, n, ⟨#[]⟩, [], false⟩ := by
    rintro ⟨kv, h1, h2⟩; exact hno kv h1 h2
  unfold enterB
  have c0 : moreP ⟨k, e, n, ⟨#[]⟩, [], false⟩ = false := by
    simp only [moreP, moreHead]
    rcases hk with rfl | rfl
    · rw [h13 rfl]; simp
    · simp
  rw [if_neg (by rw [c0]; simp), if_neg (by omega)]
  simp only
  rw [if_neg (by omega), if_neg (by omega)]
  rcases hk with rfl | rfl
  · rw [if_pos rfl, if_neg ht]; simp; omega
  · rw [if_neg (by omega), if_pos rfl, if_neg ht, hW rfl, hlen rfl]; simp; omega
theorem fromOK_new : FromOK (basicRows 11) := by
  constructor
  · intro i p hi hp
    have hi' : i < 11 := hi
    have : i = 0 ∨ i = 1 ∨ i = 2 ∨ i = 3 ∨ i = 4 ∨ i = 5 ∨ i = 6 ∨ i = 7 ∨ i = 8 ∨ i = 9 ∨ i = 10 := by omega
    rcases this with rfl | rfl | rfl | rfl | rfl | rfl | rfl | rfl | rfl | rfl | rfl <;>
    · simp only [basicRows, List.getElem?_map, List.getElem?_range hi', Option.map_some, Option.some.injEq] at hp
      subst hp
      unfold enterB
      rw [if_neg (by simp [moreP, moreHead, basic]), if_pos (by decide)]
      decide
  · refine ⟨fun _ => 0, fun i hi j hj => ?_⟩
    have hi' : i < 11 := hi
    have : i = 0 ∨ i = 1 ∨ i = 2 ∨ i = 3 ∨ i = 4 ∨ i = 5 ∨ i = 6 ∨ i = 7 ∨ i = 8 ∨ i = 9 ∨ i = 10 := by omega
    exfalso
    rcases this with rfl | rfl | rfl | rfl | rfl | rfl | rfl | rfl | rfl | rfl | rfl <;> cases hj
end
end Go.Proofs.YtpnpilbmhkiphaaGreatDoor
namespace Go.Proofs.YtpnpilbmhkiphaaGreatDoor
open Go.RowKit Go.Maps
set_option linter.unusedVariables false
set_option maxRecDepth 100000

def likeK (k e n : Int) (q : Rw) : Bool := q.kind == k && q.elem == e && q.len == n

section
variable {w : World} {b : Nat} {v : Value} {rs : List (Rw × Value)}
theorem RT.read {w : World} {b : Nat} {v : Value} {rs : List (Rw × Value)} (h : RT w b v rs) (hn : 0 < rs.length) : ∃ g o c, v = .slice (some ⟨g, o, none⟩) rs.length c ∧ rs.length ≤ c ∧ g < w.heap.size ∧ ∀ k q, rs[k]? = some q → ∀ j, j < 6 → w.cell? ⟨g, o + k * 6 + j, none⟩ = (rwCells q.1 q.2)[j]? := by
  rcases h.rows.1 with ⟨_, hh⟩ | ⟨g, o, cap, hv, hc, hg, hq⟩
  · rw [hh] at hn; simp at hn
  · exact ⟨g, o, cap, hv, hc, hg, hq⟩

end
end Go.Proofs.YtpnpilbmhkiphaaGreatDoor


namespace Go.Proofs.YtpnpilbmhkiphaaGreatDoor
open Go.RowKit Go.Maps
set_option linter.unusedVariables false
set_option maxRecDepth 100000

structure Duo (B : Nat) (w : World) (b mb : Nat) (v : Value) (rs : List (Rw × Value)) (rb : Nat) (rv : Value) (rs2 : List (Rw × Value)) : Prop where
  tab : Tab B w b mb v rs (pairs (rowsOf rs))
  ref : RTab B w rb rv rs2
  same : rs2.map (·.1) = rs.map (·.1)
  apart : ∀ k, v.ownBlock = some k → rv.ownBlock ≠ some k
  len : 11 ≤ rs.length
  small : Small rs
  uniq : Uniq (pairs (rowsOf rs))
  sane : ∀ p ∈ rs, Sane p.1
  ok : FromOK rs

section
variable {B : Nat} {w w' : World} {b mb rb : Nat} {v rv : Value} {rs rs2 : List (Rw × Value)}
theorem ty_ne {w : World} {k : Nat} {c1 c2 : Array Value} {t1 t2 : TypeId} (h1 : w.heap[k]? = some (.cells c1 t1 (0, 0))) (h2 : w.heap[k]? = some (.cells c2 t2 (0, 0))) (hne : t1 ≠ t2) : False := by
  rw [h1] at h2; injection h2 with e; injection e with _ e; exact hne e
theorem map_ne {w : World} {k : Nat} {c1 : Array Value} {t1 : TypeId} {es : Array MapEntry} {ck : Nat} (h1 : w.heap[k]? = some (.cells c1 t1 (0, 0))) (h2 : w.heap[k]? = some (.map es ck)) : False := by
  rw [h1] at h2; cases h2

/-- What the program's table turns leaves the given answer's as it is. -/
theorem Duo.ref_kept (h : Duo B w b mb v rs rb rv rs2) (ht : Turned w w' (own b mb v)) : RTab B w' rb rv rs2 := by
  obtain ⟨es, ck, hm, _⟩ := h.tab.map
  refine h.ref.kept ht ?_ ?_
  · rintro k (rfl | hk) hown
    · rcases hown with rfl | rfl | hv
      · exact ty_ne h.ref.tab h.tab.tab (by decide)
      · exact map_ne h.ref.tab hm
      · obtain ⟨_, cur, hc⟩ := ownsRow_at h.tab.rows hv
        exact ty_ne h.ref.tab hc (by decide)
    · obtain ⟨_, c0, h0⟩ := ownsRow_at h.ref.rows hk
      rcases hown with rfl | rfl | hv
      · exact ty_ne h0 h.tab.tab (by decide)
      · exact map_ne h0 hm
      · exact h.apart k hv hk
  · intro p hp k hk hown
    obtain ⟨_, c0, h0⟩ := ownsRow_at (h.ref.mems p hp) hk
    rcases hown with rfl | rfl | hv
    · exact ty_ne h0 h.tab.tab (by decide)
    · exact map_ne h0 hm
    · obtain ⟨_, cur, hc⟩ := ownsRow_at h.tab.rows hv
      exact ty_ne h0 hc (by decide)
/-- What the given answer's table turns leaves a program's as it is. -/
theorem tab_kept {B' : Nat} {ps : List (Value × Value)} (h : Tab B' w b mb v rs ps) (hr : RTab B w rb rv rs2) (hap : ∀ k, v.ownBlock = some k → rv.ownBlock ≠ some k) (ht : Turned w w' (RTab.rown rb rv)) : Tab B' w' b mb v rs ps := by
  obtain ⟨es, ck, hm, _⟩ := h.map
  refine h.kept ht ?_ ?_
  · rintro k hown (rfl | hk)
    · rcases hown with rfl | rfl | hv
      · exact ty_ne hr.tab h.tab (by decide)
      · exact map_ne hr.tab hm
      · obtain ⟨_, cur, hc⟩ := ownsRow_at h.rows hv
        exact ty_ne hr.tab hc (by decide)
    · obtain ⟨_, c0, h0⟩ := ownsRow_at hr.rows hk
      rcases hown with rfl | rfl | hv
      · exact ty_ne h0 h.tab (by decide)
      · exact map_ne h0 hm
      · exact hap k hv hk
  · intro p hp k hk hown
    obtain ⟨_, c0, h0⟩ := ownsRow_at (h.mems p hp) hk
    rcases hown with rfl | hv
    · exact ty_ne h0 hr.tab (by decide)
    · obtain ⟨_, cur, hc⟩ := ownsRow_at hr.rows hv
      exact ty_ne h0 hc (by decide)
theorem Duo.below (h : Duo B w b mb v rs rb rv rs2) (hb : Below w.heap.size w w') : Duo B w' b mb v rs rb rv rs2 :=
  ⟨h.tab.keptB hb, h.ref.keptB hb, h.same, h.apart, h.len, h.small, h.uniq, h.sane, h.ok⟩
theorem Duo.len2 (h : Duo B w b mb v rs rb rv rs2) : rs2.length = rs.length := fst_len h.same
theorem Duo.rt (h : Duo B w b mb v rs rb rv rs2) : RT w rb rv rs2 := ⟨h.ref.c0, h.ref.rowSl, by have := h.len2; have := h.tab.len; omega⟩

/-- A row more in both. -/
theorem Duo.more {w2 : World} {v' rv' : Value} {r : Rw} {s s2 : Value} (h : Duo B w b mb v rs rb rv rs2)
    (h1 : Tab B w2 b mb v' (rs ++ [(r, s)]) (pairs (rowsOf (rs ++ [(r, s)])))) (h2 : RTab B w2 rb rv' (rs2 ++ [(r, s2)])) (hap : ∀ k, v'.ownBlock = some k → rv'.ownBlock ≠ some k)
    (hm : r.mem.length ≤ 64) (hu : Uniq (pairs (rowsOf (rs ++ [(r, s)])))) (hs : Sane r) (hok : FromOK (rs ++ [(r, s)])) : Duo B w2 b mb v' (rs ++ [(r, s)]) rb rv' (rs2 ++ [(r, s2)]) := by
  refine ⟨h1, h2, by simp [h.same], hap, by have := h.len; simp; omega, ?_, hu, ?_, hok⟩
  · intro p hp
    rw [List.mem_append, List.mem_singleton] at hp
    rcases hp with hp | rfl
    · exact h.small p hp
    · exact hm
  · intro p hp
    rw [List.mem_append, List.mem_singleton] at hp
    rcases hp with hp | rfl
    · exact h.sane p hp
    · exact hs

theorem rowsOf_snoc (r : Rw) (s : Value) : rowsOf (rs ++ [(r, s)]) = rowsOf rs ++ [r] := by simp [rowsOf]
theorem pairs_plain {r : Rw} {s : Value} (hd : derivd r = false) : pairs (rowsOf (rs ++ [(r, s)])) = pairs (rowsOf rs) := by
  rw [rowsOf_snoc, pairs_snoc, hd]; simp
theorem pairs_deriv {r : Rw} {s : Value} (hd : derivd r = true) : pairs (rowsOf (rs ++ [(r, s)])) = pairs (rowsOf rs) ++ [(keyV r.kind r.elem r.len, .int .i64 rs.length)] := by
  rw [rowsOf_snoc, pairs_snoc, hd]; simp [rowsOf]
/-- Is there a pointer or an array like it? By the map and by the rows. -/
theorem pair_row {k e n : Int} (hk : k = 13 ∨ k = 14) {i : Nat} : (keyV k e n, Value.int .i64 i) ∈ pairs (rowsOf rs) ↔ ∃ p, rs[i]? = some p ∧ likeK k e n p.1 = true := by
  rw [mem_pairs]
  constructor
  · rintro ⟨j, r, hj, hd, he⟩
    injection he with e1 e2
    injection e2 with _ e2
    have hij : i = j := by omega
    subst hij
    obtain ⟨a1, a2, a3⟩ := keyV_inj e1
    simp only [rowsOf, List.getElem?_map] at hj
    cases h2 : rs[i]? with
    | none => rw [h2] at hj; cases hj
    | some p =>
      rw [h2] at hj
      have : p.1 = r := by simpa using hj
      exact ⟨p, rfl, by simp [likeK, this, a1, a2, a3]⟩
  · rintro ⟨p, hp, hl⟩
    simp only [likeK, Bool.and_eq_true, beq_iff_eq] at hl
    refine ⟨i, p.1, by simp [rowsOf, hp], ?_, by rw [hl.1.1, hl.1.2, hl.2]⟩
    simp [derivd, hl.1.1]; omega
theorem key_row {k e n : Int} (hk : k = 13 ∨ k = 14) (h : ∃ kv ∈ pairs (rowsOf rs), kv.1 = keyV k e n) : ∃ (i : Nat) (p : Rw × Value), rs[i]? = some p ∧ likeK k e n p.1 = true := by
  obtain ⟨kv, hkv, he⟩ := h
  obtain ⟨j, r, hj, hd, rfl⟩ := mem_pairs.1 hkv
  have : (keyV k e n, Value.int .i64 j) ∈ pairs (rowsOf rs) := by rw [← he]; exact hkv
  obtain ⟨p, hp, hl⟩ := (pair_row hk).1 this
  exact ⟨j, p, hp, hl⟩
end
end Go.Proofs.YtpnpilbmhkiphaaGreatDoor
namespace Go.Proofs.YtpnpilbmhkiphaaGreatDoor
open Go.RowKit Go.Maps
set_option linter.unusedVariables false
set_option maxRecDepth 100000

theorem rtab_empty (w : World) : RTab w.heap.size (w.alloc (.cells #[.slice none 0 0] TT)) w.heap.size (.slice none 0 0) (basicRows 0) :=
  ⟨Nat.le_refl _, heap_r0 w _, World.ownsRow_nil _ _ _ _, fun p hp => by cases hp⟩

end Go.Proofs.YtpnpilbmhkiphaaGreatDoor
namespace Go.Proofs.YtpnpilbmhkiphaaGreatDoor
open Go.RowKit Go.Maps
set_option linter.unusedVariables false
set_option maxRecDepth 100000

section
variable {B : Nat} {w w1 w2 w3 : World} {b mb rb : Nat} {v rv : Value} {rs rs2 : List (Rw × Value)}
theorem tab_base {B' : Nat} {ps : List (Value × Value)} (h : Tab B' w b mb v rs ps) (hle : B ≤ B') : Tab B w b mb v rs ps :=
  ⟨Nat.le_trans hle h.bB, Nat.le_trans hle h.mB, h.tab, ownsRow_base h.rows hle, fun p hp => ownsRow_base (h.mems p hp) hle, h.map, h.wf, h.len⟩
theorem rtab_base {B' : Nat} (h : RTab B' w b v rs) (hle : B ≤ B') : RTab B w b v rs :=
  ⟨Nat.le_trans hle h.bB, h.tab, ownsRow_base h.rows hle, fun p hp => ownsRow_base (h.mems p hp) hle⟩
theorem allIn_uniq (h : AllIn rs rs.length) : Uniq (pairs (rowsOf rs)) := by
  have hk : ∀ k, k ≤ rs.length → Uniq (pairs ((rowsOf rs).take k)) := by
    intro k
    induction k with
    | zero => intro _ K a a' ha; simp [pairs] at ha
    | succ k ih =>
      intro hk
      obtain ⟨p, hp⟩ : ∃ p, rs[k]? = some p := ⟨_, List.getElem?_eq_getElem (by omega)⟩
      rw [pairs_take hp]
      exact enter_uniq (h k p (by omega) hp) (ih (by omega))
  have := hk rs.length (Nat.le_refl _)
  rwa [show (rowsOf rs).take rs.length = rowsOf rs by rw [List.take_of_length_le]; simp [rowsOf]] at this

/-- The program's first, the given answer's behind it. -/
theorem duo_of1 (hT : Tab B w1 b mb v rs (pairs (rowsOf rs))) (hb : Below w1.heap.size w1 w2) (hR : RTab w1.heap.size w2 rb rv rs2) (hf : rs2.map (·.1) = rs.map (·.1)) (hl : 11 ≤ rs.length) (hs : Small rs) (hu : Uniq (pairs (rowsOf rs))) (hsa : ∀ p ∈ rs, Sane p.1) (hok : FromOK rs) : Duo B w2 b mb v rs rb rv rs2 := by
  refine ⟨hT.keptB hb, rtab_base hR hT.lt, hf, ?_, hl, hs, hu, hsa, hok⟩
  intro k hk hk2
  obtain ⟨_, _, e⟩ := ownsRow_at hT.rows hk
  have h1 := lt_of_heap e
  have := (ownsRow_at hR.rows hk2).1
  omega
/-- The given answer's first, the program's behind it. -/
theorem duo_of2 (hR : RTab B w1 rb rv rs2) (hb : Below w1.heap.size w1 w2) (hT : Tab w1.heap.size w2 b mb v rs (pairs (rowsOf rs))) (hf : rs2.map (·.1) = rs.map (·.1)) (hl : 11 ≤ rs.length) (hs : Small rs) (hu : Uniq (pairs (rowsOf rs))) (hsa : ∀ p ∈ rs, Sane p.1) (hok : FromOK rs) : Duo B w2 b mb v rs rb rv rs2 := by
  have hB : B ≤ w1.heap.size := hR.lt
  refine ⟨tab_base hT hB, hR.keptB hb, hf, ?_, hl, hs, hu, hsa, hok⟩
  intro k hk hk2
  obtain ⟨_, _, e⟩ := ownsRow_at hR.rows hk2
  have h1 := lt_of_heap e
  have := (ownsRow_at hT.rows hk).1
  omega
theorem duo_new (hT : Tab B w1 b mb v (basicRows 11) []) (hb : Below w1.heap.size w1 w2) (hR : RTab w1.heap.size w2 rb rv (basicRows 11)) : Duo B w2 b mb v (basicRows 11) rb rv (basicRows 11) := by
  have hp : pairs (rowsOf (basicRows 11)) = [] := by decide
  refine duo_of1 (by rw [hp]; exact hT) hb hR rfl (by decide) ?_ (by rw [hp]; intro K a a' ha; cases ha) ?_ fromOK_new
  · intro p hpm
    simp only [basicRows, List.mem_map, List.mem_range] at hpm
    obtain ⟨n, hn, rfl⟩ := hpm
    simp [basic]
  · intro p hpm
    simp only [basicRows, List.mem_map, List.mem_range] at hpm
    obtain ⟨n, hn, rfl⟩ := hpm
    refine ⟨?_, ?_, ?_⟩ <;> simp [basic] <;> omega
theorem duo_from (hR : RTab B w1 rb rv rs2) (hb : Below w1.heap.size w1 w2) (hT : Tab w1.heap.size w2 b mb v rs (pairs (rowsOf rs))) (hf : rs2.map (·.1) = rs.map (·.1)) (hl : 11 ≤ rs.length) (hok : FromOK rs) : Duo B w2 b mb v rs rb rv rs2 :=
  duo_of2 hR hb hT hf hl (AllIn_parts hok.1).2 (allIn_uniq hok.1) (allIn_sane hok.1) hok
end
end Go.Proofs.YtpnpilbmhkiphaaGreatDoor
namespace Go.Proofs.YtpnpilbmhkiphaaGreatDoor
open Go.RowKit Go.Maps
set_option linter.unusedVariables false
set_option maxRecDepth 100000

section
variable {w : World}
def BothPost (w w' : World) (e : Ending) : Prop :=
  e = .returned (.tuple #[.pointer none, .pointer none, .bool false]) ∨
  ∃ b mb v rs rb rv rs2, e = .returned (.tuple #[.pointer (some ⟨b, 0, none⟩), .pointer (some ⟨rb, 0, none⟩), .bool true]) ∧ Duo w.heap.size w' b mb v rs rb rv rs2

set_option maxHeartbeats 4000000 in
theorem both_c {v : Value} {rs : List (Rw × Value)} (h : RowIn w v rs) (hl : rs.length * 72 ≤ 140737488355328) (hO : ∀ p ∈ rs, Okay p.1) :
    Calls Tryz.prog 5 #[v] w fun e w' => BothPost w w' e ∧ Below w.heap.size w w' := by
  obtain ⟨sp, sc, hv, hsc⟩ : ∃ sp sc, v = .slice sp rs.length sc ∧ rs.length ≤ sc := by
    rcases h.1 with ⟨e, hh⟩ | ⟨a, c, e, hh⟩ | ⟨g, o, cap, hv, hc, _⟩
    · rw [hh]; exact ⟨none, 0, e, Nat.le_refl _⟩
    · rw [hh]; exact ⟨_, _, e, Nat.zero_le _⟩
    · exact ⟨_, _, hv, hc⟩
  by_cases hn : 11 ≤ rs.length ∧ rs.length ≤ 512
  · have c1 := rFrom_c h hn.1 hn.2 hO
    by_cases hok : RefOK rs
    · have c1' : Calls Tryz.prog 25 #[v] w fun e w' => ∃ rb rv rs2, e = .returned (.tuple #[.pointer (some ⟨rb, 0, none⟩), .int .i64 0]) ∧ rs2.map (·.1) = rs.map (·.1) ∧ RTab w.heap.size w' rb rv rs2 ∧ Below w.heap.size w w' := by
        refine c1.mono ?_
        rintro e w' ⟨⟨hno, _⟩ | ⟨_, rb, rv, rs2, he, hf, hR⟩, hb⟩
        · exact absurd hok hno
        · exact ⟨rb, rv, rs2, he, hf, hR, hb⟩
      have hbt : ∀ (W : World), (Instr.build TT #[(0, v)]).run Tryz.prog W = .ok (.agg #[v]) W := fun W => by rw [hv]; kernel_rfl
      have cC : Hid (∀ X, Below w.heap.size w X → Calls Tryz.prog 27 #[.pointer (some ⟨X.heap.size, 0, none⟩)] (X.alloc (.cells #[v] TT)) fun e w' => ∃ b v' rs', e = .returned (.pointer (some ⟨b, 0, none⟩)) ∧ rs'.map (·.1) = rs.map (·.1) ∧ RTab (X.alloc (.cells #[v] TT)).heap.size w' b v' rs' ∧ Below (X.alloc (.cells #[v] TT)).heap.size (X.alloc (.cells #[v] TT)) w') := by
        intro X hX
        exact refCopy_c (by rw [Lib.cell_of_heap (heap_r0 X _)]; rfl) (h.below (hX.alloc hX.size _)) hl (fun p hp => (hO p hp).mem)
      have HO : Hid (∀ p ∈ rs, Okay p.1) := hO
      have HOK : Hid (RefOK rs) := hok
      rw [hv] at hbt cC c1' ⊢
      clear h hO hok c1 hv
      go_enter Tryz.func5, Tryz.ntmps5
      go_wp2_with fail
      refine c1'.mono ?_
      rintro e w1 ⟨rb, rv, rs2, rfl, hf, hR, hb1⟩
      have HR : Hid (RTab w.heap.size w1 rb rv rs2) := hR
      have HF : Hid (rs2.map (·.1) = rs.map (·.1)) := hf
      have HB1 : Hid (Below w.heap.size w w1) := hb1
      have c2 := cC.out w1 hb1
      clear c1' hR hf hb1 cC
      go_wp2_with fail
      refine c2.mono ?_
      rintro e w2 ⟨b2, v', rs', rfl, hf2, hR2, hb2⟩
      have hl2 : rs'.length = rs.length := fst_len hf2
      have hO' : ∀ p ∈ rs', Okay p.1 := by
        intro p hp
        have hm : p.1 ∈ rs'.map (·.1) := List.mem_map.2 ⟨p, hp, rfl⟩
        rw [hf2] at hm
        obtain ⟨q, hq, hq2⟩ := List.mem_map.1 hm
        rw [← hq2]; exact HO.out q hq
      have hq0 : w2.cell? ⟨b2, 0, none⟩ = some v' := hR2.c0
      have c3 : Calls Tryz.prog 26 #[v'] w2 fun e w' => ∃ b mb tv rs3, e = .returned (.tuple #[.pointer (some ⟨b, 0, none⟩), .int .i64 0]) ∧ rs3.map (·.1) = rs'.map (·.1) ∧ Tab w2.heap.size w' b mb tv rs3 (pairs (rowsOf rs3)) ∧ FromOK rs3 ∧ Below w2.heap.size w2 w' := by
        refine (from_c hR2.rowSl (by omega) (by omega) hO').mono ?_
        rintro e w' ⟨⟨hno, _⟩ | ⟨hyes, b, mb, tv, rs3, he, hf3, hT⟩, hb⟩
        · exact absurd (ok_same.2 (RefOK_fst hf2 HOK.out)) hno
        · exact ⟨b, mb, tv, rs3, he, hf3, hT, FromOK_fst hf3 hyes, hb⟩
      have HB2 : Hid (Below w1.heap.size w1 w2) := ((Below.refl _ w1).alloc (Nat.le_refl _) _).trans (hb2.mono (by simp))
      have HF2 : Hid (rs'.map (·.1) = rs.map (·.1)) := hf2
      obtain ⟨p', c', hv'⟩ := hR2.sl
      rw [hv'] at hq0 c3
      clear c2 hf2 hR2 hb2 hO' hv' hl2
      go_wp2_with fail
      refine c3.mono ?_
      rintro e w3 ⟨b, mb, tv, rs3, rfl, hf3, hT3, hok3, hb3⟩
      have HD : Hid (Duo w.heap.size w3 b mb tv rs3 rb rv rs2) := duo_from (HR.out.keptB HB2.out) hb3 hT3 (HF.out.trans (hf3.trans HF2.out).symm) (by have h1 := fst_len hf3; have h2 := fst_len HF2.out; omega) hok3
      have HB3 : Hid (Below w.heap.size w w3) := HB1.out.trans ((HB2.out.trans (hb3.mono HB2.out.size)).mono HB1.out.size)
      clear c3 hf3 hT3 hok3 hb3 hq0
      go_wp2
      go_ret3
      exact ⟨Or.inr ⟨b, mb, tv, rs3, rb, rv, rs2, rfl, HD.out⟩, HB3.out⟩
    · have c1' : Calls Tryz.prog 25 #[v] w fun e w' => e = .returned (.tuple #[.pointer none, .int .i64 30]) ∧ Below w.heap.size w w' := by
        refine c1.mono ?_
        rintro e w' ⟨⟨_, he⟩ | ⟨hyes, _⟩, hb⟩
        · exact ⟨he, hb⟩
        · exact absurd hyes hok
      rw [hv] at c1' ⊢
      clear h hO c1 hv
      go_enter Tryz.func5, Tryz.ntmps5
      go_wp2_with fail
      refine c1'.mono ?_
      rintro e w1 ⟨rfl, hb1⟩
      go_wp2
      go_ret3
      exact ⟨Or.inl rfl, hb1⟩
  · have c1' := rFrom_len (w := w) hv (by omega) (by omega)
    rw [hv] at c1' ⊢
    clear h hO hv
    go_enter Tryz.func5, Tryz.ntmps5
    go_wp2_with fail
    refine c1'.mono ?_
    rintro e w1 ⟨rfl, rfl⟩
    go_wp2
    go_ret3
    exact ⟨Or.inl rfl, Below.refl _ _⟩
end
end Go.Proofs.YtpnpilbmhkiphaaGreatDoor
