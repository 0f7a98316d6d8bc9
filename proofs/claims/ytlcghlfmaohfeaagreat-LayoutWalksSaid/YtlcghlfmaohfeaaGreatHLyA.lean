/-
  What measure answers of every whole type.
  What is done to a table leaves its rows rows that make a table. (Pure.)
  What the rows of a table are: pointers and arrays stand once, elements ahead; all can be read again. (Pure.)
  The rows of a table have one function of sizes, and all whole types' sizes and alignments are in bounds. (Pure.)
  The map of known sizes: looked up, and put into.
  Rows and Row of a table; the law's Like.
  What measure answers of a type, by what room answers of its row.
-/
import Derived.Test.YtlcghlfmaohfeaaGreatHFrom
import Derived.Test.YtlcghlfmaohfeaaGreatHGraph
import Derived.Test.YtlcghlfmaohfeaaGreatHIsnamed
import Derived.Test.YtlcghlfmaohfeaaGreatHLyR
import Derived.Test.YtlcghlfmaohfeaaGreatHCopyRows
import Derived.Deep.RegionWith
import Derived.Deep.RegionHeld3
namespace Go.Proofs.YtlcghlfmaohfeaaGreat
open Go.RowKit Go.Maps
set_option linter.unusedVariables false
set_option maxRecDepth 100000

/-- A later table: no fewer rows, of the same kinds, what was whole is whole. -/
structure Ext (rs rs' : List (Rw × Value)) : Prop where
  len : rs.length ≤ rs'.length
  whole : ∀ id, wholeP rs id = true → wholeP rs' id = true
  kind : ∀ id, hasP rs.length id = true → kindP rs' id = kindP rs id

section
variable {rs rs' : List (Rw × Value)}
theorem memberErr_parts {pre : List Mb} {m : Mb} (h : memberErr rs pre m = 0) : hasP rs.length m.type = true ∧ wholeP rs m.type = true ∧ bitsP (kindP rs m.type) m.bits = true ∧ namedP m pre = true := by
  unfold memberErr at h
  split at h
  · cases h
  · rename_i h1
    split at h
    · cases h
    · rename_i h2
      split at h
      · cases h
      · rename_i h3
        split at h
        · cases h
        · rename_i h4
          exact ⟨by simpa using h1, by simpa using h2, by simpa using h3, by simpa using h4⟩
theorem memberErr_mk {pre : List Mb} {m : Mb} (h1 : hasP rs.length m.type = true) (h2 : wholeP rs m.type = true) (h3 : bitsP (kindP rs m.type) m.bits = true) (h4 : namedP m pre = true) : memberErr rs pre m = 0 := by
  unfold memberErr
  rw [if_neg (by simp [h1]), if_neg (by simp [h2]), if_neg (by simp [h3]), if_neg (by simp [h4])]
theorem hasP_mono {n n' : Nat} (hn : n ≤ n') {id : Int} (h : hasP n id = true) : hasP n' id = true := by
  simp [hasP] at h ⊢; omega
theorem memberErr_mono (hE : Ext rs rs') {pre : List Mb} {m : Mb} (h : memberErr rs pre m = 0) : memberErr rs' pre m = 0 := by
  obtain ⟨h1, h2, h3, h4⟩ := memberErr_parts h
  exact memberErr_mk (hasP_mono hE.len h1) (hE.whole _ h2) (by rw [hE.kind _ h1]; exact h3) h4
theorem refusFrom_mono (hE : Ext rs rs') : ∀ (l pre : List Mb), refusFrom rs pre l = 0 → refusFrom rs' pre l = 0
  | [], _, _ => rfl
  | a :: r, pre, h => by
    simp only [refusFrom] at h ⊢
    split at h
    · rename_i h0
      rw [if_pos (memberErr_mono hE h0)]
      exact refusFrom_mono hE r _ h
    · rename_i h0; exact absurd h h0
theorem refusP_mono (hE : Ext rs rs') {l : List Mb} (h : refusP rs l = 0) : refusP rs' l = 0 := by
  obtain ⟨h1, h2, h3⟩ := refus_len h
  unfold refusP
  rw [if_neg (by omega)]
  exact refusFrom_mono hE l [] h3
theorem enterB_mono (hE : Ext rs rs') {ps : List (Value × Value)} {i : Nat} {r : Rw} (h : enterB rs ps i r = true) : enterB rs' ps i r = true := by
  have q1 : (refusP rs r.mem == 0) = true → (refusP rs' r.mem == 0) = true := by
    intro h; simp only [beq_iff_eq] at h ⊢; exact refusP_mono hE h
  have q2 := hE.whole r.elem
  unfold enterB at h ⊢
  by_cases c0 : moreP r = true
  · rw [if_pos c0] at h; cases h
  rw [if_neg c0] at h ⊢
  by_cases c1 : i < 11
  · rw [if_pos c1] at h ⊢; exact h
  rw [if_neg c1] at h ⊢
  by_cases c2 : r.kind = 12
  · rw [if_pos c2] at h ⊢; exact h
  rw [if_neg c2] at h ⊢
  by_cases c3 : r.kind = 15 ∨ r.kind = 16
  · rw [if_pos c3] at h ⊢
    simp only [Bool.and_eq_true, Bool.or_eq_true] at h ⊢
    exact ⟨h.1, h.2.imp id q1⟩
  rw [if_neg c3] at h ⊢
  by_cases c4 : r.kind = 13
  · rw [if_pos c4] at h ⊢; exact h
  rw [if_neg c4] at h ⊢
  by_cases c5 : r.kind = 14
  · rw [if_pos c5] at h ⊢
    simp only [Bool.and_eq_true] at h ⊢
    exact ⟨⟨h.1.1, q2 h.1.2⟩, h.2⟩
  rw [if_neg c5] at h; cases h

theorem refus_whole {l : List Mb} (h : refusP rs l = 0) : ∀ m ∈ l, wholeP rs m.type = true := by
  intro m hm
  obtain ⟨pre, he⟩ := refus_err l [] (refus_len h).2.2 m hm
  exact (memberErr_parts he).2.1
/-- An entered row's parts are whole. -/
theorem enter_whole {ps : List (Value × Value)} {i : Nat} {r : Rw} (h : enterB rs ps i r = true) : ∀ x ∈ partsR r, wholeP rs x = true := by
  intro x hx
  unfold enterB at h
  by_cases c0 : moreP r = true
  · rw [if_pos c0] at h; cases h
  have c0' : moreP r = false := by simpa using c0
  rw [if_neg c0] at h
  unfold partsR at hx
  by_cases c5 : r.kind = 14
  · rw [if_pos c5, List.mem_singleton] at hx
    subst hx
    by_cases c1 : i < 11
    · rw [if_pos c1] at h
      have : r.kind = 1 + (i : Int) := by simpa using h
      omega
    · rw [if_neg c1, if_neg (by omega), if_neg (by omega), if_neg (by omega), if_pos c5] at h
      simp only [Bool.and_eq_true] at h
      exact h.1.2
  · rw [if_neg c5] at hx
    obtain ⟨m, hm, rfl⟩ := List.mem_map.1 hx
    by_cases hd : ownDone r = true
    · have h2 : (r.kind = 15 ∨ r.kind = 16) ∧ r.done = true := by simpa [ownDone, recK] using hd
      by_cases c1 : i < 11
      · rw [if_pos c1] at h
        have : r.kind = 1 + (i : Int) := by simpa using h
        omega
      · rw [if_neg c1, if_neg (by omega), if_pos h2.1, h2.2] at h
        simp only [Bool.and_eq_true, Bool.or_eq_true] at h
        rcases h.2 with h3 | h3
        · cases h3
        · exact refus_whole (by simpa using h3) m hm
    · rw [more_mem c0' (by simpa using hd)] at hm; cases hm

theorem whole_at {x : Int} (h : wholeP rs x = true) : ∃ p, rs[x.toNat]? = some p ∧ wholeR p.1 = true ∧ 0 ≤ x ∧ x.toNat < rs.length := by
  unfold wholeP at h
  split at h
  · rename_i h0
    cases hp : rs[x.toNat]? with
    | none => rw [hp] at h; cases h
    | some p => rw [hp] at h; exact ⟨p, rfl, h, h0, (List.getElem?_eq_some_iff.1 hp).1⟩
  · cases h
theorem le_foldr : ∀ (l : List Nat) (x : Nat), x ∈ l → x ≤ l.foldr max 0 := by
  intro l
  induction l with
  | nil => intro x hx; cases hx
  | cons a l ih =>
    intro x hx
    simp only [List.foldr_cons]
    rcases List.mem_cons.1 hx with rfl | hx
    · exact Nat.le_max_left _ _
    · exact Nat.le_trans (ih x hx) (Nat.le_max_right _ _)
/-- One type turns that is part of none: no circle comes of it. -/
theorem acyc_turn {P P' : Nat → List Nat} {n n' i0 : Nat} (h : Acyc P n) (hP : ∀ i, i < n' → i ≠ i0 → i < n ∧ P' i = P i) (hout : ∀ i, i < n' → ∀ j ∈ P' i, j ≠ i0) : Acyc P' n' := by
  obtain ⟨rank, h⟩ := h
  refine ⟨fun i => if i = i0 then ((P' i0).map rank).foldr max 0 + 1 else rank i, fun i hi j hj => ?_⟩
  have hne := hout i hi j hj
  simp only [hne, if_false]
  by_cases hik : i = i0
  · subst hik
    simp only [if_true]
    exact Nat.lt_succ_of_le (le_foldr _ _ (List.mem_map.2 ⟨j, hj, rfl⟩))
  · simp only [hik, if_false]
    obtain ⟨h1, h2⟩ := hP i hi hik
    rw [h2] at hj
    exact h i h1 j hj

theorem append_ext (x : Rw × Value) : Ext rs (rs ++ [x]) := by
  have hat : ∀ k, k < rs.length → (rs ++ [x])[k]? = rs[k]? := fun k hk => List.getElem?_append_left hk
  refine ⟨by simp, fun id h => ?_, fun id h => ?_⟩
  · obtain ⟨p, hp, hw, h0, hl⟩ := whole_at h
    unfold wholeP
    rw [if_pos h0, hat _ hl, hp]; exact hw
  · have h2 : 0 ≤ id ∧ id < rs.length := by simpa [hasP] using h
    unfold kindP
    rw [if_pos h2.1, if_pos h2.1, hat _ (by omega)]
theorem FromOK.more (h : FromOK rs) {r : Rw} (hr : enterB rs (pairs (rowsOf rs)) rs.length r = true) (s : Value) : FromOK (rs ++ [(r, s)]) := by
  have hE := append_ext (rs := rs) (r, s)
  have hat : ∀ k, k < rs.length → (rs ++ [(r, s)])[k]? = rs[k]? := fun k hk => List.getElem?_append_left hk
  have hlast : (rs ++ [(r, s)])[rs.length]? = some (r, s) := by simp
  have hall : AllIn (rs ++ [(r, s)]) (rs ++ [(r, s)]).length := by
    intro i p hi hp
    have htk : ∀ k, k ≤ rs.length → (rowsOf (rs ++ [(r, s)])).take k = (rowsOf rs).take k := by
      intro k hk
      simp only [rowsOf, List.map_append]
      exact List.take_append_of_le_length (by simpa using hk)
    simp only [List.length_append, List.length_singleton] at hi
    rw [htk i (by omega)]
    by_cases hlt : i < rs.length
    · rw [hat i hlt] at hp
      exact enterB_mono hE (h.1 i p hlt hp)
    · obtain rfl : i = rs.length := by omega
      rw [hlast] at hp
      cases hp
      rw [show (rowsOf rs).take rs.length = rowsOf rs by rw [List.take_of_length_le]; simp [rowsOf]]
      exact enterB_mono hE hr
  refine ⟨hall, ?_⟩
  have hpa : ∀ i, i < rs.length → partsAt (rs ++ [(r, s)]) i = partsAt rs i := by
    intro i hi; unfold partsAt; rw [hat i hi]
  refine acyc_turn (i0 := rs.length) h.2 (fun i hi hne => ?_) (fun i hi j hj => ?_)
  · simp at hi
    exact ⟨by omega, hpa i (by omega)⟩
  · simp at hi
    have hx : ∃ x, wholeP rs x = true ∧ j = x.toNat := by
      by_cases hlt : i < rs.length
      · rw [hpa i hlt] at hj
        unfold partsAt at hj
        obtain ⟨p, hp⟩ : ∃ p, rs[i]? = some p := ⟨_, List.getElem?_eq_getElem hlt⟩
        rw [hp] at hj
        obtain ⟨x, hx, rfl⟩ := List.mem_map.1 hj
        exact ⟨x, enter_whole (h.1 i p hlt hp) x hx, rfl⟩
      · obtain rfl : i = rs.length := by omega
        unfold partsAt at hj
        rw [hlast] at hj
        obtain ⟨x, hx, rfl⟩ := List.mem_map.1 hj
        exact ⟨x, enter_whole hr x hx, rfl⟩
    obtain ⟨x, hw, rfl⟩ := hx
    obtain ⟨_, _, _, _, hl⟩ := whole_at hw
    omega

theorem set_at {i k : Nat} {x : Rw × Value} (hi : i < rs.length) : (rs.set i x)[k]? = if k = i then some x else rs[k]? := by
  rw [List.getElem?_set]
  by_cases h : i = k
  · subst h; simp [hi]
  · rw [if_neg h, if_neg (fun e => h e.symm)]
theorem set_ext {i : Nat} {r : Rw} {s0 s : Value} {l : List Mb} (hp : rs[i]? = some (r, s0)) (hk : recK r.kind = true) (hd : r.done = false) : Ext rs (rs.set i ({ r with mem := l, done := true }, s)) := by
  have hi : i < rs.length := (List.getElem?_eq_some_iff.1 hp).1
  have hkk : r.kind = 15 ∨ r.kind = 16 := by simpa [recK] using hk
  refine ⟨by simp, fun id h => ?_, fun id h => ?_⟩
  · obtain ⟨p, hq, hw, h0, hl⟩ := whole_at h
    unfold wholeP
    rw [if_pos h0, set_at hi]
    by_cases e : id.toNat = i
    · rw [if_pos e]
      simp only [wholeR]
      rw [if_neg (by omega), if_pos hk]
    · rw [if_neg e, hq]; exact hw
  · have h2 : 0 ≤ id ∧ id < rs.length := by simpa [hasP] using h
    unfold kindP
    rw [if_pos h2.1, if_pos h2.1, set_at hi]
    by_cases e : id.toNat = i
    · rw [if_pos e, e, hp]
    · rw [if_neg e]
theorem moreP_done {r : Rw} {l : List Mb} (hk : recK r.kind = true) (h : moreP r = false) : moreP { r with mem := l, done := true } = false := by
  have hkk : r.kind = 15 ∨ r.kind = 16 := by simpa [recK] using hk
  simp only [moreP, Bool.or_eq_false_iff] at h ⊢
  refine ⟨?_, by simp [ownDone, hk]⟩
  have h1 := h.1
  simp only [moreHead] at h1 ⊢
  rw [if_neg (by omega), if_neg (by omega), if_neg (by omega), if_pos hkk] at h1 ⊢
  exact h1
theorem zip_set0 {r r' : Rw} (h1 : derivd r = false) (h2 : derivd r' = false) : ∀ (l : List Rw) (n i : Nat), l[i]? = some r → ((l.set i r').zipIdx n).filterMap pairOf = (l.zipIdx n).filterMap pairOf
  | [], _, _, h => by simp at h
  | a :: t, n, 0, h => by
    have e : a = r := by simpa using h
    subst e
    simp [pairOf, h1, h2]
  | a :: t, n, i + 1, h => by
    have e := zip_set0 h1 h2 t (n + 1) i (by simpa using h)
    rw [List.set_cons_succ, List.zipIdx_cons, List.zipIdx_cons, List.filterMap_cons, List.filterMap_cons, e]
theorem pairs_set0 {k i : Nat} {r r' : Rw} {s0 s : Value} (hp : rs[i]? = some (r, s0)) (h1 : derivd r = false) (h2 : derivd r' = false) : pairs ((rowsOf (rs.set i (r', s))).take k) = pairs ((rowsOf rs).take k) := by
  have e : rowsOf (rs.set i (r', s)) = (rowsOf rs).set i r' := by simp [rowsOf, List.map_set]
  rw [e, List.take_set]
  by_cases hik : i < k
  · exact zip_set0 h1 h2 _ 0 i (by rw [List.getElem?_take, if_pos hik]; simp [rowsOf, hp])
  · rw [List.set_eq_of_length_le (by simp; omega)]
theorem FromOK.set (h : FromOK rs) {i : Nat} {r : Rw} {s0 : Value} {l : List Mb} (hp : rs[i]? = some (r, s0)) (hk : recK r.kind = true) (hd : r.done = false) (hl : refusP rs l = 0) (s : Value) : FromOK (rs.set i ({ r with mem := l, done := true }, s)) := by
  have hi : i < rs.length := (List.getElem?_eq_some_iff.1 hp).1
  have hkk : r.kind = 15 ∨ r.kind = 16 := by simpa [recK] using hk
  have hE := set_ext (l := l) (s := s) hp hk hd
  have hd1 : derivd r = false := by simp [derivd]; omega
  have hd2 : derivd { r with mem := l, done := true } = false := by simp [derivd]; omega
  have hr := h.1 i (r, s0) hi hp
  have hall : AllIn (rs.set i ({ r with mem := l, done := true }, s)) (rs.set i ({ r with mem := l, done := true }, s)).length := by
    intro j p hj hq
    rw [pairs_set0 hp hd1 hd2]
    rw [set_at hi] at hq
    rw [List.length_set] at hj
    by_cases e : j = i
    · subst e
      rw [if_pos rfl] at hq
      cases hq
      simp only at hr ⊢
      unfold enterB at hr ⊢
      by_cases c0 : moreP r = true
      · rw [if_pos c0] at hr; cases hr
      have c0' : moreP r = false := by simpa using c0
      rw [if_neg c0] at hr
      rw [if_neg (by rw [moreP_done hk c0']; simp)]
      by_cases c1 : j < 11
      · rw [if_pos c1] at hr
        have : r.kind = 1 + (j : Int) := by simpa using hr
        omega
      · rw [if_neg c1, if_neg (by omega), if_pos hkk] at hr
        rw [if_neg c1, if_neg (by show ¬ r.kind = 12; omega), if_pos hkk]
        simp only [Bool.and_eq_true, Bool.or_eq_true] at hr ⊢
        exact ⟨hr.1, Or.inr (by simpa using refusP_mono hE hl)⟩
    · rw [if_neg e] at hq
      exact enterB_mono hE (h.1 j p hj hq)
  refine ⟨hall, ?_⟩
  have hpa : ∀ j, j ≠ i → partsAt (rs.set i ({ r with mem := l, done := true }, s)) j = partsAt rs j := by
    intro j hj; unfold partsAt; rw [set_at hi, if_neg hj]
  refine acyc_turn (i0 := i) h.2 (fun j hj hne => ?_) (fun j hj y hy => ?_)
  · rw [List.length_set] at hj
    exact ⟨hj, hpa j hne⟩
  · rw [List.length_set] at hj
    have hx : ∃ x, wholeP rs x = true ∧ y = x.toNat := by
      by_cases e : j = i
      · subst e
        unfold partsAt at hy
        rw [set_at hi, if_pos rfl] at hy
        obtain ⟨x, hx, rfl⟩ := List.mem_map.1 hy
        unfold partsR at hx
        rw [if_neg (by show ¬ r.kind = 14; omega)] at hx
        obtain ⟨m, hm, rfl⟩ := List.mem_map.1 hx
        exact ⟨_, refus_whole hl m hm, rfl⟩
      · rw [hpa j e] at hy
        unfold partsAt at hy
        obtain ⟨p, hq⟩ : ∃ p, rs[j]? = some p := ⟨_, List.getElem?_eq_getElem hj⟩
        rw [hq] at hy
        obtain ⟨x, hx, rfl⟩ := List.mem_map.1 hy
        exact ⟨x, enter_whole (h.1 j p hj hq) x hx, rfl⟩
    obtain ⟨x, hw, rfl⟩ := hx
    intro e
    obtain ⟨p, hq, hw2, _, _⟩ := whole_at hw
    rw [e, hp] at hq
    cases hq
    simp only [wholeR] at hw2
    rw [if_neg (by omega), if_pos hk, hd] at hw2
    cases hw2

theorem enter_tag {k : Int} (hk : k = 12 ∨ k = 15 ∨ k = 16) {s : ByteArray} (ht : tagP s.data.toList = true) (hl : 11 ≤ rs.length) (ps : List (Value × Value)) : enterB rs ps rs.length ⟨k, 0, 0, s, [], false⟩ = true := by
  unfold enterB
  have c0 : moreP ⟨k, 0, 0, s, [], false⟩ = false := by
    simp only [moreP, moreHead]
    rcases hk with rfl | rfl | rfl <;> simp
  rw [if_neg (by rw [c0]; simp), if_neg (by omega)]
  simp only
  rcases hk with rfl | hk
  · rw [if_pos rfl]; exact ht
  · rw [if_neg (by omega), if_pos hk, ht]; rfl
theorem enter_der {k e n : Int} (hk : k = 13 ∨ k = 14) (he : 0 ≤ e ∧ e < rs.length) (h13 : k = 13 → n = 0) (hW : k = 14 → wholeP rs e = true) (hlen : k = 14 → lenK n = true) (hl : 11 ≤ rs.length) {ps : List (Value × Value)} (hno : ∀ kv ∈ ps, kv.1 ≠ keyV k e n) :
    enterB rs ps rs.length ⟨k, e, n, ⟨#[]⟩, [], false⟩ = true := by
  have ht : ¬ twiceB ps ⟨k, e, n, ⟨#[]⟩, [], false⟩ := by
    rintro ⟨kv, h1, h2⟩; exact hno kv h1 h2
  unfold enterB
  have c0 : moreP ⟨k, e, n, ⟨#[]⟩, [], false⟩ = false := by
    simp only [moreP, moreHead]
    rcases hk with rfl | rfl
    · rw [h13 rfl]; simp
    · simp
  rw [if_neg (by rw [c0]; simp), if_neg (by omega)]
  simp only
  rw [if_neg (by omega), if_neg (by omega)]
  rcases hk with rfl | rfl
  · rw [if_pos rfl, if_neg ht]; simp; omega
  · rw [if_neg (by omega), if_pos rfl, if_neg ht, hW rfl, hlen rfl]; simp; omega
theorem fromOK_new : FromOK (basicRows 11) := by
  constructor
  · intro i p hi hp
    have hi' : i < 11 := hi
    have : i = 0 ∨ i = 1 ∨ i = 2 ∨ i = 3 ∨ i = 4 ∨ i = 5 ∨ i = 6 ∨ i = 7 ∨ i = 8 ∨ i = 9 ∨ i = 10 := by omega
    rcases this with rfl | rfl | rfl | rfl | rfl | rfl | rfl | rfl | rfl | rfl | rfl <;>
    · simp only [basicRows, List.getElem?_map, List.getElem?_range hi', Option.map_some, Option.some.injEq] at hp
      subst hp
      unfold enterB
      rw [if_neg (by simp [moreP, moreHead, basic]), if_pos (by decide)]
      decide
  · refine ⟨fun _ => 0, fun i hi j hj => ?_⟩
    have hi' : i < 11 := hi
    have : i = 0 ∨ i = 1 ∨ i = 2 ∨ i = 3 ∨ i = 4 ∨ i = 5 ∨ i = 6 ∨ i = 7 ∨ i = 8 ∨ i = 9 ∨ i = 10 := by omega
    exfalso
    rcases this with rfl | rfl | rfl | rfl | rfl | rfl | rfl | rfl | rfl | rfl | rfl <;> cases hj
end
end Go.Proofs.YtlcghlfmaohfeaaGreat
namespace Go.Proofs.YtlcghlfmaohfeaaGreat
open Go.RowKit Go.Maps
set_option linter.unusedVariables false
set_option maxRecDepth 100000

theorem wf64_of {x : Int} (h1 : -9223372036854775808 ≤ x) (h2 : x ≤ 9223372036854775807) : wf64 x := by
  have e1 : IntKind.min .i64 = -9223372036854775808 := by decide
  have e2 : IntKind.max .i64 = 9223372036854775807 := by decide
  simp only [wf64, Lit.wf, e1, e2, Bool.and_eq_true, decide_eq_true_eq]
  exact ⟨h1, h2⟩
section
variable {rs : List (Rw × Value)}
theorem enter_cut {ps : List (Value × Value)} {i : Nat} {r : Rw} (h : enterB rs ps i r = true) : moreP r = false ∧ ((i < 11 ∧ r.kind = 1 + (i : Int)) ∨ (11 ≤ i ∧ (
    (r.kind = 12 ∧ tagP r.tag.data.toList = true) ∨ ((r.kind = 15 ∨ r.kind = 16) ∧ tagP r.tag.data.toList = true ∧ (r.done = false ∨ refusP rs r.mem = 0)) ∨
    (r.kind = 13 ∧ 0 ≤ r.elem ∧ r.elem < i) ∨ (r.kind = 14 ∧ 0 ≤ r.elem ∧ r.elem < i ∧ wholeP rs r.elem = true ∧ lenK r.len = true)))) := by
  unfold enterB at h
  by_cases c0 : moreP r = true
  · rw [if_pos c0] at h; cases h
  rw [if_neg c0] at h
  refine ⟨by simpa using c0, ?_⟩
  by_cases c1 : i < 11
  · rw [if_pos c1] at h
    exact Or.inl ⟨c1, by simpa using h⟩
  rw [if_neg c1] at h
  refine Or.inr ⟨by omega, ?_⟩
  by_cases c2 : r.kind = 12
  · rw [if_pos c2] at h; exact Or.inl ⟨c2, h⟩
  rw [if_neg c2] at h
  by_cases c3 : r.kind = 15 ∨ r.kind = 16
  · rw [if_pos c3] at h
    simp only [Bool.and_eq_true, Bool.or_eq_true] at h
    exact Or.inr (Or.inl ⟨c3, h.1, h.2.imp (fun x => by simpa using x) (fun x => by simpa using x)⟩)
  rw [if_neg c3] at h
  by_cases c4 : r.kind = 13
  · rw [if_pos c4] at h
    split at h
    · cases h
    · simp only [Bool.and_eq_true, decide_eq_true_eq] at h
      exact Or.inr (Or.inr (Or.inl ⟨c4, h⟩))
  rw [if_neg c4] at h
  by_cases c5 : r.kind = 14
  · rw [if_pos c5] at h
    simp only [Bool.and_eq_true] at h
    have h1 := h.1.1
    split at h1
    · cases h1
    · simp only [Bool.and_eq_true, decide_eq_true_eq] at h1
      exact Or.inr (Or.inr (Or.inr ⟨c5, h1.1, h1.2, h.1.2, h.2⟩))
  rw [if_neg c5] at h; cases h
theorem more_13 {r : Rw} (h : moreP r = false) (hk : r.kind = 13) : r.len = 0 := by
  simp only [moreP, Bool.or_eq_false_iff] at h
  have h1 := h.1
  simp only [moreHead] at h1
  rw [if_neg (by omega), if_pos hk] at h1
  simp at h1
  exact h1.1.1
theorem nameP_len {l : List UInt8} (h : nameP l = true) : l.length ≤ 63 := by
  unfold nameP at h
  split at h
  · cases h
  · simp only [Bool.and_eq_true, decide_eq_true_eq] at h; exact h.1.1
theorem tagP_len {l : List UInt8} (h : tagP l = true) : l.length ≤ 63 := by
  unfold tagP at h
  simp only [Bool.or_eq_true] at h
  rcases h with h | h
  · exact nameP_len h
  · unfold numbP at h
    simp only [Bool.and_eq_true, decide_eq_true_eq] at h
    omega
theorem size_of (s : ByteArray) : s.size = s.data.toList.length := by simp
theorem namedP_len {m : Mb} {l : List Mb} (h : namedP m l = true) : m.name.size ≤ 63 := by
  unfold namedP at h
  split at h
  · rename_i he
    rw [ByteArray.toList_eq] at he
    have : m.name.data.toList = [] := by simpa using he
    rw [size_of, this]; simp
  · simp only [Bool.and_eq_true] at h
    rw [size_of]; exact nameP_len h.1.1
theorem more_zero {r : Rw} (h : moreP r = false) : (r.kind ≠ 13 → r.kind ≠ 14 → r.elem = 0) ∧ (r.kind ≠ 14 → r.len = 0) ∧ (r.kind ≠ 12 → ¬ (r.kind = 15 ∨ r.kind = 16) → r.tag.toList = []) := by
  simp only [moreP, Bool.or_eq_false_iff] at h
  have h1 := h.1
  simp only [moreHead] at h1
  by_cases c2 : r.kind = 12
  · rw [if_pos c2] at h1; simp at h1
    exact ⟨fun _ _ => h1.1.1, fun _ => h1.1.2, fun e => absurd c2 e⟩
  rw [if_neg c2] at h1
  by_cases c3 : r.kind = 13
  · rw [if_pos c3] at h1; simp at h1
    exact ⟨fun e => absurd c3 e, fun _ => h1.1.1, fun _ _ => h1.1.2⟩
  rw [if_neg c3] at h1
  by_cases c4 : r.kind = 14
  · rw [if_pos c4] at h1; simp at h1
    exact ⟨fun _ e => absurd c4 e, fun e => absurd c4 e, fun _ _ => h1.1⟩
  rw [if_neg c4] at h1
  by_cases c5 : r.kind = 15 ∨ r.kind = 16
  · rw [if_pos c5] at h1; simp at h1
    exact ⟨fun _ _ => h1.1, fun _ => h1.2, fun _ e => absurd c5 e⟩
  rw [if_neg c5] at h1; simp at h1
  exact ⟨fun _ _ => h1.1.1.1, fun _ => h1.1.1.2, fun _ _ => h1.1.2⟩
theorem lenK_wf {n : Int} (h : lenK n = true) : -1 ≤ n ∧ n ≤ 16384 := by
  simp [lenK] at h; omega
theorem ok_ptr (h : FromOK rs) {i : Nat} {p : Rw × Value} (hp : rs[i]? = some p) (hk : p.1.kind = 13) : 0 ≤ p.1.elem ∧ p.1.elem < i ∧ p.1.len = 0 ∧ (keyV 13 p.1.elem 0, Value.int .i64 i) ∈ pairs (rowsOf rs) := by
  have hlt : i < rs.length := (List.getElem?_eq_some_iff.1 hp).1
  obtain ⟨hm, hc⟩ := enter_cut (h.1 i p hlt hp)
  have h0 := more_13 hm hk
  refine ⟨?_, ?_, h0, mem_pairs.2 ⟨i, p.1, by simp [rowsOf, hp], by simp [derivd, hk], by rw [hk, h0]⟩⟩
  · rcases hc with ⟨a, b⟩ | ⟨_, ⟨a, _⟩ | ⟨a, _⟩ | ⟨_, a, b⟩ | ⟨a, _⟩⟩ <;> omega
  · rcases hc with ⟨a, b⟩ | ⟨_, ⟨a, _⟩ | ⟨a, _⟩ | ⟨_, a, b⟩ | ⟨a, _⟩⟩ <;> omega
theorem ok_arr (h : FromOK rs) {i : Nat} {p : Rw × Value} (hp : rs[i]? = some p) (hk : p.1.kind = 14) : 0 ≤ p.1.elem ∧ p.1.elem < i ∧ wholeP rs p.1.elem = true ∧ lenK p.1.len = true ∧ (keyV 14 p.1.elem p.1.len, Value.int .i64 i) ∈ pairs (rowsOf rs) := by
  have hlt : i < rs.length := (List.getElem?_eq_some_iff.1 hp).1
  obtain ⟨hm, hc⟩ := enter_cut (h.1 i p hlt hp)
  have hall : 0 ≤ p.1.elem ∧ p.1.elem < i ∧ wholeP rs p.1.elem = true ∧ lenK p.1.len = true := by
    rcases hc with ⟨a, b⟩ | ⟨_, ⟨a, _⟩ | ⟨a, _⟩ | ⟨a, _⟩ | ⟨_, a⟩⟩
    · omega
    · omega
    · omega
    · omega
    · exact a
  exact ⟨hall.1, hall.2.1, hall.2.2.1, hall.2.2.2, mem_pairs.2 ⟨i, p.1, by simp [rowsOf, hp], by simp [derivd, hk], by rw [hk]⟩⟩
end
end Go.Proofs.YtlcghlfmaohfeaaGreat
namespace Go.Proofs.YtlcghlfmaohfeaaGreat
open Go.RowKit Go.Maps
set_option linter.unusedVariables false
section
variable {rs : List (Rw × Value)} {M : Int → Ex}
theorem rows_at {i : Nat} {p : Rw × Value} (h : rs[i]? = some p) : (rowsOf rs)[i]? = some p.1 := by simp [rowsOf, h]
theorem at_rows {i : Nat} {r : Rw} (h : (rowsOf rs)[i]? = some r) : ∃ p, rs[i]? = some p ∧ p.1 = r := by
  simp only [rowsOf, List.getElem?_map] at h
  obtain ⟨p, h1, h2⟩ := Option.map_eq_some_iff.1 h
  exact ⟨p, h1, h2⟩
theorem ok_rank (h : FromOK rs) : ∃ rank : Nat → Nat, ∀ (i : Nat) (r : Rw), (rowsOf rs)[i]? = some r → ∀ x ∈ partsR r, (0 ≤ x ∧ x.toNat < rs.length) ∧ rank x.toNat < rank i := by
  obtain ⟨hA, rank, hr⟩ := h
  refine ⟨rank, fun i r hi x hx => ?_⟩
  obtain ⟨p, hp, rfl⟩ := at_rows hi
  have hlt : i < rs.length := (List.getElem?_eq_some_iff.1 hp).1
  have hpt := (enter_parts (hA i p hlt hp) hlt).1 x hx
  refine ⟨⟨hpt.1, by omega⟩, hr i hlt x.toNat ?_⟩
  simp only [partsAt, hp]
  exact List.mem_map.2 ⟨x, hx, rfl⟩
theorem meas_exists (h : FromOK rs) : ∃ M, IsMeas (rowsOf rs) M := by
  obtain ⟨rank, hr⟩ := ok_rank h
  exact exists_meas (rank := rank) (fun i r hi x hx => ⟨(hr i r hi x hx).1.1, (hr i r hi x hx).2⟩)
/-- A struct or a union that is done: its members' types are whole, and their bits fit. -/
theorem ok_members (h : FromOK rs) {i : Nat} {p : Rw × Value} (hp : rs[i]? = some p) (hk : recK p.1.kind = true) (hd : p.1.done = true) :
    ∀ m ∈ p.1.mem, wholeP rs m.type = true ∧ bitsP (kindP rs m.type) m.bits = true := by
  have hlt : i < rs.length := (List.getElem?_eq_some_iff.1 hp).1
  obtain ⟨hm, hc⟩ := enter_cut (h.1 i p hlt hp)
  have hk2 : p.1.kind = 15 ∨ p.1.kind = 16 := by simpa [recK] using hk
  have hr : refusP rs p.1.mem = 0 := by
    rcases hc with ⟨a, b⟩ | ⟨_, ⟨a, _⟩ | ⟨_, _, a | a⟩ | ⟨a, _⟩ | ⟨a, _⟩⟩
    · omega
    · omega
    · rw [hd] at a; cases a
    · exact a
    · omega
    · omega
  intro m hmm
  obtain ⟨pre, he⟩ := refus_err p.1.mem [] (refus_len hr).2.2 m hmm
  obtain ⟨_, e2, e3, _⟩ := memberErr_parts he
  exact ⟨e2, e3⟩
theorem width_cases (k : Int) (h : intK k = true ∨ k = 13) : widthP k = 1 ∨ widthP k = 2 ∨ widthP k = 4 := by
  have hk : 2 ≤ k ∧ k ≤ 13 := by
    rcases h with h | h
    · simp [intK] at h; omega
    · omega
  have : k = 2 ∨ k = 3 ∨ k = 4 ∨ k = 5 ∨ k = 6 ∨ k = 7 ∨ k = 8 ∨ k = 9 ∨ k = 10 ∨ k = 11 ∨ k = 12 ∨ k = 13 := by omega
  rcases this with rfl | rfl | rfl | rfl | rfl | rfl | rfl | rfl | rfl | rfl | rfl | rfl <;> decide
theorem meas_int (hM : IsMeas (rowsOf rs) M) {i : Nat} {p : Rw × Value} (hp : rs[i]? = some p) (hk : intK p.1.kind = true ∨ p.1.kind = 13) : M i = ⟨widthP p.1.kind, widthP p.1.kind⟩ := by
  have hk2 : p.1.kind ≠ 14 ∧ recK p.1.kind = false := by
    rcases hk with hk | hk
    · simp [intK] at hk; simp [recK]; omega
    · rw [hk]; decide
  have hw := width_cases _ hk
  rw [hM i p.1 (rows_at hp)]
  unfold roomP
  rw [if_neg hk2.1, if_neg (by rw [hk2.2]; decide)]
  unfold clampE
  simp only
  congr 1
  omega
theorem bits_ok (h : FromOK rs) (hM : IsMeas (rowsOf rs) M) {m : Mb} (hw : wholeP rs m.type = true) (hb : bitsP (kindP rs m.type) m.bits = true) : BitsOK m (M m.type) := by
  obtain ⟨p, hp, hwr, h0, hlt⟩ := whole_at hw
  obtain ⟨k, hk⟩ : ∃ k : Nat, m.type = k := ⟨m.type.toNat, by omega⟩
  rw [hk] at hb hp ⊢
  rw [Int.toNat_natCast] at hp
  rw [kindP_some hp] at hb
  unfold BitsOK
  simp only [bitsP, Bool.or_eq_true, beq_iff_eq, Bool.and_eq_true, decide_eq_true_eq] at hb
  rcases hb with hb | ⟨⟨hi, h1⟩, h2⟩
  · exact .inl hb
  · right
    rw [meas_int hM hp (.inl hi)]
    have hwd := width_cases _ (.inl hi)
    unfold widestP at h2
    refine ⟨h1, ?_⟩
    simp only
    split at h2
    · omega
    · exact h2
/-- Whole types' sizes and alignments. -/
theorem meas_ok (h : FromOK rs) (hM : IsMeas (rowsOf rs) M) : ∀ (i : Nat) (p : Rw × Value), rs[i]? = some p → wholeR p.1 = true → ExOK (M i) := by
  obtain ⟨rank, hr⟩ := ok_rank h
  have key : ∀ (n i : Nat) (p : Rw × Value), rank i < n → rs[i]? = some p → wholeR p.1 = true → ExOK (M i) := by
    intro n
    induction n with
    | zero => intro i p hn; omega
    | succ n ih =>
      intro i p hn hp hw
      have hpart : ∀ x ∈ partsR p.1, wholeP rs x = true → ExOK (M x) := by
        intro x hx hwx
        obtain ⟨⟨x0, xl⟩, hlt⟩ := hr i p.1 (rows_at hp) x hx
        obtain ⟨q, hq, hwq, _, _⟩ := whole_at hwx
        obtain ⟨k, hk⟩ : ∃ k : Nat, x = k := ⟨x.toNat, by omega⟩
        subst hk
        rw [Int.toNat_natCast] at hq hlt
        exact ih k q (by omega) hq hwq
      by_cases h14 : p.1.kind = 14
      · obtain ⟨_, _, hwe, hln, _⟩ := ok_arr h hp h14
        have he := hpart p.1.elem (by unfold partsR; rw [if_pos h14]; simp) hwe
        have hlen : 1 ≤ p.1.len := by
          unfold wholeR at hw
          rw [if_pos h14] at hw
          simp [lenK] at hln
          simp at hw
          omega
        rw [hM i p.1 (rows_at hp)]
        unfold roomP clampE
        rw [if_pos h14]
        simp only
        have hmul : 1 * 1 ≤ p.1.len * (M p.1.elem).size := Int.mul_le_mul hlen he.lo (by omega) (by omega)
        exact ⟨by simp only; omega, by simp only; omega, he.al⟩
      · by_cases hk : recK p.1.kind = true
        · have hd : p.1.done = true := by
            unfold wholeR at hw
            rw [if_neg h14, if_pos hk] at hw
            exact hw
          have hmem := ok_members h hp hk hd
          have hlt : i < rs.length := (List.getElem?_eq_some_iff.1 hp).1
          have hl64 := (enter_parts (h.1 i p hlt hp) hlt).2
          have hall : ∀ m ∈ p.1.mem, ExOK (M m.type) ∧ BitsOK m (M m.type) := fun m hm =>
            ⟨hpart m.type (by unfold partsR; rw [if_neg h14]; exact List.mem_map.2 ⟨m, hm, rfl⟩) (hmem m hm).1, bits_ok h hM (hmem m hm).1 (hmem m hm).2⟩
          have hls := layS_ok (un := p.1.kind == 16) (M := M) p.1.mem 0 ls0 ⟨by decide, by decide, by decide, by decide, by decide⟩ hall
          have he := end_ok hls (by omega)
          rw [hM i p.1 (rows_at hp)]
          unfold roomP clampE
          rw [if_neg h14, if_pos hk]
          exact ⟨by simp only; omega, by simp only; omega, he.2.2⟩
        · have hk2 : intK p.1.kind = true ∨ p.1.kind = 13 := by
            unfold wholeR at hw
            rw [if_neg h14, if_neg hk] at hw
            simpa using hw
          rw [meas_int hM hp hk2]
          have := width_cases _ hk2
          exact ⟨by simp only; omega, by simp only; omega, by simp only; omega⟩
  exact fun i p hp hw => key (rank i + 1) i p (by omega) hp hw
end
end Go.Proofs.YtlcghlfmaohfeaaGreat
namespace Go.Proofs.YtlcghlfmaohfeaaGreat
open Go.RowKit Go.Maps
set_option linter.unusedVariables false
set_option maxRecDepth 100000
abbrev TMX : TypeId := 120
theorem keyLawI : Keyed Tryz.prog 3 := int_keyed Tryz.underlying3
theorem keyOfI_gen {P : Program} {k : TypeId} (hu : P.underlying k = some (.int .i64)) {x : Int} (hx : wf64 x) : ∃ l, keyOf P k (.int .i64 x) = some l := by
  unfold wf64 at hx
  simp [keyOf, hu, mapKey, hx]
theorem run_store_again {P : Program} {t k e : TypeId} {w : World} {mb : Nat} {es : Array MapEntry} {ck : Nat} (K : Keyed P k) (ht : P.underlying t = some (.map k e))
    (hb : w.heap[mb]? = some (.map es ck)) {x : Int} {val : Value} {kl : Lit} (hkey : keyOf P k (.int .i64 x) = some kl) (hes : ∀ x ∈ es.toList, ∃ l, keyOf P k x.key = some l) (hn : ∃ y ∈ es.toList, y.key = .int .i64 x) :
    ∃ es', (Instr.mapUpdate t (.map (some mb)) (.int .i64 x) val).run P w = .ok () (ChangeMaps.setBlock w mb (.map es' ck)) ∧ ∀ y ∈ es'.toList, y ∈ es.toList ∨ (y.key = .int .i64 x ∧ y.val = val) := by
  rcases K.find w hkey es.toList hes with ⟨_, h2⟩ | ⟨j, e0, h1, h2, h3⟩
  · obtain ⟨y, hy, he⟩ := hn; exact absurd he (h2 y hy)
  · have h4 : es[j]? = some e0 := by rw [← Array.getElem?_toList]; exact h2
    have hsb : Instr.sameBits 10000 (.int .i64 x) (.int .i64 x) = true := by simp [Instr.sameBits]
    refine ⟨es.modify j fun e => { e with key := .int .i64 x, val := val }, ?_, ?_⟩
    · simp [Instr.mapUpdate, Instr.keyThatStays, hsb, h4, h3, run_underlying ht, MapKept.run_getObj_map hb, K.check w false hkey, h1, MapKept.run_setObj_map _ hb, Result.andThen, ChangeMaps.setBlock]
    · intro y hy
      obtain ⟨i, hi⟩ := List.getElem?_of_mem hy
      rw [Array.getElem?_toList, Array.getElem?_modify] at hi
      split at hi
      · cases hq : es[i]? with
        | none => rw [hq] at hi; cases hi
        | some q => rw [hq] at hi; cases hi; exact .inr ⟨rfl, rfl⟩
      · exact .inl (List.mem_of_getElem? ((Array.getElem?_toList ..).trans hi))
section
variable {w0 : World} {b rb m : Nat} {rs : List (Rw × Value)} {M : Int → Ex} {w W : World}
theorem wf_nat {i : Nat} (h : i ≤ 512) : wf64 (i : Int) := by
  have e1 : IntKind.min .i64 = -9223372036854775808 := by decide
  have e2 : IntKind.max .i64 = 9223372036854775807 := by decide
  simp only [wf64, Lit.wf, e1, e2, Bool.and_eq_true, decide_eq_true_eq]
  omega
theorem RU.keys (hl : rs.length ≤ 512) {es : Array MapEntry} (h : ∀ x ∈ es.toList, ∃ (i : Nat) (p : Rw × Value), x.key = .int .i64 i ∧ rs[i]? = some p ∧ wholeR p.1 = true ∧ x.val = exV (M i)) : ∀ x ∈ es.toList, ∃ l, keyOf Tryz.prog 3 x.key = some l := by
  intro x hx
  obtain ⟨i, p, e, hp, _⟩ := h x hx
  have hlt : i < rs.length := (List.getElem?_eq_some_iff.1 hp).1
  rw [e]
  exact keyOfI_gen Tryz.underlying3 (wf_nat (by omega))
theorem RU.look (h : RU w0 b rb m rs M W) (hl : rs.length ≤ 512) {i : Nat} (hi : i < rs.length) :
    (Instr.lookup TMX (.map (some m)) (.int .i64 i) true).run Tryz.prog W = .ok (.tuple #[exV (M i), .bool true]) W ∨
    (Instr.lookup TMX (.map (some m)) (.int .i64 i) true).run Tryz.prog W = .ok (.tuple #[.agg #[.int .i64 0, .int .i64 0], .bool false]) W := by
  obtain ⟨es, ck, h1, h2⟩ := h.kn
  have hks := RU.keys hl h2
  obtain ⟨l, hkl⟩ := keyOfI_gen (P := Tryz.prog) Tryz.underlying3 (wf_nat (i := i) (by omega))
  by_cases hx : ∃ x ∈ es.toList, x.key = .int .i64 i
  · left
    obtain ⟨x, hx1, hx2, hr⟩ := run_look_some keyLawI Tryz.underlying120 h1 hkl hks hx
    obtain ⟨k, p, e, hp, _, hv⟩ := h2 x hx1
    rw [hr, hv]
    rw [hx2] at e
    have : (i : Int) = k := by injection e
    rw [this]
  · right
    exact run_look_none keyLawI Tryz.underlying120 (by kernel_rfl) h1 hkl hks (fun x hx1 hx2 => hx ⟨x, hx1, hx2⟩)
theorem RU.put (h : RU w0 b rb m rs M W) (hl : rs.length ≤ 512) (hw0 : w0.heap.size ≤ m) (hrm : rb ≠ m) {i : Nat} {p : Rw × Value} (hp : rs[i]? = some p) (hw : wholeR p.1 = true) :
    ∃ W', (Instr.mapUpdate TMX (.map (some m)) (.int .i64 i) (exV (M i))).run Tryz.prog W = .ok () W' ∧ RU w0 b rb m rs M W' ∧ Turned W W' (fun k => k = m) := by
  obtain ⟨es, ck, h1, h2⟩ := h.kn
  have hks := RU.keys hl h2
  have hlt : i < rs.length := (List.getElem?_eq_some_iff.1 hp).1
  obtain ⟨l, hkl⟩ := keyOfI_gen (P := Tryz.prog) Tryz.underlying3 (wf_nat (i := i) (by omega))
  have go : ∀ (es' : Array MapEntry) (ck' : Nat), (∀ y ∈ es'.toList, y ∈ es.toList ∨ (y.key = .int .i64 i ∧ y.val = exV (M i))) → RU w0 b rb m rs M (ChangeMaps.setBlock W m (.map es' ck')) ∧ Turned W (ChangeMaps.setBlock W m (.map es' ck')) (fun k => k = m) := by
    intro es' ck' hy
    have ht : Turned W (ChangeMaps.setBlock W m (.map es' ck')) (fun k => k = m) := ⟨rfl, rfl, rfl, by simp [ChangeMaps.setBlock], fun k _ hk => ChangeMaps.heap_setBlock_other h1 _ (fun e => hk e)⟩
    refine ⟨⟨⟨ht.os.trans h.below.os, ht.tape.trans h.below.tape, ht.output.trans h.below.output, Nat.le_trans h.below.size ht.size, fun k hk => (ht.block k (Nat.lt_of_lt_of_le hk h.below.size) (by omega)).trans (h.below.block k hk)⟩, (ht.block _ (lt_of_heap h.ru) hrm).trans h.ru, es', ck', ChangeMaps.heap_setBlock_same h1 _, fun y hy' => ?_⟩, ht⟩
    rcases hy y hy' with hq | ⟨q1, q2⟩
    · exact h2 y hq
    · exact ⟨i, p, q1, hp, hw, q2⟩
  by_cases hx : ∃ x ∈ es.toList, x.key = .int .i64 i
  · obtain ⟨es', hr, hy⟩ := run_store_again (val := exV (M i)) keyLawI Tryz.underlying120 h1 hkl hks hx
    exact ⟨_, hr, go es' ck hy⟩
  · refine ⟨_, run_store_new keyLawI Tryz.underlying120 h1 hkl hks (fun x hx1 hx2 => hx ⟨x, hx1, hx2⟩), go _ _ ?_⟩
    intro y hy
    rw [Array.toList_push] at hy
    rcases List.mem_append.1 hy with hy | hy
    · exact .inl hy
    · simp at hy; rw [hy]; exact .inr ⟨rfl, rfl⟩
end
end Go.Proofs.YtlcghlfmaohfeaaGreat
namespace Go.Proofs.YtlcghlfmaohfeaaGreat
open Go.RowKit Go.Maps
set_option linter.unusedVariables false
set_option maxRecDepth 100000

def Small (rs : List (Rw × Value)) : Prop := ∀ p ∈ rs, p.1.mem.length ≤ 64

section
variable {B : Nat} {w : World} {b mb : Nat} {v : Value} {rs : List (Rw × Value)} {ps : List (Value × Value)}

theorem Tab.rowSl (h : Tab B w b mb v rs ps) : RowSl w v rs := RowSl.of_own h.rows h.mems

theorem rows_c (h : Tab B w b mb v rs ps) (h0 : 0 < rs.length) (hs : Small rs) :
    Calls Tryz.prog 36 #[.pointer (some ⟨b, 0, none⟩)] w fun e w' => ∃ v' rs', e = .returned v' ∧ rs'.map (·.1) = rs.map (·.1) ∧ w'.ownsRow w.heap.size TR 6 v' rs'.length (allCells rs') ∧
      (∀ p ∈ rs', w'.ownsRow w.heap.size TM 3 p.2 p.1.mem.length (memCells p.1.mem)) ∧ Below w.heap.size w w' := by
  have c1 := made_c h h0
  have c2 := copyRows_c h.rowSl (by have := h.len; omega) (fun p hp => by have := hs p hp; omega)
  have hc := h.c0
  have h1 := not_t
  go_enter Tryz.func36, Tryz.ntmps36
  go_wp2_with (first | (go_at_call 50; refine c1.mono ?_; rintro e w' ⟨rfl, rfl⟩) | (go_at_call 45; refine c2.mono ?_; rintro e w' ⟨v', rs', rfl, x1, x2, x3, x4⟩))
  go_ret
  exact ⟨_, _, rfl, x1, x2, x3, x4⟩

set_option maxHeartbeats 2000000 in
theorem row_c (h : Tab B w b mb v rs ps) {i : Nat} {p : Rw × Value} (hp : rs[i]? = some p) (hs : Small rs) :
    Calls Tryz.prog 55 #[.pointer (some ⟨b, 0, none⟩), .int .i64 i] w fun e w' => ∃ s', e = .returned (.tuple #[.agg (rwCells p.1 s').toArray, .bool true]) ∧
      w'.ownsRow w.heap.size TM 3 s' p.1.mem.length (memCells p.1.mem) ∧ Below w.heap.size w w' := by
  have hlt : i < rs.length := (List.getElem?_eq_some_iff.1 hp).1
  have hl := h.len
  have h1 := not_t
  have hB : Below w.heap.size w (w.alloc (.cells #[.int .i64 0, .int .i64 0, .int .i64 0, .string ⟨#[]⟩, .slice none 0 0, .bool false] TR)) := (Below.refl _ w).alloc (Nat.le_refl _) _
  have e1 : Hid (_ = _) := heap_r0 w (.cells #[.int .i64 0, .int .i64 0, .int .i64 0, .string ⟨#[]⟩, .slice none 0 0, .bool false] TR)
  have hsz : w.heap.size < (w.alloc (.cells #[.int .i64 0, .int .i64 0, .int .i64 0, .string ⟨#[]⟩, .slice none 0 0, .bool false] TR)).heap.size := lt_of_heap e1.out
  have h2 := h.keptB hB
  have HB : Hid (Below _ _ _) := hB
  have c1 := has_c h2 (by omega) i
  rw [hasP_nat hlt] at c1
  have hc := h2.c0
  obtain ⟨g, cap, hv, hcap, hcell⟩ := h2.cell hp
  have cR := copyRow_c (r := p.1) (s := p.2) (MemSl.of_own (h2.mems p (List.mem_of_getElem? hp))) (by have := hs p (List.mem_of_getElem? hp); omega)
  obtain ⟨sp0, sn0, sc0, hs0⟩ := (MemSl.of_own (h2.mems p (List.mem_of_getElem? hp))).sl
  obtain ⟨⟨kd, el, ln, tg, mm, dn⟩, s0⟩ := p
  simp only at hs0
  subst hs0
  rw [hv] at hc
  have c0 := hcell 0 (by omega)
  have c1' := hcell 1 (by omega)
  have c2 := hcell 2 (by omega)
  have c3 := hcell 3 (by omega)
  have c4 := hcell 4 (by omega)
  have c5 := hcell 5 (by omega)
  simp only [rwCells, Nat.add_zero, List.getElem?_cons_zero, List.getElem?_cons_succ] at c0 c1' c2 c3 c4 c5 cR ⊢
  clear hcell h h2 hp hB hs
  go_enter Tryz.func55, Tryz.ntmps55
  go_wp2_with fail
  generalize w.alloc (.cells #[.int .i64 0, .int .i64 0, .int .i64 0, .string ⟨#[]⟩, .slice none 0 0, .bool false] TR) = W at *
  refine c1.mono ?_
  rintro e w' ⟨rfl, hw⟩
  rw [hw]
  clear hw w' c1
  go_wp2_with fail
  refine cR.mono ?_
  rintro e w2 ⟨s', rfl, hown, hb2⟩
  obtain ⟨sp, sc, rfl⟩ := slice_of_own hown
  have e2 : Hid (w2.heap[w.heap.size]? = _) := (hb2.block _ hsz).trans e1.out
  have HO : Hid (World.ownsRow _ _ _ _ _ _ _) := hown
  have HB2 : Hid (Below _ _ w2) := hb2
  clear hown hb2 cR c0 c1' c2 c3 c4 c5 hc e1
  go_wp2_with ((with_reducible apply step_store e2.out); rfl; rfl; kernel_rfl; rfl; kernel_rfl)
  refine ret_rowb (p := 4) (q := 5) rfl rfl (setRow_heap _ _ _ _ _ _ e2.out) rfl ?_
  refine ⟨_, rfl, ownsRow_base (ownsRow_turned HO.out (Turned.setRow (S := fun k => k = w.heap.size) _ _ _ rfl) (fun k hk e => by have := (ownsRow_at HO.out hk).1; omega)) HB.out.size, ?_⟩
  exact below_setRow (HB.out.trans (HB2.out.mono HB.out.size)) (Nat.le_refl _) _
end
end Go.Proofs.YtlcghlfmaohfeaaGreat
namespace Go.Proofs.YtlcghlfmaohfeaaGreat
open Go.RowKit Go.Maps
set_option linter.unusedVariables false
set_option maxRecDepth 100000
section
variable {B : Nat} {w0 : World} {b rb m mb : Nat} {v : Value} {rs : List (Rw × Value)} {ps : List (Value × Value)} {M : Int → Ex} {w : World}
set_option maxHeartbeats 8000000 in
theorem measure_known (hRU : RU w0 b rb m rs M w) (hrm : rb ≠ m) (i : Nat) (hlk : (Instr.lookup TMX (.map (some m)) (.int .i64 i) true).run Tryz.prog (w.alloc (.cells #[.int .i64 0, .int .i64 0] TX)) = .ok (.tuple #[exV (M i), .bool true]) (w.alloc (.cells #[.int .i64 0, .int .i64 0] TX))) :
    Calls Tryz.prog 57 #[.pointer (some ⟨rb, 0, none⟩), .int .i64 i] w fun e w' => e = .returned (exV (M i)) ∧ RU w0 b rb m rs M w' ∧ Turned w w' (fun k => k = m) := by
  have hm := hRU.lt
  have hr := lt_of_heap hRU.ru
  have h0 := hRU.below.size
  have hb0 := below1 w (.cells #[.int .i64 0, .int .i64 0] TX)
  have R0 := blk_b hRU.ru hb0
  have q1 := Lib.cell_of_heap R0 1
  simp only [List.getElem?_toArray, List.getElem?_cons_succ, List.getElem?_cons_zero] at q1
  have hold1 := heap_r0 (w.alloc (.cells #[.int .i64 0, .int .i64 0] TX)) (.cells #[.int .i64 0, .int .i64 0] TX)
  have E0 := heap_r0 w (.cells #[.int .i64 0, .int .i64 0] TX)
  generalize M i = e at *
  have hb1 := below1 (w.alloc (.cells #[.int .i64 0, .int .i64 0] TX)) (.cells #[.int .i64 e.size, .int .i64 e.align] TX)
  have E1 : Hid (_ = _) := blk_b E0 hb1
  have N1 := heap_r0 (w.alloc (.cells #[.int .i64 0, .int .i64 0] TX)) (.cells #[.int .i64 e.size, .int .i64 e.align] TX)
  have HU : Hid (RU w0 b rb m rs M ((w.alloc (.cells #[.int .i64 0, .int .i64 0] TX)).alloc (.cells #[.int .i64 e.size, .int .i64 e.align] TX))) := (hRU.kept hb0).kept hb1
  have HT : Hid (Turned w ((w.alloc (.cells #[.int .i64 0, .int .i64 0] TX)).alloc (.cells #[.int .i64 e.size, .int .i64 e.align] TX)) (fun k => k = m)) := Turned.of_below (two_boxes w _ _ _ _) _
  obtain ⟨n0, n1⟩ := cells2 N1
  clear hRU hb0 hb1 R0 E0 N1
  go_enter Tryz.func57, Tryz.ntmps57
  go_wp2_with (first | ((with_reducible apply step_store hold1); rfl; rfl; kernel_rfl; rfl; kernel_rfl; rw [World.setRow_alloc_new]) | ((with_reducible apply step_store E1.out); rfl; rfl; kernel_rfl; rfl; kernel_rfl))
  refine (?_ : bodyPost _ _ _ _ _ _)
  refine ret_c1 (p := 4) rfl rfl (load_X (cs := #[.int .i64 e.size, .int .i64 e.align]) (setRow_heap _ _ _ _ _ _ E1.out) rfl) ?_
  exact ⟨rfl, (HU.out.fin h0 hr hm HT.out (Nat.le_refl _) _).1, (HU.out.fin h0 hr hm HT.out (Nat.le_refl _) _).2⟩
set_option maxHeartbeats 8000000 in
theorem measure_new (h0 : Tab B w0 b mb v rs ps) (hs : Small rs) {i : Nat} {p : Rw × Value} (hp : rs[i]? = some p) (hwh : wholeR p.1 = true) (hw0 : w0.heap.size ≤ m) (hrm : rb ≠ m)
    (hroom : ∀ sp sc W, RU w0 b rb m rs M W → MemSl W (.slice sp p.1.mem.length sc) p.1.mem → Calls Tryz.prog 87 #[.pointer (some ⟨rb, 0, none⟩), .agg #[.int .i64 p.1.kind, .int .i64 p.1.elem, .int .i64 p.1.len, .string p.1.tag, .slice sp p.1.mem.length sc, .bool p.1.done]] W fun e w' => e = .returned (exV (roomP M p.1)) ∧ RU w0 b rb m rs M w' ∧ Turned W w' (fun k => k = m))
    (hMi : M i = clampE (roomP M p.1)) (hlo : 0 ≤ (roomP M p.1).size) (hhi : (roomP M p.1).size ≤ 268451840) (hRU : RU w0 b rb m rs M w)
    (hlk : (Instr.lookup TMX (.map (some m)) (.int .i64 i) true).run Tryz.prog (w.alloc (.cells #[.int .i64 0, .int .i64 0] TX)) = .ok (.tuple #[.agg #[.int .i64 0, .int .i64 0], .bool false]) (w.alloc (.cells #[.int .i64 0, .int .i64 0] TX))) :
    Calls Tryz.prog 57 #[.pointer (some ⟨rb, 0, none⟩), .int .i64 i] w fun e w' => e = .returned (exV (M i)) ∧ RU w0 b rb m rs M w' ∧ Turned w w' (fun k => k = m) := by
  have hm := hRU.lt
  have hr := lt_of_heap hRU.ru
  have hz := hRU.below.size
  have hl := h0.len
  have hB0 := below1 w (.cells #[.int .i64 0, .int .i64 0] TX)
  have hB2 : Below w.heap.size w ((w.alloc (.cells #[.int .i64 0, .int .i64 0] TX)).alloc (.cells #[.int .i64 0, .int .i64 0] TX)) := two_boxes w _ _ _ _
  have E2 : Hid (_ = _) := heap_s1 w (.cells #[.int .i64 0, .int .i64 0] TX) (.cells #[.int .i64 0, .int .i64 0] TX)
  have R0 := blk_b hRU.ru hB0
  have R2 : Hid (_ = _) := blk_b hRU.ru hB2
  have q1 := Lib.cell_of_heap R0 1
  have q2 := Lib.cell_of_heap R2.out 0
  simp only [List.getElem?_toArray, List.getElem?_cons_succ, List.getElem?_cons_zero] at q1 q2
  have U2 : Hid (RU w0 b rb m rs M ((w.alloc (.cells #[.int .i64 0, .int .i64 0] TX)).alloc (.cells #[.int .i64 0, .int .i64 0] TX))) := hRU.kept hB2
  have T2 : Hid (Turned w ((w.alloc (.cells #[.int .i64 0, .int .i64 0] TX)).alloc (.cells #[.int .i64 0, .int .i64 0] TX)) (fun k => k = m)) := Turned.of_below hB2 _
  have c2 := row_c (h0.keptB U2.out.below) hp hs
  have HPUT : Hid (∀ W, RU w0 b rb m rs M W → ∃ W', (Instr.mapUpdate TMX (.map (some m)) (.int .i64 i) (exV (clampE (roomP M p.1)))).run Tryz.prog W = .ok () W' ∧ RU w0 b rb m rs M W' ∧ Turned W W' (fun k => k = m)) := fun W hU => by
    have := hU.put hl hw0 hrm hp hwh
    rw [hMi] at this
    exact this
  have HROOM : Hid (∀ sp sc W, RU w0 b rb m rs M W → MemSl W (.slice sp p.1.mem.length sc) p.1.mem → Calls Tryz.prog 87 #[.pointer (some ⟨rb, 0, none⟩), .agg #[.int .i64 p.1.kind, .int .i64 p.1.elem, .int .i64 p.1.len, .string p.1.tag, .slice sp p.1.mem.length sc, .bool p.1.done]] W fun e w' => e = .returned (exV (roomP M p.1)) ∧ RU w0 b rb m rs M w' ∧ Turned W w' (fun k => k = m)) := hroom
  rw [hMi]
  generalize roomP M p.1 = R at *
  obtain ⟨⟨kd, el, ln, tg, mm, dn⟩, s0⟩ := p
  simp only [rwCells] at c2 HROOM
  clear hroom hMi hp hwh hs h0 hB0 hB2 hRU R0
  go_enter Tryz.func57, Tryz.ntmps57
  go_wp2_with fail
  clear hlk q1
  generalize (w.alloc (.cells #[.int .i64 0, .int .i64 0] TX)).alloc (.cells #[.int .i64 0, .int .i64 0] TX) = W2 at *
  refine c2.mono ?_
  rintro e w3 ⟨s', rfl, hown, hb3⟩
  obtain ⟨sp, sc, rfl⟩ := slice_of_own hown
  have hold := heap_r0 w3 (.cells #[.int .i64 0, .int .i64 0, .int .i64 0, .string ⟨#[]⟩, .slice none 0 0, .bool false] TR)
  have hB4 := below1 w3 (.cells #[.int .i64 kd, .int .i64 el, .int .i64 ln, .string tg, .slice sp mm.length sc, .bool dn] TR)
  have hB24 : Below W2.heap.size W2 (w3.alloc (.cells #[.int .i64 kd, .int .i64 el, .int .i64 ln, .string tg, .slice sp mm.length sc, .bool dn] TR)) := hb3.trans (hB4.mono hb3.size)
  have E4 : Hid (_ = _) := blk_b E2.out hB24
  have U4 : Hid (RU w0 b rb m rs M (w3.alloc (.cells #[.int .i64 kd, .int .i64 el, .int .i64 ln, .string tg, .slice sp mm.length sc, .bool dn] TR))) := U2.out.kept hB24
  have T4 : Hid (Turned w (w3.alloc (.cells #[.int .i64 kd, .int .i64 el, .int .i64 ln, .string tg, .slice sp mm.length sc, .bool dn] TR)) (fun k => k = m)) := T2.out.trans (Turned.of_below hB24 (fun _ => False)) (fun _ _ h => h.elim)
  have SL : Hid (MemSl (w3.alloc (.cells #[.int .i64 kd, .int .i64 el, .int .i64 ln, .string tg, .slice sp mm.length sc, .bool dn] TR)) (.slice sp mm.length sc) mm) := (MemSl.of_own hown).below hB4
  clear c2 hown hb3 hB4 hB24 E2 R2 U2 T2 q2
  go_wp2_with (first | ((with_reducible apply step_store hold); rfl; rfl; kernel_rfl; rfl; kernel_rfl; rw [World.setRow_alloc_new]) | fail)
  generalize w3.alloc (.cells #[.int .i64 kd, .int .i64 el, .int .i64 ln, .string tg, .slice sp mm.length sc, .bool dn] TR) = W4 at *
  clear hold
  refine (HROOM.out _ _ _ U4.out SL.out).mono ?_
  rintro e w5 ⟨rfl, U5, t5⟩
  have hE4 := lt_of_heap E4.out
  have E5 := blk_t E4.out t5 (by omega)
  have T5 := T4.out.trans t5 (fun _ _ e => e)
  have hold6 := heap_r0 w5 (.cells #[.int .i64 0, .int .i64 0] TX)
  have n60 : (w5.alloc (.cells #[.int .i64 R.size, .int .i64 R.align] TX)).cell? ⟨w5.heap.size, 0, none⟩ = some (.int .i64 R.size) := by rw [Lib.cell_of_heap (heap_r0 w5 _)]; rfl
  clear HROOM SL U4 T4
  go_wp2_with (first | ((with_reducible apply step_store hold6); rfl; rfl; kernel_rfl; rfl; kernel_rfl; rw [World.setRow_alloc_new]) | fail)
  · have HS : Hid (clampE R = ⟨16385, R.align⟩) := by unfold Hid clampE; rw [show min R.size 16385 = 16385 by omega]
    rw [HS.out] at HPUT
    have hB6 := below1 w5 (.cells #[.int .i64 16385, .int .i64 R.align] TX)
    have U6 : Hid (RU w0 b rb m rs M (w5.alloc (.cells #[.int .i64 16385, .int .i64 R.align] TX))) := U5.kept hB6
    have E6 : Hid (_ = _) := blk_b E5 hB6
    have N6 : Hid (_ = _) := heap_r0 w5 (.cells #[.int .i64 16385, .int .i64 R.align] TX)
    have T6 : Hid (Turned w (w5.alloc (.cells #[.int .i64 16385, .int .i64 R.align] TX)) (fun k => k = m)) := T5.trans (Turned.of_below hB6 (fun _ => False)) (fun _ _ h => h.elim)
    have hlE := lt_of_heap E5
    have hlm := U5.lt
    clear hB6 U5 E5 T5 n60 hold6 t5
    generalize w5.alloc (.cells #[.int .i64 16385, .int .i64 R.align] TX) = W6 at *
    have q1 := Lib.cell_of_heap U6.out.ru 1
    have n0 := Lib.cell_of_heap N6.out 0
    have n1 := Lib.cell_of_heap N6.out 1
    simp only [List.getElem?_toArray, List.getElem?_cons_succ, List.getElem?_cons_zero] at q1 n0 n1
    obtain ⟨w7, hput, U7', t7⟩ := HPUT.out W6.drew (U6.out.kept (Below.refl _ W6).drew)
    have U7 : Hid (RU w0 b rb m rs M w7) := U7'
    have HT7 : Hid (Turned W6.drew w7 (fun k => k = m)) := t7
    clear t7 U7' HPUT
    go_region
    all_goals
      have E7 : Hid (_ = _) := (HT7.out.block _ (lt_of_heap E6.out) (by omega)).trans E6.out
      have N7 := (HT7.out.block _ (lt_of_heap N6.out) (by omega)).trans N6.out
      have r0 := Lib.cell_of_heap N7 0
      have r1 := Lib.cell_of_heap N7 1
      simp only [List.getElem?_toArray, List.getElem?_cons_succ, List.getElem?_cons_zero] at r0 r1
      have T7 : Hid (Turned w w7 (fun k => k = m)) := (T6.out.trans (Turned.of_below (Below.refl _ W6).drew (fun _ => False)) (fun _ _ h => h.elim)).trans HT7.out (fun _ _ e => e)
      clear N7
      go_wp2_with ((with_reducible apply step_store E7.out); rfl; rfl; kernel_rfl; rfl; kernel_rfl)
      refine (?_ : bodyPost _ _ _ _ _ _)
      refine ret_c1 (p := 4) rfl rfl (load_X (cs := #[.int .i64 16385, .int .i64 R.align]) (setRow_heap _ _ _ _ _ _ E7.out) rfl) ?_
      exact ⟨by rw [HS.out], (U7.out.fin hz hr hm T7.out (Nat.le_refl _) _).1, (U7.out.fin hz hr hm T7.out (Nat.le_refl _) _).2⟩
  · have HS : Hid (clampE R = ⟨R.size, R.align⟩) := by unfold Hid clampE; rw [show min R.size 16385 = R.size by omega]
    rw [HS.out] at HPUT
    have hB6 := below1 w5 (.cells #[.int .i64 R.size, .int .i64 R.align] TX)
    have U6 : Hid (RU w0 b rb m rs M (w5.alloc (.cells #[.int .i64 R.size, .int .i64 R.align] TX))) := U5.kept hB6
    have E6 : Hid (_ = _) := blk_b E5 hB6
    have N6 : Hid (_ = _) := heap_r0 w5 (.cells #[.int .i64 R.size, .int .i64 R.align] TX)
    have T6 : Hid (Turned w (w5.alloc (.cells #[.int .i64 R.size, .int .i64 R.align] TX)) (fun k => k = m)) := T5.trans (Turned.of_below hB6 (fun _ => False)) (fun _ _ h => h.elim)
    have hlE := lt_of_heap E5
    have hlm := U5.lt
    clear hB6 U5 E5 T5 n60 hold6 t5
    generalize w5.alloc (.cells #[.int .i64 R.size, .int .i64 R.align] TX) = W6 at *
    have q1 := Lib.cell_of_heap U6.out.ru 1
    have n0 := Lib.cell_of_heap N6.out 0
    have n1 := Lib.cell_of_heap N6.out 1
    simp only [List.getElem?_toArray, List.getElem?_cons_succ, List.getElem?_cons_zero] at q1 n0 n1
    obtain ⟨w7, hput, U7', t7⟩ := HPUT.out W6.drew (U6.out.kept (Below.refl _ W6).drew)
    have U7 : Hid (RU w0 b rb m rs M w7) := U7'
    have HT7 : Hid (Turned W6.drew w7 (fun k => k = m)) := t7
    clear t7 U7' HPUT
    go_region
    all_goals
      have E7 : Hid (_ = _) := (HT7.out.block _ (lt_of_heap E6.out) (by omega)).trans E6.out
      have N7 := (HT7.out.block _ (lt_of_heap N6.out) (by omega)).trans N6.out
      have r0 := Lib.cell_of_heap N7 0
      have r1 := Lib.cell_of_heap N7 1
      simp only [List.getElem?_toArray, List.getElem?_cons_succ, List.getElem?_cons_zero] at r0 r1
      have T7 : Hid (Turned w w7 (fun k => k = m)) := (T6.out.trans (Turned.of_below (Below.refl _ W6).drew (fun _ => False)) (fun _ _ h => h.elim)).trans HT7.out (fun _ _ e => e)
      clear N7
      go_wp2_with ((with_reducible apply step_store E7.out); rfl; rfl; kernel_rfl; rfl; kernel_rfl)
      refine (?_ : bodyPost _ _ _ _ _ _)
      refine ret_c1 (p := 4) rfl rfl (load_X (cs := #[.int .i64 R.size, .int .i64 R.align]) (setRow_heap _ _ _ _ _ _ E7.out) rfl) ?_
      exact ⟨by rw [HS.out], (U7.out.fin hz hr hm T7.out (Nat.le_refl _) _).1, (U7.out.fin hz hr hm T7.out (Nat.le_refl _) _).2⟩
end
end Go.Proofs.YtlcghlfmaohfeaaGreat
namespace Go.Proofs.YtlcghlfmaohfeaaGreat
open Go.RowKit Go.Maps
set_option linter.unusedVariables false
set_option maxRecDepth 100000
section
variable {B : Nat} {w0 : World} {b rb m mb : Nat} {v : Value} {rs : List (Rw × Value)} {ps : List (Value × Value)} {M : Int → Ex}
theorem measure_step (h0 : Tab B w0 b mb v rs ps) (hs : Small rs) (hf : FromOK rs) (hM : IsMeas (rowsOf rs) M) (hw0 : w0.heap.size ≤ m) (hrm : rb ≠ m) {i : Nat} {p : Rw × Value} (hp : rs[i]? = some p) (hwh : wholeR p.1 = true)
    (hpart : ∀ x ∈ partsR p.1, wholeP rs x = true → MC w0 b rb m rs M x ∧ ExOK (M x)) : MC w0 b rb m rs M i := by
  intro w hRU
  have hlt : i < rs.length := (List.getElem?_eq_some_iff.1 hp).1
  have hMi := hM i p.1 (rows_at hp)
  have hl := h0.len
  have U0 := hRU.kept (below1 w (.cells #[.int .i64 0, .int .i64 0] TX))
  rcases U0.look hl hlt with hlk | hlk
  · exact measure_known hRU hrm i hlk
  · by_cases h14 : p.1.kind = 14
    · obtain ⟨_, _, hwe, hln, _⟩ := ok_arr hf hp h14
      obtain ⟨hm1, hE⟩ := hpart p.1.elem (by unfold partsR; rw [if_pos h14]; simp) hwe
      have hlen : 1 ≤ p.1.len ∧ p.1.len ≤ 16384 := by
        unfold wholeR at hwh
        rw [if_pos h14] at hwh
        simp [lenK] at hln
        simp at hwh
        omega
      have hr : roomP M p.1 = ⟨p.1.len * (M p.1.elem).size, (M p.1.elem).align⟩ := by unfold roomP; rw [if_pos h14]
      have e1 := hE.lo
      have e2 := hE.hi
      have q1 := Int.mul_nonneg (show 0 ≤ p.1.len by omega) (show 0 ≤ (M p.1.elem).size by omega)
      have q2 := Int.mul_le_mul hlen.2 e2 (by omega) (by omega)
      refine measure_new h0 hs hp hwh hw0 hrm (fun sp sc W hU hsl => ?_) hMi (by rw [hr]; exact q1) (by rw [hr]; simp only; omega) hRU hlk
      rw [hr, h14]
      exact room_arr hU hw0 hrm p.1 hm1 hE (by omega) hlen.2
    · have h14' : (p.1.kind == 14) = false := by simpa using h14
      by_cases hk : recK p.1.kind = true
      · have hd : p.1.done = true := by
          unfold wholeR at hwh
          rw [if_neg h14, if_pos hk] at hwh
          exact hwh
        have hmem := ok_members hf hp hk hd
        have hl64 := (enter_parts (hf.1 i p hlt hp) hlt).2
        have hall : ∀ x ∈ p.1.mem, MC w0 b rb m rs M x.type ∧ ExOK (M x.type) ∧ BitsOK x (M x.type) := fun x hx =>
          have q := hpart x.type (by unfold partsR; rw [if_neg h14]; exact List.mem_map.2 ⟨x, hx, rfl⟩) (hmem x hx).1
          ⟨q.1, q.2, bits_ok hf hM (hmem x hx).1 (hmem x hx).2⟩
        have hls := layS_ok (un := p.1.kind == 16) (M := M) p.1.mem 0 ls0 ⟨by decide, by decide, by decide, by decide, by decide⟩ (fun x hx => (hall x hx).2)
        have he := end_ok hls (by omega)
        have hr : roomP M p.1 = endP (layS (p.1.kind == 16) M ls0 p.1.mem) := by unfold roomP; rw [if_neg h14, if_pos hk]
        refine measure_new h0 hs hp hwh hw0 hrm (fun sp sc W hU hsl => ?_) hMi (by rw [hr]; omega) (by rw [hr]; omega) hRU hlk
        rw [hr]
        exact room_rec hU hw0 hrm p.1 hk h14' hsl (by omega) hall
      · have hr : roomP M p.1 = ⟨widthP p.1.kind, widthP p.1.kind⟩ := by unfold roomP; rw [if_neg h14, if_neg hk]
        have hws : 0 ≤ widthP p.1.kind ∧ widthP p.1.kind ≤ 4 := by unfold widthP; split <;> (try split) <;> (try split) <;> omega
        refine measure_new h0 hs hp hwh hw0 hrm (fun sp sc W hU hsl => ?_) hMi (by rw [hr]; exact hws.1) (by rw [hr]; simp only; omega) hRU hlk
        rw [hr]
        exact room_int hU hw0 hrm p.1 (by simpa using hk) h14'
theorem measure_all (h0 : Tab B w0 b mb v rs ps) (hs : Small rs) (hf : FromOK rs) (hM : IsMeas (rowsOf rs) M) (hw0 : w0.heap.size ≤ m) (hrm : rb ≠ m) :
    ∀ (i : Nat) (p : Rw × Value), rs[i]? = some p → wholeR p.1 = true → MC w0 b rb m rs M i := by
  obtain ⟨rank, hr⟩ := ok_rank hf
  have key : ∀ (n i : Nat) (p : Rw × Value), rank i < n → rs[i]? = some p → wholeR p.1 = true → MC w0 b rb m rs M i := by
    intro n
    induction n with
    | zero => intro i p hn; omega
    | succ n ih =>
      intro i p hn hp hw
      refine measure_step h0 hs hf hM hw0 hrm hp hw (fun x hx hwx => ?_)
      obtain ⟨⟨x0, xl⟩, hlt⟩ := hr i p.1 (rows_at hp) x hx
      obtain ⟨q, hq, hwq, _, _⟩ := whole_at hwx
      obtain ⟨k, hk⟩ : ∃ k : Nat, x = k := ⟨x.toNat, by omega⟩
      subst hk
      rw [Int.toNat_natCast] at hq hlt
      exact ⟨ih k q (by omega) hq hwq, meas_ok hf hM k q hq hwq⟩
  exact fun i p hp hw => key (rank i + 1) i p (by omega) hp hw
end
end Go.Proofs.YtlcghlfmaohfeaaGreat
