/-
  Complete, as the law plays it: with its own copy of the members.
  Complete: the members lie in a block of their own.
  What is done to a table leaves its rows rows that make a table. (Pure.)
  Two tables side by side: the program's and the given answer's, with the same rows.
  An act on both tables: the same answer, the same rows behind it.
  Pointers, arrays and what completes a type, on both tables.
  Complete on both tables.
  An act on both tables, as the law plays it: the acts that add a type.
  An act on both tables: one that is none, and Complete with the law's own copy of the members.
-/
import Derived.Test.YtdfkkflpcamhjaaGreatDoorComplete
import Derived.Test.YtdfkkflpcamhjaaGreatDoorRefP
import Derived.Test.YtdfkkflpcamhjaaGreatDoorMFrom
import Derived.Test.YtdfkkflpcamhjaaGreatDoorNew
import Derived.Test.YtdfkkflpcamhjaaGreatDoorActs
import Derived.Test.YtdfkkflpcamhjaaGreatDoorCopyT
import Derived.Test.YtdfkkflpcamhjaaGreatDoorRefDer
import Derived.Test.YtdfkkflpcamhjaaGreatDoorRefCom
import Derived.Laws.AppendOwnNone
namespace Go.Proofs.YtdfkkflpcamhjaaGreatDoor
open Go.RowKit Go.Maps
set_option linter.unusedVariables false
set_option maxRecDepth 100000

section
variable {B : Nat} {w : World} {b mb : Nat} {v : Value} {rs : List (Rw × Value)} {ps : List (Value × Value)}
set_option maxHeartbeats 1000000 in
theorem complete_new (h : Tab B w b mb v rs ps) (h0 : 0 < rs.length) {x : Value} {l : List Mb} (hl : MemSl w x l) (hs : ∀ m ∈ l, m.name.size ≤ 9223372036854775807) (hbig : l.length ≤ 9223372036854775807) {i : Nat} {r : Rw} {s0 : Value} (hp : rs[i]? = some (r, s0))
    (hk : recK r.kind = true) (hd : r.done = false) (he : refusP rs l = 0) :
    Calls Tryz.prog 26 #[.pointer (some ⟨b, 0, none⟩), .int .i64 i, x] w fun e w' => e = .returned (.int .i64 0) ∧
      ∃ s, (∀ k, s.ownBlock = some k → w.heap.size ≤ k) ∧ Tab B w' b mb v (rs.set i ({ r with mem := l, done := true }, s)) ps ∧ Turned w w' (own b mb v) := by
  have hn1 : 1 ≤ l.length := by
    rcases Nat.lt_or_ge l.length 1 with hh | hh
    · rw [refusP, if_pos (Or.inl hh)] at he; cases he
    · exact hh
  have hn2 : l.length ≤ 64 := by
    rcases Nat.lt_or_ge 64 l.length with hh | hh
    · rw [refusP, if_pos (Or.inr hh)] at he; cases he
    · exact hh
  have c1 := made_c h h0
  have c2 := kind_some h i _ hp
  have c3 := isRecord_c r.kind w
  rw [hk] at c3
  have c4 := refusal_c h h0 hl hs hbig
  rw [he] at c4
  have hc := h.c0
  have hlt : i < rs.length := (List.getElem?_eq_some_iff.1 hp).1
  have hln := h.len
  obtain ⟨g, cap, hv, hcap, hcell⟩ := h.cell hp
  have a4 := hcell 4 (by omega)
  have a5 := hcell 5 (by omega)
  simp only [rwCells, List.getElem?_cons_succ, List.getElem?_cons_zero, hd] at a4 a5
  have hgl : g < w.heap.size := World.block_lt_of_cell? w _ a5
  have hbl : b < w.heap.size := lt_of_heap h.tab
  obtain ⟨_, cur, hcur⟩ := ownsRow_at h.rows (g := g) (by rw [hv]; rfl)
  clear hcell
  have h1 := not_t
  simp only at c2
  rw [hv] at hc
  go_enter Tryz.func26, Tryz.ntmps26
  go_wp2_with (first | (go_at_call 41; refine c1.mono ?_; rintro e w' ⟨rfl, rfl⟩) | (go_at_call 57; refine c2.mono ?_; rintro e w' ⟨rfl, rfl⟩) | (go_at_call 56; refine c3.mono ?_; rintro e w' ⟨rfl, rfl⟩) | (go_at_call 58; refine c4.mono ?_; rintro e w1 ⟨rfl, hb1⟩))
  have cC := fun W' (hbb : Below w1.heap.size w1 W') => copyMembers_c ((hl.below hb1).below hbb) hn1 hn2
  have q0 : w1.cell? ⟨b, 0, none⟩ = some (.slice (some ⟨g, 0, none⟩) rs.length cap) := (hb1.cell (p := ⟨b, 0, none⟩) hbl).trans hc
  have q4 : w1.cell? ⟨g, i * 6 + 4, none⟩ = some s0 := (hb1.cell (p := ⟨g, i * 6 + 4, none⟩) hgl).trans a4
  have q5 : w1.cell? ⟨g, i * 6 + 5, none⟩ = some (.bool false) := (hb1.cell (p := ⟨g, i * 6 + 5, none⟩) hgl).trans a5
  have Q : Hid (w1.heap[g]? = some (.cells cur TR (0, 0))) := (hb1.block g hgl).trans hcur
  have hgl1 : g < w1.heap.size := Nat.lt_of_lt_of_le hgl hb1.size
  have hbl1 : b < w1.heap.size := Nat.lt_of_lt_of_le hbl hb1.size
  have HB1 : Hid (Below _ _ w1) := hb1
  have HH : Hid (Tab _ _ _ _ _ _ _) := h
  clear c1 c2 c3 c4 a4 a5 hc hcur hb1 hl hs hbig h
  go_region_with (go_at_call 59; refine (cC _ (by exact ⟨rfl, rfl, rfl, Nat.le_refl _, fun _ _ => rfl⟩)).mono ?_; rintro e w2 ⟨s, rfl, hown, hb2⟩; obtain ⟨sp, scap, rfl⟩ := slice_of_own hown; have p0 : w2.cell? ⟨b, 0, none⟩ = some (.slice (some ⟨g, 0, none⟩) rs.length cap) := (hb2.cell (p := ⟨b, 0, none⟩) hbl1).trans q0; have p4 : w2.cell? ⟨g, i * 6 + 4, none⟩ = some s0 := (hb2.cell (p := ⟨g, i * 6 + 4, none⟩) hgl1).trans q4; have p5 : w2.cell? ⟨g, i * 6 + 5, none⟩ = some (.bool false) := (hb2.cell (p := ⟨g, i * 6 + 5, none⟩) hgl1).trans q5; have Q2 : Hid (w2.heap[g]? = some (.cells cur TR (0, 0))) := (hb2.block g hgl1).trans Q.out; have f4 : w2.frozen? ⟨g, i * 6 + 4, none⟩ = false := frozen_of Q2.out _; have f5 : w2.frozen? ⟨g, i * 6 + 5, none⟩ = false := frozen_of Q2.out _; have HO : Hid (World.ownsRow _ _ _ _ _ _ _) := hown; have HB2 : Hid (Below _ _ w2) := hb2; clear hown hb2)
  all_goals go_wp2
  all_goals go_ret
  all_goals
    subst hv
    refine ⟨rfl, _, fun k hk => Nat.le_trans HB1.out.size (ownsRow_at HO.out hk).1, (HH.out.complete hp (HB1.out.trans ((below_drew _ w1).trans (HB2.out.mono HB1.out.size))) (ownsRow_base HO.out (Nat.le_trans HH.out.lt HB1.out.size)) rfl)⟩
end
end Go.Proofs.YtdfkkflpcamhjaaGreatDoor
namespace Go.Proofs.YtdfkkflpcamhjaaGreatDoor
open Go.RowKit Go.Maps
set_option linter.unusedVariables false
set_option maxRecDepth 100000

/-- A later table: no fewer rows, of the same kinds, what was whole is whole. -/
structure Ext (rs rs' : List (Rw × Value)) : Prop where
  len : rs.length ≤ rs'.length
  whole : ∀ id, wholeP rs id = true → wholeP rs' id = true
  kind : ∀ id, hasP rs.length id = true → kindP rs' id = kindP rs id

section
variable {rs rs' : List (Rw × Value)}
theorem memberErr_parts {pre : List Mb} {m : Mb} (h : memberErr rs pre m = 0) : hasP rs.length m.type = true ∧ wholeP rs m.type = true ∧ bitsP (kindP rs m.type) m.bits = true ∧ namedP m pre = true := by
  unfold memberErr at h
  split at h
  · cases h
  · rename_i h1
    split at h
    · cases h
    · rename_i h2
      split at h
      · cases h
      · rename_i h3
        split at h
        · cases h
        · rename_i h4
          exact ⟨by simpa using h1, by simpa using h2, by simpa using h3, by simpa using h4⟩
theorem memberErr_mk {pre : List Mb} {m : Mb} (h1 : hasP rs.length m.type = true) (h2 : wholeP rs m.type = true) (h3 : bitsP (kindP rs m.type) m.bits = true) (h4 : namedP m pre = true) : memberErr rs pre m = 0 := by
  unfold memberErr
  rw [if_neg (by simp [h1]), if_neg (by simp [h2]), if_neg (by simp [h3]), if_neg (by simp [h4])]
theorem hasP_mono {n n' : Nat} (hn : n ≤ n') {id : Int} (h : hasP n id = true) : hasP n' id = true := by
  simp [hasP] at h ⊢; omega
theorem memberErr_mono (hE : Ext rs rs') {pre : List Mb} {m : Mb} (h : memberErr rs pre m = 0) : memberErr rs' pre m = 0 := by
  obtain ⟨h1, h2, h3, h4⟩ := memberErr_parts h
  exact memberErr_mk (hasP_mono hE.len h1) (hE.whole _ h2) (by rw [hE.kind _ h1]; exact h3) h4
theorem refusFrom_mono (hE : Ext rs rs') : ∀ (l pre : List Mb), refusFrom rs pre l = 0 → refusFrom rs' pre l = 0
  | [], _, _ => rfl
  | a :: r, pre, h => by
    simp only [refusFrom] at h ⊢
    split at h
    · rename_i h0
      rw [if_pos (memberErr_mono hE h0)]
      exact refusFrom_mono hE r _ h
    · rename_i h0; exact absurd h h0
theorem refusP_mono (hE : Ext rs rs') {l : List Mb} (h : refusP rs l = 0) : refusP rs' l = 0 := by
  obtain ⟨h1, h2, h3⟩ := refus_len h
  unfold refusP
  rw [if_neg (by omega)]
  exact refusFrom_mono hE l [] h3
theorem enterB_mono (hE : Ext rs rs') {ps : List (Value × Value)} {i : Nat} {r : Rw} (h : enterB rs ps i r = true) : enterB rs' ps i r = true := by
  have q1 : (refusP rs r.mem == 0) = true → (refusP rs' r.mem == 0) = true := by
    intro h; simp only [beq_iff_eq] at h ⊢; exact refusP_mono hE h
  have q2 := hE.whole r.elem
  unfold enterB at h ⊢
  by_cases c0 : moreP r = true
  · rw [if_pos c0] at h; cases h
  rw [if_neg c0] at h ⊢
  by_cases c1 : i < 11
  · rw [if_pos c1] at h ⊢; exact h
  rw [if_neg c1] at h ⊢
  by_cases c2 : r.kind = 12
  · rw [if_pos c2] at h ⊢; exact h
  rw [if_neg c2] at h ⊢
  by_cases c3 : r.kind = 15 ∨ r.kind = 16
  · rw [if_pos c3] at h ⊢
    simp only [Bool.and_eq_true, Bool.or_eq_true] at h ⊢
    exact ⟨h.1, h.2.imp id q1⟩
  rw [if_neg c3] at h ⊢
  by_cases c4 : r.kind = 13
  · rw [if_pos c4] at h ⊢; exact h
  rw [if_neg c4] at h ⊢
  by_cases c5 : r.kind = 14
  · rw [if_pos c5] at h ⊢
    simp only [Bool.and_eq_true] at h ⊢
    exact ⟨⟨h.1.1, q2 h.1.2⟩, h.2⟩
  rw [if_neg c5] at h; cases h

theorem refus_whole {l : List Mb} (h : refusP rs l = 0) : ∀ m ∈ l, wholeP rs m.type = true := by
  intro m hm
  obtain ⟨pre, he⟩ := refus_err l [] (refus_len h).2.2 m hm
  exact (memberErr_parts he).2.1
/-- An entered row's parts are whole. -/
theorem enter_whole {ps : List (Value × Value)} {i : Nat} {r : Rw} (h : enterB rs ps i r = true) : ∀ x ∈ partsR r, wholeP rs x = true := by
  intro x hx
  unfold enterB at h
  by_cases c0 : moreP r = true
  · rw [if_pos c0] at h; cases h
  have c0' : moreP r = false := by simpa using c0
  rw [if_neg c0] at h
  unfold partsR at hx
  by_cases c5 : r.kind = 14
  · rw [if_pos c5, List.mem_singleton] at hx
    subst hx
    by_cases c1 : i < 11
    · rw [if_pos c1] at h
      have : r.kind = 1 + (i : Int) := by simpa using h
      omega
    · rw [if_neg c1, if_neg (by omega), if_neg (by omega), if_neg (by omega), if_pos c5] at h
      simp only [Bool.and_eq_true] at h
      exact h.1.2
  · rw [if_neg c5] at hx
    obtain ⟨m, hm, rfl⟩ := List.mem_map.1 hx
    by_cases hd : ownDone r = true
    · have h2 : (r.kind = 15 ∨ r.kind = 16) ∧ r.done = true := by simpa [ownDone, recK] using hd
      by_cases c1 : i < 11
      · rw [if_pos c1] at h
        have : r.kind = 1 + (i : Int) := by simpa using h
        omega
      · rw [if_neg c1, if_neg (by omega), if_pos h2.1, h2.2] at h
        simp only [Bool.and_eq_true, Bool.or_eq_true] at h
        rcases h.2 with h3 | h3
        · cases h3
        · exact refus_whole (by simpa using h3) m hm
    · rw [more_mem c0' (by simpa using hd)] at hm; cases hm

theorem whole_at {x : Int} (h : wholeP rs x = true) : ∃ p, rs[x.toNat]? = some p ∧ wholeR p.1 = true ∧ 0 ≤ x ∧ x.toNat < rs.length := by
  unfold wholeP at h
  split at h
  · rename_i h0
    cases hp : rs[x.toNat]? with
    | none => rw [hp] at h; cases h
    | some p => rw [hp] at h; exact ⟨p, rfl, h, h0, (List.getElem?_eq_some_iff.1 hp).1⟩
  · cases h
theorem le_foldr : ∀ (l : List Nat) (x : Nat), x ∈ l → x ≤ l.foldr max 0 := by
  intro l
  induction l with
  | nil => intro x hx; cases hx
  | cons a l ih =>
    intro x hx
    simp only [List.foldr_cons]
    rcases List.mem_cons.1 hx with rfl | hx
    · exact Nat.le_max_left _ _
    · exact Nat.le_trans (ih x hx) (Nat.le_max_right _ _)
/-- One type turns that is part of none: no circle comes of it. -/
theorem acyc_turn {P P' : Nat → List Nat} {n n' i0 : Nat} (h : Acyc P n) (hP : ∀ i, i < n' → i ≠ i0 → i < n ∧ P' i = P i) (hout : ∀ i, i < n' → ∀ j ∈ P' i, j ≠ i0) : Acyc P' n' := by
  obtain ⟨rank, h⟩ := h
  refine ⟨fun i => if i = i0 then ((P' i0).map rank).foldr max 0 + 1 else rank i, fun i hi j hj => ?_⟩
  have hne := hout i hi j hj
  simp only [hne, if_false]
  by_cases hik : i = i0
  · subst hik
    simp only [if_true]
    exact Nat.lt_succ_of_le (le_foldr _ _ (List.mem_map.2 ⟨j, hj, rfl⟩))
  · simp only [hik, if_false]
    obtain ⟨h1, h2⟩ := hP i hi hik
    rw [h2] at hj
    exact h i h1 j hj

theorem append_ext (x : Rw × Value) : Ext rs (rs ++ [x]) := by
  have hat : ∀ k, k < rs.length → (rs ++ [x])[k]? = rs[k]? := fun k hk => List.getElem?_append_left hk
  refine ⟨by simp, fun id h => ?_, fun id h => ?_⟩
  · obtain ⟨p, hp, hw, h0, hl⟩ := whole_at h
    unfold wholeP
    rw [if_pos h0, hat _ hl, hp]; exact hw
  · have h2 : 0 ≤ id ∧ id < rs.length := by simpa [hasP] using h
    unfold kindP
    rw [if_pos h2.1, if_pos h2.1, hat _ (by omega)]
theorem FromOK.more (h : FromOK rs) {r : Rw} (hr : enterB rs (pairs (rowsOf rs)) rs.length r = true) (s : Value) : FromOK (rs ++ [(r, s)]) := by
  have hE := append_ext (rs := rs) (r, s)
  have hat : ∀ k, k < rs.length → (rs ++ [(r, s)])[k]? = rs[k]? := fun k hk => List.getElem?_append_left hk
  have hlast : (rs ++ [(r, s)])[rs.length]? = some (r, s) := by simp
  have hall : AllIn (rs ++ [(r, s)]) (rs ++ [(r, s)]).length := by
    intro i p hi hp
    have htk : ∀ k, k ≤ rs.length → (rowsOf (rs ++ [(r, s)])).take k = (rowsOf rs).take k := by
      intro k hk
      simp only [rowsOf, List.map_append]
      exact List.take_append_of_le_length (by simpa using hk)
    simp only [List.length_append, List.length_singleton] at hi
    rw [htk i (by omega)]
    by_cases hlt : i < rs.length
    · rw [hat i hlt] at hp
      exact enterB_mono hE (h.1 i p hlt hp)
    · obtain rfl : i = rs.length := by omega
      rw [hlast] at hp
      cases hp
      rw [show (rowsOf rs).take rs.length = rowsOf rs by rw [List.take_of_length_le]; simp [rowsOf]]
      exact enterB_mono hE hr
  refine ⟨hall, ?_⟩
  have hpa : ∀ i, i < rs.length → partsAt (rs ++ [(r, s)]) i = partsAt rs i := by
    intro i hi; unfold partsAt; rw [hat i hi]
  refine acyc_turn (i0 := rs.length) h.2 (fun i hi hne => ?_) (fun i hi j hj => ?_)
  · simp at hi
    exact ⟨by omega, hpa i (by omega)⟩
  · simp at hi
    have hx : ∃ x, wholeP rs x = true ∧ j = x.toNat := by
      by_cases hlt : i < rs.length
      · rw [hpa i hlt] at hj
        unfold partsAt at hj
        obtain ⟨p, hp⟩ : ∃ p, rs[i]? = some p := ⟨_, List.getElem?_eq_getElem hlt⟩
        rw [hp] at hj
        obtain ⟨x, hx, rfl⟩ := List.mem_map.1 hj
        exact ⟨x, enter_whole (h.1 i p hlt hp) x hx, rfl⟩
      · obtain rfl : i = rs.length := by omega
        unfold partsAt at hj
        rw [hlast] at hj
        obtain ⟨x, hx, rfl⟩ := List.mem_map.1 hj
        exact ⟨x, enter_whole hr x hx, rfl⟩
    obtain ⟨x, hw, rfl⟩ := hx
    obtain ⟨_, _, _, _, hl⟩ := whole_at hw
    omega

theorem set_at {i k : Nat} {x : Rw × Value} (hi : i < rs.length) : (rs.set i x)[k]? = if k = i then some x else rs[k]? := by
  rw [List.getElem?_set]
  by_cases h : i = k
  · subst h; simp [hi]
  · rw [if_neg h, if_neg (fun e => h e.symm)]
theorem set_ext {i : Nat} {r : Rw} {s0 s : Value} {l : List Mb} (hp : rs[i]? = some (r, s0)) (hk : recK r.kind = true) (hd : r.done = false) : Ext rs (rs.set i ({ r with mem := l, done := true }, s)) := by
  have hi : i < rs.length := (List.getElem?_eq_some_iff.1 hp).1
  have hkk : r.kind = 15 ∨ r.kind = 16 := by simpa [recK] using hk
  refine ⟨by simp, fun id h => ?_, fun id h => ?_⟩
  · obtain ⟨p, hq, hw, h0, hl⟩ := whole_at h
    unfold wholeP
    rw [if_pos h0, set_at hi]
    by_cases e : id.toNat = i
    · rw [if_pos e]
      simp only [wholeR]
      rw [if_neg (by omega), if_pos hk]
    · rw [if_neg e, hq]; exact hw
  · have h2 : 0 ≤ id ∧ id < rs.length := by simpa [hasP] using h
    unfold kindP
    rw [if_pos h2.1, if_pos h2.1, set_at hi]
    by_cases e : id.toNat = i
    · rw [if_pos e, e, hp]
    · rw [if_neg e]
theorem moreP_done {r : Rw} {l : List Mb} (hk : recK r.kind = true) (h : moreP r = false) : moreP { r with mem := l, done := true } = false := by
  have hkk : r.kind = 15 ∨ r.kind = 16 := by simpa [recK] using hk
  simp only [moreP, Bool.or_eq_false_iff] at h ⊢
  refine ⟨?_, by simp [ownDone, hk]⟩
  have h1 := h.1
  simp only [moreHead] at h1 ⊢
  rw [if_neg (by omega), if_neg (by omega), if_neg (by omega), if_pos hkk] at h1 ⊢
  exact h1
theorem zip_set0 {r r' : Rw} (h1 : derivd r = false) (h2 : derivd r' = false) : ∀ (l : List Rw) (n i : Nat), l[i]? = some r → ((l.set i r').zipIdx n).filterMap pairOf = (l.zipIdx n).filterMap pairOf
  | [], _, _, h => by simp at h
  | a :: t, n, 0, h => by
    have e : a = r := by simpa using h
    subst e
    simp [pairOf, h1, h2]
  | a :: t, n, i + 1, h => by
    have e := zip_set0 h1 h2 t (n + 1) i (by simpa using h)
    rw [List.set_cons_succ, List.zipIdx_cons, List.zipIdx_cons, List.filterMap_cons, List.filterMap_cons, e]
theorem pairs_set0 {k i : Nat} {r r' : Rw} {s0 s : Value} (hp : rs[i]? = some (r, s0)) (h1 : derivd r = false) (h2 : derivd r' = false) : pairs ((rowsOf (rs.set i (r', s))).take k) = pairs ((rowsOf rs).take k) := by
  have e : rowsOf (rs.set i (r', s)) = (rowsOf rs).set i r' := by simp [rowsOf, List.map_set]
  rw [e, List.take_set]
  by_cases hik : i < k
  · exact zip_set0 h1 h2 _ 0 i (by rw [List.getElem?_take, if_pos hik]; simp [rowsOf, hp])
  · rw [List.set_eq_of_length_le (by simp; omega)]
theorem FromOK.set (h : FromOK rs) {i : Nat} {r : Rw} {s0 : Value} {l : List Mb} (hp : rs[i]? = some (r, s0)) (hk : recK r.kind = true) (hd : r.done = false) (hl : refusP rs l = 0) (s : Value) : FromOK (rs.set i ({ r with mem := l, done := true }, s)) := by
  have hi : i < rs.length := (List.getElem?_eq_some_iff.1 hp).1
  have hkk : r.kind = 15 ∨ r.kind = 16 := by simpa [recK] using hk
  have hE := set_ext (l := l) (s := s) hp hk hd
  have hd1 : derivd r = false := by simp [derivd]; omega
  have hd2 : derivd { r with mem := l, done := true } = false := by simp [derivd]; omega
  have hr := h.1 i (r, s0) hi hp
  have hall : AllIn (rs.set i ({ r with mem := l, done := true }, s)) (rs.set i ({ r with mem := l, done := true }, s)).length := by
    intro j p hj hq
    rw [pairs_set0 hp hd1 hd2]
    rw [set_at hi] at hq
    rw [List.length_set] at hj
    by_cases e : j = i
    · subst e
      rw [if_pos rfl] at hq
      cases hq
      simp only at hr ⊢
      unfold enterB at hr ⊢
      by_cases c0 : moreP r = true
      · rw [if_pos c0] at hr; cases hr
      have c0' : moreP r = false := by simpa using c0
      rw [if_neg c0] at hr
      rw [if_neg (by rw [moreP_done hk c0']; simp)]
      by_cases c1 : j < 11
      · rw [if_pos c1] at hr
        have : r.kind = 1 + (j : Int) := by simpa using hr
        omega
      · rw [if_neg c1, if_neg (by omega), if_pos hkk] at hr
        rw [if_neg c1, if_neg (by show ¬ r.kind = 12; omega), if_pos hkk]
        simp only [Bool.and_eq_true, Bool.or_eq_true] at hr ⊢
        exact ⟨hr.1, Or.inr (by simpa using refusP_mono hE hl)⟩
    · rw [if_neg e] at hq
      exact enterB_mono hE (h.1 j p hj hq)
  refine ⟨hall, ?_⟩
  have hpa : ∀ j, j ≠ i → partsAt (rs.set i ({ r with mem := l, done := true }, s)) j = partsAt rs j := by
    intro j hj; unfold partsAt; rw [set_at hi, if_neg hj]
  refine acyc_turn (i0 := i) h.2 (fun j hj hne => ?_) (fun j hj y hy => ?_)
  · rw [List.length_set] at hj
    exact ⟨hj, hpa j hne⟩
  · rw [List.length_set] at hj
    have hx : ∃ x, wholeP rs x = true ∧ y = x.toNat := by
      by_cases e : j = i
      · subst e
        unfold partsAt at hy
        rw [set_at hi, if_pos rfl] at hy
        obtain ⟨x, hx, rfl⟩ := List.mem_map.1 hy
        unfold partsR at hx
        rw [if_neg (by show ¬ r.kind = 14; omega)] at hx
        obtain ⟨m, hm, rfl⟩ := List.mem_map.1 hx
        exact ⟨_, refus_whole hl m hm, rfl⟩
      · rw [hpa j e] at hy
        unfold partsAt at hy
        obtain ⟨p, hq⟩ : ∃ p, rs[j]? = some p := ⟨_, List.getElem?_eq_getElem hj⟩
        rw [hq] at hy
        obtain ⟨x, hx, rfl⟩ := List.mem_map.1 hy
        exact ⟨x, enter_whole (h.1 j p hj hq) x hx, rfl⟩
    obtain ⟨x, hw, rfl⟩ := hx
    intro e
    obtain ⟨p, hq, hw2, _, _⟩ := whole_at hw
    rw [e, hp] at hq
    cases hq
    simp only [wholeR] at hw2
    rw [if_neg (by omega), if_pos hk, hd] at hw2
    cases hw2

theorem enter_tag {k : Int} (hk : k = 12 ∨ k = 15 ∨ k = 16) {s : ByteArray} (ht : tagP s.data.toList = true) (hl : 11 ≤ rs.length) (ps : List (Value × Value)) : enterB rs ps rs.length ⟨k, 0, 0, s, [], false⟩ = true := by
  unfold enterB
  have c0 : moreP ⟨k, 0, 0, s, [], false⟩ = false := by
    simp only [moreP, moreHead]
    rcases hk with rfl | rfl | rfl <;> simp
  rw [if_neg (by rw [c0]; simp), if_neg (by omega)]
  simp only
  rcases hk with rfl | hk
  · rw [if_pos rfl]; exact ht
  · rw [if_neg (by omega), if_pos hk, ht]; rfl
theorem enter_der {k e n : Int} (hk : k = 13 ∨ k = 14) (he : 0 ≤ e ∧ e < rs.length) (h13 : k = 13 → n = 0) (hW : k = 14 → wholeP rs e = true) (hlen : k = 14 → lenK n = true) (hl : 11 ≤ rs.length) {ps : List (Value × Value)} (hno : ∀ kv ∈ ps, kv.1 ≠ keyV k e n) :
    enterB rs ps rs.length ⟨k, e, n, ⟨#[]⟩, [], false⟩ = true := by
  have ht : ¬ twiceB ps ⟨k, e, n, ⟨#[]⟩, [], false⟩ := by
    rintro ⟨kv, h1, h2⟩; exact hno kv h1 h2
  unfold enterB
  have c0 : moreP ⟨k, e, n, ⟨#[]⟩, [], false⟩ = false := by
    simp only [moreP, moreHead]
    rcases hk with rfl | rfl
    · rw [h13 rfl]; simp
    · simp
  rw [if_neg (by rw [c0]; simp), if_neg (by omega)]
  simp only
  rw [if_neg (by omega), if_neg (by omega)]
  rcases hk with rfl | rfl
  · rw [if_pos rfl, if_neg ht]; simp; omega
  · rw [if_neg (by omega), if_pos rfl, if_neg ht, hW rfl, hlen rfl]; simp; omega
theorem fromOK_new : FromOK (basicRows 11) := by
  constructor
  · intro i p hi hp
    have hi' : i < 11 := hi
    have : i = 0 ∨ i = 1 ∨ i = 2 ∨ i = 3 ∨ i = 4 ∨ i = 5 ∨ i = 6 ∨ i = 7 ∨ i = 8 ∨ i = 9 ∨ i = 10 := by omega
    rcases this with rfl | rfl | rfl | rfl | rfl | rfl | rfl | rfl | rfl | rfl | rfl <;>
    · simp only [basicRows, List.getElem?_map, List.getElem?_range hi', Option.map_some, Option.some.injEq] at hp
      subst hp
      unfold enterB
      rw [if_neg (by simp [moreP, moreHead, basic]), if_pos (by decide)]
      decide
  · refine ⟨fun _ => 0, fun i hi j hj => ?_⟩
    have hi' : i < 11 := hi
    have : i = 0 ∨ i = 1 ∨ i = 2 ∨ i = 3 ∨ i = 4 ∨ i = 5 ∨ i = 6 ∨ i = 7 ∨ i = 8 ∨ i = 9 ∨ i = 10 := by omega
    exfalso
    rcases this with rfl | rfl | rfl | rfl | rfl | rfl | rfl | rfl | rfl | rfl | rfl <;> cases hj
end
end Go.Proofs.YtdfkkflpcamhjaaGreatDoor
namespace Go.Proofs.YtdfkkflpcamhjaaGreatDoor
open Go.RowKit Go.Maps
set_option linter.unusedVariables false
set_option maxRecDepth 100000

structure Duo (B : Nat) (w : World) (b mb : Nat) (v : Value) (rs : List (Rw × Value)) (rb : Nat) (rv : Value) (rs2 : List (Rw × Value)) : Prop where
  tab : Tab B w b mb v rs (pairs (rowsOf rs))
  ref : RTab B w rb rv rs2
  same : rs2.map (·.1) = rs.map (·.1)
  apart : ∀ k, v.ownBlock = some k → rv.ownBlock ≠ some k
  len : 11 ≤ rs.length
  small : Small rs
  uniq : Uniq (pairs (rowsOf rs))
  sane : ∀ p ∈ rs, Sane p.1
  ok : FromOK rs

section
variable {B : Nat} {w w' : World} {b mb rb : Nat} {v rv : Value} {rs rs2 : List (Rw × Value)}
theorem ty_ne {w : World} {k : Nat} {c1 c2 : Array Value} {t1 t2 : TypeId} (h1 : w.heap[k]? = some (.cells c1 t1 (0, 0))) (h2 : w.heap[k]? = some (.cells c2 t2 (0, 0))) (hne : t1 ≠ t2) : False := by
  rw [h1] at h2; injection h2 with e; injection e with _ e; exact hne e
theorem map_ne {w : World} {k : Nat} {c1 : Array Value} {t1 : TypeId} {es : Array MapEntry} {ck : Nat} (h1 : w.heap[k]? = some (.cells c1 t1 (0, 0))) (h2 : w.heap[k]? = some (.map es ck)) : False := by
  rw [h1] at h2; cases h2

/-- What the program's table turns leaves the given answer's as it is. -/
theorem Duo.ref_kept (h : Duo B w b mb v rs rb rv rs2) (ht : Turned w w' (own b mb v)) : RTab B w' rb rv rs2 := by
  obtain ⟨es, ck, hm, _⟩ := h.tab.map
  refine h.ref.kept ht ?_ ?_
  · rintro k (rfl | hk) hown
    · rcases hown with rfl | rfl | hv
      · exact ty_ne h.ref.tab h.tab.tab (by decide)
      · exact map_ne h.ref.tab hm
      · obtain ⟨_, cur, hc⟩ := ownsRow_at h.tab.rows hv
        exact ty_ne h.ref.tab hc (by decide)
    · obtain ⟨_, c0, h0⟩ := ownsRow_at h.ref.rows hk
      rcases hown with rfl | rfl | hv
      · exact ty_ne h0 h.tab.tab (by decide)
      · exact map_ne h0 hm
      · exact h.apart k hv hk
  · intro p hp k hk hown
    obtain ⟨_, c0, h0⟩ := ownsRow_at (h.ref.mems p hp) hk
    rcases hown with rfl | rfl | hv
    · exact ty_ne h0 h.tab.tab (by decide)
    · exact map_ne h0 hm
    · obtain ⟨_, cur, hc⟩ := ownsRow_at h.tab.rows hv
      exact ty_ne h0 hc (by decide)
/-- What the given answer's table turns leaves a program's as it is. -/
theorem tab_kept {B' : Nat} {ps : List (Value × Value)} (h : Tab B' w b mb v rs ps) (hr : RTab B w rb rv rs2) (hap : ∀ k, v.ownBlock = some k → rv.ownBlock ≠ some k) (ht : Turned w w' (RTab.rown rb rv)) : Tab B' w' b mb v rs ps := by
  obtain ⟨es, ck, hm, _⟩ := h.map
  refine h.kept ht ?_ ?_
  · rintro k hown (rfl | hk)
    · rcases hown with rfl | rfl | hv
      · exact ty_ne hr.tab h.tab (by decide)
      · exact map_ne hr.tab hm
      · obtain ⟨_, cur, hc⟩ := ownsRow_at h.rows hv
        exact ty_ne hr.tab hc (by decide)
    · obtain ⟨_, c0, h0⟩ := ownsRow_at hr.rows hk
      rcases hown with rfl | rfl | hv
      · exact ty_ne h0 h.tab (by decide)
      · exact map_ne h0 hm
      · exact hap k hv hk
  · intro p hp k hk hown
    obtain ⟨_, c0, h0⟩ := ownsRow_at (h.mems p hp) hk
    rcases hown with rfl | hv
    · exact ty_ne h0 hr.tab (by decide)
    · obtain ⟨_, cur, hc⟩ := ownsRow_at hr.rows hv
      exact ty_ne h0 hc (by decide)
theorem Duo.below (h : Duo B w b mb v rs rb rv rs2) (hb : Below w.heap.size w w') : Duo B w' b mb v rs rb rv rs2 :=
  ⟨h.tab.keptB hb, h.ref.keptB hb, h.same, h.apart, h.len, h.small, h.uniq, h.sane, h.ok⟩
theorem Duo.len2 (h : Duo B w b mb v rs rb rv rs2) : rs2.length = rs.length := fst_len h.same
theorem Duo.rt (h : Duo B w b mb v rs rb rv rs2) : RT w rb rv rs2 := ⟨h.ref.c0, h.ref.rowSl, by have := h.len2; have := h.tab.len; omega⟩

/-- A row more in both. -/
theorem Duo.more {w2 : World} {v' rv' : Value} {r : Rw} {s s2 : Value} (h : Duo B w b mb v rs rb rv rs2)
    (h1 : Tab B w2 b mb v' (rs ++ [(r, s)]) (pairs (rowsOf (rs ++ [(r, s)])))) (h2 : RTab B w2 rb rv' (rs2 ++ [(r, s2)])) (hap : ∀ k, v'.ownBlock = some k → rv'.ownBlock ≠ some k)
    (hm : r.mem.length ≤ 64) (hu : Uniq (pairs (rowsOf (rs ++ [(r, s)])))) (hs : Sane r) (hok : FromOK (rs ++ [(r, s)])) : Duo B w2 b mb v' (rs ++ [(r, s)]) rb rv' (rs2 ++ [(r, s2)]) := by
  refine ⟨h1, h2, by simp [h.same], hap, by have := h.len; simp; omega, ?_, hu, ?_, hok⟩
  · intro p hp
    rw [List.mem_append, List.mem_singleton] at hp
    rcases hp with hp | rfl
    · exact h.small p hp
    · exact hm
  · intro p hp
    rw [List.mem_append, List.mem_singleton] at hp
    rcases hp with hp | rfl
    · exact h.sane p hp
    · exact hs

theorem rowsOf_snoc (r : Rw) (s : Value) : rowsOf (rs ++ [(r, s)]) = rowsOf rs ++ [r] := by simp [rowsOf]
theorem pairs_plain {r : Rw} {s : Value} (hd : derivd r = false) : pairs (rowsOf (rs ++ [(r, s)])) = pairs (rowsOf rs) := by
  rw [rowsOf_snoc, pairs_snoc, hd]; simp
theorem pairs_deriv {r : Rw} {s : Value} (hd : derivd r = true) : pairs (rowsOf (rs ++ [(r, s)])) = pairs (rowsOf rs) ++ [(keyV r.kind r.elem r.len, .int .i64 rs.length)] := by
  rw [rowsOf_snoc, pairs_snoc, hd]; simp [rowsOf]
/-- Is there a pointer or an array like it? By the map and by the rows. -/
theorem pair_row {k e n : Int} (hk : k = 13 ∨ k = 14) {i : Nat} : (keyV k e n, Value.int .i64 i) ∈ pairs (rowsOf rs) ↔ ∃ p, rs[i]? = some p ∧ likeK k e n p.1 = true := by
  rw [mem_pairs]
  constructor
  · rintro ⟨j, r, hj, hd, he⟩
    injection he with e1 e2
    injection e2 with _ e2
    have hij : i = j := by omega
    subst hij
    obtain ⟨a1, a2, a3⟩ := keyV_inj e1
    simp only [rowsOf, List.getElem?_map] at hj
    cases h2 : rs[i]? with
    | none => rw [h2] at hj; cases hj
    | some p =>
      rw [h2] at hj
      have : p.1 = r := by simpa using hj
      exact ⟨p, rfl, by simp [likeK, this, a1, a2, a3]⟩
  · rintro ⟨p, hp, hl⟩
    simp only [likeK, Bool.and_eq_true, beq_iff_eq] at hl
    refine ⟨i, p.1, by simp [rowsOf, hp], ?_, by rw [hl.1.1, hl.1.2, hl.2]⟩
    simp [derivd, hl.1.1]; omega
theorem key_row {k e n : Int} (hk : k = 13 ∨ k = 14) (h : ∃ kv ∈ pairs (rowsOf rs), kv.1 = keyV k e n) : ∃ (i : Nat) (p : Rw × Value), rs[i]? = some p ∧ likeK k e n p.1 = true := by
  obtain ⟨kv, hkv, he⟩ := h
  obtain ⟨j, r, hj, hd, rfl⟩ := mem_pairs.1 hkv
  have : (keyV k e n, Value.int .i64 j) ∈ pairs (rowsOf rs) := by rw [← he]; exact hkv
  obtain ⟨p, hp, hl⟩ := (pair_row hk).1 this
  exact ⟨j, p, hp, hl⟩
end
end Go.Proofs.YtdfkkflpcamhjaaGreatDoor
namespace Go.Proofs.YtdfkkflpcamhjaaGreatDoor
open Go.RowKit Go.Maps
set_option linter.unusedVariables false
set_option maxRecDepth 100000

def Fresh (w : World) (v v' : Value) : Prop := v'.ownBlock = v.ownBlock ∨ ∃ g, v'.ownBlock = some g ∧ w.heap.size ≤ g
/-- Behind an act: two tables again, nothing else has turned. -/
def Fin (B : Nat) (w : World) (b mb : Nat) (v : Value) (rb : Nat) (rv : Value) (w2 : World) : Prop :=
  ∃ v' rs' rv' rs2', Duo B w2 b mb v' rs' rb rv' rs2' ∧ Turned w w2 (fun k => own b mb v k ∨ RTab.rown rb rv k) ∧ Fresh w v v' ∧ Fresh w rv rv'

section
variable {B : Nat} {w w1 w2 : World} {b mb rb : Nat} {v rv v' rv' : Value} {rs rs2 : List (Rw × Value)}
theorem Duo.stay (h : Duo B w b mb v rs rb rv rs2) (hb : Below w.heap.size w w2) : Fin B w b mb v rb rv w2 :=
  ⟨v, rs, rv, rs2, h.below hb, Turned.of_below hb _, Or.inl rfl, Or.inl rfl⟩
theorem Duo.grow (h : Duo B w b mb v rs rb rv rs2) {r : Rw} {s s2 : Value} {PS : List (Value × Value)} (a1 : Tab B w1 b mb v' (rs ++ [(r, s)]) PS) (t1 : Turned w w1 (own b mb v)) (f1 : Fresh w v v')
    (a2 : RTab B w2 rb rv' (rs2 ++ [(r, s2)])) (t2 : Turned w1 w2 (RTab.rown rb rv)) (f2 : Fresh w1 rv rv') (hps : PS = pairs (rowsOf (rs ++ [(r, s)]))) (hm : r.mem.length ≤ 64) (hu : Uniq PS) (hs : Sane r) (hok : enterB rs (pairs (rowsOf rs)) rs.length r = true) : Fin B w b mb v rb rv w2 := by
  have hr1 := h.ref_kept t1
  have hap1 : ∀ k, v'.ownBlock = some k → rv.ownBlock ≠ some k := by
    intro k hk hk2
    rcases f1 with e | ⟨g, e, hg⟩
    · exact h.apart k (e ▸ hk) hk2
    · rw [e] at hk; cases hk
      obtain ⟨_, cur, hc⟩ := ownsRow_at h.ref.rows hk2
      have := lt_of_heap hc; omega
  have a1' := tab_kept a1 hr1 hap1 t2
  have hap2 : ∀ k, v'.ownBlock = some k → rv'.ownBlock ≠ some k := by
    intro k hk hk2
    rcases f2 with e | ⟨g, e, hg⟩
    · exact hap1 k hk (e ▸ hk2)
    · rw [e] at hk2; cases hk2
      obtain ⟨_, cur, hc⟩ := ownsRow_at a1.rows hk
      have := lt_of_heap hc; omega
  subst hps
  refine ⟨v', _, rv', _, h.more a1' a2 hap2 hm hu hs (h.ok.more hok s), ?_, f1, ?_⟩
  · exact (t1.mono (fun k hk => Or.inl hk)).trans (t2.mono (fun k hk => Or.inr hk)) (fun _ _ x => x)
  · rcases f2 with e | ⟨g, e, hg⟩
    · exact Or.inl e
    · exact Or.inr ⟨g, e, Nat.le_trans t1.size hg⟩

/-- Two calls, one behind the other, that answer the same pair. -/
def Both2 (B : Nat) (w : World) (b mb : Nat) (v : Value) (rb : Nat) (rv : Value) (f g : FuncId) (a1 a2 : Array Value) : Prop :=
  ∃ (x y : Int) (Mid : World → Prop), Calls Tryz.prog f a1 w (fun e w1 => e = .returned (.tuple #[.int .i64 x, .int .i64 y]) ∧ Mid w1) ∧
    ∀ w1, Mid w1 → Turned w w1 (own b mb v) ∧ Calls Tryz.prog g a2 w1 fun e w2 => e = .returned (.tuple #[.int .i64 x, .int .i64 y]) ∧ Fin B w b mb v rb rv w2

theorem duo_basic (h : Duo B w b mb v rs rb rv rs2) (k : Int) (hk : wf64 k) : Both2 B w b mb v rb rv 16 17 #[.pointer (some ⟨b, 0, none⟩), .int .i64 k] #[.pointer (some ⟨rb, 0, none⟩), .int .i64 k] := by
  have hl := h.len
  have c1 := basic_c h.tab (by omega) k hk
  have c2 := rBasic_c (w := w) k hk (.pointer (some ⟨rb, 0, none⟩))
  by_cases hh : 1 ≤ k ∧ k ≤ 11
  · rw [if_pos hh] at c1 c2
    refine ⟨k - 1, 0, fun w1 => w1 = w, c1, fun w1 hw => ?_⟩
    subst hw
    refine ⟨Turned.of_below (Below.refl _ _) _, c2.mono fun e w2 ⟨he, hw⟩ => ⟨he, by subst hw; exact h.stay (Below.refl _ _)⟩⟩
  · rw [if_neg hh] at c1 c2
    refine ⟨0, 30, fun w1 => w1 = w, c1, fun w1 hw => ?_⟩
    subst hw
    refine ⟨Turned.of_below (Below.refl _ _) _, c2.mono fun e w2 ⟨he, hw⟩ => ⟨he, by subst hw; exact h.stay (Below.refl _ _)⟩⟩

theorem duo_tagged (h : Duo B w b mb v rs rb rv rs2) (k : Int) (hk : k = 12 ∨ k = 15 ∨ k = 16) (s : ByteArray) (hs : s.size ≤ 9223372036854775807) :
    Both2 B w b mb v rb rv 49 19 #[.pointer (some ⟨b, 0, none⟩), .int .i64 k, .string s] #[.pointer (some ⟨rb, 0, none⟩), .int .i64 k, .string s] := by
  have hl := h.len
  have hl2 := h.tab.len
  have hl3 := h.len2
  have hsane : Sane ⟨k, 0, 0, s, [], false⟩ := ⟨by show 1 ≤ k; omega, by show k ≤ 16; omega, fun e => by have : k = 14 := e; omega⟩
  have hder : derivd ⟨k, 0, 0, s, [], false⟩ = false := by simp [derivd]; omega
  rcases ht : tagP s.data.toList with _ | _
  · refine ⟨0, 31, fun w1 => w1 = w, tagged_bad h.tab (by omega) k s hs ht, fun w1 hw => ?_⟩
    subst hw
    exact ⟨Turned.of_below (Below.refl _ _) _, (rTagged_bad k s hs ht _).mono fun e w2 ⟨he, hw⟩ => ⟨he, by subst hw; exact h.stay (Below.refl _ _)⟩⟩
  · by_cases hfull : rs.length = 512
    · refine ⟨0, 32, fun w1 => Below w.heap.size w w1, tagged_of h.tab (by omega) k s hs ht (add_full h.tab _ _ hfull), fun w1 hb => ?_⟩
      exact ⟨Turned.of_below hb _, (rTagged_of k s hs ht (rAdd_full (h.ref.keptB hb) _ _ (by omega))).mono fun e w2 ⟨he, hb2⟩ => ⟨he, h.stay (hb.trans (hb2.mono hb.size))⟩⟩
    · refine ⟨rs.length, 0, fun w1 => ∃ v', Tab B w1 b mb v' (rs ++ [(⟨k, 0, 0, s, [], false⟩, .slice none 0 0)]) (pairs (rowsOf rs)) ∧ Turned w w1 (own b mb v) ∧ Fresh w v v', tagged_of h.tab (by omega) k s hs ht (add_c h.tab _ _ (World.ownsRow_nil _ _ _ _) (by omega)), fun w1 hM => ?_⟩
      obtain ⟨v', a1, t1, f1⟩ := hM
      have hr := h.ref_kept t1
      have c := rAdd_c hr ⟨k, 0, 0, s, [], false⟩ (.slice none 0 0) (World.ownsRow_nil _ _ _ _) (by omega)
      rw [hl3] at c
      refine ⟨t1, (rTagged_of k s hs ht c).mono fun e w2 ⟨he, rv', a2, t2, f2⟩ => ⟨he, ?_⟩⟩
      exact h.grow a1 t1 f1 a2 t2 f2 (pairs_plain hder).symm (by simp) h.uniq hsane (enter_tag hk ht hl _)
/-- Behind an act, as a law sees it: two tables again; nothing that lies below them has turned. -/
def FinP (B : Nat) (w : World) (b mb rb : Nat) (w2 : World) : Prop :=
  ∃ v' rs' rv' rs2', Duo B w2 b mb v' rs' rb rv' rs2' ∧ Turned w w2 (fun k => B ≤ k)
theorem Duo.own_ge (h : Duo B w b mb v rs rb rv rs2) {k : Nat} (hk : own b mb v k ∨ RTab.rown rb rv k) : B ≤ k ∧ k < w.heap.size := by
  obtain ⟨es, ck, hm, _⟩ := h.tab.map
  rcases hk with (rfl | rfl | hk) | (rfl | hk)
  · exact ⟨h.tab.bB, lt_of_heap h.tab.tab⟩
  · exact ⟨h.tab.mB, lt_of_heap hm⟩
  · obtain ⟨a, c, e⟩ := ownsRow_at h.tab.rows hk; exact ⟨a, lt_of_heap e⟩
  · exact ⟨h.ref.bB, lt_of_heap h.ref.tab⟩
  · obtain ⟨a, c, e⟩ := ownsRow_at h.ref.rows hk; exact ⟨a, lt_of_heap e⟩
theorem Fin.p (h : Duo B w b mb v rs rb rv rs2) (hb : Below w.heap.size w w1) (hf : Fin B w1 b mb v rb rv w2) : FinP B w b mb rb w2 := by
  obtain ⟨v', rs', rv', rs2', h1, h2, _⟩ := hf
  exact ⟨v', rs', rv', rs2', h1, (Turned.of_below hb _).trans (h2.mono (fun k hk => (h.own_ge hk).1)) (fun _ _ x => x)⟩
end
end Go.Proofs.YtdfkkflpcamhjaaGreatDoor
namespace Go.Proofs.YtdfkkflpcamhjaaGreatDoor
open Go.RowKit Go.Maps
set_option linter.unusedVariables false
set_option maxRecDepth 100000

section
variable {B : Nat} {w w1 w2 : World} {b mb rb : Nat} {v rv v' rv' : Value} {rs rs2 : List (Rw × Value)}
theorem Duo.at2 (h : Duo B w b mb v rs rb rv rs2) {j : Nat} {q : Rw × Value} (hq : rs2[j]? = some q) : ∃ p, rs[j]? = some p ∧ p.1 = q.1 := by
  have e : (rs2.map (·.1))[j]? = (rs.map (·.1))[j]? := by rw [h.same]
  simp only [List.getElem?_map, hq] at e
  cases hp : rs[j]? with
  | none => rw [hp] at e; cases e
  | some p => rw [hp] at e; exact ⟨p, rfl, by simpa using e.symm⟩
theorem Duo.at1 (h : Duo B w b mb v rs rb rv rs2) {j : Nat} {p : Rw × Value} (hp : rs[j]? = some p) : ∃ q, rs2[j]? = some q ∧ q.1 = p.1 := by
  have e : (rs2.map (·.1))[j]? = (rs.map (·.1))[j]? := by rw [h.same]
  simp only [List.getElem?_map, hp] at e
  cases hq : rs2[j]? with
  | none => rw [hq] at e; cases e
  | some q => rw [hq] at e; exact ⟨q, rfl, by simpa using e⟩

/-- derived on both. -/
theorem duo_derived (h : Duo B w b mb v rs rb rv rs2) {k e n : Int} (hk : k = 13 ∨ k = 14) (he : wf64 e) (hn : wf64 n) (hlen : k = 14 → lenK n = true) (hE : 0 ≤ e ∧ e < rs.length) (h13 : k = 13 → n = 0) (hW : k = 14 → wholeP rs e = true) :
    Both2 B w b mb v rb rv 52 53 #[.pointer (some ⟨b, 0, none⟩), keyV k e n] #[.pointer (some ⟨rb, 0, none⟩), .int .i64 k, .int .i64 e, .int .i64 n] := by
  have hl := h.len
  have hl2 := h.tab.len
  have hl3 := h.len2
  have hwk : wf64 k := by rcases hk with rfl | rfl <;> (unfold wf64; decide)
  have hder : derivd ⟨k, e, n, ⟨#[]⟩, [], false⟩ = true := by simp [derivd]; omega
  by_cases hy : ∃ kv ∈ pairs (rowsOf rs), kv.1 = keyV k e n
  · obtain ⟨i, p, hp, hlk⟩ := key_row hk hy
    have hin := (pair_row hk).2 ⟨p, hp, hlk⟩
    have huni : ∀ val', (keyV k e n, val') ∈ pairs (rowsOf rs) → val' = .int .i64 i := fun val' hv => h.uniq _ _ _ hin hv
    obtain ⟨q, hq, hqp⟩ := h.at1 hp
    have hfst : ∀ j q, j < i → rs2[j]? = some q → likeK k e n q.1 = false := by
      intro j q2 hj hq2
      obtain ⟨p2, hp2, hpp⟩ := h.at2 hq2
      cases hh : likeK k e n q2.1 with
      | false => rfl
      | true =>
        have := huni _ ((pair_row hk).2 ⟨p2, hp2, by rw [hpp]; exact hh⟩)
        injection this with _ this
        omega
    refine ⟨i, 0, fun w1 => Below w.heap.size w w1, derived_old h.tab hwk he hn hin huni, fun w1 hb => ?_⟩
    exact ⟨Turned.of_below hb _, (rDerived_old (h.below hb).rt hq (by rw [hqp]; exact hlk) hfst).mono fun x w2 ⟨hx, hb2⟩ => ⟨hx, h.stay (hb.trans (hb2.mono hb.size))⟩⟩
  · have hno : ∀ kv ∈ pairs (rowsOf rs), kv.1 ≠ keyV k e n := fun kv hkv he => hy ⟨kv, hkv, he⟩
    have hnone : ∀ (j : Nat) (q : Rw × Value), rs2[j]? = some q → likeK k e n q.1 = false := by
      intro j q hq
      obtain ⟨p, hp, hpp⟩ := h.at2 hq
      cases hh : likeK k e n q.1 with
      | false => rfl
      | true => exact absurd rfl (hno _ ((pair_row hk).2 ⟨p, hp, by rw [hpp]; exact hh⟩))
    by_cases hfull : rs.length = 512
    · refine ⟨0, 32, fun w1 => Below w.heap.size w w1, derived_full h.tab hwk he hn hno hfull, fun w1 hb => ?_⟩
      have h1 := h.below hb
      refine ⟨Turned.of_below hb _, (rDerived_none (R := fun X z w' => Below X.heap.size X w') h1.rt (by omega) hnone (fun X hX => rAdd_full (h1.ref.keptB hX) _ _ (by omega))).mono ?_⟩
      rintro x w2 ⟨hx, X, hX, hX2⟩
      exact ⟨hx, h.stay (hb.trans ((hX.trans (hX2.mono hX.size)).mono hb.size))⟩
    · refine ⟨rs.length, 0, fun w1 => ∃ v', Tab B w1 b mb v' (rs ++ [(⟨k, e, n, ⟨#[]⟩, [], false⟩, .slice none 0 0)]) (pairs (rowsOf rs) ++ [(keyV k e n, .int .i64 rs.length)]) ∧ Turned w w1 (own b mb v) ∧ Fresh w v v', derived_new h.tab hwk he hn hno (by omega), fun w1 hM => ?_⟩
      obtain ⟨v', a1, t1, f1⟩ := hM
      have hr := h.ref_kept t1
      have hrt : RT w1 rb rv rs2 := ⟨hr.c0, hr.rowSl, by omega⟩
      refine ⟨t1, (rDerived_none (x := rs.length) (y := 0) (R := fun X z w' => ∃ rv', RTab B w' rb rv' (rs2 ++ [(⟨k, e, n, ⟨#[]⟩, [], false⟩, .slice none 0 0)]) ∧ Turned X w' (RTab.rown rb rv) ∧ Fresh X rv rv') hrt (by omega) hnone (fun X hX => ?_)).mono ?_⟩
      · have c := rAdd_c (hr.keptB hX) ⟨k, e, n, ⟨#[]⟩, [], false⟩ (.slice none 0 0) (World.ownsRow_nil _ _ _ _) (by omega)
        rw [hl3] at c
        exact c
      · rintro x w2 ⟨hx, X, hX, rv', a2, t2, f2⟩
        refine ⟨hx, ?_⟩
        have t2' : Turned w1 w2 (RTab.rown rb rv) := (Turned.of_below hX _).trans t2 (fun _ _ x => x)
        have f2' : Fresh w1 rv rv' := by
          rcases f2 with e | ⟨g, e, hg⟩
          · exact Or.inl e
          · exact Or.inr ⟨g, e, Nat.le_trans hX.size hg⟩
        have hps := (pairs_deriv (rs := rs) (s := .slice none 0 0) hder).symm
        refine h.grow a1 t1 f1 a2 t2' f2' hps (by simp) ?_ ⟨by show 1 ≤ k; omega, by show k ≤ 16; omega, fun h14 => ?_⟩ (enter_der hk hE h13 hW hlen hl hno)
        · intro K a a' ha ha'
          rw [List.mem_append, List.mem_singleton] at ha ha'
          rcases ha with ha | ha <;> rcases ha' with ha' | ha'
          · exact h.uniq _ _ _ ha ha'
          · injection ha' with e1 e2
            exact absurd e1 (hno _ ha)
          · injection ha with e1 e2
            exact absurd e1 (hno _ ha')
          · injection ha with e1 e2
            injection ha' with e3 e4
            rw [e2, e4]
        · exact hlen h14

theorem duo_ptr (h : Duo B w b mb v rs rb rv rs2) (id : Int) (hw : wf64 id) : Both2 B w b mb v rb rv 20 21 #[.pointer (some ⟨b, 0, none⟩), .int .i64 id] #[.pointer (some ⟨rb, 0, none⟩), .int .i64 id] := by
  have hl := h.len
  have hl2 := h.tab.len
  have hl3 := h.len2
  cases hid : hasP rs.length id with
  | false =>
    refine ⟨0, 30, fun w1 => w1 = w, ptr_type h.tab (by omega) id hid, fun w1 hw => ?_⟩
    subst hw
    exact ⟨Turned.of_below (Below.refl _ _) _, (rPtr_type h.rt id (by rw [hl3]; exact hid)).mono fun e w2 ⟨he, hw⟩ => ⟨he, by subst hw; exact h.stay (Below.refl _ _)⟩⟩
  | true =>
    obtain ⟨x, y, Mid, c1, c2⟩ := duo_derived h (k := 13) (e := id) (n := 0) (Or.inl rfl) hw (by unfold wf64; decide) (fun e => by cases e) (by simpa [hasP] using hid) (fun _ => rfl) (fun e => by cases e)
    refine ⟨x, y, Mid, ptr_of (R := fun _ w1 => Mid w1) h.tab (by omega) id hid c1, fun w1 hM => ?_⟩
    obtain ⟨hT, c⟩ := c2 w1 hM; have hR := h.ref_kept hT
    exact ⟨hT, rPtr_of (R := fun _ w2 => Fin B w b mb v rb rv w2) ⟨hR.c0, hR.rowSl, by omega⟩ id (by rw [hl3]; exact hid) c⟩

theorem duo_array (h : Duo B w b mb v rs rb rv rs2) (id n : Int) (hw : wf64 id) (hn : wf64 n) : Both2 B w b mb v rb rv 22 23 #[.pointer (some ⟨b, 0, none⟩), .int .i64 id, .int .i64 n] #[.pointer (some ⟨rb, 0, none⟩), .int .i64 id, .int .i64 n] := by
  have hl := h.len
  have hl2 := h.tab.len
  have hl3 := h.len2
  have hwp : wholeP rs id = rWholeP rs2 id := by rw [rWholeP_fst h.same, wholeP_same h.sane]
  cases hid : hasP rs.length id with
  | false =>
    refine ⟨0, 30, fun w1 => w1 = w, array_type h.tab (by omega) id n hid, fun w1 hw => ?_⟩
    subst hw
    exact ⟨Turned.of_below (Below.refl _ _) _, (rArray_bad h.rt id n (Or.inl ⟨by rw [hl3]; exact hid, rfl⟩)).mono fun e w2 ⟨he, hw⟩ => ⟨he, by subst hw; exact h.stay (Below.refl _ _)⟩⟩
  | true =>
    cases hwh : wholeP rs id with
    | false =>
      refine ⟨0, 50, fun w1 => w1 = w, array_inc h.tab (by omega) id n hid hwh, fun w1 hw => ?_⟩
      subst hw
      exact ⟨Turned.of_below (Below.refl _ _) _, (rArray_bad h.rt id n (Or.inr (Or.inl ⟨by rw [hl3]; exact hid, by rw [← hwp]; exact hwh, rfl⟩))).mono fun e w2 ⟨he, hw⟩ => ⟨he, by subst hw; exact h.stay (Below.refl _ _)⟩⟩
    | true =>
      cases hlk : lenK n with
      | false =>
        refine ⟨0, 2, fun w1 => w1 = w, array_arg h.tab (by omega) id n hid hwh hlk, fun w1 hw => ?_⟩
        subst hw
        exact ⟨Turned.of_below (Below.refl _ _) _, (rArray_bad h.rt id n (Or.inr (Or.inr ⟨by rw [hl3]; exact hid, by rw [← hwp]; exact hwh, hlk, rfl⟩))).mono fun e w2 ⟨he, hw⟩ => ⟨he, by subst hw; exact h.stay (Below.refl _ _)⟩⟩
      | true =>
        obtain ⟨x, y, Mid, c1, c2⟩ := duo_derived h (k := 14) (e := id) (n := n) (Or.inr rfl) hw hn (fun _ => hlk) (by simpa [hasP] using hid) (fun e => by cases e) (fun _ => hwh)
        refine ⟨x, y, Mid, array_of (R := fun _ w1 => Mid w1) h.tab (by omega) id n hid hwh hlk c1, fun w1 hM => ?_⟩
        obtain ⟨hT, c⟩ := c2 w1 hM; have hR := h.ref_kept hT
        exact ⟨hT, rArray_of (R := fun _ w2 => Fin B w b mb v rb rv w2) ⟨hR.c0, hR.rowSl, by omega⟩ id n (by rw [hl3]; exact hid) (by rw [← hwp]; exact hwh) hlk c⟩
end
end Go.Proofs.YtdfkkflpcamhjaaGreatDoor
namespace Go.Proofs.YtdfkkflpcamhjaaGreatDoor
open Go.RowKit Go.Maps
set_option linter.unusedVariables false
set_option maxRecDepth 100000

/-- The blocks of two tables. -/
def Held (b mb : Nat) (v : Value) (rs : List (Rw × Value)) (rb : Nat) (rv : Value) (rs2 : List (Rw × Value)) (k : Nat) : Prop :=
  own b mb v k ∨ RTab.rown rb rv k ∨ (∃ p ∈ rs, p.2.ownBlock = some k) ∨ ∃ p ∈ rs2, p.2.ownBlock = some k

section
variable {B : Nat} {w w1 w2 : World} {b mb rb : Nat} {v rv v' rv' : Value} {rs rs2 : List (Rw × Value)}
theorem Duo.held_lt (h : Duo B w b mb v rs rb rv rs2) {k : Nat} (hk : Held b mb v rs rb rv rs2 k) : B ≤ k ∧ k < w.heap.size := by
  obtain ⟨es, ck, hm, _⟩ := h.tab.map
  rcases hk with (rfl | rfl | hk) | (rfl | hk) | ⟨p, hp, hk⟩ | ⟨p, hp, hk⟩
  · exact ⟨h.tab.bB, lt_of_heap h.tab.tab⟩
  · exact ⟨h.tab.mB, lt_of_heap hm⟩
  · obtain ⟨a, c, e⟩ := ownsRow_at h.tab.rows hk; exact ⟨a, lt_of_heap e⟩
  · exact ⟨h.ref.bB, lt_of_heap h.ref.tab⟩
  · obtain ⟨a, c, e⟩ := ownsRow_at h.ref.rows hk; exact ⟨a, lt_of_heap e⟩
  · obtain ⟨a, c, e⟩ := ownsRow_at (h.tab.mems p hp) hk; exact ⟨a, lt_of_heap e⟩
  · obtain ⟨a, c, e⟩ := ownsRow_at (h.ref.mems p hp) hk; exact ⟨a, lt_of_heap e⟩
theorem Duo.kept {S : Nat → Prop} (h : Duo B w b mb v rs rb rv rs2) (ht : Turned w w2 S) (hS : ∀ k, Held b mb v rs rb rv rs2 k → ¬ S k) : Duo B w2 b mb v rs rb rv rs2 :=
  ⟨h.tab.kept ht (fun k hk => hS k (Or.inl hk)) (fun p hp k hk => hS k (Or.inr (Or.inr (Or.inl ⟨p, hp, hk⟩)))),
    h.ref.kept ht (fun k hk => hS k (Or.inr (Or.inl hk))) (fun p hp k hk => hS k (Or.inr (Or.inr (Or.inr ⟨p, hp, hk⟩)))), h.same, h.apart, h.len, h.small, h.uniq, h.sane, h.ok⟩

theorem zip_set {r r' : Rw} (h1 : derivd r = false) (h2 : derivd r' = false) : ∀ (l : List Rw) (n i : Nat), l[i]? = some r → ((l.set i r').zipIdx n).filterMap pairOf = (l.zipIdx n).filterMap pairOf
  | [], _, _, h => by simp at h
  | a :: t, n, 0, h => by
    have e : a = r := by simpa using h
    subst e
    simp [pairOf, h1, h2]
  | a :: t, n, i + 1, h => by
    have e := zip_set h1 h2 t (n + 1) i (by simpa using h)
    rw [List.set_cons_succ, List.zipIdx_cons, List.zipIdx_cons, List.filterMap_cons, List.filterMap_cons, e]
theorem pairs_set {i : Nat} {r r' : Rw} {s0 s : Value} (hp : rs[i]? = some (r, s0)) (h1 : derivd r = false) (h2 : derivd r' = false) : pairs (rowsOf (rs.set i (r', s))) = pairs (rowsOf rs) := by
  have e : rowsOf (rs.set i (r', s)) = (rowsOf rs).set i r' := by simp [rowsOf, List.map_set]
  rw [e]
  exact zip_set h1 h2 (rowsOf rs) 0 i (by simp [rowsOf, hp])

/-- Behind Complete: two tables again, what is new in them is new. -/
def FinC (B : Nat) (w : World) (b mb : Nat) (v : Value) (rs : List (Rw × Value)) (rb : Nat) (rv : Value) (rs2 : List (Rw × Value)) (w2 : World) : Prop :=
  ∃ rs' rs2', Duo B w2 b mb v rs' rb rv rs2' ∧ Turned w w2 (fun k => own b mb v k ∨ RTab.rown rb rv k) ∧ ∀ k, Held b mb v rs' rb rv rs2' k → Held b mb v rs rb rv rs2 k ∨ w.heap.size ≤ k
theorem Duo.stayC (h : Duo B w b mb v rs rb rv rs2) (hb : Below w.heap.size w w2) : FinC B w b mb v rs rb rv rs2 w2 :=
  ⟨rs, rs2, h.below hb, Turned.of_below hb _, fun k hk => Or.inl hk⟩

theorem duo_complete (h : Duo B w b mb v rs rb rv rs2) {x y : Value} {l : List Mb} (hx : MemSl w x l) (hy : ∀ X, Turned w X (own b mb v) → MemIn X y l) (hs : ∀ m ∈ l, m.name.size ≤ 9223372036854775807) (hbig : l.length ≤ 9223372036854775807) (id : Int) :
    ∃ (er : Int) (Mid : World → Prop), Calls Tryz.prog 26 #[.pointer (some ⟨b, 0, none⟩), .int .i64 id, x] w (fun e w1 => e = .returned (.int .i64 er) ∧ Mid w1) ∧
      ∀ w1, Mid w1 → Turned w w1 (own b mb v) ∧ Calls Tryz.prog 27 #[.pointer (some ⟨rb, 0, none⟩), .int .i64 id, y] w1 fun e w2 => e = .returned (.int .i64 er) ∧ FinC B w b mb v rs rb rv rs2 w2 := by
  have hl := h.len
  have hl2 := h.tab.len
  have hl3 := h.len2
  have hy0 : MemIn w y l := hy w (Turned.of_below (Below.refl _ _) _)
  have href : refusP rs l = rRefusP rs2 l := by rw [refus_same h.sane, rRefusP_fst h.same]
  cases hk : recK (kindP rs id) with
  | false =>
    refine ⟨30, fun w1 => w1 = w, complete_type h.tab (by omega) x id hk, fun w1 hw => ?_⟩
    subst hw
    exact ⟨Turned.of_below (Below.refl _ _) _, (rComplete_type h.rt id y (by rw [kindP_fst h.same]; exact hk)).mono fun e w2 ⟨he, hw⟩ => ⟨he, by subst hw; exact h.stayC (Below.refl _ _)⟩⟩
  | true =>
    obtain ⟨i, r, s0, rfl, hp⟩ : ∃ (i : Nat) (r : Rw) (s0 : Value), id = i ∧ rs[i]? = some (r, s0) := by
      unfold kindP at hk
      split at hk
      · rename_i h0
        cases hp : rs[id.toNat]? with
        | none => rw [hp] at hk; cases hk
        | some p => exact ⟨id.toNat, p.1, p.2, by omega, hp⟩
      · cases hk
    obtain ⟨⟨r', s02⟩, hq, hqr⟩ := h.at1 hp
    have hqr' : r' = r := hqr
    subst hqr'
    rw [kindP_some hp] at hk
    have hk : recK r'.kind = true := hk
    cases hd : r'.done with
    | true =>
      refine ⟨33, fun w1 => w1 = w, complete_done h.tab (by omega) x hp hk hd, fun w1 hw => ?_⟩
      subst hw
      exact ⟨Turned.of_below (Below.refl _ _) _, (rComplete_done h.rt y hq hk hd).mono fun e w2 ⟨he, hw⟩ => ⟨he, by subst hw; exact h.stayC (Below.refl _ _)⟩⟩
    | false =>
      by_cases he : refusP rs l = 0
      · have c1 := complete_new h.tab (by omega) hx hs hbig hp hk hd he
        refine ⟨0, _, c1, fun w1 hM => ?_⟩
        obtain ⟨s, hs1, a1, t1⟩ := hM
        have hr := h.ref_kept t1
        have c2 := rComplete_c hr (by omega) (hy w1 t1) hs hbig hq hk hd (by rw [← href]; exact he)
        refine ⟨t1, c2.mono ?_⟩
        rintro e w2 ⟨rfl, s2, hs2, a2, t2⟩
        have hkk : r'.kind = 15 ∨ r'.kind = 16 := by simpa [recK] using hk
        have hd1 : ∀ m d, derivd { r' with mem := m, done := d } = false := by intro m d; simp [derivd]; omega
        have hln : l.length ≤ 64 := by
          rcases Nat.lt_or_ge 64 l.length with hh | hh
          · rw [refusP, if_pos (Or.inr hh)] at he; cases he
          · exact hh
        have hps : pairs (rowsOf (rs.set i ({ r' with mem := l, done := true }, s))) = pairs (rowsOf rs) := pairs_set hp (hd1 r'.mem r'.done) (hd1 _ _)
        refine ⟨rfl, rs.set i ({ r' with mem := l, done := true }, s), rs2.set i ({ r' with mem := l, done := true }, s2), ⟨?_, a2, ?_, h.apart, ?_, ?_, ?_, ?_, h.ok.set hp hk hd he s⟩, (t1.mono (fun k hk => Or.inl hk)).trans (t2.mono (fun k hk => Or.inr hk)) (fun _ _ x => x), ?_⟩
        · rw [hps]
          exact tab_kept a1 hr h.apart t2
        · rw [List.map_set, List.map_set, h.same]
        · simpa using hl
        · intro p hpm
          rcases List.mem_or_eq_of_mem_set hpm with hpm | rfl
          · exact h.small p hpm
          · exact hln
        · rw [hps]; exact h.uniq
        · intro p hpm
          rcases List.mem_or_eq_of_mem_set hpm with hpm | rfl
          · exact h.sane p hpm
          · exact ⟨by show 1 ≤ r'.kind; omega, by show r'.kind ≤ 16; omega, fun e => by have : r'.kind = 14 := e; omega⟩
        · rintro k (hk | hk | ⟨p, hpm, hk⟩ | ⟨p, hpm, hk⟩)
          · exact Or.inl (Or.inl hk)
          · exact Or.inl (Or.inr (Or.inl hk))
          · rcases List.mem_or_eq_of_mem_set hpm with hpm | rfl
            · exact Or.inl (Or.inr (Or.inr (Or.inl ⟨p, hpm, hk⟩)))
            · exact Or.inr (hs1 k hk)
          · rcases List.mem_or_eq_of_mem_set hpm with hpm | rfl
            · exact Or.inl (Or.inr (Or.inr (Or.inr ⟨p, hpm, hk⟩)))
            · exact Or.inr (Nat.le_trans t1.size (hs2 k hk))
      · refine ⟨_, _, complete_err h.tab (by omega) hx hs hbig hp hk hd he, fun w1 hb => ?_⟩
        have h1 := h.below hb
        rw [href]
        refine ⟨Turned.of_below hb _, (rComplete_err h1.rt (hy w1 (Turned.of_below hb _)) hs hbig hq hk hd (by rw [← href]; exact he)).mono fun e w2 ⟨he, hb2⟩ => ⟨he, h.stayC (hb.trans (hb2.mono hb.size))⟩⟩
end
end Go.Proofs.YtdfkkflpcamhjaaGreatDoor
namespace Go.Proofs.YtdfkkflpcamhjaaGreatDoor
open Go.RowKit Go.Maps
set_option linter.unusedVariables false
set_option maxRecDepth 100000

def actC (k a c : Int) (s : ByteArray) (l : Value) : Array Value := #[.int .i64 k, .int .i64 a, .int .i64 c, .string s, l]
section
variable {B : Nat} {w w1 w2 : World} {b mb rb : Nat} {v rv v' rv' : Value} {rs rs2 : List (Rw × Value)}
theorem duo_enum (h : Duo B w b mb v rs rb rv rs2) (s : ByteArray) (hs : s.size ≤ 9223372036854775807) :
    Both2 B w b mb v rb rv 18 19 #[.pointer (some ⟨b, 0, none⟩), .string s] #[.pointer (some ⟨rb, 0, none⟩), .int .i64 12, .string s] := by
  obtain ⟨x, y, Mid, c1, c2⟩ := duo_tagged h 12 (Or.inl rfl) s hs
  exact ⟨x, y, Mid, enum_of (R := fun _ w1 => Mid w1) c1, c2⟩
theorem duo_struct (h : Duo B w b mb v rs rb rv rs2) (s : ByteArray) (hs : s.size ≤ 9223372036854775807) :
    Both2 B w b mb v rb rv 24 19 #[.pointer (some ⟨b, 0, none⟩), .string s] #[.pointer (some ⟨rb, 0, none⟩), .int .i64 15, .string s] := by
  obtain ⟨x, y, Mid, c1, c2⟩ := duo_tagged h 15 (Or.inr (Or.inl rfl)) s hs
  exact ⟨x, y, Mid, struct_of (R := fun _ w1 => Mid w1) c1, c2⟩
theorem duo_union (h : Duo B w b mb v rs rb rv rs2) (s : ByteArray) (hs : s.size ≤ 9223372036854775807) :
    Both2 B w b mb v rb rv 25 19 #[.pointer (some ⟨b, 0, none⟩), .string s] #[.pointer (some ⟨rb, 0, none⟩), .int .i64 16, .string s] := by
  obtain ⟨x, y, Mid, c1, c2⟩ := duo_tagged h 16 (Or.inr (Or.inr rfl)) s hs
  exact ⟨x, y, Mid, union_of (R := fun _ w1 => Mid w1) c1, c2⟩
/-- The act's own block stays as it is. -/
theorem Duo.box (h : Duo B w b mb v rs rb rv rs2) {X : World} {cs : Array Value} {T : TypeId} (hX : X = w.alloc (.cells cs T)) (ht : Turned X w1 (own b mb v)) {j : Nat} {u : Value} (hu : cs[j]? = some u) : w1.cell? ⟨w.heap.size, j, none⟩ = some u := by
  have e : X.heap[w.heap.size]? = some (.cells cs T (0, 0)) := by rw [hX]; exact Array.getElem?_push_size
  have e2 : w1.heap[w.heap.size]? = some (.cells cs T (0, 0)) := by
    rw [ht.block _ (lt_of_heap e) (fun hk => by have := (h.own_ge (Or.inl hk)).2; omega)]; exact e
  rw [Lib.cell_of_heap e2]; exact hu

set_option maxHeartbeats 1000000 in
theorem play_0 (h : Duo B w b mb v rs rb rv rs2) (a c : Int) (s : ByteArray) (ls : Value) (ha : wf64 a) :
    Calls Tryz.prog 7 #[.pointer (some ⟨b, 0, none⟩), .pointer (some ⟨rb, 0, none⟩), .agg (actC 0 a c s ls)] w fun e w2 => e = .returned (.bool true) ∧ FinP B w b mb rb w2 := by
  unfold actC
  have hbX : Below w.heap.size w (w.alloc (.cells #[.int .i64 0, .int .i64 a, .int .i64 c, .string s, ls] 33)) := (Below.refl _ w).alloc (Nat.le_refl _) _
  obtain ⟨x, y, Mid, c1, c2⟩ := duo_basic (h.below hbX) a ha
  have HD : Hid (Duo _ _ _ _ _ _ _ _ _) := h
  have HB : Hid (Below _ _ _) := hbX
  clear h hbX
  go_enter Tryz.func7, Tryz.ntmps7
  go_wp2_with fail
  refine c1.mono ?_
  rintro e w1 ⟨rfl, hM⟩
  obtain ⟨hT, c3⟩ := c2 w1 hM
  have q1 := HD.out.box rfl hT (j := 1) rfl
  have q2 := HD.out.box rfl hT (j := 2) rfl
  have q3 := HD.out.box rfl hT (j := 3) rfl
  have q4 := HD.out.box rfl hT (j := 4) rfl
  clear c1 c2 hM hT
  go_wp2_with fail
  refine c3.mono ?_
  rintro e w2 ⟨rfl, hF⟩
  have HF : Hid (Fin _ _ _ _ _ _ _ _) := hF
  clear c3 hF
  go_wp2
  go_ret
  exact ⟨rfl, Fin.p HD.out HB.out HF.out⟩
set_option maxHeartbeats 1000000 in
theorem play_1 (h : Duo B w b mb v rs rb rv rs2) (a c : Int) (s : ByteArray) (ls : Value) (hs : s.size ≤ 9223372036854775807) :
    Calls Tryz.prog 7 #[.pointer (some ⟨b, 0, none⟩), .pointer (some ⟨rb, 0, none⟩), .agg (actC 1 a c s ls)] w fun e w2 => e = .returned (.bool true) ∧ FinP B w b mb rb w2 := by
  unfold actC
  have hbX : Below w.heap.size w (w.alloc (.cells #[.int .i64 1, .int .i64 a, .int .i64 c, .string s, ls] 33)) := (Below.refl _ w).alloc (Nat.le_refl _) _
  obtain ⟨x, y, Mid, c1, c2⟩ := duo_enum (h.below hbX) s hs
  have HD : Hid (Duo _ _ _ _ _ _ _ _ _) := h
  have HB : Hid (Below _ _ _) := hbX
  clear h hbX
  go_enter Tryz.func7, Tryz.ntmps7
  go_wp2_with fail
  refine c1.mono ?_
  rintro e w1 ⟨rfl, hM⟩
  obtain ⟨hT, c3⟩ := c2 w1 hM
  have q1 := HD.out.box rfl hT (j := 1) rfl
  have q2 := HD.out.box rfl hT (j := 2) rfl
  have q3 := HD.out.box rfl hT (j := 3) rfl
  have q4 := HD.out.box rfl hT (j := 4) rfl
  clear c1 c2 hM hT
  go_wp2_with fail
  refine c3.mono ?_
  rintro e w2 ⟨rfl, hF⟩
  have HF : Hid (Fin _ _ _ _ _ _ _ _) := hF
  clear c3 hF
  go_wp2
  go_ret
  exact ⟨rfl, Fin.p HD.out HB.out HF.out⟩
set_option maxHeartbeats 1000000 in
theorem play_2 (h : Duo B w b mb v rs rb rv rs2) (a c : Int) (s : ByteArray) (ls : Value) (ha : wf64 a) :
    Calls Tryz.prog 7 #[.pointer (some ⟨b, 0, none⟩), .pointer (some ⟨rb, 0, none⟩), .agg (actC 2 a c s ls)] w fun e w2 => e = .returned (.bool true) ∧ FinP B w b mb rb w2 := by
  unfold actC
  have hbX : Below w.heap.size w (w.alloc (.cells #[.int .i64 2, .int .i64 a, .int .i64 c, .string s, ls] 33)) := (Below.refl _ w).alloc (Nat.le_refl _) _
  obtain ⟨x, y, Mid, c1, c2⟩ := duo_ptr (h.below hbX) a ha
  have HD : Hid (Duo _ _ _ _ _ _ _ _ _) := h
  have HB : Hid (Below _ _ _) := hbX
  clear h hbX
  go_enter Tryz.func7, Tryz.ntmps7
  go_wp2_with fail
  refine c1.mono ?_
  rintro e w1 ⟨rfl, hM⟩
  obtain ⟨hT, c3⟩ := c2 w1 hM
  have q1 := HD.out.box rfl hT (j := 1) rfl
  have q2 := HD.out.box rfl hT (j := 2) rfl
  have q3 := HD.out.box rfl hT (j := 3) rfl
  have q4 := HD.out.box rfl hT (j := 4) rfl
  clear c1 c2 hM hT
  go_wp2_with fail
  refine c3.mono ?_
  rintro e w2 ⟨rfl, hF⟩
  have HF : Hid (Fin _ _ _ _ _ _ _ _) := hF
  clear c3 hF
  go_wp2
  go_ret
  exact ⟨rfl, Fin.p HD.out HB.out HF.out⟩
set_option maxHeartbeats 1000000 in
theorem play_3 (h : Duo B w b mb v rs rb rv rs2) (a c : Int) (s : ByteArray) (ls : Value) (ha : wf64 a) (hc : wf64 c) :
    Calls Tryz.prog 7 #[.pointer (some ⟨b, 0, none⟩), .pointer (some ⟨rb, 0, none⟩), .agg (actC 3 a c s ls)] w fun e w2 => e = .returned (.bool true) ∧ FinP B w b mb rb w2 := by
  unfold actC
  have hbX : Below w.heap.size w (w.alloc (.cells #[.int .i64 3, .int .i64 a, .int .i64 c, .string s, ls] 33)) := (Below.refl _ w).alloc (Nat.le_refl _) _
  obtain ⟨x, y, Mid, c1, c2⟩ := duo_array (h.below hbX) a c ha hc
  have HD : Hid (Duo _ _ _ _ _ _ _ _ _) := h
  have HB : Hid (Below _ _ _) := hbX
  clear h hbX
  go_enter Tryz.func7, Tryz.ntmps7
  go_wp2_with fail
  refine c1.mono ?_
  rintro e w1 ⟨rfl, hM⟩
  obtain ⟨hT, c3⟩ := c2 w1 hM
  have q1 := HD.out.box rfl hT (j := 1) rfl
  have q2 := HD.out.box rfl hT (j := 2) rfl
  have q3 := HD.out.box rfl hT (j := 3) rfl
  have q4 := HD.out.box rfl hT (j := 4) rfl
  clear c1 c2 hM hT
  go_wp2_with fail
  refine c3.mono ?_
  rintro e w2 ⟨rfl, hF⟩
  have HF : Hid (Fin _ _ _ _ _ _ _ _) := hF
  clear c3 hF
  go_wp2
  go_ret
  exact ⟨rfl, Fin.p HD.out HB.out HF.out⟩
set_option maxHeartbeats 1000000 in
theorem play_4 (h : Duo B w b mb v rs rb rv rs2) (a c : Int) (s : ByteArray) (ls : Value) (hs : s.size ≤ 9223372036854775807) :
    Calls Tryz.prog 7 #[.pointer (some ⟨b, 0, none⟩), .pointer (some ⟨rb, 0, none⟩), .agg (actC 4 a c s ls)] w fun e w2 => e = .returned (.bool true) ∧ FinP B w b mb rb w2 := by
  unfold actC
  have hbX : Below w.heap.size w (w.alloc (.cells #[.int .i64 4, .int .i64 a, .int .i64 c, .string s, ls] 33)) := (Below.refl _ w).alloc (Nat.le_refl _) _
  obtain ⟨x, y, Mid, c1, c2⟩ := duo_struct (h.below hbX) s hs
  have HD : Hid (Duo _ _ _ _ _ _ _ _ _) := h
  have HB : Hid (Below _ _ _) := hbX
  clear h hbX
  go_enter Tryz.func7, Tryz.ntmps7
  go_wp2_with fail
  refine c1.mono ?_
  rintro e w1 ⟨rfl, hM⟩
  obtain ⟨hT, c3⟩ := c2 w1 hM
  have q1 := HD.out.box rfl hT (j := 1) rfl
  have q2 := HD.out.box rfl hT (j := 2) rfl
  have q3 := HD.out.box rfl hT (j := 3) rfl
  have q4 := HD.out.box rfl hT (j := 4) rfl
  clear c1 c2 hM hT
  go_wp2_with fail
  refine c3.mono ?_
  rintro e w2 ⟨rfl, hF⟩
  have HF : Hid (Fin _ _ _ _ _ _ _ _) := hF
  clear c3 hF
  go_wp2
  go_ret
  exact ⟨rfl, Fin.p HD.out HB.out HF.out⟩
set_option maxHeartbeats 1000000 in
theorem play_5 (h : Duo B w b mb v rs rb rv rs2) (a c : Int) (s : ByteArray) (ls : Value) (hs : s.size ≤ 9223372036854775807) :
    Calls Tryz.prog 7 #[.pointer (some ⟨b, 0, none⟩), .pointer (some ⟨rb, 0, none⟩), .agg (actC 5 a c s ls)] w fun e w2 => e = .returned (.bool true) ∧ FinP B w b mb rb w2 := by
  unfold actC
  have hbX : Below w.heap.size w (w.alloc (.cells #[.int .i64 5, .int .i64 a, .int .i64 c, .string s, ls] 33)) := (Below.refl _ w).alloc (Nat.le_refl _) _
  obtain ⟨x, y, Mid, c1, c2⟩ := duo_union (h.below hbX) s hs
  have HD : Hid (Duo _ _ _ _ _ _ _ _ _) := h
  have HB : Hid (Below _ _ _) := hbX
  clear h hbX
  go_enter Tryz.func7, Tryz.ntmps7
  go_wp2_with fail
  refine c1.mono ?_
  rintro e w1 ⟨rfl, hM⟩
  obtain ⟨hT, c3⟩ := c2 w1 hM
  have q1 := HD.out.box rfl hT (j := 1) rfl
  have q2 := HD.out.box rfl hT (j := 2) rfl
  have q3 := HD.out.box rfl hT (j := 3) rfl
  have q4 := HD.out.box rfl hT (j := 4) rfl
  clear c1 c2 hM hT
  go_wp2_with fail
  refine c3.mono ?_
  rintro e w2 ⟨rfl, hF⟩
  have HF : Hid (Fin _ _ _ _ _ _ _ _) := hF
  clear c3 hF
  go_wp2
  go_ret
  exact ⟨rfl, Fin.p HD.out HB.out HF.out⟩
end
end Go.Proofs.YtdfkkflpcamhjaaGreatDoor
namespace Go.Proofs.YtdfkkflpcamhjaaGreatDoor
open Go.RowKit Go.Maps
set_option linter.unusedVariables false
set_option maxRecDepth 100000

/-- Members that came in: they lie below the tables. -/
def Low (B : Nat) (w : World) (s : Value) (l : List Mb) : Prop := ∀ X, Turned w X (fun k => B ≤ k) → MemIn X s l
theorem Low.kept {B : Nat} {w w' : World} {s : Value} {l : List Mb} (h : Low B w s l) (ht : Turned w w' (fun k => B ≤ k)) : Low B w' s l := fun X hX => h X (ht.trans hX (fun _ _ x => x))
section
variable {B : Nat} {w w1 w2 : World} {b mb rb : Nat} {v rv v' rv' : Value} {rs rs2 : List (Rw × Value)}
theorem new_own (w : World) (o : Obj) : ((w.alloc o).alloc (.cells #[] TM)).ownsRow (w.heap.size + 1) TM 3 (.slice (some ⟨w.heap.size + 1, 0, none⟩) 0 0) 0 [] := by
  refine ⟨rfl, Or.inr ⟨_, 0, #[], rfl, Nat.le_refl _, ?_, Nat.le_refl _, Nat.zero_le _, rfl, rfl⟩⟩
  have : (w.alloc o).heap.size = w.heap.size + 1 := Array.size_push _
  rw [← this]; exact Array.getElem?_push_size
theorem new_below (w : World) (o : Obj) : Below w.heap.size w ((w.alloc o).alloc (.cells #[] TM)) := ((Below.refl _ w).alloc (Nat.le_refl _) o).alloc (by rw [show (w.alloc o).heap.size = w.heap.size + 1 from Array.size_push _]; omega) _
theorem new_box (w : World) (cs : Array Value) (T : TypeId) : ((w.alloc (.cells cs T)).alloc (.cells #[] TM)).heap[w.heap.size]? = some (.cells cs T (0, 0)) := by
  show (Array.push (Array.push w.heap _) _)[w.heap.size]? = _
  rw [Array.getElem?_push, if_neg (by simp), Array.getElem?_push, if_pos rfl]
theorem FinC.p (h : Duo B w b mb v rs rb rv rs2) {w3 w5 w6 : World} (hb : Below w.heap.size w w3) (hf : FinC B w3 b mb v rs rb rv rs2 w5) {g : Nat} (hg1 : w.heap.size ≤ g) (hg2 : g < w3.heap.size) (ht : Turned w5 w6 (fun k => k = g)) : FinP B w b mb rb w6 := by
  obtain ⟨rs', rs2', h1, h2, h3⟩ := hf
  have hB : B ≤ g := by have := h.tab.lt; omega
  refine ⟨v, rs', rv, rs2', h1.kept ht ?_, ?_⟩
  · intro k hk e
    subst e
    rcases h3 k hk with hh | hh
    · have := (h.held_lt hh).2; omega
    · omega
  · refine ((Turned.of_below hb _).trans (h2.mono (fun k hk => (h.own_ge hk).1)) (fun _ _ x => x)).trans (ht.mono (fun k hk => by rw [hk]; exact hB)) (fun _ _ x => x)

set_option maxHeartbeats 1000000 in
theorem play_n (h : Duo B w b mb v rs rb rv rs2) (k a c : Int) (s : ByteArray) (ls : Value) (hk : ¬ (0 ≤ k ∧ k ≤ 7)) :
    Calls Tryz.prog 7 #[.pointer (some ⟨b, 0, none⟩), .pointer (some ⟨rb, 0, none⟩), .agg (actC k a c s ls)] w fun e w2 => e = .returned (.bool true) ∧ FinP B w b mb rb w2 := by
  unfold actC
  have hbX : Below w.heap.size w (w.alloc (.cells #[.int .i64 k, .int .i64 a, .int .i64 c, .string s, ls] 33)) := (Below.refl _ w).alloc (Nat.le_refl _) _
  have HD : Hid (Duo _ _ _ _ _ _ _ _ _) := h
  have HB : Hid (Below _ _ _) := hbX
  have k0 : k ≠ 0 := by omega
  have k1 : k ≠ 1 := by omega
  have k2 : k ≠ 2 := by omega
  have k3 : k ≠ 3 := by omega
  have k4 : k ≠ 4 := by omega
  have k5 : k ≠ 5 := by omega
  have k6 : k ≠ 6 := by omega
  have k7 : k ≠ 7 := by omega
  clear h hbX hk
  go_enter Tryz.func7, Tryz.ntmps7
  go_wp2
  go_ret
  exact ⟨rfl, _, _, _, _, HD.out.below HB.out, Turned.of_below HB.out _⟩
end
end Go.Proofs.YtdfkkflpcamhjaaGreatDoor
namespace Go.Proofs.YtdfkkflpcamhjaaGreatDoor
open Go.RowKit Go.Maps
set_option linter.unusedVariables false
set_option maxRecDepth 100000

section
variable {B : Nat} {w w1 w2 : World} {b mb rb : Nat} {v rv v' rv' : Value} {rs rs2 : List (Rw × Value)}
theorem new_size (w : World) (o o2 : Obj) : ((w.alloc o).alloc o2).heap.size = w.heap.size + 2 := by
  show (Array.push (Array.push w.heap _) _).size = _
  simp
structure Own6 (w w3 : World) (cs : Array Value) (T : TypeId) (g n sc : Nat) : Prop where
  lo : w.heap.size < g
  row : ∃ cur, w3.heap[g]? = some (.cells cur TM (0, 0)) ∧ cur.size = sc * 3
  cap : n ≤ sc
  low : Below w.heap.size w w3
  box : w3.heap[w.heap.size]? = some (.cells cs T (0, 0))
theorem after_own {w3 : World} {cs : Array Value} {T : TypeId} {sp : Option Addr} {n sc : Nat} {xs : List Value} {P : Prop}
    (hg : ((w.alloc (.cells cs T)).alloc (.cells #[] TM)).grownBy w3 (Value.slice (some ⟨w.heap.size + 1, 0, none⟩) 0 0).ownBlock) (hown : w3.ownsRow (w.heap.size + 1) TM 3 (.slice sp n sc) n xs)
    (hnil : Value.slice sp n sc = .slice none 0 0 ↔ Value.slice (some ⟨w.heap.size + 1, 0, none⟩) 0 0 = .slice none 0 0 ∧ P) : ∃ g, sp = some ⟨g, 0, none⟩ ∧ Own6 w w3 cs T g n sc := by
  have hsz := new_size w (.cells cs T) (.cells #[] TM)
  have hlow := new_below w (.cells cs T)
  obtain ⟨_, ⟨e, _⟩ | ⟨g, cap, cur, e, hb, hc, hn, _, hcs, _⟩⟩ := hown
  · have := (hnil.1 e).1
    injection this with this; cases this
  · injection e with e1 _ e2
    subst e1 e2
    refine ⟨g, rfl, hb, ⟨cur, hc, hcs⟩, hn, ⟨hg.os.trans hlow.os, hg.tape.trans hlow.tape, hg.output.trans hlow.output, Nat.le_trans hlow.size hg.size, fun k hk => ?_⟩, ?_⟩
    · rw [hg.block k (by omega) (by simp [Value.ownBlock]; omega)]; exact hlow.block k hk
    · rw [hg.block _ (by omega) (by simp [Value.ownBlock])]; exact new_box w cs T
theorem Own6.turned {w3 w4 : World} {cs : Array Value} {T : TypeId} {g n sc : Nat} {S : Nat → Prop} (h : Own6 w w3 cs T g n sc) (ht : Turned w3 w4 S) (hS : ∀ k, S k → k < w.heap.size) :
    w4.heap[w.heap.size]? = some (.cells cs T (0, 0)) ∧ ∃ cur, w4.heap[g]? = some (.cells cur TM (0, 0)) ∧ cur.size = sc * 3 := by
  obtain ⟨cur, h1, h2⟩ := h.row
  have := h.lo
  refine ⟨(ht.block _ (lt_of_heap h.box) (fun hk => by have := hS _ hk; omega)).trans h.box, cur, (ht.block _ (lt_of_heap h1) (fun hk => by have := hS _ hk; omega)).trans h1, h2⟩

theorem own_none (w : World) (cs : Array Value) (T : TypeId) : Own6 w ((w.alloc (.cells cs T)).alloc (.cells #[] TM)) cs T (w.heap.size + 1) 0 0 := by
  obtain ⟨_, ⟨e, _⟩ | ⟨g, cap, cur, e, hb, hc, hn, _, hcs, _⟩⟩ := new_own w (.cells cs T)
  · cases e
  · injection e with e1 _ e2
    injection e1 with e1; injection e1 with e1
    subst e1 e2
    exact ⟨Nat.lt_succ_self _, ⟨cur, hc, hcs⟩, Nat.le_refl _, new_below w _, new_box w cs T⟩

set_option maxHeartbeats 2000000 in
theorem play_6s (h : Duo B w b mb v rs rb rv rs2) (a c : Int) (s : ByteArray) (ad : Addr) {l : List Mb} {lc : Nat} (hl : Low B w (.slice (some ad) l.length lc) l) (hread : ∀ X, Below w.heap.size w X → ∀ j u, (memCells l)[j]? = some u → X.cell? (ad.add j) = some u) (hs : ∀ m ∈ l, m.name.size ≤ 9223372036854775807) (hbig : l.length * 32 ≤ 140737488355328) :
    Calls Tryz.prog 7 #[.pointer (some ⟨b, 0, none⟩), .pointer (some ⟨rb, 0, none⟩), .agg (actC 6 a c s (.slice (some ad) l.length lc))] w fun e w2 => e = .returned (.bool true) ∧ FinP B w b mb rb w2 := by
  unfold actC
  have hbX := new_below w (.cells #[.int .i64 6, .int .i64 a, .int .i64 c, .string s, .slice (some ad) l.length lc] 33)
  have hox := new_own w (.cells #[.int .i64 6, .int .i64 a, .int .i64 c, .string s, .slice (some ad) l.length lc] 33)
  have hcs := hread _ hbX
  clear hread
  obtain ⟨i0, hi, hz0, hz1, hz2⟩ := info_parts infoTM
  have HD : Hid (Duo _ _ _ _ _ _ _ _ _) := h
  have HL : Hid (Low _ _ _ _) := hl
  have HS : Hid (∀ m ∈ l, m.name.size ≤ 9223372036854775807) := hs
  have HOX : Hid (World.ownsRow _ _ _ _ _ _ _) := hox
  clear h hbX hox hl hs
  go_enter Tryz.func7, Tryz.ntmps7
  go_wp2_with (first | (at_builtin; go_must (refine wpList_append_own_at _ rfl (.tmp 188) (.tmp 190) 31 rfl (w.heap.size + 1) TM i0 _ 3 32 Tryz.underlying31 hi hz0 hz1 hz2 rfl (by decide) (.slice (some ⟨w.heap.size + 1, 0, none⟩) 0 0) 0 [] rfl HOX.out ad l.length lc (memCells l) rfl (memCells_length l) hcs (mem_one l) (by unfold maxLen; omega) (by omega) (by rw [new_size]; omega) ?_); intro s3 w3 hown hgrow hnil hat; rw [Nat.zero_add, List.nil_append] at hown; obtain ⟨sp, sc, rfl⟩ := slice_of_own hown; obtain ⟨g, rfl, hO⟩ := after_own hgrow hown hnil; clear hcs hgrow hnil hat; have HO : Hid (Own6 w w3 _ _ g l.length sc) := hO; have q1 : w3.cell? ⟨w.heap.size, 1, none⟩ = some (.int .i64 a) := (by rw [Lib.cell_of_heap hO.box]; rfl); obtain ⟨er, Mid, c1, c2⟩ := duo_complete (HD.out.below hO.low) (MemSl.of_own hown) (fun X hX => HL.out X ((Turned.of_below hO.low _).trans (hX.mono (fun k hk => (HD.out.own_ge (Or.inl hk)).1)) (fun _ _ x => x))) HS.out (by omega) a; clear hO hown) | (go_at_call 26; refine c1.mono ?_; rintro e w4 ⟨rfl, hM⟩; obtain ⟨hT, c3⟩ := c2 w4 hM; have hb4 := (HO.out.turned hT (fun k hk => (HD.out.own_ge (Or.inl hk)).2)).1; have p1 : w4.cell? ⟨w.heap.size, 1, none⟩ = some (.int .i64 a) := (by rw [Lib.cell_of_heap hb4]; rfl); have p4 : w4.cell? ⟨w.heap.size, 4, none⟩ = some (.slice (some ad) l.length lc) := (by rw [Lib.cell_of_heap hb4]; rfl); clear c1 c2 hM hT hb4 q1) | (go_at_call 27; refine c3.mono ?_; rintro e w5 ⟨rfl, hF⟩; have HF : Hid (FinC _ _ _ _ _ _ _ _ _ _) := hF; clear c3 hF p1 p4))
  have HT5 : Hid (Turned w3 w5 (fun k => own b mb v k ∨ RTab.rown rb rv k)) := (by obtain ⟨_, _, _, h2, _⟩ := HF.out; exact h2)
  have HR5 : Hid (∃ cur, w5.heap[g]? = some (.cells cur TM (0, 0)) ∧ cur.size = sc * 3) := (HO.out.turned HT5.out (fun k hk => (HD.out.own_ge hk).2)).2
  have hcap := HO.out.cap
  go_loopw [34] (fun j wr => ∃ (k : Nat), j = .int .i64 k ∧ k ≤ l.length ∧ Hid (Turned w5 wr (fun z => z = g)) ∧ Hid (∃ cur, wr.heap[g]? = some (.cells cur TM (0, 0)) ∧ cur.size = sc * 3)) (fun j _ => l.length - (intOf j).toNat)
  case atStart => exact ⟨0, rfl, Nat.zero_le _, Turned.refl _ _, HR5⟩
  case round =>
    obtain ⟨k, rfl, hk, HT, HR⟩ := hrel
    by_cases hlt : k < l.length
    · obtain ⟨cur, hm2, hm3⟩ := HR.out
      have f0 : (wr.cell? ⟨g, k * 3 + 1, none⟩).isSome = true := (there_of (o := k * 3 + 1) (n := 1) hm2 (by omega) 0 (by omega)).1
      obtain ⟨x0, hx0⟩ := Option.isSome_iff_exists.1 f0
      have hfz : wr.frozen? ⟨g, k * 3 + 1, none⟩ = false := frozen_of hm2 _
      have HT2 : Hid (Turned w5 (wr.setCell ⟨g, k * 3 + 1, none⟩ (.int .i64 (-1))) (fun z => z = g)) := HT.out.trans (Turned.setCell (S := fun z => z = g) wr g _ _ rfl) (fun _ _ x => x)
      have HR2 : Hid (∃ cur, (wr.setCell ⟨g, k * 3 + 1, none⟩ (.int .i64 (-1))).heap[g]? = some (.cells cur TM (0, 0)) ∧ cur.size = sc * 3) := ⟨_, heap_setCell hm2 _, by simpa using hm3⟩
      clear hm2 f0
      go_wp2
      exact ⟨⟨k + 1, by go_num, by omega, HT2, HR2⟩, by simp [intOf]; omega⟩
    · obtain rfl : k = l.length := by omega
      go_wp2
      go_ret
      refine ⟨rfl, FinC.p HD.out HO.out.low HF.out (Nat.le_of_lt HO.out.lo) (by obtain ⟨cur, h1, _⟩ := HO.out.row; exact lt_of_heap h1) HT.out⟩
set_option maxHeartbeats 2000000 in
theorem play_6n (h : Duo B w b mb v rs rb rv rs2) (a c : Int) (s : ByteArray) (hl : Low B w (.slice none 0 0) []) :
    Calls Tryz.prog 7 #[.pointer (some ⟨b, 0, none⟩), .pointer (some ⟨rb, 0, none⟩), .agg (actC 6 a c s (.slice none 0 0))] w fun e w2 => e = .returned (.bool true) ∧ FinP B w b mb rb w2 := by
  unfold actC
  have hbX := new_below w (.cells #[.int .i64 6, .int .i64 a, .int .i64 c, .string s, .slice none 0 0] 33)
  have hox := new_own w (.cells #[.int .i64 6, .int .i64 a, .int .i64 c, .string s, .slice none 0 0] 33)
  obtain ⟨i0, hi, hz0, hz1, hz2⟩ := info_parts infoTM
  have HD : Hid (Duo _ _ _ _ _ _ _ _ _) := h
  have HL : Hid (Low _ _ _ _) := hl
  have HOX : Hid (World.ownsRow _ _ _ _ _ _ _) := hox
  clear h hbX hox hl
  go_enter Tryz.func7, Tryz.ntmps7
  go_wp2_with (first | (at_builtin; go_must (refine wpList_append_own_none rfl (.tmp 188) (.tmp 190) 31 rfl (w.heap.size + 1) TM i0 3 Tryz.underlying31 hi (.slice (some ⟨w.heap.size + 1, 0, none⟩) 0 0) 0 [] rfl HOX.out rfl ?_); obtain ⟨w3, hw3⟩ : ∃ x, x = (w.alloc (.cells #[.int .i64 6, .int .i64 a, .int .i64 c, .string s, .slice none 0 0] 33)).alloc (.cells #[] TM) := ⟨_, rfl⟩; have hown := HOX.out; have hO := own_none w #[.int .i64 6, .int .i64 a, .int .i64 c, .string s, .slice none 0 0] 33; rw [← hw3] at hown hO; refine (?_ : wpList _ _ _ _ _ (World.alloc _ _)); rw [← hw3]; clear hw3; have HO : Hid (Own6 w w3 _ _ (w.heap.size + 1) 0 0) := hO; have q1 : w3.cell? ⟨w.heap.size, 1, none⟩ = some (.int .i64 a) := (by rw [Lib.cell_of_heap hO.box]; rfl); obtain ⟨er, Mid, c1, c2⟩ := duo_complete (HD.out.below hO.low) (l := []) (MemSl.of_own hown) (fun X hX => HL.out X ((Turned.of_below hO.low _).trans (hX.mono (fun k hk => (HD.out.own_ge (Or.inl hk)).1)) (fun _ _ x => x))) (fun m hm => by cases hm) (by simp) a; clear hO hown) | (go_at_call 26; refine c1.mono ?_; rintro e w4 ⟨rfl, hM⟩; obtain ⟨hT, c3⟩ := c2 w4 hM; have hb4 := (HO.out.turned hT (fun k hk => (HD.out.own_ge (Or.inl hk)).2)).1; have p1 : w4.cell? ⟨w.heap.size, 1, none⟩ = some (.int .i64 a) := (by rw [Lib.cell_of_heap hb4]; rfl); have p4 : w4.cell? ⟨w.heap.size, 4, none⟩ = some (.slice none 0 0) := (by rw [Lib.cell_of_heap hb4]; rfl); clear c1 c2 hM hT hb4 q1) | (go_at_call 27; refine c3.mono ?_; rintro e w5 ⟨rfl, hF⟩; have HF : Hid (FinC _ _ _ _ _ _ _ _ _ _) := hF; clear c3 hF p1 p4))
  have HT5 : Hid (Turned w3 w5 (fun k => own b mb v k ∨ RTab.rown rb rv k)) := (by obtain ⟨_, _, _, h2, _⟩ := HF.out; exact h2)
  have HR5 : Hid (∃ cur, w5.heap[w.heap.size + 1]? = some (.cells cur TM (0, 0)) ∧ cur.size = 0 * 3) := (HO.out.turned HT5.out (fun k hk => (HD.out.own_ge hk).2)).2
  have hcap := HO.out.cap
  go_loopw [34] (fun j wr => ∃ (k : Nat), j = .int .i64 k ∧ k ≤ 0 ∧ Hid (Turned w5 wr (fun z => z = w.heap.size + 1)) ∧ Hid (∃ cur, wr.heap[w.heap.size + 1]? = some (.cells cur TM (0, 0)) ∧ cur.size = 0 * 3)) (fun j _ => 0 - (intOf j).toNat)
  case atStart => exact ⟨0, rfl, Nat.zero_le _, Turned.refl _ _, HR5⟩
  case round =>
    obtain ⟨k, rfl, hk, HT, HR⟩ := hrel
    obtain rfl : k = 0 := by omega
    go_wp2
    go_ret
    refine ⟨rfl, FinC.p HD.out HO.out.low HF.out (Nat.le_of_lt HO.out.lo) (by obtain ⟨cur, h1, _⟩ := HO.out.row; exact lt_of_heap h1) HT.out⟩
/-- Complete on both, as the law plays it. -/
theorem play_6 (h : Duo B w b mb v rs rb rv rs2) (a c : Int) (s : ByteArray) {ls : Value} {l : List Mb} (hl : Low B w ls l) (hs : ∀ m ∈ l, m.name.size ≤ 9223372036854775807) (hbig : l.length * 32 ≤ 140737488355328) :
    Calls Tryz.prog 7 #[.pointer (some ⟨b, 0, none⟩), .pointer (some ⟨rb, 0, none⟩), .agg (actC 6 a c s ls)] w fun e w2 => e = .returned (.bool true) ∧ FinP B w b mb rb w2 := by
  rcases (hl w (Turned.refl _ _)).read with ⟨rfl, rfl⟩ | ⟨ad, lc, rfl, hread⟩
  · exact play_6n h a c s hl
  · exact play_6s h a c s ad hl hread hs hbig
end
end Go.Proofs.YtdfkkflpcamhjaaGreatDoor
