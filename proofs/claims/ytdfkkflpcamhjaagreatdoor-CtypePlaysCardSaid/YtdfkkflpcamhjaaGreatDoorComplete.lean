/-
  Complete: a struct or a union gets its members.
-/
import Derived.Test.YtdfkkflpcamhjaaGreatDoorRefus
import Derived.Deep.DeepMust
import Derived.Deep.RegionWith
namespace Go.Proofs.YtdfkkflpcamhjaaGreatDoor
open Go.RowKit Go.Maps
set_option linter.unusedVariables false
set_option maxRecDepth 100000

theorem below_drew (B : Nat) (w : World) : Below B w w.drew := ⟨rfl, rfl, rfl, Nat.le_refl _, fun _ _ => rfl⟩
theorem infoTM : (Tryz.prog.info? TM).map (fun i => (i.zero, i.size, i.bytes)) = some (some (.agg #[.string ⟨#[]⟩, .int .i64 0, .int .i64 0]), 3, 32) := by kernel_rfl

section
variable {B : Nat} {w : World} {b mb : Nat} {v : Value} {rs : List (Rw × Value)} {ps : List (Value × Value)}

theorem MemSl.cells {x : Value} {l : List Mb} {g o cap : Nat} (hcell : ∀ i m, l[i]? = some m → ∀ j, j < 3 → w.cell? ⟨g, o + i * 3 + j, none⟩ = (mbCells m)[j]?) :
    ∀ j u, (memCells l)[j]? = some u → w.cell? ((⟨g, o, none⟩ : Addr).add j) = some u := by
  intro j u hj
  have e : ((⟨g, o, none⟩ : Addr).add j) = ⟨g, o + j, none⟩ := by
    simp [Addr.add]
  rw [e]
  have hlen : j < l.length * 3 := by rw [← memCells_length]; exact (List.getElem?_eq_some_iff.1 hj).1
  have hi : j / 3 < l.length := by omega
  have h3 : j % 3 < 3 := by omega
  have hd : j / 3 * 3 + j % 3 = j := by omega
  have q := memCells_at l (j / 3) l[j / 3] (List.getElem?_eq_getElem hi) (j % 3) h3
  rw [hd, hj] at q
  rw [q, ← hcell (j / 3) l[j / 3] (List.getElem?_eq_getElem hi) (j % 3) h3]
  congr 2; omega
theorem mem_one (l : List Mb) : ∀ u ∈ memCells l, u.oneCell' = true := by
  intro u hu
  simp only [memCells, List.mem_flatMap] at hu
  obtain ⟨m, _, hm⟩ := hu
  simp [mbCells] at hm
  rcases hm with rfl | rfl | rfl <;> rfl

/-- copyMembers: a slice of its own. -/
theorem copyMembers_c {x : Value} {l : List Mb} (hl : MemSl w x l) (hn1 : 1 ≤ l.length) (hn : l.length ≤ 64) :
    Calls Tryz.prog 59 #[x] w fun e w' => ∃ s, e = .returned s ∧ w'.ownsRow w.heap.size TM 3 s l.length (memCells l) ∧ Below w.heap.size w w' := by
  obtain ⟨i0, hi, hz0, hz1, hz2⟩ := info_parts infoTM
  rcases hl with ⟨rfl, rfl⟩ | ⟨ga, oa, cap, rfl, hcap, hg, hcell⟩
  · simp at hn1
  · have hcs := MemSl.cells (x := .bool true) (cap := 0) hcell
    go_enter Tryz.func59, Tryz.ntmps59
    clear hcell
    go_wp2_with (at_builtin; go_must (refine wpList_append_own_at _ rfl (.const (.slice none 0 0)) (.tmp 3) 31 rfl w.heap.size TM i0 _ 3 32 Tryz.underlying31 hi hz0 hz1 hz2 rfl (by decide) (.slice none 0 0) 0 [] rfl (World.ownsRow_nil _ _ _ _) ⟨ga, oa, none⟩ l.length cap (memCells l) rfl (memCells_length l) hcs (mem_one l) (by unfold maxLen; omega) (by omega) (Nat.le_refl _) ?_); intro s w' hown hgrow hnil hat)
    go_ret
    refine ⟨_, rfl, by simpa using hown, ⟨hgrow.os, hgrow.tape, hgrow.output, hgrow.size, fun k hk => hgrow.block k hk (by simp [Value.ownBlock])⟩⟩

theorem allCells_set (rs : List (Rw × Value)) (i : Nat) (r : Rw) (s0 s : Value) (l : List Mb) (h : rs[i]? = some (r, s0)) :
    allCells (rs.set i ({ r with mem := l, done := true }, s)) = ((allCells rs).set (i * 6 + 4) s).set (i * 6 + 5) (.bool true) := by
  induction rs generalizing i with
  | nil => simp at h
  | cons q t ih =>
    cases i with
    | zero =>
      simp at h; subst h
      simp [allCells, rwCells]
    | succ i =>
      simp at h
      have e := ih i h
      have e4 : (i + 1) * 6 + 4 = (rwCells q.1 q.2).length + (i * 6 + 4) := by simp [rwCells]; omega
      have e5 : (i + 1) * 6 + 5 = (rwCells q.1 q.2).length + (i * 6 + 5) := by simp [rwCells]; omega
      simp only [allCells, List.set_cons_succ, List.flatMap_cons] at e ⊢
      rw [e, e4, e5, List.set_append_right _ _ (by omega), List.set_append_right _ _ (by omega)]
      simp

/-- A struct or a union gets its members. -/
theorem Tab.complete (h : Tab B w b mb v rs ps) {i : Nat} {r : Rw} {s0 s : Value} {l : List Mb} (hp : rs[i]? = some (r, s0)) {w1 : World} (hb : Below w.heap.size w w1) (hs : w1.ownsRow B TM 3 s l.length (memCells l)) {g cap : Nat} (hv : v = .slice (some ⟨g, 0, none⟩) rs.length cap) :
    Tab B ((w1.setCell ⟨g, i * 6 + 4, none⟩ s).setCell ⟨g, i * 6 + 5, none⟩ (.bool true)) b mb v (rs.set i ({ r with mem := l, done := true }, s)) ps ∧
      Turned w ((w1.setCell ⟨g, i * 6 + 4, none⟩ s).setCell ⟨g, i * 6 + 5, none⟩ (.bool true)) (own b mb v) := by
  have h1 := h.keptB hb
  have hlt : i < rs.length := (List.getElem?_eq_some_iff.1 hp).1
  have hgv : v.ownBlock = some g := by rw [hv]; rfl
  have T1 : Turned w1 ((w1.setCell ⟨g, i * 6 + 4, none⟩ s).setCell ⟨g, i * 6 + 5, none⟩ (.bool true)) (fun k => k = g) :=
    (Turned.setCell (S := fun k => k = g) w1 g _ s rfl).trans (Turned.setCell (S := fun k => k = g) _ g _ _ rfl) (fun _ _ x => x)
  obtain ⟨hlen, ⟨rfl, _⟩ | ⟨g', cap', cur, e1, hB, hg, hc1, hc2, hc3, hc4⟩⟩ := h1.rows
  · cases hv
  rw [hv] at e1
  injection e1 with e1 _ e2
  injection e1 with e1
  injection e1 with e1
  subst e1 e2
  refine ⟨⟨h.bB, h.mB, ?_, ⟨?_, Or.inr ⟨g, cap, _, ?_, hB, heap_setCell (heap_setCell hg _) _, ?_, hc2, ?_, ?_⟩⟩, ?_, ?_, h.wf, by simpa using h.len⟩, (Turned.of_below hb _).trans (T1.mono (fun k hk => Or.inr (Or.inr (by rw [hk]; exact hgv)))) (fun _ _ x => x)⟩
  · rw [T1.block b (lt_of_heap h1.tab) (fun e => (h1.v_b hgv).1 e.symm)]; exact h1.tab
  · rw [allCells_length]
  · simpa using hv
  · simpa using hc1
  · simpa using hc3
  · rw [allCells_set rs i r s0 s l hp, ← hc4]
    simp only [Array.toList_setIfInBounds, List.length_set]
    rw [List.take_set, List.take_set]
  · intro p hpm
    rcases List.mem_or_eq_of_mem_set hpm with hpm | rfl
    · exact ownsRow_turned (h1.mems p hpm) T1 (fun k hk e => h1.m_own hpm hk (Or.inr (Or.inr (by rw [e]; exact hgv))))
    · refine ownsRow_turned hs T1 (fun k hk e => ?_)
      obtain ⟨_, c0, hc0⟩ := ownsRow_at hs hk
      rw [e, hg] at hc0; injection hc0 with x1; injection x1 with _ x2; exact absurd x2 (by decide)
  · obtain ⟨es, ck, hm, rr⟩ := h1.map
    exact ⟨es, ck, by rw [T1.block mb (lt_of_heap hm) (fun e => (h1.v_b hgv).2 e.symm)]; exact hm, rr⟩

theorem complete_err (h : Tab B w b mb v rs ps) (h0 : 0 < rs.length) {x : Value} {l : List Mb} (hl : MemSl w x l) (hs : ∀ m ∈ l, m.name.size ≤ 9223372036854775807) (hbig : l.length ≤ 9223372036854775807) {i : Nat} {r : Rw} {s0 : Value} (hp : rs[i]? = some (r, s0))
    (hk : recK r.kind = true) (hd : r.done = false) (he : refusP rs l ≠ 0) :
    Calls Tryz.prog 26 #[.pointer (some ⟨b, 0, none⟩), .int .i64 i, x] w fun e w' => e = .returned (.int .i64 (refusP rs l)) ∧ Below w.heap.size w w' := by
  have c1 := made_c h h0
  have c2 := kind_some h i _ hp
  have c3 := isRecord_c r.kind w
  rw [hk] at c3
  have c4 := refusal_c h h0 hl hs hbig
  have hc := h.c0
  have hlt : i < rs.length := (List.getElem?_eq_some_iff.1 hp).1
  have hln := h.len
  obtain ⟨g, cap, rfl, hcap, hcell⟩ := h.cell hp
  have a5 := hcell 5 (by omega)
  simp only [rwCells, List.getElem?_cons_succ, List.getElem?_cons_zero, hd] at a5
  clear hcell hp
  have h1 := not_t
  generalize refusP rs l = z at *
  have hz : (z != 0) = true := by simpa using he
  simp only at c2
  go_enter Tryz.func26, Tryz.ntmps26
  go_wp2_with (first | (go_at_call 41; refine c1.mono ?_; rintro e w' ⟨rfl, rfl⟩) | (go_at_call 57; refine c2.mono ?_; rintro e w' ⟨rfl, rfl⟩) | (go_at_call 56; refine c3.mono ?_; rintro e w' ⟨rfl, rfl⟩) | (go_at_call 58; refine c4.mono ?_; rintro e w1 ⟨rfl, hb1⟩))
  go_ret
  exact ⟨rfl, hb1⟩

set_option maxHeartbeats 1000000 in
theorem complete_c (h : Tab B w b mb v rs ps) (h0 : 0 < rs.length) {x : Value} {l : List Mb} (hl : MemSl w x l) (hs : ∀ m ∈ l, m.name.size ≤ 9223372036854775807) (hbig : l.length ≤ 9223372036854775807) {i : Nat} {r : Rw} {s0 : Value} (hp : rs[i]? = some (r, s0))
    (hk : recK r.kind = true) (hd : r.done = false) (he : refusP rs l = 0) :
    Calls Tryz.prog 26 #[.pointer (some ⟨b, 0, none⟩), .int .i64 i, x] w fun e w' => e = .returned (.int .i64 0) ∧
      ∃ s, Tab B w' b mb v (rs.set i ({ r with mem := l, done := true }, s)) ps ∧ Turned w w' (own b mb v) := by
  have hn1 : 1 ≤ l.length := by
    rcases Nat.lt_or_ge l.length 1 with hh | hh
    · rw [refusP, if_pos (Or.inl hh)] at he; cases he
    · exact hh
  have hn2 : l.length ≤ 64 := by
    rcases Nat.lt_or_ge 64 l.length with hh | hh
    · rw [refusP, if_pos (Or.inr hh)] at he; cases he
    · exact hh
  have c1 := made_c h h0
  have c2 := kind_some h i _ hp
  have c3 := isRecord_c r.kind w
  rw [hk] at c3
  have c4 := refusal_c h h0 hl hs hbig
  rw [he] at c4
  have hc := h.c0
  have hlt : i < rs.length := (List.getElem?_eq_some_iff.1 hp).1
  have hln := h.len
  obtain ⟨g, cap, hv, hcap, hcell⟩ := h.cell hp
  have a4 := hcell 4 (by omega)
  have a5 := hcell 5 (by omega)
  simp only [rwCells, List.getElem?_cons_succ, List.getElem?_cons_zero, hd] at a4 a5
  have hgl : g < w.heap.size := World.block_lt_of_cell? w _ a5
  have hbl : b < w.heap.size := lt_of_heap h.tab
  obtain ⟨_, cur, hcur⟩ := ownsRow_at h.rows (g := g) (by rw [hv]; rfl)
  clear hcell
  have h1 := not_t
  simp only at c2
  rw [hv] at hc
  go_enter Tryz.func26, Tryz.ntmps26
  go_wp2_with (first | (go_at_call 41; refine c1.mono ?_; rintro e w' ⟨rfl, rfl⟩) | (go_at_call 57; refine c2.mono ?_; rintro e w' ⟨rfl, rfl⟩) | (go_at_call 56; refine c3.mono ?_; rintro e w' ⟨rfl, rfl⟩) | (go_at_call 58; refine c4.mono ?_; rintro e w1 ⟨rfl, hb1⟩))
  have cC := fun W' (hbb : Below w1.heap.size w1 W') => copyMembers_c ((hl.below hb1).below hbb) hn1 hn2
  have q0 : w1.cell? ⟨b, 0, none⟩ = some (.slice (some ⟨g, 0, none⟩) rs.length cap) := (hb1.cell (p := ⟨b, 0, none⟩) hbl).trans hc
  have q4 : w1.cell? ⟨g, i * 6 + 4, none⟩ = some s0 := (hb1.cell (p := ⟨g, i * 6 + 4, none⟩) hgl).trans a4
  have q5 : w1.cell? ⟨g, i * 6 + 5, none⟩ = some (.bool false) := (hb1.cell (p := ⟨g, i * 6 + 5, none⟩) hgl).trans a5
  have Q : Hid (w1.heap[g]? = some (.cells cur TR (0, 0))) := (hb1.block g hgl).trans hcur
  have hgl1 : g < w1.heap.size := Nat.lt_of_lt_of_le hgl hb1.size
  have hbl1 : b < w1.heap.size := Nat.lt_of_lt_of_le hbl hb1.size
  have HB1 : Hid (Below _ _ w1) := hb1
  have HH : Hid (Tab _ _ _ _ _ _ _) := h
  clear c1 c2 c3 c4 a4 a5 hc hcur hb1 hl hs hbig h
  go_region_with (go_at_call 59; refine (cC _ (by exact ⟨rfl, rfl, rfl, Nat.le_refl _, fun _ _ => rfl⟩)).mono ?_; rintro e w2 ⟨s, rfl, hown, hb2⟩; obtain ⟨sp, scap, rfl⟩ := slice_of_own hown; have p0 : w2.cell? ⟨b, 0, none⟩ = some (.slice (some ⟨g, 0, none⟩) rs.length cap) := (hb2.cell (p := ⟨b, 0, none⟩) hbl1).trans q0; have p4 : w2.cell? ⟨g, i * 6 + 4, none⟩ = some s0 := (hb2.cell (p := ⟨g, i * 6 + 4, none⟩) hgl1).trans q4; have p5 : w2.cell? ⟨g, i * 6 + 5, none⟩ = some (.bool false) := (hb2.cell (p := ⟨g, i * 6 + 5, none⟩) hgl1).trans q5; have Q2 : Hid (w2.heap[g]? = some (.cells cur TR (0, 0))) := (hb2.block g hgl1).trans Q.out; have f4 : w2.frozen? ⟨g, i * 6 + 4, none⟩ = false := frozen_of Q2.out _; have f5 : w2.frozen? ⟨g, i * 6 + 5, none⟩ = false := frozen_of Q2.out _; have HO : Hid (World.ownsRow _ _ _ _ _ _ _) := hown; have HB2 : Hid (Below _ _ w2) := hb2; clear hown hb2)
  all_goals go_wp2
  all_goals go_ret
  all_goals
    subst hv
    refine ⟨rfl, _, (HH.out.complete hp (HB1.out.trans ((below_drew _ w1).trans (HB2.out.mono HB1.out.size))) (ownsRow_base HO.out (Nat.le_trans HH.out.lt HB1.out.size)) rfl)⟩
end
end Go.Proofs.YtdfkkflpcamhjaaGreatDoor
