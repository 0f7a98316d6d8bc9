/-
  Rows copied: memory of their own.
  Complete: a struct or a union gets its members.
  copyMembers, of no members too: memory of its own.
  A row copied: memory of its own.
-/
import Derived.Test.YtlcghlfmaohfeaaGreatHRefus
import Derived.Deep.DeepMust
import Derived.Deep.RegionWith
import Derived.Test.YtlcghlfmaohfeaaGreatHRefEq
import Derived.Deep.MidRow
import Derived.Laws.OwnMore
namespace Go.Proofs.YtlcghlfmaohfeaaGreat
open Go.RowKit Go.Maps
set_option linter.unusedVariables false
set_option maxRecDepth 100000

theorem below_drew (B : Nat) (w : World) : Below B w w.drew := ⟨rfl, rfl, rfl, Nat.le_refl _, fun _ _ => rfl⟩
theorem infoTM : (Tryz.prog.info? TM).map (fun i => (i.zero, i.size, i.bytes)) = some (some (.agg #[.string ⟨#[]⟩, .int .i64 0, .int .i64 0]), 3, 32) := by kernel_rfl

section
variable {B : Nat} {w : World} {b mb : Nat} {v : Value} {rs : List (Rw × Value)} {ps : List (Value × Value)}

theorem MemSl.cells {x : Value} {l : List Mb} {g o cap : Nat} (hcell : ∀ i m, l[i]? = some m → ∀ j, j < 3 → w.cell? ⟨g, o + i * 3 + j, none⟩ = (mbCells m)[j]?) :
    ∀ j u, (memCells l)[j]? = some u → w.cell? ((⟨g, o, none⟩ : Addr).add j) = some u := by
  intro j u hj
  have e : ((⟨g, o, none⟩ : Addr).add j) = ⟨g, o + j, none⟩ := by
    simp [Addr.add]
  rw [e]
  have hlen : j < l.length * 3 := by rw [← memCells_length]; exact (List.getElem?_eq_some_iff.1 hj).1
  have hi : j / 3 < l.length := by omega
  have h3 : j % 3 < 3 := by omega
  have hd : j / 3 * 3 + j % 3 = j := by omega
  have q := memCells_at l (j / 3) l[j / 3] (List.getElem?_eq_getElem hi) (j % 3) h3
  rw [hd, hj] at q
  rw [q, ← hcell (j / 3) l[j / 3] (List.getElem?_eq_getElem hi) (j % 3) h3]
  congr 2; omega
theorem mem_one (l : List Mb) : ∀ u ∈ memCells l, u.oneCell' = true := by
  intro u hu
  simp only [memCells, List.mem_flatMap] at hu
  obtain ⟨m, _, hm⟩ := hu
  simp [mbCells] at hm
  rcases hm with rfl | rfl | rfl <;> rfl

/-- copyMembers: a slice of its own. -/
theorem copyMembers_c {x : Value} {l : List Mb} (hl : MemSl w x l) (hn1 : 1 ≤ l.length) (hn : l.length ≤ 64) :
    Calls Tryz.prog 54 #[x] w fun e w' => ∃ s, e = .returned s ∧ w'.ownsRow w.heap.size TM 3 s l.length (memCells l) ∧ Below w.heap.size w w' := by
  obtain ⟨i0, hi, hz0, hz1, hz2⟩ := info_parts infoTM
  rcases hl with ⟨rfl, rfl⟩ | ⟨ga, oa, cap, rfl, hcap, hg, hcell⟩
  · simp at hn1
  · have hcs := MemSl.cells (x := .bool true) (cap := 0) hcell
    go_enter Tryz.func54, Tryz.ntmps54
    clear hcell
    go_wp2_with (at_builtin; go_must (refine wpList_append_own_at _ rfl (.const (.slice none 0 0)) (.tmp 3) 73 rfl w.heap.size TM i0 _ 3 32 Tryz.underlying73 hi hz0 hz1 hz2 rfl (by decide) (.slice none 0 0) 0 [] rfl (World.ownsRow_nil _ _ _ _) ⟨ga, oa, none⟩ l.length cap (memCells l) rfl (memCells_length l) hcs (mem_one l) (by unfold maxLen; omega) (by omega) (Nat.le_refl _) ?_); intro s w' hown hgrow hnil hat)
    go_ret
    refine ⟨_, rfl, by simpa using hown, ⟨hgrow.os, hgrow.tape, hgrow.output, hgrow.size, fun k hk => hgrow.block k hk (by simp [Value.ownBlock])⟩⟩

theorem allCells_set (rs : List (Rw × Value)) (i : Nat) (r : Rw) (s0 s : Value) (l : List Mb) (h : rs[i]? = some (r, s0)) :
    allCells (rs.set i ({ r with mem := l, done := true }, s)) = ((allCells rs).set (i * 6 + 4) s).set (i * 6 + 5) (.bool true) := by
  induction rs generalizing i with
  | nil => simp at h
  | cons q t ih =>
    cases i with
    | zero =>
      simp at h; subst h
      simp [allCells, rwCells]
    | succ i =>
      simp at h
      have e := ih i h
      have e4 : (i + 1) * 6 + 4 = (rwCells q.1 q.2).length + (i * 6 + 4) := by simp [rwCells]; omega
      have e5 : (i + 1) * 6 + 5 = (rwCells q.1 q.2).length + (i * 6 + 5) := by simp [rwCells]; omega
      simp only [allCells, List.set_cons_succ, List.flatMap_cons] at e ⊢
      rw [e, e4, e5, List.set_append_right _ _ (by omega), List.set_append_right _ _ (by omega)]
      simp

/-- A struct or a union gets its members. -/
theorem Tab.complete (h : Tab B w b mb v rs ps) {i : Nat} {r : Rw} {s0 s : Value} {l : List Mb} (hp : rs[i]? = some (r, s0)) {w1 : World} (hb : Below w.heap.size w w1) (hs : w1.ownsRow B TM 3 s l.length (memCells l)) {g cap : Nat} (hv : v = .slice (some ⟨g, 0, none⟩) rs.length cap) :
    Tab B ((w1.setCell ⟨g, i * 6 + 4, none⟩ s).setCell ⟨g, i * 6 + 5, none⟩ (.bool true)) b mb v (rs.set i ({ r with mem := l, done := true }, s)) ps ∧
      Turned w ((w1.setCell ⟨g, i * 6 + 4, none⟩ s).setCell ⟨g, i * 6 + 5, none⟩ (.bool true)) (own b mb v) := by
  have h1 := h.keptB hb
  have hlt : i < rs.length := (List.getElem?_eq_some_iff.1 hp).1
  have hgv : v.ownBlock = some g := by rw [hv]; rfl
  have T1 : Turned w1 ((w1.setCell ⟨g, i * 6 + 4, none⟩ s).setCell ⟨g, i * 6 + 5, none⟩ (.bool true)) (fun k => k = g) :=
    (Turned.setCell (S := fun k => k = g) w1 g _ s rfl).trans (Turned.setCell (S := fun k => k = g) _ g _ _ rfl) (fun _ _ x => x)
  obtain ⟨hlen, ⟨rfl, _⟩ | ⟨g', cap', cur, e1, hB, hg, hc1, hc2, hc3, hc4⟩⟩ := h1.rows
  · cases hv
  rw [hv] at e1
  injection e1 with e1 _ e2
  injection e1 with e1
  injection e1 with e1
  subst e1 e2
  refine ⟨⟨h.bB, h.mB, ?_, ⟨?_, Or.inr ⟨g, cap, _, ?_, hB, heap_setCell (heap_setCell hg _) _, ?_, hc2, ?_, ?_⟩⟩, ?_, ?_, h.wf, by simpa using h.len⟩, (Turned.of_below hb _).trans (T1.mono (fun k hk => Or.inr (Or.inr (by rw [hk]; exact hgv)))) (fun _ _ x => x)⟩
  · rw [T1.block b (lt_of_heap h1.tab) (fun e => (h1.v_b hgv).1 e.symm)]; exact h1.tab
  · rw [allCells_length]
  · simpa using hv
  · simpa using hc1
  · simpa using hc3
  · rw [allCells_set rs i r s0 s l hp, ← hc4]
    simp only [Array.toList_setIfInBounds, List.length_set]
    rw [List.take_set, List.take_set]
  · intro p hpm
    rcases List.mem_or_eq_of_mem_set hpm with hpm | rfl
    · exact ownsRow_turned (h1.mems p hpm) T1 (fun k hk e => h1.m_own hpm hk (Or.inr (Or.inr (by rw [e]; exact hgv))))
    · refine ownsRow_turned hs T1 (fun k hk e => ?_)
      obtain ⟨_, c0, hc0⟩ := ownsRow_at hs hk
      rw [e, hg] at hc0; injection hc0 with x1; injection x1 with _ x2; exact absurd x2 (by decide)
  · obtain ⟨es, ck, hm, rr⟩ := h1.map
    exact ⟨es, ck, by rw [T1.block mb (lt_of_heap hm) (fun e => (h1.v_b hgv).2 e.symm)]; exact hm, rr⟩

theorem complete_err (h : Tab B w b mb v rs ps) (h0 : 0 < rs.length) {x : Value} {l : List Mb} (hl : MemSl w x l) (hs : ∀ m ∈ l, m.name.size ≤ 9223372036854775807) (hbig : l.length ≤ 9223372036854775807) {i : Nat} {r : Rw} {s0 : Value} (hp : rs[i]? = some (r, s0))
    (hk : recK r.kind = true) (hd : r.done = false) (he : refusP rs l ≠ 0) :
    Calls Tryz.prog 27 #[.pointer (some ⟨b, 0, none⟩), .int .i64 i, x] w fun e w' => e = .returned (.int .i64 (refusP rs l)) ∧ Below w.heap.size w w' := by
  have c1 := made_c h h0
  have c2 := kind_some h i _ hp
  have c3 := isRecord_c r.kind w
  rw [hk] at c3
  have c4 := refusal_c h h0 hl hs hbig
  have hc := h.c0
  have hlt : i < rs.length := (List.getElem?_eq_some_iff.1 hp).1
  have hln := h.len
  obtain ⟨g, cap, rfl, hcap, hcell⟩ := h.cell hp
  have a5 := hcell 5 (by omega)
  simp only [rwCells, List.getElem?_cons_succ, List.getElem?_cons_zero, hd] at a5
  clear hcell hp
  have h1 := not_t
  generalize refusP rs l = z at *
  have hz : (z != 0) = true := by simpa using he
  simp only at c2
  go_enter Tryz.func27, Tryz.ntmps27
  go_wp2_with (first | (go_at_call 50; refine c1.mono ?_; rintro e w' ⟨rfl, rfl⟩) | (go_at_call 52; refine c2.mono ?_; rintro e w' ⟨rfl, rfl⟩) | (go_at_call 51; refine c3.mono ?_; rintro e w' ⟨rfl, rfl⟩) | (go_at_call 53; refine c4.mono ?_; rintro e w1 ⟨rfl, hb1⟩))
  go_ret
  exact ⟨rfl, hb1⟩

set_option maxHeartbeats 1000000 in
theorem complete_c (h : Tab B w b mb v rs ps) (h0 : 0 < rs.length) {x : Value} {l : List Mb} (hl : MemSl w x l) (hs : ∀ m ∈ l, m.name.size ≤ 9223372036854775807) (hbig : l.length ≤ 9223372036854775807) {i : Nat} {r : Rw} {s0 : Value} (hp : rs[i]? = some (r, s0))
    (hk : recK r.kind = true) (hd : r.done = false) (he : refusP rs l = 0) :
    Calls Tryz.prog 27 #[.pointer (some ⟨b, 0, none⟩), .int .i64 i, x] w fun e w' => e = .returned (.int .i64 0) ∧
      ∃ s, Tab B w' b mb v (rs.set i ({ r with mem := l, done := true }, s)) ps ∧ Turned w w' (own b mb v) := by
  have hn1 : 1 ≤ l.length := by
    rcases Nat.lt_or_ge l.length 1 with hh | hh
    · rw [refusP, if_pos (Or.inl hh)] at he; cases he
    · exact hh
  have hn2 : l.length ≤ 64 := by
    rcases Nat.lt_or_ge 64 l.length with hh | hh
    · rw [refusP, if_pos (Or.inr hh)] at he; cases he
    · exact hh
  have c1 := made_c h h0
  have c2 := kind_some h i _ hp
  have c3 := isRecord_c r.kind w
  rw [hk] at c3
  have c4 := refusal_c h h0 hl hs hbig
  rw [he] at c4
  have hc := h.c0
  have hlt : i < rs.length := (List.getElem?_eq_some_iff.1 hp).1
  have hln := h.len
  obtain ⟨g, cap, hv, hcap, hcell⟩ := h.cell hp
  have a4 := hcell 4 (by omega)
  have a5 := hcell 5 (by omega)
  simp only [rwCells, List.getElem?_cons_succ, List.getElem?_cons_zero, hd] at a4 a5
  have hgl : g < w.heap.size := World.block_lt_of_cell? w _ a5
  have hbl : b < w.heap.size := lt_of_heap h.tab
  obtain ⟨_, cur, hcur⟩ := ownsRow_at h.rows (g := g) (by rw [hv]; rfl)
  clear hcell
  have h1 := not_t
  simp only at c2
  rw [hv] at hc
  go_enter Tryz.func27, Tryz.ntmps27
  go_wp2_with (first | (go_at_call 50; refine c1.mono ?_; rintro e w' ⟨rfl, rfl⟩) | (go_at_call 52; refine c2.mono ?_; rintro e w' ⟨rfl, rfl⟩) | (go_at_call 51; refine c3.mono ?_; rintro e w' ⟨rfl, rfl⟩) | (go_at_call 53; refine c4.mono ?_; rintro e w1 ⟨rfl, hb1⟩))
  have cC := fun W' (hbb : Below w1.heap.size w1 W') => copyMembers_c ((hl.below hb1).below hbb) hn1 hn2
  have q0 : w1.cell? ⟨b, 0, none⟩ = some (.slice (some ⟨g, 0, none⟩) rs.length cap) := (hb1.cell (p := ⟨b, 0, none⟩) hbl).trans hc
  have q4 : w1.cell? ⟨g, i * 6 + 4, none⟩ = some s0 := (hb1.cell (p := ⟨g, i * 6 + 4, none⟩) hgl).trans a4
  have q5 : w1.cell? ⟨g, i * 6 + 5, none⟩ = some (.bool false) := (hb1.cell (p := ⟨g, i * 6 + 5, none⟩) hgl).trans a5
  have Q : Hid (w1.heap[g]? = some (.cells cur TR (0, 0))) := (hb1.block g hgl).trans hcur
  have hgl1 : g < w1.heap.size := Nat.lt_of_lt_of_le hgl hb1.size
  have hbl1 : b < w1.heap.size := Nat.lt_of_lt_of_le hbl hb1.size
  have HB1 : Hid (Below _ _ w1) := hb1
  have HH : Hid (Tab _ _ _ _ _ _ _) := h
  clear c1 c2 c3 c4 a4 a5 hc hcur hb1 hl hs hbig h
  go_region_with (go_at_call 54; refine (cC _ (by exact ⟨rfl, rfl, rfl, Nat.le_refl _, fun _ _ => rfl⟩)).mono ?_; rintro e w2 ⟨s, rfl, hown, hb2⟩; obtain ⟨sp, scap, rfl⟩ := slice_of_own hown; have p0 : w2.cell? ⟨b, 0, none⟩ = some (.slice (some ⟨g, 0, none⟩) rs.length cap) := (hb2.cell (p := ⟨b, 0, none⟩) hbl1).trans q0; have p4 : w2.cell? ⟨g, i * 6 + 4, none⟩ = some s0 := (hb2.cell (p := ⟨g, i * 6 + 4, none⟩) hgl1).trans q4; have p5 : w2.cell? ⟨g, i * 6 + 5, none⟩ = some (.bool false) := (hb2.cell (p := ⟨g, i * 6 + 5, none⟩) hgl1).trans q5; have Q2 : Hid (w2.heap[g]? = some (.cells cur TR (0, 0))) := (hb2.block g hgl1).trans Q.out; have f4 : w2.frozen? ⟨g, i * 6 + 4, none⟩ = false := frozen_of Q2.out _; have f5 : w2.frozen? ⟨g, i * 6 + 5, none⟩ = false := frozen_of Q2.out _; have HO : Hid (World.ownsRow _ _ _ _ _ _ _) := hown; have HB2 : Hid (Below _ _ w2) := hb2; clear hown hb2)
  all_goals go_wp2
  all_goals go_ret
  all_goals
    subst hv
    refine ⟨rfl, _, (HH.out.complete hp (HB1.out.trans ((below_drew _ w1).trans (HB2.out.mono HB1.out.size))) (ownsRow_base HO.out (Nat.le_trans HH.out.lt HB1.out.size)) rfl)⟩
end
end Go.Proofs.YtlcghlfmaohfeaaGreat
namespace Go.Proofs.YtlcghlfmaohfeaaGreat
open Go.RowKit Go.Maps
set_option linter.unusedVariables false
set_option maxRecDepth 100000

section
variable {w : World}
theorem copyMembers_any {x : Value} {l : List Mb} (hl : MemSl w x l) (hn : l.length * 32 ≤ 140737488355328) :
    Calls Tryz.prog 54 #[x] w fun e w' => ∃ s, e = .returned s ∧ w'.ownsRow w.heap.size TM 3 s l.length (memCells l) ∧ Below w.heap.size w w' := by
  obtain ⟨i0, hi, hz0, hz1, hz2⟩ := info_parts infoTM
  rcases hl with ⟨rfl, rfl⟩ | ⟨ga, oa, cap, rfl, hcap, hg, hcell⟩
  · go_enter Tryz.func54, Tryz.ntmps54
    go_wp2
    go_ret
    exact ⟨_, rfl, World.ownsRow_nil _ _ _ _, Below.refl _ _⟩
  · have hcs := MemSl.cells (x := .bool true) (cap := 0) hcell
    go_enter Tryz.func54, Tryz.ntmps54
    clear hcell
    go_wp2_with (at_builtin; go_must (refine wpList_append_own_at _ rfl (.const (.slice none 0 0)) (.tmp 3) 73 rfl w.heap.size TM i0 _ 3 32 Tryz.underlying73 hi hz0 hz1 hz2 rfl (by decide) (.slice none 0 0) 0 [] rfl (World.ownsRow_nil _ _ _ _) ⟨ga, oa, none⟩ l.length cap (memCells l) rfl (memCells_length l) hcs (mem_one l) (by unfold maxLen; omega) (by omega) (Nat.le_refl _) ?_); intro s w' hown hgrow hnil hat)
    go_ret
    refine ⟨_, rfl, by simpa using hown, ⟨hgrow.os, hgrow.tape, hgrow.output, hgrow.size, fun k hk => hgrow.block k hk (by simp [Value.ownBlock])⟩⟩

end
end Go.Proofs.YtlcghlfmaohfeaaGreat
namespace Go.Proofs.YtlcghlfmaohfeaaGreat
open Go.RowKit Go.Maps
set_option linter.unusedVariables false
set_option maxRecDepth 100000

theorem results_cell1 {fn : Func} {p : Tmp} {ty : TypeId} (h : fn.results = #[.cell p ty]) (tmps : Array Value) (P : Program) (w : World) :
    (results fn tmps).run P w = ((asAddr (tmps.getD p undef)).run P w).andThen fun a w₁ => (loadVar ty a).run P w₁ := by
  simp only [results, h]
  simp [Sem.run_bind, Result.andThen]
  try rfl
theorem ret_row1 {fn : Func} {R : Ending → World → Prop} {tmps : Array Value} {w : World} {g p : Nat} {cs : Array Value}
    (hres : fn.results = #[.cell p TR]) (hp : tmps.getD p undef = .pointer (some ⟨g, 0, none⟩)) (hg : w.heap[g]? = some (.cells cs TR (0, 0))) (hcs : cs.size = 6)
    (hR : R (.returned (.agg cs)) w) : bodyPost Tryz.prog fn R .ret ⟨tmps, []⟩ w := by
  refine bodyPost_ret ?_ rfl hR
  have hl := run_loadVar_row (P := Tryz.prog) w g TR TR cs (0, 0) _ hg Tryz.underlying87 rfl (by rw [hcs]; kernel_rfl)
  rw [results_cell1 hres]
  simp only [hp]
  simp [asAddr, Result.andThen, hl]

section
variable {w : World}
theorem copyRow_c {r : Rw} {s : Value} (hs : MemSl w s r.mem) (hn : r.mem.length * 32 ≤ 140737488355328) :
    Calls Tryz.prog 75 #[.agg (rwCells r s).toArray] w fun e w' => ∃ s', e = .returned (.agg (rwCells r s').toArray) ∧ w'.ownsRow w.heap.size TM 3 s' r.mem.length (memCells r.mem) ∧ Below w.heap.size w w' := by
  obtain ⟨kd, el, ln, tg, mm, dn⟩ := r
  simp only [rwCells] at *
  go_enter Tryz.func75, Tryz.ntmps75
  go_wp2_with fail
  have HB : Hid (Below w.heap.size w ((w.alloc (.cells #[.int .i64 kd, .int .i64 el, .int .i64 ln, .string tg, s, .bool dn] TR)).alloc (.cells #[.int .i64 0, .int .i64 0, .int .i64 0, .string ⟨#[]⟩, .slice none 0 0, .bool false] TR))) := ((Below.refl _ w).alloc (Nat.le_refl _) _).alloc (by simp) _
  have e1 : Hid (_ = _) := heap_s1 w (.cells #[.int .i64 kd, .int .i64 el, .int .i64 ln, .string tg, s, .bool dn] TR) (.cells #[.int .i64 0, .int .i64 0, .int .i64 0, .string ⟨#[]⟩, .slice none 0 0, .bool false] TR)
  have e2 : Hid (_ = _) := heap_s2 w (.cells #[.int .i64 kd, .int .i64 el, .int .i64 ln, .string tg, s, .bool dn] TR) (.cells #[.int .i64 0, .int .i64 0, .int .i64 0, .string ⟨#[]⟩, .slice none 0 0, .bool false] TR)
  have hsz : w.heap.size + 1 < ((w.alloc (.cells #[.int .i64 kd, .int .i64 el, .int .i64 ln, .string tg, s, .bool dn] TR)).alloc (.cells #[.int .i64 0, .int .i64 0, .int .i64 0, .string ⟨#[]⟩, .slice none 0 0, .bool false] TR)).heap.size := lt_of_heap e2.out
  generalize (w.alloc (.cells #[.int .i64 kd, .int .i64 el, .int .i64 ln, .string tg, s, .bool dn] TR)).alloc (.cells #[.int .i64 0, .int .i64 0, .int .i64 0, .string ⟨#[]⟩, .slice none 0 0, .bool false] TR) = W at *
  refine (copyMembers_any (hs.below HB.out) hn).mono ?_
  rintro e w1 ⟨s', rfl, hown, hb1⟩
  obtain ⟨sp, sc, rfl⟩ := slice_of_own hown
  have f1 := (hb1.block w.heap.size (by omega)).trans e1.out
  have f2 := (hb1.block (w.heap.size + 1) (by omega)).trans e2.out
  have a4 : w1.cell? ⟨w.heap.size, 4, none⟩ = some s := by rw [Lib.cell_of_heap f1]; rfl
  have fr4 : w1.frozen? ⟨w.heap.size, 4, none⟩ = false := frozen_of f1 4
  have F1 : Hid (_ = _) := f1
  have F2 : Hid (_ = _) := f2
  have HO : Hid (World.ownsRow _ _ _ _ _ _ _) := hown
  have HB1 : Hid (Below _ _ w1) := hb1
  clear f1 f2 hown hb1 e1 e2
  have G1 := heap_setCell (j := 4) F1.out (.slice sp mm.length sc)
  have G2 : Hid ((w1.setCell ⟨w.heap.size, 4, none⟩ (.slice sp mm.length sc)).heap[w.heap.size + 1]? = _) := (heap_setCell_other w1 ⟨w.heap.size, 4, none⟩ (w.heap.size + 1) (.slice sp mm.length sc) (by show w.heap.size + 1 ≠ w.heap.size; omega)).trans F2.out
  have c0 : (w1.setCell ⟨w.heap.size, 4, none⟩ (.slice sp mm.length sc)).cell? ⟨w.heap.size, 0, none⟩ = some (.int .i64 kd) := by rw [Lib.cell_of_heap G1]; rfl
  have c1 : (w1.setCell ⟨w.heap.size, 4, none⟩ (.slice sp mm.length sc)).cell? ⟨w.heap.size, 1, none⟩ = some (.int .i64 el) := by rw [Lib.cell_of_heap G1]; rfl
  have c2 : (w1.setCell ⟨w.heap.size, 4, none⟩ (.slice sp mm.length sc)).cell? ⟨w.heap.size, 2, none⟩ = some (.int .i64 ln) := by rw [Lib.cell_of_heap G1]; rfl
  have c3 : (w1.setCell ⟨w.heap.size, 4, none⟩ (.slice sp mm.length sc)).cell? ⟨w.heap.size, 3, none⟩ = some (.string tg) := by rw [Lib.cell_of_heap G1]; rfl
  have c4 : (w1.setCell ⟨w.heap.size, 4, none⟩ (.slice sp mm.length sc)).cell? ⟨w.heap.size, 4, none⟩ = some (.slice sp mm.length sc) := by rw [Lib.cell_of_heap G1]; rfl
  have c5 : (w1.setCell ⟨w.heap.size, 4, none⟩ (.slice sp mm.length sc)).cell? ⟨w.heap.size, 5, none⟩ = some (.bool dn) := by rw [Lib.cell_of_heap G1]; rfl
  have T1 : Hid (Below w.heap.size w (w1.setCell ⟨w.heap.size, 4, none⟩ (.slice sp mm.length sc))) := by
    have hb := HB.out.trans (HB1.out.mono HB.out.size)
    exact ⟨hb.os, hb.tape, hb.output, by simpa using hb.size, fun k hk => (heap_setCell_other w1 _ k _ (by show k ≠ w.heap.size; omega)).trans (hb.block k hk)⟩
  have HO2 : Hid (World.ownsRow (w1.setCell ⟨w.heap.size, 4, none⟩ (.slice sp mm.length sc)) W.heap.size TM 3 (.slice sp mm.length sc) mm.length (memCells mm)) :=
    ownsRow_turned HO.out (Turned.setCell (S := fun k => k = w.heap.size) w1 w.heap.size 4 _ rfl) (fun k hk e => by have := (ownsRow_at HO.out hk).1; omega)
  clear G1 F1 F2 HO HB1
  go_wp2_with ((with_reducible apply step_store G2.out); rfl; rfl; kernel_rfl; rfl; kernel_rfl)
  refine ret_row1 (p := 2) (g := w.heap.size + 1) rfl rfl (setRow_heap _ _ _ _ _ _ G2.out) rfl ?_
  refine ⟨_, rfl, ownsRow_base (ownsRow_turned HO2.out (Turned.setRow (S := fun k => k = w.heap.size + 1) _ _ _ rfl) (fun k hk e => by have := (ownsRow_at HO2.out hk).1; omega)) HB.out.size, ?_⟩
  exact below_setRow T1.out (by omega) _
end
end Go.Proofs.YtlcghlfmaohfeaaGreat
namespace Go.Proofs.YtlcghlfmaohfeaaGreat
open Go.RowKit Go.Maps
set_option linter.unusedVariables false
set_option maxRecDepth 100000

theorem Turned.setCells (g : Nat) : ∀ (vs : List Value) (o : Nat) (w : World) {S : Nat → Prop}, S g → Turned w (w.setCells g o vs) S
  | [], o, w, S, hS => Turned.refl w S
  | v :: r, o, w, S, hS => (Turned.setCell w g o v hS).trans (Turned.setCells g r (o + 1) _ hS) (fun _ _ x => x)
/-- A block some of whose cells are set. -/
theorem heap_setCells (g : Nat) : ∀ (vs : List Value) (o : Nat) (w : World) (cur : Array Value) (t : TypeId) (fr : Nat × Nat), w.heap[g]? = some (.cells cur t fr) → o + vs.length ≤ cur.size →
    ∃ cur', (w.setCells g o vs).heap[g]? = some (.cells cur' t fr) ∧ cur'.toList = cur.toList.take o ++ vs ++ cur.toList.drop (o + vs.length)
  | [], o, w, cur, t, fr, h, _ => ⟨cur, h, by simp⟩
  | v :: r, o, w, cur, t, fr, h, hl => by
    simp only [List.length_cons] at hl
    obtain ⟨cur', h1, h2⟩ := heap_setCells g r (o + 1) (w.setCell ⟨g, o, none⟩ v) _ t fr (heap_setCell h v) (by simp; omega)
    refine ⟨cur', h1, ?_⟩
    rw [h2]
    simp only [Array.toList_setIfInBounds, List.length_cons]
    have hlt : o < cur.toList.length := by simp; omega
    have e1 : (cur.toList.set o v).take (o + 1) = cur.toList.take o ++ [v] := by
      have hle : o ≤ cur.size := by omega
      rw [List.set_eq_take_append_cons_drop, if_pos hlt, List.take_append]
      simp [List.take_take, Nat.min_eq_left hle]
    have e2 : (cur.toList.set o v).drop (o + 1 + r.length) = cur.toList.drop (o + (r.length + 1)) := by
      rw [List.drop_set, if_pos (by omega)]
      congr 1; omega
    rw [e1, e2]; simp
theorem setCells_size (g : Nat) : ∀ (vs : List Value) (o : Nat) (w : World), (w.setCells g o vs).heap.size = w.heap.size
  | [], o, w => rfl
  | v :: r, o, w => (setCells_size g r (o + 1) _).trans (by simp)
theorem there_of {w : World} {g o n : Nat} {cur : Array Value} {t : TypeId} (h : w.heap[g]? = some (.cells cur t (0, 0))) (hn : o + n ≤ cur.size) : w.there g o n := by
  intro j hj
  refine ⟨?_, frozen_of h _⟩
  rw [Lib.cell_of_heap h, Array.getElem?_eq_getElem (by omega)]; rfl

theorem step_store_mid {P : Program} {t ty : TypeId} {p x : Operand} {pos : String} {af : Array Edge} {ops : Array Oper} {rest : List Oper} {tmps : Array Value} {w : World} {Q : Exit → Act → World → Prop} {g o n : Nat} {cells : Array Value}
    (ht : w.there g o n) (hp : Act.eval ⟨tmps, []⟩ p = .pointer (some ⟨g, o, none⟩)) (hx : Act.eval ⟨tmps, []⟩ x = .agg cells) (hn : cells.size = n) (hi : (P.info? t).map (·.size) = some cells.size)
    (h1 : cells.all (·.oneCell') = true) (k : wpList P ops Q rest ⟨tmps, []⟩ (w.setCells g o cells.toList)) : wpList P ops Q ({ dst := none, op := Op.store t p x, type := ty, pos := pos, after := af, guard := none } :: rest) ⟨tmps, []⟩ w :=
  wpList_plain rfl fun K hK => wp_store_mid t p x rfl g o cells hp hx (hn ▸ ht) hi h1 (hK _ _ k)
theorem MemSl.sl {w : World} {v : Value} {l : List Mb} (h : MemSl w v l) : ∃ p n c, v = .slice p n c := by
  rcases h with ⟨rfl, _⟩ | ⟨g, o, cap, rfl, _⟩
  · exact ⟨_, _, _, rfl⟩
  · exact ⟨_, _, _, rfl⟩
section
variable {w : World}
structure Copied (w wr : World) (rs : List (Rw × Value)) (k : Nat) : Prop where
  below : Below w.heap.size w wr
  cells : ∃ cur ds, wr.heap[w.heap.size]? = some (.cells cur TR (0, 0)) ∧ cur.size = rs.length * 6 ∧ ds.map (·.1) = (rs.take k).map (·.1) ∧ cur.toList.take (k * 6) = allCells ds ∧
    ∀ p ∈ ds, wr.ownsRow (w.heap.size + 1) TM 3 p.2 p.1.mem.length (memCells p.1.mem)

theorem Copied.next {wr w2 : World} {rs : List (Rw × Value)} {k : Nat} (h : Copied w wr rs k) {p : Rw × Value} (hp : rs[k]? = some p) (hb : Below wr.heap.size wr w2) {s : Value} (hs : w2.ownsRow wr.heap.size TM 3 s p.1.mem.length (memCells p.1.mem)) :
    Copied w (w2.setCells w.heap.size (k * 6) (rwCells p.1 s)) rs (k + 1) := by
  obtain ⟨cur, ds, h1, h2, h3, h4, h5⟩ := h.cells
  have hlt : k < rs.length := (List.getElem?_eq_some_iff.1 hp).1
  have hw := lt_of_heap h1
  have q1 := (hb.block _ hw).trans h1
  obtain ⟨cur', r1, r2⟩ := heap_setCells w.heap.size (rwCells p.1 s) (k * 6) w2 cur TR (0, 0) q1 (by simp [rwCells]; omega)
  have T : Turned w2 (w2.setCells w.heap.size (k * 6) (rwCells p.1 s)) (fun j => j = w.heap.size) := Turned.setCells _ _ _ _ rfl
  refine ⟨?_, cur', ds ++ [(p.1, s)], r1, ?_, ?_, ?_, ?_⟩
  · have hb2 := h.below.trans (hb.mono h.below.size)
    exact ⟨T.os.trans hb2.os, T.tape.trans hb2.tape, T.output.trans hb2.output, Nat.le_trans hb2.size T.size, fun j hj => (T.block j (Nat.lt_of_lt_of_le hj hb2.size) (by omega)).trans (hb2.block j hj)⟩
  · have := congrArg List.length r2
    simp [rwCells] at this
    omega
  · rw [List.take_add_one, hp]; simp [h3]
  · have hlen : (cur.toList.take (k * 6)).length = k * 6 := by simp; omega
    rw [r2, List.take_append_of_le_length (by simp [rwCells]; omega), List.take_of_length_le (by simp [rwCells]; omega), h4]
    simp [allCells]
  · intro q hq
    rw [List.mem_append, List.mem_singleton] at hq
    rcases hq with hq | rfl
    · have o1 := ownsRow_turned (h5 q hq) (Turned.of_below hb (fun _ => False)) (fun _ _ hf => hf)
      exact ownsRow_turned o1 T (fun j hj e => by have := (ownsRow_at o1 hj).1; omega)
    · exact ownsRow_turned (ownsRow_base hs (by omega)) T (fun j hj e => by have := (ownsRow_at hs hj).1; omega)

set_option maxHeartbeats 2000000 in
theorem copyRows_c {v : Value} {rs : List (Rw × Value)} (h : RowSl w v rs) (hl : rs.length ≤ 100000) (hn : ∀ p ∈ rs, p.1.mem.length * 32 ≤ 140737488355328) :
    Calls Tryz.prog 45 #[v] w fun e w' => ∃ v' rs', e = .returned v' ∧ rs'.map (·.1) = rs.map (·.1) ∧ w'.ownsRow w.heap.size TR 6 v' rs'.length (allCells rs') ∧
      (∀ p ∈ rs', w'.ownsRow w.heap.size TM 3 p.2 p.1.mem.length (memCells p.1.mem)) ∧ Below w.heap.size w w' := by
  obtain ⟨i0, hi, hz0, hz1, hz2⟩ := info_parts infoTR
  have hmk := run_make (P := Tryz.prog) w 22 TR i0 zeroRow Tryz.underlying22 hi hz0 .i64 .i64 rs.length rs.length (by omega) (by omega) (by rw [hz2]; omega) (by omega)
  rw [hz1] at hmk
  simp only [Int.toNat_natCast] at hmk
  have C0 : Copied w (w.alloc (.cells (madeCells zeroRow.cells (rs.length * 6)) TR)) rs 0 :=
    ⟨(Below.refl _ w).alloc (Nat.le_refl _) _, _, [], heap_r0 w _, size_madeCells _ _, by simp, by simp [allCells], fun p hp => by cases hp⟩
  have hfin : ∀ wr, Copied w wr rs rs.length → ∃ rs' : List (Rw × Value), rs'.map (·.1) = rs.map (·.1) ∧ wr.ownsRow w.heap.size TR 6 (.slice (some ⟨w.heap.size, 0, none⟩) rs.length rs.length) rs'.length (allCells rs') ∧
      (∀ p ∈ rs', wr.ownsRow w.heap.size TM 3 p.2 p.1.mem.length (memCells p.1.mem)) ∧ Below w.heap.size w wr := by
    intro wr hc
    obtain ⟨cur, ds, h1, h2, h3, h4, h5⟩ := hc.cells
    have e : ds.length = rs.length := by simpa using congrArg List.length h3
    refine ⟨ds, by simpa using h3, ⟨allCells_length ds, Or.inr ⟨w.heap.size, rs.length, cur, by rw [e], Nat.le_refl _, h1, by omega, by unfold maxLen; omega, h2, by rw [e]; exact h4⟩⟩, fun p hp => ownsRow_base (h5 p hp) (by omega), hc.below⟩
  have HC0 : Hid (Copied _ _ _ _) := C0
  have HF : Hid _ := hfin
  clear C0 hfin
  generalize w.alloc (.cells (madeCells zeroRow.cells (rs.length * 6)) TR) = W at *
  obtain ⟨k1, m1⟩ := h
  rcases k1 with ⟨rfl, rfl⟩ | ⟨g1, o1, cap1, rfl, hc1, hg1, q1⟩
  · have hmk0 : (Instr.makeSlice 22 (.int .i64 0) (.int .i64 0)).run Tryz.prog w = .ok (.slice (some ⟨w.heap.size, 0, none⟩) 0 0) W := by simpa using hmk
    clear hmk
    go_enter Tryz.func45, Tryz.ntmps45
    go_wp2
    refine wp_loop_rounds 1 ?_
    rw [rounds_succ]
    go_wp2
    go_ret
    obtain ⟨rs', x1, x2, x3, x4⟩ := HF.out _ HC0.out
    exact ⟨_, rs', rfl, x1, x2, x3, x4⟩
  · go_enter Tryz.func45, Tryz.ntmps45
    go_wp2
    go_loopw [11] (fun i wr => ∃ k : Nat, i = .int .i64 k ∧ k ≤ rs.length ∧ Hid (Copied w wr rs k)) (fun i _ => rs.length - (intOf i).toNat)
    case atStart => exact ⟨0, rfl, Nat.zero_le _, HC0⟩
    case round =>
      obtain ⟨k, rfl, hk, HC⟩ := hrel
      by_cases hlt : k < rs.length
      · obtain ⟨p, hp⟩ : ∃ p, rs[k]? = some p := ⟨_, List.getElem?_eq_getElem hlt⟩
        have hb := HC.out.below
        have x1 := fun j hj => (hb.cell (p := ⟨g1, o1 + k * 6 + j, none⟩) hg1).trans (q1 k p hp j hj)
        have c0 := x1 0 (by omega)
        have c1 := x1 1 (by omega)
        have c2 := x1 2 (by omega)
        have c3 := x1 3 (by omega)
        have c4 := x1 4 (by omega)
        have c5 := x1 5 (by omega)
        simp only [rwCells, Nat.add_zero, List.getElem?_cons_zero, List.getElem?_cons_succ] at c0 c1 c2 c3 c4 c5
        have hmp := (m1 p (List.mem_of_getElem? hp)).below hb
        have hnp := hn p (List.mem_of_getElem? hp)
        have HN : Hid (∀ w2, Below wr.heap.size wr w2 → ∀ s, w2.ownsRow wr.heap.size TM 3 s p.1.mem.length (memCells p.1.mem) → Copied w (w2.setCells w.heap.size (k * 6) (rwCells p.1 s)) rs (k + 1)) := fun w2 hb2 s hs => HC.out.next hp hb2 hs
        obtain ⟨cur, ds, hcur, hcs, _⟩ := HC.out.cells
        have hgl := lt_of_heap hcur
        have HCUR : Hid (_ = _) := hcur
        clear hcur x1 q1 m1 hn hp hb
        obtain ⟨⟨kd, el, ln, tg, mm, dn⟩, s0⟩ := p
        obtain ⟨sp0, sn0, sc0, rfl⟩ := hmp.sl
        simp only at *
        have hold := heap_r0 wr (.cells #[.int .i64 0, .int .i64 0, .int .i64 0, .string ⟨#[]⟩, .slice none 0 0, .bool false] TR)
        go_wp2_with (first | ((with_reducible apply step_store hold); rfl; rfl; kernel_rfl; rfl; kernel_rfl; rw [World.setRow_alloc_new]) | fail)
        have e1 := heap_r0 wr (.cells #[.int .i64 kd, .int .i64 el, .int .i64 ln, .string tg, .slice sp0 sn0 sc0, .bool dn] TR)
        have HB1 : Hid (Below wr.heap.size wr (wr.alloc (.cells #[.int .i64 kd, .int .i64 el, .int .i64 ln, .string tg, .slice sp0 sn0 sc0, .bool dn] TR))) := (Below.refl _ wr).alloc (Nat.le_refl _) _
        have cR := copyRow_c (w := wr.alloc (.cells #[.int .i64 kd, .int .i64 el, .int .i64 ln, .string tg, .slice sp0 sn0 sc0, .bool dn] TR)) (r := ⟨kd, el, ln, tg, mm, dn⟩) (hmp.below HB1.out) hnp
        simp only [rwCells] at cR HN
        refine cR.mono ?_
        rintro e w2 ⟨s', rfl, hown, hb2⟩
        obtain ⟨sp, sc, rfl⟩ := slice_of_own hown
        have HB2 : Hid (Below wr.heap.size wr w2) := HB1.out.trans (hb2.mono HB1.out.size)
        have HO : Hid (World.ownsRow _ _ _ _ _ _ _) := ownsRow_base hown HB1.out.size
        have hth : w2.there w.heap.size (k * 6) 6 := there_of ((HB2.out.block _ hgl).trans HCUR.out) (by omega)
        clear hown hb2 cR e1 hold HCUR
        go_wp2_with ((with_reducible apply step_store_mid hth); rfl; rfl; rfl; kernel_rfl; kernel_rfl)
        refine ⟨⟨k + 1, by go_num, by omega, ?_⟩, by simp [intOf]; omega⟩
        exact HN.out _ HB2.out _ HO.out
      · go_wp2
        go_ret
        obtain rfl : k = rs.length := by omega
        obtain ⟨rs', x1, x2, x3, x4⟩ := HF.out _ HC.out
        exact ⟨_, rs', rfl, x1, x2, x3, x4⟩
end
end Go.Proofs.YtlcghlfmaohfeaaGreat
