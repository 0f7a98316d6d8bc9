/-
  The given answer's Complete.
-/
import Derived.Test.YtdfkkflpcamhjaaGreatDoorRefAdd
import Derived.Test.YtdfkkflpcamhjaaGreatDoorRefMemb
import Derived.Test.YtdfkkflpcamhjaaGreatDoorComplete
namespace Go.Proofs.YtdfkkflpcamhjaaGreatDoor
open Go.RowKit Go.Maps
set_option linter.unusedVariables false
set_option maxRecDepth 100000

section
variable {B : Nat} {w : World} {b : Nat} {v : Value} {rs : List (Rw × Value)}
theorem rMembers_in (h : RT w b v rs) {x : Value} {l : List Mb} (hl : MemIn w x l) (hs : ∀ m ∈ l, m.name.size ≤ 9223372036854775807) (hbig : l.length ≤ 9223372036854775807) :
    Calls Tryz.prog 61 #[.pointer (some ⟨b, 0, none⟩), x] w fun e w' => e = .returned (.int .i64 (rRefusP rs l)) ∧ Below w.heap.size w w' := by
  rcases hl with hl | ⟨a, c, rfl, rfl⟩
  · exact rMembers_c h hl hs hbig
  · have hr : rRefusP rs [] = 2 := rfl
    rw [hr]
    go_enter Tryz.func61, Tryz.ntmps61
    go_wp2
    go_ret
    exact ⟨rfl, Below.refl _ _⟩

theorem RTab.complete (h : RTab B w b v rs) {i : Nat} {r : Rw} {s0 s : Value} {l : List Mb} (hp : rs[i]? = some (r, s0)) {w1 : World} (hb : Below w.heap.size w w1) (hs : w1.ownsRow B TM 3 s l.length (memCells l)) {g cap : Nat} (hv : v = .slice (some ⟨g, 0, none⟩) rs.length cap) :
    RTab B ((w1.setCell ⟨g, i * 6 + 4, none⟩ s).setCell ⟨g, i * 6 + 5, none⟩ (.bool true)) b v (rs.set i ({ r with mem := l, done := true }, s)) ∧
      Turned w ((w1.setCell ⟨g, i * 6 + 4, none⟩ s).setCell ⟨g, i * 6 + 5, none⟩ (.bool true)) (RTab.rown b v) := by
  have h1 := h.keptB hb
  have hlt : i < rs.length := (List.getElem?_eq_some_iff.1 hp).1
  have hgv : v.ownBlock = some g := by rw [hv]; rfl
  have T1 : Turned w1 ((w1.setCell ⟨g, i * 6 + 4, none⟩ s).setCell ⟨g, i * 6 + 5, none⟩ (.bool true)) (fun k => k = g) :=
    (Turned.setCell (S := fun k => k = g) w1 g _ s rfl).trans (Turned.setCell (S := fun k => k = g) _ g _ _ rfl) (fun _ _ x => x)
  obtain ⟨hlen, ⟨rfl, _⟩ | ⟨g', cap', cur, e1, hB, hg, hc1, hc2, hc3, hc4⟩⟩ := h1.rows
  · cases hv
  rw [hv] at e1
  injection e1 with e1 _ e2
  injection e1 with e1
  injection e1 with e1
  subst e1 e2
  refine ⟨⟨h.bB, ?_, ⟨?_, Or.inr ⟨g, cap, _, ?_, hB, heap_setCell (heap_setCell hg _) _, ?_, hc2, ?_, ?_⟩⟩, ?_⟩, (Turned.of_below hb _).trans (T1.mono (fun k hk => Or.inr (by rw [hk]; exact hgv))) (fun _ _ x => x)⟩
  · rw [T1.block b (lt_of_heap h1.tab) (fun e => h1.v_b hgv e.symm)]; exact h1.tab
  · rw [allCells_length]
  · simpa using hv
  · simpa using hc1
  · simpa using hc3
  · rw [allCells_set rs i r s0 s l hp, ← hc4]
    simp only [Array.toList_setIfInBounds, List.length_set]
    rw [List.take_set, List.take_set]
  · intro p hpm
    rcases List.mem_or_eq_of_mem_set hpm with hpm | rfl
    · exact ownsRow_turned (h1.mems p hpm) T1 (fun k hk e => h1.m_own (h1.mems p hpm) hk (Or.inr (by rw [e]; exact hgv)))
    · refine ownsRow_turned hs T1 (fun k hk e => ?_)
      obtain ⟨_, c0, hc0⟩ := ownsRow_at hs hk
      rw [e, hg] at hc0; injection hc0 with x1; injection x1 with _ x2; exact absurd x2 (by decide)

theorem rComplete_type (h : RT w b v rs) (id : Int) (x : Value) (hk : recK (kindP rs id) = false) :
    Calls Tryz.prog 27 #[.pointer (some ⟨b, 0, none⟩), .int .i64 id, x] w fun e w' => e = .returned (.int .i64 30) ∧ w' = w := by
  have c := rRecord_c h id
  rw [hk] at c
  have h1 := not_t
  have h2 := not_f
  go_enter Tryz.func27, Tryz.ntmps27
  go_wp2_with (go_at_call 60; refine c.mono ?_; rintro e w' ⟨rfl, rfl⟩)
  go_ret
  exact ⟨rfl, rfl⟩

theorem rComplete_done (h : RT w b v rs) (x : Value) {i : Nat} {r : Rw} {s0 : Value} (hp : rs[i]? = some (r, s0)) (hk : recK r.kind = true) (hd : r.done = true) :
    Calls Tryz.prog 27 #[.pointer (some ⟨b, 0, none⟩), .int .i64 i, x] w fun e w' => e = .returned (.int .i64 33) ∧ w' = w := by
  have c := rRecord_c h i
  rw [kindP_some hp, hk] at c
  have h1 := not_t
  have hc := h.cell
  have hlt : i < rs.length := (List.getElem?_eq_some_iff.1 hp).1
  have hl := h.len
  obtain ⟨g, o, cap, hv, hcap, hcell⟩ := h.at hp
  rw [hv] at hc
  have a5 := hcell 5 (by omega)
  simp only [rwCells, List.getElem?_cons_succ, List.getElem?_cons_zero, hd] at a5
  clear hcell hp h
  go_enter Tryz.func27, Tryz.ntmps27
  go_wp2_with (go_at_call 60; refine c.mono ?_; rintro e w' ⟨rfl, rfl⟩)
  go_ret
  exact ⟨rfl, rfl⟩

set_option maxHeartbeats 1000000 in
theorem rComplete_err (h : RT w b v rs) {x : Value} {l : List Mb} (hl : MemIn w x l) (hs : ∀ m ∈ l, m.name.size ≤ 9223372036854775807) (hbig : l.length ≤ 9223372036854775807) {i : Nat} {r : Rw} {s0 : Value} (hp : rs[i]? = some (r, s0)) (hk : recK r.kind = true) (hd : r.done = false) (he : rRefusP rs l ≠ 0) :
    Calls Tryz.prog 27 #[.pointer (some ⟨b, 0, none⟩), .int .i64 i, x] w fun e w' => e = .returned (.int .i64 (rRefusP rs l)) ∧ Below w.heap.size w w' := by
  have c := rRecord_c h i
  rw [kindP_some hp, hk] at c
  have c4 := rMembers_in h hl hs hbig
  have h1 := not_t
  have hc := h.cell
  have hlt : i < rs.length := (List.getElem?_eq_some_iff.1 hp).1
  have hln := h.len
  obtain ⟨g, o, cap, hv, hcap, hcell⟩ := h.at hp
  rw [hv] at hc
  have a5 := hcell 5 (by omega)
  simp only [rwCells, List.getElem?_cons_succ, List.getElem?_cons_zero, hd] at a5
  clear hcell hp h
  generalize rRefusP rs l = z at *
  have hz : (z != 0) = true := by simpa using he
  go_enter Tryz.func27, Tryz.ntmps27
  go_wp2_with (first | (go_at_call 60; refine c.mono ?_; rintro e w' ⟨rfl, rfl⟩) | (go_at_call 61; refine c4.mono ?_; rintro e w1 ⟨rfl, hb1⟩))
  go_ret
  exact ⟨rfl, hb1⟩

set_option maxHeartbeats 2000000 in
theorem rComplete_c (h : RTab B w b v rs) (hlen : rs.length ≤ 512) {x : Value} {l : List Mb} (hl : MemIn w x l) (hs : ∀ m ∈ l, m.name.size ≤ 9223372036854775807) (hbig : l.length ≤ 9223372036854775807) {i : Nat} {r : Rw} {s0 : Value} (hp : rs[i]? = some (r, s0)) (hk : recK r.kind = true) (hd : r.done = false) (he : rRefusP rs l = 0) :
    Calls Tryz.prog 27 #[.pointer (some ⟨b, 0, none⟩), .int .i64 i, x] w fun e w' => e = .returned (.int .i64 0) ∧
      ∃ s, (∀ k, s.ownBlock = some k → w.heap.size ≤ k) ∧ RTab B w' b v (rs.set i ({ r with mem := l, done := true }, s)) ∧ Turned w w' (RTab.rown b v) := by
  have hn1 : 1 ≤ l.length := by
    rcases Nat.lt_or_ge l.length 1 with hh | hh
    · rw [rRefusP, if_pos (Or.inl hh)] at he; cases he
    · exact hh
  have hn2 : l.length ≤ 64 := by
    rcases Nat.lt_or_ge 64 l.length with hh | hh
    · rw [rRefusP, if_pos (Or.inr hh)] at he; cases he
    · exact hh
  have hT : RT w b v rs := ⟨h.c0, h.rowSl, hlen⟩
  have c := rRecord_c hT i
  rw [kindP_some hp, hk] at c
  have c4 := rMembers_in hT hl hs hbig
  rw [he] at c4
  have h1 := not_t
  have hc := h.c0
  have hlt : i < rs.length := (List.getElem?_eq_some_iff.1 hp).1
  obtain ⟨hx1, ⟨_, h0⟩ | ⟨g, cap, cur, hv, hgB, hg, hcap, _⟩⟩ := h.rows
  · omega
  have hcell := fun (j : Nat) (hj : j < 6) => (h.rows.cells (g := g) (by rw [hv]; rfl) (i * 6 + j))
  have a4 : w.cell? ⟨g, i * 6 + 4, none⟩ = some s0 := by
    have := hcell 4 (by omega) s0 (by rw [allCells_at rs i _ hp 4 (by omega)]; rfl)
    rw [show ((⟨g, 0, none⟩ : Addr).add (i * 6 + 4)) = ⟨g, i * 6 + 4, none⟩ by simp [Addr.add]] at this
    exact this
  have a5 : w.cell? ⟨g, i * 6 + 5, none⟩ = some (.bool false) := by
    have := hcell 5 (by omega) (.bool false) (by rw [allCells_at rs i _ hp 5 (by omega)]; simp [rwCells, hd])
    rw [show ((⟨g, 0, none⟩ : Addr).add (i * 6 + 5)) = ⟨g, i * 6 + 5, none⟩ by simp [Addr.add]] at this
    exact this
  have hgl := lt_of_heap hg
  have hbl := lt_of_heap h.tab
  rw [hv] at hc
  have HH : Hid (RTab _ _ _ _ _) := h
  have HG : Hid (w.heap[g]? = some (.cells cur TR (0, 0))) := hg
  have HP : Hid (rs[i]? = some (r, s0)) := hp
  obtain ⟨i0, hi, hz0, hz1, hz2⟩ := info_parts infoTM
  rcases hl.read with ⟨_, rfl⟩ | ⟨ad, lc, rfl, hread⟩
  · simp at hn1
  clear hcell h hT hp hg hl
  go_enter Tryz.func27, Tryz.ntmps27
  go_wp2_with fail
  refine c.mono ?_
  rintro e w' ⟨rfl, hw⟩
  rw [hw]
  clear hw w' c
  go_wp2_with fail
  refine c4.mono ?_
  rintro e w1 ⟨rfl, hb1⟩
  have HB1 : Hid (Below w.heap.size w w1) := hb1
  have q0 := (hb1.cell (p := ⟨b, 0, none⟩) hbl).trans hc
  have hcs := hread w1 hb1
  have HC0 : Hid (w.cell? ⟨b, 0, none⟩ = some (.slice (some ⟨g, 0, none⟩) rs.length cap)) := hc
  have HC4 : Hid (w.cell? ⟨g, i * 6 + 4, none⟩ = some s0) := a4
  have HC5 : Hid (w.cell? ⟨g, i * 6 + 5, none⟩ = some (.bool false)) := a5
  have HBG : Hid (b ≠ g) := fun e => HH.out.v_b (by rw [hv]; rfl) e.symm
  clear c4 hb1 hc a4 a5
  go_wp2_with (at_builtin; go_must (refine wpList_append_own_at _ rfl (.tmp 27) (.tmp 28) 31 rfl w1.heap.size TM i0 _ 3 32 Tryz.underlying31 hi hz0 hz1 hz2 rfl (by decide) (.slice none 0 0) 0 [] rfl (World.ownsRow_nil _ _ _ _) ad l.length lc (memCells l) rfl (memCells_length l) hcs (mem_one l) (by unfold maxLen; omega) (by omega) (Nat.le_refl _) ?_); intro s w2 hown hgrow hnil hat; rw [Nat.zero_add, List.nil_append] at hown; obtain ⟨sp, sc, rfl⟩ := slice_of_own hown; have HB2 : Hid (Below w.heap.size w w2) := HB1.out.trans (⟨hgrow.os, hgrow.tape, hgrow.output, hgrow.size, fun k hk => hgrow.block k (Nat.lt_of_lt_of_le hk HB1.out.size) (by simp [Value.ownBlock])⟩ : Below w.heap.size w1 w2); have HO2 : Hid (World.ownsRow _ _ _ _ _ _ _) := hown; have gg := (HB2.out.block g hgl).trans HG.out; have q1 := (HB2.out.cell (p := ⟨b, 0, none⟩) hbl).trans HC0.out; have q4 := (HB2.out.cell (p := ⟨g, i * 6 + 4, none⟩) hgl).trans HC4.out; have q5 := (HB2.out.cell (p := ⟨g, i * 6 + 5, none⟩) hgl).trans HC5.out; have f4 : w2.frozen? ⟨g, i * 6 + 4, none⟩ = false := frozen_of gg _; have g2 := heap_setCell (j := i * 6 + 4) gg (.slice sp l.length sc); have q1' : (w2.setCell ⟨g, i * 6 + 4, none⟩ (.slice sp l.length sc)).cell? ⟨b, 0, none⟩ = some (.slice (some ⟨g, 0, none⟩) rs.length cap) := (World.cell?_of_block (a := ⟨b, 0, none⟩) (heap_setCell_other w2 ⟨g, i * 6 + 4, none⟩ b (.slice sp l.length sc) HBG.out)).trans q1; have q5' : (w2.setCell ⟨g, i * 6 + 4, none⟩ (.slice sp l.length sc)).cell? ⟨g, i * 6 + 5, none⟩ = some (.bool false) := (by rw [Lib.cell_of_heap g2, Array.getElem?_setIfInBounds_ne (by omega), ← Lib.cell_of_heap gg]; exact q5); have f5' : (w2.setCell ⟨g, i * 6 + 4, none⟩ (.slice sp l.length sc)).frozen? ⟨g, i * 6 + 5, none⟩ = false := frozen_of g2 _; clear hown hgrow hnil hat gg g2 hcs)
  go_ret
  refine ⟨rfl, _, fun k hk => Nat.le_trans HB1.out.size (ownsRow_at HO2.out hk).1, HH.out.complete HP.out HB2.out (ownsRow_base HO2.out (Nat.le_trans HH.out.lt HB1.out.size)) hv⟩
end
end Go.Proofs.YtdfkkflpcamhjaaGreatDoor
