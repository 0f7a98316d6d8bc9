/-
  Complete: a struct or a union gets its members.
-/
import Derived.Test.YtpnpilbmhkiphaaGreatDoorRefus
import Derived.Deep.DeepMust
import Derived.Deep.RegionWith
namespace Go.Proofs.YtpnpilbmhkiphaaGreatDoor
open Go.RowKit Go.Maps
set_option linter.unusedVariables false
set_option maxRecDepth 100000

theorem below_drew (B : Nat) (w : World) : Below B w w.drew := ⟨rfl, rfl, rfl, Nat.le_refl _, fun _ _ => rfl⟩
theorem infoTM : (Tryz.prog.info? TM).map (fun i => (i.zero, i.size, i.bytes)) = some (some (.agg #[.string ⟨#[]⟩, .int .i64 0, .int .i64 0]), 3, 32) := by kernel_rfl

section
variable {B : Nat} {w : World} {b mb : Nat} {v : Value} {rs : List (Rw × Value)} {ps : List (Value × Value)}

theorem MemSl.cells {x : Value} {l : List Mb} {g o cap : Nat} (hcell : ∀ i m, l[i]? = some m → ∀ j, j < 3 → w.cell? ⟨g, o + i * 3 + j, none⟩ = (mbCells m)[j]?) :
    ∀ j u, (memCells l)[j]? = some u → w.cell? ((⟨g, o, none⟩ : Addr).add j) = some u := by
  intro j u hj
  have e : ((⟨g, o, none⟩ : Addr).add j) = ⟨g, o + j, none⟩ := by
    simp [Addr.add]
  rw [e]
  have hlen : j < l.length * 3 := by rw [← memCells_length]; exact (List.getElem?_eq_some_iff.1 hj).1
  have hi : j / 3 < l.length := by omega
  have h3 : j % 3 < 3 := by omega
  have hd : j / 3 * 3 + j % 3 = j := by omega
  have q := memCells_at l (j / 3) l[j / 3] (List.getElem?_eq_getElem hi) (j % 3) h3
  rw [hd, hj] at q
  rw [q, ← hcell (j / 3) l[j / 3] (List.getElem?_eq_getElem hi) (j % 3) h3]
  congr 2; omega
theorem mem_one (l : List Mb) : ∀ u ∈ memCells l, u.oneCell' = true := by
  intro u hu
  simp only [memCells, List.mem_flatMap] at hu
  obtain ⟨m, _, hm⟩ := hu
  simp [mbCells] at hm
  rcases hm with rfl | rfl | rfl <;> rfl

/-- copyMembers: a slice of its own. -/
theorem copyMembers_c {x : Value} {l : List Mb} (hl : MemSl w x l) (hn1 : 1 ≤ l.length) (hn : l.length ≤ 64) :
    Calls Tryz.prog 122 #[x] w fun e w' => ∃ s, e = .returned s ∧ w'.ownsRow w.heap.size TM 3 s l.length (memCells l) ∧ Below w.heap.size w w' := by
  obtain ⟨i0, hi, hz0, hz1, hz2⟩ := info_parts infoTM
  rcases hl with ⟨rfl, rfl⟩ | ⟨ga, oa, cap, rfl, hcap, hg, hcell⟩
  · simp at hn1
  · have hcs := MemSl.cells (x := .bool true) (cap := 0) hcell
    go_enter Tryz.func122, Tryz.ntmps122
    clear hcell
    go_wp2_with (at_builtin; go_must (refine wpList_append_own_at _ rfl (.const (.slice none 0 0)) (.tmp 3) 65 rfl w.heap.size TM i0 _ 3 32 Tryz.underlying65 hi hz0 hz1 hz2 rfl (by decide) (.slice none 0 0) 0 [] rfl (World.ownsRow_nil _ _ _ _) ⟨ga, oa, none⟩ l.length cap (memCells l) rfl (memCells_length l) hcs (mem_one l) (by unfold maxLen; omega) (by omega) (Nat.le_refl _) ?_); intro s w' hown hgrow hnil hat)
    go_ret
    refine ⟨_, rfl, by simpa using hown, ⟨hgrow.os, hgrow.tape, hgrow.output, hgrow.size, fun k hk => hgrow.block k hk (by simp [Value.ownBlock])⟩⟩

theorem allCells_set (rs : List (Rw × Value)) (i : Nat) (r : Rw) (s0 s : Value) (l : List Mb) (h : rs[i]? = some (r, s0)) :
    allCells (rs.set i ({ r with mem := l, done := true }, s)) = ((allCells rs).set (i * 6 + 4) s).set (i * 6 + 5) (.bool true) := by
  induction rs generalizing i with
  | nil => simp at h
  | cons q t ih =>
    cases i with
    | zero =>
      simp at h; subst h
      simp [allCells, rwCells]
    | succ i =>
      simp at h
      have e := ih i h
      have e4 : (i + 1) * 6 + 4 = (rwCells q.1 q.2).length + (i * 6 + 4) := by simp [rwCells]; omega
      have e5 : (i + 1) * 6 + 5 = (rwCells q.1 q.2).length + (i * 6 + 5) := by simp [rwCells]; omega
      simp only [allCells, List.set_cons_succ, List.flatMap_cons] at e ⊢
      rw [e, e4, e5, List.set_append_right _ _ (by omega), List.set_append_right _ _ (by omega)]
      simp

/-- A struct or a union gets its members. -/
theorem Tab.complete (h : Tab B w b mb v rs ps) {i : Nat} {r : Rw} {s0 s : Value} {l : List Mb} (hp : rs[i]? = some (r, s0)) {w1 : World} (hb : Below w.heap.size w w1) (hs : w1.ownsRow B TM 3 s l.length (memCells l)) {g cap : Nat} (hv : v = .slice (some ⟨g, 0, none⟩) rs.length cap) :
    Tab B ((w1.setCell ⟨g, i * 6 + 4, none⟩ s).setCell ⟨g, i * 6 + 5, none⟩ (.bool true)) b mb v (rs.set i ({ r with mem := l, done := true }, s)) ps ∧
      Turned w ((w1.setCell ⟨g, i * 6 + 4, none⟩ s).setCell ⟨g, i * 6 + 5, none⟩ (.bool true)) (own b mb v) := by
  have h1 := h.keptB hb
  have hlt : i < rs.length := (List.getElem?_eq_some_iff.1 hp).1
  have hgv : v.ownBlock = some g := by rw [hv]; rfl
  have T1 : Turned w1 ((w1.setCell ⟨g, i * 6 + 4, none⟩ s).setCell ⟨g, i * 6 + 5, none⟩ (.bool true)) (fun k => k = g) :=
    (Turned.setCell (S := fun k => k = g) w1 g _ s rfl).trans (Turned.setCell (S := fun k => k = g) _ g _ _ rfl) (fun _ _ x => x)
  obtain ⟨hlen, ⟨rfl, _⟩ | ⟨g', cap', cur, e1, hB, hg, hc1, hc2, hc3, hc4⟩⟩ := h1.rows
  · cases hv
  rw [hv] at e1
  injection e1 with e1 _ e2
  injection e1 with e1
  injection e1 with e1
  subst e1 e2
  refine ⟨⟨h.bB, h.mB, ?_, ⟨?_, Or.inr ⟨g, cap, _, ?_, hB, heap_setCell (heap_setCell hg _) _, ?_, hc2, ?_, ?_⟩⟩, ?_, ?_, h.wf, by simpa using h.len⟩, (Turned.of_below hb _).trans (T1.mono (fun k hk => Or.inr (Or.inr (by rw [hk]; exact hgv)))) (fun _ _ x => x)⟩
  · rw [T1.block b (lt_of_heap h1.tab) (fun e => (h1.v_b hgv).1 e.symm)]; exact h1.tab
  · rw [allCells_length]
  · simpa using hv
  · simpa using hc1
  · simpa using hc3
  · rw [allCells_set rs i r s0 s l hp, ← hc4]
    simp only [Array.toList_setIfInBounds, List.length_set]
    rw [List.take_set, List.take_set]
  · intro p hpm
    rcases List.mem_or_eq_of_mem_set hpm with hpm | rfl
    · exact ownsRow_turned (h1.mems p hpm) T1 (fun k hk e => h1.m_own hpm hk (Or.inr (Or.inr (by rw [e]; exact hgv))))
    · refine ownsRow_turned hs T1 (fun k hk e => ?_)
      obtain ⟨_, c0, hc0⟩ := ownsRow_at hs hk
      rw [e, hg] at hc0; injection hc0 with x1; injection x1 with _ x2; exact absurd x2 (by decide)
  · obtain ⟨es, ck, hm, rr⟩ := h1.map
    exact ⟨es, ck, by rw [T1.block mb (lt_of_heap hm) (fun e => (h1.v_b hgv).2 e.symm)]; exact hm, rr⟩

end
end Go.Proofs.YtpnpilbmhkiphaaGreatDoor
