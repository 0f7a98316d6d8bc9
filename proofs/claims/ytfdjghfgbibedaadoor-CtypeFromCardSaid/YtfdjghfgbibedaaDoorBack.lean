/-
  circular's closure: the search in depth for a type that has itself within it.
-/
import Derived.Test.YtfdjghfgbibedaaDoorParts
namespace Go.Proofs.YtfdjghfgbibedaaDoor
open Go.RowKit Go.Maps
set_option linter.unusedVariables false
set_option maxRecDepth 100000

abbrev FB : FuncId := 71
def stCells (n : Nat) (σ : Nat → Nat) : Array Value := ((List.range n).map fun i => Value.int .i64 (σ i)).toArray
def unseen (n : Nat) (σ : Nat → Nat) : Nat := (List.range n).countP fun i => σ i == 0

theorem unseen_le {σ σ' : Nat → Nat} (h : ∀ i, σ' i = 0 → σ i = 0) (n : Nat) : unseen n σ' ≤ unseen n σ := by
  unfold unseen
  exact List.countP_mono_left (fun i _ hi => by simp at hi ⊢; exact h i hi)
theorem unseen_lt {σ σ' : Nat → Nat} (h : ∀ i, σ' i = 0 → σ i = 0) {n k : Nat} (hk : k < n) (h0 : σ k = 0) (h1 : σ' k ≠ 0) : unseen n σ' < unseen n σ := by
  induction n with
  | zero => omega
  | succ n ih =>
    have e := fun τ : Nat → Nat => show unseen (n + 1) τ = unseen n τ + (if τ n = 0 then 1 else 0) by
      unfold unseen; rw [List.range_succ, List.countP_append]; simp [List.countP_cons]
    rw [e, e]
    by_cases hkn : k = n
    · subst hkn
      have := unseen_le h k
      simp [h0, h1]; omega
    · have := ih (by omega)
      have h2 := h n
      split
      · rw [if_pos (h2 (by assumption))]; omega
      · split <;> omega

theorem stCells_at {n i : Nat} (σ : Nat → Nat) (h : i < n) : (stCells n σ)[i]? = some (.int .i64 (σ i)) := by
  simp [stCells, h]
theorem stCells_set {n i : Nat} (σ : Nat → Nat) (x : Nat) (h : i < n) : (stCells n σ).setIfInBounds i (.int .i64 (x : Int)) = stCells n (upd σ i x) := by
  apply Array.ext'
  simp only [stCells, Array.toList_setIfInBounds]
  apply List.ext_getElem?
  intro j
  by_cases hj : j < n
  · by_cases hij : i = j
    · subst hij; simp [upd, h]
    · have hji : ¬ j = i := fun e => hij e.symm
      simp [upd, hj, hij, hji]
  · simp [hj]

section
variable {B : Nat} {b mb : Nat} {v : Value} {rs : List (Rw × Value)} {ps : List (Value × Value)} {gs gt gb ga : Nat}
structure Dfs (B b mb : Nat) (v : Value) (rs : List (Rw × Value)) (ps : List (Value × Value)) (gs gt gb ga : Nat) (w : World) (σ : Nat → Nat) : Prop where
  hs : w.heap[gs]? = some (.cells #[.slice (some ⟨ga, 0, none⟩) rs.length rs.length] 98 (0, 0))
  ht : w.heap[gt]? = some (.cells #[.pointer (some ⟨b, 0, none⟩)] 24 (0, 0))
  hb : w.heap[gb]? = some (.cells #[.func (.func FB) #[] #[.pointer (some ⟨gs, 0, none⟩), .pointer (some ⟨gt, 0, none⟩), .pointer (some ⟨gb, 0, none⟩)]] 78 (0, 0))
  ha : w.heap[ga]? = some (.cells (stCells rs.length σ) 3 (0, 0))
  tab : Tab B w b mb v rs ps
  le : ∀ i, σ i ≤ 2

theorem Dfs.kept {w w' : World} {σ : Nat → Nat} (h : Dfs B b mb v rs ps gs gt gb ga w σ) (hb : Below w.heap.size w w') : Dfs B b mb v rs ps gs gt gb ga w' σ :=
  ⟨(hb.block _ (lt_of_heap h.hs)).trans h.hs, (hb.block _ (lt_of_heap h.ht)).trans h.ht, (hb.block _ (lt_of_heap h.hb)).trans h.hb, (hb.block _ (lt_of_heap h.ha)).trans h.ha, h.tab.keptB hb, h.le⟩
theorem ne_of_heap {w : World} {a b : Nat} {x y : Obj} (h1 : w.heap[a]? = some x) (h2 : w.heap[b]? = some y) (h : x ≠ y) : a ≠ b := by
  rintro rfl; rw [h1] at h2; exact h (Option.some.inj h2)
theorem Dfs.set {w : World} {σ : Nat → Nat} (h : Dfs B b mb v rs ps gs gt gb ga w σ) {i : Nat} (hi : i < rs.length) (x : Nat) (hx : x ≤ 2) :
    Dfs B b mb v rs ps gs gt gb ga (w.setCell ⟨ga, i, none⟩ (.int .i64 (x : Int))) (upd σ i x) ∧ Turned w (w.setCell ⟨ga, i, none⟩ (.int .i64 (x : Int))) (fun k => k = ga) := by
  have T : Turned w (w.setCell ⟨ga, i, none⟩ (.int .i64 (x : Int))) (fun k => k = ga) := Turned.setCell (S := fun k => k = ga) w ga i _ rfl
  refine ⟨⟨?_, ?_, ?_, ?_, ?_, ?_⟩, T⟩
  · exact (T.block gs (lt_of_heap h.hs) (ne_of_heap h.hs h.ha (fun e => by injection e with _ e; exact absurd e (by decide)))).trans h.hs
  · exact (T.block gt (lt_of_heap h.ht) (ne_of_heap h.ht h.ha (fun e => by injection e with _ e; exact absurd e (by decide)))).trans h.ht
  · exact (T.block gb (lt_of_heap h.hb) (ne_of_heap h.hb h.ha (fun e => by injection e with _ e; exact absurd e (by decide)))).trans h.hb
  · rw [heap_setCell h.ha, stCells_set σ x hi]
  · refine h.tab.kept T ?_ ?_
    · rintro k (rfl | rfl | hk) rfl
      · have := h.tab.tab; rw [h.ha] at this; injection this with e; injection e with _ e; exact absurd e (by decide)
      · obtain ⟨es, ck, hm, _⟩ := h.tab.map; rw [h.ha] at hm; cases hm
      · obtain ⟨_, cur, hc⟩ := ownsRow_at h.tab.rows hk
        rw [h.ha] at hc; injection hc with e; injection e with _ e; exact absurd e (by decide)
    · rintro p hp k hk rfl
      obtain ⟨_, cur, hc⟩ := ownsRow_at (h.tab.mems p hp) hk
      rw [h.ha] at hc; injection hc with e; injection e with _ e; exact absurd e (by decide)
  · intro j; unfold upd; split
    · exact hx
    · exact h.le j

/-- What is on the way leads to the type that is asked. -/
def Into (P : Nat → List Nat) (n : Nat) (σ : Nat → Nat) (k : Nat) : Prop := ∀ i, σ i = 1 → ∃ c, c < n ∧ Reach P i c ∧ k ∈ P c
def Gone (P : Nat → List Nat) (n : Nat) (r : Bool) (D : (Nat → Nat) → Prop) (σ : Nat → Nat) (k : Nat) : Prop :=
  if r then Cyc P n else ∃ σ', D σ' ∧ Left P σ' ∧ Grew σ σ' ∧ σ' k = 2

set_option maxHeartbeats 4000000 in
theorem back_c (hin : ∀ (i : Nat) (p : Rw × Value), rs[i]? = some p → ∀ x ∈ partsR p.1, 0 ≤ x ∧ x < rs.length) (hsm : ∀ p : Rw × Value, p ∈ rs → p.1.mem.length ≤ 64) :
    ∀ (m : Nat) (w : World) (σ : Nat → Nat) (id : Nat), unseen rs.length σ = m → Dfs B b mb v rs ps gs gt gb ga w σ → id < rs.length → Left (partsAt rs) σ → Into (partsAt rs) rs.length σ id →
      Calls Tryd.prog FB #[.int .i64 id, .pointer (some ⟨gs, 0, none⟩), .pointer (some ⟨gt, 0, none⟩), .pointer (some ⟨gb, 0, none⟩)] w fun e w' => ∃ r : Bool, e = .returned (.bool r) ∧ Turned w w' (fun k => k = ga) ∧
        Gone (partsAt rs) rs.length r (fun σ' => Dfs B b mb v rs ps gs gt gb ga w' σ') σ id := by
  intro m
  induction m using Nat.strongRecOn with
  | ind m ih =>
    intro w σ id hm D hid hL hI
    have hln := D.tab.len
    have q0 := Lib.cell_of_heap D.hs 0
    have q1 := Lib.cell_of_heap D.ht 0
    have q2 := Lib.cell_of_heap D.hb 0
    have q3 := Lib.cell_of_heap D.ha id
    rw [stCells_at σ hid] at q3
    simp only [List.getElem?_toArray, List.getElem?_cons_zero] at q0 q1 q2
    have hle := D.le id
    have HD : Hid (Dfs _ _ _ _ _ _ _ _ _ _ _ _) := D
    have HI : Hid (Into _ _ _ _) := hI
    have HL : Hid (Left _ _) := hL
    have HM : Hid (unseen rs.length σ = m) := hm
    have HS : Hid _ := hsm
    have HN : Hid _ := hin
    have IH : Hid _ := ih
    clear D hI hL hm ih hsm hin
    by_cases h0 : σ id = 0
    · rw [h0] at q3
      obtain ⟨p, hp⟩ : ∃ p, rs[id]? = some p := ⟨_, List.getElem?_eq_getElem hid⟩
      have hfr : w.frozen? ⟨ga, id, none⟩ = false := frozen_of HD.out.ha id
      have D1 : Dfs B b mb v rs ps gs gt gb ga (w.setCell ⟨ga, id, none⟩ (.int .i64 1)) (upd σ id 1) := (HD.out.set hid 1 (by omega)).1
      have HT1 : Hid (Turned w (w.setCell ⟨ga, id, none⟩ (.int .i64 1)) (fun k => k = ga)) := (HD.out.set hid 1 (by omega)).2
      have cP := parts_c D1.tab hp (HS.out p (List.mem_of_getElem? hp))
      have r1 : (w.setCell ⟨ga, id, none⟩ (.int .i64 1)).cell? ⟨gt, 0, none⟩ = some (.pointer (some ⟨b, 0, none⟩)) := Lib.cell_of_heap D1.ht 0
      have HD1 : Hid (Dfs _ _ _ _ _ _ _ _ _ _ _ _) := D1
      have HPA : Hid (partsAt rs id = (partsR p.1).map (·.toNat)) := by show partsAt rs id = _; simp [partsAt, hp]
      have HNP : Hid (∀ x ∈ partsR p.1, 0 ≤ x ∧ x < rs.length) := HN.out id p hp
      have hLl : (partsR p.1).length ≤ 64 := by
        have := HS.out p (List.mem_of_getElem? hp)
        unfold partsR; split
        · simp
        · simpa using this
      have hga := lt_of_heap HD.out.ha
      clear D1 hp
      generalize partsR p.1 = L at *
      have HSZ : Hid ((w.setCell ⟨ga, id, none⟩ (.int .i64 1)).heap.size = w.heap.size) := by show _ = _; simp
      go_enter Tryd.func71, Tryd.ntmps71
      go_wp2_with fail
      generalize w.setCell ⟨ga, id, none⟩ (.int .i64 1) = W at *
      refine cP.mono ?_
      rintro e w2 ⟨s, rfl, hown, hb2⟩
      obtain ⟨sp, sc, rfl⟩ := slice_of_own hown
      have HO : Hid (World.ownsRow _ _ _ _ _ _ _) := hown
      have HD2 : Hid (Dfs _ _ _ _ _ _ _ _ _ _ _ _) := HD1.out.kept hb2
      have HT2 : Hid (Turned w w2 (fun k => k = ga)) := HT1.out.trans (Turned.of_below hb2 _) (fun _ _ x => x)
      clear hown hb2 cP q0 q1 q2 q3 r1 hfr
      go_wp2
      go_loopw [25] (fun j wr => ∃ (k : Nat), j = .int .i64 k ∧ k ≤ L.length ∧ Hid (∃ τ, Dfs B b mb v rs ps gs gt gb ga wr τ ∧ Left (partsAt rs) τ ∧ Grew (upd σ id 1) τ ∧ ∀ x ∈ L.take k, τ x.toNat = 2) ∧ Hid (wr.ownsRow W.heap.size 3 1 (.slice sp L.length sc) L.length (intCells L)) ∧ Hid (Turned w wr (fun k => k = ga))) (fun j _ => L.length - (intOf j).toNat)
      case atStart => exact ⟨0, rfl, Nat.zero_le _, ⟨_, HD2.out, left_enter HL.out h0, Grew.refl _, fun x hx => by simp at hx⟩, HO, HT2⟩
      case round =>
        obtain ⟨k, rfl, hk, HX, HOW, HTW⟩ := hrel
        obtain ⟨τ, hD, hLf, hG, hdone⟩ := HX.out
        have hτid : τ id = 1 := (hG.one id).2 (upd_at σ id 1)
        have HDt : Hid (Dfs _ _ _ _ _ _ _ _ _ _ _ _) := hD
        have HLf : Hid (Left _ _) := hLf
        have HG : Hid (Grew _ _) := hG
        have HDN : Hid (∀ x ∈ L.take k, τ x.toNat = 2) := hdone
        have HTI : Hid (τ id = 1) := hτid
        clear HX hLf hG hdone hτid
        by_cases hlt : k < L.length
        · obtain ⟨x, hx⟩ : ∃ x, L[k]? = some x := ⟨_, List.getElem?_eq_getElem hlt⟩
          obtain ⟨hx0, hxn⟩ := HNP.out x (List.mem_of_getElem? hx)
          obtain ⟨xn, rfl⟩ : ∃ xn : Nat, x = xn := ⟨x.toNat, by omega⟩
          have q2 : wr.cell? ⟨gb, 0, none⟩ = some (.func (.func FB) #[] #[.pointer (some ⟨gs, 0, none⟩), .pointer (some ⟨gt, 0, none⟩), .pointer (some ⟨gb, 0, none⟩)]) := Lib.cell_of_heap hD.hb 0
          have hspp : ∃ h, sp = some ⟨h, 0, none⟩ := by
            obtain ⟨_, ⟨e, e0⟩ | ⟨h, _, _, e, _⟩⟩ := HOW.out
            · omega
            · injection e with e; exact ⟨h, e⟩
          obtain ⟨h, rfl⟩ := hspp
          have hcap : L.length ≤ sc := by
            obtain ⟨_, ⟨e, e0⟩ | ⟨h', cap', cur', e, _, _, hc', _⟩⟩ := HOW.out
            · cases e
            · injection e with _ _ e; omega
          have q3 : wr.cell? ⟨h, k, none⟩ = some (.int .i64 (xn : Int)) := by
            have := HOW.out.cells (g := h) rfl k (.int .i64 (xn : Int)) (by simp [intCells, hx])
            have e : ((⟨h, 0, none⟩ : Addr).add k) = ⟨h, k, none⟩ := by
              simp [Addr.add]; rintro rfl; rfl
            rw [e] at this; exact this
          have hmem : xn ∈ partsAt rs id := by
            rw [HPA.out]; exact List.mem_map.2 ⟨(xn : Int), List.mem_of_getElem? hx, by simp⟩
          have hz : ∀ i, τ i = 0 → σ i = 0 := by
            intro i hi
            have h1 := HG.out.one i
            have h2 := HG.out.two i
            have h3 := HD.out.le i
            unfold upd at h1 h2
            by_cases hii : i = id
            · rw [hii]; exact h0
            · simp only [hii, if_false] at h1 h2
              omega
          have cB := IH.out (unseen rs.length τ) (by rw [← HM.out]; exact unseen_lt hz hid h0 (by rw [HTI.out]; decide)) wr τ xn rfl HDt.out (by omega) HLf.out (by
            intro i hi
            have h1 := (HG.out.one i).1 hi
            unfold upd at h1
            split at h1
            · rename_i e; subst e; exact ⟨i, hid, .refl i, hmem⟩
            · obtain ⟨c, hc, hr, hkc⟩ := HI.out i h1
              exact ⟨id, hid, .step hr hkc, hmem⟩)
          have HXX : Hid (L[k]? = some (xn : Int)) := hx
          clear hz hmem hx hD hx0 hxn
          go_wp2_with (first | (go_at_call 71; refine cB.mono ?_; rintro e w3 ⟨r, rfl, ht3, hgo⟩) | fail)
          · rename_i hr
            subst hr
            go_ret
            exact ⟨_, rfl, HTW.out.trans ht3 (fun _ _ x => x), hgo⟩
          · rename_i hr
            subst hr
            obtain ⟨τ', hD', hL', hG', h2'⟩ := hgo
            refine ⟨⟨k + 1, by go_num, by omega, ⟨τ', hD', hL', HG.out.trans hG', fun y hy => ?_⟩, ?_, HTW.out.trans ht3 (fun _ _ x => x)⟩, by simp [intOf]; omega⟩
            · rw [List.take_add_one, HXX.out] at hy
              simp only [Option.toList_some, List.mem_append, List.mem_singleton] at hy
              rcases hy with hy | rfl
              · exact hG'.two _ (HDN.out y hy)
              · simpa using h2'
            · refine ownsRow_turned HOW.out ht3 (fun j hj e => ?_)
              have h1 := (ownsRow_at HOW.out hj).1
              have h2 := HSZ.out
              omega
        · obtain rfl : k = L.length := by omega
          have q0 : wr.cell? ⟨gs, 0, none⟩ = some (.slice (some ⟨ga, 0, none⟩) rs.length rs.length) := Lib.cell_of_heap hD.hs 0
          have q3 := Lib.cell_of_heap hD.ha id
          rw [stCells_at τ hid, HTI.out] at q3
          have hfr : wr.frozen? ⟨ga, id, none⟩ = false := frozen_of hD.ha id
          have S2 : Hid (Dfs B b mb v rs ps gs gt gb ga (wr.setCell ⟨ga, id, none⟩ (.int .i64 2)) (upd τ id 2) ∧ Turned wr (wr.setCell ⟨ga, id, none⟩ (.int .i64 2)) (fun k => k = ga)) := HDt.out.set hid 2 (Nat.le_refl _)
          clear hD
          go_wp2
          go_ret
          refine ⟨_, rfl, HTW.out.trans S2.out.2 (fun _ _ x => x), upd τ id 2, S2.out.1, ?_, grew_leave h0 HG.out, upd_at _ _ _⟩
          refine left_leave HLf.out HTI.out (fun j hj => ?_)
          rw [HPA.out] at hj
          obtain ⟨x, hx, rfl⟩ := List.mem_map.1 hj
          exact HDN.out x (by simpa using hx)
    · by_cases h1 : σ id = 1
      · rw [h1] at q3
        go_enter Tryd.func71, Tryd.ntmps71
        go_wp2
        go_ret
        refine ⟨_, rfl, Turned.refl _ _, ?_⟩
        obtain ⟨c, hc, hr, hk⟩ := HI.out id h1
        exact ⟨id, c, hc, hr, hk⟩
      · have h2 : σ id = 2 := by omega
        rw [h2] at q3
        go_enter Tryd.func71, Tryd.ntmps71
        go_wp2
        go_ret
        exact ⟨_, rfl, Turned.refl _ _, σ, HD.out, HL.out, Grew.refl _, h2⟩
end
end Go.Proofs.YtfdjghfgbibedaaDoor
