/-
  From: rows become a table, or are refused.
  parts: the types that lie within a type.
  circular's closure: the search in depth for a type that has itself within it.
  circular: has a type itself within it?
  Which rows make a table: what the entered rows are. (Pure.)
-/
import Derived.Test.YtlcghlfmaohfeaaGreatHCopyRows
import Derived.Test.YtlcghlfmaohfeaaGreatHGraph
import Derived.Test.YtlcghlfmaohfeaaGreatHEnter
namespace Go.Proofs.YtlcghlfmaohfeaaGreat
open Go.RowKit Go.Maps
set_option linter.unusedVariables false
set_option maxRecDepth 100000

abbrev TI : TypeId := 3
theorem infoTI : (Tryz.prog.info? 3).map (fun i => (i.zero, i.size, i.bytes)) = some (some (.int .i64 0), 1, 8) := by kernel_rfl
def intCells (l : List Int) : List Value := l.map fun x => .int .i64 x

section
variable {B : Nat} {w : World} {b mb : Nat} {v : Value} {rs : List (Rw × Value)} {ps : List (Value × Value)}
set_option maxHeartbeats 2000000 in
theorem parts_c (h : Tab B w b mb v rs ps) {i : Nat} {p : Rw × Value} (hp : rs[i]? = some p) (hs : p.1.mem.length ≤ 64) :
    Calls Tryz.prog 81 #[.pointer (some ⟨b, 0, none⟩), .int .i64 i] w fun e w' => ∃ s, e = .returned s ∧ w'.ownsRow w.heap.size 3 1 s (partsR p.1).length (intCells (partsR p.1)) ∧ Below w.heap.size w w' := by
  have hlt : i < rs.length := (List.getElem?_eq_some_iff.1 hp).1
  have hl := h.len
  have hc := h.c0
  obtain ⟨g, cap, hv, hcap, hcell⟩ := h.cell hp
  have hms := MemSl.of_own (h.mems p (List.mem_of_getElem? hp))
  obtain ⟨sp0, sc0, hs0⟩ := slice_of_own (h.mems p (List.mem_of_getElem? hp))
  obtain ⟨⟨kd, el, ln, tg, mm, dn⟩, s0⟩ := p
  simp only at hs0 hs
  subst hs0
  rw [hv] at hc
  have c0 := hcell 0 (by omega)
  have c1 := hcell 1 (by omega)
  have c2 := hcell 2 (by omega)
  have c3 := hcell 3 (by omega)
  have c4 := hcell 4 (by omega)
  have c5 := hcell 5 (by omega)
  simp only [rwCells, Nat.add_zero, List.getElem?_cons_zero, List.getElem?_cons_succ] at c0 c1 c2 c3 c4 c5
  clear hcell
  have hold := heap_r0 w (.cells #[.int .i64 0, .int .i64 0, .int .i64 0, .string ⟨#[]⟩, .slice none 0 0, .bool false] TR)
  have HB : Hid (Below w.heap.size w (w.alloc (.cells #[.int .i64 kd, .int .i64 el, .int .i64 ln, .string tg, .slice sp0 mm.length sc0, .bool dn] TR))) := (Below.refl _ w).alloc (Nat.le_refl _) _
  have E1 := heap_r0 w (.cells #[.int .i64 kd, .int .i64 el, .int .i64 ln, .string tg, .slice sp0 mm.length sc0, .bool dn] TR)
  clear hp h
  by_cases h14 : kd = 14
  · subst h14
    clear E1
    go_enter Tryz.func81, Tryz.ntmps81
    go_wp2_with (first | ((with_reducible apply step_store hold); rfl; rfl; kernel_rfl; rfl; kernel_rfl; rw [World.setRow_alloc_new]) | fail)
    go_ret
    refine ⟨_, rfl, ?_, ?_⟩
    · refine ⟨by simp [intCells, partsR], Or.inr ⟨w.heap.size + 1, 1, #[.int .i64 el], rfl, by omega, heap_s2 w _ _, Nat.le_refl _, by unfold maxLen; omega, rfl, ?_⟩⟩
      simp [intCells, partsR]
    · exact ((Below.refl _ w).alloc (Nat.le_refl _) _).alloc (by simp) _
  · have b14 : (kd == 14) = false := by simpa using h14
    have hpr : partsR ⟨kd, el, ln, tg, mm, dn⟩ = mm.map (·.type) := if_neg h14
    rw [hpr]
    clear hpr
    go_enter Tryz.func81, Tryz.ntmps81
    go_wp2_with (first | ((with_reducible apply step_store hold); rfl; rfl; kernel_rfl; rfl; kernel_rfl; rw [World.setRow_alloc_new]) | fail)
    obtain ⟨i0, hi, hz0, hz1, hz2⟩ := info_parts infoTI
    generalize w.alloc (.cells #[.int .i64 kd, .int .i64 el, .int .i64 ln, .string tg, .slice sp0 mm.length sc0, .bool dn] TR) = W at *
    clear c0 c1 c2 c3 c4 c5 hc hold E1
    go_loopw [6, 25] (fun l j wr => ∃ k : Nat, j = .int .i64 k ∧ k ≤ mm.length ∧ Hid (wr.ownsRow w.heap.size 3 1 l k (intCells ((mm.take k).map (·.type)))) ∧ Hid (Below w.heap.size w wr)) (fun _ j _ => mm.length - (intOf j).toNat)
    case atStart => exact ⟨0, rfl, Nat.zero_le _, World.ownsRow_nil _ _ _ _, HB⟩
    case round =>
      obtain ⟨k, rfl, hk, HO, HW⟩ := hrel
      by_cases hlt2 : k < mm.length
      · obtain ⟨m, hm⟩ : ∃ m, mm[k]? = some m := ⟨_, List.getElem?_eq_getElem hlt2⟩
        have HT : Hid (intCells ((mm.take (k + 1)).map (·.type)) = intCells ((mm.take k).map (·.type)) ++ [.int .i64 m.type]) := by
          show _ = _
          rw [List.take_add_one, hm]; simp [intCells]
        rcases hms with ⟨hh, rfl⟩ | ⟨ga, oa, cap', hh, hcap', hg', hcell'⟩
        · simp at hlt2
        · injection hh with hh1 hh2 hh3
          subst hh1 hh3
          have x := fun j hj => (HW.out.cell (p := ⟨ga, oa + k * 3 + j, none⟩) hg').trans (hcell' k m hm j hj)
          have a0 := x 0 (by omega)
          have a1 := x 1 (by omega)
          have a2 := x 2 (by omega)
          simp only [mbCells, Nat.add_zero, List.getElem?_cons_zero, List.getElem?_cons_succ] at a0 a1 a2
          clear x hcell' hm hh2
          obtain ⟨lp, lc, hlv⟩ := slice_of_own HO.out
          have H3 : Hid (World.ownsRow ((wr.alloc (.cells #[.string m.name, .int .i64 m.type, .int .i64 m.bits] TM)).alloc (.cells #[.int .i64 m.type] 3)) w.heap.size 3 1 u6 k (intCells ((mm.take k).map (·.type)))) :=
            ownsRow_turned HO.out ((Turned.alloc _ _ (fun _ => False)).trans (Turned.alloc _ _ (fun _ => False)) (fun _ _ x => x)) (fun _ _ hf => hf)
          have HB3 : Hid (Below w.heap.size w ((wr.alloc (.cells #[.string m.name, .int .i64 m.type, .int .i64 m.bits] TM)).alloc (.cells #[.int .i64 m.type] 3))) := (HW.out.alloc HW.out.size _).alloc (by simp; have := HW.out.size; omega) _
          have HCN : Hid (∀ j u, ([.int .i64 m.type] : List Value)[j]? = some u → ((wr.alloc (.cells #[.string m.name, .int .i64 m.type, .int .i64 m.bits] TM)).alloc (.cells #[.int .i64 m.type] 3)).cell? ((⟨wr.heap.size + 1, 0, none⟩ : Addr).add j) = some u) := by
            intro j u hj
            have := cells_new (wr.alloc (.cells #[.string m.name, .int .i64 m.type, .int .i64 m.bits] TM)) #[.int .i64 m.type] 3 j u hj
            rw [show (wr.alloc (.cells #[.string m.name, .int .i64 m.type, .int .i64 m.bits] TM)).heap.size = wr.heap.size + 1 by simp] at this
            exact this
          have hold := heap_r0 wr (.cells #[.string ⟨#[]⟩, .int .i64 0, .int .i64 0] TM)
          go_wp2_with (first | ((with_reducible apply step_store hold); rfl; rfl; kernel_rfl; rfl; kernel_rfl; rw [World.setRow_alloc_new]) | (at_builtin; go_must (refine wpList_append_own_at _ rfl (.tmp 29) (.tmp 32) 140 rfl w.heap.size 3 i0 _ 1 8 Tryz.underlying140 hi hz0 hz1 hz2 rfl (by decide) u6 k _ rfl H3.out ⟨wr.heap.size + 1, 0, none⟩ 1 1 [.int .i64 m.type] rfl rfl HCN.out (by simp [Value.oneCell']) (by unfold maxLen; omega) (by omega) (by simp; have := HW.out.size; omega) ?_); intro l' w3 hown hgrow hnil hat; obtain ⟨p', cap3, rfl⟩ := slice_of_own hown; have HO3 : Hid (World.ownsRow _ _ _ _ _ _ _) := hown; have HG : Hid (World.grownBy _ _ _) := hgrow; clear hown hgrow hnil hat))
          refine ⟨⟨k + 1, by go_num, by omega, ?_, ?_⟩, by simp [intOf]; omega⟩
          · show World.ownsRow _ _ _ _ _ _ _
            rw [HT.out]; exact HO3.out
          · have ht : Turned ((wr.alloc (.cells #[.string m.name, .int .i64 m.type, .int .i64 m.bits] TM)).alloc (.cells #[.int .i64 m.type] 3)) w3 (fun j => w.heap.size ≤ j) := Turned.of_grown HG.out (fun j hj => (ownsRow_at H3.out hj).1)
            exact ⟨ht.os.trans HB3.out.os, ht.tape.trans HB3.out.tape, ht.output.trans HB3.out.output, Nat.le_trans HB3.out.size ht.size, fun j hj => (ht.block j (Nat.lt_of_lt_of_le hj HB3.out.size) (by omega)).trans (HB3.out.block j hj)⟩
      · go_wp2
        go_ret
        obtain rfl : k = mm.length := by omega
        refine ⟨_, rfl, ?_, HW.out⟩
        have := HO.out
        simpa using this
end
end Go.Proofs.YtlcghlfmaohfeaaGreat
namespace Go.Proofs.YtlcghlfmaohfeaaGreat
open Go.RowKit Go.Maps
set_option linter.unusedVariables false
set_option maxRecDepth 100000

abbrev FB : FuncId := 80
def stCells (n : Nat) (σ : Nat → Nat) : Array Value := ((List.range n).map fun i => Value.int .i64 (σ i)).toArray
def unseen (n : Nat) (σ : Nat → Nat) : Nat := (List.range n).countP fun i => σ i == 0

theorem unseen_le {σ σ' : Nat → Nat} (h : ∀ i, σ' i = 0 → σ i = 0) (n : Nat) : unseen n σ' ≤ unseen n σ := by
  unfold unseen
  exact List.countP_mono_left (fun i _ hi => by simp at hi ⊢; exact h i hi)
theorem unseen_lt {σ σ' : Nat → Nat} (h : ∀ i, σ' i = 0 → σ i = 0) {n k : Nat} (hk : k < n) (h0 : σ k = 0) (h1 : σ' k ≠ 0) : unseen n σ' < unseen n σ := by
  induction n with
  | zero => omega
  | succ n ih =>
    have e := fun τ : Nat → Nat => show unseen (n + 1) τ = unseen n τ + (if τ n = 0 then 1 else 0) by
      unfold unseen; rw [List.range_succ, List.countP_append]; simp [List.countP_cons]
    rw [e, e]
    by_cases hkn : k = n
    · subst hkn
      have := unseen_le h k
      simp [h0, h1]; omega
    · have := ih (by omega)
      have h2 := h n
      split
      · rw [if_pos (h2 (by assumption))]; omega
      · split <;> omega

theorem stCells_at {n i : Nat} (σ : Nat → Nat) (h : i < n) : (stCells n σ)[i]? = some (.int .i64 (σ i)) := by
  simp [stCells, h]
theorem stCells_set {n i : Nat} (σ : Nat → Nat) (x : Nat) (h : i < n) : (stCells n σ).setIfInBounds i (.int .i64 (x : Int)) = stCells n (upd σ i x) := by
  apply Array.ext'
  simp only [stCells, Array.toList_setIfInBounds]
  apply List.ext_getElem?
  intro j
  by_cases hj : j < n
  · by_cases hij : i = j
    · subst hij; simp [upd, h]
    · have hji : ¬ j = i := fun e => hij e.symm
      simp [upd, hj, hij, hji]
  · simp [hj]

section
variable {B : Nat} {b mb : Nat} {v : Value} {rs : List (Rw × Value)} {ps : List (Value × Value)} {gs gt gb ga : Nat}
structure Dfs (B b mb : Nat) (v : Value) (rs : List (Rw × Value)) (ps : List (Value × Value)) (gs gt gb ga : Nat) (w : World) (σ : Nat → Nat) : Prop where
  hs : w.heap[gs]? = some (.cells #[.slice (some ⟨ga, 0, none⟩) rs.length rs.length] 140 (0, 0))
  ht : w.heap[gt]? = some (.cells #[.pointer (some ⟨b, 0, none⟩)] 23 (0, 0))
  hb : w.heap[gb]? = some (.cells #[.func (.func FB) #[] #[.pointer (some ⟨gs, 0, none⟩), .pointer (some ⟨gt, 0, none⟩), .pointer (some ⟨gb, 0, none⟩)]] 92 (0, 0))
  ha : w.heap[ga]? = some (.cells (stCells rs.length σ) 3 (0, 0))
  tab : Tab B w b mb v rs ps
  le : ∀ i, σ i ≤ 2

theorem Dfs.kept {w w' : World} {σ : Nat → Nat} (h : Dfs B b mb v rs ps gs gt gb ga w σ) (hb : Below w.heap.size w w') : Dfs B b mb v rs ps gs gt gb ga w' σ :=
  ⟨(hb.block _ (lt_of_heap h.hs)).trans h.hs, (hb.block _ (lt_of_heap h.ht)).trans h.ht, (hb.block _ (lt_of_heap h.hb)).trans h.hb, (hb.block _ (lt_of_heap h.ha)).trans h.ha, h.tab.keptB hb, h.le⟩
theorem ne_of_heap {w : World} {a b : Nat} {x y : Obj} (h1 : w.heap[a]? = some x) (h2 : w.heap[b]? = some y) (h : x ≠ y) : a ≠ b := by
  rintro rfl; rw [h1] at h2; exact h (Option.some.inj h2)
theorem Dfs.set {w : World} {σ : Nat → Nat} (h : Dfs B b mb v rs ps gs gt gb ga w σ) {i : Nat} (hi : i < rs.length) (x : Nat) (hx : x ≤ 2) :
    Dfs B b mb v rs ps gs gt gb ga (w.setCell ⟨ga, i, none⟩ (.int .i64 (x : Int))) (upd σ i x) ∧ Turned w (w.setCell ⟨ga, i, none⟩ (.int .i64 (x : Int))) (fun k => k = ga) := by
  have T : Turned w (w.setCell ⟨ga, i, none⟩ (.int .i64 (x : Int))) (fun k => k = ga) := Turned.setCell (S := fun k => k = ga) w ga i _ rfl
  refine ⟨⟨?_, ?_, ?_, ?_, ?_, ?_⟩, T⟩
  · exact (T.block gs (lt_of_heap h.hs) (ne_of_heap h.hs h.ha (fun e => by injection e with _ e; exact absurd e (by decide)))).trans h.hs
  · exact (T.block gt (lt_of_heap h.ht) (ne_of_heap h.ht h.ha (fun e => by injection e with _ e; exact absurd e (by decide)))).trans h.ht
  · exact (T.block gb (lt_of_heap h.hb) (ne_of_heap h.hb h.ha (fun e => by injection e with _ e; exact absurd e (by decide)))).trans h.hb
  · rw [heap_setCell h.ha, stCells_set σ x hi]
  · refine h.tab.kept T ?_ ?_
    · rintro k (rfl | rfl | hk) rfl
      · have := h.tab.tab; rw [h.ha] at this; injection this with e; injection e with _ e; exact absurd e (by decide)
      · obtain ⟨es, ck, hm, _⟩ := h.tab.map; rw [h.ha] at hm; cases hm
      · obtain ⟨_, cur, hc⟩ := ownsRow_at h.tab.rows hk
        rw [h.ha] at hc; injection hc with e; injection e with _ e; exact absurd e (by decide)
    · rintro p hp k hk rfl
      obtain ⟨_, cur, hc⟩ := ownsRow_at (h.tab.mems p hp) hk
      rw [h.ha] at hc; injection hc with e; injection e with _ e; exact absurd e (by decide)
  · intro j; unfold upd; split
    · exact hx
    · exact h.le j

/-- What is on the way leads to the type that is asked. -/
def Into (P : Nat → List Nat) (n : Nat) (σ : Nat → Nat) (k : Nat) : Prop := ∀ i, σ i = 1 → ∃ c, c < n ∧ Reach P i c ∧ k ∈ P c
def Gone (P : Nat → List Nat) (n : Nat) (r : Bool) (D : (Nat → Nat) → Prop) (σ : Nat → Nat) (k : Nat) : Prop :=
  if r then Cyc P n else ∃ σ', D σ' ∧ Left P σ' ∧ Grew σ σ' ∧ σ' k = 2

set_option maxHeartbeats 4000000 in
theorem back_c (hin : ∀ (i : Nat) (p : Rw × Value), rs[i]? = some p → ∀ x ∈ partsR p.1, 0 ≤ x ∧ x < rs.length) (hsm : ∀ p : Rw × Value, p ∈ rs → p.1.mem.length ≤ 64) :
    ∀ (m : Nat) (w : World) (σ : Nat → Nat) (id : Nat), unseen rs.length σ = m → Dfs B b mb v rs ps gs gt gb ga w σ → id < rs.length → Left (partsAt rs) σ → Into (partsAt rs) rs.length σ id →
      Calls Tryz.prog FB #[.int .i64 id, .pointer (some ⟨gs, 0, none⟩), .pointer (some ⟨gt, 0, none⟩), .pointer (some ⟨gb, 0, none⟩)] w fun e w' => ∃ r : Bool, e = .returned (.bool r) ∧ Turned w w' (fun k => k = ga) ∧
        Gone (partsAt rs) rs.length r (fun σ' => Dfs B b mb v rs ps gs gt gb ga w' σ') σ id := by
  intro m
  induction m using Nat.strongRecOn with
  | ind m ih =>
    intro w σ id hm D hid hL hI
    have hln := D.tab.len
    have q0 := Lib.cell_of_heap D.hs 0
    have q1 := Lib.cell_of_heap D.ht 0
    have q2 := Lib.cell_of_heap D.hb 0
    have q3 := Lib.cell_of_heap D.ha id
    rw [stCells_at σ hid] at q3
    simp only [List.getElem?_toArray, List.getElem?_cons_zero] at q0 q1 q2
    have hle := D.le id
    have HD : Hid (Dfs _ _ _ _ _ _ _ _ _ _ _ _) := D
    have HI : Hid (Into _ _ _ _) := hI
    have HL : Hid (Left _ _) := hL
    have HM : Hid (unseen rs.length σ = m) := hm
    have HS : Hid _ := hsm
    have HN : Hid _ := hin
    have IH : Hid _ := ih
    clear D hI hL hm ih hsm hin
    by_cases h0 : σ id = 0
    · rw [h0] at q3
      obtain ⟨p, hp⟩ : ∃ p, rs[id]? = some p := ⟨_, List.getElem?_eq_getElem hid⟩
      have hfr : w.frozen? ⟨ga, id, none⟩ = false := frozen_of HD.out.ha id
      have D1 : Dfs B b mb v rs ps gs gt gb ga (w.setCell ⟨ga, id, none⟩ (.int .i64 1)) (upd σ id 1) := (HD.out.set hid 1 (by omega)).1
      have HT1 : Hid (Turned w (w.setCell ⟨ga, id, none⟩ (.int .i64 1)) (fun k => k = ga)) := (HD.out.set hid 1 (by omega)).2
      have cP := parts_c D1.tab hp (HS.out p (List.mem_of_getElem? hp))
      have r1 : (w.setCell ⟨ga, id, none⟩ (.int .i64 1)).cell? ⟨gt, 0, none⟩ = some (.pointer (some ⟨b, 0, none⟩)) := Lib.cell_of_heap D1.ht 0
      have HD1 : Hid (Dfs _ _ _ _ _ _ _ _ _ _ _ _) := D1
      have HPA : Hid (partsAt rs id = (partsR p.1).map (·.toNat)) := by show partsAt rs id = _; simp [partsAt, hp]
      have HNP : Hid (∀ x ∈ partsR p.1, 0 ≤ x ∧ x < rs.length) := HN.out id p hp
      have hLl : (partsR p.1).length ≤ 64 := by
        have := HS.out p (List.mem_of_getElem? hp)
        unfold partsR; split
        · simp
        · simpa using this
      have hga := lt_of_heap HD.out.ha
      clear D1 hp
      generalize partsR p.1 = L at *
      have HSZ : Hid ((w.setCell ⟨ga, id, none⟩ (.int .i64 1)).heap.size = w.heap.size) := by show _ = _; simp
      go_enter Tryz.func80, Tryz.ntmps80
      go_wp2_with fail
      generalize w.setCell ⟨ga, id, none⟩ (.int .i64 1) = W at *
      refine cP.mono ?_
      rintro e w2 ⟨s, rfl, hown, hb2⟩
      obtain ⟨sp, sc, rfl⟩ := slice_of_own hown
      have HO : Hid (World.ownsRow _ _ _ _ _ _ _) := hown
      have HD2 : Hid (Dfs _ _ _ _ _ _ _ _ _ _ _ _) := HD1.out.kept hb2
      have HT2 : Hid (Turned w w2 (fun k => k = ga)) := HT1.out.trans (Turned.of_below hb2 _) (fun _ _ x => x)
      clear hown hb2 cP q0 q1 q2 q3 r1 hfr
      go_wp2
      go_loopw [25] (fun j wr => ∃ (k : Nat), j = .int .i64 k ∧ k ≤ L.length ∧ Hid (∃ τ, Dfs B b mb v rs ps gs gt gb ga wr τ ∧ Left (partsAt rs) τ ∧ Grew (upd σ id 1) τ ∧ ∀ x ∈ L.take k, τ x.toNat = 2) ∧ Hid (wr.ownsRow W.heap.size 3 1 (.slice sp L.length sc) L.length (intCells L)) ∧ Hid (Turned w wr (fun k => k = ga))) (fun j _ => L.length - (intOf j).toNat)
      case atStart => exact ⟨0, rfl, Nat.zero_le _, ⟨_, HD2.out, left_enter HL.out h0, Grew.refl _, fun x hx => by simp at hx⟩, HO, HT2⟩
      case round =>
        obtain ⟨k, rfl, hk, HX, HOW, HTW⟩ := hrel
        obtain ⟨τ, hD, hLf, hG, hdone⟩ := HX.out
        have hτid : τ id = 1 := (hG.one id).2 (upd_at σ id 1)
        have HDt : Hid (Dfs _ _ _ _ _ _ _ _ _ _ _ _) := hD
        have HLf : Hid (Left _ _) := hLf
        have HG : Hid (Grew _ _) := hG
        have HDN : Hid (∀ x ∈ L.take k, τ x.toNat = 2) := hdone
        have HTI : Hid (τ id = 1) := hτid
        clear HX hLf hG hdone hτid
        by_cases hlt : k < L.length
        · obtain ⟨x, hx⟩ : ∃ x, L[k]? = some x := ⟨_, List.getElem?_eq_getElem hlt⟩
          obtain ⟨hx0, hxn⟩ := HNP.out x (List.mem_of_getElem? hx)
          obtain ⟨xn, rfl⟩ : ∃ xn : Nat, x = xn := ⟨x.toNat, by omega⟩
          have q2 : wr.cell? ⟨gb, 0, none⟩ = some (.func (.func FB) #[] #[.pointer (some ⟨gs, 0, none⟩), .pointer (some ⟨gt, 0, none⟩), .pointer (some ⟨gb, 0, none⟩)]) := Lib.cell_of_heap hD.hb 0
          have hspp : ∃ h, sp = some ⟨h, 0, none⟩ := by
            obtain ⟨_, ⟨e, e0⟩ | ⟨h, _, _, e, _⟩⟩ := HOW.out
            · omega
            · injection e with e; exact ⟨h, e⟩
          obtain ⟨h, rfl⟩ := hspp
          have hcap : L.length ≤ sc := by
            obtain ⟨_, ⟨e, e0⟩ | ⟨h', cap', cur', e, _, _, hc', _⟩⟩ := HOW.out
            · cases e
            · injection e with _ _ e; omega
          have q3 : wr.cell? ⟨h, k, none⟩ = some (.int .i64 (xn : Int)) := by
            have := HOW.out.cells (g := h) rfl k (.int .i64 (xn : Int)) (by simp [intCells, hx])
            have e : ((⟨h, 0, none⟩ : Addr).add k) = ⟨h, k, none⟩ := by
              simp [Addr.add]; rintro rfl; rfl
            rw [e] at this; exact this
          have hmem : xn ∈ partsAt rs id := by
            rw [HPA.out]; exact List.mem_map.2 ⟨(xn : Int), List.mem_of_getElem? hx, by simp⟩
          have hz : ∀ i, τ i = 0 → σ i = 0 := by
            intro i hi
            have h1 := HG.out.one i
            have h2 := HG.out.two i
            have h3 := HD.out.le i
            unfold upd at h1 h2
            by_cases hii : i = id
            · rw [hii]; exact h0
            · simp only [hii, if_false] at h1 h2
              omega
          have cB := IH.out (unseen rs.length τ) (by rw [← HM.out]; exact unseen_lt hz hid h0 (by rw [HTI.out]; decide)) wr τ xn rfl HDt.out (by omega) HLf.out (by
            intro i hi
            have h1 := (HG.out.one i).1 hi
            unfold upd at h1
            split at h1
            · rename_i e; subst e; exact ⟨i, hid, .refl i, hmem⟩
            · obtain ⟨c, hc, hr, hkc⟩ := HI.out i h1
              exact ⟨id, hid, .step hr hkc, hmem⟩)
          have HXX : Hid (L[k]? = some (xn : Int)) := hx
          clear hz hmem hx hD hx0 hxn
          go_wp2_with (first | (go_at_call 80; refine cB.mono ?_; rintro e w3 ⟨r, rfl, ht3, hgo⟩) | fail)
          · rename_i hr
            subst hr
            go_ret
            exact ⟨_, rfl, HTW.out.trans ht3 (fun _ _ x => x), hgo⟩
          · rename_i hr
            subst hr
            obtain ⟨τ', hD', hL', hG', h2'⟩ := hgo
            refine ⟨⟨k + 1, by go_num, by omega, ⟨τ', hD', hL', HG.out.trans hG', fun y hy => ?_⟩, ?_, HTW.out.trans ht3 (fun _ _ x => x)⟩, by simp [intOf]; omega⟩
            · rw [List.take_add_one, HXX.out] at hy
              simp only [Option.toList_some, List.mem_append, List.mem_singleton] at hy
              rcases hy with hy | rfl
              · exact hG'.two _ (HDN.out y hy)
              · simpa using h2'
            · refine ownsRow_turned HOW.out ht3 (fun j hj e => ?_)
              have h1 := (ownsRow_at HOW.out hj).1
              have h2 := HSZ.out
              omega
        · obtain rfl : k = L.length := by omega
          have q0 : wr.cell? ⟨gs, 0, none⟩ = some (.slice (some ⟨ga, 0, none⟩) rs.length rs.length) := Lib.cell_of_heap hD.hs 0
          have q3 := Lib.cell_of_heap hD.ha id
          rw [stCells_at τ hid, HTI.out] at q3
          have hfr : wr.frozen? ⟨ga, id, none⟩ = false := frozen_of hD.ha id
          have S2 : Hid (Dfs B b mb v rs ps gs gt gb ga (wr.setCell ⟨ga, id, none⟩ (.int .i64 2)) (upd τ id 2) ∧ Turned wr (wr.setCell ⟨ga, id, none⟩ (.int .i64 2)) (fun k => k = ga)) := HDt.out.set hid 2 (Nat.le_refl _)
          clear hD
          go_wp2
          go_ret
          refine ⟨_, rfl, HTW.out.trans S2.out.2 (fun _ _ x => x), upd τ id 2, S2.out.1, ?_, grew_leave h0 HG.out, upd_at _ _ _⟩
          refine left_leave HLf.out HTI.out (fun j hj => ?_)
          rw [HPA.out] at hj
          obtain ⟨x, hx, rfl⟩ := List.mem_map.1 hj
          exact HDN.out x (by simpa using hx)
    · by_cases h1 : σ id = 1
      · rw [h1] at q3
        go_enter Tryz.func80, Tryz.ntmps80
        go_wp2
        go_ret
        refine ⟨_, rfl, Turned.refl _ _, ?_⟩
        obtain ⟨c, hc, hr, hk⟩ := HI.out id h1
        exact ⟨id, c, hc, hr, hk⟩
      · have h2 : σ id = 2 := by omega
        rw [h2] at q3
        go_enter Tryz.func80, Tryz.ntmps80
        go_wp2
        go_ret
        exact ⟨_, rfl, Turned.refl _ _, σ, HD.out, HL.out, Grew.refl _, h2⟩
end
end Go.Proofs.YtlcghlfmaohfeaaGreat
namespace Go.Proofs.YtlcghlfmaohfeaaGreat
open Go.RowKit Go.Maps
set_option linter.unusedVariables false
set_option maxRecDepth 100000

def CircP (P : Nat → List Nat) (n : Nat) (r : Bool) : Prop := if r then Cyc P n else Acyc P n

section
variable {B : Nat} {w : World} {b mb : Nat} {v : Value} {rs : List (Rw × Value)} {ps : List (Value × Value)}
set_option maxHeartbeats 4000000 in
theorem circular_c (h : Tab B w b mb v rs ps) (hin : ∀ (i : Nat) (p : Rw × Value), rs[i]? = some p → ∀ x ∈ partsR p.1, 0 ≤ x ∧ x < rs.length) (hsm : ∀ p : Rw × Value, p ∈ rs → p.1.mem.length ≤ 64) :
    Calls Tryz.prog 47 #[.pointer (some ⟨b, 0, none⟩)] w fun e w' => ∃ r : Bool, e = .returned (.bool r) ∧ Below w.heap.size w w' ∧ CircP (partsAt rs) rs.length r := by
  obtain ⟨i0, hi, hz0, hz1, hz2⟩ := info_parts infoTI
  have hl := h.len
  have hc := h.c0
  obtain ⟨p, cap, hv, hcap⟩ := h.sl
  rw [hv] at hc
  have hmf : ∀ (x y z : Value) (W : World), (Instr.makeFunc (Fn.func FB) #[] #[x, y, z]).run Tryz.prog W = .ok (.func (.func FB) #[] #[x, y, z]) W := fun _ _ _ _ => rfl
  have hmk := fun W : World => run_make (P := Tryz.prog) W 140 3 i0 (.int .i64 0) Tryz.underlying140 hi hz0 .i64 .i64 rs.length rs.length (by omega) (by omega) (by rw [hz2]; omega) (by omega)
  rw [hz1] at hmk
  have hm0 : madeCells (Value.int .i64 0).cells rs.length = stCells rs.length (fun _ => 0) := by
    apply Array.ext'
    show (madeCells #[.int .i64 0] rs.length).toList = _
    rw [toList_madeCells_one]
    simp [stCells]
    apply List.ext_getElem?
    intro j
    by_cases hj : j < rs.length
    · simp [hj]
    · simp [hj]
  simp only [Int.toNat_natCast, Nat.mul_one, hm0] at hmk
  clear hm0
  have hA : ∀ (C : Obj), (w.alloc C).cell? ⟨b, 0, none⟩ = some (.slice p rs.length cap) := fun C => by rw [← hv]; exact (h.alloc C).c0
  have HH : Hid (Tab _ _ _ _ _ _ _) := h
  have HIN : Hid _ := hin
  have HSM : Hid _ := hsm
  clear h hin hsm
  obtain ⟨W4, hW4⟩ : ∃ W, W = (((w.alloc (.cells #[.pointer (some ⟨b, 0, none⟩)] 23)).alloc (.cells (stCells rs.length (fun _ => 0)) 3)).alloc (.cells #[.slice (some ⟨w.heap.size + 1, 0, none⟩) rs.length rs.length] 140)).alloc (.cells #[.nilFunc] 92) := ⟨_, rfl⟩
  have HB4 : Hid (Below w.heap.size w W4) := by rw [hW4]; exact ((((Below.refl _ w).alloc (Nat.le_refl _) _).alloc (by simp) _).alloc (by simp; omega) _).alloc (by simp; omega) _
  have g0 : W4.heap[w.heap.size]? = some (.cells #[.pointer (some ⟨b, 0, none⟩)] 23 (0, 0)) := by
    rw [hW4]; show ((((w.heap.push _).push _).push _).push _)[w.heap.size]? = _
    rw [Array.getElem?_push, if_neg (by simp; omega), Array.getElem?_push, if_neg (by simp; omega), Array.getElem?_push, if_neg (by simp), Array.getElem?_push, if_pos rfl]
  have g1 : W4.heap[w.heap.size + 1]? = some (.cells (stCells rs.length (fun _ => 0)) 3 (0, 0)) := by
    rw [hW4]; show ((((w.heap.push _).push _).push _).push _)[w.heap.size + 1]? = _
    rw [Array.getElem?_push, if_neg (by simp), Array.getElem?_push, if_neg (by simp), Array.getElem?_push, if_pos (by simp)]
  have g2 : W4.heap[w.heap.size + 1 + 1]? = some (.cells #[.slice (some ⟨w.heap.size + 1, 0, none⟩) rs.length rs.length] 140 (0, 0)) := by
    rw [hW4]; show ((((w.heap.push _).push _).push _).push _)[w.heap.size + 1 + 1]? = _
    rw [Array.getElem?_push, if_neg (by simp), Array.getElem?_push, if_pos (by simp)]
  have g3 : W4.heap[w.heap.size + 1 + 1 + 1]? = some (.cells #[.nilFunc] 92 (0, 0)) := by
    rw [hW4]; show ((((w.heap.push _).push _).push _).push _)[w.heap.size + 1 + 1 + 1]? = _
    rw [Array.getElem?_push, if_pos (by simp)]
  have d0 : W4.cell? ⟨w.heap.size + 1 + 1 + 1, 0, none⟩ = some .nilFunc := Lib.cell_of_heap g3 0
  have d1 : W4.frozen? ⟨w.heap.size + 1 + 1 + 1, 0, none⟩ = false := frozen_of g3 0
  have T5 := Turned.setCell (S := fun k => k = w.heap.size + 1 + 1 + 1) W4 (w.heap.size + 1 + 1 + 1) 0 (.func (.func FB) #[] #[.pointer (some ⟨w.heap.size + 1 + 1, 0, none⟩), .pointer (some ⟨w.heap.size, 0, none⟩), .pointer (some ⟨w.heap.size + 1 + 1 + 1, 0, none⟩)]) rfl
  have D5 : Hid (Dfs B b mb v rs ps (w.heap.size + 1 + 1) w.heap.size (w.heap.size + 1 + 1 + 1) (w.heap.size + 1) (W4.setCell ⟨w.heap.size + 1 + 1 + 1, 0, none⟩ (.func (.func FB) #[] #[.pointer (some ⟨w.heap.size + 1 + 1, 0, none⟩), .pointer (some ⟨w.heap.size, 0, none⟩), .pointer (some ⟨w.heap.size + 1 + 1 + 1, 0, none⟩)])) (fun _ => 0)) := by
    refine ⟨?_, ?_, ?_, ?_, ?_, fun _ => by omega⟩
    · exact (T5.block _ (lt_of_heap g2) (by omega)).trans g2
    · exact (T5.block _ (lt_of_heap g0) (by omega)).trans g0
    · exact heap_setCell g3 _
    · exact (T5.block _ (lt_of_heap g1) (by omega)).trans g1
    · refine (HH.out.keptB HB4.out).kept T5 ?_ ?_
      · rintro k (rfl | rfl | hk) e
        · have := lt_of_heap HH.out.tab; omega
        · obtain ⟨es, ck, hm, _⟩ := HH.out.map
          have := lt_of_heap hm; omega
        · obtain ⟨_, cur, hcur⟩ := ownsRow_at HH.out.rows hk
          have := lt_of_heap hcur; omega
      · intro q hq k hk e
        obtain ⟨_, cur, hcur⟩ := ownsRow_at (HH.out.mems q hq) hk
        have := lt_of_heap hcur; omega
  have B5 : Hid (Below w.heap.size w (W4.setCell ⟨w.heap.size + 1 + 1 + 1, 0, none⟩ (.func (.func FB) #[] #[.pointer (some ⟨w.heap.size + 1 + 1, 0, none⟩), .pointer (some ⟨w.heap.size, 0, none⟩), .pointer (some ⟨w.heap.size + 1 + 1 + 1, 0, none⟩)]))) :=
    ⟨T5.os.trans HB4.out.os, T5.tape.trans HB4.out.tape, T5.output.trans HB4.out.output, Nat.le_trans HB4.out.size T5.size, fun k hk => (T5.block k (Nat.lt_of_lt_of_le hk HB4.out.size) (by omega)).trans (HB4.out.block k hk)⟩
  have HS4 : Hid (w.heap.size + 1 + 1 + 1 < W4.heap.size) := lt_of_heap g3
  clear g0 g1 g2 g3 T5
  have hst : (store ⟨w.heap.size + 1 + 1 + 1, 0, none⟩ (.func (.func FB) #[] #[.pointer (some ⟨w.heap.size + 1 + 1, 0, none⟩), .pointer (some ⟨w.heap.size, 0, none⟩), .pointer (some ⟨w.heap.size + 1 + 1 + 1, 0, none⟩)])).run Tryz.prog W4 = .ok () (W4.setCell ⟨w.heap.size + 1 + 1 + 1, 0, none⟩ (.func (.func FB) #[] #[.pointer (some ⟨w.heap.size + 1 + 1, 0, none⟩), .pointer (some ⟨w.heap.size, 0, none⟩), .pointer (some ⟨w.heap.size + 1 + 1 + 1, 0, none⟩)])) := by
    rw [run_store _ _ _ _ _ rfl, d0, d1]; rfl
  generalize (W4.setCell ⟨w.heap.size + 1 + 1 + 1, 0, none⟩ (.func (.func FB) #[] #[.pointer (some ⟨w.heap.size + 1 + 1, 0, none⟩), .pointer (some ⟨w.heap.size, 0, none⟩), .pointer (some ⟨w.heap.size + 1 + 1 + 1, 0, none⟩)])) = W5 at *
  rw [hW4] at hst
  clear d0 d1 hW4 HB4
  go_enter Tryz.func47, Tryz.ntmps47
  have z1 : W5.cell? ⟨w.heap.size, 0, none⟩ = some (.pointer (some ⟨b, 0, none⟩)) := Lib.cell_of_heap D5.out.ht 0
  have z2 : W5.cell? ⟨b, 0, none⟩ = some (.slice p rs.length cap) := by rw [← hv]; exact D5.out.tab.c0
  go_wp2
  clear z1 z2 hst hmk hmf hA hc
  go_loopw [18] (fun j wr => ∃ (k : Nat), j = .int .i64 k ∧ k ≤ rs.length ∧ Hid (∃ σ, Dfs B b mb v rs ps (w.heap.size + 1 + 1) w.heap.size (w.heap.size + 1 + 1 + 1) (w.heap.size + 1) wr σ ∧ Left (partsAt rs) σ ∧ (∀ i, σ i ≠ 1) ∧ ∀ i, i < k → σ i = 2) ∧ Hid (Below w.heap.size w wr)) (fun j _ => rs.length - (intOf j).toNat)
  case atStart => exact ⟨0, rfl, Nat.zero_le _, ⟨_, D5.out, ⟨fun _ => 0, fun i hi => by simp at hi⟩, fun i => by decide, fun i hi => by omega⟩, B5⟩
  case round =>
    obtain ⟨k, rfl, hk, HX, HW⟩ := hrel
    obtain ⟨σ, hD, hL, h1, h2⟩ := HX.out
    have HH2 : Hid (∀ i, i < k → σ i = 2) := h2
    have HH1 : Hid (∀ i, σ i ≠ 1) := h1
    have HL : Hid (Left _ _) := hL
    by_cases hlt : k < rs.length
    · have q2 : wr.cell? ⟨w.heap.size + 1 + 1 + 1, 0, none⟩ = some (.func (.func FB) #[] #[.pointer (some ⟨w.heap.size + 1 + 1, 0, none⟩), .pointer (some ⟨w.heap.size, 0, none⟩), .pointer (some ⟨w.heap.size + 1 + 1 + 1, 0, none⟩)]) := Lib.cell_of_heap hD.hb 0
      have cB := back_c HIN.out HSM.out _ wr σ k rfl hD hlt hL (fun i hi => absurd hi (h1 i))
      clear hD hL h1 h2 HX
      go_wp2_with (first | (go_at_call 80; refine cB.mono ?_; rintro e w3 ⟨r, rfl, ht3, hgo⟩) | fail)
      · rename_i hr
        subst hr
        go_ret
        exact ⟨_, rfl, ⟨ht3.os.trans HW.out.os, ht3.tape.trans HW.out.tape, ht3.output.trans HW.out.output, Nat.le_trans HW.out.size ht3.size, fun j hj => (ht3.block j (Nat.lt_of_lt_of_le hj HW.out.size) (by omega)).trans (HW.out.block j hj)⟩, hgo⟩
      · rename_i hr
        subst hr
        obtain ⟨τ', hD', hL', hG', h2'⟩ := hgo
        refine ⟨⟨k + 1, by go_num, by omega, ⟨τ', hD', hL', fun i hi => HH1.out i ((hG'.one i).1 hi), fun i hi => ?_⟩, ?_⟩, by simp [intOf]; omega⟩
        · by_cases hik : i = k
          · rw [hik]; exact h2'
          · exact hG'.two i (HH2.out i (by omega))
        · exact ⟨ht3.os.trans HW.out.os, ht3.tape.trans HW.out.tape, ht3.output.trans HW.out.output, Nat.le_trans HW.out.size ht3.size, fun j hj => (ht3.block j (Nat.lt_of_lt_of_le hj HW.out.size) (by omega)).trans (HW.out.block j hj)⟩
    · obtain rfl : k = rs.length := by omega
      clear hD hL h1 h2 HX
      go_wp2
      go_ret
      exact ⟨_, rfl, HW.out, left_acyc HL.out HH2.out⟩
end
end Go.Proofs.YtlcghlfmaohfeaaGreat
namespace Go.Proofs.YtlcghlfmaohfeaaGreat
open Go.RowKit Go.Maps
set_option linter.unusedVariables false
set_option maxRecDepth 100000

section
variable {rs rs' : List (Rw × Value)}
theorem fst_at (h : rs'.map (·.1) = rs.map (·.1)) (i : Nat) : (rs'[i]?).map (·.1) = (rs[i]?).map (·.1) := by
  have := congrArg (fun l => l[i]?) h
  simpa [List.getElem?_map] using this
theorem fst_len (h : rs'.map (·.1) = rs.map (·.1)) : rs'.length = rs.length := by simpa using congrArg List.length h
theorem kindP_fst (h : rs'.map (·.1) = rs.map (·.1)) (id : Int) : kindP rs' id = kindP rs id := by
  unfold kindP
  have := fst_at h id.toNat
  split
  · cases h1 : rs'[id.toNat]? <;> cases h2 : rs[id.toNat]? <;> simp [h1, h2] at this ⊢
    rw [this]
  · rfl
theorem wholeP_fst (h : rs'.map (·.1) = rs.map (·.1)) (id : Int) : wholeP rs' id = wholeP rs id := by
  unfold wholeP
  have := fst_at h id.toNat
  split
  · cases h1 : rs'[id.toNat]? <;> cases h2 : rs[id.toNat]? <;> simp [h1, h2] at this ⊢
    rw [this]
  · rfl
theorem memberErr_fst (h : rs'.map (·.1) = rs.map (·.1)) (pre : List Mb) (m : Mb) : memberErr rs' pre m = memberErr rs pre m := by
  unfold memberErr
  rw [fst_len h, wholeP_fst h, kindP_fst h]
theorem refusFrom_fst (h : rs'.map (·.1) = rs.map (·.1)) : ∀ (l pre : List Mb), refusFrom rs' pre l = refusFrom rs pre l
  | [], _ => rfl
  | m :: r, pre => by simp only [refusFrom, memberErr_fst h, refusFrom_fst h r]
theorem refusP_fst (h : rs'.map (·.1) = rs.map (·.1)) (l : List Mb) : refusP rs' l = refusP rs l := by
  unfold refusP; rw [refusFrom_fst h]
theorem enterB_fst (h : rs'.map (·.1) = rs.map (·.1)) (ps : List (Value × Value)) (i : Nat) (r : Rw) : enterB rs' ps i r = enterB rs ps i r := by
  unfold enterB; rw [refusP_fst h, wholeP_fst h]
theorem partsAt_fst (h : rs'.map (·.1) = rs.map (·.1)) : partsAt rs' = partsAt rs := by
  funext i
  unfold partsAt
  have := fst_at h i
  cases h1 : rs'[i]? <;> cases h2 : rs[i]? <;> simp [h1, h2] at this ⊢
  rw [this]

theorem refus_err : ∀ (l pre : List Mb), refusFrom rs pre l = 0 → ∀ m ∈ l, ∃ pre', memberErr rs pre' m = 0
  | [], _, _, m, hm => by cases hm
  | a :: r, pre, h, m, hm => by
    simp only [refusFrom] at h
    split at h
    · rename_i h0
      rcases List.mem_cons.1 hm with rfl | hm
      · exact ⟨pre, h0⟩
      · exact refus_err r _ h m hm
    · rename_i h0; exact absurd h h0
theorem memberErr_has {pre : List Mb} {m : Mb} (h : memberErr rs pre m = 0) : hasP rs.length m.type = true := by
  unfold memberErr at h
  split at h
  · cases h
  · rename_i hh; simpa using hh
theorem refus_len {l : List Mb} (h : refusP rs l = 0) : 1 ≤ l.length ∧ l.length ≤ 64 ∧ refusFrom rs [] l = 0 := by
  unfold refusP at h
  split at h
  · cases h
  · rename_i hh; exact ⟨by omega, by omega, h⟩
theorem more_mem {r : Rw} (h : moreP r = false) (hd : ownDone r = false) : r.mem = [] := by
  unfold moreP at h
  simp only [Bool.or_eq_false_iff, Bool.and_eq_false_iff, hd] at h
  have := h.2
  simp at this
  exact this

/-- An entered row's parts are types of the table; its members are few. -/
theorem enter_parts {ps : List (Value × Value)} {i : Nat} {r : Rw} (h : enterB rs ps i r = true) (hi : i < rs.length) : (∀ x ∈ partsR r, 0 ≤ x ∧ x < rs.length) ∧ r.mem.length ≤ 64 := by
  unfold enterB at h
  by_cases hm : moreP r = true
  · simp [hm] at h
  · have hm' : moreP r = false := by simpa using hm
    simp only [hm', Bool.false_eq_true, if_false] at h
    by_cases hi11 : i < 11
    · rw [if_pos hi11] at h
      have hk : r.kind = 1 + (i : Int) := by simpa using h
      have hmem := more_mem hm' (by simp [ownDone, recK, hk]; omega)
      refine ⟨fun x hx => ?_, by rw [hmem]; simp⟩
      unfold partsR at hx
      rw [if_neg (by omega), hmem] at hx
      cases hx
    · rw [if_neg hi11] at h
      by_cases h12 : r.kind = 12
      · have hmem := more_mem hm' (by simp [ownDone, recK, h12])
        refine ⟨fun x hx => ?_, by rw [hmem]; simp⟩
        unfold partsR at hx
        rw [if_neg (by omega), hmem] at hx
        cases hx
      · rw [if_neg h12] at h
        by_cases h15 : r.kind = 15 ∨ r.kind = 16
        · rw [if_pos h15] at h
          simp only [Bool.and_eq_true, Bool.or_eq_true] at h
          rcases h.2 with hd | hd
          · have hd' : r.done = false := by simpa using hd
            have hmem := more_mem hm' (by simp [ownDone, hd'])
            refine ⟨fun x hx => ?_, by rw [hmem]; simp⟩
            unfold partsR at hx
            rw [if_neg (by omega), hmem] at hx
            cases hx
          · obtain ⟨l1, l2, l3⟩ := refus_len (by simpa using hd)
            refine ⟨fun x hx => ?_, l2⟩
            unfold partsR at hx
            rw [if_neg (by omega)] at hx
            obtain ⟨m, hmm, rfl⟩ := List.mem_map.1 hx
            obtain ⟨pre', he⟩ := refus_err r.mem [] l3 m hmm
            have := memberErr_has he
            simp [hasP] at this
            omega
        · rw [if_neg h15] at h
          have hown : ownDone r = false := by
            simp [ownDone, recK]; intro h; omega
          have hmem := more_mem hm' hown
          by_cases h13 : r.kind = 13
          · refine ⟨fun x hx => ?_, by rw [hmem]; simp⟩
            unfold partsR at hx
            rw [if_neg (by omega), hmem] at hx
            cases hx
          · rw [if_neg h13] at h
            by_cases h14 : r.kind = 14
            · rw [if_pos h14] at h
              simp only [Bool.and_eq_true] at h
              refine ⟨fun x hx => ?_, by rw [hmem]; simp⟩
              unfold partsR at hx
              rw [if_pos h14, List.mem_singleton] at hx
              subst hx
              have h1 := h.1.1
              split at h1
              · cases h1
              · simp at h1; omega
            · rw [if_neg h14] at h; cases h

def rowsOf (rs : List (Rw × Value)) : List Rw := rs.map (·.1)
def AllIn (rs : List (Rw × Value)) (k : Nat) : Prop := ∀ i p, i < k → rs[i]? = some p → enterB rs (pairs ((rowsOf rs).take i)) i p.1 = true
def FromOK (rs : List (Rw × Value)) : Prop := AllIn rs rs.length ∧ Acyc (partsAt rs) rs.length
theorem pairs_take {i : Nat} {p : Rw × Value} (hp : rs[i]? = some p) : pairs ((rowsOf rs).take (i + 1)) = pairs ((rowsOf rs).take i) ++ (if derivd p.1 then [(keyV p.1.kind p.1.elem p.1.len, .int .i64 i)] else []) := by
  have hlt : i < rs.length := (List.getElem?_eq_some_iff.1 hp).1
  have e : (rowsOf rs)[i]? = some p.1 := by simp [rowsOf, hp]
  rw [List.take_add_one, e]
  show pairs ((rowsOf rs).take i ++ [p.1]) = _
  rw [pairs_snoc]
  have hl : ((rowsOf rs).take i).length = i := by simp [rowsOf]; omega
  rw [hl]
def Uniq (ps : List (Value × Value)) : Prop := ∀ k a a', (k, a) ∈ ps → (k, a') ∈ ps → a' = a
theorem enter_uniq {ps : List (Value × Value)} {i : Nat} {r : Rw} (h : enterB rs ps i r = true) (hu : Uniq ps) : Uniq (ps ++ (if derivd r then [(keyV r.kind r.elem r.len, .int .i64 i)] else [])) := by
  by_cases hd : derivd r = true
  · have hno : ¬ twiceB ps r := by
      intro ht
      unfold enterB at h
      by_cases hm : moreP r = true
      · simp [hm] at h
      · have hm' : moreP r = false := by simpa using hm
        simp only [hm', Bool.false_eq_true, if_false] at h
        have hk : r.kind = 13 ∨ r.kind = 14 := by simpa [derivd] using hd
        by_cases hi11 : i < 11
        · rw [if_pos hi11] at h
          have : r.kind = 1 + (i : Int) := by simpa using h
          omega
        · rw [if_neg hi11, if_neg (by omega), if_neg (by omega)] at h
          rcases hk with hk | hk
          · rw [if_pos hk, if_pos ht] at h; cases h
          · rw [if_neg (by omega), if_pos hk, if_pos ht] at h; simp at h
    rw [if_pos hd]
    intro k a a' h1 h2
    rw [List.mem_append, List.mem_singleton] at h1 h2
    rcases h1 with h1 | h1 <;> rcases h2 with h2 | h2
    · exact hu k a a' h1 h2
    · cases h2; exact absurd ⟨_, h1, rfl⟩ hno
    · cases h1; exact absurd ⟨_, h2, rfl⟩ hno
    · cases h1; cases h2; rfl
  · rw [if_neg hd]; simpa using hu
end
end Go.Proofs.YtlcghlfmaohfeaaGreat
namespace Go.Proofs.YtlcghlfmaohfeaaGreat
open Go.RowKit Go.Maps
set_option linter.unusedVariables false
set_option maxRecDepth 100000

def FromPost (rs : List (Rw × Value)) (w w' : World) (e : Ending) : Prop :=
  (¬ FromOK rs ∧ e = .returned (.tuple #[.pointer none, .int .i64 30])) ∨
  (FromOK rs ∧ ∃ b mb v' rs', e = .returned (.tuple #[.pointer (some ⟨b, 0, none⟩), .int .i64 0]) ∧ rs'.map (·.1) = rs.map (·.1) ∧ Tab w.heap.size w' b mb v' rs' (pairs (rowsOf rs')))

section
variable {rs rs' : List (Rw × Value)}
theorem rowsOf_fst (h : rs'.map (·.1) = rs.map (·.1)) : rowsOf rs' = rowsOf rs := h
theorem AllIn_fst (h : rs'.map (·.1) = rs.map (·.1)) {k : Nat} (ha : AllIn rs k) : AllIn rs' k := by
  intro i p hi hp
  have e := fst_at h i
  rw [hp] at e
  cases h2 : rs[i]? with
  | none => rw [h2] at e; cases e
  | some q =>
    rw [h2] at e
    have e2 : p.1 = q.1 := by simpa using e
    rw [enterB_fst h, rowsOf_fst h, e2]
    exact ha i q hi h2
theorem FromOK_fst (h : rs'.map (·.1) = rs.map (·.1)) (ha : FromOK rs) : FromOK rs' := by
  refine ⟨?_, ?_⟩
  · rw [fst_len h]; exact AllIn_fst h ha.1
  · rw [partsAt_fst h, fst_len h]; exact ha.2
theorem AllIn_parts (h : AllIn rs rs.length) : (∀ (i : Nat) (p : Rw × Value), rs[i]? = some p → ∀ x ∈ partsR p.1, 0 ≤ x ∧ x < rs.length) ∧ ∀ p : Rw × Value, p ∈ rs → p.1.mem.length ≤ 64 := by
  constructor
  · intro i p hp
    have hi : i < rs.length := (List.getElem?_eq_some_iff.1 hp).1
    exact (enter_parts (h i p hi hp) hi).1
  · intro p hp
    obtain ⟨i, hi⟩ := List.mem_iff_getElem?.1 hp
    have hlt : i < rs.length := (List.getElem?_eq_some_iff.1 hi).1
    exact (enter_parts (h i p hlt hi) hlt).2
theorem partsAt_in (h : ∀ (i : Nat) (p : Rw × Value), rs[i]? = some p → ∀ x ∈ partsR p.1, 0 ≤ x ∧ x < rs.length) : ∀ i, i < rs.length → ∀ j ∈ partsAt rs i, j < rs.length := by
  intro i hi j hj
  unfold partsAt at hj
  cases h2 : rs[i]? with
  | none => rw [h2] at hj; cases hj
  | some p =>
    rw [h2] at hj
    obtain ⟨x, hx, rfl⟩ := List.mem_map.1 hj
    have := h i p h2 x hx
    omega
end
section
variable {w : World}
theorem from_len {v : Value} {p : Option Addr} {n cap : Nat} (hv : v = .slice p n cap) (hn : n < 11 ∨ 512 < n) (hb : n ≤ 9223372036854775807) :
    Calls Tryz.prog 23 #[v] w fun e w' => e = .returned (.tuple #[.pointer none, .int .i64 30]) ∧ w' = w := by
  subst hv
  rcases hn with hn | hn
  all_goals go_enter Tryz.func23, Tryz.ntmps23
  all_goals go_wp2
  all_goals go_ret2
  all_goals exact ⟨rfl, rfl⟩

set_option maxHeartbeats 4000000 in
theorem from_c {v : Value} {rs : List (Rw × Value)} (h : RowSl w v rs) (hl1 : 11 ≤ rs.length) (hl2 : rs.length ≤ 512) (hO : ∀ p ∈ rs, Okay p.1) :
    Calls Tryz.prog 23 #[v] w fun e w' => FromPost rs w w' e ∧ Below w.heap.size w w' := by
  have hmm := @run_makeMap Tryz.prog
  have cC := copyRows_c h (by omega) (fun p hp => (hO p hp).mem)
  have h1 := not_f
  have h2 := not_t
  obtain ⟨sp, sc, rfl, hsc⟩ : ∃ sp sc, v = .slice sp rs.length sc ∧ rs.length ≤ sc := by
    rcases h.1 with ⟨_, hh⟩ | ⟨g, o, cap, hv, hc, _⟩
    · rw [hh] at hl1; simp at hl1
    · exact ⟨_, _, hv, hc⟩
  have HO : Hid (∀ p ∈ rs, Okay p.1) := hO
  clear h hO
  go_enter Tryz.func23, Tryz.ntmps23
  go_wp2_with fail
  refine cC.mono ?_
  rintro e w1 ⟨v', rs', rfl, hfst, hrows, hmems, hb1⟩
  obtain ⟨vp, vc, rfl⟩ := slice_of_own hrows
  have hlen : rs'.length = rs.length := fst_len hfst
  have hbt : ∀ (m : Value) (W : World), (Instr.build 111 #[(0, .slice vp rs'.length vc), (1, .map (some w1.heap.size))]).run Tryz.prog W = .ok (.agg #[.slice vp rs'.length vc, .map (some w1.heap.size)]) W := fun k W => by kernel_rfl
  have hbt := hbt (.bool true)
  have HB2 : Hid (Below w.heap.size w ((w1.alloc (.map #[] 0)).alloc (.cells #[.slice vp rs'.length vc, .map (some w1.heap.size)] 111))) := (hb1.alloc hb1.size _).alloc (by simp; have := hb1.size; omega) _
  have HT0 : Hid (Tab w.heap.size ((w1.alloc (.map #[] 0)).alloc (.cells #[.slice vp rs'.length vc, .map (some w1.heap.size)] 111)) (w1.heap.size + 1) w1.heap.size (.slice vp rs'.length vc) rs' []) := by
    have T : Turned w1 ((w1.alloc (.map #[] 0)).alloc (.cells #[.slice vp rs'.length vc, .map (some w1.heap.size)] 111)) (fun _ => False) := (Turned.alloc _ _ _).trans (Turned.alloc _ _ _) (fun _ _ x => x)
    exact ⟨by have := hb1.size; omega, hb1.size, heap_s2 w1 _ _, ownsRow_turned hrows T (fun _ _ hf => hf), fun p hp => ownsRow_turned (hmems p hp) T (fun _ _ hf => hf), ⟨#[], 0, heap_s1 w1 _ _, rfl⟩, fun kv hk => (by cases hk), by omega⟩
  clear hrows hmems hb1 cC
  have HFST : Hid (rs'.map (·.1) = rs.map (·.1)) := hfst
  have HLEN : Hid (rs'.length = rs.length) := hlen
  clear hfst hlen
  go_upto_region 4 with (fail)
  refine (?_ : Code.wp _ _ _ _ ((w1.alloc (.map #[] 0)).alloc (.cells #[.slice vp rs'.length vc, .map (some w1.heap.size)] 111)))
  generalize (w1.alloc (.map #[] 0)).alloc (.cells #[.slice vp rs'.length vc, .map (some w1.heap.size)] 111) = W at *
  have hc0 := HT0.out.c0
  go_wp2
  clear hc0 hbt hmm
  go_loopw [24] (fun j wr => ∃ (k : Nat), j = .int .i64 k ∧ k ≤ rs'.length ∧ Hid (Tab w.heap.size wr (w1.heap.size + 1) w1.heap.size (.slice vp rs'.length vc) rs' (pairs ((rowsOf rs').take k))) ∧ Hid (AllIn rs' k ∧ Uniq (pairs ((rowsOf rs').take k))) ∧ Hid (Below w.heap.size w wr)) (fun j _ => rs'.length - (intOf j).toNat)
  case atStart => exact ⟨0, rfl, Nat.zero_le _, HT0, ⟨fun i p hi _ => by omega, fun k a a' h1 _ => by cases h1⟩, HB2⟩
  case round =>
    obtain ⟨k, rfl, hk, HT, HA, HW⟩ := hrel
    have hl3 : rs'.length ≤ 512 := HT.out.len
    by_cases hlt : k < rs'.length
    · obtain ⟨p, hp⟩ : ∃ p, rs'[k]? = some p := ⟨_, List.getElem?_eq_getElem hlt⟩
      have hOp : Okay p.1 := by
        have e := fst_at HFST.out k
        rw [hp] at e
        cases h2 : rs[k]? with
        | none => rw [h2] at e; cases e
        | some q =>
          rw [h2] at e
          have e2 : p.1 = q.1 := by simpa using e
          rw [e2]; exact HO.out q (List.mem_of_getElem? h2)
      have cE := enter_c HT.out hp hOp HA.out.2
      obtain ⟨X, hX⟩ : ∃ X, X = enterB rs' (pairs ((rowsOf rs').take k)) k p.1 := ⟨_, rfl⟩
      rw [← hX, ← pairs_take hp] at cE
      have HX : Hid (X = _) := hX
      have HP : Hid (_ = _) := hp
      clear hX hp hOp
      cases X
      · go_wp2_with (go_at_call 46; refine cE.mono ?_; rintro e w2 ⟨rfl, ht2, h2t⟩)
        go_ret2
        refine ⟨Or.inl ⟨fun hok => ?_, rfl⟩, HW.out.trans (HT.out.below ht2)⟩
        have := (FromOK_fst HFST.out hok).1 k p hlt HP.out
        rw [← HX.out] at this; cases this
      · go_wp2_with (go_at_call 46; refine cE.mono ?_; rintro e w2 ⟨rfl, ht2, h2t⟩)
        refine ⟨⟨k + 1, by go_num, by omega, h2t trivial, ⟨?_, ?_⟩, HW.out.trans (HT.out.below ht2)⟩, by simp [intOf]; omega⟩
        · intro i q hi hq
          by_cases hik : i = k
          · subst hik
            rw [HP.out] at hq; cases hq
            exact HX.out.symm
          · exact HA.out.1 i q (by omega) hq
        · rw [pairs_take HP.out]; exact enter_uniq HX.out.symm HA.out.2
    · obtain rfl : k = rs'.length := by omega
      have hin := AllIn_parts HA.out.1
      have cC := circular_c HT.out hin.1 hin.2
      have hps : pairs ((rowsOf rs').take rs'.length) = pairs (rowsOf rs') := by rw [List.take_of_length_le (by simp [rowsOf])]
      have HIN : Hid _ := hin
      clear hin
      go_wp2_with (go_at_call 47; refine cC.mono ?_; rintro e w2 ⟨r, rfl, hb2, hr⟩)
      · rename_i hrr
        subst hrr
        go_ret2
        refine ⟨Or.inl ⟨fun hok => ?_, rfl⟩, HW.out.trans (hb2.mono HW.out.size)⟩
        exact not_cyc (partsAt_in HIN.out.1) (FromOK_fst HFST.out hok).2 hr
      · rename_i hrr
        subst hrr
        go_ret2
        refine ⟨Or.inr ⟨FromOK_fst HFST.out.symm ⟨HA.out.1, hr⟩, w1.heap.size + 1, w1.heap.size, .slice vp rs'.length vc, rs', rfl, HFST.out, ?_⟩, HW.out.trans (hb2.mono HW.out.size)⟩
        rw [← hps]; exact HT.out.keptB hb2
end
end Go.Proofs.YtlcghlfmaohfeaaGreat
