/-
  From's rows one by one: enterDerived, enter.
-/
import Derived.Test.YtlcghlfmaohfeaaGreatHMore
import Derived.Test.YtlcghlfmaohfeaaGreatHPtrArr
namespace Go.Proofs.YtlcghlfmaohfeaaGreat
open Go.RowKit Go.Maps
set_option linter.unusedVariables false
set_option maxRecDepth 100000

section
variable {B : Nat} {w : World} {b mb : Nat} {v : Value} {rs : List (Rw × Value)} {ps : List (Value × Value)}

theorem sameBits_keyV (k e n : Int) : Instr.sameBits 10000 (keyV k e n) (keyV k e n) = true := by
  show Instr.sameBits (9999 + 1) (.agg _) (.agg _) = true
  simp [Instr.sameBits]
theorem run_store_old {P : Program} {t k e : TypeId} {w : World} {mb : Nat} {es : Array MapEntry} {ck : Nat} (K : Keyed P k) (ht : P.underlying t = some (.map k e))
    (hb : w.heap[mb]? = some (.map es ck)) {key val : Value} {kl : Lit} (hkey : keyOf P k key = some kl) (hes : ∀ x ∈ es.toList, ∃ l, keyOf P k x.key = some l) (hn : ∃ x ∈ es.toList, x.key = key) (hsb : Instr.sameBits 10000 key key = true) :
    ∃ o, (Instr.mapUpdate t (.map (some mb)) key val).run P w = .ok () (ChangeMaps.setBlock w mb o) := by
  rcases K.find w hkey es.toList hes with ⟨_, h2⟩ | ⟨j, e0, h1, h2, h3⟩
  · obtain ⟨x, hx, he⟩ := hn; exact absurd he (h2 x hx)
  · have h4 : es[j]? = some e0 := by simpa using h2
    have h5 : ((es[j]?).map (·.key)).getD key = key := by rw [h4]; exact h3
    refine ⟨.map (es.modify j fun e => { e with key := key, val := val }) ck, ?_⟩
    simp [Instr.mapUpdate, run_underlying ht, MapKept.run_getObj_map hb, K.check w false hkey, h1, Instr.keyThatStays, h5, hsb, MapKept.run_setObj_map _ hb, Result.andThen, ChangeMaps.setBlock]
theorem Tab.put_old (h : Tab B w b mb v rs ps) {k e n : Int} (hk : wf64 k) (he : wf64 e) (hn : wf64 n) (hyes : ∃ kv ∈ ps, kv.1 = keyV k e n) (val : Value) :
    ∃ w', (Instr.mapUpdate 109 (.map (some mb)) (keyV k e n) val).run Tryz.prog w = .ok () w' ∧ Turned w w' (own b mb v) := by
  obtain ⟨es, ck, hm, hes⟩ := h.map
  obtain ⟨l, hl⟩ := keyOf_V hk he hn
  obtain ⟨o, ho⟩ := run_store_old (val := val) keyLaw Tryz.underlying109 hm hl (h.keys hes) (by
    obtain ⟨kv, h1, h2⟩ := hyes
    rw [← hes] at h1
    obtain ⟨x, hx, e1⟩ := List.mem_map.1 h1
    exact ⟨x, hx, by rw [← h2, ← e1]⟩) (sameBits_keyV k e n)
  exact ⟨_, ho, ⟨rfl, rfl, rfl, by simp [ChangeMaps.setBlock], fun i _ hi => ChangeMaps.heap_setBlock_other hm _ (fun e => hi (Or.inr (Or.inl e)))⟩⟩

theorem enterDerived_c (h : Tab B w b mb v rs ps) {i : Nat} {p : Rw × Value} (hp : rs[i]? = some p) (hk : wf64 p.1.kind) (he : wf64 p.1.elem) (hn : wf64 p.1.len) (hno : ∀ kv ∈ ps, kv.1 ≠ keyV p.1.kind p.1.elem p.1.len) :
    Calls Tryz.prog 78 #[.pointer (some ⟨b, 0, none⟩), .int .i64 i] w fun e w' => e = .returned (.bool (decide (0 ≤ p.1.elem) && decide (p.1.elem < i))) ∧
      Tab B w' b mb v rs (ps ++ [(keyV p.1.kind p.1.elem p.1.len, .int .i64 i)]) ∧ Turned w w' (own b mb v) := by
  have hlt : i < rs.length := (List.getElem?_eq_some_iff.1 hp).1
  have hl := h.len
  have h1 := not_f
  have h2 := not_t
  have hc := h.c0
  have hc1 := h.c1
  obtain ⟨g, cap, hv, hcap, hcell⟩ := h.cell hp
  obtain ⟨sp0, sn0, sc0, hs0⟩ := (MemSl.of_own (h.mems p (List.mem_of_getElem? hp))).sl
  obtain ⟨⟨kd, el, ln, tg, mm, dn⟩, s0⟩ := p
  simp only at *
  subst hs0
  rw [hv] at hc
  have c0 := hcell 0 (by omega)
  have c1 := hcell 1 (by omega)
  have c2 := hcell 2 (by omega)
  have c3 := hcell 3 (by omega)
  have c4 := hcell 4 (by omega)
  have c5 := hcell 5 (by omega)
  simp only [rwCells, Nat.add_zero, List.getElem?_cons_zero, List.getElem?_cons_succ] at c0 c1 c2 c3 c4 c5
  clear hcell
  have HH : Hid (Tab _ _ _ _ _ _ _) := h
  clear h hp
  have hold := heap_r0 w (.cells #[.int .i64 0, .int .i64 0, .int .i64 0, .string ⟨#[]⟩, .slice none 0 0, .bool false] TR)
  have hbs := build_shape3
  have H2 : Hid (Tab B ((w.alloc (.cells #[.int .i64 kd, .int .i64 el, .int .i64 ln, .string tg, .slice sp0 sn0 sc0, .bool dn] TR)).alloc (.cells #[.int .i64 kd, .int .i64 el, .int .i64 ln] TK)) b mb v rs ps) := (HH.out.alloc _).alloc _
  have HB2 : Hid (Below w.heap.size w ((w.alloc (.cells #[.int .i64 kd, .int .i64 el, .int .i64 ln, .string tg, .slice sp0 sn0 sc0, .bool dn] TR)).alloc (.cells #[.int .i64 kd, .int .i64 el, .int .i64 ln] TK))) := ((Below.refl _ w).alloc (Nat.le_refl _) _).alloc (by simp) _
  have E1 : Hid (_ = _) := heap_s1 w (.cells #[.int .i64 kd, .int .i64 el, .int .i64 ln, .string tg, .slice sp0 sn0 sc0, .bool dn] TR) (.cells #[.int .i64 kd, .int .i64 el, .int .i64 ln] TK)
  have E2 : Hid (_ = _) := heap_s2 w (.cells #[.int .i64 kd, .int .i64 el, .int .i64 ln, .string tg, .slice sp0 sn0 sc0, .bool dn] TR) (.cells #[.int .i64 kd, .int .i64 el, .int .i64 ln] TK)
  go_enter Tryz.func78, Tryz.ntmps78
  go_wp2_with (first | ((with_reducible apply step_store hold); rfl; rfl; kernel_rfl; rfl; kernel_rfl; rw [World.setRow_alloc_new]) | fail)
  generalize (w.alloc (.cells #[.int .i64 kd, .int .i64 el, .int .i64 ln, .string tg, .slice sp0 sn0 sc0, .bool dn] TR)).alloc (.cells #[.int .i64 kd, .int .i64 el, .int .i64 ln] TK) = W at *
  have hrun := fun q => (H2.out.drewN q).look_none hk he hn hno
  unfold keyV at hrun
  have q1 := H2.out.c1
  have a1 := Lib.cell_of_heap E1.out 1
  have k0 := Lib.cell_of_heap E2.out 0
  have k1 := Lib.cell_of_heap E2.out 1
  have k2 := Lib.cell_of_heap E2.out 2
  simp only [List.getElem?_toArray, List.getElem?_cons_zero, List.getElem?_cons_succ] at a1 k0 k1 k2
  clear hold c0 c1 c2 c3 c4 c5 hc hc1
  go_quiet (fail)
  go_wp2
  obtain ⟨w4, hput, h4, ht4⟩ := (H2.out.drewN (nq + 1)).put_new hk he hn hno (.int .i64 i)
  unfold keyV at hput
  have hnb : ¬ own b mb v w.heap.size := by
    rintro (hh | hh | hh)
    · exact absurd (lt_of_heap HH.out.tab) (by omega)
    · obtain ⟨es, ck, hm, _⟩ := HH.out.map
      exact absurd (lt_of_heap hm) (by omega)
    · obtain ⟨_, cur, hcur⟩ := ownsRow_at HH.out.rows hh
      exact absurd (lt_of_heap hcur) (by omega)
  have x1 : w4.cell? ⟨w.heap.size, 1, none⟩ = some (.int .i64 el) := by
    have e := (ht4.block w.heap.size (lt_of_heap E1.out) hnb).trans E1.out
    rw [Lib.cell_of_heap e]; rfl
  have HT4 : Hid (Turned _ _ _) := ht4
  have H4 : Hid (Tab _ _ _ _ _ _ _) := h4
  clear ht4 h4 hnb
  clear hrun
  go_region
  all_goals go_wp2
  all_goals go_ret
  all_goals subst hv
  all_goals refine ⟨bool_ret ?_, H4.out, (Turned.of_below (HB2.out.trans (below_drewN _ W (nq + 1))) _).trans HT4.out (fun _ _ x => x)⟩
  all_goals (rw [Bool.eq_iff_iff]; simp; try omega)
theorem enterDerived_twice (h : Tab B w b mb v rs ps) {i : Nat} {p : Rw × Value} (hp : rs[i]? = some p) (hk : wf64 p.1.kind) (he : wf64 p.1.elem) (hn : wf64 p.1.len) {val : Value} (hyes : (keyV p.1.kind p.1.elem p.1.len, val) ∈ ps) (huni : ∀ val', (keyV p.1.kind p.1.elem p.1.len, val') ∈ ps → val' = val) :
    Calls Tryz.prog 78 #[.pointer (some ⟨b, 0, none⟩), .int .i64 i] w fun e w' => e = .returned (.bool false) ∧ Turned w w' (own b mb v) := by
  have hlt : i < rs.length := (List.getElem?_eq_some_iff.1 hp).1
  have hl := h.len
  have h1 := not_f
  have h2 := not_t
  have hc := h.c0
  have hc1 := h.c1
  obtain ⟨g, cap, hv, hcap, hcell⟩ := h.cell hp
  obtain ⟨sp0, sn0, sc0, hs0⟩ := (MemSl.of_own (h.mems p (List.mem_of_getElem? hp))).sl
  obtain ⟨⟨kd, el, ln, tg, mm, dn⟩, s0⟩ := p
  simp only at *
  subst hs0
  rw [hv] at hc
  have c0 := hcell 0 (by omega)
  have c1 := hcell 1 (by omega)
  have c2 := hcell 2 (by omega)
  have c3 := hcell 3 (by omega)
  have c4 := hcell 4 (by omega)
  have c5 := hcell 5 (by omega)
  simp only [rwCells, Nat.add_zero, List.getElem?_cons_zero, List.getElem?_cons_succ] at c0 c1 c2 c3 c4 c5
  clear hcell
  have HH : Hid (Tab _ _ _ _ _ _ _) := h
  clear h hp
  have hold := heap_r0 w (.cells #[.int .i64 0, .int .i64 0, .int .i64 0, .string ⟨#[]⟩, .slice none 0 0, .bool false] TR)
  have hbs := build_shape3
  have H2 : Hid (Tab B ((w.alloc (.cells #[.int .i64 kd, .int .i64 el, .int .i64 ln, .string tg, .slice sp0 sn0 sc0, .bool dn] TR)).alloc (.cells #[.int .i64 kd, .int .i64 el, .int .i64 ln] TK)) b mb v rs ps) := (HH.out.alloc _).alloc _
  have HB2 : Hid (Below w.heap.size w ((w.alloc (.cells #[.int .i64 kd, .int .i64 el, .int .i64 ln, .string tg, .slice sp0 sn0 sc0, .bool dn] TR)).alloc (.cells #[.int .i64 kd, .int .i64 el, .int .i64 ln] TK))) := ((Below.refl _ w).alloc (Nat.le_refl _) _).alloc (by simp) _
  have E1 : Hid (_ = _) := heap_s1 w (.cells #[.int .i64 kd, .int .i64 el, .int .i64 ln, .string tg, .slice sp0 sn0 sc0, .bool dn] TR) (.cells #[.int .i64 kd, .int .i64 el, .int .i64 ln] TK)
  have E2 : Hid (_ = _) := heap_s2 w (.cells #[.int .i64 kd, .int .i64 el, .int .i64 ln, .string tg, .slice sp0 sn0 sc0, .bool dn] TR) (.cells #[.int .i64 kd, .int .i64 el, .int .i64 ln] TK)
  go_enter Tryz.func78, Tryz.ntmps78
  go_wp2_with (first | ((with_reducible apply step_store hold); rfl; rfl; kernel_rfl; rfl; kernel_rfl; rw [World.setRow_alloc_new]) | fail)
  generalize (w.alloc (.cells #[.int .i64 kd, .int .i64 el, .int .i64 ln, .string tg, .slice sp0 sn0 sc0, .bool dn] TR)).alloc (.cells #[.int .i64 kd, .int .i64 el, .int .i64 ln] TK) = W at *
  have hrun := fun q => (H2.out.drewN q).look_some hk he hn hyes huni
  unfold keyV at hrun
  have q1 := H2.out.c1
  have a1 := Lib.cell_of_heap E1.out 1
  have k0 := Lib.cell_of_heap E2.out 0
  have k1 := Lib.cell_of_heap E2.out 1
  have k2 := Lib.cell_of_heap E2.out 2
  simp only [List.getElem?_toArray, List.getElem?_cons_zero, List.getElem?_cons_succ] at a1 k0 k1 k2
  clear hold c0 c1 c2 c3 c4 c5 hc hc1
  go_quiet (fail)
  go_wp2
  obtain ⟨w4, hput, ht4⟩ := (H2.out.drewN (nq + 1)).put_old hk he hn ⟨_, hyes, rfl⟩ (.int .i64 i)
  unfold keyV at hput
  have hnb : ¬ own b mb v w.heap.size := by
    rintro (hh | hh | hh)
    · exact absurd (lt_of_heap HH.out.tab) (by omega)
    · obtain ⟨es, ck, hm, _⟩ := HH.out.map
      exact absurd (lt_of_heap hm) (by omega)
    · obtain ⟨_, cur, hcur⟩ := ownsRow_at HH.out.rows hh
      exact absurd (lt_of_heap hcur) (by omega)
  have x1 : w4.cell? ⟨w.heap.size, 1, none⟩ = some (.int .i64 el) := by
    have e := (ht4.block w.heap.size (lt_of_heap E1.out) hnb).trans E1.out
    rw [Lib.cell_of_heap e]; rfl
  have HT4 : Hid (Turned _ _ _) := ht4
  clear ht4 hnb
  clear hrun
  go_region
  all_goals go_wp2
  all_goals go_ret
  all_goals subst hv
  all_goals exact ⟨rfl, (Turned.of_below (HB2.out.trans (below_drewN _ W (nq + 1))) _).trans HT4.out (fun _ _ x => x)⟩

/-- Is there one like it already? -/
def twiceB (ps : List (Value × Value)) (r : Rw) : Prop := ∃ kv ∈ ps, kv.1 = keyV r.kind r.elem r.len
open Classical in
noncomputable def enterB (rs : List (Rw × Value)) (ps : List (Value × Value)) (i : Nat) (r : Rw) : Bool :=
  if moreP r then false
  else if i < 11 then r.kind == 1 + (i : Int)
  else if r.kind = 12 then tagP r.tag.data.toList
  else if r.kind = 15 ∨ r.kind = 16 then tagP r.tag.data.toList && (!r.done || refusP rs r.mem == 0)
  else if r.kind = 13 then (if twiceB ps r then false else (decide (0 ≤ r.elem) && decide (r.elem < i)))
  else if r.kind = 14 then (if twiceB ps r then false else (decide (0 ≤ r.elem) && decide (r.elem < i))) && wholeP rs r.elem && lenK r.len
  else false
structure Okay (r : Rw) : Prop where
  kind : wf64 r.kind
  elem : wf64 r.elem
  len : wf64 r.len
  tag : r.tag.size ≤ 9223372036854775807
  mem : r.mem.length * 32 ≤ 140737488355328
  names : ∀ m ∈ r.mem, m.name.size ≤ 9223372036854775807

set_option maxHeartbeats 4000000 in
theorem enter_c (h : Tab B w b mb v rs ps) {i : Nat} {p : Rw × Value} (hp : rs[i]? = some p) (hO : Okay p.1) (huni : ∀ k a a', (k, a) ∈ ps → (k, a') ∈ ps → a' = a) :
    Calls Tryz.prog 46 #[.pointer (some ⟨b, 0, none⟩), .int .i64 i] w fun e w' => e = .returned (.bool (enterB rs ps i p.1)) ∧ Turned w w' (own b mb v) ∧
      (enterB rs ps i p.1 = true → Tab B w' b mb v rs (ps ++ (if derivd p.1 then [(keyV p.1.kind p.1.elem p.1.len, .int .i64 i)] else []))) := by
  have hlt : i < rs.length := (List.getElem?_eq_some_iff.1 hp).1
  have hl := h.len
  have h1 := not_f
  have h2 := not_t
  have hc := h.c0
  obtain ⟨g, cap, hv, hcap, hcell⟩ := h.cell hp
  have hms := MemSl.of_own (h.mems p (List.mem_of_getElem? hp))
  obtain ⟨sp0, sc0, hs0⟩ := slice_of_own (h.mems p (List.mem_of_getElem? hp))
  obtain ⟨⟨kd, el, ln, tg, mm, dn⟩, s0⟩ := p
  simp only at hs0
  subst hs0
  rw [hv] at hc
  have c0 := hcell 0 (by omega)
  have c1 := hcell 1 (by omega)
  have c2 := hcell 2 (by omega)
  have c3 := hcell 3 (by omega)
  have c4 := hcell 4 (by omega)
  have c5 := hcell 5 (by omega)
  simp only [rwCells, Nat.add_zero, List.getElem?_cons_zero, List.getElem?_cons_succ] at c0 c1 c2 c3 c4 c5
  clear hcell
  have hOm := hO.mem
  simp only at hOm
  have HH : Hid (Tab _ _ _ _ _ _ _) := h
  have hold := heap_r0 w (.cells #[.int .i64 0, .int .i64 0, .int .i64 0, .string ⟨#[]⟩, .slice none 0 0, .bool false] TR)
  have HB : Hid (Below w.heap.size w (w.alloc (.cells #[.int .i64 kd, .int .i64 el, .int .i64 ln, .string tg, .slice sp0 mm.length sc0, .bool dn] TR))) := (Below.refl _ w).alloc (Nat.le_refl _) _
  have E1 : Hid (_ = _) := heap_r0 w (.cells #[.int .i64 kd, .int .i64 el, .int .i64 ln, .string tg, .slice sp0 mm.length sc0, .bool dn] TR)
  have cM := hasMore_c (w := w.alloc (.cells #[.int .i64 kd, .int .i64 el, .int .i64 ln, .string tg, .slice sp0 mm.length sc0, .bool dn] TR)) ⟨kd, el, ln, tg, mm, dn⟩ (.slice sp0 mm.length sc0) ⟨_, _, rfl⟩ (by show mm.length ≤ _; omega)
  simp only [rwCells] at cM
  have HP : Hid (rs[i]? = some ((⟨kd, el, ln, tg, mm, dn⟩ : Rw), Value.slice sp0 mm.length sc0)) := hp
  have HM : Hid (MemSl _ _ _) := hms
  have HO : Hid (Okay _) := hO
  have HU : Hid (∀ k a a', (k, a) ∈ ps → (k, a') ∈ ps → a' = a) := huni
  clear h hp hms hO huni
  obtain ⟨RES, hRES⟩ : ∃ x, x = enterB rs ps i ⟨kd, el, ln, tg, mm, dn⟩ := ⟨_, rfl⟩
  obtain ⟨PS, hPS⟩ : ∃ x, x = ps ++ (if derivd ⟨kd, el, ln, tg, mm, dn⟩ then [(keyV kd el ln, .int .i64 i)] else []) := ⟨_, rfl⟩
  rw [← hRES, ← hPS]
  unfold enterB at hRES
  simp only at hRES
  generalize moreP ⟨kd, el, ln, tg, mm, dn⟩ = M at *
  have HR : Hid (RES = _) := hRES
  have HPS : Hid (PS = _) := hPS
  clear hRES hPS
  go_enter Tryz.func46, Tryz.ntmps46
  go_wp2_with (first | ((with_reducible apply step_store hold); rfl; rfl; kernel_rfl; rfl; kernel_rfl; rw [World.setRow_alloc_new]) | fail)
  generalize w.alloc (.cells #[.int .i64 kd, .int .i64 el, .int .i64 ln, .string tg, .slice sp0 mm.length sc0, .bool dn] TR) = W at *
  refine cM.mono ?_
  rintro e w1 ⟨rfl, hb1⟩
  have HB1 : Hid (Below w.heap.size w w1) := HB.out.trans (hb1.mono HB.out.size)
  have H1 : Hid (Tab B w1 b mb v rs ps) := HH.out.keptB HB1.out
  have F1 := (hb1.block w.heap.size (lt_of_heap E1.out)).trans E1.out
  have a0 := Lib.cell_of_heap F1 0
  have a1 := Lib.cell_of_heap F1 1
  have a2 := Lib.cell_of_heap F1 2
  have a3 := Lib.cell_of_heap F1 3
  have a4 := Lib.cell_of_heap F1 4
  have a5 := Lib.cell_of_heap F1 5
  simp only [List.getElem?_toArray, List.getElem?_cons_zero, List.getElem?_cons_succ] at a0 a1 a2 a3 a4 a5
  have HF1 : Hid (_ = _) := F1
  have HTR : Hid (Turned w w1 (own b mb v)) := Turned.of_below HB1.out _
  clear F1 hb1 c0 c1 c2 c3 c4 c5 hc hold cM
  have kept : Hid (derivd ⟨kd, el, ln, tg, mm, dn⟩ = false → ∀ w2, Below w1.heap.size w1 w2 → Turned w w2 (own b mb v) ∧ (RES = true → Tab B w2 b mb v rs PS)) := by
    intro hd w2 hb2
    refine ⟨Turned.of_below (HB1.out.trans (hb2.mono HB1.out.size)) _, fun _ => ?_⟩
    rw [HPS.out, hd]; simpa using H1.out.keptB hb2
  cases M
  case true =>
    go_wp2
    go_ret
    have hr := HR.out
    simp at hr
    subst hr
    exact ⟨rfl, HTR.out, fun h => by cases h⟩
  case false =>
    by_cases hi : i < 11
    · go_wp2
      go_ret
      have hr := HR.out
      simp [hi] at hr
      refine ⟨bool_ret ?_, HTR.out, fun h => ?_⟩
      · rw [hr]
      · have hk : kd = 1 + (i : Int) := by rw [hr] at h; simpa using h
        have hd : derivd ⟨kd, el, ln, tg, mm, dn⟩ = false := by simp [derivd, hk]; omega
        exact (kept.out hd w1 (Below.refl _ _)).2 h
    · have hin : ¬ (i : Int) < 11 := by omega
      have cT := fun W => tag_c tg W HO.out.tag
      have cR := refusal_c H1.out (by omega) (HM.out.below HB1.out) HO.out.names (by show mm.length ≤ _; omega)
      by_cases h12 : kd = 12
      · subst h12
        clear cR
        have hr := HR.out
        simp [hi] at hr
        rw [← hr] at cT
        have HR2 : Hid (RES = _) := hr
        clear hr HR
        go_wp2_with (first | (go_at_call 77; refine (cT _).mono ?_; rintro e w' ⟨rfl, rfl⟩) | (go_at_call 53; refine cR.mono ?_; rintro e w2 ⟨rfl, hb2⟩; have HB2 : Hid (Below _ _ w2) := hb2; clear hb2))
        go_ret
        exact ⟨rfl, kept.out rfl _ (Below.refl _ _)⟩
      by_cases h15 : kd = 15 ∨ kd = 16
      · have hr := HR.out
        simp [hi, h12, h15] at hr
        have HR2 : Hid (RES = _) := hr
        have hd : Hid (derivd ⟨kd, el, ln, tg, mm, dn⟩ = false) := by rcases h15 with rfl | rfl <;> rfl
        clear hr HR
        generalize tagP tg.data.toList = T at *
        generalize refusP rs mm = Z at *
        rcases h15 with rfl | rfl
        all_goals cases T
        all_goals cases dn
        all_goals first
          | (go_wp2_with (first | (go_at_call 77; refine (cT _).mono ?_; rintro e w' ⟨rfl, rfl⟩) | (go_at_call 53; refine cR.mono ?_; rintro e w2 ⟨rfl, hb2⟩; have HB2 : Hid (Below _ _ w2) := hb2; clear hb2))
             go_ret
             have hr := HR2.out
             simp at hr
             first
               | (subst hr; exact ⟨rfl, kept.out hd.out _ (Below.refl _ _)⟩)
               | (refine ⟨bool_ret ?_, kept.out hd.out _ HB2.out⟩
                  rw [hr]))
      clear cT cR
      by_cases h13 : kd = 13
      · subst h13
        have hr := HR.out
        simp only [Bool.false_eq_true, if_false, hi, h12, h15, if_true] at hr
        by_cases ht : twiceB ps ⟨13, el, ln, tg, mm, dn⟩
        · rw [if_pos ht] at hr
          subst hr
          obtain ⟨kv, hkv, hk⟩ := ht
          have cD := enterDerived_twice H1.out HP.out HO.out.kind HO.out.elem HO.out.len (val := kv.2) (by rw [← hk]; exact hkv) (fun a' ha => HU.out _ _ _ (by rw [← hk]; exact hkv) ha)
          clear hk hkv HR
          go_wp2_with (go_at_call 78; refine cD.mono ?_; rintro e w2 ⟨rfl, ht2⟩)
          go_ret
          exact ⟨rfl, HTR.out.trans ht2 (fun _ _ x => x), fun h => by cases h⟩
        · rw [if_neg ht] at hr
          have cD := enterDerived_c H1.out HP.out HO.out.kind HO.out.elem HO.out.len (fun kv hkv e => ht ⟨kv, hkv, e⟩)
          simp only at cD
          rw [← hr] at cD
          have hps := HPS.out
          simp only [show derivd ⟨13, el, ln, tg, mm, dn⟩ = true from rfl, if_true] at hps
          rw [← hps] at cD
          clear hr hps HR
          go_wp2_with (go_at_call 78; refine cD.mono ?_; rintro e w2 ⟨rfl, h4, ht2⟩)
          go_ret
          exact ⟨rfl, HTR.out.trans ht2 (fun _ _ x => x), fun h => h4⟩
      by_cases h14 : kd = 14
      · subst h14
        have hr := HR.out
        simp only [Bool.false_eq_true, if_false, hi, h12, h15, if_true, h13] at hr
        by_cases ht : twiceB ps ⟨14, el, ln, tg, mm, dn⟩
        · rw [if_pos ht] at hr
          simp only [Bool.false_and] at hr
          subst hr
          obtain ⟨kv, hkv, hk⟩ := ht
          have cD := enterDerived_twice H1.out HP.out HO.out.kind HO.out.elem HO.out.len (val := kv.2) (by rw [← hk]; exact hkv) (fun a' ha => HU.out _ _ _ (by rw [← hk]; exact hkv) ha)
          clear hk hkv HR
          go_wp2_with (go_at_call 78; refine cD.mono ?_; rintro e w2 ⟨rfl, ht2⟩)
          go_ret
          exact ⟨rfl, HTR.out.trans ht2 (fun _ _ x => x), fun h => by cases h⟩
        · rw [if_neg ht] at hr
          have cD := enterDerived_c H1.out HP.out HO.out.kind HO.out.elem HO.out.len (fun kv hkv e => ht ⟨kv, hkv, e⟩)
          simp only at cD
          have hps := HPS.out
          simp only [show derivd ⟨14, el, ln, tg, mm, dn⟩ = true from rfl, if_true] at hps
          rw [← hps] at cD
          have cW := fun W (hW : Tab B W b mb v rs PS) => whole_c hW (by omega) el
          have cL := fun W => isLength_c ln W
          have hnb : ¬ own b mb v w.heap.size := by
            rintro (hh | hh | hh)
            · exact absurd (lt_of_heap HH.out.tab) (by omega)
            · obtain ⟨es, ck, hm, _⟩ := HH.out.map
              exact absurd (lt_of_heap hm) (by omega)
            · obtain ⟨_, cur, hcur⟩ := ownsRow_at HH.out.rows hh
              exact absurd (lt_of_heap hcur) (by omega)
          have HNB : Hid (¬ own b mb v w.heap.size) := hnb
          generalize (decide (0 ≤ el) && decide (el < (i : Int))) = X at *
          generalize wholeP rs el = Y at *
          generalize lenK ln = Z at *
          have HR2 : Hid (RES = (X && Y && Z)) := hr
          clear hr hps HR hnb
          cases X <;> cases Y
          all_goals go_wp2_with (first
            | (go_at_call 78; refine cD.mono ?_; rintro e w2 ⟨rfl, h4, ht2⟩; have H4 : Hid (Tab _ _ _ _ _ _ _) := h4; have HT2 : Hid (Turned _ _ _) := ht2; have F2 := (ht2.block w.heap.size (lt_of_heap HF1.out) HNB.out).trans HF1.out; have d1 := Lib.cell_of_heap F2 1; have d2 := Lib.cell_of_heap F2 2; simp only [List.getElem?_toArray, List.getElem?_cons_zero, List.getElem?_cons_succ] at d1 d2; clear F2 h4 ht2)
            | (go_at_call 56; refine (cW _ H4.out).mono ?_; rintro e w' ⟨rfl, rfl⟩)
            | (go_at_call 79; refine (cL _).mono ?_; rintro e w' ⟨rfl, rfl⟩))
          all_goals go_ret
          all_goals
            have hr := HR2.out
            simp only [Bool.and_false, Bool.false_and, Bool.true_and, Bool.and_true] at hr
            subst hr
          all_goals exact ⟨rfl, HTR.out.trans HT2.out (fun _ _ x => x), fun h => by first | exact H4.out | cases h⟩
      · have hr := HR.out
        simp only [Bool.false_eq_true, if_false, hi, h12, h15, h13, h14] at hr
        subst hr
        have b12 : (kd == 12) = false := by simpa using h12
        have b13 : (kd == 13) = false := by simpa using h13
        have b14 : (kd == 14) = false := by simpa using h14
        have b15 : (kd == 15) = false := by simp; omega
        have b16 : (kd == 16) = false := by simp; omega
        clear HR
        go_wp2
        go_ret
        exact ⟨rfl, HTR.out, fun h => by cases h⟩
end
end Go.Proofs.YtlcghlfmaohfeaaGreat
