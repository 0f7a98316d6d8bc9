/-
  Declare: a declaration written.
-/
import Derived.Test.YtdfkkflpcamhjaaGreatDoorAround
import Derived.Test.YtdfkkflpcamhjaaGreatDoorTag
import Derived.Test.YtdfkkflpcamhjaaGreatDoorComplete
namespace Go.Proofs.YtdfkkflpcamhjaaGreatDoor
open Go.RowKit Go.Maps
set_option linter.unusedVariables false
set_option maxRecDepth 100000

/-- Pointers and arrays off, from the name outwards. -/
def declL (rs : List (Rw × Value)) : Nat → Rw → ByteArray → Rw × ByteArray
  | 0, r, d => (r, d)
  | n + 1, r, d => if derivd r then (match rs[r.elem.toNat]? with | some p => declL rs n p.1 (aroundP d r p.1.kind) | none => (r, d)) else (r, d)
/-- What each row of a table that a call made has. -/
structure Fine (rs : List (Rw × Value)) : Prop where
  ahead : ∀ (i : Nat) (p : Rw × Value), rs[i]? = some p → derivd p.1 = true → 0 ≤ p.1.elem ∧ p.1.elem.toNat < i
  kind : ∀ p ∈ rs, 1 ≤ p.1.kind ∧ p.1.kind ≤ 16
  lens : ∀ p ∈ rs, -1 ≤ p.1.len ∧ p.1.len ≤ 16384 ∧ (Lib.itoa p.1.len).length ≤ 100
  tags : ∀ p ∈ rs, p.1.tag.size ≤ 100

def meas (g : Nat) (w : World) : Nat := match w.cell? ⟨g, 0, none⟩, w.cell? ⟨g, 1, none⟩ with | some (.int _ k), some (.int _ e) => if k = 13 ∨ k = 14 then e.toNat + 1 else 0 | _, _ => 0
theorem meas_at {g : Nat} {w : World} {r : Rw} {s : Value} (h : w.heap[g]? = some (.cells (rwCells r s).toArray TR (0, 0))) : meas g w = if r.kind = 13 ∨ r.kind = 14 then r.elem.toNat + 1 else 0 := by
  have a0 : w.cell? ⟨g, 0, none⟩ = some (.int .i64 r.kind) := by rw [Lib.cell_of_heap h]; rfl
  have a1 : w.cell? ⟨g, 1, none⟩ = some (.int .i64 r.elem) := by rw [Lib.cell_of_heap h]; rfl
  simp only [meas, a0, a1]
theorem six {g : Nat} {w : World} {r : Rw} {s : Value} (h : w.heap[g]? = some (.cells (rwCells r s).toArray TR (0, 0))) :
    w.cell? ⟨g, 0, none⟩ = some (.int .i64 r.kind) ∧ w.cell? ⟨g, 1, none⟩ = some (.int .i64 r.elem) ∧ w.cell? ⟨g, 2, none⟩ = some (.int .i64 r.len) ∧ w.cell? ⟨g, 3, none⟩ = some (.string r.tag) ∧ w.cell? ⟨g, 4, none⟩ = some s ∧ w.cell? ⟨g, 5, none⟩ = some (.bool r.done) := by
  refine ⟨?_, ?_, ?_, ?_, ?_, ?_⟩ <;> (rw [Lib.cell_of_heap h]; rfl)
theorem aroundP_size (d : ByteArray) (r : Rw) (ek : Int) (hL : (Lib.itoa r.len).length ≤ 100) : (aroundP d r ek).size ≤ d.size + 110 := by
  unfold aroundP
  repeat' split
  all_goals simp only [ByteArray.size_append]
  · show d.size + 2 ≤ _; omega
  · have : (ByteArray.mk (Lib.itoa r.len).toArray).size = (Lib.itoa r.len).length := by simp [ByteArray.size]
    rw [this]; show d.size + 1 + _ + 1 ≤ _; omega
  · show 2 + d.size + 1 ≤ _; omega
  · show 1 + d.size ≤ _; omega
theorem nameTab_size : ∀ t ∈ nameTab, t.size ≤ 20 := by decide
theorem baseP_size (r : Rw) (h : r.tag.size ≤ 100) : (baseP r).size ≤ 200 := by
  unfold baseP
  repeat' split
  · rw [ByteArray.size_append]; show 5 + _ ≤ _; omega
  · rw [ByteArray.size_append]; show 7 + _ ≤ _; omega
  · rw [ByteArray.size_append]; show 6 + _ ≤ _; omega
  · rcases hn : nameTab[(r.kind - 1).toNat]? with _ | t
    · show 0 ≤ 200; omega
    · have := nameTab_size t (List.mem_of_getElem? hn); show t.size ≤ _; omega
theorem declL_step (rs : List (Rw × Value)) (n : Nat) (r : Rw) (d : ByteArray) (p : Rw × Value) (hd : derivd r = true) (hp : rs[r.elem.toNat]? = some p) : declL rs (n + 1) r d = declL rs n p.1 (aroundP d r p.1.kind) := by
  simp [declL, hd, hp]
theorem declL_stop (rs : List (Rw × Value)) (n : Nat) (r : Rw) (d : ByteArray) (hd : derivd r = false) : declL rs n r d = (r, d) := by
  cases n <;> simp [declL, hd]
/-- Steps left over do not matter. -/
theorem declL_more (rs : List (Rw × Value)) (hF : Fine rs) : ∀ (k : Nat) (p : Rw × Value) (d : ByteArray) (n : Nat), rs[k]? = some p → k + 1 ≤ n → declL rs n p.1 d = declL rs (k + 1) p.1 d := by
  intro k
  induction k using Nat.strongRecOn with
  | ind k ih =>
    intro p d n hp hn
    obtain ⟨n, rfl⟩ : ∃ m, n = m + 1 := ⟨n - 1, by omega⟩
    cases hd : derivd p.1 with
    | false => rw [declL_stop _ _ _ _ hd, declL_stop _ _ _ _ hd]
    | true =>
      obtain ⟨h0, h1⟩ := hF.ahead k p hp hd
      have hlt : p.1.elem.toNat < rs.length := Nat.lt_trans h1 (List.getElem?_eq_some_iff.1 hp).1
      have hq := List.getElem?_eq_getElem hlt
      rw [declL_step rs n _ _ _ hd hq, declL_step rs k _ _ _ hd hq, ih _ h1 _ _ n hq (by omega), ih _ h1 _ _ k hq (by omega)]

theorem cell_old {w : World} (o : Obj) {S j : Nat} {u : Value} (h : w.cell? ⟨S, j, none⟩ = some u) : (w.alloc o).cell? ⟨S, j, none⟩ = some u :=
  (World.cell?_of_block (a := ⟨S, j, none⟩) (Below.heap_alloc w o S (World.block_lt_of_cell? w _ h))).trans h

section
variable {B : Nat} {w : World} {b mb : Nat} {v : Value} {rs : List (Rw × Value)} {ps : List (Value × Value)}

set_option maxHeartbeats 2000000 in
theorem declare_c (h : Tab B w b mb v rs ps) (hF : Fine rs) (hT : Tabs w) (hN : Names w) (nm : ByteArray) (hs : nm.size ≤ 100) (hnm : (nm.toList == []) = true ∨ tagP nm.data.toList = true) {i : Nat} {p : Rw × Value} (hp : rs[i]? = some p) :
    Calls Tryz.prog 31 #[.pointer (some ⟨b, 0, none⟩), .int .i64 i, .string nm] w fun e w' =>
      e = .returned (.tuple #[.string (if (declL rs (i + 1) p.1 nm).2.toList == [] then baseP (declL rs (i + 1) p.1 nm).1 else baseP (declL rs (i + 1) p.1 nm).1 ++ ⟨#[32]⟩ ++ (declL rs (i + 1) p.1 nm).2), .int .i64 0]) ∧ Below w.heap.size w w' := by
  have hlt : i < rs.length := (List.getElem?_eq_some_iff.1 hp).1
  have h0 : 0 < rs.length := by omega
  have c1 := made_c h h0
  have c2 := has_c h h0 i
  rw [hasP_nat hlt] at c2
  have c3 := tag_c nm w (by omega)
  have hc := h.c0
  have hln := h.len
  have h1 := not_t
  obtain ⟨sp, sc, hps⟩ := slice_of_own (h.mems p (List.mem_of_getElem? hp))
  obtain ⟨r0, s0⟩ := p
  simp only at hps ⊢
  generalize r0.mem.length = sn at hps
  subst hps
  obtain ⟨g, cap, hv, hcap, hcell⟩ := h.cell hp
  have a0 := hcell 0 (by omega)
  have a1 := hcell 1 (by omega)
  have a2 := hcell 2 (by omega)
  have a3 := hcell 3 (by omega)
  have a4 := hcell 4 (by omega)
  have a5 := hcell 5 (by omega)
  simp only [rwCells, Nat.add_zero, List.getElem?_cons_succ, List.getElem?_cons_zero] at a0 a1 a2 a3 a4 a5
  rw [hv] at hc
  clear hcell
  have hold := heap_r0 w (.cells #[.int .i64 0, .int .i64 0, .int .i64 0, .string ⟨#[]⟩, .slice none 0 0, .bool false] TR)
  obtain ⟨D, HD0⟩ : ∃ D, D = declL rs (i + 1) r0 nm := ⟨_, rfl⟩
  rw [← HD0]
  obtain ⟨RES, hres⟩ : ∃ RES : ByteArray, RES = if D.2.toList == [] then baseP D.1 else baseP D.1 ++ ⟨#[32]⟩ ++ D.2 := ⟨_, rfl⟩
  rw [← hres]
  have HRES : Hid (_ = _) := hres
  clear hres
  have HOLD : Hid (D = declL rs (i + 1) r0 nm) := HD0
  clear HD0
  have h2 := not_f
  have hce : (nm.toList == []) = true ∨ ((nm.toList == []) = false ∧ tagP nm.data.toList = true) := by
    rcases hnm with hh | hh
    · exact Or.inl hh
    · cases hq : (nm.toList == []) with
      | true => exact Or.inl rfl
      | false => exact Or.inr ⟨rfl, hh⟩
  clear hnm
  have HB0 : Hid (Below w.heap.size w (w.alloc (.cells #[.int .i64 r0.kind, .int .i64 r0.elem, .int .i64 r0.len, .string r0.tag, .slice sp sn sc, .bool r0.done] TR))) := (Below.refl _ w).alloc (Nat.le_refl _) _
  have HE0 : Hid ((w.alloc (.cells #[.int .i64 r0.kind, .int .i64 r0.elem, .int .i64 r0.len, .string r0.tag, .slice sp sn sc, .bool r0.done] TR)).heap[w.heap.size]? = some (.cells (rwCells r0 (.slice sp sn sc)).toArray TR (0, 0))) := heap_r0 w _
  rcases hce with he | ⟨he, ht⟩
  · go_enter Tryz.func31, Tryz.ntmps31
    go_wp2_with (first | (go_at_call 41; refine c1.mono ?_; rintro e w' ⟨rfl, hw⟩; rw [hw]; clear hw w') | (go_at_call 51; refine c2.mono ?_; rintro e w' ⟨rfl, hw⟩; rw [hw]; clear hw w') | ((with_reducible apply step_store hold); rfl; rfl; kernel_rfl; rfl; kernel_rfl; rw [World.setRow_alloc_new]))
    clear c1 c2 c3 a0 a1 a2 a3 a4 a5 hold
    go_loopw [9] (fun dv wr => ∃ (k : Nat) (r : Rw) (sp : Option Addr) (sn sc : Nat) (d : ByteArray), rs[k]? = some (r, .slice sp sn sc) ∧ dv = .string d ∧ k ≤ i ∧ d.size + 110 * k ≤ 100 + 110 * i ∧ Hid (wr.heap[w.heap.size]? = some (.cells (rwCells r (.slice sp sn sc)).toArray TR (0, 0))) ∧ Hid (D = declL rs (k + 1) r d) ∧ Hid (Below w.heap.size w wr)) (fun _ wr => meas w.heap.size wr)
    case atStart => exact ⟨i, r0, sp, sn, sc, nm, hp, rfl, Nat.le_refl _, by omega, HE0, HOLD, HB0⟩
    case round =>
      obtain ⟨k, r, tp, tn, tc, d, hk, rfl, hki, hds, HE, HD, HB⟩ := hrel
      have HT2 : Hid (Tab B wr b mb v rs ps) := h.keptB HB.out
      have q0 : wr.cell? ⟨b, 0, none⟩ = some (.slice (some ⟨g, 0, none⟩) rs.length cap) := by rw [← hv]; exact HT2.out.c0
      have hTW := hT.below HB.out
      have hNW := hN.below HB.out
      have hkm := List.mem_of_getElem? hk
      obtain ⟨hl1, hl2, hl3⟩ := hF.lens _ hkm
      obtain ⟨hk1, hk2⟩ := hF.kind _ hkm
      have htg := hF.tags _ hkm
      cases hdv : derivd r with
      | true =>
        obtain ⟨he0, he1⟩ := hF.ahead k _ hk hdv
        simp only at he0 he1 hl1 hl2 hl3
        have hlt2 : r.elem.toNat < rs.length := by omega
        obtain ⟨⟨r1, s1⟩, hp1⟩ : ∃ p1, rs[r.elem.toNat]? = some p1 := ⟨_, List.getElem?_eq_getElem hlt2⟩
        obtain ⟨up, uc, hps1⟩ := slice_of_own (h.mems _ (List.mem_of_getElem? hp1))
        simp only at hps1
        generalize r1.mem.length = un at hps1
        subst hps1
        have HN : Hid (declL rs (k + 1) r d = declL rs (r.elem.toNat + 1) r1 (aroundP d r r1.kind)) := by
          show _ = _
          rw [declL_step rs k r d _ hdv hp1, declL_more rs hF _ _ _ k hp1 (by omega)]
        have hsz := aroundP_size d r r1.kind hl3
        have HM := meas_at HE.out
        have hd2 : r.kind = 13 ∨ r.kind = 14 := by simpa [derivd] using hdv
        rw [if_pos hd2] at HM
        obtain ⟨g2, cap2, hv2, _, hcell⟩ := HT2.out.cell hp1
        have hgg : g2 = g := by rw [hv] at hv2; cases hv2; rfl
        subst hgg
        clear hv2
        have d0 := hcell 0 (by omega)
        have d1 := hcell 1 (by omega)
        have d2 := hcell 2 (by omega)
        have d3 := hcell 3 (by omega)
        have d4 := hcell 4 (by omega)
        have d5 := hcell 5 (by omega)
        simp only [rwCells, Nat.add_zero, List.getElem?_cons_succ, List.getElem?_cons_zero] at d0 d1 d2 d3 d4 d5
        obtain ⟨b0, b1, b2, b3, b4, b5⟩ := six HE.out
        obtain ⟨e, hee⟩ : ∃ e : Nat, r.elem = e := ⟨r.elem.toNat, by omega⟩
        have het : r.elem.toNat = e := by omega
        rw [het] at d0 d1 d2 d3 d4 d5 hlt2 he1 HN hp1 HM
        rw [hee] at b1
        have hb13 : (r.kind == 13) = true ∨ ((r.kind == 13) = false ∧ (r.kind == 14) = true) := by
          rcases hd2 with hh | hh
          · exact Or.inl (by simpa using hh)
          · exact Or.inr ⟨by simp; omega, by simpa using hh⟩
        clear hcell
        generalize hkr : r.kind = kd at b0 hb13
        have x0 := cell_old (.cells #[.int .i64 0, .int .i64 0, .int .i64 0, .string ⟨#[]⟩, .slice none 0 0, .bool false] TR) d0
        have x1 := cell_old (.cells #[.int .i64 0, .int .i64 0, .int .i64 0, .string ⟨#[]⟩, .slice none 0 0, .bool false] TR) d1
        have x2 := cell_old (.cells #[.int .i64 0, .int .i64 0, .int .i64 0, .string ⟨#[]⟩, .slice none 0 0, .bool false] TR) d2
        have x3 := cell_old (.cells #[.int .i64 0, .int .i64 0, .int .i64 0, .string ⟨#[]⟩, .slice none 0 0, .bool false] TR) d3
        have x4 := cell_old (.cells #[.int .i64 0, .int .i64 0, .int .i64 0, .string ⟨#[]⟩, .slice none 0 0, .bool false] TR) d4
        have x5 := cell_old (.cells #[.int .i64 0, .int .i64 0, .int .i64 0, .string ⟨#[]⟩, .slice none 0 0, .bool false] TR) d5
        have y0 := cell_old (.cells #[.int .i64 0, .int .i64 0, .int .i64 0, .string ⟨#[]⟩, .slice none 0 0, .bool false] TR) q0
        have y1 := cell_old (.cells #[.int .i64 0, .int .i64 0, .int .i64 0, .string ⟨#[]⟩, .slice none 0 0, .bool false] TR) b1
        have W1 : Below w.heap.size w (wr.alloc (.cells #[.int .i64 r1.kind, .int .i64 r1.elem, .int .i64 r1.len, .string r1.tag, .slice up un uc, .bool r1.done] TR)).drew := (HB.out.alloc HB.out.size _).trans (below_drew _ _)
        have W2 : Below wr.heap.size wr (wr.alloc (.cells #[.int .i64 r1.kind, .int .i64 r1.elem, .int .i64 r1.len, .string r1.tag, .slice up un uc, .bool r1.done] TR)).drew := ((Below.refl _ wr).alloc (Nat.le_refl _) _).trans (below_drew _ _)
        have W3 : (wr.alloc (.cells #[.int .i64 r1.kind, .int .i64 r1.elem, .int .i64 r1.len, .string r1.tag, .slice up un uc, .bool r1.done] TR)).drew.heap[wr.heap.size]? = some (.cells (rwCells r1 (.slice up un uc)).toArray TR (0, 0)) := heap_r0 wr _
        have hw0 : w.heap.size < wr.heap.size := lt_of_heap HE.out
        have HS1 : Hid _ := W1
        have HS2 : Hid _ := W2
        have HS3 : Hid (_ = _) := W3
        clear W1 W2 W3
        have HKR : Hid (_ = _) := hkr
        have HEE : Hid (_ = _) := hee
        have HET : Hid (_ = _) := het
        have HHM : Hid (_ = _) := HM
        clear hkr hee het HM hd2 hdv
        rcases hb13 with hb13 | ⟨hb13, hb14⟩
        all_goals go_wp2
        all_goals go_region
        all_goals
          generalize (wr.alloc (.cells #[.int .i64 r1.kind, .int .i64 r1.elem, .int .i64 r1.len, .string r1.tag, .slice up un uc, .bool r1.done] TR)).drew = W at *
          have HEW : W.heap[w.heap.size]? = some (.cells (rwCells r (.slice tp tn tc)).toArray TR (0, 0)) := (HS2.out.block _ hw0).trans HE.out
          obtain ⟨z0, z1, z2, z3, z4, z5⟩ := six HEW
          obtain ⟨v0, v1, v2, v3, v4, v5⟩ := six HS3.out
          have cA := around_c d r (.slice tp tn tc) r1.kind W (hTW.below HS2.out) (by omega) (by omega) (by omega) hl3
          have hlt3 : wr.heap.size < W.heap.size := lt_of_heap HS3.out
          have hlt4 : w.heap.size < W.heap.size := lt_of_heap HEW
          have HEWH : Hid (_ = _) := HEW
          clear x0 x1 x2 x3 x4 x5 y0 y1 d0 d1 d2 d3 d4 d5 b0 b1 b2 b3 b4 b5 q0 HEW
          go_wp2_with (first | (go_at_call 64; refine cA.mono ?_; rintro x w3 ⟨rfl, hb3⟩; have hold3 := (hb3.block _ hlt4).trans HEWH.out; have hnew3 := (hb3.block _ hlt3).trans HS3.out; obtain ⟨m0, m1, m2, m3, m4, m5⟩ := six hnew3; have HB3 : Hid (Below _ _ w3) := hb3; clear hb3 hnew3) | ((with_reducible apply step_store hold3); rfl; rfl; kernel_rfl; rfl; kernel_rfl))
          have hnew := setRow_heap w3 w.heap.size _ (rwCells r1 (.slice up un uc)).toArray _ _ hold3
          refine ⟨?_, ?_⟩
          · exact ⟨e, r1, up, un, uc, aroundP d r r1.kind, hp1, rfl, by omega, by omega, hnew, HD.out.trans HN.out, below_setRow (HS1.out.trans (HB3.out.mono HS1.out.size)) (Nat.le_refl _) _⟩
          · have hm2 := meas_at hnew
            have hm3 := HHM.out
            refine Nat.lt_of_le_of_lt (Nat.le_of_eq hm2) ?_
            rw [hm3]
            split
            · rename_i hr1
              have := (hF.ahead e _ hp1 (by simpa [derivd] using hr1)).2
              simp only at this
              omega
            · omega
      | false =>
        have hd2 : ¬ (r.kind = 13 ∨ r.kind = 14) := by simpa [derivd] using hdv
        have hb13 : (r.kind == 13) = false := by simp; omega
        have hb14 : (r.kind == 14) = false := by simp; omega
        have HDD : Hid (D = (r, d)) := HD.out.trans (declL_stop _ _ _ _ hdv)
        obtain ⟨b0, b1, b2, b3, b4, b5⟩ := six HE.out
        have cB := fun W' (hbb : Below wr.heap.size wr W') => base_c r (.slice tp tn tc) W' (hNW.below hbb) (by simp only at hk1 hk2; omega) (by simp only at htg; omega)
        have hbs : (baseP r).size ≤ 200 := baseP_size r (by simp only at htg; omega)
        have k1 := fun W => run_string_add_sum (P := Tryz.prog) W (baseP r) ⟨#[32]⟩ (by show (baseP r).size + 1 ≤ _; omega)
        have s1 : (baseP r ++ ⟨#[32]⟩ : ByteArray).size = (baseP r).size + 1 := by rw [ByteArray.size_append]; rfl
        have k2 := fun W => run_string_add_sum (P := Tryz.prog) W (baseP r ++ ⟨#[32]⟩) d (by rw [s1]; omega)
        clear s1
        rcases hde : (d.toList == []) with _ | _
        · have HR2 : RES = baseP r ++ ⟨#[32]⟩ ++ d := by rw [HRES.out, HDD.out]; simp only [hde]; rfl
          subst HR2
          go_wp2_with (go_at_call 65; refine (cB _ (by exact Below.refl _ _)).mono ?_; rintro x w3 ⟨rfl, hb3⟩)
          go_ret2
          exact ⟨rfl, HB.out.trans (hb3.mono HB.out.size)⟩
        · have HR2 : RES = baseP r := by rw [HRES.out, HDD.out]; simp only [hde]; rfl
          subst HR2
          go_wp2_with (go_at_call 65; refine (cB _ (by exact Below.refl _ _)).mono ?_; rintro x w3 ⟨rfl, hb3⟩)
          go_ret2
          exact ⟨rfl, HB.out.trans (hb3.mono HB.out.size)⟩
  · rw [ht] at c3
    go_enter Tryz.func31, Tryz.ntmps31
    go_wp2_with (first | (go_at_call 39; refine c3.mono ?_; rintro e w' ⟨rfl, hw⟩; rw [hw]; clear hw w') | (go_at_call 41; refine c1.mono ?_; rintro e w' ⟨rfl, hw⟩; rw [hw]; clear hw w') | (go_at_call 51; refine c2.mono ?_; rintro e w' ⟨rfl, hw⟩; rw [hw]; clear hw w') | ((with_reducible apply step_store hold); rfl; rfl; kernel_rfl; rfl; kernel_rfl; rw [World.setRow_alloc_new]))
    clear c1 c2 c3 a0 a1 a2 a3 a4 a5 hold
    go_loopw [9] (fun dv wr => ∃ (k : Nat) (r : Rw) (sp : Option Addr) (sn sc : Nat) (d : ByteArray), rs[k]? = some (r, .slice sp sn sc) ∧ dv = .string d ∧ k ≤ i ∧ d.size + 110 * k ≤ 100 + 110 * i ∧ Hid (wr.heap[w.heap.size]? = some (.cells (rwCells r (.slice sp sn sc)).toArray TR (0, 0))) ∧ Hid (D = declL rs (k + 1) r d) ∧ Hid (Below w.heap.size w wr)) (fun _ wr => meas w.heap.size wr)
    case atStart => exact ⟨i, r0, sp, sn, sc, nm, hp, rfl, Nat.le_refl _, by omega, HE0, HOLD, HB0⟩
    case round =>
      obtain ⟨k, r, tp, tn, tc, d, hk, rfl, hki, hds, HE, HD, HB⟩ := hrel
      have HT2 : Hid (Tab B wr b mb v rs ps) := h.keptB HB.out
      have q0 : wr.cell? ⟨b, 0, none⟩ = some (.slice (some ⟨g, 0, none⟩) rs.length cap) := by rw [← hv]; exact HT2.out.c0
      have hTW := hT.below HB.out
      have hNW := hN.below HB.out
      have hkm := List.mem_of_getElem? hk
      obtain ⟨hl1, hl2, hl3⟩ := hF.lens _ hkm
      obtain ⟨hk1, hk2⟩ := hF.kind _ hkm
      have htg := hF.tags _ hkm
      cases hdv : derivd r with
      | true =>
        obtain ⟨he0, he1⟩ := hF.ahead k _ hk hdv
        simp only at he0 he1 hl1 hl2 hl3
        have hlt2 : r.elem.toNat < rs.length := by omega
        obtain ⟨⟨r1, s1⟩, hp1⟩ : ∃ p1, rs[r.elem.toNat]? = some p1 := ⟨_, List.getElem?_eq_getElem hlt2⟩
        obtain ⟨up, uc, hps1⟩ := slice_of_own (h.mems _ (List.mem_of_getElem? hp1))
        simp only at hps1
        generalize r1.mem.length = un at hps1
        subst hps1
        have HN : Hid (declL rs (k + 1) r d = declL rs (r.elem.toNat + 1) r1 (aroundP d r r1.kind)) := by
          show _ = _
          rw [declL_step rs k r d _ hdv hp1, declL_more rs hF _ _ _ k hp1 (by omega)]
        have hsz := aroundP_size d r r1.kind hl3
        have HM := meas_at HE.out
        have hd2 : r.kind = 13 ∨ r.kind = 14 := by simpa [derivd] using hdv
        rw [if_pos hd2] at HM
        obtain ⟨g2, cap2, hv2, _, hcell⟩ := HT2.out.cell hp1
        have hgg : g2 = g := by rw [hv] at hv2; cases hv2; rfl
        subst hgg
        clear hv2
        have d0 := hcell 0 (by omega)
        have d1 := hcell 1 (by omega)
        have d2 := hcell 2 (by omega)
        have d3 := hcell 3 (by omega)
        have d4 := hcell 4 (by omega)
        have d5 := hcell 5 (by omega)
        simp only [rwCells, Nat.add_zero, List.getElem?_cons_succ, List.getElem?_cons_zero] at d0 d1 d2 d3 d4 d5
        obtain ⟨b0, b1, b2, b3, b4, b5⟩ := six HE.out
        obtain ⟨e, hee⟩ : ∃ e : Nat, r.elem = e := ⟨r.elem.toNat, by omega⟩
        have het : r.elem.toNat = e := by omega
        rw [het] at d0 d1 d2 d3 d4 d5 hlt2 he1 HN hp1 HM
        rw [hee] at b1
        have hb13 : (r.kind == 13) = true ∨ ((r.kind == 13) = false ∧ (r.kind == 14) = true) := by
          rcases hd2 with hh | hh
          · exact Or.inl (by simpa using hh)
          · exact Or.inr ⟨by simp; omega, by simpa using hh⟩
        clear hcell
        generalize hkr : r.kind = kd at b0 hb13
        have x0 := cell_old (.cells #[.int .i64 0, .int .i64 0, .int .i64 0, .string ⟨#[]⟩, .slice none 0 0, .bool false] TR) d0
        have x1 := cell_old (.cells #[.int .i64 0, .int .i64 0, .int .i64 0, .string ⟨#[]⟩, .slice none 0 0, .bool false] TR) d1
        have x2 := cell_old (.cells #[.int .i64 0, .int .i64 0, .int .i64 0, .string ⟨#[]⟩, .slice none 0 0, .bool false] TR) d2
        have x3 := cell_old (.cells #[.int .i64 0, .int .i64 0, .int .i64 0, .string ⟨#[]⟩, .slice none 0 0, .bool false] TR) d3
        have x4 := cell_old (.cells #[.int .i64 0, .int .i64 0, .int .i64 0, .string ⟨#[]⟩, .slice none 0 0, .bool false] TR) d4
        have x5 := cell_old (.cells #[.int .i64 0, .int .i64 0, .int .i64 0, .string ⟨#[]⟩, .slice none 0 0, .bool false] TR) d5
        have y0 := cell_old (.cells #[.int .i64 0, .int .i64 0, .int .i64 0, .string ⟨#[]⟩, .slice none 0 0, .bool false] TR) q0
        have y1 := cell_old (.cells #[.int .i64 0, .int .i64 0, .int .i64 0, .string ⟨#[]⟩, .slice none 0 0, .bool false] TR) b1
        have W1 : Below w.heap.size w (wr.alloc (.cells #[.int .i64 r1.kind, .int .i64 r1.elem, .int .i64 r1.len, .string r1.tag, .slice up un uc, .bool r1.done] TR)).drew := (HB.out.alloc HB.out.size _).trans (below_drew _ _)
        have W2 : Below wr.heap.size wr (wr.alloc (.cells #[.int .i64 r1.kind, .int .i64 r1.elem, .int .i64 r1.len, .string r1.tag, .slice up un uc, .bool r1.done] TR)).drew := ((Below.refl _ wr).alloc (Nat.le_refl _) _).trans (below_drew _ _)
        have W3 : (wr.alloc (.cells #[.int .i64 r1.kind, .int .i64 r1.elem, .int .i64 r1.len, .string r1.tag, .slice up un uc, .bool r1.done] TR)).drew.heap[wr.heap.size]? = some (.cells (rwCells r1 (.slice up un uc)).toArray TR (0, 0)) := heap_r0 wr _
        have hw0 : w.heap.size < wr.heap.size := lt_of_heap HE.out
        have HS1 : Hid _ := W1
        have HS2 : Hid _ := W2
        have HS3 : Hid (_ = _) := W3
        clear W1 W2 W3
        have HKR : Hid (_ = _) := hkr
        have HEE : Hid (_ = _) := hee
        have HET : Hid (_ = _) := het
        have HHM : Hid (_ = _) := HM
        clear hkr hee het HM hd2 hdv
        rcases hb13 with hb13 | ⟨hb13, hb14⟩
        all_goals go_wp2
        all_goals go_region
        all_goals
          generalize (wr.alloc (.cells #[.int .i64 r1.kind, .int .i64 r1.elem, .int .i64 r1.len, .string r1.tag, .slice up un uc, .bool r1.done] TR)).drew = W at *
          have HEW : W.heap[w.heap.size]? = some (.cells (rwCells r (.slice tp tn tc)).toArray TR (0, 0)) := (HS2.out.block _ hw0).trans HE.out
          obtain ⟨z0, z1, z2, z3, z4, z5⟩ := six HEW
          obtain ⟨v0, v1, v2, v3, v4, v5⟩ := six HS3.out
          have cA := around_c d r (.slice tp tn tc) r1.kind W (hTW.below HS2.out) (by omega) (by omega) (by omega) hl3
          have hlt3 : wr.heap.size < W.heap.size := lt_of_heap HS3.out
          have hlt4 : w.heap.size < W.heap.size := lt_of_heap HEW
          have HEWH : Hid (_ = _) := HEW
          clear x0 x1 x2 x3 x4 x5 y0 y1 d0 d1 d2 d3 d4 d5 b0 b1 b2 b3 b4 b5 q0 HEW
          go_wp2_with (first | (go_at_call 64; refine cA.mono ?_; rintro x w3 ⟨rfl, hb3⟩; have hold3 := (hb3.block _ hlt4).trans HEWH.out; have hnew3 := (hb3.block _ hlt3).trans HS3.out; obtain ⟨m0, m1, m2, m3, m4, m5⟩ := six hnew3; have HB3 : Hid (Below _ _ w3) := hb3; clear hb3 hnew3) | ((with_reducible apply step_store hold3); rfl; rfl; kernel_rfl; rfl; kernel_rfl))
          have hnew := setRow_heap w3 w.heap.size _ (rwCells r1 (.slice up un uc)).toArray _ _ hold3
          refine ⟨?_, ?_⟩
          · exact ⟨e, r1, up, un, uc, aroundP d r r1.kind, hp1, rfl, by omega, by omega, hnew, HD.out.trans HN.out, below_setRow (HS1.out.trans (HB3.out.mono HS1.out.size)) (Nat.le_refl _) _⟩
          · have hm2 := meas_at hnew
            have hm3 := HHM.out
            refine Nat.lt_of_le_of_lt (Nat.le_of_eq hm2) ?_
            rw [hm3]
            split
            · rename_i hr1
              have := (hF.ahead e _ hp1 (by simpa [derivd] using hr1)).2
              simp only at this
              omega
            · omega
      | false =>
        have hd2 : ¬ (r.kind = 13 ∨ r.kind = 14) := by simpa [derivd] using hdv
        have hb13 : (r.kind == 13) = false := by simp; omega
        have hb14 : (r.kind == 14) = false := by simp; omega
        have HDD : Hid (D = (r, d)) := HD.out.trans (declL_stop _ _ _ _ hdv)
        obtain ⟨b0, b1, b2, b3, b4, b5⟩ := six HE.out
        have cB := fun W' (hbb : Below wr.heap.size wr W') => base_c r (.slice tp tn tc) W' (hNW.below hbb) (by simp only at hk1 hk2; omega) (by simp only at htg; omega)
        have hbs : (baseP r).size ≤ 200 := baseP_size r (by simp only at htg; omega)
        have k1 := fun W => run_string_add_sum (P := Tryz.prog) W (baseP r) ⟨#[32]⟩ (by show (baseP r).size + 1 ≤ _; omega)
        have s1 : (baseP r ++ ⟨#[32]⟩ : ByteArray).size = (baseP r).size + 1 := by rw [ByteArray.size_append]; rfl
        have k2 := fun W => run_string_add_sum (P := Tryz.prog) W (baseP r ++ ⟨#[32]⟩) d (by rw [s1]; omega)
        clear s1
        rcases hde : (d.toList == []) with _ | _
        · have HR2 : RES = baseP r ++ ⟨#[32]⟩ ++ d := by rw [HRES.out, HDD.out]; simp only [hde]; rfl
          subst HR2
          go_wp2_with (go_at_call 65; refine (cB _ (by exact Below.refl _ _)).mono ?_; rintro x w3 ⟨rfl, hb3⟩)
          go_ret2
          exact ⟨rfl, HB.out.trans (hb3.mono HB.out.size)⟩
        · have HR2 : RES = baseP r := by rw [HRES.out, HDD.out]; simp only [hde]; rfl
          subst HR2
          go_wp2_with (go_at_call 65; refine (cB _ (by exact Below.refl _ _)).mono ?_; rintro x w3 ⟨rfl, hb3⟩)
          go_ret2
          exact ⟨rfl, HB.out.trans (hb3.mono HB.out.size)⟩
end
end Go.Proofs.YtdfkkflpcamhjaaGreatDoor
