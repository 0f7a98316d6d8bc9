/-
  The law LayoutApart's own walk.
-/
import Derived.Test.YtcapcjeadmlefaaLyAp
import Derived.Test.YtcapcjeadmlefaaHLyNo
import Derived.Test.YtcapcjeadmlefaaHRowOpen
import Derived.BigQuiet
import Derived.Deep.RegionHeld3
namespace Go.Proofs.Ytcapcjeadmlefaa
open Go.RowKit Go.Maps
set_option linter.unusedVariables false
set_option maxRecDepth 100000
section
variable {B : Nat} {w : World} {b mb : Nat} {v : Value} {rs : List (Rw × Value)} {ps : List (Value × Value)} {M : Int → Ex}
set_option maxHeartbeats 4000000 in
theorem span_c (P : Pl) (n : Int) (c : ∀ Y, Below w.heap.size w Y → Calls Try.prog 10 #[.pointer (some ⟨b, 0, none⟩), .int .i64 P.type] Y fun e w' => e = .returned (.tuple #[.int .i64 n, .int .i64 0]) ∧ Below Y.heap.size Y w')
    (h1 : 0 ≤ P.off ∧ P.off ≤ 16384) (h2 : 0 ≤ P.bit ∧ P.bit ≤ 131072) (h3 : 0 ≤ P.bits ∧ P.bits ≤ 131072) (h4 : 0 ≤ n ∧ n ≤ 16384) (h5 : ¬ 0 < P.bits → P.bit = 0) :
    Calls Try.prog 17 #[.pointer (some ⟨b, 0, none⟩), .agg (plV P)] w fun e w' => e = .returned (.tuple #[.int .i64 (8 * P.off + P.bit), .int .i64 (if 0 < P.bits then 8 * P.off + P.bit + P.bits else 8 * P.off + 8 * n), .bool true]) ∧ Below w.heap.size w w' := by
  obtain ⟨pm, pt, po, pb, pbs⟩ := P
  simp only at *
  have b1 := below1 w (.cells #[.int .i64 pm, .int .i64 pt, .int .i64 po, .int .i64 pb, .int .i64 pbs] TPl)
  have N1 := heap_r0 w (.cells #[.int .i64 pm, .int .i64 pt, .int .i64 po, .int .i64 pb, .int .i64 pbs] TPl)
  have c1 := c _ b1
  have HB1 : Hid (Below _ _ _) := b1
  have HN1 : Hid (_ = _) := N1
  clear c b1 N1
  by_cases hb : 0 < pbs
  · rw [if_pos hb]
    clear h5
    go_enter Try.func17, Try.ntmps17
    go_upto_region 1 with (fail)
    refine (?_ : Code.wp _ _ _ _ (w.alloc (.cells #[.int .i64 pm, .int .i64 pt, .int .i64 po, .int .i64 pb, .int .i64 pbs] TPl)))
    generalize w.alloc (.cells #[.int .i64 pm, .int .i64 pt, .int .i64 po, .int .i64 pb, .int .i64 pbs] TPl) = W1 at *
    have k2 := Lib.cell_of_heap HN1.out 2
    have k3 := Lib.cell_of_heap HN1.out 3
    have k4 := Lib.cell_of_heap HN1.out 4
    simp only [List.getElem?_toArray, List.getElem?_cons_zero, List.getElem?_cons_succ] at k2 k3 k4
    clear c1
    go_wp2
    go_quiet (fail)
    go_wp2
    go_ret3
    exact ⟨rfl, ⟨HB1.out.os, HB1.out.tape, HB1.out.output, HB1.out.size, HB1.out.block⟩⟩
  · have hpb := h5 hb
    subst hpb
    rw [if_neg hb, Int.add_zero]
    go_enter Try.func17, Try.ntmps17
    go_upto_region 1 with (fail)
    refine (?_ : Code.wp _ _ _ _ (w.alloc (.cells #[.int .i64 pm, .int .i64 pt, .int .i64 po, .int .i64 0, .int .i64 pbs] TPl)))
    generalize w.alloc (.cells #[.int .i64 pm, .int .i64 pt, .int .i64 po, .int .i64 0, .int .i64 pbs] TPl) = W1 at *
    have k1 := Lib.cell_of_heap HN1.out 1
    have k4 := Lib.cell_of_heap HN1.out 4
    simp only [List.getElem?_toArray, List.getElem?_cons_zero, List.getElem?_cons_succ] at k1 k4
    go_wp2_with fail
    refine c1.mono ?_
    rintro e w2 ⟨rfl, hb2⟩
    have k2 := Lib.cell_of_heap (blk_b HN1.out hb2) 2
    simp only [List.getElem?_toArray, List.getElem?_cons_zero, List.getElem?_cons_succ] at k2
    have HB2 : Hid (Below w.heap.size w w2) := HB1.out.trans (hb2.mono HB1.out.size)
    clear c1 hb2 k1 k4
    go_wp2
    go_quiet (fail)
    go_wp2
    go_ret3
    exact ⟨rfl, ⟨HB2.out.os, HB2.out.tape, HB2.out.output, HB2.out.size, HB2.out.block⟩⟩
end
theorem cell_nw (w : World) (cs : Array Value) (t : TypeId) (j : Nat) : (w.alloc (.cells cs t)).cell? ⟨w.heap.size, j, none⟩ = cs[j]? := Lib.cell_of_heap (heap_r0 w _) j
theorem below_dr {B : Nat} {w w' : World} (h : Below B w w') (n : Nat) : Below B w (w'.drewN n) := ⟨h.os, h.tape, h.output, h.size, h.block⟩
theorem pl_at : ∀ (l : List Pl) (i : Nat) (P : Pl), l[i]? = some P → ∀ k, k < 5 → (plCells l)[i * 5 + k]? = (plV P).toList[k]?
  | [], i, P, h, _, _ => by simp at h
  | a :: l, 0, P, h, k, hk => by
    simp only [List.getElem?_cons_zero, Option.some.injEq] at h
    subst h
    simp only [plCells, List.flatMap_cons, Nat.zero_mul, Nat.zero_add]
    rw [List.getElem?_append_left (by simpa using hk)]
  | a :: l, i + 1, P, h, k, hk => by
    simp only [List.getElem?_cons_succ] at h
    have := pl_at l i P h k hk
    simp only [plCells, List.flatMap_cons]
    rw [List.getElem?_append_right (by simp; omega), show (i + 1) * 5 + k - (plV a).toList.length = i * 5 + k by simp; omega]
    exact this
theorem pl_len {un : Bool} {M : Int → Ex} : ∀ (l : List Mb) (s : Ls) (i : Nat), (placesS un M s i l).length ≤ l.length
  | [], _, _ => by simp [placesS]
  | m :: l, s, i => by
    have := pl_len (un := un) (M := M) l (stepP un M s m) (i + 1)
    simp only [placesS, List.length_append, List.length_cons]
    split <;> simp <;> omega
theorem ref_at {B : Nat} {w1 : World} {b mb : Nat} {tv : Value} {trs rrs : List (Rw × Value)} {rb : Nat} {rv : Value} {i : Nat} {p : Rw × Value} (hD : Duo B w1 b mb tv trs rb rv rrs) (hp : trs[i]? = some p) :
    ∃ (gr or' cr : Nat) (sp : Option Addr) (mc : Nat), rv = .slice (some ⟨gr, or', none⟩) trs.length cr ∧ trs.length ≤ cr ∧
      (∀ Y, Below w1.heap.size w1 Y → Y.cell? ⟨rb, 0, none⟩ = some (.slice (some ⟨gr, or', none⟩) trs.length cr) ∧ Y.cell? ⟨gr, or' + i * 6, none⟩ = some (.int .i64 p.1.kind) ∧ Y.cell? ⟨gr, or' + i * 6 + 4, none⟩ = some (.slice sp p.1.mem.length mc)) ∧
      (∀ (j : Nat) (m : Mb), p.1.mem[j]? = some m → ∃ gm om, sp = some ⟨gm, om, none⟩ ∧ p.1.mem.length ≤ mc ∧ ∀ Y, Below w1.heap.size w1 Y → ∀ k, k < 3 → Y.cell? ⟨gm, om + j * 3 + k, none⟩ = (mbCells m)[k]?) := by
  have hlen : rrs.length = trs.length := by have := congrArg List.length hD.same; simpa using this
  obtain ⟨q, hq, hqp⟩ : ∃ q, rrs[i]? = some q ∧ q.1 = p.1 := by
    have hlt : i < rrs.length := by rw [hlen]; exact (List.getElem?_eq_some_iff.1 hp).1
    refine ⟨rrs[i], List.getElem?_eq_getElem hlt, ?_⟩
    have := congrArg (fun l => l[i]?) hD.same
    simp only [List.getElem?_map, hp, List.getElem?_eq_getElem hlt, Option.map_some, Option.some.injEq] at this
    exact this
  have hs := hD.ref.rowSl
  rcases hs.1 with ⟨_, h0⟩ | ⟨g, o, cap, h1, h2, h3, h4⟩
  · rw [h0] at hq; simp at hq
  · have hc := h4 i q hq
    have hm := hs.2 q (List.mem_of_getElem? hq)
    obtain ⟨sp, mc, hsp⟩ : ∃ sp mc, q.2 = .slice sp p.1.mem.length mc := by
      rcases hm with ⟨e1, e2⟩ | ⟨gm, om, mc, e1, _⟩
      · exact ⟨none, 0, by rw [e1, ← hqp, e2]; rfl⟩
      · exact ⟨_, _, by rw [e1, hqp]⟩
    rw [hlen] at h1 h2
    refine ⟨g, o, cap, sp, mc, h1, h2, fun Y hY => ⟨?_, ?_, ?_⟩, fun j m hj => ?_⟩
    · rw [← h1]; exact (hD.ref.keptB hY).c0
    · rw [hY.cell (p := ⟨g, o + i * 6, none⟩) h3]
      have := hc 0 (by omega)
      simp only [Nat.add_zero, rwCells, List.getElem?_cons_zero] at this
      rw [this, hqp]
    · rw [hY.cell (p := ⟨g, o + i * 6 + 4, none⟩) h3]
      have := hc 4 (by omega)
      simp only [rwCells, List.getElem?_cons_zero, List.getElem?_cons_succ] at this
      rw [this, hsp]
    · rcases hm with ⟨e1, e2⟩ | ⟨gm, om, mc', e1, e2, e3, e4⟩
      · rw [← hqp, e2] at hj; simp at hj
      · rw [hsp] at e1
        injection e1 with e5 e6 e7
        refine ⟨gm, om, e5, by rw [e7, ← hqp]; exact e2, fun Y hY k hk => ?_⟩
        rw [hY.cell (p := ⟨gm, om + j * 3 + k, none⟩) e3]
        exact e4 j m (by rw [hqp]; exact hj) k hk
/-- A world that grew by new blocks only. -/
def SBl (W Y : World) : Prop := Below W.heap.size W Y
theorem SBl.drew {W Y : World} (h : SBl W Y) : SBl W Y.drew := ⟨h.os, h.tape, h.output, h.size, h.block⟩
theorem SBl.alloc {W Y : World} (h : SBl W Y) (o : Obj) : SBl W (Y.alloc o) := Below.alloc h h.size o
theorem SBl.drN (W : World) (n : Nat) : SBl W (W.drewN n) := below_dr (Below.refl _ _) n
section
variable {w : World}
set_option maxHeartbeats 32000000 in
theorem apart_c {v : Value} {rs : List (Rw × Value)} (h : RowIn w v rs) (hl : rs.length * 72 ≤ 140737488355328) (hO : ∀ p ∈ rs, Okay p.1) (id : Int) :
    Calls Try.prog 6 #[v, .int .i64 id] w fun e w' => e = .returned (.bool true) ∧ Below w.heap.size w w' := by
  have cB := both_c h hl hO
  have HH : Hid (∀ Y, Below w.heap.size w Y → Calls Try.prog 8 #[] Y fun e w' => e = .returned (.bool true) ∧ Below w.heap.size w w') := fun Y hY => (heads_c Y).mono fun e w' ⟨he, hb⟩ => ⟨he, hY.trans (hb.mono hY.size)⟩
  have nt := not_t
  have nf := not_f
  clear h hl hO
  go_enter Try.func6, Try.ntmps6
  go_wp2_with fail
  refine cB.mono ?_
  rintro e w1 ⟨rfl | ⟨b, mb, tv, trs, rb, rv, rrs, rfl, hD⟩, hb1⟩
  · have H1 : Hid (Below w.heap.size w w1) := hb1
    clear hb1 cB
    go_wp2_with fail
    refine (HH.out _ H1.out).mono ?_
    rintro e wz ⟨rfl, hbz⟩
    have HZ : Hid (Below w.heap.size w wz) := hbz
    clear hbz
    go_wp2
    go_ret
    exact ⟨rfl, HZ.out⟩
  have H1 : Hid (Below w.heap.size w w1) := hb1
  have HD : Hid (Duo w.heap.size w1 b mb tv trs rb rv rrs) := hD
  have cR := rRecord_c hD.rt id
  have hkk : kindP rrs id = kindP trs id := kindP_fst hD.same id
  rw [hkk] at cR
  clear cB hb1 hD hkk
  cases hk : recK (kindP trs id) with
  | false =>
    rw [hk] at cR
    go_wp2_with fail
    refine cR.mono ?_
    rintro e w' ⟨rfl, hw⟩
    rw [hw]; clear hw w' cR
    go_wp2_with fail
    refine (HH.out _ H1.out).mono ?_
    rintro e wz ⟨rfl, hbz⟩
    have HZ : Hid (Below w.heap.size w wz) := hbz
    clear hbz
    go_wp2
    go_ret
    exact ⟨rfl, HZ.out⟩
  | true =>
    rw [hk] at cR
    go_wp2_with fail
    refine cR.mono ?_
    rintro e w' ⟨rfl, hw⟩
    rw [hw]; clear hw w' cR
    obtain ⟨i, p, rfl, hp, hkp⟩ : ∃ (i : Nat) (p : Rw × Value), id = i ∧ trs[i]? = some p ∧ recK p.1.kind = true := by
      cases hh : hasP trs.length id with
      | false => rw [kindP_none hh] at hk; exact absurd hk (by decide)
      | true =>
        obtain ⟨i, p, rfl, hp⟩ := has_at hh
        rw [kindP_some hp] at hk
        exact ⟨i, p, rfl, hp, hk⟩
    obtain ⟨M, hM⟩ := meas_exists HD.out.ok
    have hlt : i < trs.length := (List.getElem?_eq_some_iff.1 hp).1
    have h512 := HD.out.tab.len
    have hh : hasP trs.length (i : Int) = true := by simp [hasP]; omega
    have HT : Hid (∀ Y, Below w1.heap.size w1 Y → Tab w.heap.size Y b mb tv trs (pairs (rowsOf trs))) := fun Y hY => HD.out.tab.keptB hY
    have HSZ : Hid (∀ id Y, Below w1.heap.size w1 Y → Calls Try.prog 10 #[.pointer (some ⟨b, 0, none⟩), .int .i64 id] Y fun e w' => e = .returned (.tuple #[.int .i64 (openX trs M id).size, .int .i64 (openE trs M id)]) ∧ Below Y.heap.size Y w') := fun id Y hY => size_c (HT.out Y hY) (by omega) HD.out.small HD.out.ok hM id
    have HAL : Hid (∀ id Y, Below w1.heap.size w1 Y → Calls Try.prog 11 #[.pointer (some ⟨b, 0, none⟩), .int .i64 id] Y fun e w' => e = .returned (.tuple #[.int .i64 (openX trs M id).align, .int .i64 (openE trs M id)]) ∧ Below Y.heap.size Y w') := fun id Y hY => align_c (HT.out Y hY) (by omega) HD.out.small HD.out.ok hM id
    by_cases hgood : wholeR p.1 = true ∧ (M i).size ≤ 16384
    · obtain ⟨hwh, hgt⟩ := hgood
      have cP := places_ok HD.out.tab HD.out.small HD.out.ok hM hp hwh hgt hkp
      have hX := openE_ok (rs := trs) (M := M) (id := (i : Int)) hh (by rw [wholeP_at hp]; exact hwh) hgt
      go_wp2_with fail
      refine cP.mono ?_
      rintro e w2 ⟨sl, rfl, ho, hb2⟩
      have H2 : Hid (Below w1.heap.size w1 w2) := hb2
      have O2 : Hid (w2.ownsRow w1.heap.size TPl 5 sl (placesS (p.1.kind == 16) M ls0 0 p.1.mem).length (plCells (placesS (p.1.kind == 16) M ls0 0 p.1.mem))) := ho
      have cS := HSZ.out i w2 H2.out
      rw [hX.1, hX.2] at cS
      clear cP ho hb2
      go_wp2_with fail
      refine cS.mono ?_
      rintro e w3 ⟨rfl, hb3⟩
      have H3 : Hid (Below w1.heap.size w1 w3) := H2.out.trans (hb3.mono H2.out.size)
      have O3 : Hid (w3.ownsRow w1.heap.size TPl 5 sl (placesS (p.1.kind == 16) M ls0 0 p.1.mem).length (plCells (placesS (p.1.kind == 16) M ls0 0 p.1.mem))) := ownsRow_turned O2.out (Turned.of_below hb3 (fun _ => False)) (fun _ _ h => h.elim)
      have cA := HAL.out i w3 H3.out
      rw [hX.1, hX.2] at cA
      clear cS hb3 H2 O2
      go_wp2_with fail
      refine cA.mono ?_
      rintro e w4 ⟨rfl, hb4⟩
      have H4 : Hid (Below w1.heap.size w1 w4) := H3.out.trans (hb4.mono H3.out.size)
      have O4 : Hid (w4.ownsRow w1.heap.size TPl 5 sl (placesS (p.1.kind == 16) M ls0 0 p.1.mem).length (plCells (placesS (p.1.kind == 16) M ls0 0 p.1.mem))) := ownsRow_turned O3.out (Turned.of_below hb4 (fun _ => False)) (fun _ _ h => h.elim)
      have hE := meas_ok HD.out.ok hM i p hp hwh
      have e1 := hE.lo
      have al := hE.al
      have hmod := size_mod HD.out.ok hM hp hwh hkp hgt
      have HONE : Hid (∀ P ∈ placesS (p.1.kind == 16) M ls0 0 p.1.mem, _) := fun P hP => apart_one HD.out.ok hM hp hwh hkp hgt hP
      have HTWO : Hid (p.1.kind = 15 → ∀ (s t : Nat) (P Q : Pl), s < t → (placesS (p.1.kind == 16) M ls0 0 p.1.mem)[s]? = some P → (placesS (p.1.kind == 16) M ls0 0 p.1.mem)[t]? = some Q → hiP M P ≤ loP Q) := fun hk s t P Q hst hP hQ => apart_two HD.out.ok hM hp hwh hk hst hP hQ
      have HBIT : Hid (∀ P ∈ placesS (p.1.kind == 16) M ls0 0 p.1.mem, ¬ 0 < P.bits → P.bit = 0) := fun P hP hb => by
        obtain ⟨_, _, j, m, q1, q2, q3, q4, q5, q6⟩ := place_all HD.out.ok hM hp hwh hkp hgt P hP
        by_cases hx : m.bits = -1
        · exact (q5 hx).2.1
        · exact absurd (q6 hx).2.1 hb
      have hpl : (placesS (p.1.kind == 16) M ls0 0 p.1.mem).length ≤ 64 := Nat.le_trans (pl_len _ _ _) (HD.out.small p (List.mem_of_getElem? hp))
      obtain ⟨q0, k0, rfl⟩ := slice_of_own O4.out
      clear cA hb4 H3 O3 hX hM
      generalize placesS (p.1.kind == 16) M ls0 0 p.1.mem = PL at *
      have hm1 : ¬ (M i).align < 1 := by omega
      have hm2 : ¬ (M i).size < 1 := by omega
      have hnz : (M (i : Int)).align ≠ 0 := by omega
      have htm : Int.tmod (M (i : Int)).size (M (i : Int)).align = 0 := by rw [Int.tmod_eq_emod_of_nonneg (by omega)]; exact hmod
      obtain ⟨gr, or', cr, sp, mc, hrv, hncr, HRF, HRM⟩ : ∃ (gr or' cr : Nat) (sp : Option Addr) (mc : Nat), rv = .slice (some ⟨gr, or', none⟩) trs.length cr ∧ trs.length ≤ cr ∧
          Hid (∀ Y, Below w1.heap.size w1 Y → Y.cell? ⟨rb, 0, none⟩ = some (.slice (some ⟨gr, or', none⟩) trs.length cr) ∧ Y.cell? ⟨gr, or' + i * 6, none⟩ = some (.int .i64 p.1.kind) ∧ Y.cell? ⟨gr, or' + i * 6 + 4, none⟩ = some (.slice sp p.1.mem.length mc)) ∧
          Hid (∀ j m, p.1.mem[j]? = some m → ∃ gm om, sp = some ⟨gm, om, none⟩ ∧ p.1.mem.length ≤ mc ∧ ∀ Y, Below w1.heap.size w1 Y → ∀ k, k < 3 → Y.cell? ⟨gm, om + j * 3 + k, none⟩ = (mbCells m)[k]?) := ref_at HD.out hp
      subst hrv
      go_wp2
      go_loopw [14] (fun iv wr => ∃ t : Nat, t ≤ PL.length ∧ iv = .int .i64 t ∧ Hid (Below w4.heap.size w4 wr)) (fun iv _ => PL.length - (intOf iv).toNat)
      case atStart => exact ⟨0, Nat.zero_le _, rfl, Below.refl _ _⟩
      case round =>
        obtain ⟨t, ht, rfl, HW⟩ := hrel
        have HW1 : Hid (Below w1.heap.size w1 wr) := H4.out.trans (HW.out.mono H4.out.size)
        by_cases hlt2 : t < PL.length
        · obtain ⟨P, hP⟩ : ∃ P, PL[t]? = some P := ⟨_, List.getElem?_eq_getElem hlt2⟩
          obtain ⟨g1, k1', hs1, hg1, hgl1, hk1, hcl1, _⟩ := own_cell (ownsRow_turned O4.out (Turned.of_below HW.out (fun _ => False)) (fun _ _ h => h.elim)) (by omega)
          cases hs1
          have a0 := hcl1 (t * 5 + 0) _ ((pl_at PL t P hP 0 (by omega)).trans rfl)
          have a1 := hcl1 (t * 5 + 1) _ ((pl_at PL t P hP 1 (by omega)).trans rfl)
          have a2 := hcl1 (t * 5 + 2) _ ((pl_at PL t P hP 2 (by omega)).trans rfl)
          have a3 := hcl1 (t * 5 + 3) _ ((pl_at PL t P hP 3 (by omega)).trans rfl)
          have a4 := hcl1 (t * 5 + 4) _ ((pl_at PL t P hP 4 (by omega)).trans rfl)
          simp only [Nat.add_zero] at a0
          obtain ⟨j, m, r1, r2, r3, r4, r5, r6, r7, r8, r9, r10, r11, r12, r13, r14⟩ := HONE.out P (List.mem_of_getElem? hP)
          have HB0 : Hid (¬ 0 < P.bits → P.bit = 0) := fun hz => HBIT.out P (List.mem_of_getElem? hP) (by omega)
          have HR : Hid (P.mem = (j : Int) ∧ P.type = m.type ∧ P.bits = max 0 m.bits) := ⟨r2, r3, r4⟩
          have hbs : 0 ≤ P.bits := by omega
          have HP : Hid (PL[t]? = some P) := hP
          have x1 := r13.lo
          have xal := r13.al
          have hjl : j < p.1.mem.length := (List.getElem?_eq_some_iff.1 r1).1
          have hhi : P.off ≤ 16384 ∧ P.bit ≤ 131072 ∧ P.bits ≤ 131072 := by
            unfold hiP at r10
            by_cases hb : 0 < P.bits
            · rw [if_pos hb] at r10; omega
            · rw [if_neg hb, r3] at r10
              have := HB0.out hb
              omega
          have hXt : openE trs M P.type = 0 ∧ openX trs M P.type = M P.type := by
            rw [r3]
            obtain ⟨q, hq, hwq, z0, zl⟩ := whole_at r12
            exact openE_ok (by simp [hasP]; omega) r12 r11
          have cS := fun Y hY => HSZ.out P.type Y hY
          have cA := fun Y hY => HAL.out P.type Y hY
          rw [hXt.1, hXt.2, r3] at cS cA
          rw [← r3] at cS cA
          have HCS : Hid (∀ Y, Below w1.heap.size w1 Y → Calls Try.prog 10 #[.pointer (some ⟨b, 0, none⟩), .int .i64 P.type] Y fun e w' => e = .returned (.tuple #[.int .i64 (M P.type).size, .int .i64 0]) ∧ Below Y.heap.size Y w') := cS
          have HCA : Hid (∀ Y, Below w1.heap.size w1 Y → Calls Try.prog 11 #[.pointer (some ⟨b, 0, none⟩), .int .i64 P.type] Y fun e w' => e = .returned (.tuple #[.int .i64 (M P.type).align, .int .i64 0]) ∧ Below Y.heap.size Y w') := cA
          clear cS cA hcl1 hXt
          rw [← r3] at r7 r11 r13 x1 xal r8
          clear r2 r3 r4
          have hold1 := heap_r0 wr (.cells #[.int .i64 0, .int .i64 0, .int .i64 0, .int .i64 0, .int .i64 0] TPl)
          have b1 := below1 wr (.cells #[.int .i64 P.mem, .int .i64 P.type, .int .i64 P.off, .int .i64 P.bit, .int .i64 P.bits] TPl)
          have HN1 : Hid (_ = _) := heap_r0 wr (.cells #[.int .i64 P.mem, .int .i64 P.type, .int .i64 P.off, .int .i64 P.bit, .int .i64 P.bits] TPl)
          have HY1 : Hid (Below w1.heap.size w1 (wr.alloc (.cells #[.int .i64 P.mem, .int .i64 P.type, .int .i64 P.off, .int .i64 P.bit, .int .i64 P.bits] TPl))) := HW1.out.trans (b1.mono HW1.out.size)
          have HZ1 : Hid (Below w4.heap.size w4 (wr.alloc (.cells #[.int .i64 P.mem, .int .i64 P.type, .int .i64 P.off, .int .i64 P.bit, .int .i64 P.bits] TPl))) := HW.out.trans (b1.mono HW.out.size)
          have kk0 := cell_nw wr #[.int .i64 P.mem, .int .i64 P.type, .int .i64 P.off, .int .i64 P.bit, .int .i64 P.bits] TPl 0
          have kk1 := cell_nw wr #[.int .i64 P.mem, .int .i64 P.type, .int .i64 P.off, .int .i64 P.bit, .int .i64 P.bits] TPl 1
          have kk2 := cell_nw wr #[.int .i64 P.mem, .int .i64 P.type, .int .i64 P.off, .int .i64 P.bit, .int .i64 P.bits] TPl 2
          have kk3 := cell_nw wr #[.int .i64 P.mem, .int .i64 P.type, .int .i64 P.off, .int .i64 P.bit, .int .i64 P.bits] TPl 3
          have kk4 := cell_nw wr #[.int .i64 P.mem, .int .i64 P.type, .int .i64 P.off, .int .i64 P.bit, .int .i64 P.bits] TPl 4
          simp only [List.getElem?_toArray, List.getElem?_cons_zero, List.getElem?_cons_succ] at kk0 kk1 kk2 kk3 kk4
          clear b1 hP
          go_wp2_with (first | ((with_reducible apply step_store hold1); rfl; rfl; kernel_rfl; rfl; kernel_rfl; rw [World.setRow_alloc_new]) | fail)
          refine (?_ : Calls _ _ _ (wr.alloc (.cells #[.int .i64 P.mem, .int .i64 P.type, .int .i64 P.off, .int .i64 P.bit, .int .i64 P.bits] TPl)) _)
          generalize hgx : wr.heap.size = gx at *
          generalize wr.alloc (.cells #[.int .i64 P.mem, .int .i64 P.type, .int .i64 P.off, .int .i64 P.bit, .int .i64 P.bits] TPl) = Y1 at *
          refine (span_c P (M P.type).size (fun Y hY => HCS.out Y (HY1.out.trans (hY.mono HY1.out.size))) ⟨r5, hhi.1⟩ ⟨r6, hhi.2.1⟩ ⟨hbs, hhi.2.2⟩ (by omega) (fun hz => HB0.out (by omega))).mono ?_
          rintro e Y2 ⟨rfl, hy2⟩
          have HX2 : Hid (Below w1.heap.size w1 Y2) := HY1.out.trans (hy2.mono HY1.out.size)
          have HZ2 : Hid (Below w4.heap.size w4 Y2) := HZ1.out.trans (hy2.mono HZ1.out.size)
          have HN2 : Hid (Y2.heap[gx]? = _) := blk_b HN1.out hy2
          have n1 := Lib.cell_of_heap HN2.out 1
          simp only [List.getElem?_toArray, List.getElem?_cons_zero, List.getElem?_cons_succ] at n1
          have cS := HCS.out Y2 HX2.out
          generalize hhiq : (if 0 < P.bits then 8 * P.off + P.bit + P.bits else 8 * P.off + 8 * (M P.type).size) = hi
          generalize hlo : 8 * P.off + P.bit = lo
          have hlo1 : 0 ≤ lo := by omega
          have hhi1 : hi ≤ 8 * (M (i : Int)).size := by rw [← hhiq]; exact r10
          have HLH : Hid (loP P = lo ∧ hiP M P = hi) := ⟨hlo, hhiq⟩
          clear hy2 HY1 HZ1 HN1 hlo hhiq r10 kk0 kk1 kk2 kk3 kk4 a0 a1 a2 a3 a4 hold1
          go_wp2_with fail
          refine cS.mono ?_
          rintro e Y3 ⟨rfl, hy3⟩
          have HX3 : Hid (Below w1.heap.size w1 Y3) := HX2.out.trans (hy3.mono HX2.out.size)
          have HZ3 : Hid (Below w4.heap.size w4 Y3) := HZ2.out.trans (hy3.mono HZ2.out.size)
          have HN3 : Hid (Y3.heap[gx]? = _) := blk_b HN2.out hy3
          have m1 := Lib.cell_of_heap HN3.out 1
          simp only [List.getElem?_toArray, List.getElem?_cons_zero, List.getElem?_cons_succ] at m1
          have cA := HCA.out Y3 HX3.out
          clear hy3 HX2 HZ2 HN2 n1 cS
          go_wp2_with fail
          refine cA.mono ?_
          rintro e Y4 ⟨rfl, hy4⟩
          have HX4 : Hid (Below w1.heap.size w1 Y4) := HX3.out.trans (hy4.mono HX3.out.size)
          have HZ4 : Hid (Below w4.heap.size w4 Y4) := HZ3.out.trans (hy4.mono HZ3.out.size)
          have HN4 : Hid (Y4.heap[gx]? = _) := blk_b HN3.out hy4
          have hgx4 : gx < Y4.heap.size := lt_of_heap HN4.out
          have z0 := Lib.cell_of_heap HN4.out 0
          have z2 := Lib.cell_of_heap HN4.out 2
          simp only [List.getElem?_toArray, List.getElem?_cons_zero, List.getElem?_cons_succ] at z0 z2
          obtain ⟨f0, f1, f2⟩ := HRF Y4 HX4.out
          have htm2 : Int.tmod P.off (M P.type).align = 0 := by rw [Int.tmod_eq_emod_of_nonneg (by omega)]; exact r7
          have hnz2 : (M P.type).align ≠ 0 := by omega
          have hm0 : P.mem = (j : Int) := HR.out.1
          rw [hm0] at z0
          clear hy4 HX3 HZ3 HN3 m1 cA hm0
          have hd1 : decide (lo < 0) = false := by simp; omega
          have hwr : IntKind.i64.wrap (8 * (M (i : Int)).size) = 8 * (M (i : Int)).size := wrap_id (by omega) (by omega)
          have hd2 : decide (8 * (M (i : Int)).size < hi) = false := by simp; omega
          have hd3 : decide ((j : Int) < 0) = false := by simp
          have hd4 : decide ((p.1.mem.length : Int) ≤ (j : Int)) = false := by simp; omega
          go_wp2
          go_quiet (fail)
          go_upto_region 20 with (fail)
          obtain ⟨gm, om, hspe, hmc, HMC⟩ := HRM j m r1
          subst hspe
          obtain ⟨mn, mt, mbs⟩ := m
          have HSB : SBl Y4 (Y4.drewN nq) := below_dr (Below.refl _ _) nq
          generalize Y4.drewN nq = Y5 at *
          have HG : Hid (∀ Y, SBl Y4 Y → Below w1.heap.size w1 Y) := fun Y h => HX4.out.trans (Below.mono h HX4.out.size)
          have L0 : ∀ Y, SBl Y4 Y → Y.cell? ⟨rb, 0, none⟩ = some (.slice (some ⟨gr, or', none⟩) trs.length cr) := fun Y h => (HRF Y (HG.out Y h)).1
          have L2 : ∀ Y, SBl Y4 Y → Y.cell? ⟨gr, or' + i * 6 + 4, none⟩ = some (.slice (some ⟨gm, om, none⟩) p.1.mem.length mc) := fun Y h => (HRF Y (HG.out Y h)).2.2
          have L3 : ∀ Y, SBl Y4 Y → Y.cell? ⟨gx, 0, none⟩ = some (.int .i64 (j : Int)) := fun Y h => by rw [Below.cell (p := ⟨gx, 0, none⟩) h hgx4]; exact z0
          have L4 : ∀ Y, SBl Y4 Y → Y.cell? ⟨gm, om + j * 3, none⟩ = some (.string mn) := fun Y h => HMC Y (HG.out Y h) 0 (by omega)
          have L5 : ∀ Y, SBl Y4 Y → Y.cell? ⟨gm, om + j * 3 + 1, none⟩ = some (.int .i64 mt) := fun Y h => HMC Y (HG.out Y h) 1 (by omega)
          have L6 : ∀ Y, SBl Y4 Y → Y.cell? ⟨gm, om + j * 3 + 2, none⟩ = some (.int .i64 mbs) := fun Y h => HMC Y (HG.out Y h) 2 (by omega)
          have HMC' : Hid (∀ Y, Below w1.heap.size w1 Y → ∀ k, k < 3 → Y.cell? ⟨gm, om + j * 3 + k, none⟩ = (mbCells ⟨mn, mt, mbs⟩)[k]?) := HMC
          clear f0 f1 f2 z0 z2 hd1 hd2 hwr HMC
          go_region_held3 (fun Y => SBl Y4 Y) (first | assumption | (with_reducible refine SBl.drew ?_; assumption) | (with_reducible exact SBl.alloc HSB _) | (with_reducible exact SBl.alloc (SBl.drew HSB) _) | (with_reducible exact SBl.drew (SBl.alloc HSB _))) (fail)
          rename_i hHeld
          have HN6 : Hid ((Y5.alloc (.cells #[.string mn, .int .i64 mt, .int .i64 mbs] TM)).drew.heap[gx]? = _) := blk_b HN4.out hHeld
          have HM6 : Hid ((Y5.alloc (.cells #[.string mn, .int .i64 mt, .int .i64 mbs] TM)).drew.heap[Y5.heap.size]? = _) := heap_r0 Y5 (.cells #[.string mn, .int .i64 mt, .int .i64 mbs] TM)
          have HX6 : Hid (Below w1.heap.size w1 (Y5.alloc (.cells #[.string mn, .int .i64 mt, .int .i64 mbs] TM)).drew) := HG.out _ hHeld
          have HZ6 : Hid (Below w4.heap.size w4 (Y5.alloc (.cells #[.string mn, .int .i64 mt, .int .i64 mbs] TM)).drew) := HZ4.out.trans (Below.mono hHeld HZ4.out.size)
          clear hHeld L0 L2 L3 L4 L5 L6 HSB HN4 HZ4 HX4 HG hgx4
          refine (?_ : Exit.then _ _ _ _ (Y5.alloc (.cells #[.string mn, .int .i64 mt, .int .i64 mbs] TM)).drew)
          generalize (Y5.alloc (.cells #[.string mn, .int .i64 mt, .int .i64 mbs] TM)).drew = Y6 at *
          generalize Y5.heap.size = g23 at *
          clear Y5 Y4
          obtain ⟨f0, f1, f2⟩ := HRF Y6 HX6.out
          have z1 := Lib.cell_of_heap HN6.out 1
          have z2 := Lib.cell_of_heap HN6.out 2
          have z3 := Lib.cell_of_heap HN6.out 3
          have z4 := Lib.cell_of_heap HN6.out 4
          have v0 := Lib.cell_of_heap HM6.out 0
          have v1 := Lib.cell_of_heap HM6.out 1
          have v2 := Lib.cell_of_heap HM6.out 2
          simp only [List.getElem?_toArray, List.getElem?_cons_zero, List.getElem?_cons_succ] at z1 z2 z3 z4 v0 v1 v2
          have hmt : P.type = mt := HR.out.2.1
          rw [hmt] at z1
          clear hmt f2
          go_upto_region 21 with (fail)
          go_cut [251] (fun s wx => s = .bool false ∧ wx = Y6)
          case first =>
            have hmax : P.bits = max 0 mbs := HR.out.2.2
            have hw8 : IntKind.i64.wrap (8 * (M P.type).size) = 8 * (M P.type).size := wrap_id (by omega) (by omega)
            have htm3 : (mn.toList == []) = false → Int.tmod (M (i : Int)).align (M P.type).align = 0 := fun hn => by
              rw [Int.tmod_eq_emod_of_nonneg (by omega), HR.out.2.1]; exact r14 hn
            have r9' : p.1.kind = 16 → P.off = 0 ∧ P.bit = 0 := fun hk => r9 (by rw [hk]; rfl)
            have r8' : 0 < P.bits → P.bit + P.bits ≤ 8 * (M P.type).size := r8
            clear r9 r8 r14 htm htm2 hmod r7 HTWO HONE HBIT HSZ HAL HCS HCA HT HRM HRF
            by_cases hbp : 0 < mbs
            · have hmx : max 0 mbs = mbs := by omega
              rw [hmx] at hmax
              rw [hmax] at z4 r8'
              have r8q := r8' hbp
              have hwb : IntKind.i64.wrap (P.bit + mbs) = P.bit + mbs := wrap_id (by omega) (by omega)
              have hdb : decide (8 * (M P.type).size < P.bit + mbs) = false := by simp; omega
              clear r8' hmax
              by_cases hk16 : p.1.kind = 16
              · obtain ⟨e1, e2⟩ := r9' hk16
                rw [hk16] at f1
                rw [e1] at z2
                rw [e2] at z3 hdb hwb
                rw [Int.zero_add] at hdb hwb
                by_cases hnm : (mn.toList == []) = true
                · clear htm3 r9' hk16 e1 e2
                  as_aux_lemma =>
                    go_wp2
                    all_goals go_meet
                    all_goals exact ⟨rfl, rfl⟩
                · have htm4 := htm3 (by simpa using hnm)
                  clear htm3 r9' hk16 e1 e2
                  as_aux_lemma =>
                    go_wp2
                    all_goals go_meet
                    all_goals exact ⟨rfl, rfl⟩
              · clear r9'
                have hdk : decide (p.1.kind = 16) = false := by simp [hk16]
                by_cases hnm : (mn.toList == []) = true
                · clear htm3 
                  as_aux_lemma =>
                    go_wp2
                    all_goals go_meet
                    all_goals exact ⟨rfl, rfl⟩
                · have htm4 := htm3 (by simpa using hnm)
                  clear htm3 
                  as_aux_lemma =>
                    go_wp2
                    all_goals go_meet
                    all_goals exact ⟨rfl, rfl⟩
            · have hmx : max 0 mbs = 0 := by omega
              rw [hmx] at hmax
              rw [hmax] at z4
              clear r8' hmax
              by_cases hk16 : p.1.kind = 16
              · obtain ⟨e1, e2⟩ := r9' hk16
                rw [hk16] at f1
                rw [e1] at z2
                rw [e2] at z3
                by_cases hnm : (mn.toList == []) = true
                · clear htm3 r9' hk16 e1 e2
                  as_aux_lemma =>
                    go_wp2
                    all_goals go_meet
                    all_goals exact ⟨rfl, rfl⟩
                · have htm4 := htm3 (by simpa using hnm)
                  clear htm3 r9' hk16 e1 e2
                  as_aux_lemma =>
                    go_wp2
                    all_goals go_meet
                    all_goals exact ⟨rfl, rfl⟩
              · clear r9'
                have hdk : decide (p.1.kind = 16) = false := by simp [hk16]
                by_cases hnm : (mn.toList == []) = true
                · clear htm3 
                  as_aux_lemma =>
                    go_wp2
                    all_goals go_meet
                    all_goals exact ⟨rfl, rfl⟩
                · have htm4 := htm3 (by simpa using hnm)
                  clear htm3 
                  as_aux_lemma =>
                    go_wp2
                    all_goals go_meet
                    all_goals exact ⟨rfl, rfl⟩
          case rest =>
            obtain ⟨rfl, rfl⟩ := hcut
            clear f0 z1 z2 z3 z4 v0 v1 v2 HM6 HN6 hmc hd3 hd4 htm htm2 hmod r7 r8 r9 r14
            have HF1 : Hid (∀ Y, Below w1.heap.size w1 Y → Y.cell? ⟨rb, 0, none⟩ = some (.slice (some ⟨gr, or', none⟩) trs.length cr) ∧ Y.cell? ⟨gr, or' + i * 6, none⟩ = some (.int .i64 p.1.kind)) := fun Y hY => ⟨(HRF Y hY).1, (HRF Y hY).2.1⟩
            clear HRF HRM f1
            go_wp2
            go_loopw [24] (fun iv wr2 => ∃ s : Nat, s ≤ t ∧ iv = .int .i64 s ∧ Hid (Below wc.heap.size wc wr2)) (fun iv _ => t - (intOf iv).toNat)
            case atStart => exact ⟨0, Nat.zero_le _, rfl, Below.refl _ _⟩
            case round =>
             as_aux_lemma =>
              obtain ⟨s, hs, rfl, HV⟩ := hrel
              have HV1 : Hid (Below w1.heap.size w1 wr) := HX6.out.trans (HV.out.mono HX6.out.size)
              have HV4 : Hid (Below w4.heap.size w4 wr) := HZ6.out.trans (HV.out.mono HZ6.out.size)
              obtain ⟨f0, f1⟩ := HF1.out wr HV1.out
              by_cases hst : s < t
              · by_cases hk15 : p.1.kind = 15
                · rw [hk15] at f1
                  obtain ⟨Q, hQ⟩ : ∃ Q, PL[s]? = some Q := ⟨_, List.getElem?_eq_getElem (by omega)⟩
                  obtain ⟨g2, k2', hs2, hg2, hgl2, hk2, hcl2, _⟩ := own_cell (ownsRow_turned O4.out (Turned.of_below HV4.out (fun _ => False)) (fun _ _ h => h.elim)) (by omega)
                  cases hs2
                  have a0 := hcl2 (s * 5 + 0) _ ((pl_at PL s Q hQ 0 (by omega)).trans rfl)
                  have a1 := hcl2 (s * 5 + 1) _ ((pl_at PL s Q hQ 1 (by omega)).trans rfl)
                  have a2 := hcl2 (s * 5 + 2) _ ((pl_at PL s Q hQ 2 (by omega)).trans rfl)
                  have a3 := hcl2 (s * 5 + 3) _ ((pl_at PL s Q hQ 3 (by omega)).trans rfl)
                  have a4 := hcl2 (s * 5 + 4) _ ((pl_at PL s Q hQ 4 (by omega)).trans rfl)
                  simp only [Nat.add_zero] at a0
                  have hord : hiP M Q ≤ lo := by
                    have := HTWO.out hk15 s t Q P hst hQ HP.out
                    rw [HLH.out.1] at this
                    exact this
                  have cSp : Calls Try.prog 17 #[.pointer (some ⟨b, 0, none⟩), .agg (plV Q)] wr fun e w' => e = .returned (.tuple #[.int .i64 (loP Q), .int .i64 (hiP M Q), .bool true]) ∧ Below wr.heap.size wr w' := by
                    obtain ⟨j2, m2, t1, t2, t3, t4, t5, t6, t7, t8, t9, t10, t11, t12, t13, t14⟩ := HONE.out Q (List.mem_of_getElem? hQ)
                    have HB2 : ¬ 0 < Q.bits → Q.bit = 0 := fun hz => HBIT.out Q (List.mem_of_getElem? hQ) (by omega)
                    have y1 := t13.lo
                    have hbs2 : 0 ≤ Q.bits := by omega
                    have hhi2 : Q.off ≤ 16384 ∧ Q.bit ≤ 131072 ∧ Q.bits ≤ 131072 := by
                      unfold hiP at t10
                      by_cases hb : 0 < Q.bits
                      · rw [if_pos hb] at t10; omega
                      · rw [if_neg hb, t3] at t10
                        have := HB2 hb
                        omega
                    have hXq : openE trs M Q.type = 0 ∧ openX trs M Q.type = M Q.type := by
                      rw [t3]
                      obtain ⟨q, hq, hwq, z0, zl⟩ := whole_at t12
                      exact openE_ok (by simp [hasP]; omega) t12 t11
                    refine span_c Q (M Q.type).size (fun Y hY => ?_) ⟨t5, hhi2.1⟩ ⟨t6, hhi2.2.1⟩ ⟨hbs2, hhi2.2.2⟩ (by rw [t3]; omega) HB2
                    have := HSZ.out Q.type Y (HV1.out.trans (hY.mono HV1.out.size))
                    rw [hXq.1, hXq.2] at this
                    exact this
                  generalize loP Q = lq at *
                  generalize hiP M Q = hq at *
                  have hdl : decide (lo < hq) = false := by simp; omega
                  clear hcl2 hQ hk15
                  go_wp2_with fail
                  refine cSp.mono ?_
                  rintro e Y7 ⟨rfl, hy7⟩
                  have H7 : Hid (Below wc.heap.size wc Y7) := HV.out.trans (hy7.mono HV.out.size)
                  clear hy7 cSp a0 a1 a2 a3 a4 f0 f1
                  by_cases hx : lq < hi
                  · go_wp2
                    exact ⟨⟨s + 1, by omega, by go_num, H7⟩, by simp [intOf]; omega⟩
                  · go_wp2
                    exact ⟨⟨s + 1, by omega, by go_num, H7⟩, by simp [intOf]; omega⟩
                · have hdk : decide (p.1.kind = 15) = false := by simp [hk15]
                  go_wp2
                  exact ⟨⟨t + 1, by omega, by go_num, HV4⟩, by simp [intOf]; omega⟩
              · clear f0 f1
                go_wp2
                exact ⟨⟨t + 1, by omega, by go_num, HV4⟩, by simp [intOf]; omega⟩
        · obtain rfl : t = PL.length := by omega
          go_wp2_with fail
          refine (HH.out _ (H1.out.trans (HW1.out.mono H1.out.size))).mono ?_
          rintro e wz ⟨rfl, hbz⟩
          have HZ : Hid (Below w.heap.size w wz) := hbz
          clear hbz
          go_wp2
          go_ret
          exact ⟨rfl, HZ.out⟩
    · have hE : openE trs M i = 50 ∨ openE trs M i = 51 := by
        unfold openE
        rw [if_neg (by rw [hh]; decide), wholeP_at hp]
        by_cases h1 : wholeR p.1 = false
        · left; rw [if_pos h1]
        · right
          have h2 : wholeR p.1 = true := by simpa using h1
          rw [if_neg h1, if_pos (Int.not_le.1 (fun hz => hgood ⟨h2, hz⟩))]
      have hX : openX trs M i = ⟨0, 0⟩ := by unfold openX; rw [if_neg (by omega)]
      have cP := places_err (i : Int) (openE trs M i) (by rcases hE with e | e <;> rw [e] <;> decide) (openR_err HD.out.tab (by omega) HD.out.small HD.out.ok hM i (by omega))
      have HS : Hid (∀ Y, Below w1.heap.size w1 Y → Calls Try.prog 10 #[.pointer (some ⟨b, 0, none⟩), .int .i64 (i : Int)] Y fun e w' => e = .returned (.tuple #[.int .i64 0, .int .i64 (openE trs M i)]) ∧ Below Y.heap.size Y w') := fun Y hY => by
        have := HSZ.out i Y hY; rw [hX] at this; exact this
      have HA : Hid (∀ Y, Below w1.heap.size w1 Y → Calls Try.prog 11 #[.pointer (some ⟨b, 0, none⟩), .int .i64 (i : Int)] Y fun e w' => e = .returned (.tuple #[.int .i64 0, .int .i64 (openE trs M i)]) ∧ Below Y.heap.size Y w') := fun Y hY => by
        have := HAL.out i Y hY; rw [hX] at this; exact this
      clear HSZ HAL hX hgood hM HT HD
      generalize openE trs M i = er at *
      rcases hE with rfl | rfl
      all_goals
       as_aux_lemma =>
        go_wp2_with fail
        refine cP.mono ?_
        rintro e w2 ⟨rfl, hb2⟩
        have H2 : Hid (Below w1.heap.size w1 w2) := hb2
        clear hb2 cP
        go_wp2_with fail
        refine (HS.out w2 H2.out).mono ?_
        rintro e w3 ⟨rfl, hb3⟩
        have H3 : Hid (Below w1.heap.size w1 w3) := H2.out.trans (hb3.mono H2.out.size)
        clear hb3 HS
        go_wp2_with fail
        refine (HA.out w3 H3.out).mono ?_
        rintro e w4 ⟨rfl, hb4⟩
        have H4 : Hid (Below w1.heap.size w1 w4) := H3.out.trans (hb4.mono H3.out.size)
        clear hb4 HA
        go_wp2_with fail
        refine (HH.out _ (H1.out.trans (H4.out.mono H1.out.size))).mono ?_
        rintro e wz ⟨rfl, hbz⟩
        have HZ : Hid (Below w.heap.size w wz) := hbz
        clear hbz
        go_wp2
        go_ret
        exact ⟨rfl, HZ.out⟩
end
end Go.Proofs.Ytcapcjeadmlefaa
