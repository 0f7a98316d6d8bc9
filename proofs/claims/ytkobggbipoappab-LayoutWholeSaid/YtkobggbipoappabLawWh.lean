/-
  The law LayoutWhole's own walk.
-/
import Derived.Test.YtkobggbipoappabLyWq
import Derived.BigQuiet
import Derived.Deep.RegionHeld3
namespace Go.Proofs.Ytkobggbipoappab
open Go.RowKit Go.Maps
set_option linter.unusedVariables false
set_option maxRecDepth 100000
theorem infoBool : (Try.prog.info? 4).map (fun i => (i.zero, i.size, i.bytes)) = some (some (.bool false), 1, 1) := by kernel_rfl
theorem make_bools (n : Int) (N : Nat) (hn : n = N) (hN : N ≤ 131072) (u : World) : (Instr.makeSlice 38 (.int .i64 n) (.int .i64 n)).run Try.prog u = .ok (.slice (some ⟨u.heap.size, 0, none⟩) N N) (u.alloc (.cells (madeCells #[.bool false] N) 4)) := by
  obtain ⟨i0, hi, hz0, hz1, hz2⟩ := info_parts infoBool
  have h := run_make (P := Try.prog) u 38 4 i0 (.bool false) Try.underlying38 hi hz0 .i64 .i64 n n (by omega) (by omega) (by rw [hz2]; omega) (by omega)
  have e : n.toNat = N := by omega
  rw [e] at h
  simpa [hz1, Value.cells] using h
theorem turned_dr {w w' : World} {S : Nat → Prop} (h : Turned w w' S) (n : Nat) : Turned w (w'.drewN n) S := ⟨h.os, h.tape, h.output, h.size, h.block⟩
theorem below_tn {B : Nat} {W w w' : World} {S : Nat → Prop} (hb : Below B W w) (hB : B ≤ w.heap.size) (ht : Turned w w' S) (hS : ∀ k, S k → B ≤ k) : Below B W w' :=
  ⟨ht.os.trans hb.os, ht.tape.trans hb.tape, ht.output.trans hb.output, Nat.le_trans hb.size ht.size, fun k hk => (ht.block k (by omega) (fun e => by have := hS k e; omega)).trans (hb.block k hk)⟩
theorem hadW_step {M : Int → Ex} {H : Int → Nat → Bool} {mem : List Mb} {l : List Pl} {t : Nat} {P : Pl} (h : l[t]? = some P) (k : Nat) : hadW M H mem (l.take (t + 1)) k = (hadW M H mem (l.take t) k || hitsW M H mem P k) := by
  rw [take_snoc1 h]; simp [hadW]
section
variable {w : World}
set_option maxHeartbeats 32000000 in
theorem wholeL_c {v : Value} {rs : List (Rw × Value)} (h : RowIn w v rs) (hl : rs.length * 72 ≤ 140737488355328) (hO : ∀ p ∈ rs, Okay p.1) (id : Int) :
    Calls Try.prog 3 #[v, .int .i64 id] w fun e w' => e = .returned (.bool true) ∧ Below w.heap.size w w' := by
  have cB := both_c h hl hO
  have HH : Hid (∀ Y, Below w.heap.size w Y → Calls Try.prog 7 #[] Y fun e w' => e = .returned (.bool true) ∧ Below w.heap.size w w') := fun Y hY => (heads_c Y).mono fun e w' ⟨he, hb⟩ => ⟨he, hY.trans (hb.mono hY.size)⟩
  have nt := not_t
  have nf := not_f
  clear h hl hO
  go_enter Try.func3, Try.ntmps3
  go_wp2_with fail
  refine cB.mono ?_
  rintro e w1 ⟨rfl | ⟨b, mb, tv, trs, rb, rv, rrs, rfl, hD⟩, hb1⟩
  · have H1 : Hid (Below w.heap.size w w1) := hb1
    clear hb1 cB
    go_wp2_with fail
    refine (HH.out _ H1.out).mono ?_
    rintro e wz ⟨rfl, hbz⟩
    have HZ : Hid (Below w.heap.size w wz) := hbz
    clear hbz
    go_wp2
    go_ret
    exact ⟨rfl, HZ.out⟩
  have H1 : Hid (Below w.heap.size w w1) := hb1
  have HD : Hid (Duo w.heap.size w1 b mb tv trs rb rv rrs) := hD
  have cR := rRecord_c hD.rt id
  have hkk : kindP rrs id = kindP trs id := kindP_fst hD.same id
  rw [hkk] at cR
  clear cB hb1 hD hkk
  cases hk : recK (kindP trs id) with
  | false =>
    rw [hk] at cR
    go_wp2_with fail
    refine cR.mono ?_
    rintro e w' ⟨rfl, hw⟩
    rw [hw]; clear hw w' cR
    go_wp2_with fail
    refine (HH.out _ H1.out).mono ?_
    rintro e wz ⟨rfl, hbz⟩
    have HZ : Hid (Below w.heap.size w wz) := hbz
    clear hbz
    go_wp2
    go_ret
    exact ⟨rfl, HZ.out⟩
  | true =>
    rw [hk] at cR
    go_wp2_with fail
    refine cR.mono ?_
    rintro e w' ⟨rfl, hw⟩
    rw [hw]; clear hw w' cR
    obtain ⟨i, p, rfl, hp, hkp⟩ : ∃ (i : Nat) (p : Rw × Value), id = i ∧ trs[i]? = some p ∧ recK p.1.kind = true := by
      cases hh : hasP trs.length id with
      | false => rw [kindP_none hh] at hk; exact absurd hk (by decide)
      | true =>
        obtain ⟨i, p, rfl, hp⟩ := has_at hh
        rw [kindP_some hp] at hk
        exact ⟨i, p, rfl, hp, hk⟩
    obtain ⟨M, hM⟩ := meas_exists HD.out.ok
    obtain ⟨H, hH⟩ := had_exists (M := M) HD.out.ok
    have hlt : i < trs.length := (List.getElem?_eq_some_iff.1 hp).1
    have h512 := HD.out.tab.len
    have hh : hasP trs.length (i : Int) = true := by simp [hasP]; omega
    have HT : Hid (∀ Y, Below w1.heap.size w1 Y → Tab w.heap.size Y b mb tv trs (pairs (rowsOf trs))) := fun Y hY => HD.out.tab.keptB hY
    have HSZ : Hid (∀ id Y, Below w1.heap.size w1 Y → Calls Try.prog 8 #[.pointer (some ⟨b, 0, none⟩), .int .i64 id] Y fun e w' => e = .returned (.tuple #[.int .i64 (openX trs M id).size, .int .i64 (openE trs M id)]) ∧ Below Y.heap.size Y w') := fun id Y hY => size_c (HT.out Y hY) (by omega) HD.out.small HD.out.ok hM id
    by_cases hgood : wholeR p.1 = true ∧ (M i).size ≤ 16384
    · obtain ⟨hwh, hgt⟩ := hgood
      have hX := openE_ok (rs := trs) (M := M) (id := (i : Int)) hh (by rw [wholeP_at hp]; exact hwh) hgt
      have HGK : Hid (∀ (j : Nat) (q : Rw × Value) Y, Below w1.heap.size w1 Y → trs[j]? = some q → wholeR q.1 = true → (M j).size ≤ 16384 → Calls Try.prog 9 #[.pointer (some ⟨b, 0, none⟩), .int .i64 j] Y fun e w' => ∃ s, e = .returned (.tuple #[s, .int .i64 0]) ∧ Below Y.heap.size Y w' ∧ w'.ownsRow Y.heap.size TG 2 s (gapF (H j) (8 * (M j).size).toNat).l.length (gpCells (gapF (H j) (8 * (M j).size).toNat).l)) := fun j q Y hY hq hwq hg => gaps_ok (HT.out Y hY) HD.out.small HD.out.ok hM hH hq hwq hg
      have cS := HSZ.out i w1 (Below.refl _ _)
      rw [hX.1, hX.2] at cS
      go_wp2_with fail
      refine cS.mono ?_
      rintro e w2 ⟨rfl, hb2⟩
      have cG := HGK.out i p w2 hb2 hp hwh hgt
      have cP := fun Y hY => places_ok (HT.out Y hY) HD.out.small HD.out.ok hM hp hwh hgt hkp
      have HP : Hid (∀ Y, Below w1.heap.size w1 Y → Calls Try.prog 10 #[.pointer (some ⟨b, 0, none⟩), .int .i64 (i : Int)] Y fun e w' => ∃ s, e = .returned (.tuple #[s, .int .i64 0]) ∧ w'.ownsRow Y.heap.size TPl 5 s (placesS (p.1.kind == 16) M ls0 0 p.1.mem).length (plCells (placesS (p.1.kind == 16) M ls0 0 p.1.mem)) ∧ Below Y.heap.size Y w') := cP
      have H2 : Hid (Below w1.heap.size w1 w2) := hb2
      clear cS hb2 cP
      go_wp2_with fail
      refine cG.mono ?_
      rintro e w3 ⟨gs, rfl, hb3, ho3⟩
      have H3 : Hid (Below w1.heap.size w1 w3) := H2.out.trans (hb3.mono H2.out.size)
      have O3 : Hid (w3.ownsRow w1.heap.size TG 2 gs (gapF (H i) (8 * (M i).size).toNat).l.length (gpCells (gapF (H i) (8 * (M i).size).toNat).l)) := ownsRow_base ho3 H2.out.size
      clear cG hb3 ho3
      go_wp2_with fail
      refine (HP.out w3 H3.out).mono ?_
      rintro e w4 ⟨sl, rfl, ho4, hb4⟩
      have H4 : Hid (Below w1.heap.size w1 w4) := H3.out.trans (hb4.mono H3.out.size)
      have O4 : Hid (w4.ownsRow w1.heap.size TPl 5 sl (placesS (p.1.kind == 16) M ls0 0 p.1.mem).length (plCells (placesS (p.1.kind == 16) M ls0 0 p.1.mem))) := ownsRow_base ho4 H3.out.size
      have G4 : Hid (w4.ownsRow w1.heap.size TG 2 gs (gapF (H i) (8 * (M i).size).toNat).l.length (gpCells (gapF (H i) (8 * (M i).size).toNat).l)) := ownsRow_turned O3.out (Turned.of_below hb4 (fun _ => False)) (fun _ _ h => h.elim)
      have e1 := (meas_ok HD.out.ok hM i p hp hwh).lo
      have HINV : Hid (GapInv (H i) (8 * (M i).size).toNat (gapF (H i) (8 * (M i).size).toNat)) := gap_inv _ _
      have HALL : Hid (∀ k, hadW M H p.1.mem (placesS (p.1.kind == 16) M ls0 0 p.1.mem) k = H i k) := fun k => had_all HD.out.ok hM hH hp hwh hkp hgt k
      have HPL : Hid (∀ P ∈ placesS (p.1.kind == 16) M ls0 0 p.1.mem, 0 ≤ P.off ∧ 0 ≤ P.bit ∧ ∃ (j : Nat) (m : Mb), p.1.mem[j]? = some m ∧ P.mem = (j : Int) ∧ P.type = m.type ∧ m.bits ≠ 0 ∧ (m.bits = -1 → P.bits = 0 ∧ P.bit = 0 ∧ P.off + (M m.type).size ≤ (M i).size) ∧ (m.bits ≠ -1 → P.bits = m.bits ∧ 0 < P.bits ∧ 8 * P.off + P.bit + P.bits ≤ 8 * (M i).size)) := place_all HD.out.ok hM hp hwh hkp hgt
      have HMW : Hid (∀ m ∈ p.1.mem, ∃ (j : Nat) (q : Rw × Value), m.type = j ∧ trs[j]? = some q ∧ wholeR q.1 = true) := fun m hm => by
        have h14 : ¬ p.1.kind = 14 := by intro e; rw [e] at hkp; exact absurd hkp (by decide)
        have hd : p.1.done = true := by
          have hw2 := hwh
          unfold wholeR at hw2
          rw [if_neg h14, if_pos hkp] at hw2
          exact hw2
        obtain ⟨q, hq, hwq, x0, xl⟩ := whole_at (ok_members HD.out.ok hp hkp hd m hm).1
        exact ⟨m.type.toNat, q, by omega, hq, hwq⟩
      obtain ⟨gr, or', cr, sp, mc, hrv, hncr, HRF, HRM⟩ : ∃ (gr or' cr : Nat) (sp : Option Addr) (mc : Nat), rv = .slice (some ⟨gr, or', none⟩) trs.length cr ∧ trs.length ≤ cr ∧
          Hid (∀ Y, Below w1.heap.size w1 Y → Y.cell? ⟨rb, 0, none⟩ = some (.slice (some ⟨gr, or', none⟩) trs.length cr) ∧ Y.cell? ⟨gr, or' + i * 6, none⟩ = some (.int .i64 p.1.kind) ∧ Y.cell? ⟨gr, or' + i * 6 + 4, none⟩ = some (.slice sp p.1.mem.length mc)) ∧
          Hid (∀ j m, p.1.mem[j]? = some m → ∃ gm om, sp = some ⟨gm, om, none⟩ ∧ p.1.mem.length ≤ mc ∧ ∀ Y, Below w1.heap.size w1 Y → ∀ k, k < 3 → Y.cell? ⟨gm, om + j * 3 + k, none⟩ = (mbCells m)[k]?) := ref_at HD.out hp
      have hpl : (placesS (p.1.kind == 16) M ls0 0 p.1.mem).length ≤ 64 := Nat.le_trans (pl_len _ _ _) (HD.out.small p (List.mem_of_getElem? hp))
      have hgl : (gapF (H i) (8 * (M i).size).toNat).l.length ≤ 131072 := Nat.le_trans (gapF_len _ _).1 (by omega)
      obtain ⟨q0, k0, rfl⟩ := slice_of_own O4.out
      obtain ⟨q1, k1, rfl⟩ := slice_of_own G4.out
      clear hb4 ho4 H3 O3 hX H2
      generalize gapF (H i) (8 * (M i).size).toNat = GF at *
      generalize hN : (8 * (M i).size).toNat = N at *
      have hNz : 8 * (M (i : Int)).size = (N : Int) := by omega
      have hN2 : N ≤ 131072 := by omega
      generalize hPLe : placesS (p.1.kind == 16) M ls0 0 p.1.mem = PL at *
      clear hPLe
      have hmk := make_bools (8 * (M (i : Int)).size) N hNz hN2
      have hw8 : IntKind.i64.wrap (8 * (M (i : Int)).size) = 8 * (M (i : Int)).size := wrap_id (by omega) (by omega)
      have HNZ : Hid (8 * (M (i : Int)).size = (N : Int)) := hNz
      have hs1 : decide ((M (i : Int)).size < 1) = false := by simp; omega
      have hs2 : decide (16384 < (M (i : Int)).size) = false := by simp; omega
      clear hN hNz
      go_upto_region 11 with fail
      have b5 := below1 w4 (.cells (madeCells #[.bool false] N) 4)
      have BO : Hid (BoR (w4.alloc (.cells (madeCells #[.bool false] N) 4)) w4.heap.size N (onF (GF.l.take 0))) := (BoR.made w4 N).congr (fun j _ => by simp [onF])
      have H5 : Hid (Below w1.heap.size w1 (w4.alloc (.cells (madeCells #[.bool false] N) 4))) := H4.out.trans (b5.mono H4.out.size)
      have G5 : Hid ((w4.alloc (.cells (madeCells #[.bool false] N) 4)).ownsRow w1.heap.size TG 2 (.slice q1 GF.l.length k1) GF.l.length (gpCells GF.l)) := ownsRow_turned G4.out (Turned.of_below b5 (fun _ => False)) (fun _ _ h => h.elim)
      have O5 : Hid ((w4.alloc (.cells (madeCells #[.bool false] N) 4)).ownsRow w1.heap.size TPl 5 (.slice q0 PL.length k0) PL.length (plCells PL)) := ownsRow_turned O4.out (Turned.of_below b5 (fun _ => False)) (fun _ _ h => h.elim)
      have HNG : Hid (∀ k, k = w4.heap.size → ¬ (Value.slice q1 GF.l.length k1).ownBlock = some k) := fun k e hk => by obtain ⟨_, cur, hc⟩ := ownsRow_at G4.out hk; have := lt_of_heap hc; omega
      have HNO : Hid (∀ k, k = w4.heap.size → ¬ (Value.slice q0 PL.length k0).ownBlock = some k) := fun k e hk => by obtain ⟨_, cur, hc⟩ := ownsRow_at O4.out hk; have := lt_of_heap hc; omega
      have hgo : w1.heap.size ≤ w4.heap.size := H4.out.size
      clear G4 O4 b5
      generalize w4.alloc (.cells (madeCells #[.bool false] N) 4) = W5 at *
      generalize w4.heap.size = go at *
      go_wp2
      go_loopw [15, 16] (fun lv iv wr => ∃ t : Nat, t ≤ GF.l.length ∧ iv = .int .i64 t ∧ lv = .int .i64 (lastG GF.l t) ∧ Hid (Turned W5 wr (fun k => k = go)) ∧ Hid (BoR wr go N (onF (GF.l.take t)))) (fun lv iv _ => GF.l.length - (intOf iv).toNat)
      case atStart => exact ⟨0, Nat.zero_le _, rfl, rfl, Turned.refl _ _, BO⟩
      case round =>
        obtain ⟨t, ht, rfl, rfl, HTt, HB⟩ := hrel
        obtain ⟨wa, hwa⟩ : ∃ x, x = wr := ⟨_, rfl⟩
        subst hwa
        by_cases hlt1 : t < GF.l.length
        · as_aux_lemma =>
            obtain ⟨g, hg⟩ : ∃ g, GF.l[t]? = some g := ⟨_, List.getElem?_eq_getElem hlt1⟩
            have hok := HINV.out.ok g (List.mem_of_getElem? hg)
            have hlast := last_lt HINV.out hg
            have HONS : Hid (∀ k, onF (GF.l.take (t + 1)) k = (onF (GF.l.take t) k || (decide (g.from_ ≤ k) && decide (k < g.from_ + g.bits)))) := onF_step GF.l hg
            have HLG : Hid (lastG GF.l (t + 1) = (g.from_ : Int) + g.bits) := lastG_at hg
            obtain ⟨gp1, gp2⟩ := gp_at GF.l t g hg
            obtain ⟨gg, kg, hs1, hbg, hgl1, hcap1, hcl1, _⟩ := own_cell (own_kept G5.out HTt.out (fun k _ e => HNG.out k e)) (by omega)
            cases hs1
            have HCG : Hid (∀ Y, Turned W5 Y (fun k => k = go) → Y.cell? ⟨gg, t * 2, none⟩ = some (.int .i64 (g.from_ : Int)) ∧ Y.cell? ⟨gg, t * 2 + 1, none⟩ = some (.int .i64 (g.bits : Int))) := fun Y hY => by
              obtain ⟨gg', kg', hs', _, _, _, hcl', _⟩ := own_cell (own_kept G5.out hY (fun k _ e => HNG.out k e)) (by omega)
              cases hs'
              exact ⟨hcl' _ _ gp1, hcl' _ _ gp2⟩
            obtain ⟨a0, a1⟩ := HCG.out wa HTt.out
            have d1 : decide ((g.from_ : Int) ≤ lastG GF.l t) = false := by simp; omega
            have d2 : decide ((g.bits : Int) < 1) = false := by simp; omega
            have hwn : IntKind.i64.wrap ((N : Int) - (g.bits : Int)) = (N : Int) - (g.bits : Int) := wrap_id (by omega) (by omega)
            have d3 : decide ((N : Int) - (g.bits : Int) < (g.from_ : Int)) = false := by simp; omega
            have hti : (t : Int) < (GF.l.length : Int) := by omega
            generalize lastG GF.l t = LT at *
            clear hcl1 gp1 gp2 hg hlast
            go_wp2
            go_quiet (fail)
            go_wp2
            go_loopw [17] (fun kv wr => ∃ s : Nat, s ≤ g.bits ∧ kv = .int .i64 s ∧ Hid (Turned W5 wr (fun k => k = go)) ∧ Hid (BoR wr go N (fun k => onF (GF.l.take t) k || (decide (g.from_ ≤ k) && decide (k < g.from_ + s))))) (fun kv _ => g.bits - (intOf kv).toNat)
            case atStart => exact ⟨0, Nat.zero_le _, rfl, turned_dr HTt.out _, BoR.congr (show BoR _ go N (onF (GF.l.take t)) from HB.out) (fun j _ => by simp; omega)⟩
            case round =>
              obtain ⟨s, hs, rfl, HT2, HB2⟩ := hrel
              clear a0 a1
              obtain ⟨a0, a1⟩ := HCG.out wr HT2.out
              by_cases hlt2 : s < g.bits
              · as_aux_lemma =>
                  have c0 := HB2.out.cell (k := g.from_ + s) (by omega)
                  have f0 := HB2.out.frozen (g.from_ + s)
                  have hwi : IntKind.i64.wrap ((g.from_ : Int) + (s : Int)) = ((g.from_ + s : Nat) : Int) := by rw [wrap_id (by omega) (by omega)]; omega
                  have hbi : ((g.from_ + s : Nat) : Int) < (N : Int) := by omega
                  go_wp2
                  refine ⟨⟨s + 1, by omega, by go_num, ?_, ?_⟩, by simp [intOf]; omega⟩
                  · exact HT2.out.trans (Turned.setCell (S := fun k => k = go) _ _ _ _ rfl) (fun _ _ e => e)
                  · refine HB2.out.set true (fun j hj => ?_)
                    by_cases e : j = g.from_ + s
                    · subst e; simp
                    · rw [if_neg e]
                      have h2 : (decide (g.from_ ≤ j) && decide (j < g.from_ + (s + 1))) = (decide (g.from_ ≤ j) && decide (j < g.from_ + s)) := by rw [Bool.eq_iff_iff]; simp; omega
                      rw [h2]
              · obtain rfl : s = g.bits := by omega
                have hwl : IntKind.i64.wrap ((g.from_ : Int) + (g.bits : Int)) = (g.from_ : Int) + (g.bits : Int) := wrap_id (by omega) (by omega)
                go_wp2
                go_quiet (fail)
                go_wp2
                refine ⟨⟨t + 1, by omega, by go_num, by rw [HLG.out], ?_, ?_⟩, by simp [intOf]; omega⟩
                · exact turned_dr HT2.out _
                · exact BoR.congr (show BoR _ go N _ from HB2.out) (fun j _ => HONS.out j)
        · obtain rfl : t = GF.l.length := by omega
          have BON : Hid (BoR wa go N (fun k => !H i k)) := BoR.congr HB.out (fun j hj => by rw [List.take_length]; exact (HINV.out.cover j hj).symm)
          have H6a : Hid (Below w1.heap.size w1 wa) := below_tn H5.out H5.out.size HTt.out (fun k e => by omega)
          have O6a : Hid (wa.ownsRow w1.heap.size TPl 5 (.slice q0 PL.length k0) PL.length (plCells PL)) := own_kept O5.out HTt.out (fun k _ e => HNO.out k e)
          clear HB HTt O5 G5 HNG HINV BO
          go_upto_region 22 with fail
          have b6 := below1 wa (.cells (madeCells #[.bool false] N) 4)
          have BH : Hid (BoR (wa.alloc (.cells (madeCells #[.bool false] N) 4)) wa.heap.size N (hadW M H p.1.mem (PL.take 0))) := (BoR.made wa N).congr (fun j _ => by simp [hadW])
          have BO6 : Hid (BoR (wa.alloc (.cells (madeCells #[.bool false] N) 4)) go N (fun k => !H i k)) := BON.out.below b6
          have H6 : Hid (Below w1.heap.size w1 (wa.alloc (.cells (madeCells #[.bool false] N) 4))) := H6a.out.trans (b6.mono H6a.out.size)
          have O6 : Hid ((wa.alloc (.cells (madeCells #[.bool false] N) 4)).ownsRow w1.heap.size TPl 5 (.slice q0 PL.length k0) PL.length (plCells PL)) := ownsRow_turned O6a.out (Turned.of_below b6 (fun _ => False)) (fun _ _ h => h.elim)
          have HNO6 : Hid (∀ k, k = wa.heap.size → ¬ (Value.slice q0 PL.length k0).ownBlock = some k) := fun k e hk => by obtain ⟨_, cur, hc⟩ := ownsRow_at O6a.out hk; have := lt_of_heap hc; omega
          have hgh : w1.heap.size ≤ wa.heap.size := H6a.out.size
          have hgg : go < wa.heap.size := BON.out.lt
          clear b6 BON H6a O6a HNO H5
          generalize wa.alloc (.cells (madeCells #[.bool false] N) 4) = W6 at *
          generalize wa.heap.size = gh at *
          go_wp2
          go_loopw [19] (fun iv wr => ∃ t : Nat, t ≤ PL.length ∧ iv = .int .i64 t ∧ Hid (Turned W6 wr (fun k => k = gh)) ∧ Hid (BoR wr gh N (hadW M H p.1.mem (PL.take t)))) (fun iv _ => PL.length - (intOf iv).toNat)
          case atStart => exact ⟨0, Nat.zero_le _, rfl, Turned.refl _ _, BH⟩
          case round =>
            obtain ⟨t, ht, rfl, HT3, HB3⟩ := hrel
            obtain ⟨wb, hwb⟩ : ∃ x, x = wr := ⟨_, rfl⟩
            subst hwb
            by_cases hlt3 : t < PL.length
            · obtain ⟨P, hP⟩ : ∃ P, PL[t]? = some P := ⟨_, List.getElem?_eq_getElem hlt3⟩
              obtain ⟨pm, pt, po, pbt, pbs⟩ := P
              obtain ⟨po0, pb0, j, m, r1, r2, r3, r4, r5, r6⟩ := HPL.out _ (List.mem_of_getElem? hP)
              simp only at po0 pb0 r2 r3 r5 r6
              subst r2 r3
              have HSTP : Hid (∀ k, hadW M H p.1.mem (PL.take (t + 1)) k = (hadW M H p.1.mem (PL.take t) k || hitsW M H p.1.mem ⟨(j : Int), m.type, po, pbt, pbs⟩ k)) := fun k => hadW_step hP k
              obtain ⟨g5, k5, hs5, hbg5, hgl5, hcap5, hcl5, _⟩ := own_cell (own_kept O6.out HT3.out (fun k _ e => HNO6.out k e)) (by omega)
              cases hs5
              have a0 := hcl5 (t * 5 + 0) _ ((pl_at PL t _ hP 0 (by omega)).trans rfl)
              have a1 := hcl5 (t * 5 + 1) _ ((pl_at PL t _ hP 1 (by omega)).trans rfl)
              have a2 := hcl5 (t * 5 + 2) _ ((pl_at PL t _ hP 2 (by omega)).trans rfl)
              have a3 := hcl5 (t * 5 + 3) _ ((pl_at PL t _ hP 3 (by omega)).trans rfl)
              have a4 := hcl5 (t * 5 + 4) _ ((pl_at PL t _ hP 4 (by omega)).trans rfl)
              simp only [Nat.add_zero] at a0
              have hold := heap_r0 wb (.cells #[.int .i64 0, .int .i64 0, .int .i64 0, .int .i64 0, .int .i64 0] TPl)
              have b7 := below1 wb (.cells #[.int .i64 (j : Int), .int .i64 m.type, .int .i64 po, .int .i64 pbt, .int .i64 pbs] TPl)
              have N7 : Hid ((wb.alloc (.cells #[.int .i64 (j : Int), .int .i64 m.type, .int .i64 po, .int .i64 pbt, .int .i64 pbs] TPl)).heap[wb.heap.size]? = some (.cells #[.int .i64 (j : Int), .int .i64 m.type, .int .i64 po, .int .i64 pbt, .int .i64 pbs] TPl (0, 0))) := heap_r0 wb _
              have H7 : Hid (Below w1.heap.size w1 (wb.alloc (.cells #[.int .i64 (j : Int), .int .i64 m.type, .int .i64 po, .int .i64 pbt, .int .i64 pbs] TPl))) := (below_tn H6.out H6.out.size HT3.out (fun k e => by omega)).trans (b7.mono (Nat.le_trans H6.out.size HT3.out.size))
              have T7 : Hid (Turned W6 (wb.alloc (.cells #[.int .i64 (j : Int), .int .i64 m.type, .int .i64 po, .int .i64 pbt, .int .i64 pbs] TPl)) (fun k => k = gh)) := HT3.out.trans (Turned.of_below b7 (fun k => k = gh)) (fun _ _ e => e)
              have B7 : Hid (BoR (wb.alloc (.cells #[.int .i64 (j : Int), .int .i64 m.type, .int .i64 po, .int .i64 pbt, .int .i64 pbs] TPl)) gh N (hadW M H p.1.mem (PL.take t))) := HB3.out.below b7
              have hbx : gh < wb.heap.size := HB3.out.lt
              have HM1 : Hid (p.1.mem[j]? = some m) := r1
              have hjl : j < p.1.mem.length := (List.getElem?_eq_some_iff.1 r1).1
              have HP5 : Hid (m.bits = -1 → pbs = 0 ∧ pbt = 0 ∧ po + (M m.type).size ≤ (M i).size) := r5
              have HP6 : Hid (m.bits ≠ -1 → pbs = m.bits ∧ 0 < pbs ∧ 8 * po + pbt + pbs ≤ 8 * (M i).size) := r6
              clear hcl5 b7 HT3 HB3 hP r1 r4 r5 r6
              go_upto_region 26 with (first | ((with_reducible apply step_store hold); rfl; rfl; kernel_rfl; rfl; kernel_rfl; rw [World.setRow_alloc_new]) | fail)
              clear a0 a1 a2 a3 a4 hold
              generalize wb.alloc (.cells #[.int .i64 (j : Int), .int .i64 m.type, .int .i64 po, .int .i64 pbt, .int .i64 pbs] TPl) = W7 at *
              generalize wb.heap.size = bx at *
              have HZ7 : Hid (∀ Y, Turned W7 Y (fun k => k = gh) → Y.cell? ⟨bx, 0, none⟩ = some (.int .i64 (j : Int)) ∧ Y.cell? ⟨bx, 1, none⟩ = some (.int .i64 m.type) ∧ Y.cell? ⟨bx, 2, none⟩ = some (.int .i64 po) ∧ Y.cell? ⟨bx, 3, none⟩ = some (.int .i64 pbt) ∧ Y.cell? ⟨bx, 4, none⟩ = some (.int .i64 pbs)) := fun Y hY => by
                have q := blk_t N7.out hY (by omega)
                exact ⟨Lib.cell_of_heap q 0, Lib.cell_of_heap q 1, Lib.cell_of_heap q 2, Lib.cell_of_heap q 3, Lib.cell_of_heap q 4⟩
              obtain ⟨z0, z1, z2, z3, z4⟩ := HZ7.out W7 (Turned.refl _ _)
              by_cases hbt : 0 < pbs
              · as_aux_lemma =>
                  have hdb : decide (0 < pbs) = true := by simpa using hbt
                  have hmb : m.bits ≠ -1 := fun e => by have := (HP5.out e).1; omega
                  have hend := (HP6.out hmb).2.2
                  obtain ⟨A, hA⟩ : ∃ A : Nat, (A : Int) = 8 * po + pbt := ⟨(8 * po + pbt).toNat, by omega⟩
                  obtain ⟨Bn, hBn⟩ : ∃ Bn : Nat, (Bn : Int) = pbs := ⟨pbs.toNat, by omega⟩
                  have hAB : A + Bn ≤ N := by have := HNZ.out; omega
                  have HHIT : Hid (∀ k, hitsW M H p.1.mem ⟨(j : Int), m.type, po, pbt, pbs⟩ k = (!(m.name.toList == []) && (decide (A ≤ k) && decide (k < A + Bn)))) := fun k => by
                    unfold hitsW
                    simp only [if_pos hbt, Int.toNat_natCast, HM1.out]
                    congr 1
                    rw [Bool.eq_iff_iff]
                    simp only [Bool.and_eq_true, decide_eq_true_eq]
                    omega
                  obtain ⟨gm, om, hsp, hmc, hmcell⟩ := HRM.out j m HM1.out
                  subst hsp
                  have HMC : Hid (∀ Y, Below w1.heap.size w1 Y → Y.cell? ⟨gm, om + j * 3, none⟩ = some (.string m.name)) := fun Y hY => by have := hmcell Y hY 0 (by omega); simpa [mbCells] using this
                  have hw1 : IntKind.i64.wrap (8 * po) = 8 * po := wrap_id (by omega) (by have := HNZ.out; omega)
                  have hw2 : IntKind.i64.wrap (8 * po + pbt) = 8 * po + pbt := wrap_id (by omega) (by omega)
                  have hit : (i : Int) < (trs.length : Int) := by omega
                  have hjt : (j : Int) < (p.1.mem.length : Int) := by omega
                  have HAE : Hid ((A : Int) = 8 * po + pbt ∧ (Bn : Int) = pbs) := ⟨hA, hBn⟩
                  clear hA hBn hmcell hend
                  by_cases hnm : (!m.name.toList.isEmpty) = true
                  · as_aux_lemma =>
                      have HNE : Hid ((m.name.toList == []) = false) := by show (m.name.toList == []) = false; cases h : m.name.toList with | nil => rw [h] at hnm; cases hnm | cons x l => rfl
                      go_wp2
                      go_loopw [21] (fun kv wr => ∃ s : Nat, s ≤ Bn ∧ kv = .int .i64 s ∧ Hid (Turned W7 wr (fun k => k = gh)) ∧ Hid (BoR wr gh N (fun k => hadW M H p.1.mem (PL.take t) k || (decide (A ≤ k) && decide (k < A + s))))) (fun kv _ => Bn - (intOf kv).toNat)
                      case atStart => exact ⟨0, Nat.zero_le _, rfl, Turned.refl _ _, BoR.congr B7.out (fun j _ => by simp; omega)⟩
                      case round =>
                        obtain ⟨s, hs, rfl, HT4, HB4⟩ := hrel
                        clear z0 z1 z2 z3 z4
                        obtain ⟨z0, z1, z2, z3, z4⟩ := HZ7.out wr HT4.out
                        have HBW : Hid (Below w1.heap.size w1 wr) := below_tn H7.out H7.out.size HT4.out (fun k e => by omega)
                        obtain ⟨f0, _, f4⟩ := HRF.out wr HBW.out
                        have fn := HMC.out wr HBW.out
                        by_cases hlt4 : s < Bn
                        · have ds : decide ((s : Int) < pbs) = true := by have := HAE.out.2; simp; omega
                          have c0 := HB4.out.cell (k := A + s) (by omega)
                          have c1 := HB4.out.frozen (A + s)
                          have hw3 : IntKind.i64.wrap (8 * po + pbt + (s : Int)) = ((A + s : Nat) : Int) := by have := HAE.out.1; rw [wrap_id (by omega) (by omega)]; omega
                          have hbi : ((A + s : Nat) : Int) < (N : Int) := by omega
                          go_wp2
                          go_quiet (fail)
                          go_wp2
                          refine ⟨⟨s + 1, by omega, by go_num, ?_, ?_⟩, by simp [intOf]; omega⟩
                          · exact (turned_dr HT4.out _).trans (Turned.setCell (S := fun k => k = gh) _ _ _ _ rfl) (fun _ _ e => e)
                          · refine BoR.set (show BoR _ gh N _ from HB4.out) true (fun j hj => ?_)
                            by_cases e : j = A + s
                            · subst e; simp
                            · rw [if_neg e]
                              have h2 : (decide (A ≤ j) && decide (j < A + (s + 1))) = (decide (A ≤ j) && decide (j < A + s)) := by rw [Bool.eq_iff_iff]; simp; omega
                              rw [h2]
                        · obtain rfl : s = Bn := by omega
                          have ds : decide ((s : Int) < pbs) = false := by have := HAE.out.2; simp; omega
                          go_wp2
                          go_quiet (fail)
                          go_wp2
                          refine ⟨⟨t + 1, by omega, by go_num, ?_, ?_⟩, by simp [intOf]; omega⟩
                          · exact T7.out.trans (turned_dr HT4.out _) (fun _ _ e => e)
                          · exact BoR.congr (show BoR _ gh N _ from HB4.out) (fun k _ => by rw [HSTP.out k, HHIT.out k, HNE.out]; rfl)
                  · as_aux_lemma =>
                      have hnm0 : (!m.name.toList.isEmpty) = false := by simpa using hnm
                      have HNE : Hid ((m.name.toList == []) = true) := by show (m.name.toList == []) = true; cases h : m.name.toList with | nil => rfl | cons x l => rw [h] at hnm0; cases hnm0
                      go_wp2
                      go_loopw [21] (fun kv wr => kv = .int .i64 0 ∧ wr = W7) (fun _ _ => 0)
                      case atStart => exact ⟨rfl, rfl⟩
                      case round =>
                        obtain ⟨rfl, hwr⟩ := hrel
                        subst hwr
                        obtain ⟨f0, _, f4⟩ := HRF.out _ H7.out
                        have fn := HMC.out _ H7.out
                        go_wp2
                        go_quiet (fail)
                        go_wp2
                        refine ⟨⟨t + 1, by omega, by go_num, ?_, ?_⟩, by simp [intOf]; omega⟩
                        · exact turned_dr T7.out _
                        · exact BoR.congr (show BoR _ gh N _ from B7.out) (fun k _ => by rw [HSTP.out k, HHIT.out k, HNE.out]; simp)
              · as_aux_lemma =>
                  have hdb : decide (0 < pbs) = false := by simpa using hbt
                  have hmb : m.bits = -1 := Decidable.byContradiction fun e => hbt (HP6.out e).2.1
                  have hroom := (HP5.out hmb).2.2
                  obtain ⟨jt, q, hjt, hq, hwq⟩ := HMW.out m (List.mem_of_getElem? HM1.out)
                  have hlq : jt < trs.length := (List.getElem?_eq_some_iff.1 hq).1
                  have hs16 : (M m.type).size ≤ 16384 := by omega
                  have hX := openE_ok (rs := trs) (M := M) (id := m.type) (by rw [hjt]; simp [hasP]; omega) (by rw [hjt, wholeP_at hq]; exact hwq) hs16
                  have hlo := (meas_ok HD.out.ok hM jt q hq hwq).lo
                  have cG := HGK.out jt q W7 H7.out hq hwq (by rw [← hjt]; exact hs16)
                  rw [← hjt] at cG hlo
                  have HI2 : Hid (GapInv (H m.type) (8 * (M m.type).size).toNat (gapF (H m.type) (8 * (M m.type).size).toNat)) := gap_inv _ _
                  have hgl2 : (gapF (H m.type) (8 * (M m.type).size).toNat).l.length ≤ 131072 := Nat.le_trans (gapF_len _ _).1 (by omega)
                  have cS := fun Y hY => HSZ.out m.type Y hY
                  rw [hX.1, hX.2] at cS
                  have HS : Hid (∀ Y, Below w1.heap.size w1 Y → Calls Try.prog 8 #[.pointer (some ⟨b, 0, none⟩), .int .i64 m.type] Y fun e w' => e = .returned (.tuple #[.int .i64 (M m.type).size, .int .i64 0]) ∧ Below Y.heap.size Y w') := cS
                  clear cS hX hq hwq hjt
                  generalize gapF (H m.type) (8 * (M m.type).size).toNat = GI at *
                  generalize hN3 : (8 * (M m.type).size).toNat = N2 at *
                  have hNz2 : 8 * (M m.type).size = (N2 : Int) := by omega
                  obtain ⟨A, hA⟩ : ∃ A : Nat, (A : Int) = 8 * po := ⟨(8 * po).toNat, by omega⟩
                  have hAB : A + N2 ≤ N := by have := HNZ.out; omega
                  have HHIT : Hid (∀ k, hitsW M H p.1.mem ⟨(j : Int), m.type, po, pbt, pbs⟩ k = (decide (A ≤ k) && decide (k < A + N2) && H m.type (k - A))) := fun k => by
                    unfold hitsW
                    simp only [if_neg hbt]
                    rw [show (8 * po).toNat = A by omega]
                    congr 1
                    rw [Bool.eq_iff_iff]
                    simp only [Bool.and_eq_true, decide_eq_true_eq]
                    omega
                  have hmk2 := make_bools (8 * (M m.type).size) N2 hNz2 (by omega)
                  have hw8b : IntKind.i64.wrap (8 * (M m.type).size) = 8 * (M m.type).size := wrap_id (by omega) (by omega)
                  have HAE : Hid ((A : Int) = 8 * po) := hA
                  have hw1 : IntKind.i64.wrap (8 * po) = 8 * po := wrap_id (by omega) (by omega)
                  clear hN3 hNz2 hA hroom HP5 HP6
                  go_wp2_with fail
                  refine cG.mono ?_
                  rintro e w8 ⟨s2, rfl, hb8, ho8⟩
                  obtain ⟨q2, k2, rfl⟩ := slice_of_own ho8
                  have H8 : Hid (Below w1.heap.size w1 w8) := H7.out.trans (hb8.mono H7.out.size)
                  have B8 : Hid (Below W7.heap.size W7 w8) := hb8
                  have G8 : Hid (w8.ownsRow W7.heap.size TG 2 (.slice q2 GI.l.length k2) GI.l.length (gpCells GI.l)) := ho8
                  clear z0 z1 z2 z3 z4
                  obtain ⟨z0, z1, z2, z3, z4⟩ := HZ7.out w8 (Turned.of_below hb8 (fun k => k = gh))
                  clear cG hb8 ho8
                  go_wp2_with fail
                  refine (HS.out w8 H8.out).mono ?_
                  rintro e w9 ⟨rfl, hb9⟩
                  have H9 : Hid (Below w1.heap.size w1 w9) := H8.out.trans (hb9.mono H8.out.size)
                  have B9 : Hid (Below W7.heap.size W7 w9) := B8.out.trans (hb9.mono B8.out.size)
                  have G9 : Hid (w9.ownsRow W7.heap.size TG 2 (.slice q2 GI.l.length k2) GI.l.length (gpCells GI.l)) := ownsRow_turned G8.out (Turned.of_below hb9 (fun _ => False)) (fun _ _ h => h.elim)
                  clear hb9 HS G8 B8 z0 z1 z2 z3 z4
                  go_upto_region 36 with fail
                  have b10 := below1 w9 (.cells (madeCells #[.bool false] N2) 4)
                  have BP : Hid (BoR (w9.alloc (.cells (madeCells #[.bool false] N2) 4)) w9.heap.size N2 (onF (GI.l.take 0))) := (BoR.made w9 N2).congr (fun j _ => by simp [onF])
                  have B10 : Hid (Below W7.heap.size W7 (w9.alloc (.cells (madeCells #[.bool false] N2) 4))) := B9.out.trans (b10.mono B9.out.size)
                  have G10 : Hid ((w9.alloc (.cells (madeCells #[.bool false] N2) 4)).ownsRow W7.heap.size TG 2 (.slice q2 GI.l.length k2) GI.l.length (gpCells GI.l)) := ownsRow_turned G9.out (Turned.of_below b10 (fun _ => False)) (fun _ _ h => h.elim)
                  have HNG : Hid (∀ k, k = w9.heap.size → ¬ (Value.slice q2 GI.l.length k2).ownBlock = some k) := fun k e hk => by obtain ⟨_, cur, hc⟩ := ownsRow_at G9.out hk; have := lt_of_heap hc; omega
                  have hgp : W7.heap.size ≤ w9.heap.size := B9.out.size
                  have hlbx : bx < W7.heap.size := lt_of_heap N7.out
                  clear b10 G9 B9 H9 H8
                  generalize w9.alloc (.cells (madeCells #[.bool false] N2) 4) = W10 at *
                  generalize w9.heap.size = gp at *
                  go_wp2
                  go_loopw [27] (fun iv wr => ∃ t2 : Nat, t2 ≤ GI.l.length ∧ iv = .int .i64 t2 ∧ Hid (Turned W10 wr (fun k => k = gp)) ∧ Hid (BoR wr gp N2 (onF (GI.l.take t2)))) (fun iv _ => GI.l.length - (intOf iv).toNat)
                  case atStart => exact ⟨0, Nat.zero_le _, rfl, Turned.refl _ _, BP⟩
                  case round =>
                    obtain ⟨t2, ht2, rfl, HT5, HB5⟩ := hrel
                    obtain ⟨wd, hwd⟩ : ∃ x, x = wr := ⟨_, rfl⟩
                    subst hwd
                    by_cases hlt5 : t2 < GI.l.length
                    · as_aux_lemma =>
                        obtain ⟨g, hg⟩ : ∃ g, GI.l[t2]? = some g := ⟨_, List.getElem?_eq_getElem hlt5⟩
                        have hok := HI2.out.ok g (List.mem_of_getElem? hg)
                        have HONS : Hid (∀ k, onF (GI.l.take (t2 + 1)) k = (onF (GI.l.take t2) k || (decide (g.from_ ≤ k) && decide (k < g.from_ + g.bits)))) := onF_step GI.l hg
                        obtain ⟨gp1, gp2⟩ := gp_at GI.l t2 g hg
                        obtain ⟨gg, kg, hs1, hbg, hgl1, hcap1, hcl1, _⟩ := own_cell (own_kept G10.out HT5.out (fun k _ e => HNG.out k e)) (by omega)
                        cases hs1
                        have HCG : Hid (∀ Y, Turned W10 Y (fun k => k = gp) → Y.cell? ⟨gg, t2 * 2, none⟩ = some (.int .i64 (g.from_ : Int)) ∧ Y.cell? ⟨gg, t2 * 2 + 1, none⟩ = some (.int .i64 (g.bits : Int))) := fun Y hY => by
                          obtain ⟨gg', kg', hs', _, _, _, hcl', _⟩ := own_cell (own_kept G10.out hY (fun k _ e => HNG.out k e)) (by omega)
                          cases hs'
                          exact ⟨hcl' _ _ gp1, hcl' _ _ gp2⟩
                        clear hcl1 gp1 gp2 hg
                        go_wp2
                        go_loopw [28] (fun kv wr => ∃ s : Nat, s ≤ g.bits ∧ kv = .int .i64 s ∧ Hid (Turned W10 wr (fun k => k = gp)) ∧ Hid (BoR wr gp N2 (fun k => onF (GI.l.take t2) k || (decide (g.from_ ≤ k) && decide (k < g.from_ + s))))) (fun kv _ => g.bits - (intOf kv).toNat)
                        case atStart => exact ⟨0, Nat.zero_le _, rfl, HT5, BoR.congr HB5.out (fun j _ => by simp; omega)⟩
                        case round =>
                          obtain ⟨s, hs, rfl, HT6, HB6⟩ := hrel
                          obtain ⟨a0, a1⟩ := HCG.out wr HT6.out
                          by_cases hlt6 : s < g.bits
                          · as_aux_lemma =>
                              have c0 := HB6.out.cell (k := g.from_ + s) (by omega)
                              have f0 := HB6.out.frozen (g.from_ + s)
                              have ds : decide ((s : Int) < (g.bits : Int)) = true := by simp; omega
                              have dg : decide ((0 : Int) ≤ (g.from_ : Int)) = true := by simp
                              have hwi : IntKind.i64.wrap ((g.from_ : Int) + (s : Int)) = ((g.from_ + s : Nat) : Int) := by rw [wrap_id (by omega) (by omega)]; omega
                              have hbi : ((g.from_ + s : Nat) : Int) < (N2 : Int) := by omega
                              go_wp2
                              refine ⟨⟨s + 1, by omega, by go_num, ?_, ?_⟩, by simp [intOf]; omega⟩
                              · exact HT6.out.trans (Turned.setCell (S := fun k => k = gp) _ _ _ _ rfl) (fun _ _ e => e)
                              · refine BoR.set HB6.out true (fun j hj => ?_)
                                by_cases e : j = g.from_ + s
                                · subst e; simp
                                · rw [if_neg e]
                                  have h2 : (decide (g.from_ ≤ j) && decide (j < g.from_ + (s + 1))) = (decide (g.from_ ≤ j) && decide (j < g.from_ + s)) := by rw [Bool.eq_iff_iff]; simp; omega
                                  rw [h2]
                          · obtain rfl : s = g.bits := by omega
                            have ds : decide ((g.bits : Int) < (g.bits : Int)) = false := by simp
                            go_wp2
                            exact ⟨⟨t2 + 1, by omega, by go_num, HT6, BoR.congr HB6.out (fun j _ => HONS.out j)⟩, by simp [intOf]; omega⟩
                    · as_aux_lemma =>
                        obtain rfl : t2 = GI.l.length := by omega
                        have BPF : Hid (BoR wd gp N2 (fun k => !H m.type k)) := BoR.congr HB5.out (fun j hj => by rw [List.take_length]; exact (HI2.out.cover j hj).symm)
                        have HWD : Hid (Turned W7 wd (fun k => k = gh)) := (Turned.of_below B10.out (fun k => k = gh)).trans HT5.out (fun k hk e => by omega)
                        have BHD : Hid (BoR wd gh N (hadW M H p.1.mem (PL.take t))) := (B7.out.below B10.out).turned HT5.out (by omega)
                        clear HB5 HT5 BP G10 HNG HI2 B7
                        go_wp2
                        go_loopw [29] (fun kv wr => ∃ s : Nat, s ≤ N2 ∧ kv = .int .i64 s ∧ Hid (Turned wd wr (fun k => k = gh)) ∧ Hid (BoR wr gh N (fun k => hadW M H p.1.mem (PL.take t) k || (decide (A ≤ k) && decide (k < A + s) && H m.type (k - A))))) (fun kv _ => N2 - (intOf kv).toNat)
                        case atStart => exact ⟨0, Nat.zero_le _, rfl, Turned.refl _ _, BoR.congr BHD.out (fun j _ => by
                          have h0 : (decide (A ≤ j) && decide (j < A + 0)) = false := by simp <;> omega
                          rw [h0]; simp)⟩
                        case round =>
                          obtain ⟨s, hs, rfl, HT8, HB8⟩ := hrel
                          have HW8 : Hid (Turned W7 wr (fun k => k = gh)) := HWD.out.trans HT8.out (fun _ _ e => e)
                          by_cases hlt7 : s < N2
                          · obtain ⟨_, _, z2, _, _⟩ := HZ7.out wr HW8.out
                            have c0 := HB8.out.cell (k := A + s) (by omega)
                            have e0 : (decide (A ≤ A + s) && decide (A + s < A + s) && H m.type (A + s - A)) = false := by simp
                            rw [e0, Bool.or_false] at c0
                            clear e0
                            have f0 := HB8.out.frozen (A + s)
                            have c1 := (BPF.out.turned HT8.out (by omega)).cell hlt7
                            have hwi : IntKind.i64.wrap (8 * po + (s : Int)) = ((A + s : Nat) : Int) := by have := HAE.out; rw [wrap_id (by omega) (by omega)]; omega
                            have hbi : ((A + s : Nat) : Int) < (N : Int) := by omega
                            have hsi : (s : Int) < (N2 : Int) := by omega
                            cases hv : hadW M H p.1.mem (PL.take t) (A + s) with
                            | true =>
                              as_aux_lemma =>
                                rw [hv] at c0
                                have HV : Hid (hadW M H p.1.mem (PL.take t) (A + s) = true) := hv
                                clear hv
                                go_wp2
                                go_region
                                go_wp2
                                refine ⟨⟨s + 1, by omega, by go_num, ?_, ?_⟩, by simp [intOf]; omega⟩
                                · have q := HT8.out.trans (Turned.setCell (S := fun k => k = gh) wr gh (A + s) (.bool true) rfl) (fun _ _ e => e)
                                  show Turned wd _ (fun k => k = gh)
                                  exact ⟨q.os, q.tape, q.output, q.size, q.block⟩
                                · have q : BoR (wr.setCell ⟨gh, A + s, none⟩ (.bool true)) gh N (fun k => hadW M H p.1.mem (PL.take t) k || (decide (A ≤ k) && decide (k < A + (s + 1)) && H m.type (k - A))) := BoR.set HB8.out true (fun j hj => by
                                    by_cases e : j = A + s
                                    · subst e
                                      rw [if_pos rfl, Nat.add_sub_cancel_left, HV.out]
                                      simp
                                    · rw [if_neg e]
                                      have h2 : (decide (A ≤ j) && decide (j < A + (s + 1))) = (decide (A ≤ j) && decide (j < A + s)) := by rw [Bool.eq_iff_iff]; simp; omega
                                      rw [h2])
                                  exact q
                            | false =>
                              rw [hv] at c0
                              have HV : Hid (hadW M H p.1.mem (PL.take t) (A + s) = false) := hv
                              clear hv
                              cases hu : H m.type s with
                              | true =>
                                as_aux_lemma =>
                                  rw [hu] at c1
                                  simp only [Bool.not_true] at c1
                                  have HU : Hid (H m.type s = true) := hu
                                  clear hu
                                  go_wp2
                                  go_region
                                  go_wp2
                                  refine ⟨⟨s + 1, by omega, by go_num, ?_, ?_⟩, by simp [intOf]; omega⟩
                                  · have q := HT8.out.trans (Turned.setCell (S := fun k => k = gh) wr gh (A + s) (.bool true) rfl) (fun _ _ e => e)
                                    show Turned wd _ (fun k => k = gh)
                                    exact ⟨q.os, q.tape, q.output, q.size, q.block⟩
                                  · have q : BoR (wr.setCell ⟨gh, A + s, none⟩ (.bool true)) gh N (fun k => hadW M H p.1.mem (PL.take t) k || (decide (A ≤ k) && decide (k < A + (s + 1)) && H m.type (k - A))) := BoR.set HB8.out true (fun j hj => by
                                      by_cases e : j = A + s
                                      · subst e
                                        rw [if_pos rfl, Nat.add_sub_cancel_left, HV.out, HU.out]
                                        simp
                                      · rw [if_neg e]
                                        have h2 : (decide (A ≤ j) && decide (j < A + (s + 1))) = (decide (A ≤ j) && decide (j < A + s)) := by rw [Bool.eq_iff_iff]; simp; omega
                                        rw [h2])
                                    exact q
                              | false =>
                                as_aux_lemma =>
                                  rw [hu] at c1
                                  simp only [Bool.not_false] at c1
                                  have HU : Hid (H m.type s = false) := hu
                                  clear hu
                                  go_wp2
                                  go_region
                                  go_wp2
                                  refine ⟨⟨s + 1, by omega, by go_num, ?_, ?_⟩, by simp [intOf]; omega⟩
                                  · have q := HT8.out.trans (Turned.setCell (S := fun k => k = gh) wr gh (A + s) (.bool false) rfl) (fun _ _ e => e)
                                    show Turned wd _ (fun k => k = gh)
                                    exact ⟨q.os, q.tape, q.output, q.size, q.block⟩
                                  · have q : BoR (wr.setCell ⟨gh, A + s, none⟩ (.bool false)) gh N (fun k => hadW M H p.1.mem (PL.take t) k || (decide (A ≤ k) && decide (k < A + (s + 1)) && H m.type (k - A))) := BoR.set HB8.out false (fun j hj => by
                                      by_cases e : j = A + s
                                      · subst e
                                        rw [if_pos rfl, Nat.add_sub_cancel_left, HV.out, HU.out]
                                        simp
                                      · rw [if_neg e]
                                        have h2 : (decide (A ≤ j) && decide (j < A + (s + 1))) = (decide (A ≤ j) && decide (j < A + s)) := by rw [Bool.eq_iff_iff]; simp; omega
                                        rw [h2])
                                    exact q
                          · obtain rfl : s = N2 := by omega
                            go_wp2
                            refine ⟨⟨t + 1, by omega, by go_num, ?_, ?_⟩, by simp [intOf]; omega⟩
                            · exact T7.out.trans HW8.out (fun _ _ e => e)
                            · exact BoR.congr HB8.out (fun k _ => by rw [HSTP.out k, HHIT.out k])
            · as_aux_lemma =>
                have BHF : Hid (BoR wb gh N (fun k => H i k)) := BoR.congr HB3.out (fun k _ => by rw [show t = PL.length by omega, List.take_length]; exact (HALL.out k).symm)
                have BOF : Hid (BoR wb go N (fun k => !H i k)) := BO6.out.turned HT3.out (by omega)
                have HBW : Hid (Below w.heap.size w wb) := H1.out.trans ((below_tn H6.out H6.out.size HT3.out (fun k e => by omega)).mono H1.out.size)
                clear HT3 HB3 BO6 O6
                go_wp2
                go_loopw [30] (fun kv wr => ∃ s : Nat, s ≤ N ∧ kv = .int .i64 s ∧ Hid (Below w.heap.size w wr) ∧ Hid (BoR wr gh N (fun k => H i k)) ∧ Hid (BoR wr go N (fun k => !H i k))) (fun kv _ => N - (intOf kv).toNat)
                case atStart => exact ⟨0, Nat.zero_le _, rfl, HBW, BHF, BOF⟩
                case round =>
                  obtain ⟨s, hs, rfl, HW, HBH, HBO⟩ := hrel
                  by_cases hlt8 : s < N
                  · have c0 := HBH.out.cell hlt8
                    have c1 := HBO.out.cell hlt8
                    cases hv : H i s with
                    | true =>
                      rw [hv] at c0 c1
                      simp only [Bool.not_true] at c1
                      go_wp2
                      go_quiet (fail)
                      go_wp2
                      exact ⟨⟨s + 1, by omega, by go_num, ⟨HW.out.os, HW.out.tape, HW.out.output, HW.out.size, HW.out.block⟩, HBH, HBO⟩, by simp [intOf]; omega⟩
                    | false =>
                      rw [hv] at c0 c1
                      simp only [Bool.not_false] at c1
                      go_wp2
                      go_quiet (fail)
                      go_wp2
                      exact ⟨⟨s + 1, by omega, by go_num, ⟨HW.out.os, HW.out.tape, HW.out.output, HW.out.size, HW.out.block⟩, HBH, HBO⟩, by simp [intOf]; omega⟩
                  · obtain rfl : s = N := by omega
                    go_wp2_with fail
                    refine (HH.out _ HW.out).mono ?_
                    rintro e wz ⟨rfl, hbz⟩
                    have HZ : Hid (Below w.heap.size w wz) := hbz
                    clear hbz
                    go_wp2
                    go_ret
                    exact ⟨rfl, HZ.out⟩
    · have hE : openE trs M i = 50 ∨ openE trs M i = 51 := by
        unfold openE
        rw [if_neg (by rw [hh]; decide), wholeP_at hp]
        by_cases h1 : wholeR p.1 = false
        · left; rw [if_pos h1]
        · right
          have h2 : wholeR p.1 = true := by simpa using h1
          rw [if_neg h1, if_pos (Int.not_le.1 (fun hz => hgood ⟨h2, hz⟩))]
      have hX : openX trs M i = ⟨0, 0⟩ := by unfold openX; rw [if_neg (by omega)]
      have HG : Hid (∀ Y, Below w1.heap.size w1 Y → Calls Try.prog 9 #[.pointer (some ⟨b, 0, none⟩), .int .i64 (i : Int)] Y fun e w' => e = .returned (.tuple #[.slice none 0 0, .int .i64 (openE trs M i)]) ∧ Below Y.heap.size Y w') := fun Y hY => gaps_err (HT.out Y hY) (by omega) HD.out.small HD.out.ok hM i (by omega)
      have HPE : Hid (∀ Y, Below w1.heap.size w1 Y → Calls Try.prog 10 #[.pointer (some ⟨b, 0, none⟩), .int .i64 (i : Int)] Y fun e w' => e = .returned (.tuple #[.slice none 0 0, .int .i64 (openE trs M i)]) ∧ Below Y.heap.size Y w') := fun Y hY => places_err (i : Int) (openE trs M i) (by rcases hE with e | e <;> rw [e] <;> decide) (openR_err (HT.out Y hY) (by omega) HD.out.small HD.out.ok hM i (by omega))
      have cS := HSZ.out i w1 (Below.refl _ _)
      rw [hX] at cS
      clear HSZ hX hgood hM hH HT HD
      generalize openE trs M i = er at *
      rcases hE with rfl | rfl
      all_goals
       as_aux_lemma =>
        go_wp2_with fail
        refine cS.mono ?_
        rintro e w2 ⟨rfl, hb2⟩
        have H2 : Hid (Below w1.heap.size w1 w2) := hb2
        clear hb2 cS
        go_wp2_with fail
        refine (HG.out w2 H2.out).mono ?_
        rintro e w3 ⟨rfl, hb3⟩
        have H3 : Hid (Below w1.heap.size w1 w3) := H2.out.trans (hb3.mono H2.out.size)
        clear hb3 HG
        go_wp2_with fail
        refine (HPE.out w3 H3.out).mono ?_
        rintro e w4 ⟨rfl, hb4⟩
        have H4 : Hid (Below w1.heap.size w1 w4) := H3.out.trans (hb4.mono H3.out.size)
        clear hb4 HPE
        go_wp2_with fail
        refine (HH.out _ (H1.out.trans (H4.out.mono H1.out.size))).mono ?_
        rintro e wz ⟨rfl, hbz⟩
        have HZ : Hid (Below w.heap.size w wz) := hbz
        clear hbz
        go_wp2
        go_ret
        exact ⟨rfl, HZ.out⟩
end
end Go.Proofs.Ytkobggbipoappab
