/-
  The law that a right program never leaves its code.
-/
import Derived.Test.YtdijnbgcamgjfaaGreatDoorTcJ
import Derived.Test.YtdijnbgcamgjfaaGreatDoorTfB
import Derived.Test.YtdijnbgcamgjfaaGreatDoorTfD
namespace Go.Proofs.YtdijnbgcamgjfaaGreatDoor
open Go.RowKit Go.Maps
set_option linter.unusedVariables false
set_option linter.unusedSimpArgs false
set_option maxRecDepth 100000
theorem intSl_parts {w : World} {v : Value} {l : List Int} (h : IntSl w v l) : ∃ p c, v = .slice p l.length c ∧ l.length ≤ c ∧ ∀ (i : Nat) (n : Int), l[i]? = some n → ∃ g o, p = some ⟨g, o, none⟩ ∧ g < w.heap.size ∧ w.cell? ⟨g, o + i, none⟩ = some (.int .i64 n) := by
  rcases h with ⟨rfl, rfl⟩ | ⟨g, o, cap, rfl, hc, hg, hcell⟩
  · exact ⟨none, 0, rfl, Nat.zero_le _, fun i n hn => by simp at hn⟩
  · exact ⟨_, cap, rfl, hc, fun i n hn => ⟨g, o, rfl, hg, hcell i n hn⟩⟩
section
variable {w : World}
set_option maxHeartbeats 16000000 in
theorem tacNexts_c {x : Pg} {a : Pw} (hG : PgG w x a) (hP : PrW w) (hM : MaxIn w) (hg : 10 ≤ w.heap.size) :
    Calls Tryz.prog 3 #[pgV x a] w fun e w' => e = .returned (.bool true) ∧ Below w.heap.size w w' := by
  obtain ⟨obs, fns, mn⟩ := x
  obtain ⟨aop, aoc, afp, afc⟩ := a
  have b1 := below1 w (.cells #[.slice aop obs.length aoc, .slice afp fns.length afc, .int .i64 mn] TPg)
  have N1 := heap_r0 w (.cells #[.slice aop obs.length aoc, .slice afp fns.length afc, .int .i64 mn] TPg)
  have c0 := (Lib.cell_of_heap N1 0).trans rfl
  have c1 := (Lib.cell_of_heap N1 1).trans rfl
  have c2 := (Lib.cell_of_heap N1 2).trans rfl
  have HH : Hid (∀ Y, Below w.heap.size w Y → Calls Tryz.prog 10 #[] Y fun e w' => e = .returned (.bool true) ∧ Below Y.heap.size Y w') := fun Y hY => heads_c (hP.below hY) (hM.below hY) (Nat.le_trans hg hY.size)
  have hPb := hP.below b1
  have CK := check_c (hG.ok.below b1) hPb.forms hPb.names hPb.pos
  have HB1 : Hid (Below w.heap.size w (w.alloc (.cells #[.slice aop obs.length aoc, .slice afp fns.length afc, .int .i64 mn] TPg))) := b1
  have HN1 : Hid (_ = _) := N1
  show Calls Tryz.prog 3 #[.agg #[.slice aop obs.length aoc, .slice afp fns.length afc, .int .i64 mn]] w fun e w' => e = .returned (.bool true) ∧ Below w.heap.size w w'
  unfold pgV at CK
  clear b1 N1 hPb hP hM hg
  cases hc : checkB ⟨obs, fns, mn⟩ with
  | false => as_aux_lemma =>
    rw [hc] at CK
    simp only [Bool.false_eq_true, if_false] at CK
    clear hc hG
    go_enter Tryz.func3, Tryz.ntmps3
    go_wp2_with (first
      | (go_at_call 9; refine CK.mono ?_; rintro e w2 ⟨rfl, hb2⟩; have HB2 : Hid (Below w.heap.size w w2) := HB1.out.trans (hb2.mono HB1.out.size); clear hb2 c0 c1 c2)
      | (go_at_call 10; refine (HH.out _ HB2.out).mono ?_; rintro e w3 ⟨rfl, hb3⟩; have HB3 : Hid (Below w.heap.size w w3) := HB2.out.trans (hb3.mono HB2.out.size); clear hb3)
      | fail)
    go_ret
    exact ⟨rfl, HB3.out⟩
  | true =>
    rw [hc] at CK
    simp only [if_true] at CK
    have HGD : Hid (∀ q ∈ fns, FnGood q) := prog_good hc (fun q hq i hi => ⟨((hG.fs q hq).ins i hi).ok.a, ((hG.fs q hq).ins i hi).ok.b, ((hG.fs q hq).ins i hi).ok.ao⟩)
    have HG : Hid (PgG w ⟨obs, fns, mn⟩ ⟨aop, aoc, afp, afc⟩) := hG
    have HFR : Hid (∀ Y, Below w.heap.size w Y → RowV fgC 6 Y afp afc fns) := fun Y hY => hG.ok.fr.below hY
    have hfl : fns.length ≤ 100000000000000 := hG.fl
    clear hc hG
    go_enter Tryz.func3, Tryz.ntmps3
    go_upto_region 1 with (fail)
    refine (?_ : Code.wp _ _ _ _ (w.alloc (.cells #[.slice aop obs.length aoc, .slice afp fns.length afc, .int .i64 mn] TPg)))
    generalize w.alloc (.cells #[.slice aop obs.length aoc, .slice afp fns.length afc, .int .i64 mn] TPg) = W1 at *
    go_upto_region 3 with (first
      | (go_at_call 9; refine CK.mono ?_; rintro e w2 ⟨rfl, hb2⟩; have HB2 : Hid (Below W1.heap.size W1 w2) := hb2; clear hb2 c0 c1 c2 CK)
      | fail)
    go_wp2
    go_loopw [3] (fun iv wr => ∃ i : Nat, iv = .int .i64 i ∧ i ≤ fns.length ∧ Hid (Below W1.heap.size W1 wr)) (fun iv _ => fns.length - (intOf iv).toNat)
    case atStart => exact ⟨0, rfl, Nat.zero_le _, HB2.out⟩
    case round =>
      obtain ⟨i, rfl, hi, HBi⟩ := hrel
      have HBw : Hid (Below w.heap.size w wr) := HB1.out.trans (HBi.out.mono HB1.out.size)
      have hp1 := (Lib.cell_of_heap (blk_b HN1.out HBi.out) 1).trans rfl
      by_cases hlt : i < fns.length
      · obtain ⟨q, hq⟩ : ∃ q, fns[i]? = some q := ⟨_, List.getElem?_eq_getElem hlt⟩
        have hqm := List.mem_of_getElem? hq
        have hGd := HGD.out q hqm
        have hFg := (HG.out.fs q hqm)
        obtain ⟨gf, of, hpe, hgf, hcf⟩ := (HFR.out wr HBw.out).2 i q hq
        have hfcap := (HFR.out wr HBw.out).1.1
        subst hpe
        obtain ⟨⟨nm, pr, tp, gv, sp, sn, sc, cp, cn, cc⟩, sls, code⟩ := q
        have hcn : cn = code.length := hFg.ok.cn
        subst hcn
        have f2 : wr.cell? ⟨gf, of + i * 6 + 2, none⟩ = some (.int .i64 tp) := hcf 2 (by omega)
        have f5 : wr.cell? ⟨gf, of + i * 6 + 5, none⟩ = some (.slice cp code.length cc) := hcf 5 (by omega)
        have HCR : Hid (∀ Y, Below w.heap.size w Y → RowV iwC 12 Y cp cc code) := fun Y hY => hFg.ok.cr.below hY
        have HIG : Hid (∀ r ∈ code, IwG w r) := hFg.ins
        have HIN : Hid (∀ r ∈ code, InGood tp code.length r.x) := hGd.ins
        have HLA : Hid (lastB code = true) := hGd.last
        have htp : 0 ≤ tp ∧ tp ≤ 4096 := hGd.tp
        have hcl : code.length ≤ 16384 := hGd.len
        have HF2 : Hid (wr.cell? ⟨gf, of + i * 6 + 2, none⟩ = some (.int .i64 tp)) := f2
        have HP1 : Hid (_ = _) := hp1
        have HXS : Hid (InV w (.slice cp code.length cc) (code.map fun q => (q.x, .slice q.xp q.x.args.length q.xc))) := inV_of hFg.ok.cr fun q hq => (hFg.ins q hq).ok
        clear hcf hFg hGd hqm hq
        go_upto_region 7 with (fail)
        go_wp2
        clear f2 f5 hp1
        have HBi0 : Hid (Below w.heap.size w wr) := HBw.out
        go_loopw [5] (fun iv wk => ∃ k : Nat, iv = .int .i64 k ∧ k ≤ code.length ∧ Hid (Below wr.heap.size wr wk)) (fun iv _ => code.length - (intOf iv).toNat)
        case atStart => exact ⟨0, rfl, Nat.zero_le _, Below.refl _ _⟩
        case round =>
          rename World => wk
          obtain ⟨k, rfl, hk, HBk⟩ := hrel
          have HBwk : Hid (Below w.heap.size w wk) := HBw.out.trans (HBk.out.mono HBw.out.size)
          by_cases hlk : k < code.length
          · as_aux_lemma =>
            obtain ⟨r, hr⟩ : ∃ r, code[k]? = some r := ⟨_, List.getElem?_eq_getElem hlk⟩
            obtain ⟨qx, rp, rc⟩ := r
            have hrm := List.mem_of_getElem? hr
            obtain ⟨g1, o1, hk1e, hg1, hc1⟩ := (HCR.out wk HBwk.out).2 k _ hr
            have q1 := (HCR.out wk HBwk.out).1.1
            subst hk1e
            have hIg := HIG.out _ hrm
            have hIn := HIN.out _ hrm
            have hXk : (code.map fun q => (q.x, Value.slice q.xp q.x.args.length q.xc))[k]? = some (qx, Value.slice rp qx.args.length rc) := by rw [List.getElem?_map, hr]; rfl
            have hxl : (code.map fun q => (q.x, Value.slice q.xp q.x.args.length q.xc)).length = code.length := List.length_map _
            have hNG := next_good hXk (by rw [hxl]; exact hIn) (fun h => by
              rw [hxl] at h
              have h2 := HLA.out
              unfold lastB at h2
              rw [← h, Nat.add_sub_cancel, hr] at h2
              exact h2)
            have CN : Hid (∀ Y, Below wk.heap.size wk Y → Calls Tryz.prog 11 #[.slice (some ⟨g1, o1, none⟩) code.length cc, .int .i64 (k : Int)] Y fun e w' => ∃ u, e = .returned u ∧ IntSl w' u (nextP (code.map fun q => (q.x, .slice q.xp q.x.args.length q.xc)) k) ∧ Below Y.heap.size Y w') := fun Y hY => next_c (HXS.out.below (HBwk.out.trans (hY.mono HBwk.out.size))) (by rw [hxl]; omega) k
            rw [hxl] at hNG
            generalize nextP (code.map fun q => (q.x, Value.slice q.xp q.x.args.length q.xc)) k = L at *
            have HNG : Hid (NextGood code.length qx.op L) := hNG
            have CW : Hid (∀ Y, Calls Tryz.prog 12 #[.agg #[.int .i64 qx.op, .int .i64 qx.bin, .int .i64 qx.d, .int .i64 qx.a.kind, .int .u32 qx.a.n, .int .i64 qx.b.kind, .int .u32 qx.b.n, .int .i64 qx.n, .int .i64 qx.off, .int .i64 qx.width, .bool qx.sg, .slice rp qx.args.length rc]] Y fun e w' => e = .returned (.int .i64 (writesP qx)) ∧ Below Y.heap.size Y w') := fun Y => writes_c qx rp qx.args.length rc Y
            have CR : Hid (∀ Y, Below wk.heap.size wk Y → Calls Tryz.prog 13 #[.agg #[.int .i64 qx.op, .int .i64 qx.bin, .int .i64 qx.d, .int .i64 qx.a.kind, .int .u32 qx.a.n, .int .i64 qx.b.kind, .int .u32 qx.b.n, .int .i64 qx.n, .int .i64 qx.off, .int .i64 qx.width, .bool qx.sg, .slice rp qx.args.length rc]] Y fun e w' => ∃ v, e = .returned v ∧ IntSl w' v (readsP qx) ∧ Below Y.heap.size Y w') := fun Y h => reads_c (hIg.ok.ar.below (HBwk.out.trans (h.mono HBwk.out.size))) (arOK_all hIg.ok.a hIg.ok.b hIg.ok.ao) hIg.sz
            have hwr := hIn.wr
            have HRD : Hid (∀ m ∈ readsP qx, 0 ≤ m ∧ m < tp) := hIn.rd
            have HRL : Hid ((readsP qx).length ≤ 100000000000000) := by have h1 := hIg.sz; have h2 := readsP_len qx; simp only at h1; show (readsP qx).length ≤ 100000000000000; omega
            generalize writesP qx = WP at *
            generalize readsP qx = RL at *
            have M0 : Hid (∀ Y, Below wk.heap.size wk Y → Y.cell? ⟨g1, o1 + k * 12, none⟩ = some (.int .i64 qx.op)) := fun Y h => (Below.cell h (p := ⟨g1, _, none⟩) hg1).trans (hc1 0 (by omega))
            have M1 : Hid (∀ Y, Below wk.heap.size wk Y → Y.cell? ⟨g1, o1 + k * 12 + 1, none⟩ = some (.int .i64 qx.bin)) := fun Y h => (Below.cell h (p := ⟨g1, _, none⟩) hg1).trans (hc1 1 (by omega))
            have M2 : Hid (∀ Y, Below wk.heap.size wk Y → Y.cell? ⟨g1, o1 + k * 12 + 2, none⟩ = some (.int .i64 qx.d)) := fun Y h => (Below.cell h (p := ⟨g1, _, none⟩) hg1).trans (hc1 2 (by omega))
            have M3 : Hid (∀ Y, Below wk.heap.size wk Y → Y.cell? ⟨g1, o1 + k * 12 + 3, none⟩ = some (.int .i64 qx.a.kind)) := fun Y h => (Below.cell h (p := ⟨g1, _, none⟩) hg1).trans (hc1 3 (by omega))
            have M4 : Hid (∀ Y, Below wk.heap.size wk Y → Y.cell? ⟨g1, o1 + k * 12 + 4, none⟩ = some (.int .u32 qx.a.n)) := fun Y h => (Below.cell h (p := ⟨g1, _, none⟩) hg1).trans (hc1 4 (by omega))
            have M5 : Hid (∀ Y, Below wk.heap.size wk Y → Y.cell? ⟨g1, o1 + k * 12 + 5, none⟩ = some (.int .i64 qx.b.kind)) := fun Y h => (Below.cell h (p := ⟨g1, _, none⟩) hg1).trans (hc1 5 (by omega))
            have M6 : Hid (∀ Y, Below wk.heap.size wk Y → Y.cell? ⟨g1, o1 + k * 12 + 6, none⟩ = some (.int .u32 qx.b.n)) := fun Y h => (Below.cell h (p := ⟨g1, _, none⟩) hg1).trans (hc1 6 (by omega))
            have M7 : Hid (∀ Y, Below wk.heap.size wk Y → Y.cell? ⟨g1, o1 + k * 12 + 7, none⟩ = some (.int .i64 qx.n)) := fun Y h => (Below.cell h (p := ⟨g1, _, none⟩) hg1).trans (hc1 7 (by omega))
            have M8 : Hid (∀ Y, Below wk.heap.size wk Y → Y.cell? ⟨g1, o1 + k * 12 + 8, none⟩ = some (.int .i64 qx.off)) := fun Y h => (Below.cell h (p := ⟨g1, _, none⟩) hg1).trans (hc1 8 (by omega))
            have M9 : Hid (∀ Y, Below wk.heap.size wk Y → Y.cell? ⟨g1, o1 + k * 12 + 9, none⟩ = some (.int .i64 qx.width)) := fun Y h => (Below.cell h (p := ⟨g1, _, none⟩) hg1).trans (hc1 9 (by omega))
            have M10 : Hid (∀ Y, Below wk.heap.size wk Y → Y.cell? ⟨g1, o1 + k * 12 + 10, none⟩ = some (.bool qx.sg)) := fun Y h => (Below.cell h (p := ⟨g1, _, none⟩) hg1).trans (hc1 10 (by omega))
            have M11 : Hid (∀ Y, Below wk.heap.size wk Y → Y.cell? ⟨g1, o1 + k * 12 + 11, none⟩ = some (.slice rp qx.args.length rc)) := fun Y h => (Below.cell h (p := ⟨g1, _, none⟩) hg1).trans (hc1 11 (by omega))
            have hop : Hid (1 ≤ qx.op ∧ qx.op ≤ 14) := hIn.op
            clear hc1 hr hrm hIg hIn hXk hxl hNG
            go_upto_region 10 with (fail)
            go_upto_region 11 with (first
              | (go_at_call 11; refine (CN.out _ (Below.refl _ _)).mono ?_; rintro e w4 ⟨u, rfl, hu, hb4⟩; have HB4 : Hid (Below wk.heap.size wk w4) := hb4; have HU : Hid (IntSl w4 u L) := hu; clear hb4 hu CN)
              | fail)
            have op4 := M0.out w4 HB4.out
            obtain ⟨up, uc, rfl, hucap, hucell⟩ := intSl_parts HU.out
            have HUC : Hid (∀ (i : Nat) (n : Int), L[i]? = some n → ∃ g o, up = some ⟨g, o, none⟩ ∧ g < w4.heap.size ∧ w4.cell? ⟨g, o + i, none⟩ = some (.int .i64 n)) := hucell
            clear hucell HU
            have hne := HNG.out.len
            obtain ⟨E, hE⟩ : ∃ E, E = endsX qx.op := ⟨_, rfl⟩
            have HE : Hid (E = endsX qx.op) := hE
            clear hE
            go_cut [7] from 38 to 51 (fun s7 wx => s7 = .bool E ∧ wx = w4)
            case first => as_aux_lemma =>
              have H4 : Hid (w4.cell? ⟨g1, o1 + k * 12, none⟩ = some (.int .i64 qx.op)) := op4
              clear op4
              by_cases h9 : qx.op = 9
              · have e1 := H4.out
                rw [h9] at e1
                have : E = true := by rw [HE.out, h9]; rfl
                subst this
                clear h9
                go_wp2
                go_meet
                exact ⟨rfl, rfl⟩
              · by_cases h14 : qx.op = 14
                · have e1 := H4.out
                  rw [h14] at e1
                  have : E = true := by rw [HE.out, h14]; rfl
                  subst this
                  clear h9 h14
                  go_wp2
                  go_meet
                  exact ⟨rfl, rfl⟩
                · have e1 := H4.out
                  have t1 : (qx.op == 9) = false := by simpa using h9
                  have t2 : (qx.op == 14) = false := by simpa using h14
                  have : E = false := by rw [HE.out]; unfold endsX; rw [t1, t2]; rfl
                  subst this
                  clear h9 h14
                  go_wp2
                  go_meet
                  exact ⟨rfl, rfl⟩
            case rest =>
              obtain ⟨rfl, hwc⟩ := hcut
              rw [hwc]
              clear hwc op4
              have hEL : E = decide (L.length = 0) := HE.out.trans HNG.out.ends
              have hz : ((L.length : Int) == 0) = E := by
                rw [hEL]
                by_cases h0 : L.length = 0
                · simp [h0]
                · have : ¬ ((L.length : Int) = 0) := by omega
                  simp [h0]
              have hz2 : (E != E) = false := by simp
              have hgt : ¬ ((2 : Int) < (L.length : Int)) := by omega
              have HEL : Hid (E = decide (L.length = 0)) := hEL
              clear hEL HE
              go_upto_region 14 with (fail)
              go_wp2
              go_loopw [8] (fun iv wn => ∃ n : Nat, iv = .int .i64 n ∧ n ≤ L.length ∧ Hid (Below w4.heap.size w4 wn)) (fun iv _ => L.length - (intOf iv).toNat)
              case atStart => exact ⟨0, rfl, Nat.zero_le _, Below.refl _ _⟩
              case round =>
                rename World => wn
                obtain ⟨n, rfl, hn, HBn⟩ := hrel
                by_cases hln : n < L.length
                · obtain ⟨m, hm⟩ : ∃ m, L[n]? = some m := ⟨_, List.getElem?_eq_getElem hln⟩
                  obtain ⟨g2, o2, hup, hg2, hc2⟩ := HUC.out n m hm
                  subst hup
                  have r1 := blk_cell hc2 HBn.out
                  have hrg := HNG.out.rng n m hm
                  have t1 : decide (m < 0) = false := by simpa using hrg.1
                  have t2 : decide ((code.length : Int) ≤ m) = false := by simpa using hrg.2
                  have HRG : Hid (0 ≤ m ∧ m < code.length) := hrg
                  clear hrg hc2
                  by_cases h0 : n = 0
                  · as_aux_lemma =>
                    have t3 : decide (0 < (n : Int)) = false := by simp [h0]
                    have t3n : decide (0 < n) = false := by simp [h0]
                    have H0 : Hid (n = 0) := h0
                    clear h0 hm
                    go_upto_region 17 with (fail)
                    go_quiet (fail)
                    go_wp2
                    exact ⟨⟨n + 1, by go_num, by omega, by show Below _ _ _; exact HBn.out.trans (below_drewN _ wn _)⟩, by simp [intOf]; omega⟩
                  · as_aux_lemma =>
                    obtain ⟨j, hj⟩ : ∃ j, n = j + 1 := ⟨n - 1, by omega⟩
                    obtain ⟨m', hm'⟩ : ∃ m', L[j]? = some m' := ⟨_, List.getElem?_eq_getElem (by omega)⟩
                    obtain ⟨g3, o3, hup3, hg3, hc3⟩ := HUC.out j m' hm'
                    injection hup3 with hup3
                    injection hup3 with e1 e2 e3
                    subst e1 e2
                    have r2 := blk_cell hc3 HBn.out
                    have has := HNG.out.asc j m m' hm' (hj ▸ hm)
                    have t3 : decide (0 < (n : Int)) = true := by simp; omega
                    have t3n : decide (0 < n) = true := by simp; omega
                    have t4 : decide (m ≤ m') = false := by simpa using has
                    have hw : IntKind.i64.wrap ((n : Int) - 1) = (j : Int) := by
                      have e : ((n : Int) - 1) = (j : Int) := by omega
                      rw [e]
                      exact wrap_id (by omega) (by omega)
                    have hjl : j < L.length := by omega
                    have HJ : Hid (n = j + 1) := hj
                    clear hj hm hm' has hc3 h0
                    go_upto_region 17 with (fail)
                    go_quiet (fail)
                    go_wp2
                    exact ⟨⟨n + 1, by go_num, by omega, by show Below _ _ _; exact HBn.out.trans (below_drewN _ wn _)⟩, by simp [intOf]; omega⟩
                · as_aux_lemma =>
                  have hge : ¬ ((n : Int) < (L.length : Int)) := by omega
                  have HB5 : Hid (Below wk.heap.size wk wn) := HB4.out.trans (HBn.out.mono HB4.out.size)
                  have x0 := M0.out wn HB5.out
                  have x1 := M1.out wn HB5.out
                  have x2 := M2.out wn HB5.out
                  have x3 := M3.out wn HB5.out
                  have x4 := M4.out wn HB5.out
                  have x5 := M5.out wn HB5.out
                  have x6 := M6.out wn HB5.out
                  have x7 := M7.out wn HB5.out
                  have x8 := M8.out wn HB5.out
                  have x9 := M9.out wn HB5.out
                  have x10 := M10.out wn HB5.out
                  have x11 := M11.out wn HB5.out
                  go_upto_region 21 with (first
                    | (go_at_call 12; refine (CW.out _).mono ?_; rintro e w6 ⟨rfl, hb6⟩; have HB6 : Hid (Below wk.heap.size wk w6) := HB5.out.trans (hb6.mono HB5.out.size); clear hb6 CW x0 x1 x2 x3 x4 x5 x6 x7 x8 x9 x10 x11; have x0 := M0.out w6 HB6.out; have x1 := M1.out w6 HB6.out; have x2 := M2.out w6 HB6.out; have x3 := M3.out w6 HB6.out; have x4 := M4.out w6 HB6.out; have x5 := M5.out w6 HB6.out; have x6 := M6.out w6 HB6.out; have x7 := M7.out w6 HB6.out; have x8 := M8.out w6 HB6.out; have x9 := M9.out w6 HB6.out; have x10 := M10.out w6 HB6.out; have x11 := M11.out w6 HB6.out)
                    | (go_at_call 13; refine (CR.out _ HB6.out).mono ?_; rintro e w7 ⟨v, rfl, hv, hb7⟩; have HB7 : Hid (Below wk.heap.size wk w7) := HB6.out.trans (hb7.mono HB6.out.size); have HV : Hid (IntSl w7 v RL) := hv; clear hv hb7 CR x0 x1 x2 x3 x4 x5 x6 x7 x8 x9 x10 x11)
                    | fail)
                  obtain ⟨vp, vc, rfl, hvcap, hvcell⟩ := intSl_parts HV.out
                  have HVC : Hid (∀ (i : Nat) (n : Int), RL[i]? = some n → ∃ g o, vp = some ⟨g, o, none⟩ ∧ g < w7.heap.size ∧ w7.cell? ⟨g, o + i, none⟩ = some (.int .i64 n)) := hvcell
                  clear hvcell HV HBn HNG HUC M0 M1 M2 M3 M4 M5 M6 M7 M8 M9 M10 M11
                  have HBr7 : Hid (Below wr.heap.size wr w7) := HBk.out.trans (HB7.out.mono HBk.out.size)
                  have p1 := blk_cell HP1.out HBr7.out
                  have f2 := blk_cell HF2.out HBr7.out
                  have d1 : decide (tp ≤ WP) = false := by simpa using hwr.2
                  have d2 : decide (WP < -1) = false := by simpa using hwr.1
                  have HWR : Hid (-1 ≤ WP ∧ WP < tp) := hwr
                  have HTP : Hid (0 ≤ tp ∧ tp ≤ 4096) := htp
                  clear hwr htp hgt hz hz2
                  go_upto_region 23 with (fail)
                  have hrl : RL.length ≤ 100000000000000 := HRL.out
                  clear p1 f2 d1 d2 hge
                  go_wp2
                  go_loopw [11] (fun iv wm => ∃ n : Nat, iv = .int .i64 n ∧ n ≤ RL.length ∧ Hid (Below w7.heap.size w7 wm)) (fun iv _ => RL.length - (intOf iv).toNat)
                  case atStart => exact ⟨0, rfl, Nat.zero_le _, Below.refl _ _⟩
                  case round =>
                    rename World => wm
                    obtain ⟨n2, rfl, hn2, HBm⟩ := hrel
                    have HBrm : Hid (Below wr.heap.size wr wm) := HBr7.out.trans (HBm.out.mono HBr7.out.size)
                    by_cases hlm : n2 < RL.length
                    · as_aux_lemma =>
                      obtain ⟨m, hm⟩ : ∃ m, RL[n2]? = some m := ⟨_, List.getElem?_eq_getElem hlm⟩
                      obtain ⟨g2, o2, hup, hg2, hc2⟩ := HVC.out n2 m hm
                      subst hup
                      have r1 := blk_cell hc2 HBm.out
                      have p1 := blk_cell HP1.out HBrm.out
                      have f2 := blk_cell HF2.out HBrm.out
                      have hrg := HRD.out m (List.mem_of_getElem? hm)
                      have t1 : decide (m < 0) = false := by simpa using hrg.1
                      have t2 : decide (tp ≤ m) = false := by simpa using hrg.2
                      clear hrg hc2 hm
                      go_upto_region 26 with (fail)
                      go_quiet (fail)
                      go_wp2
                      exact ⟨⟨n2 + 1, by go_num, by omega, by show Below _ _ _; exact HBm.out.trans (below_drewN _ wm _)⟩, by simp [intOf]; omega⟩
                    · as_aux_lemma =>
                      have hge : ¬ ((n2 : Int) < (RL.length : Int)) := by omega
                      have HBkm : Hid (Below wr.heap.size wr wm) := HBrm.out
                      go_wp2
                      exact ⟨⟨k + 1, by go_num, by omega, HBkm.out⟩, by simp [intOf]; omega⟩
          · as_aux_lemma =>
            have hge : ¬ ((k : Int) < (code.length : Int)) := by omega
            go_wp2
            exact ⟨⟨i + 1, by go_num, by omega, HBi.out.trans (HBk.out.mono HBi.out.size)⟩, by simp [intOf]; omega⟩
      · as_aux_lemma =>
        have hge : ¬ ((i : Int) < (fns.length : Int)) := by omega
        go_wp2_with (first
          | (go_at_call 10; refine (HH.out _ HBw.out).mono ?_; rintro e w3 ⟨rfl, hb3⟩; have HB3 : Hid (Below w.heap.size w w3) := HBw.out.trans (hb3.mono HBw.out.size); clear hb3)
          | fail)
        go_ret
        exact ⟨rfl, HB3.out⟩
end
end Go.Proofs.YtdijnbgcamgjfaaGreatDoor
