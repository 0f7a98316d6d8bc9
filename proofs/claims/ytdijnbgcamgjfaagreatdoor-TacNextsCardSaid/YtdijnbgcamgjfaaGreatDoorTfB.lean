/-
  The law on what instructions read and write, and where they go on.
-/
import Derived.Test.YtdijnbgcamgjfaaGreatDoorTcJ
import Derived.Test.YtdijnbgcamgjfaaGreatDoorTfA
namespace Go.Proofs.YtdijnbgcamgjfaaGreatDoor
open Go.RowKit Go.Maps
set_option linter.unusedVariables false
set_option linter.unusedSimpArgs false
set_option maxRecDepth 100000
theorem inV_of {w : World} {p : Option Addr} {cap : Nat} {l : List Iw} (h : RowV iwC 12 w p cap l) (hi : ∀ q ∈ l, InOK w q.x q.xp q.xc) :
    InV w (.slice p l.length cap) (l.map fun q => (q.x, .slice q.xp q.x.args.length q.xc)) := by
  refine ⟨p, cap, by rw [List.length_map], by rw [List.length_map]; exact h.1.1, fun i q hq => ?_⟩
  rw [List.getElem?_map] at hq
  obtain ⟨a, ha, rfl⟩ := Option.map_eq_some_iff.1 hq
  exact ⟨h.2 i a ha, (hi a (List.mem_of_getElem? ha)).ar⟩
theorem nextP_len (xs : List (In × Value)) (i : Int) : (nextP xs i).length ≤ 2 := by
  unfold nextP
  split
  · split
    · exact Nat.le_trans (List.length_filter_le _ _) (waysP_len _ _ _)
    · exact Nat.zero_le _
  · exact Nat.zero_le _
theorem readsP_len (x : In) : (readsP x).length ≤ 2 + x.args.length := by
  have := rdF_len (x.a :: x.b :: x.args)
  simp only [List.length_cons] at this
  unfold readsP
  omega
theorem arOK_all {a b : Ar} {l : List Ar} (h1 : ArOK a) (h2 : ArOK b) (h3 : ∀ x ∈ l, ArOK x) : ∀ x ∈ a :: b :: l, ArOK x := by
  intro x hx
  simp only [List.mem_cons] at hx
  rcases hx with rfl | rfl | hx
  · exact h1
  · exact h2
  · exact h3 x hx
section
variable {w : World}
set_option maxHeartbeats 16000000 in
theorem tacAsks_c {p : Option Addr} {cap : Nat} {l : List Iw} (hr : RowV iwC 12 w p cap l) (hi : ∀ q ∈ l, IwG w q) (hl : l.length ≤ 100000000000000) (i : Int) (hP : PrW w) (hM : MaxIn w) (hg : 10 ≤ w.heap.size) :
    Calls Tryz.prog 5 #[.slice p l.length cap, .int .i64 i] w fun e w' => e = .returned (.bool true) ∧ Below w.heap.size w w' := by
  have HR : Hid (∀ Y, Below w.heap.size w Y → RowV iwC 12 Y p cap l) := fun Y hY => hr.below hY
  have HIG : Hid (∀ q ∈ l, IwG w q) := hi
  have HXS : Hid (InV w (.slice p l.length cap) (l.map fun q => (q.x, .slice q.xp q.x.args.length q.xc))) := inV_of hr fun q hq => (hi q hq).ok
  have hxl : (l.map fun q => (q.x, Value.slice q.xp q.x.args.length q.xc)).length ≤ 9223372036854775806 := by rw [List.length_map]; omega
  generalize (l.map fun q => (q.x, Value.slice q.xp q.x.args.length q.xc)) = xs at *
  have CN : Hid (∀ (j : Int) Y, Below w.heap.size w Y → Calls Tryz.prog 11 #[.slice p l.length cap, .int .i64 j] Y fun e w' => ∃ u, e = .returned u ∧ IntSl w' u (nextP xs j) ∧ Below Y.heap.size Y w') := fun j Y hY => next_c (HXS.out.below hY) hxl j
  have CNr : Hid (∀ (j : Int) Y, Below w.heap.size w Y → Calls Tryz.prog 20 #[.slice p l.length cap, .int .i64 j] Y fun e w' => ∃ u, e = .returned u ∧ IntSl w' u (nextP xs j) ∧ Below Y.heap.size Y w') := fun j Y hY => rNext_c (HXS.out.below hY) hxl j
  have HNL : Hid (∀ j, (nextP xs j).length ≤ 140737488355328) := fun j => Nat.le_trans (nextP_len xs j) (by decide)
  have HH : Hid (∀ Y, Below w.heap.size w Y → Calls Tryz.prog 10 #[] Y fun e w' => e = .returned (.bool true) ∧ Below Y.heap.size Y w') := fun Y hY => heads_c (hP.below hY) (hM.below hY) (Nat.le_trans hg hY.size)
  generalize nextP xs = NX at *
  have nt := not_t
  clear hr hi hP hM hg hxl HXS
  go_enter Tryz.func5, Tryz.ntmps5
  go_wp2
  go_loopw [5] (fun iv wr => ∃ k : Nat, iv = .int .i64 k ∧ k ≤ l.length ∧ Hid (Below w.heap.size w wr)) (fun iv _ => l.length - (intOf iv).toNat)
  case atStart => exact ⟨0, rfl, Nat.zero_le _, Below.refl _ _⟩
  case round =>
    obtain ⟨k, rfl, hk, HB⟩ := hrel
    by_cases hlt : k < l.length
    · obtain ⟨r, hr⟩ : ∃ r, l[k]? = some r := ⟨_, List.getElem?_eq_getElem hlt⟩
      obtain ⟨qx, rp, rc⟩ := r
      obtain ⟨g1, o1, hk1e, hg1, hc1⟩ := (HR.out wr HB.out).2 k _ hr
      have q1 := (HR.out wr HB.out).1.1
      subst hk1e
      have hG := HIG.out _ (List.mem_of_getElem? hr)
      have HRL : Hid ((readsP qx).length ≤ 140737488355328) := by have h1 := hG.sz; have h2 := readsP_len qx; simp only at h1; show (readsP qx).length ≤ 140737488355328; omega
      have m1_0 : ∀ Y, SH wr Y → Y.cell? ⟨g1, o1 + k * 12, none⟩ = some (.int .i64 qx.op) := fun Y h => (Below.cell h (p := ⟨g1, _, none⟩) hg1).trans (hc1 0 (by omega))
      have m1_1 : ∀ Y, SH wr Y → Y.cell? ⟨g1, o1 + k * 12 + 1, none⟩ = some (.int .i64 qx.bin) := fun Y h => (Below.cell h (p := ⟨g1, _, none⟩) hg1).trans (hc1 1 (by omega))
      have m1_2 : ∀ Y, SH wr Y → Y.cell? ⟨g1, o1 + k * 12 + 2, none⟩ = some (.int .i64 qx.d) := fun Y h => (Below.cell h (p := ⟨g1, _, none⟩) hg1).trans (hc1 2 (by omega))
      have m1_3 : ∀ Y, SH wr Y → Y.cell? ⟨g1, o1 + k * 12 + 3, none⟩ = some (.int .i64 qx.a.kind) := fun Y h => (Below.cell h (p := ⟨g1, _, none⟩) hg1).trans (hc1 3 (by omega))
      have m1_4 : ∀ Y, SH wr Y → Y.cell? ⟨g1, o1 + k * 12 + 4, none⟩ = some (.int .u32 qx.a.n) := fun Y h => (Below.cell h (p := ⟨g1, _, none⟩) hg1).trans (hc1 4 (by omega))
      have m1_5 : ∀ Y, SH wr Y → Y.cell? ⟨g1, o1 + k * 12 + 5, none⟩ = some (.int .i64 qx.b.kind) := fun Y h => (Below.cell h (p := ⟨g1, _, none⟩) hg1).trans (hc1 5 (by omega))
      have m1_6 : ∀ Y, SH wr Y → Y.cell? ⟨g1, o1 + k * 12 + 6, none⟩ = some (.int .u32 qx.b.n) := fun Y h => (Below.cell h (p := ⟨g1, _, none⟩) hg1).trans (hc1 6 (by omega))
      have m1_7 : ∀ Y, SH wr Y → Y.cell? ⟨g1, o1 + k * 12 + 7, none⟩ = some (.int .i64 qx.n) := fun Y h => (Below.cell h (p := ⟨g1, _, none⟩) hg1).trans (hc1 7 (by omega))
      have m1_8 : ∀ Y, SH wr Y → Y.cell? ⟨g1, o1 + k * 12 + 8, none⟩ = some (.int .i64 qx.off) := fun Y h => (Below.cell h (p := ⟨g1, _, none⟩) hg1).trans (hc1 8 (by omega))
      have m1_9 : ∀ Y, SH wr Y → Y.cell? ⟨g1, o1 + k * 12 + 9, none⟩ = some (.int .i64 qx.width) := fun Y h => (Below.cell h (p := ⟨g1, _, none⟩) hg1).trans (hc1 9 (by omega))
      have m1_10 : ∀ Y, SH wr Y → Y.cell? ⟨g1, o1 + k * 12 + 10, none⟩ = some (.bool qx.sg) := fun Y h => (Below.cell h (p := ⟨g1, _, none⟩) hg1).trans (hc1 10 (by omega))
      have m1_11 : ∀ Y, SH wr Y → Y.cell? ⟨g1, o1 + k * 12 + 11, none⟩ = some (.slice rp qx.args.length rc) := fun Y h => (Below.cell h (p := ⟨g1, _, none⟩) hg1).trans (hc1 11 (by omega))
      have CR : Hid (∀ Y, SH wr Y → Calls Tryz.prog 13 #[.agg #[.int .i64 qx.op, .int .i64 qx.bin, .int .i64 qx.d, .int .i64 qx.a.kind, .int .u32 qx.a.n, .int .i64 qx.b.kind, .int .u32 qx.b.n, .int .i64 qx.n, .int .i64 qx.off, .int .i64 qx.width, .bool qx.sg, .slice rp qx.args.length rc]] Y fun e w' => ∃ v, e = .returned v ∧ IntSl w' v (readsP qx) ∧ Below Y.heap.size Y w') := fun Y h => reads_c (hG.ok.ar.below (HB.out.trans (Below.mono h HB.out.size))) (arOK_all hG.ok.a hG.ok.b hG.ok.ao) hG.sz
      have CRr : Hid (∀ Y, SH wr Y → Calls Tryz.prog 18 #[.agg #[.int .i64 qx.op, .int .i64 qx.bin, .int .i64 qx.d, .int .i64 qx.a.kind, .int .u32 qx.a.n, .int .i64 qx.b.kind, .int .u32 qx.b.n, .int .i64 qx.n, .int .i64 qx.off, .int .i64 qx.width, .bool qx.sg, .slice rp qx.args.length rc]] Y fun e w' => ∃ v, e = .returned v ∧ IntSl w' v (readsP qx) ∧ Below Y.heap.size Y w') := fun Y h => rReads_c (hG.ok.ar.below (HB.out.trans (Below.mono h HB.out.size))) (arOK_all hG.ok.a hG.ok.b hG.ok.ao) hG.sz
      have CW : Hid (∀ Y, SH wr Y → Calls Tryz.prog 12 #[.agg #[.int .i64 qx.op, .int .i64 qx.bin, .int .i64 qx.d, .int .i64 qx.a.kind, .int .u32 qx.a.n, .int .i64 qx.b.kind, .int .u32 qx.b.n, .int .i64 qx.n, .int .i64 qx.off, .int .i64 qx.width, .bool qx.sg, .slice rp qx.args.length rc]] Y fun e w' => e = .returned (.int .i64 (writesP qx)) ∧ Below Y.heap.size Y w') := fun Y h => writes_c qx rp qx.args.length rc Y
      have CWr : Hid (∀ Y, SH wr Y → Calls Tryz.prog 19 #[.agg #[.int .i64 qx.op, .int .i64 qx.bin, .int .i64 qx.d, .int .i64 qx.a.kind, .int .u32 qx.a.n, .int .i64 qx.b.kind, .int .u32 qx.b.n, .int .i64 qx.n, .int .i64 qx.off, .int .i64 qx.width, .bool qx.sg, .slice rp qx.args.length rc]] Y fun e w' => e = .returned (.int .i64 (writesP qx)) ∧ Below Y.heap.size Y w') := fun Y h => rWrites_c qx rp qx.args.length rc Y
      have CK : Hid (∀ Y, SH wr Y → Calls Tryz.prog 11 #[.slice (some ⟨g1, o1, none⟩) l.length cap, .int .i64 (k : Int)] Y fun e w' => ∃ u, e = .returned u ∧ IntSl w' u (NX k) ∧ Below Y.heap.size Y w') := fun Y h => CN.out k Y (HB.out.trans (Below.mono h HB.out.size))
      have CKr : Hid (∀ Y, SH wr Y → Calls Tryz.prog 20 #[.slice (some ⟨g1, o1, none⟩) l.length cap, .int .i64 (k : Int)] Y fun e w' => ∃ u, e = .returned u ∧ IntSl w' u (NX k) ∧ Below Y.heap.size Y w') := fun Y h => CNr.out k Y (HB.out.trans (Below.mono h HB.out.size))
      generalize readsP qx = RL at *
      generalize writesP qx = WP at *
      have HSH : SH wr wr := Below.refl _ _
      have HKL : Hid ((NX k).length ≤ 140737488355328) := HNL.out k
      generalize NX (k : Int) = NK at *
      have nw : (WP != WP) = false := by simp
      clear hc1 hr hG
      go_upto_region 4 with (fail)
      go_region_held3 (fun Y => SH wr Y) (with_reducible first | assumption | (refine SH.drew ?_; assumption) | (refine SH.below ?_ (by assumption); assumption)) (first
        | (go_at_call 13; refine (CR.out _ ?_).mono ?_; (with_reducible first | assumption | (refine SH.drew ?_; assumption)); rintro e y1 ⟨v1, rfl, hv1, hy1⟩; have HV1 : Hid (IntSl y1 v1 RL) := hv1; clear hv1)
        | (go_at_call 18; refine (CRr.out _ ?_).mono ?_; (with_reducible first | assumption | (refine SH.drew ?_; assumption)); rintro e y2 ⟨v2, rfl, hv2, hy2⟩; have HV2 : Hid (IntSl y2 v2 RL) := hv2; have HV3 : Hid (IntSl y2 v1 RL) := HV1.out.below hy2; clear hv2)
        | (go_at_call 17; refine (ints_c HV3.out HV2.out HRL.out).mono ?_; rintro e y3 ⟨rfl, hy3⟩; clear HV3)
        | (go_at_call 12; refine (CW.out _ ?_).mono ?_; (with_reducible first | assumption | (refine SH.drew ?_; assumption)); rintro e y4 ⟨rfl, hy4⟩)
        | (go_at_call 19; refine (CWr.out _ ?_).mono ?_; (with_reducible first | assumption | (refine SH.drew ?_; assumption)); rintro e y5 ⟨rfl, hy5⟩)
        | (go_at_call 11; refine (CK.out _ ?_).mono ?_; (with_reducible first | assumption | (refine SH.drew ?_; assumption)); rintro e y6 ⟨v6, rfl, hv6, hy6⟩; have HV6 : Hid (IntSl y6 v6 NK) := hv6; clear hv6)
        | (go_at_call 20; refine (CKr.out _ ?_).mono ?_; (with_reducible first | assumption | (refine SH.drew ?_; assumption)); rintro e y7 ⟨v7, rfl, hv7, hy7⟩; have HV7 : Hid (IntSl y7 v7 NK) := hv7; have HV8 : Hid (IntSl y7 v6 NK) := HV6.out.below hy7; clear hv7)
        | (go_at_call 17; refine (ints_c HV8.out HV7.out HKL.out).mono ?_; rintro e y8 ⟨rfl, hy8⟩))
      all_goals go_wp2_with fail
      exact ⟨⟨k + 1, by go_num, by omega, HB.out.trans (Below.mono (SH.below (SH.below (SH.below (SH.below (SH.below (SH.below (SH.below (SH.below (SH.drew HSH) hy1) hy2) hy3) hy4) hy5) hy6) hy7) hy8) HB.out.size)⟩, by simp [intOf]; omega⟩
    · have hge : ¬ ((k : Int) < (l.length : Int)) := by omega
      have HKL : Hid ((NX i).length ≤ 140737488355328) := HNL.out i
      have CK := CN.out i
      have CKr := CNr.out i
      generalize NX i = NK at *
      have HB0 : Hid (Below w.heap.size w wr) := HB.out
      go_wp2_with (first
        | (go_at_call 11; refine (CK _ HB.out).mono ?_; rintro e y6 ⟨v6, rfl, hv6, hy6⟩; have HV6 : Hid (IntSl y6 v6 NK) := hv6; have HB6 : Hid (Below w.heap.size w y6) := HB.out.trans (hy6.mono HB.out.size); clear hv6 hy6)
        | (go_at_call 20; refine (CKr _ HB6.out).mono ?_; rintro e y7 ⟨v7, rfl, hv7, hy7⟩; have HV7 : Hid (IntSl y7 v7 NK) := hv7; have HV8 : Hid (IntSl y7 v6 NK) := HV6.out.below hy7; have HB7 : Hid (Below w.heap.size w y7) := HB6.out.trans (hy7.mono HB6.out.size); clear hv7 hy7)
        | (go_at_call 17; refine (ints_c HV8.out HV7.out HKL.out).mono ?_; rintro e y8 ⟨rfl, hy8⟩; have HB8 : Hid (Below w.heap.size w y8) := HB7.out.trans (hy8.mono HB7.out.size); clear hy8)
        | (go_at_call 10; refine (HH.out _ HB8.out).mono ?_; rintro e y9 ⟨rfl, hy9⟩; have HB9 : Hid (Below w.heap.size w y9) := HB8.out.trans (hy9.mono HB8.out.size); clear hy9)
        | fail)
      go_ret
      exact ⟨rfl, HB9.out⟩
end
end Go.Proofs.YtdijnbgcamgjfaaGreatDoor
