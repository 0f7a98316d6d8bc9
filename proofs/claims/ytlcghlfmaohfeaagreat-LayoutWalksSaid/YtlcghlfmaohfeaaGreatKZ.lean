/-
  The given answer's Bits; Gaps of both sides at every id.
  The given answer's bitsOf of a struct or a union.
  The given answer's bitsOf at every type that is whole and not too large.
  The given answer's Gaps, from what Bits answers.
-/
import Derived.Test.YtlcghlfmaohfeaaGreatKW
import Derived.Test.YtlcghlfmaohfeaaGreatKG
import Derived.Deep.RegionHeld3
import Derived.Test.YtlcghlfmaohfeaaGreatKX
namespace Go.Proofs.YtlcghlfmaohfeaaGreat
open Go.RowKit Go.Maps
set_option linter.unusedVariables false
set_option maxRecDepth 100000
theorem LyR.turnedM {base : Nat} {W Y : World} {ga gm : Nat} {ys : List Ly} (h : LyR base W ga ys) {cs : Array Value} (hm : W.heap[gm]? = some (.cells cs TBs (0, 0))) (ht : Turned W Y (fun k => k = gm)) : LyR base Y ga ys := by
  obtain ⟨cr, h1, h2⟩ := h.row
  exact ⟨⟨cr, blk_t h1 ht (tag_ne h1 hm (by decide)), h2⟩, fun y hy => ownsRow_turned (h.own y hy) ht (fun k hk e => by obtain ⟨_, cur, hc⟩ := ownsRow_at (h.own y hy) hk; exact tag_ne hc hm (by decide) e)⟩
/-- The world within bitsOf of a record: the row's copy, the bits so far, the memo. -/
structure RcS (M : Int → Ex) (H : Int → Nat → Bool) (W0 W : World) (gm n i : Nat) (A : Nat → Prop) (cr : Array Value) (f : Nat → Bool) (wr : World) : Prop where
  low : Below W0.heap.size W0 wr
  tur : Turned W wr (fun k => k = gm)
  row : wr.heap[W.heap.size]? = some (.cells cr TR (0, 0))
  on : BoR wr (W.heap.size + 1) (nB M i) f
  me : MeR M H wr gm n (fun k => A k ∨ k = W.heap.size + 1)
section
variable {M : Int → Ex} {H : Int → Nat → Bool} {W0 W wr Y : World} {gm n i : Nat} {A : Nat → Prop} {cr : Array Value} {f f' : Nat → Bool}
theorem RcS.bel (h : RcS M H W0 W gm n i A cr f wr) (hb : Below wr.heap.size wr Y) : RcS M H W0 W gm n i A cr f Y :=
  ⟨h.low.trans (hb.mono h.low.size), h.tur.trans (Turned.of_below hb (fun k => k = gm)) (fun _ _ e => e), blk_b h.row hb, h.on.below hb, h.me.below hb⟩
theorem RcS.memo (h : RcS M H W0 W gm n i A cr f wr) (hg : W0.heap.size ≤ gm) (hgW : gm < W.heap.size) (ht : Turned wr Y (fun k => k = gm)) (hme : MeR M H Y gm n (fun k => A k ∨ k = W.heap.size + 1)) : RcS M H W0 W gm n i A cr f Y :=
  ⟨below_turned h.low ht hg, h.tur.trans ht (fun _ _ e => e), blk_t h.row ht (by omega), h.on.turned ht (by omega), hme⟩
theorem RcS.onto (h : RcS M H W0 W gm n i A cr f wr) (hgW : gm < W.heap.size) (hW0 : W0.heap.size ≤ W.heap.size) (ht : Turned wr Y (fun k => k = W.heap.size + 1)) (ho : BoR Y (W.heap.size + 1) (nB M i) f') : RcS M H W0 W gm n i A cr f' Y :=
  ⟨below_turned h.low ht (by omega), h.tur.trans ht (fun k hk e => by omega), blk_t h.row ht (by omega), ho, h.me.turned ht (by omega) (fun g e => .inr e)⟩
end
/-- What a place of a record is. -/
def PlOK (M : Int → Ex) (H : Int → Nat → Bool) (W : World) (rb ga n gm N : Nat) (mem : List Mb) (P : Pl) : Prop :=
  ∃ o t s : Nat, P.off = o ∧ P.type = t ∧ (M t).size = s ∧ ((P.bits = 0 ∧ 8 * o + nB M t ≤ N ∧ BSub M H W rb ga n gm t) ∨ ∃ b c j : Nat, ∃ m : Mb, P.bit = b ∧ P.bits = c ∧ 0 < c ∧ 8 * o + b + c ≤ N ∧ P.mem = j ∧ mem[j]? = some m)
section
variable {M : Int → Ex} {H : Int → Nat → Bool} {W0 W W' : World} {gm n : Nat} {A A' : Nat → Prop} {rb ga base : Nat} {rv : Value} {rs2 : List (Rw × Value)} {ys : List Ly}
set_option maxHeartbeats 16000000 in
theorem rBits_rec (hT : RT W0 rb rv rs2) (hlow : Below W0.heap.size W0 W) (hgm0 : W0.heap.size ≤ gm) {i : Nat} {q : Rw × Value} (hq : rs2[i]? = some q) (hn : n = rs2.length) (hk : q.1.kind ≠ 14) (hr : recK q.1.kind = true) (hL : LyR base W ga ys) {y : Ly} (hy : ys[i]? = some y) (hys : ys.length = rs2.length) (hsz : 8 * y.size = nB M i) (h0 : 0 < nB M i) (hnb : nB M i ≤ 131072)
    (h64 : y.pl.length ≤ 64) (hpl : ∀ P ∈ y.pl, PlOK M H W rb ga n gm (nB M i) q.1.mem P)
    (hH : ∀ k, H i k = hadW M H q.1.mem y.pl k) (hMe : MeR M H W gm n A) (hA : ∀ k, A k → k < W.heap.size) (hc : W.cell? ⟨gm, i, none⟩ = some (.slice none 0 0)) :
    Calls Tryz.prog 71 #[.pointer (some ⟨rb, 0, none⟩), .slice (some ⟨ga, 0, none⟩) n n, .int .i64 i, .slice (some ⟨gm, 0, none⟩) n n] W fun e w' => ∃ g, e = .returned (.slice (some ⟨g, 0, none⟩) (nB M i) (nB M i)) ∧ g ≠ gm ∧ W.heap.size ≤ g ∧ BoR w' g (nB M i) (H i) ∧ MeR M H w' gm n A ∧ Turned W w' (fun k => k = gm) := by
  have hi : i < rs2.length := (List.getElem?_eq_some_iff.1 hq).1
  have h512 := hT.len
  subst hn
  have h := hT.below hlow
  obtain ⟨gr, og, cr, rfl, hcap, hrow⟩ := h.at hq
  obtain ⟨ms, mc, hmsl, hmcell⟩ := memSl_cells (hT.rows.2 q (List.mem_of_getElem? hq))
  have hrb := h.cell
  have cR := fun Y (hY : Below W.heap.size W Y) => rRecord_c (h.below hY) (i : Int)
  rw [kindP_some hq, hr] at cR
  have HCR : Hid (∀ Y, Below W.heap.size W Y → Calls Tryz.prog 33 #[.pointer (some ⟨rb, 0, none⟩), .int .i64 (i : Int)] Y fun e w' => e = .returned (.bool true) ∧ w' = Y) := cR
  have hyl : y ∈ ys := List.mem_of_getElem? hy
  have hoL := hL.own y hyl
  obtain ⟨lp, lc, hyL⟩ := slice_of_own hoL
  obtain ⟨⟨kd, el, ln, tg, mm, dn⟩, s1⟩ := q
  simp only at hmsl hk hmcell hpl hH
  subst hmsl
  have r0 := hrow 0 (by omega)
  have r1 := hrow 1 (by omega)
  have r2 := hrow 2 (by omega)
  have r3 := hrow 3 (by omega)
  have r4 := hrow 4 (by omega)
  have r5 := hrow 5 (by omega)
  simp only [rwCells, Nat.add_zero, List.getElem?_cons_zero, List.getElem?_cons_succ] at r0 r1 r2 r3 r4 r5
  have hkd : (kd == 14) = false := by simpa using hk
  have hold := heap_r0 W (.cells #[.int .i64 0, .int .i64 0, .int .i64 0, .string ⟨#[]⟩, .slice none 0 0, .bool false] TR)
  have b1 := below1 W (.cells #[.int .i64 kd, .int .i64 el, .int .i64 ln, .string tg, .slice ms mm.length mc, .bool dn] TR)
  have HN1 : Hid (_ = _) := heap_r0 W (.cells #[.int .i64 kd, .int .i64 el, .int .i64 ln, .string tg, .slice ms mm.length mc, .bool dn] TR)
  have HB1 : Hid (Below W.heap.size W (W.alloc (.cells #[.int .i64 kd, .int .i64 el, .int .i64 ln, .string tg, .slice ms mm.length mc, .bool dn] TR))) := b1
  have HL : Hid (LyR base W ga ys) := hL
  have HY : Hid (ys[i]? = some y) := hy
  have HME : Hid (MeR M H W gm rs2.length A) := hMe
  have HA : Hid (∀ k, A k → k < W.heap.size) := hA
  have HH : Hid (∀ k, H i k = hadW M H mm y.pl k) := hH
  have HC : Hid (W.cell? ⟨gm, i, none⟩ = some (.slice none 0 0)) := hc
  have HLOW : Hid (Below W0.heap.size W0 W) := hlow
  have HPL : Hid (∀ P ∈ y.pl, PlOK M H W rb ga rs2.length gm (nB M i) mm P) := hpl
  have HMC : Hid (∀ j m, mm[j]? = some m → ∃ g o, ms = some ⟨g, o, none⟩ ∧ mm.length ≤ mc ∧ ∀ Y, Below W0.heap.size W0 Y → ∀ k, k < 3 → Y.cell? ⟨g, o + j * 3 + k, none⟩ = (mbCells m)[k]?) := hmcell
  have hmk := fun u => make_boolsW ((nB M i : Nat) : Int) (nB M i) rfl hnb u
  have hgm := hMe.lt
  have hW0 : W0.heap.size ≤ W.heap.size := hlow.size
  have HYL : Hid (y.L = .slice lp y.pl.length lc) := hyL
  clear h hT hq hr hL hy hMe hA hrow cR hH b1 hk hlow hpl hmcell hyl hoL hyL
  go_enter Tryz.func71, Tryz.ntmps71
  go_upto_region 4 with (first | ((with_reducible apply step_store hold); rfl; rfl; kernel_rfl; rfl; kernel_rfl; rw [World.setRow_alloc_new]) | fail)
  have hz1 : (W.alloc (.cells #[.int .i64 kd, .int .i64 el, .int .i64 ln, .string tg, .slice ms mm.length mc, .bool dn] TR)).heap.size = W.heap.size + 1 := by simp
  generalize W.alloc (.cells #[.int .i64 kd, .int .i64 el, .int .i64 ln, .string tg, .slice ms mm.length mc, .bool dn] TR) = W1 at *
  clear r0 r1 r2 r3 r4 r5 hold hrb hc
  have a0 := (HL.out.below HB1.out).cell HY.out (k := 0) (by omega)
  simp only [lyC, Nat.add_zero, List.getElem?_cons_zero] at a0
  have hw8 : IntKind.i64.wrap (8 * y.size) = 8 * y.size := wrap_id (by omega) (by omega)
  have b2 := below1 W1 (.cells (madeCells #[.bool false] (nB M i)) 4)
  have hz2 : (W1.alloc (.cells (madeCells #[.bool false] (nB M i)) 4)).heap.size = W1.heap.size + 1 := by simp
  have HB2 : Hid (Below W.heap.size W (W1.alloc (.cells (madeCells #[.bool false] (nB M i)) 4))) := HB1.out.trans (b2.mono HB1.out.size)
  have HRS : Hid (RcS M H W0 W gm rs2.length i A #[.int .i64 kd, .int .i64 el, .int .i64 ln, .string tg, .slice ms mm.length mc, .bool dn] (hadW M H mm (y.pl.take 0)) (W1.alloc (.cells (madeCells #[.bool false] (nB M i)) 4))) :=
    ⟨HLOW.out.trans (HB2.out.mono hW0), Turned.of_below HB2.out (fun k => k = gm), blk_b HN1.out b2, by have := (BoR.made W1 (nB M i)).congr (f' := hadW M H mm (y.pl.take 0)) (fun j _ => hadW_zero _ _); rw [hz1] at this; exact this, (HME.out.more (on := W.heap.size + 1) (by omega)).below HB2.out⟩
  have k0 := Lib.cell_of_heap HRS.out.row 0
  simp only [List.getElem?_toArray, List.getElem?_cons_zero] at k0
  clear b2
  go_wp2_with (first | (go_at_call 33; refine (HCR.out _ HB2.out).mono ?_; rintro e w' ⟨rfl, hw⟩; rw [hw]; clear hw w') | fail)
  generalize W1.alloc (.cells (madeCells #[.bool false] (nB M i)) 4) = W2 at *
  clear k0 a0 hw8 hmk HN1 HB1 HCR
  go_loopw [13] (fun iv wr => ∃ j : Nat, iv = .int .i64 j ∧ j ≤ y.pl.length ∧ Hid (RcS M H W0 W gm rs2.length i A #[.int .i64 kd, .int .i64 el, .int .i64 ln, .string tg, .slice ms mm.length mc, .bool dn] (hadW M H mm (y.pl.take j)) wr)) (fun iv _ => y.pl.length - (intOf iv).toNat)
  case atStart => exact ⟨0, rfl, Nat.zero_le _, HRS⟩
  case round =>
    obtain ⟨j, rfl, hjl, HR⟩ := hrel
    obtain ⟨cm, hcm, _, _⟩ := id HME.out
    have HLr : Hid (LyR base wr ga ys) := HL.out.turnedM hcm HR.out.tur
    have l2 := HLr.out.cell HY.out (k := 2) (by omega)
    simp only [lyC, List.getElem?_cons_zero, List.getElem?_cons_succ, HYL.out] at l2
    clear hcm
    by_cases hlt : j < y.pl.length
    · obtain ⟨P, hP⟩ : ∃ P, y.pl[j]? = some P := ⟨_, List.getElem?_eq_getElem hlt⟩
      have HP : Hid (y.pl[j]? = some P) := hP
      have hPK := HPL.out P (List.mem_of_getElem? hP)
      have hown := HLr.out.own y (List.mem_of_getElem? HY.out)
      rw [HYL.out] at hown
      obtain ⟨gl, cap, hgl, q1, q2, q3, q4, q5⟩ := own_cell hown (by omega)
      injection hgl with e1 e2 e3
      subst e1 e3
      have p0 := q4 (j * 5 + 0) (.int .i64 P.mem) (pl_at y.pl j P hP 0 (by omega))
      have p1 := q4 (j * 5 + 1) (.int .i64 P.type) (pl_at y.pl j P hP 1 (by omega))
      have p2 := q4 (j * 5 + 2) (.int .i64 P.off) (pl_at y.pl j P hP 2 (by omega))
      have p3 := q4 (j * 5 + 3) (.int .i64 P.bit) (pl_at y.pl j P hP 3 (by omega))
      have p4 := q4 (j * 5 + 4) (.int .i64 P.bits) (pl_at y.pl j P hP 4 (by omega))
      obtain ⟨pm, pt, po, pbt, pbs⟩ := P
      obtain ⟨o, t, s, hpo, hpt, hMs, hcase⟩ := hPK
      simp only [Nat.add_zero] at p0 p1 p2 p3 p4 hpo hpt hMs
      subst hpo hpt
      have HMS : Hid ((M (t : Int)).size = s) := hMs
      have hold2 := heap_r0 wr (.cells #[.int .i64 0, .int .i64 0, .int .i64 0, .int .i64 0, .int .i64 0] TPl)
      have hzW : W.heap.size + 1 < wr.heap.size := HR.out.on.lt
      clear hown q1 q2 q5 q4 hP e2 hMs
      rcases hcase with ⟨hb0, hin, hsub⟩ | ⟨b, c, jm, m, hb1, hb2, hc0, hin, hb3, hb4⟩
      · simp only at hb0
        subst hb0
        have bp := below1 wr (.cells #[.int .i64 pm, .int .i64 (t : Int), .int .i64 (o : Int), .int .i64 pbt, .int .i64 0] TPl)
        have HNP : Hid (_ = _) := heap_r0 wr (.cells #[.int .i64 pm, .int .i64 (t : Int), .int .i64 (o : Int), .int .i64 pbt, .int .i64 0] TPl)
        have HRP : Hid (RcS M H W0 W gm rs2.length i A #[.int .i64 kd, .int .i64 el, .int .i64 ln, .string tg, .slice ms mm.length mc, .bool dn] (hadW M H mm (y.pl.take j)) (wr.alloc (.cells #[.int .i64 pm, .int .i64 (t : Int), .int .i64 (o : Int), .int .i64 pbt, .int .i64 0] TPl))) := HR.out.bel bp
        have HSUB : Hid (BSub M H W rb ga rs2.length gm t) := hsub
        have HIN : Hid (8 * o + nB M t ≤ nB M i) := hin
        obtain ⟨o8, ho8⟩ : ∃ o8, o8 = 8 * o := ⟨_, rfl⟩
        have HST : Hid (∀ k, hadW M H mm (y.pl.take (j + 1)) k = laidF (hadW M H mm (y.pl.take j)) (H t) o8 (nB M t) k) := fun k => by rw [ho8]; exact hadW_lay HP.out (by simp) rfl rfl HMS.out k
        have HIN8 : Hid (o8 + nB M t ≤ nB M i) := by show o8 + nB M t ≤ nB M i; rw [ho8]; exact HIN.out
        clear bp hsub hin
        go_upto_region 21 with (first | ((with_reducible apply step_store hold2); rfl; rfl; kernel_rfl; rfl; kernel_rfl; rw [World.setRow_alloc_new]) | fail)
        have hpz : wr.heap.size < (wr.alloc (.cells #[.int .i64 pm, .int .i64 (t : Int), .int .i64 (o : Int), .int .i64 pbt, .int .i64 0] TPl)).heap.size := by simp
        generalize wr.alloc (.cells #[.int .i64 pm, .int .i64 (t : Int), .int .i64 (o : Int), .int .i64 pbt, .int .i64 0] TPl) = Wp at *
        have NP : ¬ (wr.heap.size = gm ∨ wr.heap.size = W.heap.size + 1) := by omega
        have F1 : ∀ Y, SM Wp gm (W.heap.size + 1) Y → Y.cell? ⟨wr.heap.size, 1, none⟩ = some (.int .i64 (t : Int)) := fun Y h => h.cell HNP.out NP (Lib.cell_of_heap HNP.out 1)
        have F2 : ∀ Y, SM Wp gm (W.heap.size + 1) Y → Y.cell? ⟨wr.heap.size, 2, none⟩ = some (.int .i64 (o : Int)) := fun Y h => h.cell HNP.out NP (Lib.cell_of_heap HNP.out 2)
        have HSM : SM Wp gm (W.heap.size + 1) Wp := Turned.refl _ _
        have HRD : Hid (RcS M H W0 W gm rs2.length i A #[.int .i64 kd, .int .i64 el, .int .i64 ln, .string tg, .slice ms mm.length mc, .bool dn] (hadW M H mm (y.pl.take j)) Wp.drew) := HRP.out.bel (Below.refl _ _).drew
        have cE := HSUB.out (fun k => A k ∨ k = W.heap.size + 1) Wp.drew HRD.out.tur HRD.out.me (fun k hk => by have := HRD.out.on.lt; exact Or.elim hk (fun hk => by have := HA.out k hk; omega) (fun hk => by omega))
        have hw8 : IntKind.i64.wrap (8 * (o : Int)) = (o8 : Int) := by have := HIN.out; rw [wrap_id (by omega) (by omega)]; omega
        clear ho8
        clear p0 p1 p2 p3 p4 l2 hold2
        go_region_held3 (fun Y => SM Wp gm (W.heap.size + 1) Y) (with_reducible first | assumption | (refine SM.drew ?_; assumption) | (refine SM.meas ?_ (by assumption); assumption) | (refine SM.turned ?_ (by assumption); assumption)) (first
          | (go_at_call 71; refine cE.mono ?_; rintro e w3 ⟨ge, rfl, hgm3, hna, hbe, hme3, ht3⟩; have HR3 : Hid (RcS M H W0 W gm rs2.length i A #[.int .i64 kd, .int .i64 el, .int .i64 ln, .string tg, .slice ms mm.length mc, .bool dn] (hadW M H mm (y.pl.take j)) w3) := HRD.out.memo hgm0 hgm ht3 hme3; have cL := rLay_c HR3.out.on hbe (fun e => hna (.inr e.symm)) HIN8.out (by omega) (Nat.le_refl _); clear hbe hme3 hna)
          | (go_at_call 93; refine cL.mono ?_; rintro e w5 ⟨rfl, hb5, ht5⟩; have HR5 : Hid (RcS M H W0 W gm rs2.length i A #[.int .i64 kd, .int .i64 el, .int .i64 ln, .string tg, .slice ms mm.length mc, .bool dn] (hadW M H mm (y.pl.take (j + 1))) w5) := HR3.out.onto hgm hW0 ht5 (hb5.congr (fun k _ => HST.out k)); have ht6 : Turned w3 w5 (fun k => k = gm ∨ k = W.heap.size + 1) := ht5.mono (fun k e => .inr e); clear hb5 cL))
        rename_i hHeld
        clear hHeld HSM F1 F2 cE
        go_wp2
        exact ⟨⟨j + 1, by go_num, by omega, HR5⟩, by simp [intOf]; omega⟩
      · simp only at hb1 hb2 hb3
        subst hb1 hb2 hb3
        obtain ⟨gmm, omm, hms, hmc, hmcell⟩ := HMC.out jm m hb4
        subst hms
        have hjm : jm < mm.length := (List.getElem?_eq_some_iff.1 hb4).1
        have HMM : Hid (mm[jm]? = some m) := hb4
        have HMCL : Hid (∀ Y, Below W0.heap.size W0 Y → ∀ k, k < 3 → Y.cell? ⟨gmm, omm + jm * 3 + k, none⟩ = (mbCells m)[k]?) := hmcell
        have bp := below1 wr (.cells #[.int .i64 (jm : Int), .int .i64 (t : Int), .int .i64 (o : Int), .int .i64 (b : Int), .int .i64 (c : Int)] TPl)
        have HNP : Hid ((wr.alloc (.cells #[.int .i64 (jm : Int), .int .i64 (t : Int), .int .i64 (o : Int), .int .i64 (b : Int), .int .i64 (c : Int)] TPl)).heap[wr.heap.size]? = some (.cells #[.int .i64 (jm : Int), .int .i64 (t : Int), .int .i64 (o : Int), .int .i64 (b : Int), .int .i64 (c : Int)] TPl (0, 0))) := heap_r0 wr (.cells #[.int .i64 (jm : Int), .int .i64 (t : Int), .int .i64 (o : Int), .int .i64 (b : Int), .int .i64 (c : Int)] TPl)
        have HRP : Hid (RcS M H W0 W gm rs2.length i A #[.int .i64 kd, .int .i64 el, .int .i64 ln, .string tg, .slice (some ⟨gmm, omm, none⟩) mm.length mc, .bool dn] (hadW M H mm (y.pl.take j)) (wr.alloc (.cells #[.int .i64 (jm : Int), .int .i64 (t : Int), .int .i64 (o : Int), .int .i64 (b : Int), .int .i64 (c : Int)] TPl))) := HR.out.bel bp
        have hcz : ((c : Int) == 0) = false := by simp; omega
        clear bp HMC
        go_upto_region 22 with (first | ((with_reducible apply step_store hold2); rfl; rfl; kernel_rfl; rfl; kernel_rfl; rw [World.setRow_alloc_new]) | fail)
        generalize wr.alloc (.cells #[.int .i64 (jm : Int), .int .i64 (t : Int), .int .i64 (o : Int), .int .i64 (b : Int), .int .i64 (c : Int)] TPl) = Wp at *
        obtain ⟨pb, hpb⟩ : ∃ pb, pb = wr.heap.size := ⟨_, rfl⟩
        rw [← hpb] at HNP hzW ⊢
        obtain ⟨a, ha⟩ : ∃ a, a = 8 * o + b := ⟨_, rfl⟩
        obtain ⟨o8, ho8⟩ : ∃ o8, o8 = 8 * o := ⟨_, rfl⟩
        have hw8 : IntKind.i64.wrap (8 * (o : Int)) = (o8 : Int) := by rw [wrap_id (by omega) (by omega)]; omega
        have hw9 : IntKind.i64.wrap ((o8 : Int) + (b : Int)) = (a : Int) := by rw [wrap_id (by omega) (by omega)]; omega
        have HAC : Hid (a + c ≤ nB M i) := by show a + c ≤ nB M i; omega
        have HA0 : Hid (8 * (o : Int) + (b : Int) = (a : Int)) := by show 8 * (o : Int) + (b : Int) = (a : Int); omega
        clear p0 p1 p2 p3 p4 l2 hold2 HR HLr hpb ha ho8 hin hcz hb4 hmcell
        by_cases hnm : (!m.name.toList.isEmpty) = true
        · have HNE : Hid ((m.name.toList == []) = false) := by show (m.name.toList == []) = false; cases h : m.name.toList with | nil => rw [h] at hnm; cases hnm | cons x l => rfl
          have HST : Hid (∀ k, hadW M H mm (y.pl.take (j + 1)) k = runF (hadW M H mm (y.pl.take j)) a c k) := fun k => hadW_run HP.out (by simp; omega) (by simpa using HMM.out) HNE.out HA0.out rfl k
          go_wp2
          go_loopw [15] (fun kv wx => ∃ k : Nat, kv = .int .i64 k ∧ k ≤ c ∧ Hid (RcS M H W0 W gm rs2.length i A #[.int .i64 kd, .int .i64 el, .int .i64 ln, .string tg, .slice (some ⟨gmm, omm, none⟩) mm.length mc, .bool dn] (runF (hadW M H mm (y.pl.take j)) a k) wx) ∧ Hid (wx.heap[pb]? = some (.cells #[.int .i64 (jm : Int), .int .i64 (t : Int), .int .i64 (o : Int), .int .i64 (b : Int), .int .i64 (c : Int)] TPl (0, 0)))) (fun kv _ => c - (intOf kv).toNat)
          case atStart => exact ⟨0, rfl, Nat.zero_le _, HRP.out.onto hgm hW0 (Turned.refl _ _) (HRP.out.on.congr (fun k _ => runF_zero _ _ _)), HNP⟩
          case round =>
            obtain ⟨k, rfl, hkc, HRk, HPB⟩ := hrel
            have u0 := Lib.cell_of_heap HPB.out 0
            have u2 := Lib.cell_of_heap HPB.out 2
            have u3 := Lib.cell_of_heap HPB.out 3
            have u4 := Lib.cell_of_heap HPB.out 4
            have v4 := Lib.cell_of_heap HRk.out.row 4
            have n0 := HMCL.out wr HRk.out.low 0 (by omega)
            simp only [List.getElem?_toArray, List.getElem?_cons_zero, List.getElem?_cons_succ, mbCells, Nat.add_zero] at u0 u2 u3 u4 v4 n0
            have hcb : c ≤ 131072 := by have := HAC.out; omega
            by_cases hlt2 : k < c
            · have hd1 : decide ((k : Int) < (c : Int)) = true := by simp; omega
              obtain ⟨z, hz⟩ : ∃ z, z = a + k := ⟨_, rfl⟩
              have hzl : z < nB M i := by have := HAC.out; omega
              have hwz : IntKind.i64.wrap ((a : Int) + (k : Int)) = (z : Int) := by rw [wrap_id (by omega) (by omega)]; omega
              have c0 := HRk.out.on.cell hzl
              have cf := HRk.out.on.frozen z
              have HRn : Hid (RcS M H W0 W gm rs2.length i A #[.int .i64 kd, .int .i64 el, .int .i64 ln, .string tg, .slice (some ⟨gmm, omm, none⟩) mm.length mc, .bool dn] (runF (hadW M H mm (y.pl.take j)) a (k + 1)) (wr.setCell ⟨W.heap.size + 1, z, none⟩ (.bool true))) := HRk.out.onto hgm hW0 (Turned.setCell (S := fun k => k = W.heap.size + 1) _ _ _ _ rfl) (HRk.out.on.set true (fun k' _ => by rw [runF_step, hz]))
              have HPn : Hid ((wr.setCell ⟨W.heap.size + 1, z, none⟩ (.bool true)).heap[pb]? = some (.cells #[.int .i64 (jm : Int), .int .i64 (t : Int), .int .i64 (o : Int), .int .i64 (b : Int), .int .i64 (c : Int)] TPl (0, 0))) := blk_t HPB.out (Turned.setCell (S := fun k => k = W.heap.size + 1) _ _ _ _ rfl) (by omega)
              generalize runF (hadW M H mm (y.pl.take j)) a k z = bz at *
              clear hz
              go_wp2
              exact ⟨⟨k + 1, by go_num, by omega, HRn, HPn⟩, by simp [intOf]; omega⟩
            · obtain rfl : k = c := by omega
              have hd1 : decide ((k : Int) < (k : Int)) = false := by simp
              have HR5 : Hid (RcS M H W0 W gm rs2.length i A #[.int .i64 kd, .int .i64 el, .int .i64 ln, .string tg, .slice (some ⟨gmm, omm, none⟩) mm.length mc, .bool dn] (hadW M H mm (y.pl.take (j + 1))) wr) := HRk.out.onto hgm hW0 (Turned.refl _ _) (HRk.out.on.congr (fun k' _ => HST.out k'))
              go_wp2
              exact ⟨⟨j + 1, by go_num, by omega, HR5⟩, by simp [intOf]; omega⟩
        · have hnm0 : (!m.name.toList.isEmpty) = false := by simpa using hnm
          have HNE : Hid ((m.name.toList == []) = true) := by show (m.name.toList == []) = true; cases h : m.name.toList with | nil => rfl | cons x l => rw [h] at hnm0; cases hnm0
          have HST : Hid (∀ k, hadW M H mm (y.pl.take (j + 1)) k = hadW M H mm (y.pl.take j) k) := fun k => hadW_skip HP.out (by simp; omega) (by simpa using HMM.out) HNE.out k
          have HR5 : Hid (RcS M H W0 W gm rs2.length i A #[.int .i64 kd, .int .i64 el, .int .i64 ln, .string tg, .slice (some ⟨gmm, omm, none⟩) mm.length mc, .bool dn] (hadW M H mm (y.pl.take (j + 1))) Wp) := HRP.out.onto hgm hW0 (Turned.refl _ _) (HRP.out.on.congr (fun k' _ => HST.out k'))
          have u0 := Lib.cell_of_heap HNP.out 0
          have u4 := Lib.cell_of_heap HNP.out 4
          have v4 := Lib.cell_of_heap HRP.out.row 4
          have n0 := HMCL.out Wp HRP.out.low 0 (by omega)
          simp only [List.getElem?_toArray, List.getElem?_cons_zero, List.getElem?_cons_succ, mbCells, Nat.add_zero] at u0 u4 v4 n0
          have HWP : Hid (Wp = Wp) := rfl
          clear hnm
          go_wp2
          go_loopw [15] (fun kv wx => kv = .int .i64 0 ∧ wx = Wp) (fun kv _ => 0)
          case atStart => exact ⟨rfl, rfl⟩
          case round =>
            obtain ⟨rfl, rfl⟩ := hrel
            have hc1 : decide ((0 : Int) < (c : Int)) = true := by simp; omega
            go_wp2
            exact ⟨⟨j + 1, by go_num, by omega, HR5⟩, by simp [intOf]; omega⟩
    · obtain rfl : j = y.pl.length := by omega
      have HMW := HR.out.me
      obtain ⟨u, c0, _⟩ := HMW.cell hi
      have cf := HMW.frozen i
      have HBF : Hid (BoR wr (W.heap.size + 1) (nB M i) (H i)) := HR.out.on.congr (fun k _ => by rw [HH.out k, List.take_length])
      have HMP : Hid (MeR M H (wr.setCell ⟨gm, i, none⟩ (.slice (some ⟨W.heap.size + 1, 0, none⟩) (nB M i) (nB M i))) gm rs2.length A) := (HMW.weak (A' := A) (fun g e => .inl e)).put HBF.out h0 (by omega) (fun a => by have := HA.out _ a; omega)
      have HTS : Hid (Turned wr (wr.setCell ⟨gm, i, none⟩ (.slice (some ⟨W.heap.size + 1, 0, none⟩) (nB M i) (nB M i))) (fun k => k = gm)) := Turned.setCell (S := fun k => k = gm) _ _ _ _ rfl
      have HTA : Hid (Turned W wr (fun k => k = gm)) := HR.out.tur
      clear HMW
      go_wp2
      go_ret
      exact ⟨W.heap.size + 1, rfl, by omega, by omega, HBF.out.turned HTS.out (by omega), HMP.out, HTA.out.trans HTS.out (fun _ _ e => e)⟩
end
end Go.Proofs.YtlcghlfmaohfeaaGreat
namespace Go.Proofs.YtlcghlfmaohfeaaGreat
open Go.RowKit Go.Maps
set_option linter.unusedVariables false
set_option maxRecDepth 100000
section
variable {M : Int → Ex} {H : Int → Nat → Bool} {W0 W : World} {gm : Nat} {rb ga base : Nat} {rv : Value} {rs rs2 : List (Rw × Value)} {ys : List Ly}
theorem bits_step (hT : RT W0 rb rv rs2) (hrows : rs2.map (·.1) = rs.map (·.1)) (hf : FromOK rs) (hM : IsMeas (rowsOf rs) M) (hH : IsHad (rowsOf rs) M H) (hlow : Below W0.heap.size W0 W) (hgm0 : W0.heap.size ≤ gm) {cs : Array Value} (hcm : W.heap[gm]? = some (.cells cs TBs (0, 0))) (hL : LyR base W ga ys) (hys : ys.length = rs2.length)
    (hall : ∀ (i : Nat) (p : Rw × Value), rs[i]? = some p → wholeR p.1 = true → ∃ y, ys[i]? = some y ∧ Tells M i p.1 y) {i : Nat} {p : Rw × Value} (hp : rs[i]? = some p) (hwh : wholeR p.1 = true) (hgt : (M i).size ≤ 16384)
    (hpart : ∀ t : Nat, (t : Int) ∈ partsR p.1 → wholeP rs (t : Int) = true → (M (t : Int)).size ≤ 16384 → BSub M H W rb ga rs2.length gm t) : BSub M H W rb ga rs2.length gm i := by
  intro A Y hTY hMe hA
  have hlt : i < rs.length := (List.getElem?_eq_some_iff.1 hp).1
  have hlen : rs2.length = rs.length := fst_len hrows
  have hlt2 : i < rs2.length := by omega
  obtain ⟨q, hq⟩ : ∃ q, rs2[i]? = some q := ⟨_, List.getElem?_eq_getElem hlt2⟩
  obtain ⟨p', hp', hpq⟩ := same_at hrows hq
  rw [hp] at hp'
  obtain rfl : p = p' := Option.some.inj hp'
  have hlowY : Below W0.heap.size W0 Y := below_turned hlow hTY hgm0
  have hRT := hT.below hlowY
  have hLY : LyR base Y ga ys := hL.turnedM hcm hTY
  have hMi := hM i p.1 (rows_at hp)
  have hHi := hH i p.1 (rows_at hp)
  have hE := meas_ok hf hM i p hp hwh
  have e1 := hE.lo
  have hn0 : 0 < nB M i := by unfold nB; omega
  have hnb : nB M i ≤ 131072 := by unfold nB; omega
  obtain ⟨y, hy, ht1, ht2⟩ := hall i p hp hwh
  have hfine : y.fine = true := by rw [ht1]; simpa using hgt
  obtain ⟨hys1, hys2, hys3⟩ := ht2 hfine
  have hsz : 8 * y.size = nB M i := by rw [hys1]; unfold nB; omega
  have h512 := hT.len
  obtain ⟨u, hu, hME⟩ := hMe.cell hlt2
  rcases hME with rfl | ⟨g, rfl, g1, g2, g3, g4⟩
  · by_cases h14 : p.1.kind = 14
    · obtain ⟨_, _, hwe, hln, _⟩ := ok_arr hf hp h14
      have hlen : 1 ≤ p.1.len := by
        unfold wholeR at hwh
        rw [if_pos h14] at hwh
        simp [lenK] at hln
        simp at hwh
        omega
      obtain ⟨qe, hqe, hwq, x0, xl⟩ := whole_at hwe
      obtain ⟨t, hxt⟩ : ∃ t : Nat, p.1.elem = t := ⟨p.1.elem.toNat, by omega⟩
      rw [hxt, Int.toNat_natCast] at hqe
      have hEE : ExOK (M (t : Int)) := meas_ok hf hM _ qe hqe hwq
      obtain ⟨c, hcn⟩ : ∃ c : Nat, p.1.len = c := ⟨p.1.len.toNat, by omega⟩
      have hr : (M i).size = min (p.1.len * (M p.1.elem).size) 16385 := by rw [hMi]; unfold roomP clampE; rw [if_pos h14]
      have hsz2 : (M i).size = c * (M (t : Int)).size := by rw [← hcn, ← hxt]; omega
      have hee := hEE.lo
      have h2 : 1 * (M (t : Int)).size ≤ c * (M (t : Int)).size := Int.mul_le_mul_of_nonneg_right (by omega) (by omega)
      have hnt : nB M i = c * nB M t := by
        obtain ⟨s, hs⟩ : ∃ s : Nat, (M (t : Int)).size = s := ⟨(M (t : Int)).size.toNat, by omega⟩
        have e1 : (8 * ((c * s : Nat) : Int)).toNat = 8 * (c * s) := by omega
        have e2 : (8 * (s : Int)).toNat = 8 * s := by omega
        unfold nB
        rw [hsz2, hs, ← Int.natCast_mul, e1, e2, ← Nat.mul_assoc, Nat.mul_comm 8 c, Nat.mul_assoc]
      have hsub := hpart t (by unfold partsR; rw [if_pos h14, hxt]; simp) (by rw [← hxt]; exact hwe) (by omega)
      refine (rBits_arr hRT hq rfl (by rw [← hpq]; exact h14) (by rw [← hpq]; exact hxt) (by rw [← hpq]; exact hcn) hnt (by unfold nB; omega) hLY hy hys hsz hn0 hnb (fun k => ?_) hMe hA hu (fun A' Z hZ => hsub A' Z (hTY.trans hZ (fun _ _ e => e)))).mono ?_
      · rw [hHi]; unfold hadR nB; rw [if_pos h14, hxt]
      · rintro e w' ⟨g, rfl, d1, d2, d3, d4, d5⟩
        exact ⟨g, rfl, d1, fun a => by have := hA g a; omega, d3, d4, d5⟩
    · by_cases hk : recK p.1.kind = true
      · have hd := whole_done hwh hk
        have hmem := ok_members hf hp hk hd
        have hypl := hys3 hk
        have hm64 : p.1.mem.length ≤ 64 := by have := (enter_parts (hf.1 i p hlt hp) hlt).2; omega
        refine (rBits_rec hT hlowY hgm0 hq rfl (by rw [← hpq]; exact h14) (by rw [← hpq]; exact hk) hLY hy hys hsz hn0 hnb ?_ (fun P hP => ?_) (fun k => ?_) hMe hA hu).mono ?_
        · rw [hypl]
          exact Nat.le_trans (placesS_len _ _ _) hm64
        · rw [hypl] at hP
          obtain ⟨h1, h2, j, x, q1, q2, q3, q4, q5, q6⟩ := place_all hf hM hp hwh hk hgt P hP
          have hxw := (hmem x (List.mem_of_getElem? q1)).1
          obtain ⟨qx, hqx, hwx, x0, xl⟩ := whole_at hxw
          obtain ⟨t, hxt⟩ : ∃ t : Nat, x.type = t := ⟨x.type.toNat, by omega⟩
          have hEx : ExOK (M x.type) := by rw [hxt]; rw [hxt, Int.toNat_natCast] at hqx; exact meas_ok hf hM _ qx hqx hwx
          have hex := hEx.lo
          rw [← hpq]
          refine ⟨P.off.toNat, t, (M (t : Int)).size.toNat, by omega, by rw [q3, hxt], by rw [← hxt]; omega, ?_⟩
          by_cases hx : x.bits = -1
          · left
            obtain ⟨z1, z2, z3⟩ := q5 hx
            rw [hxt] at z3 hex
            refine ⟨z1, by unfold nB; omega, fun A' Z hZ => hpart t (by unfold partsR; rw [if_neg h14, ← hxt]; exact List.mem_map.2 ⟨x, List.mem_of_getElem? q1, rfl⟩) (by rw [← hxt]; exact hxw) (by omega) A' Z (hTY.trans hZ (fun _ _ e => e))⟩
          · right
            obtain ⟨z1, z2, z3⟩ := q6 hx
            exact ⟨P.bit.toNat, P.bits.toNat, j, x, by omega, by omega, by omega, by unfold nB; omega, q2, q1⟩
        · rw [hypl, ← hpq]; exact (had_all hf hM hH hp hwh hk hgt k).symm
        · rintro e w' ⟨g, rfl, d1, d2, d3, d4, d5⟩
          exact ⟨g, rfl, d1, fun a => by have := hA g a; omega, d3, d4, d5⟩
      · refine (rBits_flat hRT hq rfl (by rw [← hpq]; exact h14) (by rw [← hpq]; simpa using hk) hLY hy hys hsz hn0 hnb (fun k => ?_) hMe hA hu).mono ?_
        · rw [hHi]; unfold hadR; rw [if_neg h14, if_neg hk]
        · rintro e w' ⟨g, rfl, d1, d2, d3, d4⟩
          have := hMe.lt
          exact ⟨g, rfl, by omega, fun a => by have := hA g a; omega, d2, d3, d4⟩
  · refine (rBits_hit hlt2 (by omega) hn0 (by omega) hu).mono ?_
    rintro e w' ⟨rfl, rfl⟩
    exact ⟨g, rfl, g2, g3, g4, hMe, Turned.refl _ _⟩
theorem bits_all (hT : RT W0 rb rv rs2) (hrows : rs2.map (·.1) = rs.map (·.1)) (hf : FromOK rs) (hM : IsMeas (rowsOf rs) M) (hH : IsHad (rowsOf rs) M H) (hlow : Below W0.heap.size W0 W) (hgm0 : W0.heap.size ≤ gm) {cs : Array Value} (hcm : W.heap[gm]? = some (.cells cs TBs (0, 0))) (hL : LyR base W ga ys) (hys : ys.length = rs2.length)
    (hall : ∀ (i : Nat) (p : Rw × Value), rs[i]? = some p → wholeR p.1 = true → ∃ y, ys[i]? = some y ∧ Tells M i p.1 y) :
    ∀ (i : Nat) (p : Rw × Value), rs[i]? = some p → wholeR p.1 = true → (M i).size ≤ 16384 → BSub M H W rb ga rs2.length gm i := by
  obtain ⟨rank, hr⟩ := ok_rank hf
  have key : ∀ (n i : Nat) (p : Rw × Value), rank i < n → rs[i]? = some p → wholeR p.1 = true → (M i).size ≤ 16384 → BSub M H W rb ga rs2.length gm i := by
    intro n
    induction n with
    | zero => intro i p hn; omega
    | succ n ih =>
      intro i p hn hp hw hg
      refine bits_step hT hrows hf hM hH hlow hgm0 hcm hL hys hall hp hw hg (fun t ht hwt hgt => ?_)
      obtain ⟨⟨x0, xl⟩, hlt⟩ := hr i p.1 (rows_at hp) t ht
      obtain ⟨q, hq, hwq, _, _⟩ := whole_at hwt
      rw [Int.toNat_natCast] at hq hlt
      exact ih t q (by omega) hq hwq hgt
  exact fun i p hp hw hg => key (rank i + 1) i p (by omega) hp hw hg
end
end Go.Proofs.YtlcghlfmaohfeaaGreat
namespace Go.Proofs.YtlcghlfmaohfeaaGreat
open Go.RowKit Go.Maps
set_option linter.unusedVariables false
set_option maxRecDepth 100000
theorem free_zero (f : Nat → Bool) (j : Nat) : (gapF f (j + 1)).free = 0 ↔ f j = true := by
  simp only [gapF, gapStep]
  split
  · simp_all
  · simp_all
theorem last_bits (f : Nat → Bool) : ∀ j, (gapF f j).free ≠ 0 → ∃ P, (gapF f j).l[(gapF f j).l.length - 1]? = some P ∧ P.bits = (gapF f j).free
  | 0, h => absurd rfl h
  | j + 1, h => by
    obtain ⟨_, _, h3⟩ := gapF_len f j
    simp only [gapF, gapStep] at h ⊢
    split at h
    · exact absurd rfl h
    · rename_i hf
      rw [if_neg hf]
      simp only [setLast_length]
      have hX : 0 < (if (gapF f j).free = 0 then (gapF f j).l ++ [⟨j, 0⟩] else (gapF f j).l).length := by
        split
        · simp
        · rename_i h0; exact h3 h0
      generalize (if (gapF f j).free = 0 then (gapF f j).l ++ [⟨j, 0⟩] else (gapF f j).l) = X at *
      obtain ⟨g, hg⟩ : ∃ g, X[X.length - 1]? = some g := ⟨_, List.getElem?_eq_getElem (by omega)⟩
      refine ⟨⟨g.from_, (gapF f j).free + 1⟩, ?_, rfl⟩
      unfold setLast
      rw [List.getElem?_modify, hg]
      simp
section
variable {w : World} {M : Int → Ex} {rb : Nat} {rv : Value} {rs rs2 : List (Rw × Value)}
set_option maxHeartbeats 8000000 in
theorem rGaps_err (h : RT w rb rv rs2) (hrows : rs2.map (·.1) = rs.map (·.1)) (hf : FromOK rs) (hM : IsMeas (rowsOf rs) M) (hs : ∀ p ∈ rs, Sane p.1) (h1 : 0 < rs.length) (id : Int) (he : ¬ openE rs M id = 0) :
    Calls Tryz.prog 20 #[.pointer (some ⟨rb, 0, none⟩), .int .i64 id] w fun e w' => e = .returned (.tuple #[.slice none 0 0, .int .i64 (openE rs M id)]) ∧ Below w.heap.size w w' := by
  have c := asked_c h hrows hf hM hs h1 id
  have e0 : (openE rs M id != 0) = true := by simpa using he
  clear h hrows hf hM hs
  go_enter Tryz.func20, Tryz.ntmps20
  go_wp2_with (first | (go_at_call 29; refine c.mono ?_; rintro e w5 ⟨sz, al, lp, lc, pl, f, rfl, hb5, how, hsz, hal, hpl⟩; have hold5 := heap_r0 w5 (.cells #[.int .i64 0, .int .i64 0, .slice none 0 0, .bool false] TLy); have HB5 : Hid (Below w.heap.size w (w5.alloc (.cells #[.int .i64 sz, .int .i64 al, .slice lp pl.length lc, .bool f] TLy))) := hb5.trans ((below1 w5 _).mono hb5.size); clear hb5 how hsz hal hpl c) | ((with_reducible apply step_store hold5); rfl; rfl; kernel_rfl; rfl; kernel_rfl; rw [World.setRow_alloc_new]) | fail)
  go_ret2
  exact ⟨rfl, HB5.out⟩
set_option maxHeartbeats 16000000 in
theorem rGaps_ok (h : RT w rb rv rs2) (hrows : rs2.map (·.1) = rs.map (·.1)) (hf : FromOK rs) (hM : IsMeas (rowsOf rs) M) (hs : ∀ p ∈ rs, Sane p.1) (h1 : 0 < rs.length) (id : Int) (he : openE rs M id = 0) {N : Nat} {f : Nat → Bool} (hN : N ≤ 200000)
    (cB : ∀ W, Below w.heap.size w W → Calls Tryz.prog 41 #[.pointer (some ⟨rb, 0, none⟩), .int .i64 id] W fun e w' => ∃ g c, e = .returned (.slice (some ⟨g, 0, none⟩) N c) ∧ N ≤ c ∧ BoR w' g N f ∧ Below W.heap.size W w') :
    Calls Tryz.prog 20 #[.pointer (some ⟨rb, 0, none⟩), .int .i64 id] w fun e w' => ∃ s, e = .returned (.tuple #[s, .int .i64 0]) ∧ Below w.heap.size w w' ∧ w'.ownsRow w.heap.size TG 2 s (gapF f N).l.length (gpCells (gapF f N).l) := by
  obtain ⟨i0, hi, hz0, hz1, hz2⟩ := info_parts infoTG
  have c := asked_c h hrows hf hM hs h1 id
  rw [he] at c
  have HCB : Hid (∀ W, Below w.heap.size w W → Calls Tryz.prog 41 #[.pointer (some ⟨rb, 0, none⟩), .int .i64 id] W fun e w' => ∃ g c, e = .returned (.slice (some ⟨g, 0, none⟩) N c) ∧ N ≤ c ∧ BoR w' g N f ∧ Below W.heap.size W w') := cB
  clear h hrows hf hM hs cB
  go_enter Tryz.func20, Tryz.ntmps20
  go_wp2_with (first | (go_at_call 29; refine c.mono ?_; rintro e w5 ⟨sz, al, lp, lc, pl, fl, rfl, hb5, how, hsz, hal, hpl⟩; have hold5 := heap_r0 w5 (.cells #[.int .i64 0, .int .i64 0, .slice none 0 0, .bool false] TLy); have HB5 : Hid (Below w.heap.size w (w5.alloc (.cells #[.int .i64 sz, .int .i64 al, .slice lp pl.length lc, .bool fl] TLy))) := hb5.trans ((below1 w5 _).mono hb5.size); clear hb5 how hsz hal hpl c) | (go_at_call 41; refine (HCB.out _ HB5.out).mono ?_; rintro e w6 ⟨g, cp, rfl, hcp, hbo, hb6⟩; have HB6 : Hid (Below w.heap.size w w6) := HB5.out.trans (hb6.mono HB5.out.size); have HBO : Hid (BoR w6 g N f) := hbo; clear hb6 hbo) | ((with_reducible apply step_store hold5); rfl; rfl; kernel_rfl; rfl; kernel_rfl; rw [World.setRow_alloc_new]) | fail)
  have hgl : g < w6.heap.size := HBO.out.lt
  go_loopw [9, 10] (fun sv iv wr => ∃ (j : Nat), j ≤ N ∧ iv = .int .i64 j ∧ Hid (Below w6.heap.size w6 wr) ∧ Hid (wr.ownsRow w6.heap.size TG 2 sv (gapF f j).l.length (gpCells (gapF f j).l))) (fun _ iv _ => N - (intOf iv).toNat)
  case atStart => exact ⟨0, Nat.zero_le _, rfl, Below.refl _ _, ⟨by simp [gapF, gpCells], Or.inl ⟨rfl, rfl⟩⟩⟩
  case round =>
    obtain ⟨j, hj, rfl, HT, HO⟩ := hrel
    obtain ⟨gl1, gl2, gl3⟩ := gapF_len f j
    obtain ⟨sp, sc, rfl⟩ := slice_of_own HO.out
    by_cases hjl : j < N
    · have c0 := (HBO.out.below HT.out).cell hjl
      have HNX : Hid (gapF f (j + 1) = gapStep f (gapF f j) j) := rfl
      have HLB : Hid ((gapF f j).free ≠ 0 → ∃ P, (gapF f j).l[(gapF f j).l.length - 1]? = some P ∧ P.bits = (gapF f j).free) := last_bits f j
      have HFZ : Hid (∀ t, j = t + 1 → ((gapF f j).free = 0 ↔ f t = true)) := fun t ht => by rw [ht]; exact free_zero f t
      have HF0 : Hid (j = 0 → (gapF f j).free = 0) := fun h => by rw [h]; rfl
      have HC1 : Hid (∀ t, j = t + 1 → wr.cell? ⟨g, t, none⟩ = some (.bool (f t))) := fun t ht => (HBO.out.below HT.out).cell (by omega)
      generalize gapF f j = G at *
      obtain ⟨gs, fr⟩ := G
      simp only at gl1 gl2 gl3 HO HLB HFZ HF0 ⊢
      cases hb : f j with
      | true =>
        rw [hb] at c0
        have HST : Hid (gapF f (j + 1) = ⟨gs, 0⟩) := by show gapF f (j + 1) = _; rw [HNX.out]; simp [gapStep, hb]
        clear hb HNX
        go_wp2
        refine ⟨⟨j + 1, by omega, by go_num, HT, ?_⟩, by simp [intOf]; omega⟩
        rw [HST.out]
        exact HO
      | false =>
        rw [hb] at c0
        by_cases hfr : fr = 0
        · subst hfr
          have HST : Hid (gapF f (j + 1) = ⟨setLast (gs ++ [⟨j, 0⟩]) 1, 1⟩) := by show gapF f (j + 1) = _; rw [HNX.out]; simp [gapStep, hb]
          clear HNX hb gl3 HLB
          rcases j with _ | t
          · clear HFZ HC1
            have hb1 := below1 wr (.cells #[.int .i64 ((0 : Nat) : Int), .int .i64 0] TG)
            have HO1 : Hid ((wr.alloc (.cells #[.int .i64 ((0 : Nat) : Int), .int .i64 0] TG)).ownsRow w6.heap.size TG 2 (.slice sp gs.length sc) gs.length (gpCells gs)) := ownsRow_turned HO.out (Turned.of_below hb1 (fun _ => False)) (fun _ _ h => h.elim)
            have HT1 : Hid (Below w6.heap.size w6 (wr.alloc (.cells #[.int .i64 ((0 : Nat) : Int), .int .i64 0] TG))) := HT.out.trans (hb1.mono HT.out.size)
            clear hb1 HO
            go_wp2_with (at_builtin; go_must (refine wpList_append_own_at _ rfl (.tmp 42) (.tmp 45) TGs rfl w6.heap.size TG i0 _ 2 16 Tryz.underlying52 hi hz0 hz1 hz2 rfl (by decide) (.slice sp gs.length sc) gs.length _ rfl HO1.out ⟨wr.heap.size, 0, none⟩ 1 1 [.int .i64 ((0 : Nat) : Int), .int .i64 0] rfl rfl (cells_new _ _ _) (by simp [Value.oneCell']) (by unfold maxLen; omega) (by omega) HT1.out.size ?_); intro v' w' hown hgrow hnil hat; obtain ⟨g', cap', rfl, q1, q2, q3, q4, q5⟩ := own_cell hown (by omega); have HOW : Hid (w'.ownsRow w6.heap.size TG 2 (.slice (some ⟨g', 0, none⟩) (gs.length + 1) cap') (gs.length + 1) (gpCells gs ++ [.int .i64 ((0 : Nat) : Int), .int .i64 0])) := hown; have HGR : Hid (Below w6.heap.size w6 w') := HT1.out.grown hgrow HT1.out.size (fun k e => (ownsRow_at HO1.out e).1); have cl := q4 (gs.length * 2 + 1) (.int .i64 0) (by rw [List.getElem?_append_right (by rw [gp_len]; omega), gp_len, show gs.length * 2 + 1 - gs.length * 2 = 1 by omega]; rfl); have fz := q5 (gs.length * 2 + 1); clear hown hgrow hnil hat q4 q5)
            refine ⟨⟨0 + 1, by omega, by go_num, below_turned HGR.out (Turned.setCell (S := fun k => k = g') _ _ _ _ rfl) q1, ?_⟩, by simp [intOf]; omega⟩
            have e0 : gpCells (gs ++ [⟨0, 0⟩]) = gpCells gs ++ [.int .i64 ((0 : Nat) : Int), .int .i64 0] := by simp [gpCells]
            have e1 := (gp_last (gs ++ [⟨0, 0⟩]) (by simp) 1).1
            rw [e0, show (gs ++ [(⟨0, 0⟩ : Gp)]).length - 1 = gs.length by simp] at e1
            rw [HST.out]
            simp only [setLast_length, List.length_append, List.length_cons, List.length_nil, Nat.zero_add]
            rw [e1]
            exact own_set HOW.out _ (by omega) _
          · have c1 := HC1.out t rfl
            rw [(HFZ.out t rfl).1 rfl] at c1
            clear HFZ HC1 HF0
            have hj0 : (((t + 1 : Nat) : Int) == 0) = false := by simp; omega
            have hjw : IntKind.i64.wrap (((t + 1 : Nat) : Int) - 1) = (t : Int) := by rw [wrap_id (by omega) (by omega)]; omega
            have hb1 := below1 wr (.cells #[.int .i64 ((t + 1 : Nat) : Int), .int .i64 0] TG)
            have HO1 : Hid ((wr.alloc (.cells #[.int .i64 ((t + 1 : Nat) : Int), .int .i64 0] TG)).ownsRow w6.heap.size TG 2 (.slice sp gs.length sc) gs.length (gpCells gs)) := ownsRow_turned HO.out (Turned.of_below hb1 (fun _ => False)) (fun _ _ h => h.elim)
            have HT1 : Hid (Below w6.heap.size w6 (wr.alloc (.cells #[.int .i64 ((t + 1 : Nat) : Int), .int .i64 0] TG))) := HT.out.trans (hb1.mono HT.out.size)
            clear hb1 HO
            go_wp2_with (at_builtin; go_must (refine wpList_append_own_at _ rfl (.tmp 42) (.tmp 45) TGs rfl w6.heap.size TG i0 _ 2 16 Tryz.underlying52 hi hz0 hz1 hz2 rfl (by decide) (.slice sp gs.length sc) gs.length _ rfl HO1.out ⟨wr.heap.size, 0, none⟩ 1 1 [.int .i64 ((t + 1 : Nat) : Int), .int .i64 0] rfl rfl (cells_new _ _ _) (by simp [Value.oneCell']) (by unfold maxLen; omega) (by omega) HT1.out.size ?_); intro v' w' hown hgrow hnil hat; obtain ⟨g', cap', rfl, q1, q2, q3, q4, q5⟩ := own_cell hown (by omega); have HOW : Hid (w'.ownsRow w6.heap.size TG 2 (.slice (some ⟨g', 0, none⟩) (gs.length + 1) cap') (gs.length + 1) (gpCells gs ++ [.int .i64 ((t + 1 : Nat) : Int), .int .i64 0])) := hown; have HGR : Hid (Below w6.heap.size w6 w') := HT1.out.grown hgrow HT1.out.size (fun k e => (ownsRow_at HO1.out e).1); have cl := q4 (gs.length * 2 + 1) (.int .i64 0) (by rw [List.getElem?_append_right (by rw [gp_len]; omega), gp_len, show gs.length * 2 + 1 - gs.length * 2 = 1 by omega]; rfl); have fz := q5 (gs.length * 2 + 1); clear hown hgrow hnil hat q4 q5)
            refine ⟨⟨t + 1 + 1, by omega, by go_num, below_turned HGR.out (Turned.setCell (S := fun k => k = g') _ _ _ _ rfl) q1, ?_⟩, by simp [intOf]; omega⟩
            have e0 : gpCells (gs ++ [⟨t + 1, 0⟩]) = gpCells gs ++ [.int .i64 ((t + 1 : Nat) : Int), .int .i64 0] := by simp [gpCells]
            have e1 := (gp_last (gs ++ [⟨t + 1, 0⟩]) (by simp) 1).1
            rw [e0, show (gs ++ [(⟨t + 1, 0⟩ : Gp)]).length - 1 = gs.length by simp] at e1
            rw [HST.out]
            simp only [setLast_length, List.length_append, List.length_cons, List.length_nil, Nat.zero_add]
            rw [e1]
            exact own_set HOW.out _ (by omega) _
        · have HST : Hid (gapF f (j + 1) = ⟨setLast gs (fr + 1), fr + 1⟩) := by show gapF f (j + 1) = _; rw [HNX.out]; simp [gapStep, hb, hfr]
          have hgs := gl3 hfr
          obtain ⟨t, rfl⟩ : ∃ t, j = t + 1 := ⟨j - 1, by have : j ≠ 0 := fun e => hfr (HF0.out e); omega⟩
          have c1 := HC1.out t rfl
          have hft : f t = false := by
            cases hft : f t with
            | false => rfl
            | true => exact absurd ((HFZ.out t rfl).2 hft) hfr
          rw [hft] at c1
          obtain ⟨P, hP, hPb⟩ := HLB.out hfr
          obtain ⟨g', cap', he, q1, q2, q3, q4, q5⟩ := own_cell HO.out hgs
          cases he
          obtain ⟨u1, u2⟩ := gp_at gs (gs.length - 1) P hP
          rw [hPb] at u2
          obtain ⟨e1, u, hu⟩ := gp_last gs hgs (fr + 1)
          have cl := q4 _ _ u2
          have fz := q5 ((gs.length - 1) * 2 + 1)
          have HE1 : Hid (_ = _) := e1
          have hj0 : (((t + 1 : Nat) : Int) == 0) = false := by simp; omega
          have hjw : IntKind.i64.wrap (((t + 1 : Nat) : Int) - 1) = (t : Int) := by rw [wrap_id (by omega) (by omega)]; omega
          clear HNX hb gl3 q4 q5 hu e1 u1 u2 HFZ HC1 HF0 HLB hP hPb hft
          go_wp2
          refine ⟨⟨t + 1 + 1, by omega, by go_num, below_turned HT.out (Turned.setCell (S := fun k => k = g') _ _ _ _ rfl) q1, ?_⟩, by simp [intOf]; omega⟩
          rw [HST.out]
          simp only [setLast_length]
          rw [HE1.out]
          exact own_set HO.out _ (by omega) _
    · obtain rfl : j = N := by omega
      go_wp2
      go_ret2
      exact ⟨_, rfl, HB6.out.trans (HT.out.mono HB6.out.size), ownsRow_base HO.out HB6.out.size⟩
end
end Go.Proofs.YtlcghlfmaohfeaaGreat
namespace Go.Proofs.YtlcghlfmaohfeaaGreat
open Go.RowKit Go.Maps
set_option linter.unusedVariables false
set_option maxRecDepth 100000
theorem AllP.bel {rs : List (Rw × Value)} {M : Int → Ex} {w w' : World} (h : AllP rs M w w') : Below w.heap.size w w' := by
  obtain ⟨_, h, _⟩ := h
  exact h
section
variable {w : World} {M : Int → Ex} {H : Int → Nat → Bool} {rb : Nat} {rv : Value} {rs rs2 : List (Rw × Value)}
/-- bitsOf where all sizes are known and the memo is empty. -/
theorem bits_go {W : World} {ga gm base : Nat} {ys : List Ly} (hT : RT w rb rv rs2) (hrows : rs2.map (·.1) = rs.map (·.1)) (hf : FromOK rs) (hM : IsMeas (rowsOf rs) M) (hH : IsHad (rowsOf rs) M H) (hlow : Below w.heap.size w W) (hgm0 : w.heap.size ≤ gm) (hL : LyR base W ga ys) (hys : ys.length = rs.length)
    (hall : ∀ (i : Nat) (p : Rw × Value), rs[i]? = some p → wholeR p.1 = true → ∃ y, ys[i]? = some y ∧ Tells M i p.1 y) (hMe : MeR M H W gm rs.length (fun _ => False)) {i : Nat} {p : Rw × Value} (hp : rs[i]? = some p) (hwh : wholeR p.1 = true) (hgt : (M i).size ≤ 16384) :
    Calls Tryz.prog 71 #[.pointer (some ⟨rb, 0, none⟩), .slice (some ⟨ga, 0, none⟩) rs.length rs.length, .int .i64 (i : Int), .slice (some ⟨gm, 0, none⟩) rs.length rs.length] W fun e w' => ∃ g, e = .returned (.slice (some ⟨g, 0, none⟩) (nB M i) (nB M i)) ∧ BoR w' g (nB M i) (H i) ∧ Below w.heap.size w w' := by
  obtain ⟨cs, hcm, _, _⟩ := id hMe
  have hlen : rs2.length = rs.length := fst_len hrows
  have hB := bits_all hT hrows hf hM hH hlow hgm0 hcm hL (by omega) hall i p hp hwh hgt
  rw [hlen] at hB
  exact (hB (fun _ => False) W (Turned.refl _ _) hMe (fun k h => h.elim)).mono fun e w' ⟨g, he, _, _, h1, _, h2⟩ => ⟨g, he, h1, below_turned hlow h2 hgm0⟩
set_option maxHeartbeats 16000000 in
theorem rBitsAll_c (hT : RT w rb rv rs2) (hrows : rs2.map (·.1) = rs.map (·.1)) (hf : FromOK rs) (hM : IsMeas (rowsOf rs) M) (hH : IsHad (rowsOf rs) M H) (hs : ∀ p ∈ rs, Sane p.1) (h1 : 0 < rs.length) {i : Nat} {p : Rw × Value} (hp : rs[i]? = some p) (hwh : wholeR p.1 = true) (hgt : (M i).size ≤ 16384) :
    Calls Tryz.prog 41 #[.pointer (some ⟨rb, 0, none⟩), .int .i64 (i : Int)] w fun e w' => ∃ g c, e = .returned (.slice (some ⟨g, 0, none⟩) (nB M i) c) ∧ nB M i ≤ c ∧ BoR w' g (nB M i) (H i) ∧ Below w.heap.size w w' := by
  obtain ⟨rp, rc, rfl, hrc⟩ := hT.sl
  have hlen : rs2.length = rs.length := fst_len hrows
  have h512 := hT.len
  have L0 : ∀ Y, SH w Y → Y.cell? ⟨rb, 0, none⟩ = some (.slice rp rs.length rc) := fun Y hY => by rw [← hlen]; exact (hT.below hY).cell
  have HCA : Hid (∀ Y, Below w.heap.size w Y → Calls Tryz.prog 60 #[.pointer (some ⟨rb, 0, none⟩)] Y fun e w' => e = .returned (.slice (some ⟨Y.heap.size, 0, none⟩) rs.length rs.length) ∧ AllP rs M Y w') := fun Y hY => all_c (hT.below hY) hrows hf hM hs h1
  have hmk := fun Y => make_memo Y rs.length (by omega)
  have HG1 : Hid (∀ Wx y1 ga, Wx.heap.size = ga → Below w.heap.size w Wx → AllP rs M Wx y1 → Calls Tryz.prog 71 #[.pointer (some ⟨rb, 0, none⟩), .slice (some ⟨ga, 0, none⟩) rs.length rs.length, .int .i64 (i : Int), .slice (some ⟨y1.heap.size, 0, none⟩) rs.length rs.length] (y1.alloc (.cells (madeCells #[.slice none 0 0] rs.length) TBs)) fun e w' => ∃ g, e = .returned (.slice (some ⟨g, 0, none⟩) (nB M i) (nB M i)) ∧ BoR w' g (nB M i) (H i) ∧ Below w.heap.size w w') := by
    rintro Wx y1 _ rfl hW ⟨ys, hb, hL, hy, hal⟩
    have hb1 := hW.trans (hb.mono hW.size)
    have b2 := below1 y1 (.cells (madeCells #[.slice none 0 0] rs.length) TBs)
    exact bits_go hT hrows hf hM hH (hb1.trans (b2.mono hb1.size)) hb1.size (hL.below b2) hy hal (MeR.made y1 rs.length _) hp hwh hgt
  have HG2 : Hid (∀ Wx y1 gm ga, Wx.heap.size = ga → Below w.heap.size w Wx → AllP rs M Wx y1 → MeR M H Wx gm rs.length (fun _ => False) → w.heap.size ≤ gm → Calls Tryz.prog 71 #[.pointer (some ⟨rb, 0, none⟩), .slice (some ⟨ga, 0, none⟩) rs.length rs.length, .int .i64 (i : Int), .slice (some ⟨gm, 0, none⟩) rs.length rs.length] y1 fun e w' => ∃ g, e = .returned (.slice (some ⟨g, 0, none⟩) (nB M i) (nB M i)) ∧ BoR w' g (nB M i) (H i) ∧ Below w.heap.size w w') := by
    rintro Wx y1 gm _ rfl hW ⟨ys, hb, hL, hy, hal⟩ hMe hgm
    have hb1 := hW.trans (hb.mono hW.size)
    exact bits_go hT hrows hf hM hH hb1 hgm hL hy hal (hMe.below hb) hp hwh hgt
  have hz1 : (w.alloc (.cells (madeCells #[.slice none 0 0] rs.length) TBs)).drew.heap.size = w.heap.size + 1 := by simp
  have hz0 : w.drew.heap.size = w.heap.size := rfl
  have HBD : Hid (Below w.heap.size w w.drew) := (Below.refl _ w).drew
  have HBA : Hid (Below w.heap.size w (w.alloc (.cells (madeCells #[.slice none 0 0] rs.length) TBs)).drew) := (below1 w _).drew
  have HSH : SH w w := Below.refl _ _
  have HSHa : SH w (w.alloc (.cells (madeCells #[.slice none 0 0] rs.length) TBs)).drew := HBA.out
  have HSHd : SH w w.drew := HBD.out
  have HME : Hid (MeR M H (w.alloc (.cells (madeCells #[.slice none 0 0] rs.length) TBs)).drew w.heap.size rs.length (fun _ => False)) := (MeR.made w rs.length _).below (Below.refl _ _).drew
  clear hT hrows hf hM hH hs h1 hp hwh hgt
  go_enter Tryz.func41, Tryz.ntmps41
  go_upto_region 1 with (fail)
  go_region_held3 (fun Y => SH w Y) (with_reducible first | assumption | (refine SH.drew ?_; assumption) | (refine SH.below ?_ (by assumption); assumption) | (refine SH.alloc ?_ _; assumption) | (refine SH.drew ?_; refine SH.alloc ?_ _; assumption)) (first
    | (go_at_call 60; (with_reducible refine (HCA.out w.drew HBD.out).mono ?_); rintro e y1 ⟨rfl, hAP⟩; have HAP : Hid (AllP rs M w.drew y1) := hAP; have hb1 : Below w.drew.heap.size w.drew y1 := AllP.bel hAP; have HA1 : SH w y1 := SH.below HSHd hb1; clear hAP)
    | (go_at_call 60; (with_reducible refine (HCA.out (w.alloc (.cells (madeCells #[.slice none 0 0] rs.length) TBs)).drew HBA.out).mono ?_); rintro e y1 ⟨rfl, hAP⟩; have HAP2 : Hid (AllP rs M (w.alloc (.cells (madeCells #[.slice none 0 0] rs.length) TBs)).drew y1) := hAP; have hb1 := AllP.bel hAP; have HA1 : SH w y1 := SH.below HSHa hb1; clear hAP)
    | (go_at_call 71; (with_reducible refine (HG1.out w.drew y1 w.heap.size hz0 HBD.out HAP.out).mono ?_); rintro e w5 ⟨g, rfl, hB5, hb5⟩; have HB5 : Hid (BoR w5 g (nB M i) (H i)) := hB5; have HL5 : Hid (Below w.heap.size w w5) := hb5; have HA5 : SH w w5 := hb5; clear hB5)
    | (go_at_call 71; (with_reducible refine (HG2.out (w.alloc (.cells (madeCells #[.slice none 0 0] rs.length) TBs)).drew y1 w.heap.size (w.heap.size + 1) hz1 HBA.out HAP2.out HME.out (Nat.le_refl _)).mono ?_); rintro e w5 ⟨g, rfl, hB5, hb5⟩; have HB5 : Hid (BoR w5 g (nB M i) (H i)) := hB5; have HL5 : Hid (Below w.heap.size w w5) := hb5; have HA5 : SH w w5 := hb5; clear hB5))
  all_goals
    go_wp2
    go_ret
    exact ⟨g, _, rfl, Nat.le_refl _, HB5.out, HL5.out⟩
end
/-- The gaps of a type, by its id; none where there is an error. -/
def gapL (rs : List (Rw × Value)) (M : Int → Ex) (H : Int → Nat → Bool) (id : Int) : List Gp := if openE rs M id = 0 then (gapF (H id) (8 * (M id).size).toNat).l else []
def GpsP (L : List Gp) (W w' : World) (p : Option Addr) (c : Nat) : Prop := w'.ownsRow W.heap.size TG 2 (.slice p L.length c) L.length (gpCells L) ∧ Below W.heap.size W w'
section
variable {w : World} {M : Int → Ex} {H : Int → Nat → Bool} {rs rs2 : List (Rw × Value)}
theorem pGaps {B b mb : Nat} {v : Value} {ps : List (Value × Value)} (h : Tab B w b mb v rs ps) (h0 : 0 < rs.length) (hs : Small rs) (hf : FromOK rs) (hM : IsMeas (rowsOf rs) M) (hH : IsHad (rowsOf rs) M H) (id : Int) :
    Calls Tryz.prog 19 #[.pointer (some ⟨b, 0, none⟩), .int .i64 id] w fun e w' => ∃ p c, e = .returned (.tuple #[.slice p (gapL rs M H id).length c, .int .i64 (openE rs M id)]) ∧ GpsP (gapL rs M H id) w w' p c := by
  by_cases he : openE rs M id = 0
  · obtain ⟨i, p, rfl, hp, hwh, hgt⟩ := openE_at he
    unfold gapL
    rw [if_pos he, he]
    refine (gaps_ok h hs hf hM hH hp hwh hgt).mono ?_
    rintro e w' ⟨s, rfl, hb, ho⟩
    obtain ⟨q, c, rfl⟩ := slice_of_own ho
    exact ⟨q, c, rfl, ho, hb⟩
  · unfold gapL
    rw [if_neg he]
    refine (gaps_err h h0 hs hf hM id he).mono ?_
    rintro e w' ⟨rfl, hb⟩
    exact ⟨none, 0, rfl, ⟨rfl, Or.inl ⟨rfl, rfl⟩⟩, hb⟩
theorem rGaps {rb : Nat} {rv : Value} (h : RT w rb rv rs2) (hrows : rs2.map (·.1) = rs.map (·.1)) (hf : FromOK rs) (hM : IsMeas (rowsOf rs) M) (hH : IsHad (rowsOf rs) M H) (hs : ∀ p ∈ rs, Sane p.1) (h1 : 0 < rs.length) (id : Int) :
    Calls Tryz.prog 20 #[.pointer (some ⟨rb, 0, none⟩), .int .i64 id] w fun e w' => ∃ p c, e = .returned (.tuple #[.slice p (gapL rs M H id).length c, .int .i64 (openE rs M id)]) ∧ GpsP (gapL rs M H id) w w' p c := by
  by_cases he : openE rs M id = 0
  · obtain ⟨i, p, rfl, hp, hwh, hgt⟩ := openE_at he
    have hE := meas_ok hf hM i p hp hwh
    have e1 := hE.lo
    refine (rGaps_ok h hrows hf hM hs h1 i he (N := nB M i) (f := H i) (by unfold nB; omega) (fun W hW => (rBitsAll_c (h.below hW) hrows hf hM hH hs h1 hp hwh hgt).mono fun e w' ⟨g, c, a1, a2, a3, a4⟩ => ⟨g, c, a1, a2, a3, a4⟩)).mono ?_
    unfold gapL
    rw [if_pos he, he]
    rintro e w' ⟨s, rfl, hb, ho⟩
    obtain ⟨q, c, rfl⟩ := slice_of_own ho
    exact ⟨q, c, rfl, ho, hb⟩
  · unfold gapL
    rw [if_neg he]
    refine (rGaps_err h hrows hf hM hs h1 id he).mono ?_
    rintro e w' ⟨rfl, hb⟩
    exact ⟨none, 0, rfl, ⟨rfl, Or.inl ⟨rfl, rfl⟩⟩, hb⟩
theorem gapF_le (f : Nat → Bool) : ∀ n, (gapF f n).l.length ≤ n
  | 0 => Nat.le_refl _
  | n + 1 => by
    have := (gapF_len f (n + 1)).1
    exact this
end
end Go.Proofs.YtlcghlfmaohfeaaGreat
