/-
  MemoryMoves' own walk.
-/
import Derived.Test.YtigiahcfcglacaaLawHp
namespace Go.Proofs.Ytigiahcfcglacaa
open Go.RowKit Go.Maps
set_option linter.unusedVariables false
set_option maxRecDepth 100000
theorem box_set {Y : World} {g : Nat} {a0 a1 a2 v0 v1 v2 : Value} (h : Y.heap[g]? = some (.cells #[a0, a1, a2] TV (0, 0))) : (((Y.setCell ⟨g, 0, none⟩ v0).setCell ⟨g, 1, none⟩ v1).setCell ⟨g, 2, none⟩ v2).heap[g]? = some (.cells #[v0, v1, v2] TV (0, 0)) := by
  rw [heap_setCell (heap_setCell (heap_setCell h v0) v1) v2]; rfl
theorem SA.set3 {W0 Y : World} {g : Nat} {v0 v1 v2 : Value} (h : SA W0 Y) (hg : W0.heap.size ≤ g) : SA W0 (((Y.setCell ⟨g, 0, none⟩ v0).setCell ⟨g, 1, none⟩ v1).setCell ⟨g, 2, none⟩ v2) :=
  Below.setCell (Below.setCell (Below.setCell h hg _) hg _) hg _
section
variable {w : World}
theorem neV (x y : Vl) (Y : World) : (binOp .neq TV (.agg #[.int .i64 x.kind, .int .u32 x.v, .int .i64 x.block]) (.agg #[.int .i64 y.kind, .int .u32 y.v, .int .i64 y.block])).run Try.prog Y = .ok (.bool (!sameV x y)) Y := by
  have hT : Try.prog.underlying TV = some (.struct (Try.prog.fieldsOf TV)) := by kernel_rfl
  have hp : Try.prog.stoodInHeld TV = false := by kernel_rfl
  have h1 := Try.underlying23
  have h2 := Try.underlying24
  have h3 := Try.underlying3
  obtain ⟨xk, xv, xb⟩ := x
  obtain ⟨yk, yv, yb⟩ := y
  rw [run_neq_struct, run_equalIn_agg _ 9999 _ _ _ hT hp]
  unfold sameV
  rcases hk : (xk == yk) with _ | _ <;> rcases hv : (xv == yv) with _ | _ <;> rcases hb : (xb == yb) with _ | _
  all_goals simp only [Program.fieldsOf, Try.underlying26]
  all_goals go_simp
/-- What the calls give. -/
theorem moves_cases (s : St) (p : Vl) (hp : VlOK p) (n : Int) (n0 : 0 ≤ n) (n1 : n < 4294967296) (hok : SOK s) :
    ∃ q st, PBin s 1 p ⟨1, n, 0⟩ q st ∧ (¬ st = 0 ∨ ¬ p.kind = 2 ∨ (st = 0 ∧ p.kind = 2 ∧ VlOK q ∧ trA s q = (true, 0) ∧ ∃ x2 x3 x4 x5 x6, PBin s 2 q ⟨1, n, 0⟩ x2 0 ∧ PBin s 2 q p x3 0 ∧ PBin s 14 p q x4 0 ∧ PBin s 15 p q x5 0 ∧ PBin s 17 p q x6 0 ∧ sameV x2 p = true ∧ sameV x3 ⟨1, n, 0⟩ = true ∧ sameV x4 ⟨1, 1, 0⟩ = decide (n = 0) ∧ sameV x4 x5 = false ∧ sameV x6 ⟨1, 1, 0⟩ = decide (0 < wrap32 n))) := by
  have hn : VlOK ⟨1, n, 0⟩ := ⟨n0, n1, by show (-9223372036854775808 : Int) ≤ 0; decide, by show (0 : Int) < 9223372036854775808; decide⟩
  by_cases hk : p.kind = 2
  · cases gp : goodS s p with
    | none =>
      have hu : usS s p = false := by unfold usS; rw [gp]; simp; omega
      exact ⟨vlZ, 3, pbin_no 1 hp hn (Or.inr (Or.inr (Or.inl hu))), Or.inl (by decide)⟩
    | some k =>
      have hb := pbin_pn 1 hp hn gp rfl (by decide) (by decide)
      obtain ⟨_, hpk, i, hpi, hki⟩ := goodS_some gp
      have hsz := (hok.sz i k hki).2.1
      have hw := wrap32_bd n0 n1
      have hp0 := hp.v0
      unfold pnA at hb
      rw [if_pos rfl] at hb
      unfold mvA at hb
      rw [gp] at hb
      simp only [] at hb
      by_cases hm : p.v + wrap32 n < 0 ∨ (k.size : Int) < p.v + wrap32 n
      · rw [if_pos hm] at hb
        exact ⟨_, _, hb, Or.inl (by decide)⟩
      · rw [if_neg hm] at hb
        have hq : VlOK ⟨2, p.v + wrap32 n, p.block⟩ := ⟨by show 0 ≤ p.v + wrap32 n; omega, by show p.v + wrap32 n < 4294967296; omega, hp.b0, hp.b1⟩
        have gq : goodS s ⟨2, p.v + wrap32 n, p.block⟩ = some k := by
          have hl : look s p.block = some k := by rw [hpi]; exact look_at hki
          unfold goodS goodG
          rw [if_pos rfl]
          show (look s p.block).filter _ = _
          rw [hl]
          simp [Option.filter]; omega
        have b2 := pbin_pn 2 hq hn gq rfl (by decide) (by decide)
        have b3 := pbin_pp 2 hq hp gq gp (by decide) (by decide)
        have b4 := pbin_pp 14 hp hq gp gq (by decide) (by decide)
        have b5 := pbin_pp 15 hp hq gp gq (by decide) (by decide)
        have b6 := pbin_pp 17 hp hq gp gq (by decide) (by decide)
        have v2 : pnA s 2 ⟨2, p.v + wrap32 n, p.block⟩ n = (⟨2, p.v, p.block⟩, 0) := by
          unfold pnA
          rw [if_neg (by decide), if_pos rfl]
          unfold mvA
          rw [gq]
          simp only []
          rw [if_neg (by omega)]
          rw [show p.v + wrap32 n + -wrap32 n = p.v by omega]
        have v3 : ppA s 2 ⟨2, p.v + wrap32 n, p.block⟩ p = (⟨1, n, 0⟩, 0) := by
          unfold ppA
          rw [if_pos rfl, if_pos rfl]
          have : (p.v + wrap32 n - p.v) % 4294967296 = n := by unfold wrap32; omega
          simp only [this]
        have v4 : ppA s 14 p ⟨2, p.v + wrap32 n, p.block⟩ = (⟨1, if n = 0 then 1 else 0, 0⟩, 0) := by
          unfold ppA
          rw [if_pos rfl, if_neg (by decide), if_pos rfl]
          have : (p.v = p.v + wrap32 n) ↔ n = 0 := by unfold wrap32; omega
          simp only [this]
        have v5 : ppA s 15 p ⟨2, p.v + wrap32 n, p.block⟩ = (⟨1, if n = 0 then 0 else 1, 0⟩, 0) := by
          unfold ppA
          rw [if_pos rfl, if_neg (by decide), if_neg (by decide), if_pos rfl]
          have : (p.v = p.v + wrap32 n) ↔ n = 0 := by unfold wrap32; omega
          simp only [this]
        have v6 : ppA s 17 p ⟨2, p.v + wrap32 n, p.block⟩ = (⟨1, if 0 < wrap32 n then 1 else 0, 0⟩, 0) := by
          unfold ppA
          rw [if_pos rfl, if_neg (by decide), if_neg (by decide), if_neg (by decide), if_pos (Or.inr rfl)]
          have : (p.v < p.v + wrap32 n) ↔ 0 < wrap32 n := by omega
          simp only [this]
        rw [show (⟨1, n, 0⟩ : Vl).v = n from rfl, v2] at b2
        rw [v3] at b3
        rw [v4] at b4
        rw [v5] at b5
        rw [v6] at b6
        refine ⟨_, _, hb, Or.inr (Or.inr ⟨rfl, hk, hq, ?_, _, _, _, _, _, b2, b3, b4, b5, b6, ?_, ?_, ?_, ?_, ?_⟩)⟩
        · unfold trA
          rw [if_neg (by show ¬ (2 : Int) = 1; decide), gq]; rfl
        · rw [sameV_iff]
          obtain ⟨a, b, c⟩ := p
          simp only at hk ⊢
          rw [hk]
        · exact sameV_self _
        · by_cases h : n = 0
          · subst h; rfl
          · rw [if_neg h]; simp [h]; rfl
        · by_cases h : n = 0
          · subst h; rfl
          · rw [if_neg h, if_neg h]; rfl
        · by_cases h : 0 < wrap32 n
          · rw [if_pos h]; simp [h]; rfl
          · rw [if_neg h]; simp [h]; rfl
  · obtain ⟨q, st, hb, _⟩ := bin_two s 1 p ⟨1, n, 0⟩ hp hn
    exact ⟨q, st, hb, Or.inr (Or.inl hk)⟩
set_option maxHeartbeats 8000000 in
theorem moves_c {v : Value} {l : List Ac} (hin : ActIn w v l) (hok : ∀ a ∈ l, AcOK a) (hlen : l.length * 80 ≤ 140737488355328) (p : Vl) (hp : VlOK p) (n : Int) (n0 : 0 ≤ n) (n1 : n < 4294967296) :
    Calls Try.prog 7 #[v, .agg #[.int .i64 p.kind, .int .u32 p.v, .int .i64 p.block], .int .u32 n] w fun e w' => e = .returned (.bool true) ∧ Below w.heap.size w w' := by
  have hB := vbox_below w p
  have hsz : (vbox w p).heap.size = w.heap.size + 1 := by simp [vbox]
  have cM := made_c (hin.below hB) hok hlen
  have HB0 : Hid (Below w.heap.size w (vbox w p)) := hB
  have HSZ : Hid ((vbox w p).heap.size = w.heap.size + 1) := hsz
  have HP : Hid (VlOK p) := hp
  clear hin hok hlen hB hsz hp
  unfold vbox at cM
  go_enter Try.func7, Try.ntmps7
  go_upto_region 2 with (go_at_call 9; refine cM.mono ?_; rintro e w2 ⟨b, rb, s, rfl, hd, hb2⟩; have HD : Hid (D (Old (vbox w p)) b rb s s w2) := hd; have HB2 : Hid (Below (vbox w p).heap.size (vbox w p) w2) := hb2; clear hd hb2 cM)
  have HW2 : Hid (Below w.heap.size w w2) := HB0.out.trans (HB2.out.mono HB0.out.size)
  have PX : Hid (∀ Y, Below w2.heap.size w2 Y → Y.cell? ⟨w.heap.size, 0, none⟩ = some (.int .i64 p.kind) ∧ Y.cell? ⟨w.heap.size, 1, none⟩ = some (.int .u32 p.v) ∧ Y.cell? ⟨w.heap.size, 2, none⟩ = some (.int .i64 p.block)) := fun Y hY => vbox_cells w p (HB2.out.trans (hY.mono HB2.out.size))
  obtain ⟨r1, st1, h1, hc⟩ := moves_cases s p HP.out n n0 n1 HD.out.ok1
  have CB1 : Hid (CBt b w2 1 p ⟨1, n, 0⟩ r1 st1) := CBt.of HD.out h1
  have cH := heads_c
  have cN := num_c
  have p0 : ∀ Y, SA w2 Y → Y.cell? ⟨w.heap.size, 0, none⟩ = some (.int .i64 p.kind) := fun Y h => (PX.out Y h).1
  have p1 : ∀ Y, SA w2 Y → Y.cell? ⟨w.heap.size, 1, none⟩ = some (.int .u32 p.v) := fun Y h => (PX.out Y h).2.1
  have p2 : ∀ Y, SA w2 Y → Y.cell? ⟨w.heap.size, 2, none⟩ = some (.int .i64 p.block) := fun Y h => (PX.out Y h).2.2
  have HBW1 : Hid (∀ Y, SA w2 Y → Below w2.heap.size w2 Y) := fun Y h => h
  clear h1
  have HS10 : Hid (SA w2 w2.drew) := (SA.refl w2).drew
  have s1a : SA w2 (w2.alloc (.cells #[.int .i64 0, .int .u32 0, .int .i64 0] TV)).drew := SA.below (SA.refl w2) ((below_box _ _).trans ⟨rfl, rfl, rfl, Nat.le_refl _, fun _ _ => rfl⟩)
  go_cut [8, 9] from 25 to 32 (fun x8 x9 wx => ∃ g, x8 = .pointer (some ⟨g, 0, none⟩) ∧ x9 = .int .i64 st1 ∧ Hid (wx.heap[g]? = some (.cells #[.int .i64 r1.kind, .int .u32 r1.v, .int .i64 r1.block] TV (0, 0))) ∧ Hid (w2.heap.size ≤ g) ∧ Hid (SA w2 wx))
  case first =>
    go_region_held3 (SA w2) (with_reducible first | assumption | exact HS10.out)
      (first
        | (go_at_call 12; (with_reducible refine (cN n (w2.alloc (.cells #[.int .i64 0, .int .u32 0, .int .i64 0] TV)).drew).mono ?_); rintro e W0 ⟨rfl, hb0⟩; have s0 : SA w2 W0 := SA.below s1a hb0; have HZ : Hid (W0.heap[w2.heap.size]? = some (.cells #[.int .i64 0, .int .u32 0, .int .i64 0] TV (0, 0))) := (hb0.block _ (by simp)).trans (heap_r0 w2 _); have c1 := CB1.out W0 (HBW1.out _ s0); clear hb0)
        | (go_at_call 12; (with_reducible refine (cN n w2.drew).mono ?_); rintro e W0 ⟨rfl, hb0⟩; have s0 : SA w2 W0 := SA.below HS10.out hb0; have s0a : SA w2 (W0.alloc (.cells #[.int .i64 0, .int .u32 0, .int .i64 0] TV)) := SA.below s0 (below_box _ _); have c1 := CB1.out W0 (HBW1.out _ s0); have c1a := CB1.out (W0.alloc (.cells #[.int .i64 0, .int .u32 0, .int .i64 0] TV)) (HBW1.out _ s0a); clear hb0)
        | (go_at_call 10; have hx := HZ.out; (with_reducible refine c1.mono ?_); rintro e W1 ⟨rfl, hb1⟩; have s1 : SA w2 W1 := SA.below s0 hb1; have hz := (hb1.block _ (lt_of_heap hx)).trans hx; obtain ⟨tf, t0, t1, t2⟩ := zero_facts hz; have hlz := lt_of_heap hz; have s2 : SA w2 (((W1.setCell ⟨w2.heap.size, 0, none⟩ (.int .i64 r1.kind)).setCell ⟨w2.heap.size, 1, none⟩ (.int .u32 r1.v)).setCell ⟨w2.heap.size, 2, none⟩ (.int .i64 r1.block)) := SA.set3 s1 (Nat.le_refl _); have FA : Hid ((((W1.setCell ⟨w2.heap.size, 0, none⟩ (.int .i64 r1.kind)).setCell ⟨w2.heap.size, 1, none⟩ (.int .u32 r1.v)).setCell ⟨w2.heap.size, 2, none⟩ (.int .i64 r1.block)).heap[w2.heap.size]? = some (.cells #[.int .i64 r1.kind, .int .u32 r1.v, .int .i64 r1.block] TV (0, 0))) := box_set hz; clear hb1 hx hz)
        | (go_at_call 10; (with_reducible refine c1a.mono ?_); rintro e W1 ⟨rfl, hb1⟩; have s1 : SA w2 W1 := SA.below s0a hb1; have hz : W1.heap[W0.heap.size]? = some (.cells #[.int .i64 0, .int .u32 0, .int .i64 0] TV (0, 0)) := (hb1.block _ (by simp)).trans (heap_r0 W0 _); obtain ⟨tf, t0, t1, t2⟩ := zero_facts hz; have hlz := lt_of_heap hz; have s2 : SA w2 (((W1.setCell ⟨W0.heap.size, 0, none⟩ (.int .i64 r1.kind)).setCell ⟨W0.heap.size, 1, none⟩ (.int .u32 r1.v)).setCell ⟨W0.heap.size, 2, none⟩ (.int .i64 r1.block)) := SA.set3 s1 (s0.b.size); have FB : Hid ((((W1.setCell ⟨W0.heap.size, 0, none⟩ (.int .i64 r1.kind)).setCell ⟨W0.heap.size, 1, none⟩ (.int .u32 r1.v)).setCell ⟨W0.heap.size, 2, none⟩ (.int .i64 r1.block)).heap[W0.heap.size]? = some (.cells #[.int .i64 r1.kind, .int .u32 r1.v, .int .i64 r1.block] TV (0, 0))) := box_set hz; clear hb1 hz)
        | (go_at_call 10; (with_reducible refine c1.mono ?_); rintro e W1 ⟨rfl, hb1⟩; have s1 : SA w2 W1 := SA.below s0 hb1; have s2 : SA w2 (W1.alloc (.cells #[.int .i64 0, .int .u32 0, .int .i64 0] TV)) := SA.below s1 (below_box _ _); have s3 : SA w2 (W1.alloc (.cells #[.int .i64 r1.kind, .int .u32 r1.v, .int .i64 r1.block] TV)) := SA.below s1 (below_box _ _); clear hb1))
    all_goals (go_wp2_with fail; go_meet)
    all_goals first | exact ⟨_, rfl, rfl, FA.out, Nat.le_refl _, s2⟩ | exact ⟨_, rfl, rfl, FB.out, s0.b.size, s2⟩ | exact ⟨_, rfl, rfl, heap_r0 W1 _, s1.b.size, s3⟩
  case rest =>
  obtain ⟨g1, rfl, rfl, HG1, HGL1, HSW1⟩ := hcut
  rename World => V1
  have HWV1 : Hid (Below w.heap.size w V1) := HW2.out.trans (HSW1.out.b.mono HW2.out.size)
  obtain ⟨x00, x01, x02⟩ := PX.out V1 HSW1.out.b
  by_cases hst : st1 = 0
  · have k0 : (st1 != 0) = false := by simpa using hst
    by_cases hk : p.kind = 2
    · have k1 : (p.kind != 2) = false := by simpa using hk
      obtain ⟨hz1, hz2, hq, htr, r2, r3, r4, r5, r6, b2, b3, b4, b5, b6, E2, E3, E4, E5, E6⟩ : st1 = 0 ∧ p.kind = 2 ∧ VlOK r1 ∧ trA s r1 = (true, 0) ∧ ∃ x2 x3 x4 x5 x6, PBin s 2 r1 ⟨1, n, 0⟩ x2 0 ∧ PBin s 2 r1 p x3 0 ∧ PBin s 14 p r1 x4 0 ∧ PBin s 15 p r1 x5 0 ∧ PBin s 17 p r1 x6 0 ∧ sameV x2 p = true ∧ sameV x3 ⟨1, n, 0⟩ = true ∧ sameV x4 ⟨1, 1, 0⟩ = decide (n = 0) ∧ sameV x4 x5 = false ∧ sameV x6 ⟨1, 1, 0⟩ = decide (0 < wrap32 n) := by
        rcases hc with c | c | c
        · exact absurd hst c
        · exact absurd hk c
        · exact c
      have CB2 : Hid (CBt b w2 2 r1 ⟨1, n, 0⟩ r2 0) := CBt.of HD.out b2
      have CB3 : Hid (CBt b w2 2 r1 p r3 0) := CBt.of HD.out b3
      have CB4 : Hid (CBt b w2 14 p r1 r4 0) := CBt.of HD.out b4
      have CB5 : Hid (CBt b w2 15 p r1 r5 0) := CBt.of HD.out b5
      have CB6 : Hid (CBt b w2 17 p r1 r6 0) := CBt.of HD.out b6
      have CT : Hid (∀ Y, Below w2.heap.size w2 Y → Calls Try.prog 20 #[.pointer (some ⟨b, 0, none⟩), .agg #[.int .i64 r1.kind, .int .u32 r1.v, .int .i64 r1.block]] Y fun e w' => e = .returned (.tuple #[.bool true, .int .i64 0]) ∧ Below Y.heap.size Y w') := fun Y hY => by
        have := pTruth (HD.out.below hY) r1 hq
        rw [htr] at this
        exact this
      have G1 : Hid (∀ Y, Below V1.heap.size V1 Y → Y.cell? ⟨g1, 0, none⟩ = some (.int .i64 r1.kind) ∧ Y.cell? ⟨g1, 1, none⟩ = some (.int .u32 r1.v) ∧ Y.cell? ⟨g1, 2, none⟩ = some (.int .i64 r1.block)) := fun Y hY => box3_cells ((hY.block g1 (lt_of_heap HG1.out)).trans HG1.out)
      have q0 : ∀ Y, SA V1 Y → Y.cell? ⟨g1, 0, none⟩ = some (.int .i64 r1.kind) := fun Y h => (G1.out Y h).1
      have q1 : ∀ Y, SA V1 Y → Y.cell? ⟨g1, 1, none⟩ = some (.int .u32 r1.v) := fun Y h => (G1.out Y h).2.1
      have q2 : ∀ Y, SA V1 Y → Y.cell? ⟨g1, 2, none⟩ = some (.int .i64 r1.block) := fun Y h => (G1.out Y h).2.2
      have HBW2 : Hid (∀ Y, SA V1 Y → Below w2.heap.size w2 Y) := fun Y h => HSW1.out.b.trans (h.b.mono HSW1.out.b.size)
      have e2 : ∀ Y : World, (binOp .eql TV (.agg #[.int .i64 r2.kind, .int .u32 r2.v, .int .i64 r2.block]) (.agg #[.int .i64 p.kind, .int .u32 p.v, .int .i64 p.block])).run Try.prog Y = .ok (.bool true) Y := fun Y => by rw [eqV, E2]
      have e3 : ∀ Y : World, (binOp .eql TV (.agg #[.int .i64 r3.kind, .int .u32 r3.v, .int .i64 r3.block]) (.agg #[.int .i64 1, .int .u32 n, .int .i64 0])).run Try.prog Y = .ok (.bool true) Y := fun Y => by rw [← E3]; exact eqV r3 ⟨1, n, 0⟩ Y
      have e5 : ∀ Y : World, (binOp .neq TV (.agg #[.int .i64 r4.kind, .int .u32 r4.v, .int .i64 r4.block]) (.agg #[.int .i64 r5.kind, .int .u32 r5.v, .int .i64 r5.block])).run Try.prog Y = .ok (.bool true) Y := fun Y => by rw [neV, E5]; rfl
      have hx : ∃ x4 x6 : Bool, (n == 0) = x4 ∧ decide (0 < wrap32 n) = x6 ∧ (∀ Y : World, (binOp .eql TV (.agg #[.int .i64 r4.kind, .int .u32 r4.v, .int .i64 r4.block]) (.agg #[.int .i64 1, .int .u32 1, .int .i64 0])).run Try.prog Y = .ok (.bool x4) Y) ∧ (∀ Y : World, (binOp .eql TV (.agg #[.int .i64 r6.kind, .int .u32 r6.v, .int .i64 r6.block]) (.agg #[.int .i64 1, .int .u32 1, .int .i64 0])).run Try.prog Y = .ok (.bool x6) Y) := by
        refine ⟨decide (n = 0), decide (0 < wrap32 n), ?_, rfl, fun Y => ?_, fun Y => ?_⟩
        · by_cases h : n = 0 <;> simp [h]
        · rw [← E4]; exact eqV r4 ⟨1, 1, 0⟩ Y
        · rw [← E6]; exact eqV r6 ⟨1, 1, 0⟩ Y
      obtain ⟨x4, x6, hx4, hx6, e4, e6⟩ := hx
      have eb := eqb
      have cI := fun Y => W.refint_any n Y n0 n1
      clear hc hst hk hq htr b2 b3 b4 b5 b6 E2 E3 E4 E5 E6 hz1 hz2
      go_upto_region 5 with (fail)
      clear x00 x01 x02 p0 p1 p2 k0 k1
      have HS20 : Hid (SA V1 V1.drew) := (SA.refl V1).drew
      have s2a : SA V1 (V1.alloc (.cells #[.int .i64 0, .int .u32 0, .int .i64 0] TV)).drew := SA.below (SA.refl V1) ((below_box _ _).trans ⟨rfl, rfl, rfl, Nat.le_refl _, fun _ _ => rfl⟩)
      go_cut [10, 11] from 41 to 48 (fun x8 x9 wx => ∃ g, x8 = .pointer (some ⟨g, 0, none⟩) ∧ x9 = .int .i64 0 ∧ Hid (wx.heap[g]? = some (.cells #[.int .i64 r2.kind, .int .u32 r2.v, .int .i64 r2.block] TV (0, 0))) ∧ Hid (V1.heap.size ≤ g) ∧ Hid (SA V1 wx))
      case first =>
        go_region_held3 (SA V1) (with_reducible first | assumption | exact HS20.out)
          (first
            | (go_at_call 12; (with_reducible refine (cN n (V1.alloc (.cells #[.int .i64 0, .int .u32 0, .int .i64 0] TV)).drew).mono ?_); rintro e W0 ⟨rfl, hb0⟩; have s0 : SA V1 W0 := SA.below s2a hb0; have HZ : Hid (W0.heap[V1.heap.size]? = some (.cells #[.int .i64 0, .int .u32 0, .int .i64 0] TV (0, 0))) := (hb0.block _ (by simp)).trans (heap_r0 V1 _); have c1 := CB2.out W0 (HBW2.out _ s0); clear hb0)
            | (go_at_call 12; (with_reducible refine (cN n V1.drew).mono ?_); rintro e W0 ⟨rfl, hb0⟩; have s0 : SA V1 W0 := SA.below HS20.out hb0; have s0a : SA V1 (W0.alloc (.cells #[.int .i64 0, .int .u32 0, .int .i64 0] TV)) := SA.below s0 (below_box _ _); have c1 := CB2.out W0 (HBW2.out _ s0); have c1a := CB2.out (W0.alloc (.cells #[.int .i64 0, .int .u32 0, .int .i64 0] TV)) (HBW2.out _ s0a); clear hb0)
            | (go_at_call 10; have hx := HZ.out; (with_reducible refine c1.mono ?_); rintro e W1 ⟨rfl, hb1⟩; have s1 : SA V1 W1 := SA.below s0 hb1; have hz := (hb1.block _ (lt_of_heap hx)).trans hx; obtain ⟨tf, t0, t1, t2⟩ := zero_facts hz; have hlz := lt_of_heap hz; have s2 : SA V1 (((W1.setCell ⟨V1.heap.size, 0, none⟩ (.int .i64 r2.kind)).setCell ⟨V1.heap.size, 1, none⟩ (.int .u32 r2.v)).setCell ⟨V1.heap.size, 2, none⟩ (.int .i64 r2.block)) := SA.set3 s1 (Nat.le_refl _); have FA : Hid ((((W1.setCell ⟨V1.heap.size, 0, none⟩ (.int .i64 r2.kind)).setCell ⟨V1.heap.size, 1, none⟩ (.int .u32 r2.v)).setCell ⟨V1.heap.size, 2, none⟩ (.int .i64 r2.block)).heap[V1.heap.size]? = some (.cells #[.int .i64 r2.kind, .int .u32 r2.v, .int .i64 r2.block] TV (0, 0))) := box_set hz; clear hb1 hx hz)
            | (go_at_call 10; (with_reducible refine c1a.mono ?_); rintro e W1 ⟨rfl, hb1⟩; have s1 : SA V1 W1 := SA.below s0a hb1; have hz : W1.heap[W0.heap.size]? = some (.cells #[.int .i64 0, .int .u32 0, .int .i64 0] TV (0, 0)) := (hb1.block _ (by simp)).trans (heap_r0 W0 _); obtain ⟨tf, t0, t1, t2⟩ := zero_facts hz; have hlz := lt_of_heap hz; have s2 : SA V1 (((W1.setCell ⟨W0.heap.size, 0, none⟩ (.int .i64 r2.kind)).setCell ⟨W0.heap.size, 1, none⟩ (.int .u32 r2.v)).setCell ⟨W0.heap.size, 2, none⟩ (.int .i64 r2.block)) := SA.set3 s1 (s0.b.size); have FB : Hid ((((W1.setCell ⟨W0.heap.size, 0, none⟩ (.int .i64 r2.kind)).setCell ⟨W0.heap.size, 1, none⟩ (.int .u32 r2.v)).setCell ⟨W0.heap.size, 2, none⟩ (.int .i64 r2.block)).heap[W0.heap.size]? = some (.cells #[.int .i64 r2.kind, .int .u32 r2.v, .int .i64 r2.block] TV (0, 0))) := box_set hz; clear hb1 hz)
            | (go_at_call 10; (with_reducible refine c1.mono ?_); rintro e W1 ⟨rfl, hb1⟩; have s1 : SA V1 W1 := SA.below s0 hb1; have s2 : SA V1 (W1.alloc (.cells #[.int .i64 0, .int .u32 0, .int .i64 0] TV)) := SA.below s1 (below_box _ _); have s3 : SA V1 (W1.alloc (.cells #[.int .i64 r2.kind, .int .u32 r2.v, .int .i64 r2.block] TV)) := SA.below s1 (below_box _ _); clear hb1))
        all_goals (go_wp2_with fail; go_meet)
        all_goals first | exact ⟨_, rfl, rfl, FA.out, Nat.le_refl _, s2⟩ | exact ⟨_, rfl, rfl, FB.out, s0.b.size, s2⟩ | exact ⟨_, rfl, rfl, heap_r0 W1 _, s1.b.size, s3⟩
      case rest =>
      obtain ⟨g2, rfl, rfl, HG2, HGL2, HSW2⟩ := hcut
      rename World => V2
      have HWV2 : Hid (Below w2.heap.size w2 V2) := HBW2.out V2 HSW2.out
      have QP : Hid (∀ Y, Below V2.heap.size V2 Y → (Y.cell? ⟨w.heap.size, 0, none⟩ = some (.int .i64 p.kind) ∧ Y.cell? ⟨w.heap.size, 1, none⟩ = some (.int .u32 p.v) ∧ Y.cell? ⟨w.heap.size, 2, none⟩ = some (.int .i64 p.block)) ∧ (Y.cell? ⟨g1, 0, none⟩ = some (.int .i64 r1.kind) ∧ Y.cell? ⟨g1, 1, none⟩ = some (.int .u32 r1.v) ∧ Y.cell? ⟨g1, 2, none⟩ = some (.int .i64 r1.block)) ∧ (Y.cell? ⟨g2, 0, none⟩ = some (.int .i64 r2.kind) ∧ Y.cell? ⟨g2, 1, none⟩ = some (.int .u32 r2.v) ∧ Y.cell? ⟨g2, 2, none⟩ = some (.int .i64 r2.block))) := fun Y hY => ⟨PX.out Y (HWV2.out.trans (hY.mono HWV2.out.size)), G1.out Y (HSW2.out.b.trans (hY.mono HSW2.out.b.size)), box3_cells ((hY.block g2 (lt_of_heap HG2.out)).trans HG2.out)⟩
      obtain ⟨⟨x20, x21, x22⟩, ⟨y20, y21, y22⟩, hrest⟩ := QP.out V2 (Below.refl _ _)
      have c3 := CB3.out V2 HWV2.out
      clear q0 q1 q2 hrest
      go_upto_region 12 with (first | (go_at_call 10; refine c3.mono ?_; rintro e W3 ⟨rfl, hb3⟩; have HB3 : Hid (Below V2.heap.size V2 (vbox W3 r3)) := hb3.trans ((vbox_below W3 r3).mono hb3.size); have HX3 : Hid (∀ Y, Below (vbox W3 r3).heap.size (vbox W3 r3) Y → Y.cell? ⟨W3.heap.size, 0, none⟩ = some (.int .i64 r3.kind) ∧ Y.cell? ⟨W3.heap.size, 1, none⟩ = some (.int .u32 r3.v) ∧ Y.cell? ⟨W3.heap.size, 2, none⟩ = some (.int .i64 r3.block)) := fun Y hY => vbox_cells W3 r3 hY; obtain ⟨⟨x30, x31, x32⟩, ⟨y30, y31, y32⟩, _⟩ := QP.out _ HB3.out; have c4 := CB4.out _ (HWV2.out.trans (HB3.out.mono HWV2.out.size)); unfold vbox at x30 x31 x32 y30 y31 y32 c4; clear hb3 c3 x20 x21 x22 y20 y21 y22) | (go_at_call 10; refine c4.mono ?_; rintro e W4 ⟨rfl, hb4⟩; have HB4 : Hid (Below V2.heap.size V2 (vbox W4 r4)) := (HB3.out.trans (hb4.mono HB3.out.size)).trans ((vbox_below W4 r4).mono (Nat.le_trans HB3.out.size hb4.size)); have HS4 : Hid (Below (vbox W3 r3).heap.size (vbox W3 r3) (vbox W4 r4)) := hb4.trans ((vbox_below W4 r4).mono hb4.size); have HX4 : Hid (∀ Y, Below (vbox W4 r4).heap.size (vbox W4 r4) Y → Y.cell? ⟨W4.heap.size, 0, none⟩ = some (.int .i64 r4.kind) ∧ Y.cell? ⟨W4.heap.size, 1, none⟩ = some (.int .u32 r4.v) ∧ Y.cell? ⟨W4.heap.size, 2, none⟩ = some (.int .i64 r4.block)) := fun Y hY => vbox_cells W4 r4 hY; obtain ⟨⟨x40, x41, x42⟩, ⟨y40, y41, y42⟩, _⟩ := QP.out _ HB4.out; have c5 := CB5.out _ (HWV2.out.trans (HB4.out.mono HWV2.out.size)); unfold vbox at x40 x41 x42 y40 y41 y42 c5; clear hb4 c4 x30 x31 x32 y30 y31 y32) | (go_at_call 10; refine c5.mono ?_; rintro e W5 ⟨rfl, hb5⟩; have HB5 : Hid (Below V2.heap.size V2 (vbox W5 r5)) := (HB4.out.trans (hb5.mono HB4.out.size)).trans ((vbox_below W5 r5).mono (Nat.le_trans HB4.out.size hb5.size)); have HS5 : Hid (Below (vbox W4 r4).heap.size (vbox W4 r4) (vbox W5 r5)) := hb5.trans ((vbox_below W5 r5).mono hb5.size); have HX5 : Hid (∀ Y, Below (vbox W5 r5).heap.size (vbox W5 r5) Y → Y.cell? ⟨W5.heap.size, 0, none⟩ = some (.int .i64 r5.kind) ∧ Y.cell? ⟨W5.heap.size, 1, none⟩ = some (.int .u32 r5.v) ∧ Y.cell? ⟨W5.heap.size, 2, none⟩ = some (.int .i64 r5.block)) := fun Y hY => vbox_cells W5 r5 hY; obtain ⟨⟨x50, x51, x52⟩, ⟨y50, y51, y52⟩, _⟩ := QP.out _ HB5.out; have c6 := CB6.out _ (HWV2.out.trans (HB5.out.mono HWV2.out.size)); unfold vbox at x50 x51 x52 y50 y51 y52 c6; clear hb5 c5 x40 x41 x42 y40 y41 y42) | (go_at_call 10; refine c6.mono ?_; rintro e W6 ⟨rfl, hb6⟩; have HB6 : Hid (Below V2.heap.size V2 (vbox W6 r6)) := (HB5.out.trans (hb6.mono HB5.out.size)).trans ((vbox_below W6 r6).mono (Nat.le_trans HB5.out.size hb6.size)); have HS6 : Hid (Below (vbox W5 r5).heap.size (vbox W5 r5) (vbox W6 r6)) := hb6.trans ((vbox_below W6 r6).mono hb6.size); have HX6 : Hid (∀ Y, Below (vbox W6 r6).heap.size (vbox W6 r6) Y → Y.cell? ⟨W6.heap.size, 0, none⟩ = some (.int .i64 r6.kind) ∧ Y.cell? ⟨W6.heap.size, 1, none⟩ = some (.int .u32 r6.v) ∧ Y.cell? ⟨W6.heap.size, 2, none⟩ = some (.int .i64 r6.block)) := fun Y hY => vbox_cells W6 r6 hY; obtain ⟨⟨x60, x61, x62⟩, ⟨y60, y61, y62⟩, _⟩ := QP.out _ HB6.out; have cT := CT.out _ (HWV2.out.trans (HB6.out.mono HWV2.out.size)); unfold vbox at x60 x61 x62 y60 y61 y62 cT; clear hb6 c6 x50 x51 x52 y50 y51 y52) | (go_at_call 20; refine cT.mono ?_; rintro e W7 ⟨rfl, hb7⟩; have HS7 : Hid (Below (vbox W6 r6).heap.size (vbox W6 r6) W7) := hb7; clear hb7 cT) | (go_at_call 21; refine (cI _).mono ?_; rintro e w_ ⟨rfl, hw_⟩; rw [hw_]; clear hw_ w_))
      refine (?_ : Code.wp _ _ _ _ W7)
      have HF7 : Hid (Below V2.heap.size V2 W7) := HB6.out.trans (HS7.out.mono HB6.out.size)
      have F20 : ∀ Z : SAT W7, (Z.val.cell? ⟨w.heap.size, 0, none⟩ = some (.int .i64 p.kind) ∧ Z.val.cell? ⟨w.heap.size, 1, none⟩ = some (.int .u32 p.v) ∧ Z.val.cell? ⟨w.heap.size, 2, none⟩ = some (.int .i64 p.block)) ∧ (Z.val.cell? ⟨g1, 0, none⟩ = some (.int .i64 r1.kind) ∧ Z.val.cell? ⟨g1, 1, none⟩ = some (.int .u32 r1.v) ∧ Z.val.cell? ⟨g1, 2, none⟩ = some (.int .i64 r1.block)) ∧ (Z.val.cell? ⟨g2, 0, none⟩ = some (.int .i64 r2.kind) ∧ Z.val.cell? ⟨g2, 1, none⟩ = some (.int .u32 r2.v) ∧ Z.val.cell? ⟨g2, 2, none⟩ = some (.int .i64 r2.block)) := fun Z => QP.out Z.val (HF7.out.trans (Z.ok.b.mono HF7.out.size))
      have fp0 : ∀ Z : SAT W7, Z.val.cell? ⟨w.heap.size, 0, none⟩ = some (.int .i64 p.kind) := fun Z => (F20 Z).1.1
      have fp1 : ∀ Z : SAT W7, Z.val.cell? ⟨w.heap.size, 1, none⟩ = some (.int .u32 p.v) := fun Z => (F20 Z).1.2.1
      have fp2 : ∀ Z : SAT W7, Z.val.cell? ⟨w.heap.size, 2, none⟩ = some (.int .i64 p.block) := fun Z => (F20 Z).1.2.2
      have f20 : ∀ Z : SAT W7, Z.val.cell? ⟨g2, 0, none⟩ = some (.int .i64 r2.kind) := fun Z => (F20 Z).2.2.1
      have f21 : ∀ Z : SAT W7, Z.val.cell? ⟨g2, 1, none⟩ = some (.int .u32 r2.v) := fun Z => (F20 Z).2.2.2.1
      have f22 : ∀ Z : SAT W7, Z.val.cell? ⟨g2, 2, none⟩ = some (.int .i64 r2.block) := fun Z => (F20 Z).2.2.2.2
      have f30 : ∀ Z : SAT W7, Z.val.cell? ⟨W3.heap.size, 0, none⟩ = some (.int .i64 r3.kind) := fun Z => (HX3.out Z.val ((HS4.out.trans ((HS5.out.trans ((HS6.out.trans (HS7.out.mono HS6.out.size)).mono HS5.out.size)).mono HS4.out.size)).trans (Z.ok.b.mono (HS4.out.trans ((HS5.out.trans ((HS6.out.trans (HS7.out.mono HS6.out.size)).mono HS5.out.size)).mono HS4.out.size)).size))).1
      have f31 : ∀ Z : SAT W7, Z.val.cell? ⟨W3.heap.size, 1, none⟩ = some (.int .u32 r3.v) := fun Z => (HX3.out Z.val ((HS4.out.trans ((HS5.out.trans ((HS6.out.trans (HS7.out.mono HS6.out.size)).mono HS5.out.size)).mono HS4.out.size)).trans (Z.ok.b.mono (HS4.out.trans ((HS5.out.trans ((HS6.out.trans (HS7.out.mono HS6.out.size)).mono HS5.out.size)).mono HS4.out.size)).size))).2.1
      have f32 : ∀ Z : SAT W7, Z.val.cell? ⟨W3.heap.size, 2, none⟩ = some (.int .i64 r3.block) := fun Z => (HX3.out Z.val ((HS4.out.trans ((HS5.out.trans ((HS6.out.trans (HS7.out.mono HS6.out.size)).mono HS5.out.size)).mono HS4.out.size)).trans (Z.ok.b.mono (HS4.out.trans ((HS5.out.trans ((HS6.out.trans (HS7.out.mono HS6.out.size)).mono HS5.out.size)).mono HS4.out.size)).size))).2.2
      have f40 : ∀ Z : SAT W7, Z.val.cell? ⟨W4.heap.size, 0, none⟩ = some (.int .i64 r4.kind) := fun Z => (HX4.out Z.val ((HS5.out.trans ((HS6.out.trans (HS7.out.mono HS6.out.size)).mono HS5.out.size)).trans (Z.ok.b.mono (HS5.out.trans ((HS6.out.trans (HS7.out.mono HS6.out.size)).mono HS5.out.size)).size))).1
      have f41 : ∀ Z : SAT W7, Z.val.cell? ⟨W4.heap.size, 1, none⟩ = some (.int .u32 r4.v) := fun Z => (HX4.out Z.val ((HS5.out.trans ((HS6.out.trans (HS7.out.mono HS6.out.size)).mono HS5.out.size)).trans (Z.ok.b.mono (HS5.out.trans ((HS6.out.trans (HS7.out.mono HS6.out.size)).mono HS5.out.size)).size))).2.1
      have f42 : ∀ Z : SAT W7, Z.val.cell? ⟨W4.heap.size, 2, none⟩ = some (.int .i64 r4.block) := fun Z => (HX4.out Z.val ((HS5.out.trans ((HS6.out.trans (HS7.out.mono HS6.out.size)).mono HS5.out.size)).trans (Z.ok.b.mono (HS5.out.trans ((HS6.out.trans (HS7.out.mono HS6.out.size)).mono HS5.out.size)).size))).2.2
      have f50 : ∀ Z : SAT W7, Z.val.cell? ⟨W5.heap.size, 0, none⟩ = some (.int .i64 r5.kind) := fun Z => (HX5.out Z.val ((HS6.out.trans (HS7.out.mono HS6.out.size)).trans (Z.ok.b.mono (HS6.out.trans (HS7.out.mono HS6.out.size)).size))).1
      have f51 : ∀ Z : SAT W7, Z.val.cell? ⟨W5.heap.size, 1, none⟩ = some (.int .u32 r5.v) := fun Z => (HX5.out Z.val ((HS6.out.trans (HS7.out.mono HS6.out.size)).trans (Z.ok.b.mono (HS6.out.trans (HS7.out.mono HS6.out.size)).size))).2.1
      have f52 : ∀ Z : SAT W7, Z.val.cell? ⟨W5.heap.size, 2, none⟩ = some (.int .i64 r5.block) := fun Z => (HX5.out Z.val ((HS6.out.trans (HS7.out.mono HS6.out.size)).trans (Z.ok.b.mono (HS6.out.trans (HS7.out.mono HS6.out.size)).size))).2.2
      have f60 : ∀ Z : SAT W7, Z.val.cell? ⟨W6.heap.size, 0, none⟩ = some (.int .i64 r6.kind) := fun Z => (HX6.out Z.val (HS7.out.trans (Z.ok.b.mono HS7.out.size))).1
      have f61 : ∀ Z : SAT W7, Z.val.cell? ⟨W6.heap.size, 1, none⟩ = some (.int .u32 r6.v) := fun Z => (HX6.out Z.val (HS7.out.trans (Z.ok.b.mono HS7.out.size))).2.1
      have f62 : ∀ Z : SAT W7, Z.val.cell? ⟨W6.heap.size, 2, none⟩ = some (.int .i64 r6.block) := fun Z => (HX6.out Z.val (HS7.out.trans (Z.ok.b.mono HS7.out.size))).2.2
      clear F20
      have HS0 : Hid (SA W7 W7.drew) := (SA.refl W7).drew
      have HWf : Hid (Below w.heap.size w W7) := HW2.out.trans ((HWV2.out.trans (HF7.out.mono HWV2.out.size)).mono HW2.out.size)
      have cHq := heads_sub W7
      have cNq := num_sub W7 n
      have cN1 := num_sub W7 1
      cases x4 <;> cases x6
      all_goals
        refine wp_region_sub (W := W7) (by kernel_rfl) (by kernel_rfl) HS0.out ?_
        repeat (go_big_quiet_step (first | exact cHq _ | exact cNq _ | exact cN1 _))
        refine wpQuiet_nil ?_
        intro wq hq
        obtain ⟨⟨Zq, hZ⟩, hq2⟩ := hq
        have HB9 : Hid (Below w.heap.size w wq) := by
          rw [hq2]; exact HWf.out.trans (hZ.b.mono HWf.out.size)
        clear hq2
        go_wp2
        go_ret
        exact ⟨rfl, HB9.out⟩
    · have k1 : (p.kind != 2) = true := by simpa using hk
      clear hc hst hk
      go_wp2_with (go_at_call 11; refine (cH _).mono ?_; rintro e W9 ⟨rfl, hb9⟩; have HB9 : Hid (Below w.heap.size w W9) := HWV1.out.trans (hb9.mono HWV1.out.size); clear hb9)
      go_ret
      exact ⟨rfl, HB9.out⟩
  · have k0 : (st1 != 0) = true := by simpa using hst
    clear hc hst
    go_wp2_with (go_at_call 11; refine (cH _).mono ?_; rintro e W9 ⟨rfl, hb9⟩; have HB9 : Hid (Below w.heap.size w W9) := HWV1.out.trans (hb9.mono HWV1.out.size); clear hb9)
    go_ret
    exact ⟨rfl, HB9.out⟩
end
end Go.Proofs.Ytigiahcfcglacaa
