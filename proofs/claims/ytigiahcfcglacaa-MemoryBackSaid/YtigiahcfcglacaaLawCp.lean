/-
  MemoryCopies' own walk.
-/
import Derived.Test.YtigiahcfcglacaaLawHp
namespace Go.Proofs.Ytigiahcfcglacaa
open Go.RowKit Go.Maps
set_option linter.unusedVariables false
set_option maxRecDepth 100000
/-- What a copy leaves in its block. -/
theorem cpy_cell (tb sb : Bk) (i1 i2 tv fv n : Nat) (h : i1 = i2 → tb = sb ∧ (tv = fv ∨ tv + n ≤ fv ∨ fv + n ≤ tv)) : ∀ k, k ≤ n → ∀ j, (cpy tb i1 i2 sb tv fv k).cell j = if tv ≤ j ∧ j < tv + k then sb.cell (fv + (j - tv)) else tb.cell j := by
  intro k
  induction k with
  | zero => intro _ j; rw [if_neg (by omega)]; rfl
  | succ k ih =>
    intro hk j
    have ih' := ih (by omega)
    show (setF (cpy tb i1 i2 sb tv fv k).cell (tv + k) ((if i1 = i2 then cpy tb i1 i2 sb tv fv k else sb).cell (fv + k))) j = _
    unfold setF
    by_cases hj : j = tv + k
    · rw [if_pos hj, if_pos (show tv ≤ j ∧ j < tv + (k + 1) by omega), show fv + (j - tv) = fv + k by omega]
      by_cases e : i1 = i2
      · obtain ⟨h1, h2⟩ := h e
        rw [if_pos e, ih', if_neg (show ¬ (tv ≤ fv + k ∧ fv + k < tv + k) by omega), h1]
      · rw [if_neg e]
    · rw [if_neg hj, ih']
      by_cases hc : tv ≤ j ∧ j < tv + k
      · rw [if_pos hc, if_pos (by omega)]
      · rw [if_neg hc, if_neg (by omega)]
theorem copies_cases (s : St) (p q : Vl) (hp : VlOK p) (hq : VlOK q) (n al : Int) :
    (cpA s p q n al = 3 ∧ cpN s p q n al = s) ∨ (cpA s p q n al = 0 ∧ ∃ (k1 k2 k3 : Bk) (v1 v2 m : Nat), p.v = v1 ∧ q.v = v2 ∧ n = m ∧ 1 ≤ m ∧ v1 + m ≤ k1.size ∧ v2 + m ≤ k2.size ∧ look s p.block = some k1 ∧ look s q.block = some k2 ∧ look (cpN s p q n al) p.block = some k3 ∧ k3.size = k1.size ∧ ∀ j, k3.cell j = if v1 ≤ j ∧ j < v1 + m then k2.cell (v2 + (j - v1)) else k1.cell j) := by
  unfold cpA cpN cpOk
  cases h1 : roomS s p n al with
  | none => left; exact ⟨by simp, by simp⟩
  | some k1 =>
    cases h2 : roomS s q n al with
    | none => left; exact ⟨by simp, by simp⟩
    | some k2 =>
      cases hc : clashB p q n with
      | true => left; exact ⟨by simp, by simp⟩
      | false =>
        right
        obtain ⟨a1, ⟨i1, a2, a3⟩, a4, _, _, a5, a6⟩ := roomS_some h1
        obtain ⟨b1, ⟨i2, b2, b3⟩, b4, _, _, b5, b6⟩ := roomS_some h2
        have hp0 := hp.v0
        have hq0 := hq.v0
        have hi1 : i1 < s.length := (List.getElem?_eq_some_iff.1 a3).1
        have e1 : (p.block - 1).toNat = i1 := by omega
        have e2 : (q.block - 1).toNat = i2 := by omega
        refine ⟨by simp, k1, k2, cpy k1 i1 i2 k2 p.v.toNat q.v.toNat n.toNat, p.v.toNat, q.v.toNat, n.toNat, by omega, by omega, by omega, by omega, by omega, by omega, by rw [a2]; exact look_at a3, by rw [b2]; exact look_at b3, ?_, cpy_size _ _ _ _ _ _ _, ?_⟩
        · simp only [e1, e2]
          rw [a2]
          apply look_at
          simp [hi1]
        · refine cpy_cell k1 k2 i1 i2 _ _ n.toNat (fun e => ?_) _ (Nat.le_refl _)
          subst e
          rw [a3] at b3
          injection b3 with b3
          injection b3 with b3
          refine ⟨b3, ?_⟩
          unfold clashB at hc
          rw [a2, b2] at hc
          simp at hc
          by_cases hv : p.v = q.v
          · left; omega
          · have hc' := hc hv
            by_cases hlt : p.v < q.v
            · rw [if_pos hlt] at hc'; omega
            · rw [if_neg hlt] at hc'; omega
section
variable {N : Nat → Prop} {b rb : Nat} {s1 s2 : St} {w : World}
theorem pCells_any (h : D N b rb s1 s2 w) (n : Int) (n0 : -9223372036854775808 ≤ n) (n1 : n < 9223372036854775808) :
    Calls Try.prog 13 #[.pointer (some ⟨b, 0, none⟩), .int .i64 n] w fun e w' => ∃ v st, e = .returned (.tuple #[v, .int .i64 st]) ∧ Below w.heap.size w w' := by
  cases hl : look s1 n with
  | none => exact (pCells_bad h n n0 n1 hl).mono fun e w' ⟨he, hw⟩ => ⟨_, _, he, by rw [hw]; exact Below.refl _ _⟩
  | some k => exact (pCells_ok h n k hl).mono fun e w' ⟨g, cap, he, _, _, hb⟩ => ⟨_, _, he, hb⟩
/-- What was there, and what was made between. -/
def NW (N : Nat → Prop) (w w' : World) : Nat → Prop := fun k => N k ∨ (w.heap.size ≤ k ∧ k < w'.heap.size)
theorem D.wide {w' : World} (h : D N b rb s1 s2 w) (hb : Below w.heap.size w w') : D (NW N w w') b rb s1 s2 w' := by
  refine h.widen hb (fun k hk => ?_) (fun k hk => ?_)
  · rcases hk with c | c
    · exact Or.inl c
    · exact Or.inr c.1
  · rcases hk with c | c
    · exact Nat.lt_of_lt_of_le (h.le k c) hb.size
    · exact c.2
theorem CellsAt.keep {w w' : World} {g n : Nat} {f : Nat → Cl} (h : CellsAt w g n f) (hk : Kept N w w') (hg : N g) : CellsAt w' g n f := CellsAt.kept h hk (fun c => c hg)
theorem CellsAt.bel {w w' : World} {g n : Nat} {f : Nat → Cl} (h : CellsAt w g n f) (hb : Below w.heap.size w w') : CellsAt w' g n f := h.kept (Turned.of_below hb (fun _ => False)) (fun h => h)
end
theorem cellbox (w : World) (c : Cl) : CellsAt (w.alloc (.cells #[.int .i64 c.kind, .int .u32 c.v, .int .i64 c.block, .int .i64 c.part] TC)) w.heap.size 1 (fun _ => c) := by
  refine ⟨_, heap_r0 w _, by simp, fun i hi k hk => ?_⟩
  obtain rfl : i = 0 := by omega
  match k, hk with
  | 0, _ => rfl
  | 1, _ => rfl
  | 2, _ => rfl
  | 3, _ => rfl
section
variable {w : World}
set_option maxHeartbeats 8000000 in
theorem copies_c {v : Value} {l : List Ac} (hin : ActIn w v l) (hok : ∀ a ∈ l, AcOK a) (hlen : l.length * 80 ≤ 140737488355328) (p : Vl) (hp : VlOK p) (q : Vl) (hq : VlOK q) (n : Int) (n0 : -9223372036854775808 ≤ n) (n1 : n < 9223372036854775808) (al : Int) (l0 : -9223372036854775808 ≤ al) (l1 : al < 9223372036854775808) :
    Calls Try.prog 4 #[v, .agg #[.int .i64 p.kind, .int .u32 p.v, .int .i64 p.block], .agg #[.int .i64 q.kind, .int .u32 q.v, .int .i64 q.block], .int .i64 n, .int .i64 al] w fun e w' => e = .returned (.bool true) ∧ Below w.heap.size w w' := by
  have hB := box2_below w p q
  have hsz := box2_size w p q
  have cM := made_c (hin.below hB) hok hlen
  obtain ⟨hx0, hy0⟩ := box2_heap w p q
  have HX0 : Hid ((box2 w p q).heap[w.heap.size]? = some (.cells #[.int .i64 p.kind, .int .u32 p.v, .int .i64 p.block] TV (0, 0))) := hx0
  have HY0 : Hid ((box2 w p q).heap[w.heap.size + 1]? = some (.cells #[.int .i64 q.kind, .int .u32 q.v, .int .i64 q.block] TV (0, 0))) := hy0
  have HB0 : Hid (Below w.heap.size w (box2 w p q)) := hB
  have HSZ : Hid ((box2 w p q).heap.size = w.heap.size + 2) := hsz
  have HP : Hid (VlOK p) := hp
  have HQ : Hid (VlOK q) := hq
  have HN0 : Hid (-9223372036854775808 ≤ n) := n0
  have HN1 : Hid (n < 9223372036854775808) := n1
  clear hin hok hlen hB hsz hx0 hy0 hp hq n0 n1 l0 l1
  unfold box2 at cM
  go_enter Try.func4, Try.ntmps4
  go_upto_region 2 with (go_at_call 9; refine cM.mono ?_; rintro e w2 ⟨b, rb, s, rfl, hd, hb2⟩; have HD : Hid (D (Old (box2 w p q)) b rb s s w2) := hd; have HB2 : Hid (Below (box2 w p q).heap.size (box2 w p q) w2) := hb2; clear hd hb2 cM)
  have PQ : Hid (∀ Y, Kept (Old (box2 w p q)) w2 Y → (Y.cell? ⟨w.heap.size, 0, none⟩ = some (.int .i64 p.kind) ∧ Y.cell? ⟨w.heap.size, 1, none⟩ = some (.int .u32 p.v) ∧ Y.cell? ⟨w.heap.size, 2, none⟩ = some (.int .i64 p.block)) ∧ Y.cell? ⟨w.heap.size + 1, 0, none⟩ = some (.int .i64 q.kind) ∧ Y.cell? ⟨w.heap.size + 1, 1, none⟩ = some (.int .u32 q.v) ∧ Y.cell? ⟨w.heap.size + 1, 2, none⟩ = some (.int .i64 q.block)) := by
    intro Y hY
    have hs := HSZ.out
    have hs2 := HB2.out.size
    have e1 := (hY.heap (k := w.heap.size) (by omega) (by unfold Old; omega)).trans ((HB2.out.block w.heap.size (by omega)).trans HX0.out)
    have e2 := (hY.heap (k := w.heap.size + 1) (by omega) (by unfold Old; omega)).trans ((HB2.out.block (w.heap.size + 1) (by omega)).trans HY0.out)
    exact ⟨box3_cells e1, box3_cells e2⟩
  have HE : Hid (∀ Y, Kept (Old (box2 w p q)) w2 Y → Below w.heap.size w Y) := fun Y hY => HB0.out.trans ((HB2.out.trans (Kept.old hY HB2.out.size)).mono HB0.out.size)
  obtain ⟨⟨x20, x21, x22⟩, y20, y21, y22⟩ := PQ.out w2 (Turned.refl _ _)
  have cH := heads_c
  rcases copies_cases s p q HP.out HQ.out n al with ⟨hA, hN⟩ | ⟨hA, k1, k2, k3, v1, v2, m, hv1, hv2, rfl, hm1, hr1, hr2, hl1, hl2, hl3, hs3, hcell⟩
  · have HA : Hid (cpA s p q n al = 3) := hA
    have HN : Hid (cpN s p q n al = s) := hN
    clear hA hN
    cases hl : look s p.block with
    | none =>
      have HL : Hid (look s p.block = none) := hl
      have c1 := pCells_bad HD.out p.block HP.out.b0 HP.out.b1 hl
      clear hl
      go_wp2_with (first
        | (go_at_call 13; refine c1.mono ?_; rintro e w3 ⟨rfl, hw⟩; rw [hw]; have c2 := pCells_any HD.out q.block HQ.out.b0 HQ.out.b1; clear hw w3 c1)
        | (go_at_call 13; refine c2.mono ?_; rintro e w4 ⟨vq, stq, rfl, hb4⟩; have HB4 : Hid (Below w2.heap.size w2 w4) := hb4; have HD4 : Hid (D (Old (box2 w p q)) b rb s s w4) := HD.out.below hb4; obtain ⟨⟨x40, x41, x42⟩, y40, y41, y42⟩ := PQ.out w4 (Kept.below hb4); have cC := pCopy HD4.out p q HP.out HQ.out n al HN0.out HN1.out; rw [HA.out, HN.out] at cC; clear c2 hb4 x20 x21 x22 y20 y21 y22)
        | (go_at_call 14; refine cC.mono ?_; rintro e w5 ⟨rfl, hd5, hk5⟩; have HD5 : Hid (D (Old (box2 w p q)) b rb s s w5) := hd5; have HK5 : Hid (Kept (Old (box2 w p q)) w2 w5) := (Kept.below HB4.out).trans hk5; obtain ⟨⟨x50, x51, x52⟩, _⟩ := PQ.out w5 HK5.out; have c3 := pCells_bad HD5.out p.block HP.out.b0 HP.out.b1 HL.out; clear cC hd5 hk5 x40 x41 x42 y40 y41 y42)
        | (go_at_call 13; refine c3.mono ?_; rintro e w6 ⟨rfl, hw⟩; rw [hw]; have cS := same_nil w5; clear hw w6 c3)
        | (go_at_call 15; refine cS.mono ?_; rintro e w7 ⟨rfl, hb7⟩; have HK7 : Hid (Kept (Old (box2 w p q)) w2 w7) := HK5.out.trans (Kept.below hb7); clear hb7 cS)
        | (go_at_call 11; refine (cH _).mono ?_; rintro e w8 ⟨rfl, hb8⟩; have HK8 : Hid (Kept (Old (box2 w p q)) w2 w8) := HK7.out.trans (Kept.below hb8); clear hb8))
      go_ret
      exact ⟨rfl, HE.out _ HK8.out⟩
    | some k1 =>
      have HL : Hid (look s p.block = some k1) := hl
      have hmx : k1.size ≤ 16384 := by
        obtain ⟨i, _, hi⟩ := look_some hl
        exact (HD.out.ok1.sz i k1 hi).2.1
      have c1 := pCells_ok HD.out p.block k1 hl
      clear hl
      go_wp2_with (first
        | (go_at_call 13; refine c1.mono ?_; rintro e w3 ⟨g1, cap1, rfl, hc3, hg1, hb3⟩; have HB3 : Hid (Below w2.heap.size w2 w3) := hb3; have HC3 : Hid (CellsAt w3 g1 k1.size k1.cell) := hc3; have HG1 : Hid (w2.heap.size ≤ g1) := hg1; have c2 := pCells_any (HD.out.below hb3) q.block HQ.out.b0 HQ.out.b1; obtain ⟨_, y30, y31, y32⟩ := PQ.out w3 (Kept.below hb3); clear c1 hc3 hg1 hb3 x20 x21 x22 y20 y21 y22)
        | (go_at_call 13; refine c2.mono ?_; rintro e w4 ⟨vq, stq, rfl, hb4⟩; have HB4 : Hid (Below w2.heap.size w2 w4) := HB3.out.trans (hb4.mono HB3.out.size); have HC4 : Hid (CellsAt w4 g1 k1.size k1.cell) := HC3.out.bel hb4; have HD4 : Hid (D (NW (Old (box2 w p q)) w2 w4) b rb s s w4) := HD.out.wide HB4.out; obtain ⟨⟨x40, x41, x42⟩, y40, y41, y42⟩ := PQ.out w4 (Kept.below HB4.out); have cC := pCopy HD4.out p q HP.out HQ.out n al HN0.out HN1.out; rw [HA.out, HN.out] at cC; clear c2 hb4 y30 y31 y32)
        | (go_at_call 14; refine cC.mono ?_; rintro e w5 ⟨rfl, hd5, hk5⟩; have HD5 : Hid (D (NW (Old (box2 w p q)) w2 w4) b rb s s w5) := hd5; have HK5 : Hid (Kept (Old (box2 w p q)) w2 w5) := (Kept.below HB4.out).trans (hk5.mono (fun _ h => Or.inl h)); have HC5 : Hid (CellsAt w5 g1 k1.size k1.cell) := HC4.out.keep hk5 (Or.inr ⟨HG1.out, HC4.out.lt⟩); obtain ⟨⟨x50, x51, x52⟩, _⟩ := PQ.out w5 HK5.out; have c3 := pCells_ok HD5.out p.block k1 HL.out; clear cC hd5 hk5 x40 x41 x42 y40 y41 y42)
        | (go_at_call 13; refine c3.mono ?_; rintro e w6 ⟨g3, cap3, rfl, hc6, hg3, hb6⟩; have HK6 : Hid (Kept (Old (box2 w p q)) w2 w6) := HK5.out.trans (Kept.below hb6); have cS := same_cells (cap1 := cap1) (cap2 := cap3) hmx (HC5.out.bel hb6) hc6; clear hc6 hg3 hb6 c3)
        | (go_at_call 15; refine cS.mono ?_; rintro e w7 ⟨rfl, hb7⟩; have HK7 : Hid (Kept (Old (box2 w p q)) w2 w7) := HK6.out.trans (Kept.below hb7); clear hb7 cS)
        | (go_at_call 11; refine (cH _).mono ?_; rintro e w8 ⟨rfl, hb8⟩; have HK8 : Hid (Kept (Old (box2 w p q)) w2 w8) := HK7.out.trans (Kept.below hb8); clear hb8))
      go_ret
      exact ⟨rfl, HE.out _ HK8.out⟩
  · have HA : Hid (cpA s p q m al = 0) := hA
    have HL1 : Hid (look s p.block = some k1) := hl1
    have HL2 : Hid (look s q.block = some k2) := hl2
    have HL3 : Hid (look (cpN s p q m al) p.block = some k3) := hl3
    have HS3 : Hid (k3.size = k1.size) := hs3
    have HCELL : Hid (∀ j, k3.cell j = if v1 ≤ j ∧ j < v1 + m then k2.cell (v2 + (j - v1)) else k1.cell j) := hcell
    have HV1 : Hid (p.v = v1) := hv1
    have HV2 : Hid (q.v = v2) := hv2
    have hmx1 : k1.size ≤ 16384 := by
      obtain ⟨i, _, hi⟩ := look_some hl1
      exact (HD.out.ok1.sz i k1 hi).2.1
    have hmx2 : k2.size ≤ 16384 := by
      obtain ⟨i, _, hi⟩ := look_some hl2
      exact (HD.out.ok1.sz i k2 hi).2.1
    have c1 := pCells_ok HD.out p.block k1 hl1
    clear hA hl1 hl2 hl3 hs3 hcell hv1 hv2
    go_upto_region 8 with (first
        | (go_at_call 13; refine c1.mono ?_; rintro e w3 ⟨g1, cap1, rfl, hc3, hg1, hb3⟩; have HB3 : Hid (Below w2.heap.size w2 w3) := hb3; have HC3 : Hid (CellsAt w3 g1 k1.size k1.cell) := hc3; have HG1 : Hid (w2.heap.size ≤ g1) := hg1; have c2 := pCells_ok (HD.out.below hb3) q.block k2 HL2.out; obtain ⟨_, y30, y31, y32⟩ := PQ.out w3 (Kept.below hb3); clear c1 hc3 hg1 hb3 x20 x21 x22 y20 y21 y22)
        | (go_at_call 13; refine c2.mono ?_; rintro e w4 ⟨g2, cap2, rfl, hc4, hg2, hb4⟩; have HB4 : Hid (Below w2.heap.size w2 w4) := HB3.out.trans (hb4.mono HB3.out.size); have HC4 : Hid (CellsAt w4 g1 k1.size k1.cell) := HC3.out.bel hb4; have HE4 : Hid (CellsAt w4 g2 k2.size k2.cell) := hc4; have HG2 : Hid (w2.heap.size ≤ g2) := Nat.le_trans HB3.out.size hg2; have HD4 : Hid (D (NW (Old (box2 w p q)) w2 w4) b rb s s w4) := HD.out.wide HB4.out; obtain ⟨⟨x40, x41, x42⟩, y40, y41, y42⟩ := PQ.out w4 (Kept.below HB4.out); have cC := pCopy HD4.out p q HP.out HQ.out m al HN0.out HN1.out; rw [HA.out] at cC; clear c2 hc4 hg2 hb4 y30 y31 y32)
        | (go_at_call 14; refine cC.mono ?_; rintro e w5 ⟨rfl, hd5, hk5⟩; have HD5 : Hid (D (NW (Old (box2 w p q)) w2 w4) b rb (cpN s p q m al) s w5) := hd5; have HK5 : Hid (Kept (Old (box2 w p q)) w2 w5) := (Kept.below HB4.out).trans (hk5.mono (fun _ h => Or.inl h)); have HC5 : Hid (CellsAt w5 g1 k1.size k1.cell) := HC4.out.keep hk5 (Or.inr ⟨HG1.out, HC4.out.lt⟩); have HE5 : Hid (CellsAt w5 g2 k2.size k2.cell) := HE4.out.keep hk5 (Or.inr ⟨HG2.out, HE4.out.lt⟩); obtain ⟨⟨x50, x51, x52⟩, _⟩ := PQ.out w5 HK5.out; have c3 := pCells_ok HD5.out p.block k3 HL3.out; rw [HS3.out] at c3; clear cC hd5 hk5 x40 x41 x42 y40 y41 y42)
        | (go_at_call 13; refine c3.mono ?_; rintro e w6 ⟨g3, cap3, rfl, hc6, hg3, hb6⟩; have HK6 : Hid (Kept (Old (box2 w p q)) w2 w6) := HK5.out.trans (Kept.below hb6); have HC6 : Hid (CellsAt w6 g1 k1.size k1.cell) := HC5.out.bel hb6; have HE6 : Hid (CellsAt w6 g2 k2.size k2.cell) := HE5.out.bel hb6; have HF6 : Hid (CellsAt w6 g3 k1.size k3.cell) := hc6; clear hc6 hg3 hb6 c3 x50 x51 x52))
    have PV : Hid (∀ Y, Below w6.heap.size w6 Y → Y.cell? ⟨w.heap.size, 1, none⟩ = some (.int .u32 v1) ∧ Y.cell? ⟨w.heap.size + 1, 1, none⟩ = some (.int .u32 v2)) := fun Y hY => by
      obtain ⟨⟨_, h1, _⟩, _, h2, _⟩ := PQ.out Y (HK6.out.trans (Kept.below hY))
      rw [h1, h2, HV1.out, HV2.out]; exact ⟨rfl, rfl⟩
    obtain ⟨x61, y61⟩ := PV.out w6 (Below.refl _ _)
    have d0 : ((k1.size : Int) != (k1.size : Int)) = false := by simp
    have d1 : decide ((m : Int) < 1) = false := by rw [decide_eq_false_iff_not]; omega
    have d2 : decide ((k1.size : Int) < (v1 : Int) + (m : Int)) = false := by rw [decide_eq_false_iff_not]; omega
    have d3 : decide ((k2.size : Int) < (v2 : Int) + (m : Int)) = false := by rw [decide_eq_false_iff_not]; omega
    have u1 : IntKind.i64.wrap (v1 : Int) = v1 := wrap_id (by omega) (by omega)
    have u2 : IntKind.i64.wrap (v2 : Int) = v2 := wrap_id (by omega) (by omega)
    have u3 : IntKind.i64.wrap ((v1 : Int) + (m : Int)) = v1 + m := wrap_id (by omega) (by omega)
    have u4 : IntKind.i64.wrap ((v2 : Int) + (m : Int)) = v2 + m := wrap_id (by omega) (by omega)
    have HM1 : Hid (1 ≤ m) := hm1
    have HR1 : Hid (v1 + m ≤ k1.size) := hr1
    have HR2 : Hid (v2 + m ≤ k2.size) := hr2
    clear hm1 hr1 hr2
    have ne : ∀ (c : Cl) (Y : World), (binOp .neq TC (.agg #[.int .i64 c.kind, .int .u32 c.v, .int .i64 c.block, .int .i64 c.part]) (.agg #[.int .i64 c.kind, .int .u32 c.v, .int .i64 c.block, .int .i64 c.part])).run Try.prog Y = .ok (.bool false) Y := fun c Y => by rw [neC, sameC_self]; rfl
    go_wp2
    clear x61 y61
    go_loopw [19] (fun i_ wr => ∃ j : Nat, i_ = .int .i64 j ∧ j ≤ k1.size ∧ Hid (Below w6.heap.size w6 wr)) (fun i_ _ => k1.size - (intOf i_).toNat)
    case atStart => exact ⟨0, rfl, Nat.zero_le _, Below.refl _ _⟩
    case round =>
      obtain ⟨j, rfl, hj, HBr⟩ := hrel
      by_cases hlt : j < k1.size
      · obtain ⟨a0, a1, a2, a3⟩ := (HC6.out.bel HBr.out).cell hlt
        have HBA : Hid (Below w6.heap.size w6 (wr.alloc (.cells #[.int .i64 (k1.cell j).kind, .int .u32 (k1.cell j).v, .int .i64 (k1.cell j).block, .int .i64 (k1.cell j).part] TC))) := HBr.out.alloc HBr.out.size _
        have HCB : Hid (CellsAt (wr.alloc (.cells #[.int .i64 (k1.cell j).kind, .int .u32 (k1.cell j).v, .int .i64 (k1.cell j).block, .int .i64 (k1.cell j).part] TC)) wr.heap.size 1 (fun _ => k1.cell j)) := cellbox wr (k1.cell j)
        go_upto_region 14 with (fail)
        refine (?_ : Code.wp _ _ _ _ (wr.alloc (.cells #[.int .i64 (k1.cell j).kind, .int .u32 (k1.cell j).v, .int .i64 (k1.cell j).block, .int .i64 (k1.cell j).part] TC)))
        generalize (wr.alloc (.cells #[.int .i64 (k1.cell j).kind, .int .u32 (k1.cell j).v, .int .i64 (k1.cell j).block, .int .i64 (k1.cell j).part] TC)) = Wa at HBA HCB ⊢
        clear a0 a1 a2 a3
        have HGB : Hid (w6.heap.size ≤ wr.heap.size) := HBr.out.size
        generalize wr.heap.size = gb at HCB HGB ⊢
        obtain ⟨xa, ya⟩ := PV.out Wa HBA.out
        obtain ⟨c0, c1, c2, c3⟩ := (HF6.out.bel HBA.out).cell hlt
        by_cases hin1 : v1 ≤ j
        · by_cases hin2 : j < v1 + m
          · obtain ⟨t, ht⟩ : ∃ t : Nat, t = v2 + (j - v1) := ⟨_, rfl⟩
            have htl : t < k2.size := by have := HR2.out; omega
            have hcj : k3.cell j = k2.cell t := by rw [HCELL.out, if_pos ⟨hin1, hin2⟩, ht]
            have b1 : decide ((v1 : Int) ≤ (j : Int)) = true := by rw [decide_eq_true_iff]; omega
            have b2 : decide ((j : Int) < (v1 : Int) + (m : Int)) = true := by rw [decide_eq_true_iff]; omega
            have u5 : IntKind.i64.wrap ((v2 : Int) + (j : Int)) = v2 + j := wrap_id (by omega) (by omega)
            have u6 : IntKind.i64.wrap ((v2 : Int) + (j : Int) - (v1 : Int)) = t := by rw [wrap_id (by omega) (by omega)]; omega
            have u7 : (v2 : Int) + (j : Int) - (v1 : Int) = t := by omega
            rw [hcj] at c0 c1 c2 c3
            obtain ⟨e0, e1, e2, e3⟩ := (HE6.out.bel HBA.out).cell htl
            have ff := HCB.out.frozen
            obtain ⟨o0, o1, o2, o3⟩ := HCB.out.cell (i := 0) (by omega)
            simp only [Nat.zero_mul, Nat.zero_add] at o0 o1 o2 o3
            have HBB : Hid (Below w6.heap.size w6 (set4 Wa gb 0 (k2.cell t))) := below_set4 HBA.out HGB.out (Nat.le_refl _) 0 (k2.cell t)
            have hcc : CellsAt (set4 Wa gb 0 (k2.cell t)) gb 1 (setF (fun _ => k1.cell j) 0 (k2.cell t)) := by have := HCB.out.set (i := 0) (by omega) (k2.cell t); simpa using this
            have HCC : Hid (CellsAt (set4 Wa gb 0 (k2.cell t)) gb 1 (setF (fun _ => k1.cell j) 0 (k2.cell t))) := hcc
            clear hcc
            have HT : Hid (t = v2 + (j - v1)) := ht
            have HCJ : Hid (k3.cell j = k2.cell t) := hcj
            clear ht hcj
            go_upto_region 16 with (fail)
            refine (?_ : Code.wp _ _ _ _ (set4 Wa gb 0 (k2.cell t)))
            generalize set4 Wa gb 0 (k2.cell t) = Wb at HBB HCC ⊢
            clear c0 c1 c2 c3 e0 e1 e2 e3 o0 o1 o2 o3 ff xa ya
            obtain ⟨c0, c1, c2, c3⟩ := (HF6.out.bel HBB.out).cell hlt
            rw [HCJ.out] at c0 c1 c2 c3
            obtain ⟨o0, o1, o2, o3⟩ := HCC.out.cell (i := 0) (by omega)
            simp only [Nat.zero_mul, Nat.zero_add, setF, if_true] at o0 o1 o2 o3
            have ne1 := ne (k2.cell t)
            generalize k2.cell t = c at c0 c1 c2 c3 o0 o1 o2 o3 ne1
            clear ne u5 u6 u7 b1 b2
            go_quiet (fail)
            go_wp2
            exact ⟨⟨j + 1, by go_num, by omega, HBB.out.trans ⟨rfl, rfl, rfl, Nat.le_refl _, fun _ _ => rfl⟩⟩, by simp [intOf]; omega⟩
          · have hcj : k3.cell j = k1.cell j := by rw [HCELL.out, if_neg (fun h => hin2 h.2)]
            have b1 : decide ((v1 : Int) ≤ (j : Int)) = true := by rw [decide_eq_true_iff]; omega
            have b2 : decide ((j : Int) < (v1 : Int) + (m : Int)) = false := by rw [decide_eq_false_iff_not]; omega
            rw [hcj] at c0 c1 c2 c3
            obtain ⟨o0, o1, o2, o3⟩ := HCB.out.cell (i := 0) (by omega)
            simp only [Nat.zero_mul, Nat.zero_add] at o0 o1 o2 o3
            have ne1 := ne (k1.cell j)
            generalize k1.cell j = c at c0 c1 c2 c3 o0 o1 o2 o3 ne1
            clear ne hcj
            go_wp2
            go_quiet (fail)
            go_wp2
            exact ⟨⟨j + 1, by go_num, by omega, HBA.out.trans ⟨rfl, rfl, rfl, Nat.le_refl _, fun _ _ => rfl⟩⟩, by simp [intOf]; omega⟩
        · have hcj : k3.cell j = k1.cell j := by rw [HCELL.out, if_neg (fun h => hin1 h.1)]
          have b1 : decide ((v1 : Int) ≤ (j : Int)) = false := by rw [decide_eq_false_iff_not]; omega
          rw [hcj] at c0 c1 c2 c3
          obtain ⟨o0, o1, o2, o3⟩ := HCB.out.cell (i := 0) (by omega)
          simp only [Nat.zero_mul, Nat.zero_add] at o0 o1 o2 o3
          have ne1 := ne (k1.cell j)
          generalize k1.cell j = c at c0 c1 c2 c3 o0 o1 o2 o3 ne1
          clear ne hcj
          go_wp2
          go_quiet (fail)
          go_wp2
          exact ⟨⟨j + 1, by go_num, by omega, HBA.out.trans ⟨rfl, rfl, rfl, Nat.le_refl _, fun _ _ => rfl⟩⟩, by simp [intOf]; omega⟩
      · obtain rfl : j = k1.size := by omega
        go_wp2_with (go_at_call 11; refine (cH _).mono ?_; rintro e w8 ⟨rfl, hb8⟩; have HK8 : Hid (Kept (Old (box2 w p q)) w2 w8) := (HK6.out.trans (Kept.below HBr.out)).trans (Kept.below hb8); clear hb8)
        go_ret
        exact ⟨rfl, HE.out _ HK8.out⟩
end
end Go.Proofs.Ytigiahcfcglacaa
