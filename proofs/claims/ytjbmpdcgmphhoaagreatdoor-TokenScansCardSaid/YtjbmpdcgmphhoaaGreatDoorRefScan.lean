/-
  What mortiseref02's Scan answers: the same tokens and faults as package token's.
-/
import Derived.Test.YtjbmpdcgmphhoaaGreatDoorRefOne
import Derived.Test.YtjbmpdcgmphhoaaGreatDoorRefMov
import Derived.Test.YtjbmpdcgmphhoaaGreatDoorToks
namespace Go.Proofs.YtjbmpdcgmphhoaaGreatDoor
open Go.RowKit
set_option linter.unusedVariables false

theorem readT_kind (l : List UInt8) : (readT l).2.2 = 0 → ((readT l).1.kind = 0 ↔ (readT l).2.1 = 0) := by
  intro h1
  rw [readT_nil_iff l h1]
  constructor
  · intro hk
    cases l with
    | nil => rfl
    | cons c r =>
      exfalso
      simp only [readT] at h1 hk
      split at h1
      · rename_i hl
        rw [if_pos hl] at hk
        split at h1
        · simp at h1
        · rename_i h63
          rw [if_neg h63] at hk
          simp only at hk
          split at hk <;> omega
      rename_i hl
      rw [if_neg hl] at hk
      split at h1
      · rename_i hd
        rw [if_pos hd] at hk
        split at h1
        · rename_i hok
          rw [if_pos hok] at hk
          simp only at hk; omega
        · simp at h1
      rename_i hd
      rw [if_neg hd] at hk
      split at h1
      · rename_i hq
        rw [if_pos hq] at hk
        rcases hu : unq c.toNat r with _ | ⟨t, m⟩
        · rw [hu] at h1; simp at h1
        · rw [hu] at h1 hk
          simp only at h1 hk
          split at h1
          · rename_i h34
            rw [if_pos h34] at hk
            simp only at hk; omega
          · rename_i h34
            rw [if_neg h34] at hk
            split at h1
            · simp only at hk; omega
            · simp at h1
      rename_i hq
      rw [if_neg hq] at hk
      split at h1
      · simp at h1
      · rename_i hs
        rw [if_neg hs] at hk
        simp only at hk; omega
  · intro h; subst h; rfl

set_option maxRecDepth 100000 in
set_option maxHeartbeats 1000000 in
theorem rscan_long (s : ByteArray) (w : World) (hs : s.size ≤ 9223372036854775807) (hl : 65536 < s.size) :
    Calls Tryz.prog 6 #[.string s] w (ScanPost w (.error ⟨24, 0, 0, 0⟩)) := by
  go_enter Tryz.func6, Tryz.ntmps6
  go_wp2
  refine ret_scan ?_ ?_ (heap_in0 w _) ?_ ?_
  all_goals first | rfl | (exact ⟨(Below.refl _ w).alloc (Nat.le_refl _) _, rfl⟩)

set_option maxRecDepth 100000 in
set_option maxHeartbeats 4000000 in
theorem rscan_short (s : ByteArray) (w : World) (hl : s.size ≤ 65536) :
    Calls Tryz.prog 6 #[.string s] w (ScanPost w (scanF s.data.toList (s.data.toList.length + 1) 0 1 1 0 0)) := by
  have hbf : ∀ W : World, (Instr.build 27 #[]).run Tryz.prog W = .ok (.agg #[.int .i64 0, .int .i64 0, .int .i64 0, .int .i64 0]) W := fun W => by kernel_rfl
  have hstart : scanF s.data.toList (s.data.toList.length + 1) 0 1 1 0 0 = glue [] (scanF s.data.toList (s.data.toList.length + 1) 0 1 1 0 0) := by
    rcases scanF s.data.toList (s.data.toList.length + 1) 0 1 1 0 0 with f | r <;> rfl
  obtain ⟨n0, hn0⟩ : ∃ n0, n0 = s.data.toList.length + 1 := ⟨_, rfl⟩
  have hn1 : s.size < n0 := by rw [hn0]; simp
  rw [← hn0] at hstart ⊢
  generalize hRR : scanF s.data.toList n0 0 1 1 0 0 = R at hstart ⊢
  rw [← hRR] at hstart
  have HS : Hid (R = glue [] (scanF s.data.toList n0 0 1 1 0 0)) := by rw [← hRR]; exact hstart
  clear hRR hstart hn0
  obtain ⟨F, hF⟩ : ∃ F, F = w.heap.size := ⟨_, rfl⟩
  go_enter Tryz.func6, Tryz.ntmps6
  go_wp2
  generalize hW1 : w.alloc (.cells #[.int .i64 0, .int .i64 0, .int .i64 0, .int .i64 0] 27) = w1
  have hSF : w.heap.size < w1.heap.size := by rw [← hW1]; simp
  have hs1 : w.heap.size + 1 = w1.heap.size := by rw [← hW1]; simp
  have hFlt : (w1.alloc (.cells #[.int .i64 1, .int .i64 1, .int .i64 0] 25)).heap[w.heap.size]? = some (.cells #[.int .i64 0, .int .i64 0, .int .i64 0, .int .i64 0] 27 (0, 0)) := by
    rw [Below.heap_alloc _ _ _ hSF, ← hW1]; exact heap_in0 _ _
  have HB0 : Hid (Below w.heap.size w (w1.alloc (.cells #[.int .i64 1, .int .i64 1, .int .i64 0] 25))) := by rw [← hW1]; exact ((Below.refl _ w).alloc (Nat.le_refl _) _).alloc (by simp) _
  have HFlt : Hid _ := hFlt
  rw [hs1]
  clear hFlt hF hW1 hs1
  go_loopw [4, 6] (fun v i wr => ∃ (toks : List Tok) (line col : Int) (prev off n : Nat), i = .int .i64 off ∧ off ≤ s.size ∧ prev ≤ off ∧ s.size < off + n ∧ 0 ≤ line ∧ line ≤ 1 + prev ∧ 0 ≤ col ∧ col ≤ 1 + prev ∧ toks.length ≤ 16384 ∧ w1.heap.size + 1 ≤ wr.heap.size
      ∧ Hid (wr.ownsRow (w1.heap.size + 1) 35 6 v toks.length (toks.flatMap tokCells))
      ∧ Hid (wr.heap[w1.heap.size]? = some (.cells #[.int .i64 line, .int .i64 col, .int .i64 prev] 25 (0, 0)))
      ∧ Hid (wr.heap[w.heap.size]? = some (.cells #[.int .i64 0, .int .i64 0, .int .i64 0, .int .i64 0] 27 (0, 0)))
      ∧ Hid (Below w.heap.size w wr) ∧ Hid (R = glue toks (scanF s.data.toList n toks.length line col prev off))) (fun _ i _ => s.size + 1 - (intOf i).toNat)
  case atStart => exact ⟨[], 1, 1, 0, 0, n0, rfl, Nat.zero_le _, Nat.le_refl _, by omega, by omega, by omega, by omega, by omega, by simp, by simp, World.ownsRow_nil _ _ _ _, heap_in0 w1 _, HFlt.out, HB0.out, HS.out⟩
  case round =>
    obtain ⟨toks, line, col, prev, off, n, rfl, hoff, hprev, hfuel, hl0, hl1, hc0, hc1, htk, hsz, HOWN, HSP, HFL, HB, HR⟩ := hrel
    clear HS HB0 HFlt
    have hg1 := gap_le (s.data.toList.drop off)
    have hdl : (s.data.toList.drop off).length = s.size - off := by simp
    rw [hdl] at hg1
    cases n with
    | zero => omega
    | succ n =>
    have hRR := HR.out
    clear HR
    unfold scanF at hRR
    have cS := skip_r s off wr hoff hl
    have cO : ∀ o, prev ≤ o → o ≤ s.size → Calls Tryz.prog 19 #[.string s, spotV line col prev, .int .i64 (o : Nat)] wr fun e w' => e = .returned (spotV (onLine line (partL s.data.toList prev o)) (onCol col (partL s.data.toList prev o)) o) ∧ Below wr.heap.size wr w' := fun o h1 h2 =>
      moved_r s line col prev o wr h1 h2 hl (by omega) (by omega) (by omega) (by omega)
    rcases hG : gap (s.data.toList.drop off) with ⟨g, ok⟩
    rw [hG] at cS hRR hg1
    simp only [skipV] at cS hRR hg1
    have cO1 := cO (off + g) (by omega) (by omega)
    clear cO
    obtain ⟨hs0, hs1, hs2⟩ := spot_cells HSP.out
    unfold spotV at cO1
    have hps := part_size s.data.toList prev (off + g)
    have hlb := onLine_le line (partL s.data.toList prev (off + g))
    have hcb := onCol_le col (partL s.data.toList prev (off + g)) hc0
    have hlb1 : onLine line (partL s.data.toList prev (off + g)) ≤ 1 + ((off : Int) + g) := by omega
    have hcb1 : onCol col (partL s.data.toList prev (off + g)) ≤ 1 + ((off : Int) + g) := by omega
    have hlb0 : 0 ≤ onLine line (partL s.data.toList prev (off + g)) := by omega
    have hcb0 := hcb.1
    clear hlb hcb hps
    generalize hLn : onLine line (partL s.data.toList prev (off + g)) = ln at *
    generalize hCl : onCol col (partL s.data.toList prev (off + g)) = cl at *
    cases ok
    · simp only [Bool.false_eq_true, if_false] at cS
      rw [if_pos rfl] at hRR
      have hR1 : R = .error ⟨25, ln, cl, off + g⟩ := hRR
      subst hR1
      clear hRR hdl hG hLn hCl
      have HK : Hid (Kept _ _ _ _ _ _ _ _ _) := (⟨HOWN.out, HSP.out, HFL.out, HB.out, hsz⟩ : Kept w.heap.size w1.heap.size w u4 toks line col prev wr)
      clear HOWN HFL HB
      go_wp2_with (first | (go_at_call 18; refine cS.mono ?_; rintro e W' ⟨rfl, rfl⟩) | (go_at_call 19; refine cO1.mono ?_; rintro e w2 ⟨rfl, hb2⟩; have HK2 : Hid (Kept _ _ _ _ _ _ _ _ w2) := HK.out.below hSF hb2; have hold := HK2.out.flt; clear hb2) | ((with_reducible apply step_store hold); rfl; rfl; kernel_rfl; rfl; kernel_rfl))
      refine ret_scan ?_ ?_ (setRow_heap _ _ _ _ _ _ hold) ?_ ?_
      · rfl
      · rfl
      · rfl
      · exact ⟨below_setRow HK2.out.bel (Nat.le_refl _) _, rfl⟩
    · simp only [if_true] at cS
      rw [if_neg (by simp)] at hRR
      have hKr : Kept w.heap.size w1.heap.size w u4 toks line col prev wr := ⟨HOWN.out, HSP.out, HFL.out, HB.out, hsz⟩
      have HK : Hid (Kept _ _ _ _ _ _ _ _ _) := hKr
      clear hKr HOWN HFL HB
      have cRd0 := fun W => one_r s (off + g) W (by omega) (by omega)
      have hkd := readT_kind (s.data.toList.drop (off + g))
      have hrl := readT_le (s.data.toList.drop (off + g))
      have hdl2 : (s.data.toList.drop (off + g)).length = s.size - (off + g) := by simp
      rw [hdl2] at hrl
      rcases hX : readT (s.data.toList.drop (off + g)) with ⟨tk, sz, code⟩
      rw [hX] at cRd0 hrl hRR hkd
      simp only at hRR hrl hkd
      unfold OPost at cRd0
      simp only at cRd0
      obtain ⟨tkk, tkt, tkn⟩ := tk
      simp only at cRd0 hkd
      clear hdl hdl2 hX hG hLn hCl
      obtain ⟨i0, hi, hz0, hz1, hz2⟩ := info_parts info_tok
      obtain ⟨a4, cap4, hv4⟩ : ∃ a cap, u4 = .slice a toks.length cap := by
        rcases HK.out.own.2 with ⟨e1, e2⟩ | ⟨g', cap', cur', e1, _⟩
        · exact ⟨none, 0, by rw [e1, e2]⟩
        · exact ⟨_, _, e1⟩
      by_cases hcode : code = 0
      · subst hcode
        rw [if_neg (by simp)] at hRR
        have hkd := hkd rfl
        have cRd : ∀ W : World, Calls Tryz.prog 20 #[.string s, .int .i64 (off + g : Nat)] W fun e w' => e = .returned (.tuple #[.agg #[.int .i64 tkk, .string ⟨tkt.toArray⟩, .int .i64 tkn, .int .i64 0, .int .i64 0, .int .i64 0], .int .i64 (off + g + sz : Nat), .int .i64 0]) ∧ Below W.heap.size W w' := fun W => by
          have := cRd0 W
          simp only [if_true] at this
          exact this
        clear cRd0
        by_cases hmany : 0 < sz ∧ toks.length = 16384
        · rw [if_pos hmany] at hRR
          obtain ⟨hz', hlen⟩ := hmany
          have hR1 : R = .error ⟨23, ln, cl, off + g⟩ := hRR
          subst hR1
          have gk : (tkk != 0) = true := by simp; omega
          clear hRR hkd
          subst hv4
          rw [hlen] at *
          go_wp2_with (first | (go_at_call 18; refine cS.mono ?_; rintro e W' ⟨rfl, rfl⟩) | (go_at_call 19; refine cO1.mono ?_; rintro e w2 ⟨rfl, hb2⟩; have hold := (hb2.block w1.heap.size (by omega)).trans HSP.out; have HK2 : Hid (Kept _ _ _ _ _ ln cl ((off : Int) + g) _) := (HK.out.below hSF hb2).set hSF ln cl ((off : Int) + g); clear hb2) | ((with_reducible apply step_store hold); rfl; rfl; kernel_rfl; rfl; kernel_rfl) | (go_at_call 20; refine (cRd _).mono ?_; rintro e w4 ⟨rfl, hb4⟩; have HK4 : Hid (Kept _ _ _ _ _ ln cl ((off : Int) + g) w4) := HK2.out.below hSF hb4; have hq0 := fun o => (cell_old w4 o w1.heap.size 0 (by have := HK4.out.sz; omega)).trans (spot_cells HK4.out.spot).1; have hq1 := fun o => (cell_old w4 o w1.heap.size 1 (by have := HK4.out.sz; omega)).trans (spot_cells HK4.out.spot).2.1; have hq2 := fun o => (cell_old w4 o w1.heap.size 2 (by have := HK4.out.sz; omega)).trans (spot_cells HK4.out.spot).2.2; clear hb4 hold))
          generalize hW : w4.alloc _ = W
          have hWS : Hid (W.heap[w1.heap.size]? = some (.cells #[.int .i64 ln, .int .i64 cl, .int .i64 ((off : Int) + g)] 25 (0, 0))) := by rw [← hW]; exact (Below.heap_alloc _ _ _ (by have := HK4.out.sz; omega)).trans HK4.out.spot
          have hWF : Hid (W.heap[w.heap.size]? = some (.cells #[.int .i64 0, .int .i64 0, .int .i64 0, .int .i64 0] 27 (0, 0))) := by rw [← hW]; exact (Below.heap_alloc _ _ _ (by have := HK4.out.sz; omega)).trans HK4.out.flt
          have hWB : Hid (Below w.heap.size w W) := by rw [← hW]; exact HK4.out.bel.alloc (by have := HK4.out.sz; omega) _
          clear hW hq0 hq1 hq2
          obtain ⟨k0, k1, k2⟩ := spot_cells hWS.out
          obtain ⟨f0, f1, f2, f3, z0, z1, z2, z3⟩ := flt_cells hWF.out
          go_region
          go_wp2
          refine ret_scan ?_ ?_ (set4 hWF.out _ _ _ _) ?_ ?_
          · rfl
          · rfl
          · rfl
          · exact ⟨((((hWB.out.setCell (Nat.le_refl _) _).setCell (Nat.le_refl _) _).setCell (Nat.le_refl _) _).setCell (Nat.le_refl _) _).drew, rfl⟩
        · rw [if_neg hmany] at hRR
          by_cases hz : sz = 0
          · rw [if_pos hz] at hRR
            subst hz
            have HRR : Hid (R = .ok (toks ++ [(⟨⟨tkk, tkt, tkn⟩, ln, cl, off + g⟩ : Tok)])) := hRR
            have hk0 : tkk = 0 := hkd.2 rfl
            subst hk0
            clear hRR hmany hkd
            subst hv4
            go_wp2_with (first | (go_at_call 18; refine cS.mono ?_; rintro e W' ⟨rfl, rfl⟩) | (go_at_call 19; refine cO1.mono ?_; rintro e w2 ⟨rfl, hb2⟩; have hold := (hb2.block w1.heap.size (by omega)).trans HSP.out; have HK2 : Hid (Kept _ _ _ _ _ ln cl ((off : Int) + g) _) := (HK.out.below hSF hb2).set hSF ln cl ((off : Int) + g); clear hb2) | ((with_reducible apply step_store hold); rfl; rfl; kernel_rfl; rfl; kernel_rfl) | (go_at_call 20; refine (cRd _).mono ?_; rintro e w4 ⟨rfl, hb4⟩; have HK4 : Hid (Kept _ _ _ _ _ ln cl ((off : Int) + g) w4) := HK2.out.below hSF hb4; have hq0 := fun o => (cell_old w4 o w1.heap.size 0 (by have := HK4.out.sz; omega)).trans (spot_cells HK4.out.spot).1; have hq1 := fun o => (cell_old w4 o w1.heap.size 1 (by have := HK4.out.sz; omega)).trans (spot_cells HK4.out.spot).2.1; have hq2 := fun o => (cell_old w4 o w1.heap.size 2 (by have := HK4.out.sz; omega)).trans (spot_cells HK4.out.spot).2.2; clear hb4 hold) | (at_builtin; go_must (refine wpList_append_own _ rfl (.tmp 60) (.tmp 62) 22 rfl (w1.heap.size + 1) 35 i0 _ 6 56 Tryz.underlying22 hi hz0 hz1 hz2 rfl (by decide) _ _ _ rfl ((HK4.out.own.alloc _).alloc _) ⟨_, 0, none⟩ 1 1 _ ?c0 rfl (cells_new _ _ _) ?c2 ?c3 ?c4 ?c5 ?_)))
            case c0 => show Value.slice (some ⟨w4.heap.size + 1, 0, none⟩) 1 1 = _; simp
            case c2 => intro u hu; simp at hu; rcases hu with rfl | rfl | rfl | rfl | rfl | rfl <;> rfl
            case c3 => unfold maxLen; omega
            case c4 => omega
            case c5 => have := HK4.out.sz; simp; omega
            intro v' w5 hown' hgrow _
            have hne : ∀ k, k < w4.heap.size → k ≤ w1.heap.size → w5.heap[k]? = w4.heap[k]? := fun k h1 h2 => by
              rw [hgrow.block k (by simp; omega) (fun e => by have := (HK4.out.own.lt k e.symm).1; omega), Below.heap_alloc _ _ _ (by simp; omega), Below.heap_alloc _ _ _ h1]
            have hk5 : w5.cell? ⟨w4.heap.size, 0, none⟩ = some (.int .i64 0) := by
              have hblk := (hgrow.block w4.heap.size (by simp; omega) (fun e => by have := (HK4.out.own.lt _ e.symm).2; omega)).trans ((Below.heap_alloc _ _ _ (by simp)).trans (heap_in0 _ _))
              simp [World.cell?, hblk]
            have HK5 : Hid (Kept w.heap.size w1.heap.size w v' (toks ++ [⟨⟨0, tkt, tkn⟩, ln, cl, off + g⟩]) ln cl ((off : Int) + g) w5) := by
              have hsz4 := HK4.out.sz
              refine ⟨?_, (hne _ (by omega) (Nat.le_refl _)).trans HK4.out.spot, (hne _ (by omega) (by omega)).trans HK4.out.flt, ?_, ?_⟩
              · rw [List.flatMap_append, List.length_append]; exact hown'
              · exact ((HK4.out.bel.alloc (by omega) _).alloc (by simp; omega) _).grown hgrow (by simp; omega) (fun k hk => by have := (HK4.out.own.lt k hk).1; omega)
              · have := hgrow.size; simp at this; omega
            clear hown' hgrow hne
            have hold5 := HK5.out.flt
            go_wp2_with ((with_reducible apply step_store hold5); rfl; rfl; kernel_rfl; rfl; kernel_rfl)
            have hR1 := HRR.out
            subst hR1
            refine ret_scan ?_ ?_ (setRow_heap _ _ _ _ _ _ hold5) ?_ ?_
            · rfl
            · rfl
            · rfl
            · exact ⟨below_setRow HK5.out.bel (Nat.le_refl _) _, _, rfl, own_setOther HK5.out.own (by omega) _⟩
          · rw [if_neg hz] at hRR
            have HRR : Hid _ := hRR
            have hz' : 0 < sz := by omega
            have hlen' : ((toks.length : Int) == 16384) = false := by rw [beq_eq_false_iff_ne]; omega
            have hk0 : tkk ≠ 0 := fun e => hz (hkd.1 e)
            have gk : (tkk != 0) = true := by simpa using hk0
            have gk2 : ¬ (tkk = 0) := hk0
            clear hRR hkd
            subst hv4
            go_wp2_with (first | (go_at_call 18; refine cS.mono ?_; rintro e W' ⟨rfl, rfl⟩) | (go_at_call 19; refine cO1.mono ?_; rintro e w2 ⟨rfl, hb2⟩; have hold := (hb2.block w1.heap.size (by omega)).trans HSP.out; have HK2 : Hid (Kept _ _ _ _ _ ln cl ((off : Int) + g) _) := (HK.out.below hSF hb2).set hSF ln cl ((off : Int) + g); clear hb2) | ((with_reducible apply step_store hold); rfl; rfl; kernel_rfl; rfl; kernel_rfl) | (go_at_call 20; refine (cRd _).mono ?_; rintro e w4 ⟨rfl, hb4⟩; have HK4 : Hid (Kept _ _ _ _ _ ln cl ((off : Int) + g) w4) := HK2.out.below hSF hb4; have hq0 := fun o => (cell_old w4 o w1.heap.size 0 (by have := HK4.out.sz; omega)).trans (spot_cells HK4.out.spot).1; have hq1 := fun o => (cell_old w4 o w1.heap.size 1 (by have := HK4.out.sz; omega)).trans (spot_cells HK4.out.spot).2.1; have hq2 := fun o => (cell_old w4 o w1.heap.size 2 (by have := HK4.out.sz; omega)).trans (spot_cells HK4.out.spot).2.2; clear hb4 hold) | (at_builtin; go_must (refine wpList_append_own _ rfl (.tmp 60) (.tmp 62) 22 rfl (w1.heap.size + 1) 35 i0 _ 6 56 Tryz.underlying22 hi hz0 hz1 hz2 rfl (by decide) _ _ _ rfl ((HK4.out.own.alloc _).alloc _) ⟨_, 0, none⟩ 1 1 _ ?c0 rfl (cells_new _ _ _) ?c2 ?c3 ?c4 ?c5 ?_)))
            case c0 => show Value.slice (some ⟨w4.heap.size + 1, 0, none⟩) 1 1 = _; simp
            case c2 => intro u hu; simp at hu; rcases hu with rfl | rfl | rfl | rfl | rfl | rfl <;> rfl
            case c3 => unfold maxLen; omega
            case c4 => omega
            case c5 => have := HK4.out.sz; simp; omega
            intro v' w5 hown' hgrow _
            have hne : ∀ k, k < w4.heap.size → k ≤ w1.heap.size → w5.heap[k]? = w4.heap[k]? := fun k h1 h2 => by
              rw [hgrow.block k (by simp; omega) (fun e => by have := (HK4.out.own.lt k e.symm).1; omega), Below.heap_alloc _ _ _ (by simp; omega), Below.heap_alloc _ _ _ h1]
            have hk5 : w5.cell? ⟨w4.heap.size, 0, none⟩ = some (.int .i64 tkk) := by
              have hblk := (hgrow.block w4.heap.size (by simp; omega) (fun e => by have := (HK4.out.own.lt _ e.symm).2; omega)).trans ((Below.heap_alloc _ _ _ (by simp)).trans (heap_in0 _ _))
              simp [World.cell?, hblk]
            have HK5 : Hid (Kept w.heap.size w1.heap.size w v' (toks ++ [⟨⟨tkk, tkt, tkn⟩, ln, cl, off + g⟩]) ln cl ((off : Int) + g) w5) := by
              have hsz4 := HK4.out.sz
              refine ⟨?_, (hne _ (by omega) (Nat.le_refl _)).trans HK4.out.spot, (hne _ (by omega) (by omega)).trans HK4.out.flt, ?_, ?_⟩
              · rw [List.flatMap_append, List.length_append]; exact hown'
              · exact ((HK4.out.bel.alloc (by omega) _).alloc (by simp; omega) _).grown hgrow (by simp; omega) (fun k hk => by have := (HK4.out.own.lt k hk).1; omega)
              · have := hgrow.size; simp at this; omega
            clear hown' hgrow hne
            go_wp2
            go_roundw
            case rel => exact ⟨toks ++ [(⟨⟨tkk, tkt, tkn⟩, ln, cl, off + g⟩ : Tok)], ln, cl, off + g, off + g + sz, n, by go_num, by omega, by omega, by omega, hlb0, by omega, hcb0, by omega, by simp; omega, HK5.out.sz, HK5.out.own, HK5.out.spot, HK5.out.flt, HK5.out.bel, by
                show R = _
                rw [HRR.out, List.length_append]
                show _ = glue (toks ++ [_]) (scanF s.data.toList n (toks.length + 1) ln cl (off + g) (off + g + sz))
                rcases scanF s.data.toList n (toks.length + 1) ln cl (off + g) (off + g + sz) with e | r
                · rfl
                · simp [glue]⟩
            case measure => simp [intOf]; omega
      · rw [if_pos hcode] at hRR
        have hcode' : ((code : Int) == 0) = false := by rw [beq_eq_false_iff_ne]; omega
        have hcode2 : ¬ ((code : Int) = 0) := by omega
        have cRd : ∀ W : World, Calls Tryz.prog 20 #[.string s, .int .i64 (off + g : Nat)] W fun e w' => (∃ k : Int, e = .returned (.tuple #[.agg #[.int .i64 0, .string ⟨#[]⟩, .int .i64 0, .int .i64 0, .int .i64 0, .int .i64 0], .int .i64 k, .int .i64 (code : Nat)])) ∧ Below W.heap.size W w' := fun W => by
          have := cRd0 W
          simp only [if_neg hcode] at this
          exact this
        have hR1 : R = .error ⟨code, ln, cl, off + g⟩ := hRR
        subst hR1
        clear hRR cRd0 hkd
        subst hv4
        · go_wp2_with (first | (go_at_call 18; refine cS.mono ?_; rintro e W' ⟨rfl, rfl⟩) | (go_at_call 19; refine cO1.mono ?_; rintro e w2 ⟨rfl, hb2⟩; have hold := (hb2.block w1.heap.size (by omega)).trans HSP.out; have HK2 : Hid (Kept _ _ _ _ _ ln cl ((off : Int) + g) _) := (HK.out.below hSF hb2).set hSF ln cl ((off : Int) + g); clear hb2) | ((with_reducible apply step_store hold); rfl; rfl; kernel_rfl; rfl; kernel_rfl) | (go_at_call 20; refine (cRd _).mono ?_; rintro e w4 ⟨⟨ke, rfl⟩, hb4⟩; have HK4 : Hid (Kept _ _ _ _ _ ln cl ((off : Int) + g) w4) := HK2.out.below hSF hb4; have hq0 := fun o => (cell_old w4 o w1.heap.size 0 (by have := HK4.out.sz; omega)).trans (spot_cells HK4.out.spot).1; have hq1 := fun o => (cell_old w4 o w1.heap.size 1 (by have := HK4.out.sz; omega)).trans (spot_cells HK4.out.spot).2.1; have hq2 := fun o => (cell_old w4 o w1.heap.size 2 (by have := HK4.out.sz; omega)).trans (spot_cells HK4.out.spot).2.2; clear hb4 hold))
          generalize hW : w4.alloc _ = W
          have hWS : Hid (W.heap[w1.heap.size]? = some (.cells #[.int .i64 ln, .int .i64 cl, .int .i64 ((off : Int) + g)] 25 (0, 0))) := by rw [← hW]; exact (Below.heap_alloc _ _ _ (by have := HK4.out.sz; omega)).trans HK4.out.spot
          have hWF : Hid (W.heap[w.heap.size]? = some (.cells #[.int .i64 0, .int .i64 0, .int .i64 0, .int .i64 0] 27 (0, 0))) := by rw [← hW]; exact (Below.heap_alloc _ _ _ (by have := HK4.out.sz; omega)).trans HK4.out.flt
          have hWB : Hid (Below w.heap.size w W) := by rw [← hW]; exact HK4.out.bel.alloc (by have := HK4.out.sz; omega) _
          clear hW hq0 hq1 hq2
          obtain ⟨k0, k1, k2⟩ := spot_cells hWS.out
          obtain ⟨f0, f1, f2, f3, z0, z1, z2, z3⟩ := flt_cells hWF.out
          go_region
          go_wp2
          refine ret_scan ?_ ?_ (set4 hWF.out _ _ _ _) ?_ ?_
          · rfl
          · rfl
          · rfl
          · exact ⟨((((hWB.out.setCell (Nat.le_refl _) _).setCell (Nat.le_refl _) _).setCell (Nat.le_refl _) _).setCell (Nat.le_refl _) _).drew, rfl⟩

theorem rscan_r (s : ByteArray) (w : World) (hs : s.size ≤ 9223372036854775807) :
    Calls Tryz.prog 6 #[.string s] w (ScanPost w (scan s.data.toList)) := by
  unfold scan
  have hl : s.data.toList.length = s.size := by simp
  by_cases h : 65536 < s.size
  · rw [if_pos (by omega)]; exact rscan_long s w hs h
  · rw [if_neg (by omega)]; exact rscan_short s w (by omega)
end Go.Proofs.YtjbmpdcgmphhoaaGreatDoor
