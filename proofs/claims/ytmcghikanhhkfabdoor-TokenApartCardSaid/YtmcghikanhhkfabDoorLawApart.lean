/-
  What the statement TokenApart answers: true, at every two texts.
-/
import Derived.Test.YtmcghikanhhkfabDoorHeads
import Derived.Test.YtmcghikanhhkfabDoorToks
import Derived.Test.YtmcghikanhhkfabDoorSameP
namespace Go.Proofs.YtmcghikanhhkfabDoor
open Go.RowKit
set_option linter.unusedVariables false

theorem scanF_code (L : List UInt8) : ∀ (n done : Nat) (line col : Int) (prev off : Nat) (f : Flt), L.length < off + n → off ≤ L.length → scanF L n done line col prev off = .error f → f.code ≠ 0
  | 0, done, line, col, prev, off, f, hn, ho, _ => by omega
  | n + 1, done, line, col, prev, off, f, hn, ho, h => by
    have hg := gap_le (L.drop off)
    rw [List.length_drop] at hg
    simp only [scanF] at h
    split at h
    · cases h; simp
    split at h
    · rename_i hcd; cases h; exact hcd
    split at h
    · cases h; simp
    split at h
    · cases h
    · rename_i hz
      have hrl := readT_le (L.drop (off + (gap (L.drop off)).1))
      rw [List.length_drop] at hrl
      rcases hX : scanF L n (done + 1) (onLine line (partL L prev (off + (gap (L.drop off)).1))) (onCol col (partL L prev (off + (gap (L.drop off)).1))) (off + (gap (L.drop off)).1) (off + (gap (L.drop off)).1 + (readT (L.drop (off + (gap (L.drop off)).1))).2.1) with f' | r
      · rw [hX] at h
        cases h
        exact scanF_code L n _ _ _ _ _ f (by omega) (by omega) hX
      · rw [hX] at h; cases h
theorem scan_code {L : List UInt8} {f : Flt} (h : scan L = .error f) : f.code ≠ 0 := by
  unfold scan at h
  split at h
  · cases h; simp
  · exact scanF_code L _ _ _ _ _ _ f (by omega) (by omega) h

theorem scan_apart {s t : List UInt8} {a b : List Tok} (ha : scan s = .ok a) (hb : scan t = .ok b) (h1 : s.length + t.length ≤ 60000) (h2 : a.length + b.length ≤ 16000) :
    ∃ c, scan (s ++ 10 :: t) = .ok c ∧ c.map (·.tk) = (a.map (·.tk)).dropLast ++ b.map (·.tk) ∧ 0 < a.length ∧ 0 < b.length := by
  obtain ⟨a1, _, _⟩ := scan_toks ha
  obtain ⟨b1, _, _⟩ := scan_toks hb
  have hna := toks_ne _ _ a1
  have hnb := toks_ne _ _ b1
  have h := toks_apart t _ b1 (s.length + 1) s _ (by omega) a1
  obtain ⟨c, c1, c2⟩ := toks_scan (L := s ++ 10 :: t) (by simp; omega) h (by simp; omega)
  refine ⟨c, c1, c2, ?_, ?_⟩
  · rcases a with _ | ⟨x, y⟩
    · exact absurd rfl hna
    · simp
  · rcases b with _ | ⟨x, y⟩
    · exact absurd rfl hnb
    · simp

theorem bare_tk (x : List Tok) : (x.map Tok.r).map RTok.bare = (x.map (·.tk)).map fun t => (⟨t.kind, ⟨t.text.toArray⟩, t.num, 0, 0, 0⟩ : RTok) := by
  simp only [List.map_map]; rfl
theorem bare_apart {a b c : List Tok} (h : c.map (·.tk) = (a.map (·.tk)).dropLast ++ b.map (·.tk)) : (c.map Tok.r).map RTok.bare = ((a.map Tok.r).take (a.length - 1)).map RTok.bare ++ (b.map Tok.r).map RTok.bare := by
  rw [bare_tk, bare_tk, h, List.map_append]
  congr 1
  rw [← List.map_take, bare_tk, List.map_take, List.dropLast_eq_take, List.length_map]

theorem TokSl.take {w : World} {g cap n k : Nat} {xs : List RTok} (h : rowsAt w g xs) : rowsAt w g (xs.take k) := by
  intro j x hj
  rw [List.getElem?_take] at hj
  split at hj
  · exact h j x hj
  · cases hj

theorem slice_of {w : World} {v : Value} {l : List Tok} (h : TokSl w v (l.map Tok.r)) (h0 : 0 < l.length) : ∃ g cap, v = .slice (some ⟨g, 0, none⟩) l.length cap ∧ rowsAt w g (l.map Tok.r) ∧ g < w.heap.size ∧ l.length ≤ cap := by
  rcases h with ⟨_, h⟩ | ⟨g, c, h1, h2, h3, h4⟩
  · have := congrArg List.length h; simp at this; rw [this] at h0; simp at h0
  · rw [List.length_map] at h1 h4; exact ⟨g, c, h1, h2, h3, h4⟩

theorem own_shape {w : World} {B n : Nat} {v : Value} {xs : List Value} (h : w.ownsRow B 37 6 v n xs) (h0 : 0 < n) : ∃ g cap, v = .slice (some ⟨g, 0, none⟩) n cap ∧ ∀ j u, xs[j]? = some u → w.cell? ((⟨g, 0, none⟩ : Addr).add j) = some u := by
  rcases h.2 with ⟨_, h⟩ | ⟨g, cap, cur, rfl, hg, hcur, hcap, _, hsz, htake⟩
  · omega
  · refine ⟨g, cap, rfl, fun j u hj => ?_⟩
    have hadd : (⟨g, 0, none⟩ : Addr).add j = ⟨g, j, none⟩ := by unfold Addr.add; split <;> simp_all
    have hjl : j < xs.length := (List.getElem?_eq_some_iff.1 hj).1
    rw [h.1] at hjl
    rw [← htake, List.getElem?_take_of_lt hjl] at hj
    rw [hadd]
    simp only [World.cell?, hcur]
    simpa using hj
theorem cells_one (l : List RTok) : ∀ u ∈ l.flatMap RTok.cells, u.oneCell' = true := by
  intro u hu
  obtain ⟨x, _, hx⟩ := List.mem_flatMap.1 hu
  simp only [RTok.cells, List.mem_cons, List.not_mem_nil, or_false] at hx
  rcases hx with rfl | rfl | rfl | rfl | rfl | rfl <;> rfl

theorem plain_own {v : Value} {xs : List RTok} {w : World} (h : TokSl w v xs) (hN : xs.length * 56 ≤ 140737488355328) :
    Calls Tryd.prog 7 #[v] w fun e w' => ∃ v', e = .returned v' ∧ w'.ownsRow w.heap.size 37 6 v' (xs.map RTok.bare).length ((xs.map RTok.bare).flatMap RTok.cells) ∧ Below w.heap.size w w' := by
  refine (plain_c v xs w h hN).mono ?_
  rintro e w' ⟨v', rfl, hown, hb⟩
  exact ⟨v', rfl, by rw [List.length_map]; exact hown, hb⟩

set_option maxRecDepth 100000 in
set_option maxHeartbeats 4000000 in
theorem tokenApart_c (s t : ByteArray) (w : World) (mx : Int) (hs : s.size ≤ 9223372036854775807) (ht : t.size ≤ 9223372036854775807) (hm : w.cell? ⟨0, 0, none⟩ = some (.int .i64 mx)) :
    Calls Tryd.prog 3 #[.string s, .string t] w fun e w' => e = .returned (.bool true) ∧ Below w.heap.size w w' := by
  have hmb : 0 < w.heap.size := World.block_lt_of_cell? w _ hm
  have cS := scan_c s w mx hs hm
  have cT : ∀ W : World, Below w.heap.size w W → Calls Tryd.prog 5 #[.string t] W (ScanPost W (scan t.data.toList)) := fun W hW => scan_c t W mx ht ((hW.cell (p := ⟨0, 0, none⟩) hmb).trans hm)
  have cH : ∀ W : World, Below w.heap.size w W → Calls Tryd.prog 6 #[] W fun e w' => e = .returned (.bool true) ∧ Below W.heap.size W w' := fun W hW => heads_c W mx ((hW.cell (p := ⟨0, 0, none⟩) hmb).trans hm)
  have cTany : ∀ W : World, Below w.heap.size w W → Calls Tryd.prog 5 #[.string t] W fun e w' => Below W.heap.size W w' ∧ ∃ (v2 : Value) (c l k o : Int), e = .returned (.tuple #[v2, .agg #[.int .i64 c, .int .i64 l, .int .i64 k, .int .i64 o]]) := fun W hW => by
    refine (cT W hW).mono ?_
    rintro e w' ⟨hb, h⟩
    rcases hX : scan t.data.toList with f | b
    · rw [hX] at h
      exact ⟨hb, .slice none 0 0, f.code, f.line, f.col, f.off, h⟩
    · rw [hX] at h
      obtain ⟨v, h, _⟩ := h
      exact ⟨hb, v, 0, 0, 0, 0, h⟩
  rcases hR : scan s.data.toList with f | a
  · rw [hR] at cS
    have hcf := scan_code hR
    obtain ⟨code, line, col, off⟩ := f
    simp only at hcf
    have hc0 : ¬ ((code : Int) = 0) := by omega
    unfold ScanPost at cS
    simp only [fltV] at cS
    clear hR hcf cT
    go_enter Tryd.func3, Tryd.ntmps3
    go_wp2_with (first | (go_at_call 5; refine cS.mono ?_; rintro e w1 ⟨hb1, rfl⟩; have HB1 : Hid (Below w.heap.size w (w1.alloc (.cells #[.int .i64 code, .int .i64 line, .int .i64 col, .int .i64 off] 27))) := hb1.alloc hb1.size _; have HF : Hid _ := heap_in0 w1 (.cells #[.int .i64 code, .int .i64 line, .int .i64 col, .int .i64 off] 27); clear cS hb1) | (go_at_call 5; refine (cTany _ HB1.out).mono ?_; rintro e w2 ⟨hb2, v2, c2, l2, k2, o2, rfl⟩; have HB2 : Hid (Below w.heap.size w w2) := HB1.out.trans (hb2.mono HB1.out.size); obtain ⟨f0, f1, f2, f3, _, _, _, _⟩ := flt_cells ((hb2.block w1.heap.size (by simp)).trans HF.out); have h12 : w1.heap.size < w2.heap.size := (by have := hb2.size; simp at this; omega); clear cTany hb2) | (go_at_call 6; refine (cH _ (HB2.out.alloc HB2.out.size _)).mono ?_; rintro e w3 ⟨rfl, hb3⟩))
    go_ret
    exact ⟨rfl, (HB2.out.alloc HB2.out.size _).trans (hb3.mono (Nat.le_trans HB2.out.size (by simp)))⟩
  · rw [hR] at cS
    unfold ScanPost at cS
    simp only [fltV] at cS
    rcases hR2 : scan t.data.toList with f | b
    · rw [hR2] at cT
      have hcf := scan_code hR2
      obtain ⟨code, line, col, off⟩ := f
      simp only at hcf
      have hc0 : ¬ ((code : Int) = 0) := by omega
      unfold ScanPost at cT
      simp only [fltV] at cT
      clear hR hR2 hcf cTany
      go_enter Tryd.func3, Tryd.ntmps3
      go_wp2_with (first | (go_at_call 5; refine cS.mono ?_; rintro e w1 ⟨hb1, v1, rfl, _⟩; have HB1 : Hid (Below w.heap.size w (w1.alloc (.cells #[.int .i64 0, .int .i64 0, .int .i64 0, .int .i64 0] 27))) := hb1.alloc hb1.size _; have HF : Hid _ := heap_in0 w1 (.cells #[.int .i64 0, .int .i64 0, .int .i64 0, .int .i64 0] 27); clear cS hb1) | (go_at_call 5; refine (cT _ HB1.out).mono ?_; rintro e w2 ⟨hb2, rfl⟩; have HB2 : Hid (Below w.heap.size w w2) := HB1.out.trans (hb2.mono HB1.out.size); obtain ⟨f0, f1, f2, f3, _, _, _, _⟩ := flt_cells ((hb2.block w1.heap.size (by simp)).trans HF.out); have h12 : w1.heap.size < w2.heap.size := (by have := hb2.size; simp at this; omega); clear cT hb2) | (go_at_call 6; refine (cH _ (HB2.out.alloc HB2.out.size _)).mono ?_; rintro e w3 ⟨rfl, hb3⟩))
      go_ret
      exact ⟨rfl, (HB2.out.alloc HB2.out.size _).trans (hb3.mono (Nat.le_trans HB2.out.size (by simp)))⟩
    · rw [hR2] at cT
      unfold ScanPost at cT
      simp only [fltV] at cT
      clear cTany
      obtain ⟨_, ha16, ha65⟩ := scan_toks hR
      obtain ⟨_, hb16, hb65⟩ := scan_toks hR2
      have hsz1 : s.size ≤ 65536 := by simpa using ha65
      have hsz2 : t.size ≤ 65536 := by simpa using hb65
      have HS1 : Hid _ := hR
      have HS2 : Hid _ := hR2
      clear hR hR2 ha65 hb65
      by_cases hbig : 60000 < s.size + t.size ∨ 16000 < a.length + b.length
      · have hla : 0 < a.length := by
          obtain ⟨h, _, _⟩ := scan_toks HS1.out
          rcases a with _ | ⟨x, y⟩
          · exact absurd rfl (toks_ne _ _ h)
          · simp
        have hlb : 0 < b.length := by
          obtain ⟨h, _, _⟩ := scan_toks HS2.out
          rcases b with _ | ⟨x, y⟩
          · exact absurd rfl (toks_ne _ _ h)
          · simp
        clear HS1 HS2
        by_cases hbig1 : 60000 < s.size + t.size
        · have g1 : (60000 : Int) < (s.size : Int) + t.size := by omega
          clear hbig
          go_enter Tryd.func3, Tryd.ntmps3
          go_wp2_with (first | (go_at_call 5; refine cS.mono ?_; rintro e w1 ⟨hb1, v1, rfl, hown⟩; obtain ⟨ga, capa, rfl, hra, hgal, hcapa⟩ := slice_of (scan_tokSl hown) (by simpa using hla); have HB1 : Hid (Below w.heap.size w (w1.alloc (.cells #[.int .i64 0, .int .i64 0, .int .i64 0, .int .i64 0] 27))) := hb1.alloc hb1.size _; have HF : Hid _ := heap_in0 w1 (.cells #[.int .i64 0, .int .i64 0, .int .i64 0, .int .i64 0] 27); clear cS hb1 hown hra) | (go_at_call 5; refine (cT _ HB1.out).mono ?_; rintro e w2 ⟨hb2, v2, rfl, hown⟩; obtain ⟨gb, capb, rfl, hrb, hgbl, hcapb⟩ := slice_of (scan_tokSl hown) (by simpa using hlb); have HB2 : Hid (Below w.heap.size w (w2.alloc (.cells #[.int .i64 0, .int .i64 0, .int .i64 0, .int .i64 0] 27))) := (HB1.out.trans (hb2.mono HB1.out.size)).alloc (Nat.le_trans HB1.out.size hb2.size) _; obtain ⟨f0, f1, f2, f3, _, _, _, _⟩ := flt_cells ((hb2.block w1.heap.size (by simp)).trans HF.out); have h12 : w1.heap.size < w2.heap.size := (by have := hb2.size; simp at this; omega); clear cT hb2 hown hrb HB1 HF) | (go_at_call 6; refine (cH _ HB2.out).mono ?_; rintro e w3 ⟨rfl, hb3⟩))
          go_ret
          exact ⟨rfl, HB2.out.trans (hb3.mono HB2.out.size)⟩
        · have g1 : ¬ ((60000 : Int) < (s.size : Int) + t.size) := by omega
          have g2 : (16000 : Int) < (a.length : Int) + b.length := by omega
          clear hbig
          go_enter Tryd.func3, Tryd.ntmps3
          go_wp2_with (first | (go_at_call 5; refine cS.mono ?_; rintro e w1 ⟨hb1, v1, rfl, hown⟩; obtain ⟨ga, capa, rfl, hra, hgal, hcapa⟩ := slice_of (scan_tokSl hown) (by simpa using hla); have HB1 : Hid (Below w.heap.size w (w1.alloc (.cells #[.int .i64 0, .int .i64 0, .int .i64 0, .int .i64 0] 27))) := hb1.alloc hb1.size _; have HF : Hid _ := heap_in0 w1 (.cells #[.int .i64 0, .int .i64 0, .int .i64 0, .int .i64 0] 27); clear cS hb1 hown hra) | (go_at_call 5; refine (cT _ HB1.out).mono ?_; rintro e w2 ⟨hb2, v2, rfl, hown⟩; obtain ⟨gb, capb, rfl, hrb, hgbl, hcapb⟩ := slice_of (scan_tokSl hown) (by simpa using hlb); have HB2 : Hid (Below w.heap.size w (w2.alloc (.cells #[.int .i64 0, .int .i64 0, .int .i64 0, .int .i64 0] 27))) := (HB1.out.trans (hb2.mono HB1.out.size)).alloc (Nat.le_trans HB1.out.size hb2.size) _; obtain ⟨f0, f1, f2, f3, _, _, _, _⟩ := flt_cells ((hb2.block w1.heap.size (by simp)).trans HF.out); have h12 : w1.heap.size < w2.heap.size := (by have := hb2.size; simp at this; omega); clear cT hb2 hown hrb HB1 HF) | (go_at_call 6; refine (cH _ HB2.out).mono ?_; rintro e w3 ⟨rfl, hb3⟩))
          go_ret
          exact ⟨rfl, HB2.out.trans (hb3.mono HB2.out.size)⟩
      · have hb1' : s.size + t.size ≤ 60000 := by omega
        have hb2' : a.length + b.length ≤ 16000 := by omega
        obtain ⟨c, hc1, hc2, hla, hlb⟩ := scan_apart HS1.out HS2.out (by simpa using hb1') hb2'
        have hbr := bare_apart hc2
        have hcl : c.length = a.length - 1 + b.length := by have := congrArg List.length hc2; simpa using this
        have hx : (s ++ ByteArray.mk #[10] ++ t).data.toList = s.data.toList ++ 10 :: t.data.toList := by simp
        have cU : ∀ W : World, Below w.heap.size w W → Calls Tryd.prog 5 #[.string (s ++ ByteArray.mk #[10] ++ t)] W (ScanPost W (.ok c)) := fun W hW => by
          have := scan_c (s ++ ByteArray.mk #[10] ++ t) W mx (by rw [ByteArray.size_append, ByteArray.size_append, show (ByteArray.mk #[10]).size = 1 from rfl]; omega) ((hW.cell (p := ⟨0, 0, none⟩) hmb).trans hm)
          rw [hx, hc1] at this; exact this
        unfold ScanPost at cU
        simp only [fltV] at cU
        have HBR : Hid _ := hbr
        have HCL : Hid _ := hcl
        have g1 : ¬ ((60000 : Int) < (s.size : Int) + t.size) := by omega
        have g2 : ¬ ((16000 : Int) < (a.length : Int) + b.length) := by omega
        clear hbr hcl hc1 hc2 hx HS1 HS2 hbig
        go_enter Tryd.func3, Tryd.ntmps3
        go_wp2_with (first | (go_at_call 5; refine cS.mono ?_; rintro e w1 ⟨hb1, v1, rfl, hown⟩; obtain ⟨ga, capa, rfl, hra, hgal, hcapa⟩ := slice_of (scan_tokSl hown) (by simpa using hla); have HB1 : Hid (Below w.heap.size w (w1.alloc (.cells #[.int .i64 0, .int .i64 0, .int .i64 0, .int .i64 0] 27))) := hb1.alloc hb1.size _; have HF : Hid _ := heap_in0 w1 (.cells #[.int .i64 0, .int .i64 0, .int .i64 0, .int .i64 0] 27); have HA1 : Hid (rowsAt w1 ga _) := hra; clear cS hb1 hown hra) | (go_at_call 5; refine (cT _ HB1.out).mono ?_; rintro e w2 ⟨hb2, v2, rfl, hown⟩; obtain ⟨gb, capb, rfl, hrb, hgbl, hcapb⟩ := slice_of (scan_tokSl hown) (by simpa using hlb); have HB2 : Hid (Below w.heap.size w (w2.alloc (.cells #[.int .i64 0, .int .i64 0, .int .i64 0, .int .i64 0] 27))) := (HB1.out.trans (hb2.mono HB1.out.size)).alloc (Nat.le_trans HB1.out.size hb2.size) _; obtain ⟨f0, f1, f2, f3, _, _, _, _⟩ := flt_cells ((hb2.block w1.heap.size (by simp)).trans HF.out); have h12 : w1.heap.size < w2.heap.size := (by have := hb2.size; simp at this; omega); have HA2 : Hid (rowsAt w2 ga _) := HA1.out.below (((Below.refl _ w1).alloc (Nat.le_refl _) _).trans (hb2.mono (by simp))) hgal; have HBb : Hid (rowsAt w2 gb _) := hrb; have hga2 : ga < w2.heap.size := (by omega); clear cT hb2 hown hrb HA1 HB1 HF) | (go_at_call 5; refine (cU _ HB2.out).mono ?_; rintro e w3 ⟨hb3, v3, rfl, hown⟩; obtain ⟨gc, capc, rfl, hrc, hgcl, hcapc⟩ := slice_of (scan_tokSl hown) (by rw [HCL.out]; omega); have HB3 : Hid (Below w.heap.size w w3) := HB2.out.trans (hb3.mono HB2.out.size); have HA3 : Hid (rowsAt w3 ga _) := HA2.out.below (((Below.refl _ w2).alloc (Nat.le_refl _) _).trans (hb3.mono (by simp))) hga2; have HBb3 : Hid (rowsAt w3 gb _) := HBb.out.below (((Below.refl _ w2).alloc (Nat.le_refl _) _).trans (hb3.mono (by simp))) hgbl; have hga3 : ga < w3.heap.size := (by have := hb3.size; simp at this; omega); have hgb3 : gb < w3.heap.size := (by have := hb3.size; simp at this; omega); have HC3 : Hid (rowsAt w3 gc _) := hrc; have hci : (c.length : Int) = (a.length : Int) - 1 + b.length := (by have := HCL.out; omega); clear cU hb3 hown hrc HA2 HB2 HBb))
        generalize hW3 : w3.alloc (.cells #[.int .i64 0, .int .i64 0, .int .i64 0, .int .i64 0] 27) = W3
        have hbW : Below w3.heap.size w3 W3 := by rw [← hW3]; exact (Below.refl _ w3).alloc (Nat.le_refl _) _
        have HBW : Hid (Below w.heap.size w W3) := HB3.out.trans (hbW.mono HB3.out.size)
        have HTA : Hid (TokSl W3 (.slice (some ⟨ga, 0, none⟩) (a.length - 1) capa) ((a.map Tok.r).take (a.length - 1))) := TokSl.below (.inr ⟨ga, capa, by simp, TokSl.take (cap := 0) (n := 0) HA3.out, hga3, by simp; omega⟩) hbW
        have HTB : Hid (TokSl W3 (.slice (some ⟨gb, 0, none⟩) b.length capb) (b.map Tok.r)) := TokSl.below (.inr ⟨gb, capb, by simp, HBb3.out, hgb3, by simpa using hcapb⟩) hbW
        have HTC : Hid (TokSl W3 (.slice (some ⟨gc, 0, none⟩) c.length capc) (c.map Tok.r)) := TokSl.below (.inr ⟨gc, capc, by simp, HC3.out, hgcl, by simpa using hcapc⟩) hbW
        have hgW : gc < W3.heap.size := Nat.lt_of_lt_of_le hgcl hbW.size
        clear hW3 hbW HA3 HBb3 HC3 HB3
        obtain ⟨i0, hi, hz0, hz1, hz2⟩ := info_parts info_tok
        have cP1 := plain_own HTA.out (by simp; omega)
        go_wp2_with (go_at_call 7; refine cP1.mono ?_; rintro e w4 ⟨va, rfl, hoa, hb4⟩; have HOA : Hid (w4.ownsRow W3.heap.size 37 6 va _ _) := hoa; have HB4 : Hid (Below w.heap.size w w4) := HBW.out.trans (hb4.mono HBW.out.size); have HTB4 : Hid (TokSl w4 _ _) := HTB.out.below hb4; have HTC4 : Hid (TokSl w4 _ _) := HTC.out.below hb4; have h34 := hb4.size; clear cP1 hoa hb4)
        have cP2 := plain_own HTB4.out (by simp; omega)
        go_wp2_with (first | (go_at_call 7; refine cP2.mono ?_; rintro e w5 ⟨vb, rfl, hob, hb5⟩; have HOA5 : Hid (w5.ownsRow W3.heap.size 37 6 va _ _) := own_below HOA.out hb5; have HB5 : Hid (Below w.heap.size w w5) := HB4.out.trans (hb5.mono HB4.out.size); have HTC5 : Hid (TokSl w5 _ _) := HTC4.out.below hb5; have h45 := hb5.size; obtain ⟨g5, cap5, rfl, hnews⟩ := own_shape hob (by simpa using hlb); have HNW : Hid _ := hnews; clear cP2 hob hb5 hnews HOA) | (at_builtin; go_must (refine wpList_append_own _ rfl (.tmp 74) (.tmp 76) 22 rfl W3.heap.size 37 i0 _ 6 56 Tryd.underlying22 hi hz0 hz1 hz2 rfl (by decide) _ _ _ rfl HOA5.out ⟨g5, 0, none⟩ _ cap5 _ rfl (by rw [rflat_len, List.length_map, List.length_map]) HNW.out (cells_one _) ?c3 ?c4 ?c5 ?_)))
        case c3 => first | omega | (simp [maxLen]; omega)
        case c4 => first | omega | (simp; omega)
        case c5 => first | omega | (simp; omega)
        intro v6 w6 hown6 hgrow6 _
        have H6 : Hid (TokSl w6 v6 ((c.map Tok.r).map RTok.bare)) := by
          refine own_tokSl (B := W3.heap.size) ?_
          rw [List.length_map, List.length_map, HCL.out, HBR.out, List.flatMap_append]
          simpa using hown6
        have hb6 : Below W3.heap.size w5 w6 := (Below.refl _ w5).grown hgrow6 (by omega) (fun k hk => (HOA5.out.lt k hk).1)
        have HB6 : Hid (Below w.heap.size w w6) := HB5.out.trans (hb6.mono HBW.out.size)
        have HC6 : Hid (TokSl w6 (.slice (some ⟨gc, 0, none⟩) c.length capc) (c.map Tok.r)) := by
          rcases HTC5.out with ⟨h, _⟩ | ⟨g', c', h1, h2, h3, h4⟩
          · cases h
          · rw [List.length_map] at h1
            cases h1
            exact .inr ⟨gc, capc, by simp, h2.below hb6 hgW, by have := hb6.size; omega, h4⟩
        clear hown6 hgrow6 hb6 HTC5 HOA5 HNW
        have cP3 := plain_own HC6.out (by rw [List.length_map, HCL.out]; omega)
        go_wp2_with (go_at_call 7; refine cP3.mono ?_; rintro e w7 ⟨v7, rfl, ho7, hb7⟩; have H7 : Hid (TokSl w7 v7 _) := own_tokSl ho7; have H67 : Hid (TokSl w7 v6 _) := H6.out.below hb7; have HB7 : Hid (Below w.heap.size w w7) := HB6.out.trans (hb7.mono HB6.out.size); clear cP3 ho7 hb7)
        have cE := same_c v7 v6 _ w7 H7.out H67.out (by rw [List.length_map, List.length_map, HCL.out]; omega)
        go_wp2_with (go_at_call 8; refine cE.mono ?_; rintro e w8 ⟨rfl, q, rfl⟩; have HB8 : Hid (Below w.heap.size w (w7.drewN q)) := below_drewN HB7.out q; clear cE)
        go_wp2_with (go_at_call 6; refine (cH _ HB8.out).mono ?_; rintro e w9 ⟨rfl, hb9⟩)
        go_ret
        exact ⟨rfl, HB8.out.trans (hb9.mono HB8.out.size)⟩
end Go.Proofs.YtmcghikanhhkfabDoor
