/-
  What the statement TokenSilent answers: true, at every text and every marks.
-/
import Derived.Test.YtmcghikanhhkfaaDoorHeads
import Derived.Test.YtmcghikanhhkfaaDoorFirst
import Derived.Test.YtmcghikanhhkfaaDoorSameP
import Derived.Test.YtmcghikanhhkfaaDoorLen
import Derived.Test.YtmcghikanhhkfaaDoorTab
namespace Go.Proofs.YtmcghikanhhkfaaDoor
open Go.RowKit
set_option linter.unusedVariables false

/-- The value v is a slice that holds the bytes of m, len of them. -/
def MarkSl (w : World) (v : Value) (len : Nat) (m : Nat → Nat) : Prop :=
  ∃ ao cap, v = .slice ao len cap ∧ len ≤ maxLen ∧ len ≤ cap ∧ ∀ i, i < len → m i < 256 ∧ ∃ a, ao = some a ∧ w.cell? (a.add i) = some (.int .u8 (m i))

def gapAt (len : Nat) (m : Nat → Nat) (i : Nat) : List UInt8 := gapTexts.getD (if i < len then m i % 6 else 0) [32]
theorem gapAt_mem (len : Nat) (m : Nat → Nat) (i : Nat) : gapAt len m i ∈ gapTexts := by
  unfold gapAt
  have h : (if i < len then m i % 6 else 0) < 6 := by split <;> omega
  generalize (if i < len then m i % 6 else 0) = j at h
  rcases (by omega : j = 0 ∨ j = 1 ∨ j = 2 ∨ j = 3 ∨ j = 4 ∨ j = 5) with rfl | rfl | rfl | rfl | rfl | rfl <;> simp [gapTexts]
def gapList (len : Nat) (m : Nat → Nat) (n : Nat) : List (List UInt8) := (List.range n).map (gapAt len m)
def silText (ts : List Tk) (len : Nat) (m : Nat → Nat) (k : Nat) : List UInt8 := 10 :: gapped (ts.take k) (gapList len m k)
theorem silText_succ (ts : List Tk) (len : Nat) (m : Nat → Nat) (k : Nat) (t : Tk) (h : ts[k]? = some t) : silText ts len m (k + 1) = silText ts len m k ++ (tkText t ++ 32 :: gapAt len m k) := by
  have hk : k < ts.length := (List.getElem?_eq_some_iff.1 h).1
  unfold silText
  have h1 : ts.take (k + 1) = ts.take k ++ [t] := by rw [List.take_add_one, h]; rfl
  have h2 : gapList len m (k + 1) = gapList len m k ++ [gapAt len m k] := by unfold gapList; rw [List.range_succ, List.map_append]; rfl
  rw [h1, h2, gapped_snoc _ _ _ _ (by unfold gapList; simp; omega)]
  rfl

theorem scan_silText (L : List UInt8) (l : List Tok) (h : scan L = .ok l) (len : Nat) (m : Nat → Nat) (hs : (silText (l.map (·.tk)) len m l.length).length < 60000) : ∃ r, scan (silText (l.map (·.tk)) len m l.length) = .ok r ∧ r.map (·.tk) = l.map (·.tk) := by
  obtain ⟨h1, h2, h3⟩ := scan_toks h
  obtain ⟨h4, h5⟩ := toks_tks (L.length + 1) L _ (by omega) h1
  refine toks_scan (by omega) ?_ (by simpa using h2)
  unfold silText
  rw [toks_blank 10 (by decide), List.take_of_length_le (by simp)]
  refine toks_gapped _ _ ?_ h4 h5
  intro g hg
  unfold gapList at hg
  obtain ⟨i, _, rfl⟩ := List.mem_map.1 hg
  exact gapAt_mem len m i

theorem cat4 (A B C : List UInt8) : ((ByteArray.mk A.toArray ++ ByteArray.mk B.toArray) ++ ByteArray.mk #[32]) ++ ByteArray.mk C.toArray = ⟨(A ++ (B ++ 32 :: C)).toArray⟩ := by
  rw [str_app, str_app, str_app]
  simp

theorem bare_r (t : Tok) : t.r.bare = ⟨t.tk.kind, ⟨t.tk.text.toArray⟩, t.tk.num, 0, 0, 0⟩ := rfl
theorem bare_of_tk {l r : List Tok} (h : r.map (·.tk) = l.map (·.tk)) : (r.map Tok.r).map RTok.bare = (l.map Tok.r).map RTok.bare := by
  have e : ∀ x : List Tok, (x.map Tok.r).map RTok.bare = (x.map (·.tk)).map fun t => (⟨t.kind, ⟨t.text.toArray⟩, t.num, 0, 0, 0⟩ : RTok) := by
    intro x; simp only [List.map_map]; rfl
  rw [e, e, h]

theorem plain_sl {v : Value} {xs : List RTok} {w : World} (h : TokSl w v xs) (hN : xs.length * 56 ≤ 140737488355328) :
    Calls Tryd.prog 17 #[v] w fun e w' => ∃ v', e = .returned v' ∧ TokSl w' v' (xs.map RTok.bare) ∧ Below w.heap.size w w' := by
  refine (plain_c v xs w h hN).mono ?_
  rintro e w' ⟨v', rfl, hown, hb⟩
  exact ⟨v', rfl, own_tokSl (B := w.heap.size) (by rw [List.length_map]; exact hown), hb⟩

theorem code_range {L : List UInt8} {f : Flt} (h : scan L = .error f) : 20 ≤ f.code ∧ f.code ≤ 26 := by
  by_cases hl : 65536 < L.length
  · rw [scan_long_code L hl] at h; cases h; decide
  · obtain ⟨h1, _⟩ := scan_first L f (by omega) h
    rcases h1.code with h | h | h | h | h | h <;> omega

set_option maxRecDepth 100000 in
set_option maxHeartbeats 4000000 in
theorem tokenSilent_c (s : ByteArray) (mv : Value) (len : Nat) (m : Nat → Nat) (w : World) (mx : Int) (hs : s.size ≤ 9223372036854775807) (hm : w.cell? ⟨0, 0, none⟩ = some (.int .i64 mx)) (hT : Tabs w) (hM : MarkSl w mv len m) :
    Calls Tryd.prog 5 #[.string s, mv] w fun e w' => e = .returned (.bool true) ∧ Below w.heap.size w w' := by
  have hmb : 0 < w.heap.size := World.block_lt_of_cell? w _ hm
  have cS := scan_c s w mx hs hm
  have cM := fun n W => num_c n W
  have cH : ∀ W : World, Below w.heap.size w W → Calls Tryd.prog 13 #[] W fun e w' => e = .returned (.bool true) ∧ Below W.heap.size W w' := fun W hW => heads_c W mx ((hW.cell (p := ⟨0, 0, none⟩) hmb).trans hm)
  obtain ⟨ao, cap, rfl, hlm, hcapm, hmc⟩ := hM
  rcases hR : scan s.data.toList with f | l
  · rw [hR] at cS
    have hcr := code_range hR
    obtain ⟨code, line, col, off⟩ := f
    simp only at hcr
    unfold ScanPost at cS
    simp only [fltV] at cS
    have hc0 : ¬ ((code : Int) = 0) := by omega
    have hc1 : (20 : Int) ≤ code := by omega
    have hc2 : (code : Int) ≤ 26 := by omega
    clear hR hmc
    go_enter Tryd.func5, Tryd.ntmps5
    go_wp2_with (first | (go_at_call 16; refine cS.mono ?_; rintro e w1 ⟨hb1, rfl⟩; have HB1 : Hid (Below w.heap.size w w1) := hb1; clear hb1 cS) | (go_at_call 15; refine (cM _ _).mono ?_; rintro e w' ⟨rfl, rfl⟩) | (go_at_call 13; refine (cH _ (HB1.out.alloc HB1.out.size _)).mono ?_; rintro e w2 ⟨rfl, hb2⟩))
    go_ret
    exact ⟨rfl, (HB1.out.alloc HB1.out.size _).trans (hb2.mono (Nat.le_trans HB1.out.size (by simp)))⟩
  · rw [hR] at cS
    obtain ⟨htk, hl16, hL65⟩ := scan_toks hR
    have hcan := toks_can htk
    have hln := toks_len (s.data.toList.length + 1) s.data.toList _ (by omega) htk
    have hne : l ≠ [] := fun e => toks_ne _ _ htk (by rw [e]; rfl)
    have hl0 : 0 < l.length := by rcases l with _ | ⟨a, b⟩; exact absurd rfl hne; simp
    unfold ScanPost at cS
    simp only [fltV] at cS
    have HSC : Hid (scan s.data.toList = .ok l) := hR
    have HLN : Hid (∀ t ∈ l.map (·.tk), tkCan t = true ∧ t.text.length ≤ 65549) := fun t ht => ⟨hcan t ht, by have := hln t ht; omega⟩
    have HMC : Hid _ := hmc
    clear hR htk hcan hln hne hmc hL65
    go_enter Tryd.func5, Tryd.ntmps5
    go_wp2_with (go_at_call 16; refine cS.mono ?_)
    rintro e w1 ⟨hb1, v, rfl, hown⟩
    have hsl := scan_tokSl hown
    obtain ⟨g, capv, rfl, hrows, hgl, hcapv⟩ : ∃ g capv, v = .slice (some ⟨g, 0, none⟩) l.length capv ∧ rowsAt w1 g (l.map Tok.r) ∧ g < w1.heap.size ∧ l.length ≤ capv := by
      rcases hsl with ⟨_, h⟩ | ⟨g, c, h1, h2, h3, h4⟩
      · have := congrArg List.length h; simp at this; rw [this] at hl0; simp at hl0
      · rw [List.length_map] at h1 h4; exact ⟨g, c, h1, h2, h3, h4⟩
    have HB1 : Hid (Below w.heap.size w w1) := hb1
    have HRW : Hid (rowsAt w1 g (l.map Tok.r)) := hrows
    clear cS hown hsl hb1 hrows
    go_wp2
    generalize hw2 : (w1.alloc (.cells #[.int .i64 0, .int .i64 0, .int .i64 0, .int .i64 0] 34)).alloc _ = w2
    have hszB : w1.heap.size + 1 < w2.heap.size := by rw [← hw2]; simp
    have HB2 : Hid (Below w.heap.size w w2) := by rw [← hw2]; exact (HB1.out.alloc HB1.out.size _).alloc (Nat.le_trans HB1.out.size (by simp)) _
    have HRW2 : Hid (rowsAt w2 g (l.map Tok.r)) := by rw [← hw2]; exact HRW.out.below (((Below.refl _ w1).alloc (Nat.le_refl _) _).alloc (by simp) _) hgl
    have HG2 : Hid (∀ j, j < 6 → w2.cell? ⟨w1.heap.size + 1, j, none⟩ = some (.string ⟨(gapTexts.getD j [32]).toArray⟩)) := by
      intro j hj
      rw [← hw2]
      have e : (w1.heap.size + 1) = (w1.alloc (.cells #[.int .i64 0, .int .i64 0, .int .i64 0, .int .i64 0] 34)).heap.size := by simp
      rw [e, World.cell?_alloc_mark]
      rcases (by omega : j = 0 ∨ j = 1 ∨ j = 2 ∨ j = 3 ∨ j = 4 ∨ j = 5) with rfl | rfl | rfl | rfl | rfl | rfl <;> rfl
    have hgl2 : g < w2.heap.size := by omega
    have HTB2 : Hid (Tabs w2) := hT.below HB2.out
    clear hw2 HRW HB1 hgl
    generalize w1.heap.size + 1 = G at *
    generalize w1.heap.size = F at *
    go_loopw [8, 9] (fun tv i wr => ∃ (k : Nat), k ≤ l.length ∧ i = .int .i64 k ∧ tv = .string ⟨(silText (l.map (·.tk)) len m k).toArray⟩ ∧ (silText (l.map (·.tk)) len m k).length ≤ 1000000 ∧ Hid (rowsAt wr g (l.map Tok.r)) ∧ Hid (∀ j, j < 6 → wr.cell? ⟨G, j, none⟩ = some (.string ⟨(gapTexts.getD j [32]).toArray⟩)) ∧ Hid (Below w.heap.size w wr) ∧ Hid (Tabs wr) ∧ g < wr.heap.size ∧ G < wr.heap.size) (fun _ i _ => l.length - (intOf i).toNat)
    case atStart => exact ⟨0, Nat.zero_le _, rfl, rfl, by simp [silText, gapped], HRW2, HG2, HB2, HTB2, hgl2, hszB⟩
    case round =>
      obtain ⟨k, hk, rfl, rfl, hlT, HRW, HG, HB, HTB, hgl, hGl⟩ := hrel
      clear HRW2 HG2 HB2 HTB2 hgl2 hszB
      by_cases hlt : k < l.length
      · obtain ⟨x, hx⟩ : ∃ x, l[k]? = some x := ⟨l[k], List.getElem?_eq_getElem hlt⟩
        have hxm : x.tk ∈ l.map (·.tk) := List.mem_map.2 ⟨x, List.mem_of_getElem? hx, rfl⟩
        obtain ⟨hxc, hxl⟩ := HLN.out x.tk hxm
        have hxT := tkText_len x.tk hxc
        have hsucc := silText_succ (l.map (·.tk)) len m k x.tk (by rw [List.getElem?_map, hx]; rfl)
        have hgm : (gapAt len m k).length ≤ 10 := by
          have := gapAt_mem len m k
          have hall : ∀ y ∈ gapTexts, y.length ≤ 10 := by decide
          exact hall _ this
        obtain ⟨a0, a1, a2, a3, a4, a5⟩ := tok_range (HRW.out k x.r (by rw [List.getElem?_map, hx]; rfl))
        have cW := tWrite_c x.tk.kind x.tk.num x.line x.col x.off ⟨x.tk.text.toArray⟩ wr (by show 4 * x.tk.text.toArray.size + 2 ≤ _; simp; omega) (fun _ W hW h1 h2 => itoa_at (HTB.out.below hW) _ (by omega) (by have h3 : mostOf x.tk.text ≤ 4294967295 := (by unfold mostOf; split; omega; split <;> omega); have h4 : x.tk.num ≤ mostOf x.tk.text := h2; omega))
        have hwv : writeVal x.tk.kind x.tk.num x.tk.text = .tuple #[.string ⟨(tkText x.tk).toArray⟩, .int .i64 0] := by
          unfold writeVal
          have : canBeP x.tk.kind x.tk.num x.tk.text = true := hxc
          rw [this]; rfl
        rw [show (ByteArray.mk x.tk.text.toArray).data.toList = x.tk.text from rfl, hwv] at cW
        have HSUC : Hid _ := hsucc
        clear hwv hxm hsucc HLN
        simp only [Tok.r] at a0 a1 a2 a3 a4 a5
        generalize hTT : silText (l.map (·.tk)) len m k = TT at *
        generalize hXX : tkText x.tk = XX at *
        generalize hGG : gapAt len m k = GG at *
        have HTT : Hid _ := hTT
        have HGG : Hid _ := hGG
        clear hTT hXX hGG
        have htz : (ByteArray.mk TT.toArray).size = TT.length := by simp [ByteArray.size]
        by_cases h6 : TT.length < 60000
        · have h6' : (TT.length : Int) < 60000 := by omega
          by_cases hkm : k < len
          · obtain ⟨hm256, a, rfl, hma⟩ := HMC.out k hkm
            have hab : a.block < w.heap.size := by
              have := World.block_lt_of_cell? w _ hma
              rw [show (a.add k).block = a.block from by unfold Addr.add; split <;> rfl] at this
              exact this
            have hma' : wr.cell? (a.add k) = some (.int .u8 (m k)) := (HB.out.cell (p := a.add k) (by rw [show (a.add k).block = a.block from by unfold Addr.add; split <;> rfl]; exact hab)).trans hma
            have hgr : wr.cell? ⟨G, m k % 6, none⟩ = some (.string ⟨GG.toArray⟩) := by
              have h1 := HG.out (m k % 6) (by omega)
              have h2 : gapTexts.getD (m k % 6) [32] = GG := by have := HGG.out; unfold gapAt at this; rw [if_pos hkm] at this; exact this
              rw [h2] at h1; exact h1
            have habr : a.block < wr.heap.size := Nat.lt_of_lt_of_le hab HB.out.size
            go_wp2_with (first | (go_at_call 19; refine cW.mono ?_; rintro e w3 ⟨rfl, hb3⟩; have hma3 : w3.cell? (a.add k) = some (.int .u8 (m k)) := (hb3.cell (p := a.add k) (by rw [show (a.add k).block = a.block from by unfold Addr.add; split <;> rfl]; exact habr)).trans hma'; have hg3 := (hb3.cell (p := ⟨G, m k % 6, none⟩) hGl).trans hgr) | (go_at_call 15; refine (cM _ _).mono ?_; rintro e w3 ⟨rfl, rfl⟩))
            have RR : Hid (rowsAt w3 g (l.map Tok.r) ∧ (∀ j, j < 6 → w3.cell? ⟨G, j, none⟩ = some (.string ⟨(gapTexts.getD j [32]).toArray⟩)) ∧ Below w.heap.size w w3 ∧ Tabs w3) :=
              ⟨HRW.out.below hb3 hgl, fun j hj => (hb3.cell (p := ⟨G, j, none⟩) hGl).trans (HG.out j hj), HB.out.trans (hb3.mono HB.out.size), HTB.out.below hb3⟩
            have hs3 := hb3.size
            refine ⟨⟨k + 1, by omega, by go_num, ?_, ?_, RR.out.1, RR.out.2.1, RR.out.2.2.1, RR.out.2.2.2, by omega, by omega⟩, by simp [intOf]; omega⟩
            · rw [HSUC.out, ← cat4]
            · rw [HSUC.out]; simp only [List.length_append, List.length_cons]; omega
          · have hgr : wr.cell? ⟨G, 0, none⟩ = some (.string ⟨GG.toArray⟩) := by
              have h1 := HG.out 0 (by omega)
              have h2 : gapTexts.getD 0 [32] = GG := by have := HGG.out; unfold gapAt at this; rw [if_neg hkm] at this; exact this
              rw [h2] at h1; exact h1
            go_wp2_with (first | (go_at_call 19; refine cW.mono ?_; rintro e w3 ⟨rfl, hb3⟩; have hg3 := (hb3.cell (p := ⟨G, 0, none⟩) hGl).trans hgr) | (go_at_call 15; refine (cM _ _).mono ?_; rintro e w3 ⟨rfl, rfl⟩))
            have RR : Hid (rowsAt w3 g (l.map Tok.r) ∧ (∀ j, j < 6 → w3.cell? ⟨G, j, none⟩ = some (.string ⟨(gapTexts.getD j [32]).toArray⟩)) ∧ Below w.heap.size w w3 ∧ Tabs w3) :=
              ⟨HRW.out.below hb3 hgl, fun j hj => (hb3.cell (p := ⟨G, j, none⟩) hGl).trans (HG.out j hj), HB.out.trans (hb3.mono HB.out.size), HTB.out.below hb3⟩
            have hs3 := hb3.size
            refine ⟨⟨k + 1, by omega, by go_num, ?_, ?_, RR.out.1, RR.out.2.1, RR.out.2.2.1, RR.out.2.2.2, by omega, by omega⟩, by simp [intOf]; omega⟩
            · rw [HSUC.out, ← cat4]
            · rw [HSUC.out]; simp only [List.length_append, List.length_cons]; omega
        · have h6' : ¬ ((TT.length : Int) < 60000) := by omega
          have h6'' : (60000 : Int) ≤ TT.length := by omega
          go_wp2_with (go_at_call 13; refine (cH _ HB.out).mono ?_; rintro e w3 ⟨rfl, hb3⟩)
          go_ret
          exact ⟨rfl, HB.out.trans (hb3.mono HB.out.size)⟩
      · have hke : k = l.length := by omega
        subst hke
        by_cases h6 : (silText (l.map (·.tk)) len m l.length).length < 60000
        · obtain ⟨r, hr1, hr2⟩ := scan_silText s.data.toList l HSC.out len m h6
          have hbr := bare_of_tk hr2
          have hrl : r.length = l.length := by have := congrArg List.length hr2; simpa using this
          have cS2 : Calls Tryd.prog 16 #[.string ⟨(silText (l.map (·.tk)) len m l.length).toArray⟩] wr (ScanPost wr (.ok r)) := by
            have := scan_c ⟨(silText (l.map (·.tk)) len m l.length).toArray⟩ wr mx (by show (silText (l.map (·.tk)) len m l.length).toArray.size ≤ _; simp; omega) ((HB.out.cell (p := ⟨0, 0, none⟩) hmb).trans hm)
            rw [show (ByteArray.mk (silText (l.map (·.tk)) len m l.length).toArray).data.toList = silText (l.map (·.tk)) len m l.length from rfl, hr1] at this
            exact this
          unfold ScanPost at cS2
          simp only [fltV] at cS2
          have h6' : ¬ ((60000 : Int) ≤ (silText (l.map (·.tk)) len m l.length).length) := by omega
          generalize silText (l.map (·.tk)) len m l.length = TT at *
          have HBR : Hid _ := hbr
          have HRL : Hid _ := hrl
          clear hr1 hr2 hbr HLN HSC HG HTB hrl
          go_wp2_with (go_at_call 16; refine cS2.mono ?_; rintro e w3 ⟨hb3, v2, rfl, hown2⟩; have HS2 : Hid (TokSl w3 v2 (r.map Tok.r)) := scan_tokSl hown2; have HB3 : Hid (Below w.heap.size w w3) := HB.out.trans (hb3.mono HB.out.size); have HS1 : Hid (TokSl w3 (.slice (some ⟨g, 0, none⟩) l.length capv) (l.map Tok.r)) := TokSl.below (.inr ⟨g, capv, by rw [List.length_map], HRW.out, hgl, by rw [List.length_map]; exact hcapv⟩) hb3; clear cS2 hown2 hb3)
          have cP1 := plain_sl (HS1.out.alloc (.cells #[.int .i64 0, .int .i64 0, .int .i64 0, .int .i64 0] 34)) (by rw [List.length_map]; omega)
          have HB4 : Hid (Below w.heap.size w (w3.alloc (.cells #[.int .i64 0, .int .i64 0, .int .i64 0, .int .i64 0] 34))) := HB3.out.alloc HB3.out.size _
          have HS2' : Hid (TokSl (w3.alloc (.cells #[.int .i64 0, .int .i64 0, .int .i64 0, .int .i64 0] 34)) v2 (r.map Tok.r)) := HS2.out.alloc _
          clear HS1 HS2
          go_wp2_with (go_at_call 17; refine cP1.mono ?_; rintro e w4 ⟨va, rfl, hsa, hb4⟩; have HSA : Hid (TokSl w4 va _) := hsa; have HS2 : Hid (TokSl w4 v2 _) := HS2'.out.below hb4; have HB5 : Hid (Below w.heap.size w w4) := HB4.out.trans (hb4.mono HB4.out.size); clear cP1 hsa hb4)
          have cP2 := plain_sl HS2.out (by rw [List.length_map, HRL.out]; omega)
          go_wp2_with (go_at_call 17; refine cP2.mono ?_; rintro e w5 ⟨vb, rfl, hsb, hb5⟩; have HSB : Hid (TokSl w5 vb _) := hsb; have HSA2 : Hid (TokSl w5 va _) := HSA.out.below hb5; have HB6 : Hid (Below w.heap.size w w5) := HB5.out.trans (hb5.mono HB5.out.size); clear cP2 hsb hb5)
          have hsb2 := HSB.out
          rw [HBR.out] at hsb2
          have cE := same_c va vb _ w5 HSA2.out hsb2 (by simp; omega)
          go_wp2_with (go_at_call 18; refine cE.mono ?_; rintro e w6 ⟨rfl, q, rfl⟩; have HB7 : Hid (Below w.heap.size w (w5.drewN q)) := below_drewN HB6.out q; clear cE)
          go_wp2_with (go_at_call 13; refine (cH _ HB7.out).mono ?_; rintro e w7 ⟨rfl, hb7⟩)
          go_ret
          exact ⟨rfl, HB7.out.trans (hb7.mono HB7.out.size)⟩
        · have h6' : (60000 : Int) ≤ (silText (l.map (·.tk)) len m l.length).length := by omega
          go_wp2_with (go_at_call 13; refine (cH _ HB.out).mono ?_; rintro e w3 ⟨rfl, hb3⟩)
          go_ret
          exact ⟨rfl, HB.out.trans (hb3.mono HB.out.size)⟩
end Go.Proofs.YtmcghikanhhkfaaDoor
