/-
  What the statement TokenBack answers: true, at every row of tokens that is not too great.
-/
import Derived.Test.YtjbmpdcgmphhoaaDoorHeads
import Derived.Test.YtjbmpdcgmphhoaaDoorToks
import Derived.Test.YtjbmpdcgmphhoaaDoorSameP
import Derived.Test.YtjbmpdcgmphhoaaDoorTab
import Derived.Test.YtjbmpdcgmphhoaaDoorLen
import Derived.Test.YtjbmpdcgmphhoaaDoorFirst
namespace Go.Proofs.YtjbmpdcgmphhoaaDoor
open Go.RowKit
set_option linter.unusedVariables false

theorem bare_tk (x : List Tok) : (x.map Tok.r).map RTok.bare = (x.map (·.tk)).map fun t => (⟨t.kind, ⟨t.text.toArray⟩, t.num, 0, 0, 0⟩ : RTok) := by
  simp only [List.map_map]; rfl
theorem bare_in (xs : List RTok) : (xs.map RTok.tk).map (fun t => (⟨t.kind, ⟨t.text.toArray⟩, t.num, 0, 0, 0⟩ : RTok)) = xs.map RTok.bare := by
  simp only [List.map_map]; rfl
theorem own_shape {w : World} {B n : Nat} {v : Value} {xs : List Value} (h : w.ownsRow B 40 6 v n xs) (h0 : 0 < n) : ∃ g cap, v = .slice (some ⟨g, 0, none⟩) n cap ∧ n ≤ cap ∧ ∀ j u, xs[j]? = some u → w.cell? ⟨g, j, none⟩ = some u := by
  rcases h.2 with ⟨_, h⟩ | ⟨g, cap, cur, rfl, hg, hcur, hcap, _, hsz, htake⟩
  · omega
  · refine ⟨g, cap, rfl, hcap, fun j u hj => ?_⟩
    have hjl : j < xs.length := (List.getElem?_eq_some_iff.1 hj).1
    rw [h.1] at hjl
    rw [← htake, List.getElem?_take_of_lt hjl] at hj
    simp only [World.cell?, hcur]
    simpa using hj
theorem own_any {w : World} {B n : Nat} {v : Value} {xs : List Value} (h : w.ownsRow B 40 6 v n xs) : ∃ a cap, v = .slice a n cap := by
  rcases h.2 with ⟨rfl, h0⟩ | ⟨g, cap, cur, rfl, _⟩
  · exact ⟨none, 0, by rw [h0]⟩
  · exact ⟨_, _, rfl⟩

theorem joinText_len (M : Nat) : ∀ l : List Tk, joinable l = true → (∀ t ∈ l, t.text.length ≤ M) → (joinText l).length ≤ l.length * (4 * M + 101)
  | [], _, _ => by simp [joinText]
  | [t], h, hM => by
    have h1 := tkText_len t h
    have h2 := hM t List.mem_cons_self
    simp [joinText, List.intercalate]
    omega
  | t :: u :: r, h, hM => by
    have h' : tkCan t = true ∧ joinable (u :: r) = true := by
      simp only [joinable, Bool.and_eq_true] at h
      exact ⟨h.1.1, h.2⟩
    have h1 := tkText_len t h'.1
    have h2 := hM t List.mem_cons_self
    have ih := joinText_len M (u :: r) h'.2 (fun x hx => hM x (List.mem_cons_of_mem _ hx))
    have e : (joinText (t :: u :: r)).length = (tkText t).length + 1 + (joinText (u :: r)).length := by
      simp [joinText, List.intercalate]; omega
    rw [e]
    simp only [List.length_cons] at ih ⊢
    have : (r.length + 1 + 1) * (4 * M + 101) = (r.length + 1) * (4 * M + 101) + (4 * M + 101) := by rw [Nat.add_mul, Nat.one_mul]
    omega

theorem ended_len (l : List Tk) : (ended l).length ≤ l.length + 1 := by
  unfold ended; split
  · split <;> simp
  · simp

set_option maxRecDepth 100000 in
theorem join_zero (a : Option Addr) (cap : Nat) (w : World) :
    Calls Tryd.prog 14 #[.slice a 0 cap] w fun e w' => e = .returned (.tuple #[.string ⟨#[]⟩, .int .i64 0]) ∧ Below w.heap.size w w' := by
  obtain ⟨i0, hi, hz0, hz1, hz2⟩ := info_parts info_str
  have hmk := run_make (P := Tryd.prog) w 44 9 i0 (.string ⟨#[]⟩) Tryd.underlying44 hi hz0 .i64 .i64 0 0 (by omega) (Int.le_refl _) (by rw [hz2]; omega) (by omega)
  rw [hz1] at hmk
  have cJ := fun W b c => Tryd.strings_Join_none b c ⟨#[32]⟩ W
  have HB : Hid (Below w.heap.size w (w.alloc (.cells (madeCells (Value.string ⟨#[]⟩).cells 0) 9))) := (Below.refl _ w).alloc (Nat.le_refl _) _
  go_enter Tryd.func14, Tryd.ntmps14
  go_wp2
  go_loop [14] (fun i => i = .int .i64 0) (fun _ => 0)
  case atStart => rfl
  case round =>
    subst hrel
    go_wp2_with (go_at_call 28; refine (cJ _ _ _).mono ?_; rintro e w1 ⟨rfl, rfl⟩)
    go_ret2
    exact ⟨rfl, HB.out⟩

theorem mostOf_hi (l : List UInt8) : mostOf l ≤ 4294967295 := by
  unfold mostOf; split
  · omega
  split <;> omega

theorem join_in (va : Value) (xs : List RTok) (w : World) (h : TokIn w va xs) (hT : Tabs w) (hN : xs.length ≤ 1048576) (hs : ∀ x ∈ xs, x.s.size ≤ 1048576) :
    Calls Tryd.prog 14 #[va] w fun e w' => e = .returned (joinVal (xs.map RTok.tk)) ∧ Below w.heap.size w w' := by
  have h0 : xs = [] → joinVal (xs.map RTok.tk) = .tuple #[.string ⟨#[]⟩, .int .i64 0] := by rintro rfl; rfl
  rcases h with ⟨a, cap, rfl, rfl⟩ | ⟨g, o, cap, rfl, h2, h3, h4⟩
  · rw [h0 rfl]; exact join_zero a cap w
  · by_cases hx : xs = []
    · subst hx
      rw [h0 rfl]; exact join_zero _ cap w
    · have hpos : 0 < xs.length := List.length_pos_iff.2 hx
      refine join_o xs g o cap w h2 h3 (by omega) hpos h4 (fun x hx => by have := hs x hx; omega) (fun x _ _ W hW n0 n1 => itoa_at (hT.below hW) _ (by omega) (by have := mostOf_hi x.s.data.toList; omega)) (fun hj => ?_)
      have := joinText_len 1048576 (xs.map RTok.tk) hj (fun t ht => by
        obtain ⟨x, hx, rfl⟩ := List.mem_map.1 ht
        have := hs x hx
        simpa [RTok.tk] using this)
      rw [List.length_map] at this
      have h5 : xs.length * (4 * 1048576 + 101) ≤ 1048576 * (4 * 1048576 + 101) := Nat.mul_le_mul_right _ hN
      omega

theorem TokIn.shape {w : World} {v : Value} {xs : List RTok} (h : TokIn w v xs) : ∃ a cap, v = .slice a xs.length cap := by
  rcases h with ⟨a, cap, rfl, rfl⟩ | ⟨g, o, cap, h1, _⟩
  · exact ⟨a, cap, rfl⟩
  · exact ⟨_, _, h1⟩

/-- What is wanted behind the joined tokens: themselves without their spots, and an end. -/
def wantOf (xs : List RTok) : List RTok := (ended (xs.map RTok.tk)).map fun t => (⟨t.kind, ⟨t.text.toArray⟩, t.num, 0, 0, 0⟩ : RTok)
def RTok.none : RTok := ⟨0, ⟨#[]⟩, 0, 0, 0, 0⟩
theorem want_same {xs : List RTok} {x : RTok} (h : xs.getLast? = some x) (hk : x.k = 0) : wantOf xs = xs.map RTok.bare := by
  unfold wantOf ended
  rw [List.getLast?_map, h]
  simp only [Option.map_some]
  rw [if_pos (by exact hk)]
  exact bare_in xs
theorem want_more {xs : List RTok} (h : ∀ x, xs.getLast? = some x → x.k ≠ 0) : wantOf xs = xs.map RTok.bare ++ [RTok.none] := by
  unfold wantOf ended
  rcases hl : xs.getLast? with _ | x
  · rw [List.getLast?_eq_none_iff] at hl
    subst hl; rfl
  · rw [List.getLast?_map, hl]
    simp only [Option.map_some]
    rw [if_neg (by exact h x hl), List.map_append, bare_in]; rfl
theorem last_at {xs : List RTok} {p : Nat} (hp : xs.length = p + 1) : ∃ x, xs.getLast? = some x ∧ xs[p]? = some x := by
  have hlt : p < xs.length := by omega
  refine ⟨xs[p], ?_, List.getElem?_eq_getElem hlt⟩
  rw [List.getLast?_eq_getElem?, hp]; exact List.getElem?_eq_getElem hlt

set_option maxRecDepth 100000 in
set_option maxHeartbeats 8000000 in
theorem tokenBack_c (va : Value) (xs : List RTok) (w : World) (mx : Int) (h : TokIn w va xs) (hT : Tabs w) (hN : xs.length ≤ 1048576) (hs : ∀ x ∈ xs, x.s.size ≤ 1048576) (hm : w.cell? ⟨0, 0, none⟩ = some (.int .i64 mx)) :
    Calls Tryd.prog 4 #[va] w fun e w' => e = .returned (.bool true) ∧ Below w.heap.size w w' := by
  have hmb : 0 < w.heap.size := World.block_lt_of_cell? w _ hm
  have cH : ∀ W : World, Below w.heap.size w W → Calls Tryd.prog 13 #[] W fun e w' => e = .returned (.bool true) ∧ Below W.heap.size W w' := fun W hW => heads_c W mx ((hW.cell (p := ⟨0, 0, none⟩) hmb).trans hm)
  have cM := fun n W => num_c n W
  have cJ := join_in va xs w h hT hN hs
  have hlenT : joinable (xs.map RTok.tk) = true → (joinText (xs.map RTok.tk)).length ≤ 9223372036854775807 := fun hj => by
    have := joinText_len 1048576 (xs.map RTok.tk) hj (fun t ht => by
      obtain ⟨x, hx, rfl⟩ := List.mem_map.1 ht
      have := hs x hx
      simpa [RTok.tk] using this)
    rw [List.length_map] at this
    have h5 : xs.length * (4 * 1048576 + 101) ≤ 1048576 * (4 * 1048576 + 101) := Nat.mul_le_mul_right _ hN
    omega
  have cP : ∀ W : World, Below w.heap.size w W → Calls Tryd.prog 17 #[va] W fun e w' => ∃ v', e = .returned v' ∧ w'.ownsRow W.heap.size 40 6 v' xs.length ((xs.map RTok.bare).flatMap RTok.cells) ∧ Below W.heap.size W w' := fun W hW => plain_o va xs W (h.below hW) (by omega)
  obtain ⟨a0, cap0, rfl⟩ := h.shape
  clear h hT hs
  rcases hj : joinable (xs.map RTok.tk) with _ | _
  · have hv : joinVal (xs.map RTok.tk) = .tuple #[.string ⟨#[]⟩, .int .i64 2] := by unfold joinVal; rw [hj]; rfl
    rw [hv] at cJ
    clear hv cP hlenT
    go_enter Tryd.func4, Tryd.ntmps4
    go_wp2_with (first | (go_at_call 14; refine cJ.mono ?_; rintro e w1 ⟨rfl, hb1⟩; have HB1 : Hid (Below w.heap.size w w1) := hb1; clear hb1 cJ) | (go_at_call 15; refine (cM _ _).mono ?_; rintro e w' ⟨rfl, rfl⟩) | (go_at_call 13; refine (cH _ HB1.out).mono ?_; rintro e w2 ⟨rfl, hb2⟩))
    go_ret
    exact ⟨rfl, HB1.out.trans (hb2.mono HB1.out.size)⟩
  have hv : joinVal (xs.map RTok.tk) = .tuple #[.string ⟨(joinText (xs.map RTok.tk)).toArray⟩, .int .i64 0] := by unfold joinVal; rw [hj]; rfl
  rw [hv] at cJ
  have hTl := hlenT hj
  have htk := toks_join _ hj
  have hel := ended_len (xs.map RTok.tk)
  rw [List.length_map] at hel
  obtain ⟨T, hTe⟩ : ∃ T, T = joinText (xs.map RTok.tk) := ⟨_, rfl⟩
  rw [← hTe] at cJ hTl htk
  have cS : ∀ W : World, Below w.heap.size w W → Calls Tryd.prog 16 #[.string ⟨T.toArray⟩] W (ScanPost W (scan T)) := fun W hW => by
    have := scan_c ⟨T.toArray⟩ W mx (by show T.toArray.size ≤ _; simpa using hTl) ((hW.cell (p := ⟨0, 0, none⟩) hmb).trans hm)
    simpa using this
  have hsz : ((ByteArray.mk T.toArray).size : Int) = T.length := by show ((T.toArray.size : Nat) : Int) = _; simp
  clear hv hlenT hTe
  by_cases hlong : 65536 < T.length
  · rw [scan_long_code T hlong] at cS
    unfold ScanPost at cS
    simp only [fltV] at cS
    have g1 : decide ((65536 : Int) < T.length) = true := by simp; omega
    clear cP htk hel
    go_enter Tryd.func4, Tryd.ntmps4
    go_wp2_with (first | (go_at_call 14; refine cJ.mono ?_; rintro e w1 ⟨rfl, hb1⟩; have HB1 : Hid (Below w.heap.size w w1) := hb1; clear hb1 cJ) | (go_at_call 16; refine (cS _ HB1.out).mono ?_; rintro e w2 ⟨hb2, rfl⟩; have HB2 : Hid (Below w.heap.size w w2) := HB1.out.trans (hb2.mono HB1.out.size); clear hb2 cS) | (go_at_call 15; refine (cM _ _).mono ?_; rintro e w' ⟨rfl, rfl⟩) | (go_at_call 13; refine (cH _ (HB2.out.alloc HB2.out.size _)).mono ?_; rintro e w3 ⟨rfl, hb3⟩))
    all_goals go_ret
    all_goals exact ⟨rfl, (HB2.out.alloc HB2.out.size _).trans (hb3.mono (Nat.le_trans HB2.out.size (by simp)))⟩
  rcases scan_of_toks (by omega) htk with ⟨h16, r, hr, hrt⟩ | ⟨h16, f, hf, hcode⟩
  case inr =>
    rw [hf] at cS
    obtain ⟨code, line, col, off⟩ := f
    simp only at hcode
    subst hcode
    unfold ScanPost at cS
    simp only [fltV] at cS
    have g1 : decide ((16384 : Int) < xs.length) = true := by simp; omega
    clear cP htk hel hf
    go_enter Tryd.func4, Tryd.ntmps4
    go_wp2_with (first | (go_at_call 14; refine cJ.mono ?_; rintro e w1 ⟨rfl, hb1⟩; have HB1 : Hid (Below w.heap.size w w1) := hb1; clear hb1 cJ) | (go_at_call 16; refine (cS _ HB1.out).mono ?_; rintro e w2 ⟨hb2, rfl⟩; have HB2 : Hid (Below w.heap.size w w2) := HB1.out.trans (hb2.mono HB1.out.size); clear hb2 cS) | (go_at_call 15; refine (cM _ _).mono ?_; rintro e w' ⟨rfl, rfl⟩) | (go_at_call 13; refine (cH _ (HB2.out.alloc HB2.out.size _)).mono ?_; rintro e w3 ⟨rfl, hb3⟩))
    all_goals go_ret
    all_goals exact ⟨rfl, (HB2.out.alloc HB2.out.size _).trans (hb3.mono (Nat.le_trans HB2.out.size (by simp)))⟩
  case inl =>
    rw [hr] at cS
    unfold ScanPost at cS
    simp only [fltV] at cS
    have hwant : wantOf xs = (r.map Tok.r).map RTok.bare := by rw [bare_tk, hrt]; rfl
    have HW : Hid _ := hwant
    have hrl : r.length ≤ 16385 := by have := congrArg List.length hrt; simp at this; omega
    clear htk hel hr hrt hwant hlong
    obtain ⟨i0, hi, hz0, hz1, hz2⟩ := info_parts info_tok
    by_cases hend : ∃ p x, xs.length = p + 1 ∧ xs[p]? = some x ∧ x.k = 0
    · obtain ⟨p, x, hp, hx, hk⟩ := hend
      have hws : wantOf xs = xs.map RTok.bare := by
        obtain ⟨y, hy1, hy2⟩ := last_at hp
        rw [hx] at hy2; cases hy2
        exact want_same hy1 hk
      have hxc : ((xs.map RTok.bare).flatMap RTok.cells)[p * 6]? = some (.int .i64 0) := by
        have := rflat_get (xs.map RTok.bare) p 0 (by omega)
        rw [Nat.add_zero] at this
        rw [this, List.getElem?_map, hx]; simp [RTok.cells, RTok.bare, hk]
      rw [hws] at HW
      have HX : Hid _ := hxc
      have hpos : 0 < xs.length := by omega
      have HP : Hid _ := hp
      have HNN : Hid _ := hN
      clear hws hxc hx hk hp h16 hN hTl hj
      go_enter Tryd.func4, Tryd.ntmps4
      go_wp2_with (first | (go_at_call 14; refine cJ.mono ?_; rintro e w1 ⟨rfl, hb1⟩; have HB1 : Hid (Below w.heap.size w w1) := hb1; clear hb1 cJ) | (go_at_call 16; refine (cS _ HB1.out).mono ?_; rintro e w2 ⟨hb2, v2, rfl, hown⟩; have HB2 : Hid (Below w.heap.size w (w2.alloc (.cells #[.int .i64 0, .int .i64 0, .int .i64 0, .int .i64 0] 34))) := (HB1.out.trans (hb2.mono HB1.out.size)).alloc (Nat.le_trans HB1.out.size hb2.size) _; have HF : Hid _ := heap_in0 w2 (.cells #[.int .i64 0, .int .i64 0, .int .i64 0, .int .i64 0] 34); have H2 : Hid (TokSl (w2.alloc (.cells #[.int .i64 0, .int .i64 0, .int .i64 0, .int .i64 0] 34)) v2 (r.map Tok.r)) := (scan_tokSl hown).alloc _; clear hb2 cS hown) | (go_at_call 15; refine (cM _ _).mono ?_; rintro e w' ⟨rfl, rfl⟩))
      have cP2 := cP _ HB2.out
      generalize hW2 : w2.alloc (.cells #[.int .i64 0, .int .i64 0, .int .i64 0, .int .i64 0] 34) = W2 at *
      have h22 : w2.heap.size < W2.heap.size := by rw [← hW2]; simp
      clear hW2
      go_wp2_with (go_at_call 17; refine cP2.mono ?_)
      rintro e w3 ⟨vp, rfl, hop, hb3⟩
      have HB3 : Hid (Below w.heap.size w w3) := HB2.out.trans (hb3.mono HB2.out.size)
      have HFb : Hid _ := (hb3.block w2.heap.size h22).trans HF.out
      have H3 : Hid (TokSl w3 v2 (r.map Tok.r)) := H2.out.below hb3
      have h33 : W2.heap.size ≤ w3.heap.size := hb3.size
      have H3p : Hid (TokSl w3 vp (xs.map RTok.bare)) := own_tokSl (B := W2.heap.size) (by simpa using hop)
      obtain ⟨gp, capp, rfl, hcp, hcells⟩ := own_shape hop hpos
      have hkc := hcells _ _ HX.out
      obtain ⟨f0, f1, f2, f3, _, _, _, _⟩ := flt_cells HFb.out
      have hN := HNN.out
      rw [HP.out] at hcp H3p hN ⊢
      clear cP cP2 hop hb3 HF H2 hcells HX hpos HFb HNN
      have cP3 := plain_c v2 (r.map Tok.r) w3 H3.out (by simp; omega)
      go_wp2_with (go_at_call 17; refine cP3.mono ?_)
      rintro e w7 ⟨v7, rfl, ho7, hb7⟩
      have H7 : Hid (TokSl w7 v7 ((r.map Tok.r).map RTok.bare)) := own_tokSl (B := (w3).heap.size) (by simpa using ho7)
      have H67 : Hid (TokSl w7 (.slice (some ⟨gp, 0, none⟩) (p + 1) capp) ((r.map Tok.r).map RTok.bare)) := by have := H3p.out.below hb7; rw [HW.out] at this; exact this
      have HB7 : Hid (Below w.heap.size w w7) := HB3.out.trans (hb7.mono HB3.out.size)
      clear cP3 ho7 hb7
      have cE := same_c v7 (.slice (some ⟨gp, 0, none⟩) (p + 1) capp) _ w7 H7.out H67.out (by simp; omega)
      go_wp2_with (go_at_call 18; refine cE.mono ?_; rintro e w8 ⟨rfl, q, rfl⟩; have HB8 : Hid (Below w.heap.size w (w7.drewN q)) := below_drewN HB7.out q; clear cE)
      go_wp2_with (go_at_call 13; refine (cH _ HB8.out).mono ?_; rintro e w9 ⟨rfl, hb9⟩)
      go_ret
      exact ⟨rfl, HB8.out.trans (hb9.mono HB8.out.size)⟩
    have hmore : wantOf xs = xs.map RTok.bare ++ [RTok.none] := want_more fun x hx hk => hend (by
      rcases hl : xs.length with _ | p
      · have : xs = [] := List.eq_nil_of_length_eq_zero hl
        subst this; cases hx
      · obtain ⟨y, hy1, hy2⟩ := last_at hl
        rw [hx] at hy1; cases hy1
        exact ⟨p, x, rfl, hy2, hk⟩)
    rw [hmore] at HW
    clear hmore
    by_cases hx0 : xs = []
    · have HP : Hid (xs.length = 0) := by show xs.length = 0; rw [hx0]; rfl
      have HNN : Hid _ := hN
      clear hx0 hend h16 hN hTl hj
      go_enter Tryd.func4, Tryd.ntmps4
      go_wp2_with (first | (go_at_call 14; refine cJ.mono ?_; rintro e w1 ⟨rfl, hb1⟩; have HB1 : Hid (Below w.heap.size w w1) := hb1; clear hb1 cJ) | (go_at_call 16; refine (cS _ HB1.out).mono ?_; rintro e w2 ⟨hb2, v2, rfl, hown⟩; have HB2 : Hid (Below w.heap.size w (w2.alloc (.cells #[.int .i64 0, .int .i64 0, .int .i64 0, .int .i64 0] 34))) := (HB1.out.trans (hb2.mono HB1.out.size)).alloc (Nat.le_trans HB1.out.size hb2.size) _; have HF : Hid _ := heap_in0 w2 (.cells #[.int .i64 0, .int .i64 0, .int .i64 0, .int .i64 0] 34); have H2 : Hid (TokSl (w2.alloc (.cells #[.int .i64 0, .int .i64 0, .int .i64 0, .int .i64 0] 34)) v2 (r.map Tok.r)) := (scan_tokSl hown).alloc _; clear hb2 cS hown) | (go_at_call 15; refine (cM _ _).mono ?_; rintro e w' ⟨rfl, rfl⟩))
      have cP2 := cP _ HB2.out
      generalize hW2 : w2.alloc (.cells #[.int .i64 0, .int .i64 0, .int .i64 0, .int .i64 0] 34) = W2 at *
      have h22 : w2.heap.size < W2.heap.size := by rw [← hW2]; simp
      clear hW2
      go_wp2_with (go_at_call 17; refine cP2.mono ?_)
      rintro e w3 ⟨vp, rfl, hop, hb3⟩
      have HB3 : Hid (Below w.heap.size w w3) := HB2.out.trans (hb3.mono HB2.out.size)
      have HFb : Hid _ := (hb3.block w2.heap.size h22).trans HF.out
      have H3 : Hid (TokSl w3 v2 (r.map Tok.r)) := H2.out.below hb3
      have h33 : W2.heap.size ≤ w3.heap.size := hb3.size
      have HB23 : Hid (Below W2.heap.size W2 w3) := hb3
      have HO : Hid (w3.ownsRow W2.heap.size 40 6 vp _ _) := hop
      obtain ⟨ap, capp, rfl⟩ := own_any hop
      rw [HP.out] at HO ⊢
      clear cP cP2 hop hb3 HF HNN
      go_wp2_with (at_builtin; go_must (refine wpList_append_own _ rfl (.tmp 62) (.tmp 64) 28 rfl W2.heap.size 40 i0 _ 6 56 Tryd.underlying28 hi hz0 hz1 hz2 rfl (by decide) _ _ _ rfl (HO.out.alloc _) ⟨_, 0, none⟩ 1 1 _ (by show Value.slice (some ⟨w3.heap.size, 0, none⟩) 1 1 = _; simp) rfl (cells_new _ _ _) ?c2 ?c3 ?c4 ?c5 ?_))
      case c2 => first | (intro u hu; simp at hu; rcases hu with rfl | rfl | rfl | rfl | rfl | rfl <;> rfl) | simp [Value.oneCell'] | rfl
      case c3 => first | omega | (unfold maxLen; omega) | (simp [maxLen])
      case c4 => first | omega | (simp; done) | (simp; omega)
      case c5 => first | omega | (simp; done) | (simp; omega)
      intro v6 w6 hown6 hgrow6 _
      have H6 : Hid (TokSl w6 v6 (xs.map RTok.bare ++ [RTok.none])) := by
        refine own_tokSl (B := W2.heap.size) ?_
        rw [List.flatMap_append, List.length_append, List.length_map, HP.out]
        simpa [RTok.none, RTok.cells] using hown6
      have hb36 : Below W2.heap.size w3 w6 := ((Below.refl _ w3).alloc h33 _).grown hgrow6 (by simp; omega) (fun k hk => (HO.out.lt k hk).1)
      have HB6 : Hid (Below w.heap.size w w6) := HB3.out.trans (hb36.mono HB2.out.size)
      have HF6 : Hid _ := (hb36.block w2.heap.size h22).trans HFb.out
      have H26 : Hid (TokSl w6 v2 (r.map Tok.r)) := by
        have h2 := H2.out
        have hb26 : Below W2.heap.size W2 w6 := HB23.out.trans (hb36)
        exact h2.below hb26
      clear hown6 hgrow6 hb36 HO HFb H3 H2 HB23
      obtain ⟨f0, f1, f2, f3, _, _, _, _⟩ := flt_cells HF6.out
      have cP3 := plain_c v2 (r.map Tok.r) w6 H26.out (by simp; omega)
      go_wp2_with (go_at_call 17; refine cP3.mono ?_)
      rintro e w7 ⟨v7, rfl, ho7, hb7⟩
      have H7 : Hid (TokSl w7 v7 ((r.map Tok.r).map RTok.bare)) := own_tokSl (B := (w6).heap.size) (by simpa using ho7)
      have H67 : Hid (TokSl w7 v6 ((r.map Tok.r).map RTok.bare)) := by have := H6.out.below hb7; rw [HW.out] at this; exact this
      have HB7 : Hid (Below w.heap.size w w7) := HB6.out.trans (hb7.mono HB6.out.size)
      clear cP3 ho7 hb7
      have cE := same_c v7 v6 _ w7 H7.out H67.out (by simp; omega)
      go_wp2_with (go_at_call 18; refine cE.mono ?_; rintro e w8 ⟨rfl, q, rfl⟩; have HB8 : Hid (Below w.heap.size w (w7.drewN q)) := below_drewN HB7.out q; clear cE)
      go_wp2_with (go_at_call 13; refine (cH _ HB8.out).mono ?_; rintro e w9 ⟨rfl, hb9⟩)
      go_ret
      exact ⟨rfl, HB8.out.trans (hb9.mono HB8.out.size)⟩
    · obtain ⟨p, hp⟩ : ∃ p, xs.length = p + 1 := ⟨xs.length - 1, by have := List.length_pos_iff.2 hx0; omega⟩
      obtain ⟨x, hy1, hy2⟩ := last_at hp
      have hk : x.k ≠ 0 := fun e => hend ⟨p, x, hp, hy2, e⟩
      have hk1 : (x.k != 0) = true := by simpa using hk
      have hxc : ((xs.map RTok.bare).flatMap RTok.cells)[p * 6]? = some (.int .i64 x.k) := by
        have := rflat_get (xs.map RTok.bare) p 0 (by omega)
        rw [Nat.add_zero] at this
        rw [this, List.getElem?_map, hy2]; simp [RTok.cells, RTok.bare]
      have HX : Hid _ := hxc
      have hpos : 0 < xs.length := by omega
      have HP : Hid _ := hp
      have HNN : Hid _ := hN
      clear hxc hy1 hy2 hk hp h16 hN hTl hj hend hx0
      go_enter Tryd.func4, Tryd.ntmps4
      go_wp2_with (first | (go_at_call 14; refine cJ.mono ?_; rintro e w1 ⟨rfl, hb1⟩; have HB1 : Hid (Below w.heap.size w w1) := hb1; clear hb1 cJ) | (go_at_call 16; refine (cS _ HB1.out).mono ?_; rintro e w2 ⟨hb2, v2, rfl, hown⟩; have HB2 : Hid (Below w.heap.size w (w2.alloc (.cells #[.int .i64 0, .int .i64 0, .int .i64 0, .int .i64 0] 34))) := (HB1.out.trans (hb2.mono HB1.out.size)).alloc (Nat.le_trans HB1.out.size hb2.size) _; have HF : Hid _ := heap_in0 w2 (.cells #[.int .i64 0, .int .i64 0, .int .i64 0, .int .i64 0] 34); have H2 : Hid (TokSl (w2.alloc (.cells #[.int .i64 0, .int .i64 0, .int .i64 0, .int .i64 0] 34)) v2 (r.map Tok.r)) := (scan_tokSl hown).alloc _; clear hb2 cS hown) | (go_at_call 15; refine (cM _ _).mono ?_; rintro e w' ⟨rfl, rfl⟩))
      have cP2 := cP _ HB2.out
      generalize hW2 : w2.alloc (.cells #[.int .i64 0, .int .i64 0, .int .i64 0, .int .i64 0] 34) = W2 at *
      have h22 : w2.heap.size < W2.heap.size := by rw [← hW2]; simp
      clear hW2
      go_wp2_with (go_at_call 17; refine cP2.mono ?_)
      rintro e w3 ⟨vp, rfl, hop, hb3⟩
      have HB3 : Hid (Below w.heap.size w w3) := HB2.out.trans (hb3.mono HB2.out.size)
      have HFb : Hid _ := (hb3.block w2.heap.size h22).trans HF.out
      have H3 : Hid (TokSl w3 v2 (r.map Tok.r)) := H2.out.below hb3
      have h33 : W2.heap.size ≤ w3.heap.size := hb3.size
      have HB23 : Hid (Below W2.heap.size W2 w3) := hb3
      have HO : Hid (w3.ownsRow W2.heap.size 40 6 vp _ _) := hop
      obtain ⟨gp, capp, rfl, hcp, hcells⟩ := own_shape hop hpos
      have hkc := hcells _ _ HX.out
      have hN := HNN.out
      rw [HP.out] at hcp HO hN ⊢
      clear cP cP2 hop hb3 HF hcells HX hpos HNN
      go_wp2_with (at_builtin; go_must (refine wpList_append_own _ rfl (.tmp 62) (.tmp 64) 28 rfl W2.heap.size 40 i0 _ 6 56 Tryd.underlying28 hi hz0 hz1 hz2 rfl (by decide) _ _ _ rfl (HO.out.alloc _) ⟨_, 0, none⟩ 1 1 _ (by show Value.slice (some ⟨w3.heap.size, 0, none⟩) 1 1 = _; simp) rfl (cells_new _ _ _) ?c2 ?c3 ?c4 ?c5 ?_))
      case c2 => first | (intro u hu; simp at hu; rcases hu with rfl | rfl | rfl | rfl | rfl | rfl <;> rfl) | simp [Value.oneCell'] | rfl
      case c3 => first | omega | (unfold maxLen; omega) | (simp [maxLen])
      case c4 => first | omega | (simp; done) | (simp; omega)
      case c5 => first | omega | (simp; done) | (simp; omega)
      intro v6 w6 hown6 hgrow6 _
      have H6 : Hid (TokSl w6 v6 (xs.map RTok.bare ++ [RTok.none])) := by
        refine own_tokSl (B := W2.heap.size) ?_
        rw [List.flatMap_append, List.length_append, List.length_map, HP.out]
        simpa [RTok.none, RTok.cells] using hown6
      have hb36 : Below W2.heap.size w3 w6 := ((Below.refl _ w3).alloc h33 _).grown hgrow6 (by simp; omega) (fun k hk => (HO.out.lt k hk).1)
      have HB6 : Hid (Below w.heap.size w w6) := HB3.out.trans (hb36.mono HB2.out.size)
      have HF6 : Hid _ := (hb36.block w2.heap.size h22).trans HFb.out
      have H26 : Hid (TokSl w6 v2 (r.map Tok.r)) := by
        have h2 := H2.out
        have hb26 : Below W2.heap.size W2 w6 := HB23.out.trans (hb36)
        exact h2.below hb26
      clear hown6 hgrow6 hb36 HO HFb H3 H2 HB23
      obtain ⟨f0, f1, f2, f3, _, _, _, _⟩ := flt_cells HF6.out
      have cP3 := plain_c v2 (r.map Tok.r) w6 H26.out (by simp; omega)
      go_wp2_with (go_at_call 17; refine cP3.mono ?_)
      rintro e w7 ⟨v7, rfl, ho7, hb7⟩
      have H7 : Hid (TokSl w7 v7 ((r.map Tok.r).map RTok.bare)) := own_tokSl (B := (w6).heap.size) (by simpa using ho7)
      have H67 : Hid (TokSl w7 v6 ((r.map Tok.r).map RTok.bare)) := by have := H6.out.below hb7; rw [HW.out] at this; exact this
      have HB7 : Hid (Below w.heap.size w w7) := HB6.out.trans (hb7.mono HB6.out.size)
      clear cP3 ho7 hb7
      have cE := same_c v7 v6 _ w7 H7.out H67.out (by simp; omega)
      go_wp2_with (go_at_call 18; refine cE.mono ?_; rintro e w8 ⟨rfl, q, rfl⟩; have HB8 : Hid (Below w.heap.size w (w7.drewN q)) := below_drewN HB7.out q; clear cE)
      go_wp2_with (go_at_call 13; refine (cH _ HB8.out).mono ?_; rintro e w9 ⟨rfl, hb9⟩)
      go_ret
      exact ⟨rfl, HB8.out.trans (hb9.mono HB8.out.size)⟩
end Go.Proofs.YtjbmpdcgmphhoaaDoor
