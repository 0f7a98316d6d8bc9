/-
  What the statement TokenWrites answers: true, at every token and every row of tokens that are not too great.
-/
import Derived.Test.YtjbmpdcgmphhoaaGreatDoorHeads
import Derived.Test.YtjbmpdcgmphhoaaGreatDoorJoinIn
import Derived.Test.YtjbmpdcgmphhoaaGreatDoorRefJoi
import Derived.Laws.AppendOwnNone
namespace Go.Proofs.YtjbmpdcgmphhoaaGreatDoor
open Go.RowKit
set_option linter.unusedVariables false

theorem writeVal_pair (k n : Int) (L : List UInt8) : ∃ (T : ByteArray) (c : Int), writeVal k n L = .tuple #[.string T, .int .i64 c] := by
  unfold writeVal; split
  · exact ⟨_, _, rfl⟩
  · exact ⟨_, _, rfl⟩
theorem joinVal_pair (l : List Tk) : ∃ (T : ByteArray) (c : Int), joinVal l = .tuple #[.string T, .int .i64 c] := by
  unfold joinVal; split
  · exact ⟨_, _, rfl⟩
  · exact ⟨_, _, rfl⟩

theorem fresh_empty (w : World) : (w.alloc (.cells #[] 35)).ownsRow w.heap.size 35 6 (.slice (some ⟨w.heap.size, 0, none⟩) 0 0) 0 [] := by
  refine ⟨rfl, .inr ⟨w.heap.size, 0, #[], rfl, Nat.le_refl _, heap_in0 w _, Nat.le_refl _, ?_, ?_, ?_⟩⟩
  all_goals first | rfl | decide | simp

/-- The value v is a slice that holds the tokens xs, as an append reads it. -/
def SrcIn (w : World) (v : Value) (xs : List RTok) : Prop :=
  (v = .slice none 0 0 ∧ xs = []) ∨ ∃ (a : Addr) (cap : Nat), v = .slice (some a) xs.length cap ∧ xs.length ≤ cap ∧ ∀ j u, (xs.flatMap RTok.cells)[j]? = some u → w.cell? (a.add j) = some u
theorem src_adds {w : World} {a : Addr} {xs : List RTok} (h : ∀ j t, xs[j]? = some t → ∀ i u, t.cells[i]? = some u → w.cell? (a.add (j * 6 + i)) = some u) : ∀ j u, (xs.flatMap RTok.cells)[j]? = some u → w.cell? (a.add j) = some u := by
  intro j u hj
  have e : j = j / 6 * 6 + j % 6 := by omega
  have hx := rflat_get xs (j / 6) (j % 6) (by omega)
  rw [← e, hj] at hx
  rcases hxx : xs[j / 6]? with _ | x
  · rw [hxx] at hx; cases hx
  · rw [hxx] at hx
    simp only [Option.bind_some] at hx
    have := h (j / 6) x hxx (j % 6) u hx.symm
    rw [← e] at this
    exact this
theorem cells_one (l : List RTok) : ∀ u ∈ l.flatMap RTok.cells, u.oneCell' = true := by
  intro u hu
  obtain ⟨x, _, hx⟩ := List.mem_flatMap.1 hu
  simp only [RTok.cells, List.mem_cons, List.not_mem_nil, or_false] at hx
  rcases hx with rfl | rfl | rfl | rfl | rfl | rfl <;> rfl
theorem src_below {w W : World} {a : Addr} {cs : List Value} (hb : Below w.heap.size w W) (h : ∀ j u, cs[j]? = some u → w.cell? (a.add j) = some u) : ∀ j u, cs[j]? = some u → W.cell? (a.add j) = some u := by
  intro j u hj
  have h1 := h j u hj
  rw [hb.cell (p := a.add j) (World.block_lt_of_cell? w _ h1)]; exact h1

set_option maxRecDepth 100000 in
set_option maxHeartbeats 8000000 in
theorem tokenWrites_c (t : RTok) (va : Value) (xs : List RTok) (w : World) (mx : Int) (h : TokIn w va xs) (hsrc : SrcIn w va xs) (hT : Tabs w) (hN : xs.length ≤ 1048576) (hs : ∀ x ∈ xs, x.s.size ≤ 1048576) (hn : ∀ x ∈ xs, -9223372036854775808 ≤ x.n ∧ x.n ≤ 9223372036854775807)
    (hts : t.s.size ≤ 1048576) (htn : -9223372036854775808 ≤ t.n ∧ t.n ≤ 9223372036854775807) (hm : w.cell? ⟨0, 0, none⟩ = some (.int .i64 mx)) :
    Calls Tryz.prog 4 #[.agg #[.int .i64 t.k, .string t.s, .int .i64 t.n, .int .i64 t.a, .int .i64 t.b, .int .i64 t.c], va] w fun e w' => e = .returned (.bool true) ∧ Below w.heap.size w w' := by
  have hmb : 0 < w.heap.size := World.block_lt_of_cell? w _ hm
  have cH : ∀ W : World, Below w.heap.size w W → Calls Tryz.prog 8 #[] W fun e w' => e = .returned (.bool true) ∧ Below W.heap.size W w' := fun W hW => heads_c W mx ((hW.cell (p := ⟨0, 0, none⟩) hmb).trans hm)
  have cM := fun n W => num_c n W
  have cA : ∀ W : World, Below w.heap.size w W → Calls Tryz.prog 9 #[.agg #[.int .i64 t.k, .string t.s, .int .i64 t.n, .int .i64 t.a, .int .i64 t.b, .int .i64 t.c]] W fun e w' => e = .returned (writeVal t.k t.n t.s.data.toList) ∧ Below W.heap.size W w' := fun W hW =>
    tWrite_c t.k t.n t.a t.b t.c t.s W (by omega) (fun _ W2 hW2 h0 h1 => itoa_at ((hT.below hW).below hW2) _ (by omega) (by omega))
  have cB : ∀ W : World, Below w.heap.size w W → Calls Tryz.prog 10 #[.agg #[.int .i64 t.k, .string t.s, .int .i64 t.n, .int .i64 t.a, .int .i64 t.b, .int .i64 t.c]] W fun e w' => e = .returned (writeVal t.k t.n t.s.data.toList) ∧ Below W.heap.size W w' := fun W hW =>
    write_r t.k t.n t.a t.b t.c t.s W hts (hT.below hW) htn.1 htn.2
  have cJ : ∀ (v : Value) (W : World), Below w.heap.size w W → TokIn W v xs → Calls Tryz.prog 11 #[v] W fun e w' => e = .returned (joinVal (xs.map RTok.tk)) ∧ Below W.heap.size W w' := fun v W hW hv => join_in v xs W hv (hT.below hW) hN hs
  have cK : ∀ (v : Value) (W : World), Below w.heap.size w W → TokIn W v xs → Calls Tryz.prog 12 #[v] W fun e w' => e = .returned (joinVal (xs.map RTok.tk)) ∧ Below W.heap.size W w' := fun v W hW hv => rjoin_r v xs W hv (hT.below hW) hN hs hn
  obtain ⟨T1, c1, hw⟩ := writeVal_pair t.k t.n t.s.data.toList
  obtain ⟨T2, c2, hj⟩ := joinVal_pair (xs.map RTok.tk)
  rw [hw] at cA cB
  rw [hj] at cJ cK
  clear hw hj
  obtain ⟨tk, ts, tn, ta, tb, tc⟩ := t
  simp only at cA cB hts htn ⊢
  obtain ⟨i0, hi0, hz0, hz1, hz2⟩ := info_parts info_tok
  have HB0 : Hid (Below w.heap.size w (w.alloc (.cells #[.int .i64 tk, .string ts, .int .i64 tn, .int .i64 ta, .int .i64 tb, .int .i64 tc] 35))) := (Below.refl _ _).alloc (Nat.le_refl _) _
  have HT0 : Hid _ := heap_in0 w (.cells #[.int .i64 tk, .string ts, .int .i64 tn, .int .i64 ta, .int .i64 tb, .int .i64 tc] 35)
  have hszw : w.heap.size < (w.alloc (.cells #[.int .i64 tk, .string ts, .int .i64 tn, .int .i64 ta, .int .i64 tb, .int .i64 tc] 35)).heap.size := by simp
  have HH : Hid (TokIn w va xs) := h
  have HNN : Hid _ := hN
  have hbs : ∀ W : World, (Instr.buildSlice 22 0 #[]).run Tryz.prog W = .ok (.slice (some ⟨W.heap.size, 0, none⟩) 0 0) (W.alloc (.cells #[] 35)) := fun W => by kernel_rfl
  clear h hs hn hT
  rcases hsrc with ⟨rfl, rfl⟩ | ⟨ad, capa, rfl, hca, hcl⟩
  · clear hN
    go_enter Tryz.func4, Tryz.ntmps4
    go_wp2_with (first | (go_at_call 9; refine (cA _ HB0.out).mono ?_; rintro e w1 ⟨rfl, hb1⟩; have HB1 : Hid (Below w.heap.size w w1) := HB0.out.trans (hb1.mono HB0.out.size); have HT1 : Hid (w1.heap[w.heap.size]? = _) := (hb1.block w.heap.size hszw).trans HT0.out; obtain ⟨y0, y1, y2, y3, y4, y5, _, _, _, _, _, _⟩ := tok6 HT1.out; have hsz1 : w.heap.size < w1.heap.size := Nat.lt_of_lt_of_le hszw hb1.size; clear hb1) | (go_at_call 10; refine (cB _ HB1.out).mono ?_; rintro e w2 ⟨rfl, hb2⟩; have HB2 : Hid (Below w.heap.size w (w2.alloc (.cells #[] 35))) := (HB1.out.trans (hb2.mono HB1.out.size)).alloc (Nat.le_trans HB1.out.size hb2.size) _; clear hb2) | (at_builtin; go_must (refine wpList_append_own_none rfl (.tmp 24) (.tmp 25) 22 rfl w2.heap.size 35 i0 6 Tryz.underlying22 hi0 _ _ _ rfl (fresh_empty w2) rfl ?_)))
    have H6 : Hid (TokSl (w2.alloc (.cells #[] 35)) (.slice (some ⟨w2.heap.size, 0, none⟩) 0 0) []) := own_tokSl (fresh_empty w2)
    have HB6 := HB2
    generalize w2.alloc (.cells #[] 35) = w6 at *
    generalize w2.heap.size = b2 at *
    have cJ1 := cJ _ _ HB6.out H6.out.isIn
    go_wp2_with (go_at_call 11; refine cJ1.mono ?_; rintro e w7 ⟨rfl, hb7⟩; have HB7 : Hid (Below w.heap.size w w7) := HB6.out.trans (hb7.mono HB6.out.size); have H7 : Hid (TokSl w7 _ []) := H6.out.below hb7; clear cJ1 hb7)
    have cK1 := cK _ _ HB7.out (HH.out.below HB7.out)
    go_wp2_with (go_at_call 12; refine cK1.mono ?_; rintro e w8 ⟨rfl, hb8⟩; have HB8 : Hid (Below w.heap.size w w8) := HB7.out.trans (hb8.mono HB7.out.size); have H8 : Hid (TokSl w8 _ []) := H7.out.below hb8; clear cK1 hb8)
    have cE := same_o _ _ [] w8 H8.out.isIn (HH.out.below HB8.out) (by simp)
    have e1 : (T1.toList == T1.toList) = true := by simp
    have e2 : (T2.toList == T2.toList) = true := by simp
    have e3 : (c1 == c1) = true := by simp
    have e4 : (c2 == c2) = true := by simp
    go_wp2_with (first | (go_at_call 13; refine (cM _ _).mono ?_; rintro e w' ⟨rfl, hw⟩; rw [hw]; clear hw w') | (go_at_call 7; refine cE.mono ?_; rintro e w9 ⟨rfl, q, rfl⟩; have HB9 : Hid (Below w.heap.size w (w8.drewN q)) := below_drewN HB8.out q; clear cE) | (go_at_call 8; refine (cH _ HB9.out).mono ?_; rintro e w10 ⟨rfl, hb10⟩))
    go_ret
    exact ⟨rfl, HB9.out.trans (hb10.mono HB9.out.size)⟩
  · have HCL : Hid _ := hcl
    clear hcl
    go_enter Tryz.func4, Tryz.ntmps4
    go_wp2_with (first | (go_at_call 9; refine (cA _ HB0.out).mono ?_; rintro e w1 ⟨rfl, hb1⟩; have HB1 : Hid (Below w.heap.size w w1) := HB0.out.trans (hb1.mono HB0.out.size); have HT1 : Hid (w1.heap[w.heap.size]? = _) := (hb1.block w.heap.size hszw).trans HT0.out; obtain ⟨y0, y1, y2, y3, y4, y5, _, _, _, _, _, _⟩ := tok6 HT1.out; have hsz1 : w.heap.size < w1.heap.size := Nat.lt_of_lt_of_le hszw hb1.size; clear hb1) | (go_at_call 10; refine (cB _ HB1.out).mono ?_; rintro e w2 ⟨rfl, hb2⟩; have HB2 : Hid (Below w.heap.size w (w2.alloc (.cells #[] 35))) := (HB1.out.trans (hb2.mono HB1.out.size)).alloc (Nat.le_trans HB1.out.size hb2.size) _; have HBS : Hid (w.heap.size ≤ w2.heap.size) := Nat.le_trans HB1.out.size hb2.size; clear hb2) | (at_builtin; go_must (refine wpList_append_own _ rfl (.tmp 24) (.tmp 25) 22 rfl w2.heap.size 35 i0 _ 6 56 Tryz.underlying22 hi0 hz0 hz1 hz2 rfl (by decide) _ _ _ rfl (fresh_empty w2) ad xs.length capa (xs.flatMap RTok.cells) rfl (by rw [rflat_len]) (src_below HB2.out HCL.out) (cells_one _) ?c3 ?c4 ?c5 ?_)))
    case c3 => first | omega | (unfold maxLen; omega) | (simp [maxLen]; omega)
    case c4 => first | omega | (simp; omega)
    case c5 => first | omega | simp | (simp; omega)
    intro v6 w6 hown6 hgrow6 _
    have H6 : Hid (TokSl w6 v6 xs) := by
      refine own_tokSl (B := w2.heap.size) ?_
      simpa using hown6
    have HB6 : Hid (Below w.heap.size w w6) := by
      have h1 : Below w2.heap.size (w2.alloc (.cells #[] 35)) w6 := (Below.refl _ _).grown hgrow6 (by simp) (fun k hk => ((fresh_empty w2).lt k hk).1)
      exact HB2.out.trans (h1.mono HBS.out)
    clear hown6 hgrow6
    have cJ1 := cJ _ _ HB6.out H6.out.isIn
    go_wp2_with (go_at_call 11; refine cJ1.mono ?_; rintro e w7 ⟨rfl, hb7⟩; have HB7 : Hid (Below w.heap.size w w7) := HB6.out.trans (hb7.mono HB6.out.size); have H7 : Hid (TokSl w7 _ xs) := H6.out.below hb7; clear cJ1 hb7)
    have cK1 := cK _ _ HB7.out (HH.out.below HB7.out)
    go_wp2_with (go_at_call 12; refine cK1.mono ?_; rintro e w8 ⟨rfl, hb8⟩; have HB8 : Hid (Below w.heap.size w w8) := HB7.out.trans (hb8.mono HB7.out.size); have H8 : Hid (TokSl w8 _ xs) := H7.out.below hb8; clear cK1 hb8)
    have cE := same_o _ _ xs w8 H8.out.isIn (HH.out.below HB8.out) (by have := HNN.out; omega)
    have e1 : (T1.toList == T1.toList) = true := by simp
    have e2 : (T2.toList == T2.toList) = true := by simp
    have e3 : (c1 == c1) = true := by simp
    have e4 : (c2 == c2) = true := by simp
    go_wp2_with (first | (go_at_call 13; refine (cM _ _).mono ?_; rintro e w' ⟨rfl, hw⟩; rw [hw]; clear hw w') | (go_at_call 7; refine cE.mono ?_; rintro e w9 ⟨rfl, q, rfl⟩; have HB9 : Hid (Below w.heap.size w (w8.drewN q)) := below_drewN HB8.out q; clear cE) | (go_at_call 8; refine (cH _ HB9.out).mono ?_; rintro e w10 ⟨rfl, hb10⟩))
    go_ret
    exact ⟨rfl, HB9.out.trans (hb10.mono HB9.out.size)⟩
end Go.Proofs.YtjbmpdcgmphhoaaGreatDoor
