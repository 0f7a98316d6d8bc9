/-
  What package token's Scan answers.
-/
import Derived.Test.YtjbmpdcgmphhoaaGreatDoorScanS
import Derived.Test.YtjbmpdcgmphhoaaGreatDoorName
namespace Go.Proofs.YtjbmpdcgmphhoaaGreatDoor
open Go.RowKit
set_option linter.unusedVariables false

theorem results_tmp_cell {fn : Func} {u p : Tmp} {ty : TypeId} (h : fn.results = #[.tmp u, .cell p ty]) (tmps : Array Value) (P : Program) (w : World) :
    (results fn tmps).run P w =
      ((asAddr (tmps.getD p undef)).run P w).andThen fun a w₁ => ((loadVar ty a).run P w₁).andThen fun x w₂ => .ok (.tuple #[tmps.getD u undef, x]) w₂ := by
  simp only [results, h]
  simp [Sem.run_bind, Result.andThen]
theorem ret_scan {fn : Func} {R : Ending → World → Prop} {tmps : Array Value} {w : World} {g : Nat} {cs : Array Value}
    (hres : fn.results = #[.tmp 2, .cell 3 27]) (hp : tmps.getD 3 undef = .pointer (some ⟨g, 0, none⟩)) (hg : w.heap[g]? = some (.cells cs 27 (0, 0))) (hcs : cs.size = 4)
    (hR : R (.returned (.tuple #[tmps.getD 2 undef, .agg cs])) w) : bodyPost Tryz.prog fn R .ret ⟨tmps, []⟩ w := by
  refine bodyPost_ret ?_ rfl hR
  have hl := run_loadVar_row (P := Tryz.prog) w g 27 27 cs (0, 0) _ hg Tryz.underlying27 rfl (by rw [hcs]; kernel_rfl)
  rw [results_tmp_cell hres]
  simp only [hp]
  simp [asAddr, Result.andThen, hl]

def tokCells (t : Tok) : List Value := [.int .i64 t.tk.kind, .string ⟨t.tk.text.toArray⟩, .int .i64 t.tk.num, .int .i64 t.line, .int .i64 t.col, .int .i64 t.off]
def fltV (f : Flt) : Value := .agg #[.int .i64 f.code, .int .i64 f.line, .int .i64 f.col, .int .i64 f.off]
def ScanPost (w : World) (R : Except Flt (List Tok)) (e : Ending) (w' : World) : Prop := Below w.heap.size w w' ∧
  match R with
  | .error f => e = .returned (.tuple #[.slice none 0 0, fltV f])
  | .ok l => ∃ v, e = .returned (.tuple #[v, fltV ⟨0, 0, 0, 0⟩]) ∧ w'.ownsRow w.heap.size 35 6 v l.length (l.flatMap tokCells)

def glue (toks : List Tok) : Except Flt (List Tok) → Except Flt (List Tok)
  | .error f => .error f
  | .ok r => .ok (toks ++ r)

set_option maxRecDepth 100000 in
set_option maxHeartbeats 1000000 in
theorem scan_long (s : ByteArray) (w : World) (hs : s.size ≤ 9223372036854775807) (hl : 65536 < s.size) :
    Calls Tryz.prog 5 #[.string s] w (ScanPost w (.error ⟨24, 0, 0, 0⟩)) := by
  go_enter Tryz.func5, Tryz.ntmps5
  go_wp2
  refine ret_scan ?_ ?_ (heap_in0 w _) ?_ ?_
  all_goals first | rfl | (exact ⟨(Below.refl _ w).alloc (Nat.le_refl _) _, rfl⟩)

theorem spot_cells {w : World} {S : Nat} {a b c : Value} (h : w.heap[S]? = some (.cells #[a, b, c] 25 (0, 0))) :
    w.cell? ⟨S, 0, none⟩ = some a ∧ w.cell? ⟨S, 1, none⟩ = some b ∧ w.cell? ⟨S, 2, none⟩ = some c := by
  refine ⟨?_, ?_, ?_⟩ <;> simp [World.cell?, h]

theorem info_tok : (Tryz.prog.info? 35).map (fun i => (i.zero, i.size, i.bytes)) = some (some (.agg #[.int .i64 0, .string ⟨#[]⟩, .int .i64 0, .int .i64 0, .int .i64 0, .int .i64 0]), 6, 56) := by kernel_rfl
theorem cells_new (w : World) (cs : List Value) (t : TypeId) : ∀ j u, cs[j]? = some u → (w.alloc (.cells cs.toArray t)).cell? ((⟨w.heap.size, 0, none⟩ : Addr).add j) = some u := by
  intro j u h
  have hadd : (⟨w.heap.size, 0, none⟩ : Addr).add j = ⟨w.heap.size, j, none⟩ := by unfold Addr.add; split <;> simp_all
  rw [hadd, World.cell?_alloc_mark]; simpa using h
theorem cell_old (w : World) (o : Obj) (S j : Nat) (h : S < w.heap.size) : (w.alloc o).cell? ⟨S, j, none⟩ = w.cell? ⟨S, j, none⟩ := World.cell?_of_block (Below.heap_alloc w o S h)

theorem part_size (L : List UInt8) (a b : Nat) : (partL L a b).size ≤ b - a := by
  have h : (partL L a b).data.toList.length ≤ b - a := by simp [partL]; omega
  simpa using h
theorem onLine_le (line : Int) (p : ByteArray) : line ≤ onLine line p ∧ onLine line p ≤ line + p.size := by
  have h : Lib.countByte p.data.toList 10 ≤ p.size := by have := List.count_le_length (a := (10 : UInt8)) (l := p.data.toList); simpa [Lib.countByte] using this
  unfold onLine; omega
theorem onCol_le (col : Int) (p : ByteArray) (h : 0 ≤ col) : 0 ≤ onCol col p ∧ onCol col p ≤ col + p.size := by
  have hI : -1 ≤ Lib.lastIndexByte p 10 ∧ Lib.lastIndexByte p 10 < p.size := by
    rcases Lib.lastIdx_spec p 10 p.size with ⟨h, _⟩ | ⟨i, h1, h2, _⟩
    · unfold Lib.lastIndexByte; rw [h]; omega
    · unfold Lib.lastIndexByte; rw [h2]; omega
  unfold onCol; split <;> omega
theorem glue_step (toks : List Tok) (t : Tok) (X : Except Flt (List Tok)) : glue toks (match X with | .error e => .error e | .ok r => .ok (t :: r)) = glue (toks ++ [t]) X := by
  rcases X with e | r
  · rfl
  · simp [glue]

theorem own_setOther {W : World} {B F e size n : Nat} {v : Value} {xs : List Value} (h : W.ownsRow B e size v n xs) (hF : F < B) (cs : Array Value) : (W.setRow F cs).ownsRow F e size v n xs := by
  obtain ⟨h1, h2⟩ := h
  refine ⟨h1, ?_⟩
  rcases h2 with h2 | ⟨g, cap, cur, e1, e2, e3, e4⟩
  · exact .inl h2
  · exact .inr ⟨g, cap, cur, e1, by omega, (setRow_other _ _ _ _ (by omega)).trans e3, e4⟩

theorem flt_cells {w : World} {S : Nat} {a b c d : Value} (h : w.heap[S]? = some (.cells #[a, b, c, d] 27 (0, 0))) :
    w.cell? ⟨S, 0, none⟩ = some a ∧ w.cell? ⟨S, 1, none⟩ = some b ∧ w.cell? ⟨S, 2, none⟩ = some c ∧ w.cell? ⟨S, 3, none⟩ = some d ∧ w.frozen? ⟨S, 0, none⟩ = false ∧ w.frozen? ⟨S, 1, none⟩ = false ∧ w.frozen? ⟨S, 2, none⟩ = false ∧ w.frozen? ⟨S, 3, none⟩ = false := by
  refine ⟨?_, ?_, ?_, ?_, ?_, ?_, ?_, ?_⟩ <;> simp [World.cell?, World.frozen?, h]

theorem heap_setCell_same {W : World} {F j : Nat} {cs : Array Value} {t : TypeId} {fr : Nat × Nat} (h : W.heap[F]? = some (.cells cs t fr)) (v : Value) : (W.setCell ⟨F, j, none⟩ v).heap[F]? = some (.cells (cs.set! j v) t fr) := by
  simp only [World.setCell, Array.getElem?_modify]
  simp [h]
theorem set4 {W : World} {F : Nat} {a b c d : Value} (h : W.heap[F]? = some (.cells #[a, b, c, d] 27 (0, 0))) (b0 b1 b2 b3 : Value) :
    ((((W.setCell ⟨F, 0, none⟩ b0).setCell ⟨F, 1, none⟩ b1).setCell ⟨F, 2, none⟩ b2).setCell ⟨F, 3, none⟩ b3).heap[F]? = some (.cells #[b0, b1, b2, b3] 27 (0, 0)) :=
  heap_setCell_same (heap_setCell_same (heap_setCell_same (heap_setCell_same h b0) b1) b2) b3

/-- What Scan's blocks hold between its steps. -/
structure Kept (F S : Nat) (w : World) (v : Value) (toks : List Tok) (a b c : Int) (W : World) : Prop where
  own : W.ownsRow (S + 1) 35 6 v toks.length (toks.flatMap tokCells)
  spot : W.heap[S]? = some (.cells #[.int .i64 a, .int .i64 b, .int .i64 c] 25 (0, 0))
  flt : W.heap[F]? = some (.cells #[.int .i64 0, .int .i64 0, .int .i64 0, .int .i64 0] 27 (0, 0))
  bel : Below F w W
  sz : S + 1 ≤ W.heap.size

theorem Kept.below {F S : Nat} {w : World} {v : Value} {toks : List Tok} {a b c : Int} {W W' : World} (h : Kept F S w v toks a b c W) (hFS : F < S) (hb : Below W.heap.size W W') : Kept F S w v toks a b c W' :=
  ⟨own_below h.own hb, (hb.block S (by have := h.sz; omega)).trans h.spot, (hb.block F (by have := h.sz; omega)).trans h.flt, h.bel.trans (hb.mono (by have := h.sz; omega)), Nat.le_trans h.sz hb.size⟩

theorem Kept.set {F S : Nat} {w : World} {v : Value} {toks : List Tok} {a b c : Int} {W : World} (h : Kept F S w v toks a b c W) (hFS : F < S) (a' b' c' : Int) :
    Kept F S w v toks a' b' c' (W.setRow S #[.int .i64 a', .int .i64 b', .int .i64 c']) := by
  refine ⟨?_, setRow_heap _ _ _ _ _ _ h.spot, (setRow_other _ _ _ _ (by omega)).trans h.flt, below_setRow h.bel (by omega) _, by rw [setRow_size]; exact h.sz⟩
  obtain ⟨h1, h2⟩ := h.own
  refine ⟨h1, ?_⟩
  rcases h2 with h2 | ⟨g, cap, cur, e1, e2, e3, e4⟩
  · exact .inl h2
  · exact .inr ⟨g, cap, cur, e1, e2, (setRow_other _ _ _ _ (by omega)).trans e3, e4⟩

set_option maxRecDepth 100000 in
set_option maxHeartbeats 2000000 in
theorem scan_short (s : ByteArray) (w : World) (mx : Int) (hl : s.size ≤ 65536) (hm : w.cell? ⟨0, 0, none⟩ = some (.int .i64 mx)) :
    Calls Tryz.prog 5 #[.string s] w (ScanPost w (scanF s.data.toList (s.data.toList.length + 1) 0 1 1 0 0)) := by
  have cB := fun W => begin_c W
  unfold spotV at cB
  have hmb : 0 < w.heap.size := World.block_lt_of_cell? w _ hm
  have hstart : scanF s.data.toList (s.data.toList.length + 1) 0 1 1 0 0 = glue [] (scanF s.data.toList (s.data.toList.length + 1) 0 1 1 0 0) := by
    rcases scanF s.data.toList (s.data.toList.length + 1) 0 1 1 0 0 with f | r <;> rfl
  obtain ⟨n0, hn0⟩ : ∃ n0, n0 = s.data.toList.length + 1 := ⟨_, rfl⟩
  have hn1 : s.size < n0 := by rw [hn0]; simp
  rw [← hn0] at hstart ⊢
  generalize hRR : scanF s.data.toList n0 0 1 1 0 0 = R at hstart ⊢
  rw [← hRR] at hstart
  have HS : Hid (R = glue [] (scanF s.data.toList n0 0 1 1 0 0)) := by rw [← hRR]; exact hstart
  clear hRR hstart hn0
  obtain ⟨F, hF⟩ : ∃ F, F = w.heap.size := ⟨_, rfl⟩
  go_enter Tryz.func5, Tryz.ntmps5
  go_wp2_with (go_at_call 14; refine (cB _).mono ?_; rintro e w1 ⟨rfl, hb1⟩)
  have hFlt : (w1.alloc (.cells #[.int .i64 1, .int .i64 1, .int .i64 0] 25)).heap[w.heap.size]? = some (.cells #[.int .i64 0, .int .i64 0, .int .i64 0, .int .i64 0] 27 (0, 0)) := by
    rw [Below.heap_alloc _ _ _ (by have := hb1.size; simp at this; omega)]
    exact (hb1.block w.heap.size (by simp)).trans (heap_in0 _ _)
  have HB0 : Hid (Below w.heap.size w (w1.alloc (.cells #[.int .i64 1, .int .i64 1, .int .i64 0] 25))) := below_step ((Below.refl _ w).alloc (Nat.le_refl _) _) hb1 ((Below.refl _ _).alloc (Nat.le_refl _) _)
  have hSF : w.heap.size < w1.heap.size := by have := hb1.size; simp at this; omega
  have HFlt : Hid _ := hFlt
  clear hFlt hb1 hF
  go_loopw [4, 5] (fun v i wr => ∃ (toks : List Tok) (line col : Int) (prev off n : Nat), i = .int .i64 off ∧ off ≤ s.size ∧ prev ≤ off ∧ s.size < off + n ∧ 0 ≤ line ∧ line ≤ 1 + prev ∧ 0 ≤ col ∧ col ≤ 1 + prev ∧ toks.length ≤ 16384 ∧ w1.heap.size + 1 ≤ wr.heap.size
      ∧ Hid (wr.ownsRow (w1.heap.size + 1) 35 6 v toks.length (toks.flatMap tokCells))
      ∧ Hid (wr.heap[w1.heap.size]? = some (.cells #[.int .i64 line, .int .i64 col, .int .i64 prev] 25 (0, 0)))
      ∧ Hid (wr.heap[w.heap.size]? = some (.cells #[.int .i64 0, .int .i64 0, .int .i64 0, .int .i64 0] 27 (0, 0)))
      ∧ Hid (Below w.heap.size w wr) ∧ Hid (R = glue toks (scanF s.data.toList n toks.length line col prev off))) (fun _ i _ => s.size + 1 - (intOf i).toNat)
  case atStart => exact ⟨[], 1, 1, 0, 0, n0, rfl, Nat.zero_le _, Nat.le_refl _, by omega, by omega, by omega, by omega, by omega, by simp, by simp, World.ownsRow_nil _ _ _ _, heap_in0 w1 _, HFlt.out, HB0.out, HS.out⟩
  case round =>
    obtain ⟨toks, line, col, prev, off, n, rfl, hoff, hprev, hfuel, hl0, hl1, hc0, hc1, htk, hsz, HOWN, HSP, HFL, HB, HR⟩ := hrel
    clear HS HB0 HFlt cB
    have hmr : wr.cell? ⟨0, 0, none⟩ = some (.int .i64 mx) := (HB.out.cell (p := ⟨0, 0, none⟩) hmb).trans hm
    have hsl : (s.extract off s.size).data.toList = s.data.toList.drop off := by rw [extract_list]; exact List.take_of_length_le (by simp)
    have hg1 := gap_le (s.data.toList.drop off)
    have hdl : (s.data.toList.drop off).length = s.size - off := by simp
    rw [hdl] at hg1
    cases n with
    | zero => omega
    | succ n =>
    have hRR := HR.out
    clear HR
    unfold scanF at hRR
    have cS : Calls Tryz.prog 15 #[.string (s.extract off s.size)] wr fun e w' => SkipPost (gap (s.data.toList.drop off)) e ∧ w' = wr := by
      have := skip_c (s.extract off s.size) wr mx (by simp; omega) hmr
      rw [hsl] at this; exact this
    unfold SkipPost at cS
    have cO : ∀ o, prev ≤ o → o ≤ s.size → Calls Tryz.prog 16 #[.string s, spotV line col prev, .int .i64 (o : Nat)] wr fun e w' => e = .returned (spotV (onLine line (partL s.data.toList prev o)) (onCol col (partL s.data.toList prev o)) o) ∧ Below wr.heap.size wr w' := fun o h1 h2 => by
      have := onward_c s line col prev o wr h1 h2 (by omega) (by omega) (by omega) (by omega) (by omega) (by omega)
      rw [extract_part] at this; exact this
    rcases hG : gap (s.data.toList.drop off) with ⟨g, ok⟩
    rw [hG] at cS hRR hg1
    simp only at cS hRR hg1
    have cO1 := cO (off + g) (by omega) (by omega)
    clear cO
    obtain ⟨hs0, hs1, hs2⟩ := spot_cells HSP.out
    unfold spotV at cO1
    have hps := part_size s.data.toList prev (off + g)
    have hlb := onLine_le line (partL s.data.toList prev (off + g))
    have hcb := onCol_le col (partL s.data.toList prev (off + g)) hc0
    have hlb1 : onLine line (partL s.data.toList prev (off + g)) ≤ 1 + ((off : Int) + g) := by omega
    have hcb1 : onCol col (partL s.data.toList prev (off + g)) ≤ 1 + ((off : Int) + g) := by omega
    have hlb0 : 0 ≤ onLine line (partL s.data.toList prev (off + g)) := by omega
    have hcb0 := hcb.1
    clear hlb hcb hps
    generalize hLn : onLine line (partL s.data.toList prev (off + g)) = ln at *
    generalize hCl : onCol col (partL s.data.toList prev (off + g)) = cl at *
    cases ok
    · simp only [Bool.false_eq_true, if_false] at cS
      rw [if_pos rfl] at hRR
      have hR1 : R = .error ⟨25, ln, cl, off + g⟩ := hRR
      subst hR1
      clear hRR hsl hdl hG hLn hCl
      have HK : Hid (Kept _ _ _ _ _ _ _ _ _) := (⟨HOWN.out, HSP.out, HFL.out, HB.out, hsz⟩ : Kept w.heap.size w1.heap.size w u4 toks line col prev wr)
      clear HOWN HFL HB
      go_wp2_with (first | (go_at_call 15; refine cS.mono ?_; rintro e W' ⟨rfl, rfl⟩) | (go_at_call 16; refine cO1.mono ?_; rintro e w2 ⟨rfl, hb2⟩; have hold := (hb2.block w1.heap.size (by omega)).trans HSP.out; have HK2 : Hid (Kept _ _ _ _ _ ln cl ((off : Int) + g) _) := (HK.out.below hSF hb2).set hSF ln cl ((off : Int) + g); clear hb2) | ((with_reducible apply step_store hold); rfl; rfl; kernel_rfl; rfl; kernel_rfl))
      · generalize hW : w2.setRow _ _ = W
        rw [hW] at HK2
        have hWF : Hid (W.heap[w.heap.size]? = some (.cells #[.int .i64 0, .int .i64 0, .int .i64 0, .int .i64 0] 27 (0, 0))) := HK2.out.flt
        have hWB : Hid (Below w.heap.size w W) := HK2.out.bel
        clear hW hold
        obtain ⟨k0, k1, k2⟩ := spot_cells HK2.out.spot
        obtain ⟨f0, f1, f2, f3, z0, z1, z2, z3⟩ := flt_cells hWF.out
        go_region
        go_wp2
        refine ret_scan ?_ ?_ (set4 hWF.out _ _ _ _) ?_ ?_
        · rfl
        · rfl
        · rfl
        · exact ⟨((((hWB.out.setCell (Nat.le_refl _) _).setCell (Nat.le_refl _) _).setCell (Nat.le_refl _) _).setCell (Nat.le_refl _) _).drew, rfl⟩
    · simp only [if_true] at cS
      rw [if_neg (by simp)] at hRR
      have hKr : Kept w.heap.size w1.heap.size w u4 toks line col prev wr := ⟨HOWN.out, HSP.out, HFL.out, HB.out, hsz⟩
      have HK : Hid (Kept _ _ _ _ _ _ _ _ _) := hKr
      clear hKr HOWN HFL HB
      have hsl2 : (s.extract (off + g) s.size).data.toList = s.data.toList.drop (off + g) := by rw [extract_list]; exact List.take_of_length_le (by simp)
      have cRd : ∀ W : World, Calls Tryz.prog 17 #[.string (s.extract (off + g) s.size)] W fun e w' => e = .returned (readVal (readT (s.data.toList.drop (off + g)))) ∧ Below W.heap.size W w' := fun W => by
        have := read_c (s.extract (off + g) s.size) W (by simp; omega)
        rw [hsl2] at this; exact this
      have hrl := readT_le (s.data.toList.drop (off + g))
      have hdl2 : (s.data.toList.drop (off + g)).length = s.size - (off + g) := by simp
      rw [hdl2] at hrl
      rcases hX : readT (s.data.toList.drop (off + g)) with ⟨tk, sz, code⟩
      rw [hX] at cRd hrl hRR
      simp only at hRR hrl
      unfold readVal tokV at cRd
      simp only at cRd
      clear hsl2 hsl hdl hdl2 hX hG hLn hCl
      obtain ⟨i0, hi, hz0, hz1, hz2⟩ := info_parts info_tok
      obtain ⟨a4, cap4, hv4⟩ : ∃ a cap, u4 = .slice a toks.length cap := by
        rcases HK.out.own.2 with ⟨e1, e2⟩ | ⟨g', cap', cur', e1, _⟩
        · exact ⟨none, 0, by rw [e1, e2]⟩
        · exact ⟨_, _, e1⟩
      by_cases hcode : code = 0
      · subst hcode
        rw [if_neg (by simp)] at hRR
        by_cases hmany : 0 < sz ∧ toks.length = 16384
        · rw [if_pos hmany] at hRR
          obtain ⟨hz', hlen⟩ := hmany
          have hR1 : R = .error ⟨23, ln, cl, off + g⟩ := hRR
          subst hR1
          clear hRR
          subst hv4
          rw [hlen] at *
          go_wp2_with (first | (go_at_call 15; refine cS.mono ?_; rintro e W' ⟨rfl, rfl⟩) | (go_at_call 16; refine cO1.mono ?_; rintro e w2 ⟨rfl, hb2⟩; have hold := (hb2.block w1.heap.size (by omega)).trans HSP.out; have HK2 : Hid (Kept _ _ _ _ _ ln cl ((off : Int) + g) _) := (HK.out.below hSF hb2).set hSF ln cl ((off : Int) + g); clear hb2) | ((with_reducible apply step_store hold); rfl; rfl; kernel_rfl; rfl; kernel_rfl) | (go_at_call 17; refine (cRd _).mono ?_; rintro e w4 ⟨rfl, hb4⟩; have HK4 : Hid (Kept _ _ _ _ _ ln cl ((off : Int) + g) w4) := HK2.out.below hSF hb4; have hq0 := fun o => (cell_old w4 o w1.heap.size 0 (by have := HK4.out.sz; omega)).trans (spot_cells HK4.out.spot).1; have hq1 := fun o => (cell_old w4 o w1.heap.size 1 (by have := HK4.out.sz; omega)).trans (spot_cells HK4.out.spot).2.1; have hq2 := fun o => (cell_old w4 o w1.heap.size 2 (by have := HK4.out.sz; omega)).trans (spot_cells HK4.out.spot).2.2; clear hb4 hold))
          generalize hW : w4.alloc _ = W
          have hWS : Hid (W.heap[w1.heap.size]? = some (.cells #[.int .i64 ln, .int .i64 cl, .int .i64 ((off : Int) + g)] 25 (0, 0))) := by rw [← hW]; exact (Below.heap_alloc _ _ _ (by have := HK4.out.sz; omega)).trans HK4.out.spot
          have hWF : Hid (W.heap[w.heap.size]? = some (.cells #[.int .i64 0, .int .i64 0, .int .i64 0, .int .i64 0] 27 (0, 0))) := by rw [← hW]; exact (Below.heap_alloc _ _ _ (by have := HK4.out.sz; omega)).trans HK4.out.flt
          have hWB : Hid (Below w.heap.size w W) := by rw [← hW]; exact HK4.out.bel.alloc (by have := HK4.out.sz; omega) _
          clear hW hq0 hq1 hq2
          obtain ⟨k0, k1, k2⟩ := spot_cells hWS.out
          obtain ⟨f0, f1, f2, f3, z0, z1, z2, z3⟩ := flt_cells hWF.out
          go_region
          go_wp2
          refine ret_scan ?_ ?_ (set4 hWF.out _ _ _ _) ?_ ?_
          · rfl
          · rfl
          · rfl
          · exact ⟨((((hWB.out.setCell (Nat.le_refl _) _).setCell (Nat.le_refl _) _).setCell (Nat.le_refl _) _).setCell (Nat.le_refl _) _).drew, rfl⟩
        · rw [if_neg hmany] at hRR
          by_cases hz : sz = 0
          · rw [if_pos hz] at hRR
            subst hz
            have HRR : Hid (R = .ok (toks ++ [(⟨tk, ln, cl, off + g⟩ : Tok)])) := hRR
            clear hRR hmany
            subst hv4
            go_wp2_with (first | (go_at_call 15; refine cS.mono ?_; rintro e W' ⟨rfl, rfl⟩) | (go_at_call 16; refine cO1.mono ?_; rintro e w2 ⟨rfl, hb2⟩; have hold := (hb2.block w1.heap.size (by omega)).trans HSP.out; have HK2 : Hid (Kept _ _ _ _ _ ln cl ((off : Int) + g) _) := (HK.out.below hSF hb2).set hSF ln cl ((off : Int) + g); clear hb2) | ((with_reducible apply step_store hold); rfl; rfl; kernel_rfl; rfl; kernel_rfl) | (go_at_call 17; refine (cRd _).mono ?_; rintro e w4 ⟨rfl, hb4⟩; have HK4 : Hid (Kept _ _ _ _ _ ln cl ((off : Int) + g) w4) := HK2.out.below hSF hb4; have hq0 := fun o => (cell_old w4 o w1.heap.size 0 (by have := HK4.out.sz; omega)).trans (spot_cells HK4.out.spot).1; have hq1 := fun o => (cell_old w4 o w1.heap.size 1 (by have := HK4.out.sz; omega)).trans (spot_cells HK4.out.spot).2.1; have hq2 := fun o => (cell_old w4 o w1.heap.size 2 (by have := HK4.out.sz; omega)).trans (spot_cells HK4.out.spot).2.2; clear hb4 hold) | (at_builtin; go_must (refine wpList_append_own _ rfl (.tmp 61) (.tmp 63) 22 rfl (w1.heap.size + 1) 35 i0 _ 6 56 Tryz.underlying22 hi hz0 hz1 hz2 rfl (by decide) _ _ _ rfl ((HK4.out.own.alloc _).alloc _) ⟨_, 0, none⟩ 1 1 _ ?c0 rfl (cells_new _ _ _) ?c2 ?c3 ?c4 ?c5 ?_)))
            case c0 => show Value.slice (some ⟨w4.heap.size + 1, 0, none⟩) 1 1 = _; simp
            case c2 => intro u hu; simp at hu; rcases hu with rfl | rfl | rfl | rfl | rfl | rfl <;> rfl
            case c3 => unfold maxLen; omega
            case c4 => omega
            case c5 => have := HK4.out.sz; simp; omega
            intro v' w5 hown' hgrow _
            have hne : ∀ k, k < w4.heap.size → k ≤ w1.heap.size → w5.heap[k]? = w4.heap[k]? := fun k h1 h2 => by
              rw [hgrow.block k (by simp; omega) (fun e => by have := (HK4.out.own.lt k e.symm).1; omega), Below.heap_alloc _ _ _ (by simp; omega), Below.heap_alloc _ _ _ h1]
            have HK5 : Hid (Kept w.heap.size w1.heap.size w v' (toks ++ [⟨tk, ln, cl, off + g⟩]) ln cl ((off : Int) + g) w5) := by
              have hsz4 := HK4.out.sz
              refine ⟨?_, (hne _ (by omega) (Nat.le_refl _)).trans HK4.out.spot, (hne _ (by omega) (by omega)).trans HK4.out.flt, ?_, ?_⟩
              · rw [List.flatMap_append, List.length_append]; exact hown'
              · exact ((HK4.out.bel.alloc (by omega) _).alloc (by simp; omega) _).grown hgrow (by simp; omega) (fun k hk => by have := (HK4.out.own.lt k hk).1; omega)
              · have := hgrow.size; simp at this; omega
            clear hown' hgrow hne
            have hold5 := HK5.out.flt
            go_wp2_with ((with_reducible apply step_store hold5); rfl; rfl; kernel_rfl; rfl; kernel_rfl)
            have hR1 := HRR.out
            subst hR1
            refine ret_scan ?_ ?_ (setRow_heap _ _ _ _ _ _ hold5) ?_ ?_
            · rfl
            · rfl
            · rfl
            · exact ⟨below_setRow HK5.out.bel (Nat.le_refl _) _, _, rfl, own_setOther HK5.out.own (by omega) _⟩
          · rw [if_neg hz] at hRR
            have HRR : Hid _ := hRR
            have hz' : 0 < sz := by omega
            have hlen' : ¬ ((toks.length : Int) = 16384) := by omega
            clear hRR
            subst hv4
            go_wp2_with (first | (go_at_call 15; refine cS.mono ?_; rintro e W' ⟨rfl, rfl⟩) | (go_at_call 16; refine cO1.mono ?_; rintro e w2 ⟨rfl, hb2⟩; have hold := (hb2.block w1.heap.size (by omega)).trans HSP.out; have HK2 : Hid (Kept _ _ _ _ _ ln cl ((off : Int) + g) _) := (HK.out.below hSF hb2).set hSF ln cl ((off : Int) + g); clear hb2) | ((with_reducible apply step_store hold); rfl; rfl; kernel_rfl; rfl; kernel_rfl) | (go_at_call 17; refine (cRd _).mono ?_; rintro e w4 ⟨rfl, hb4⟩; have HK4 : Hid (Kept _ _ _ _ _ ln cl ((off : Int) + g) w4) := HK2.out.below hSF hb4; have hq0 := fun o => (cell_old w4 o w1.heap.size 0 (by have := HK4.out.sz; omega)).trans (spot_cells HK4.out.spot).1; have hq1 := fun o => (cell_old w4 o w1.heap.size 1 (by have := HK4.out.sz; omega)).trans (spot_cells HK4.out.spot).2.1; have hq2 := fun o => (cell_old w4 o w1.heap.size 2 (by have := HK4.out.sz; omega)).trans (spot_cells HK4.out.spot).2.2; clear hb4 hold) | (at_builtin; go_must (refine wpList_append_own _ rfl (.tmp 61) (.tmp 63) 22 rfl (w1.heap.size + 1) 35 i0 _ 6 56 Tryz.underlying22 hi hz0 hz1 hz2 rfl (by decide) _ _ _ rfl ((HK4.out.own.alloc _).alloc _) ⟨_, 0, none⟩ 1 1 _ ?c0 rfl (cells_new _ _ _) ?c2 ?c3 ?c4 ?c5 ?_)))
            case c0 => show Value.slice (some ⟨w4.heap.size + 1, 0, none⟩) 1 1 = _; simp
            case c2 => intro u hu; simp at hu; rcases hu with rfl | rfl | rfl | rfl | rfl | rfl <;> rfl
            case c3 => unfold maxLen; omega
            case c4 => omega
            case c5 => have := HK4.out.sz; simp; omega
            intro v' w5 hown' hgrow _
            have hne : ∀ k, k < w4.heap.size → k ≤ w1.heap.size → w5.heap[k]? = w4.heap[k]? := fun k h1 h2 => by
              rw [hgrow.block k (by simp; omega) (fun e => by have := (HK4.out.own.lt k e.symm).1; omega), Below.heap_alloc _ _ _ (by simp; omega), Below.heap_alloc _ _ _ h1]
            have HK5 : Hid (Kept w.heap.size w1.heap.size w v' (toks ++ [⟨tk, ln, cl, off + g⟩]) ln cl ((off : Int) + g) w5) := by
              have hsz4 := HK4.out.sz
              refine ⟨?_, (hne _ (by omega) (Nat.le_refl _)).trans HK4.out.spot, (hne _ (by omega) (by omega)).trans HK4.out.flt, ?_, ?_⟩
              · rw [List.flatMap_append, List.length_append]; exact hown'
              · exact ((HK4.out.bel.alloc (by omega) _).alloc (by simp; omega) _).grown hgrow (by simp; omega) (fun k hk => by have := (HK4.out.own.lt k hk).1; omega)
              · have := hgrow.size; simp at this; omega
            clear hown' hgrow hne
            go_wp2
            go_roundw
            case rel => exact ⟨toks ++ [(⟨tk, ln, cl, off + g⟩ : Tok)], ln, cl, off + g, off + g + sz, n, by go_num, by omega, by omega, by omega, hlb0, by omega, hcb0, by omega, by simp; omega, HK5.out.sz, HK5.out.own, HK5.out.spot, HK5.out.flt, HK5.out.bel, by
                show R = _
                rw [HRR.out, List.length_append]
                show _ = glue (toks ++ [_]) (scanF s.data.toList n (toks.length + 1) ln cl (off + g) (off + g + sz))
                rcases scanF s.data.toList n (toks.length + 1) ln cl (off + g) (off + g + sz) with e | r
                · rfl
                · simp [glue]⟩
            case measure => simp [intOf]; omega
      · rw [if_pos hcode] at hRR
        have hcode' : ¬ ((code : Int) = 0) := by omega
        have hR1 : R = .error ⟨code, ln, cl, off + g⟩ := hRR
        subst hR1
        clear hRR
        subst hv4
        · go_wp2_with (first | (go_at_call 15; refine cS.mono ?_; rintro e W' ⟨rfl, rfl⟩) | (go_at_call 16; refine cO1.mono ?_; rintro e w2 ⟨rfl, hb2⟩; have hold := (hb2.block w1.heap.size (by omega)).trans HSP.out; have HK2 : Hid (Kept _ _ _ _ _ ln cl ((off : Int) + g) _) := (HK.out.below hSF hb2).set hSF ln cl ((off : Int) + g); clear hb2) | ((with_reducible apply step_store hold); rfl; rfl; kernel_rfl; rfl; kernel_rfl) | (go_at_call 17; refine (cRd _).mono ?_; rintro e w4 ⟨rfl, hb4⟩; have HK4 : Hid (Kept _ _ _ _ _ ln cl ((off : Int) + g) w4) := HK2.out.below hSF hb4; have hq0 := fun o => (cell_old w4 o w1.heap.size 0 (by have := HK4.out.sz; omega)).trans (spot_cells HK4.out.spot).1; have hq1 := fun o => (cell_old w4 o w1.heap.size 1 (by have := HK4.out.sz; omega)).trans (spot_cells HK4.out.spot).2.1; have hq2 := fun o => (cell_old w4 o w1.heap.size 2 (by have := HK4.out.sz; omega)).trans (spot_cells HK4.out.spot).2.2; clear hb4 hold))
          generalize hW : w4.alloc _ = W
          have hWS : Hid (W.heap[w1.heap.size]? = some (.cells #[.int .i64 ln, .int .i64 cl, .int .i64 ((off : Int) + g)] 25 (0, 0))) := by rw [← hW]; exact (Below.heap_alloc _ _ _ (by have := HK4.out.sz; omega)).trans HK4.out.spot
          have hWF : Hid (W.heap[w.heap.size]? = some (.cells #[.int .i64 0, .int .i64 0, .int .i64 0, .int .i64 0] 27 (0, 0))) := by rw [← hW]; exact (Below.heap_alloc _ _ _ (by have := HK4.out.sz; omega)).trans HK4.out.flt
          have hWB : Hid (Below w.heap.size w W) := by rw [← hW]; exact HK4.out.bel.alloc (by have := HK4.out.sz; omega) _
          clear hW hq0 hq1 hq2
          obtain ⟨k0, k1, k2⟩ := spot_cells hWS.out
          obtain ⟨f0, f1, f2, f3, z0, z1, z2, z3⟩ := flt_cells hWF.out
          go_region
          go_wp2
          refine ret_scan ?_ ?_ (set4 hWF.out _ _ _ _) ?_ ?_
          · rfl
          · rfl
          · rfl
          · exact ⟨((((hWB.out.setCell (Nat.le_refl _) _).setCell (Nat.le_refl _) _).setCell (Nat.le_refl _) _).setCell (Nat.le_refl _) _).drew, rfl⟩

/-- What Scan answers, at every text. -/
theorem scan_c (s : ByteArray) (w : World) (mx : Int) (hs : s.size ≤ 9223372036854775807) (hm : w.cell? ⟨0, 0, none⟩ = some (.int .i64 mx)) :
    Calls Tryz.prog 5 #[.string s] w (ScanPost w (scan s.data.toList)) := by
  unfold scan
  have hl : s.data.toList.length = s.size := by simp
  by_cases h : 65536 < s.size
  · rw [if_pos (by omega)]; exact scan_long s w hs h
  · rw [if_neg (by omega)]; exact scan_short s w mx (by omega) hm
end Go.Proofs.YtjbmpdcgmphhoaaGreatDoor
