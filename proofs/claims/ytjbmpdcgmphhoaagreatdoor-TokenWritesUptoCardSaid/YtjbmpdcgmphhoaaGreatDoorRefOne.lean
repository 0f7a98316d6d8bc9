/-
  What mortiseref02's one answers: the token at a place, as package token's read has it.
-/
import Derived.Test.YtjbmpdcgmphhoaaGreatDoorRefSig
import Derived.Test.YtjbmpdcgmphhoaaGreatDoorRefNumW
namespace Go.Proofs.YtjbmpdcgmphhoaaGreatDoor
open Go.RowKit
set_option linter.unusedVariables false

def OPost (i : Nat) (x : Tk × Nat × Nat) (e : Ending) : Prop :=
  if x.2.2 = 0 then e = .returned (.tuple #[tokV x.1.kind ⟨x.1.text.toArray⟩ x.1.num, .int .i64 (i + x.2.1 : Nat), .int .i64 0])
  else ∃ k : Int, e = .returned (.tuple #[noTok, .int .i64 k, .int .i64 (x.2.2 : Nat)])
theorem OPost.good {i n : Nat} {t : Tk} {e : Ending} (h : e = .returned (.tuple #[tokV t.kind ⟨t.text.toArray⟩ t.num, .int .i64 (i + n : Nat), .int .i64 0])) : OPost i (t, n, 0) e := by
  unfold OPost; rw [if_pos rfl]; exact h
theorem OPost.bad {i c : Nat} {t : Tk} {n : Nat} {e : Ending} (hc : c ≠ 0) (h : ∃ k : Int, e = .returned (.tuple #[noTok, .int .i64 k, .int .i64 (c : Nat)])) : OPost i (t, n, c) e := by
  unfold OPost; rw [if_neg hc]; exact h

theorem sign_cellAt (w : World) (k : Nat) (hk : k < 45) : (w.alloc (.cells signCells 9)).cell? ⟨w.heap.size, k, none⟩ = some (.string ⟨(signs.getD k []).toArray⟩) := by
  rw [World.cell?_alloc_mark]
  show signCells[k]? = _
  have hk2 : k < signs.length := hk
  simp [signCells, List.getElem?_eq_getElem hk2, List.getD_eq_getElem?_getD]

theorem tok6 {w : World} {S : Nat} {a b c d e f : Value} (h : w.heap[S]? = some (.cells #[a, b, c, d, e, f] 35 (0, 0))) :
    w.cell? ⟨S, 0, none⟩ = some a ∧ w.cell? ⟨S, 1, none⟩ = some b ∧ w.cell? ⟨S, 2, none⟩ = some c ∧ w.cell? ⟨S, 3, none⟩ = some d ∧ w.cell? ⟨S, 4, none⟩ = some e ∧ w.cell? ⟨S, 5, none⟩ = some f ∧ w.frozen? ⟨S, 0, none⟩ = false ∧ w.frozen? ⟨S, 1, none⟩ = false ∧ w.frozen? ⟨S, 2, none⟩ = false ∧ w.frozen? ⟨S, 3, none⟩ = false ∧ w.frozen? ⟨S, 4, none⟩ = false ∧ w.frozen? ⟨S, 5, none⟩ = false := by
  refine ⟨?_, ?_, ?_, ?_, ?_, ?_, ?_, ?_, ?_, ?_, ?_, ?_⟩ <;> simp [World.cell?, World.frozen?, h]
theorem setCell_far {W : World} {F g j : Nat} (h : g ≠ F) (v : Value) (k : Nat) : (W.setCell ⟨F, j, none⟩ v).cell? ⟨g, k, none⟩ = W.cell? ⟨g, k, none⟩ := by
  have e : (W.setCell ⟨F, j, none⟩ v).heap[g]? = W.heap[g]? := by
    simp only [World.setCell, Array.getElem?_modify]
    rw [if_neg (fun e => h e.symm)]
  simp only [World.cell?, e]
theorem far6 {W : World} {F g : Nat} (h : g ≠ F) {v0 v1 v2 v3 v4 v5 : Value} {k : Nat} : ((((((W.setCell ⟨F, 0, none⟩ v0).setCell ⟨F, 1, none⟩ v1).setCell ⟨F, 2, none⟩ v2).setCell ⟨F, 3, none⟩ v3).setCell ⟨F, 4, none⟩ v4).setCell ⟨F, 5, none⟩ v5).cell? ⟨g, k, none⟩ = W.cell? ⟨g, k, none⟩ := by
  rw [setCell_far h, setCell_far h, setCell_far h, setCell_far h, setCell_far h, setCell_far h]
theorem set_same {W : World} {F j : Nat} {cs : Array Value} {t : TypeId} {fr : Nat × Nat} (h : W.heap[F]? = some (.cells cs t fr)) (v : Value) : (W.setCell ⟨F, j, none⟩ v).heap[F]? = some (.cells (cs.set! j v) t fr) := by
  simp only [World.setCell, Array.getElem?_modify]
  simp [h]
theorem set6 {W : World} {F : Nat} {a b c d e f : Value} (h : W.heap[F]? = some (.cells #[a, b, c, d, e, f] 35 (0, 0))) (v0 v1 v2 v3 v4 v5 : Value) :
    ((((((W.setCell ⟨F, 0, none⟩ v0).setCell ⟨F, 1, none⟩ v1).setCell ⟨F, 2, none⟩ v2).setCell ⟨F, 3, none⟩ v3).setCell ⟨F, 4, none⟩ v4).setCell ⟨F, 5, none⟩ v5).heap[F]? = some (.cells #[v0, v1, v2, v3, v4, v5] 35 (0, 0)) :=
  set_same (set_same (set_same (set_same (set_same (set_same h v0) v1) v2) v3) v4) v5
theorem sign_len : ∀ k, k < 45 → (signs.getD k []).length ≤ 3 ∧ 0 < (signs.getD k []).length := by decide +kernel

set_option maxRecDepth 100000 in
set_option maxHeartbeats 8000000 in
theorem one_r (s : ByteArray) (i : Nat) (w : World) (hs : s.size ≤ 140737488355327) (hi : i ≤ s.size) :
    Calls Tryz.prog 20 #[.string s, .int .i64 i] w fun e w' => OPost i (readT (s.data.toList.drop i)) e ∧ Below w.heap.size w w' := by
  have hbz : ∀ W : World, (Instr.build 35 #[]).run Tryz.prog W = .ok (.agg #[.int .i64 0, .string ⟨#[]⟩, .int .i64 0, .int .i64 0, .int .i64 0, .int .i64 0]) W := fun W => by kernel_rfl
  have hn0 : ∀ W : World, (Op.unary UnOp.not (.bool false)).run Tryz.prog W = .ok (.bool true) W := fun _ => rfl
  have hn1 : ∀ W : World, (Op.unary UnOp.not (.bool true)).run Tryz.prog W = .ok (.bool false) W := fun _ => rfl
  by_cases hend : i < s.size
  case neg =>
    have hr : readT (s.data.toList.drop i) = (Tk.no, 0, 0) := by rw [List.drop_eq_nil_of_le (by simp; omega)]; rfl
    rw [hr]
    have g0 : (s.size : Int) ≤ i := by omega
    clear hr
    go_enter Tryz.func20, Tryz.ntmps20
    go_wp2
    refine ret_tokc (p := 4) (q := 5) (r := 6) rfl rfl (heap_r0 _ _) rfl ⟨OPost.good ?_, (Below.refl _ _).alloc (Nat.le_refl _) _⟩
    rfl
  case pos =>
  have hcons := drop_get s i hend
  have g0 : ¬ ((s.size : Int) ≤ i) := by omega
  obtain ⟨n, hn⟩ : ∃ n, n = runLen bName (s.data.toList.drop i) := ⟨_, rfl⟩
  have hnl : i + n ≤ s.size := by
    have := runLen_le bName (s.data.toList.drop i)
    rw [← hn, List.length_drop] at this
    have h2 : s.data.toList.length = s.size := by simp
    omega
  obtain ⟨X, hX⟩ : ∃ X, X = s.extract i (i + n) := ⟨_, rfl⟩
  have hXl : X.data.toList = nameOf (s.data.toList.drop i) := by
    rw [hX, extract_list]; unfold nameOf; rw [← hn]; congr 1; omega
  have hXs : X.size = n := by rw [hX]; simp; omega
  have hsl : ∀ W : World, (Instr.sliceAt 9 (.string s) (some (.int .i64 (i : Int))) (some (.int .i64 ((i + n : Nat) : Int))) none).run Tryz.prog W = .ok (.string X) W := fun W => by
    have h := run_slice_string (P := Tryz.prog) W 9 s .i64 .i64 i ((i + n : Nat) : Int) Tryz.underlying9 (by omega) (by omega) (by omega)
    have e1 : ((i : Int)).toNat = i := by omega
    have e2 : (((i + n : Nat) : Int)).toNat = i + n := by omega
    rw [e1, e2, ← hX] at h
    have h2 : (Instr.sliceAt 9 (.string s) (some (.int .i64 (i : Int))) (some (.int .i64 ((i + n : Nat) : Int))) none).run Tryz.prog W = (Instr.slice 9 (.string s) (some (.int .i64 (i : Int))) (some (.int .i64 ((i + n : Nat) : Int))) none).run Tryz.prog W := by simp [Instr.sliceAt, run_underlying Tryz.underlying9]
    rw [h2]; exact h
  have HN : Hid (n = (i - i) + runLen bName (s.data.toList.drop i)) := by show _ = _; omega
  have HN0 : Hid _ := hn
  obtain ⟨K, hK⟩ : ∃ K, K = i + n := ⟨_, rfl⟩
  rw [← hK] at hsl hnl
  have hll : s.data.toList.length = s.size := by simp
  obtain ⟨T, hT⟩ : ∃ T, T = readT (s.data.toList.drop i) := ⟨_, rfl⟩
  rw [← hT]
  have HT : Hid _ := hT
  have HXL : Hid _ := hXl
  have HXX : Hid _ := hX
  clear hX hXl hn hT
  go_enter Tryz.func20, Tryz.ntmps20
  go_upto_region 3 with (fail)
  iterate 11 go_step
  go_cut [7] from 22 (fun kv wc => kv = .int .i64 K ∧ wc = w.alloc (.cells #[.int .i64 0, .string ⟨#[]⟩, .int .i64 0, .int .i64 0, .int .i64 0, .int .i64 0] 35))
  case first =>
    go_wp2
    go_loop [7] (fun kv => ∃ k : Nat, kv = .int .i64 k ∧ i ≤ k ∧ k ≤ s.size ∧ Hid (n = (k - i) + runLen bName (s.data.toList.drop k))) (fun kv => s.size - (intOf kv).toNat)
    case atStart => exact ⟨i, rfl, Nat.le_refl _, hi, HN⟩
    case round =>
      obtain ⟨k, rfl, hik, hks, HK⟩ := hrel
      clear HN hsl
      by_cases hlt : k < s.size
      · have c1 := fun W => letter_r (s[k]).toNat W (s[k]).toNat_lt
        have c2 := fun W => digit_r (s[k]).toNat W (s[k]).toNat_lt
        have gA : decide ((k : Int) < s.size) = true := by simp; omega
        have gA' : decide (k < s.size) = true := by simpa using hlt
        have hst := HK.out
        rw [runLen_drop bName s k hlt] at hst
        rcases hN : bName (s[k]).toNat with _ | _
        · rw [hN] at hst
          have hb1 : bLetter (s[k]).toNat = false := by
            rcases h : bLetter (s[k]).toNat with _ | _
            · rfl
            · simp [bName, h] at hN
          have hb2 : decide (bDigit (s[k]).toNat < 10) = false := by
            rcases h : decide (bDigit (s[k]).toNat < 10) with _ | _
            · rfl
            · simp [bName, h] at hN
          rw [hb1] at c1
          rw [hb2] at c2
          have HKK : Hid (K = k) := by show K = k; simp at hst; omega
          clear HK hst hN hb1 hb2
          go_wp2_with (first | (go_at_call 44; refine (c1 _).mono ?_; rintro e w' ⟨rfl, rfl⟩) | (go_at_call 45; refine (c2 _).mono ?_; rintro e w' ⟨rfl, rfl⟩))
          go_meet
          case rel => rw [HKK.out]; exact ⟨rfl, rfl⟩
        · rw [hN] at hst
          have HK2 : Hid (n = (k + 1 - i) + runLen bName (s.data.toList.drop (k + 1))) := by show _ = _; simp only [if_true] at hst; omega
          rcases hb1 : bLetter (s[k]).toNat with _ | _
          · have hb2 : decide (bDigit (s[k]).toNat < 10) = true := by
              rcases h : decide (bDigit (s[k]).toNat < 10) with _ | _
              · simp [bName, hb1, h] at hN
              · rfl
            rw [hb1] at c1
            rw [hb2] at c2
            clear HK hst hN hb1 hb2
            go_wp2_with (first | (go_at_call 44; refine (c1 _).mono ?_; rintro e w' ⟨rfl, rfl⟩) | (go_at_call 45; refine (c2 _).mono ?_; rintro e w' ⟨rfl, rfl⟩))
            refine ⟨⟨k + 1, by go_num, by omega, by omega, HK2⟩, by simp [intOf]; omega⟩
          · rw [hb1] at c1
            clear HK hst hN hb1
            go_wp2_with (first | (go_at_call 44; refine (c1 _).mono ?_; rintro e w' ⟨rfl, rfl⟩) | (go_at_call 45; refine (c2 _).mono ?_; rintro e w' ⟨rfl, rfl⟩))
            refine ⟨⟨k + 1, by go_num, by omega, by omega, HK2⟩, by simp [intOf]; omega⟩
      · have gA : decide ((k : Int) < s.size) = false := by simp; omega
        have gA' : decide (k < s.size) = false := by simpa using hlt
        have HKK : Hid (K = k) := by
          have hst := HK.out
          rw [List.drop_eq_nil_of_le (by omega)] at hst
          show K = k
          simp only [runLen] at hst; omega
        clear HK
        go_wp2
        go_meet
        case rel => rw [HKK.out]; exact ⟨rfl, rfl⟩
  case rest =>
    obtain ⟨rfl, rfl⟩ := hcut
    have HKI : Hid (K = i + n) := hK
    clear HN hK
    have h256 := (s[i]).toNat_lt
    have cD := fun W => digit_r (s[i]).toNat W h256
    have cL := fun W => letter_r (s[i]).toNat W h256
    have hread : T = readT (s[i] :: s.data.toList.drop (i + 1)) := by rw [HT.out, hcons]
    have hname : nameOf (s[i] :: s.data.toList.drop (i + 1)) = X.data.toList := by rw [HXL.out, hcons]
    have hrun : runLen bName (s[i] :: s.data.toList.drop (i + 1)) = n := by rw [HN0.out, hcons]
    have HT0 : Hid ((w.alloc (.cells #[.int .i64 0, .string ⟨#[]⟩, .int .i64 0, .int .i64 0, .int .i64 0, .int .i64 0] 35)).heap[w.heap.size]? = some (.cells #[.int .i64 0, .string ⟨#[]⟩, .int .i64 0, .int .i64 0, .int .i64 0, .int .i64 0] 35 (0, 0))) := heap_r0 w _
    have HB0 : Hid (Below w.heap.size w (w.alloc (.cells #[.int .i64 0, .string ⟨#[]⟩, .int .i64 0, .int .i64 0, .int .i64 0, .int .i64 0] 35))) := (Below.refl _ _).alloc (Nat.le_refl _) _
    have hszw : w.heap.size < (w.alloc (.cells #[.int .i64 0, .string ⟨#[]⟩, .int .i64 0, .int .i64 0, .int .i64 0, .int .i64 0] 35)).heap.size := by simp
    rcases hD : decide (bDigit (s[i]).toNat < 10) with _ | _
    · rw [hD] at cD
      have hD' : ¬ bDigit (s[i]).toNat < 10 := by simpa using hD
      rcases hL : bLetter (s[i]).toNat with _ | _
      · rw [hL] at cL
        by_cases hQ : (s[i]).toNat = 39 ∨ (s[i]).toNat = 34
        · have hT2 : T = match quoteR (s[i]).toNat (unq (s[i]).toNat (s.data.toList.drop (i + 1))) with
              | none => (Tk.no, 0, 26)
              | some (t, m) => (t, 1 + m, 0) := by
            rw [hread]
            simp only [readT, hL, hD', Bool.false_eq_true, if_false, hQ, if_true]
            rcases unq (s[i]).toNat (s.data.toList.drop (i + 1)) with _ | ⟨t, m⟩
            · rfl
            · by_cases h34 : (s[i]).toNat = 34
              · simp [quoteR, h34]
              · simp only [quoteR, h34, if_false]
                rcases t with _ | ⟨c, _ | ⟨d, r⟩⟩ <;> rfl
          have cQ := fun W => quoted_r s i W hs hend
          have gQ : (((s[i]).toNat : Int) == 34) = true ∨ ((((s[i]).toNat : Int) == 34) = false ∧ (((s[i]).toNat : Int) == 39) = true) := by
            simp only [beq_iff_eq, beq_eq_false_iff_ne]; omega
          generalize quoteR (s[i]).toNat (unq (s[i]).toNat (s.data.toList.drop (i + 1))) = QQ at *
          clear hread hname hrun hcons HT hQ hD hD' hL hsl
          generalize w.alloc (.cells #[.int .i64 0, .string ⟨#[]⟩, .int .i64 0, .int .i64 0, .int .i64 0, .int .i64 0] 35) = w0 at *
          rcases QQ with _ | ⟨tk, m⟩
          · subst hT2
            unfold QPost at cQ
            simp only [noTok, tokV] at cQ
            rcases gQ with g1 | ⟨g1, g2⟩
            all_goals
              go_wp2_with (first | (go_at_call 45; refine (cD _).mono ?_; rintro e w' ⟨rfl, rfl⟩) | (go_at_call 44; refine (cL _).mono ?_; rintro e w' ⟨rfl, rfl⟩) | (go_at_call 48; refine (cQ _).mono ?_; rintro e w1 ⟨⟨kk, rfl⟩, hb1⟩; have hold1 : (w1.alloc (.cells #[.int .i64 0, .string ⟨#[]⟩, .int .i64 0, .int .i64 0, .int .i64 0, .int .i64 0] 35)).heap[w.heap.size]? = _ := (Below.heap_alloc w1 _ _ (Nat.lt_of_lt_of_le hszw hb1.size)).trans ((hb1.block w.heap.size hszw).trans HT0.out); have HB1 : Hid (Below w.heap.size w (w1.alloc (.cells #[.int .i64 0, .string ⟨#[]⟩, .int .i64 0, .int .i64 0, .int .i64 0, .int .i64 0] 35))) := (HB0.out.trans (hb1.mono HB0.out.size)).alloc (Nat.le_trans HB0.out.size hb1.size) _; clear hb1) | ((with_reducible apply step_store hold1); rfl; rfl; kernel_rfl; rfl; kernel_rfl))
              refine ret_tokc (p := 4) (q := 5) (r := 6) ?_ ?_ (setRow_heap _ _ _ _ _ _ hold1) ?_ ?_
              all_goals first | rfl | (exact ⟨OPost.bad (by decide) ⟨_, rfl⟩, below_setRow HB1.out (Nat.le_refl _) _⟩)
          · simp only at hT2
            subst hT2
            unfold QPost at cQ
            simp only [tokV] at cQ
            obtain ⟨tkk, tkt, tkn⟩ := tk
            simp only at cQ
            rcases gQ with g1 | ⟨g1, g2⟩
            all_goals
              go_wp2_with (first | (go_at_call 45; refine (cD _).mono ?_; rintro e w' ⟨rfl, rfl⟩) | (go_at_call 44; refine (cL _).mono ?_; rintro e w' ⟨rfl, rfl⟩) | (go_at_call 48; refine (cQ _).mono ?_; rintro e w1 ⟨rfl, hb1⟩; have hold1 : (w1.alloc (.cells #[.int .i64 tkk, .string ⟨tkt.toArray⟩, .int .i64 tkn, .int .i64 0, .int .i64 0, .int .i64 0] 35)).heap[w.heap.size]? = _ := (Below.heap_alloc w1 _ _ (Nat.lt_of_lt_of_le hszw hb1.size)).trans ((hb1.block w.heap.size hszw).trans HT0.out); have HB1 : Hid (Below w.heap.size w (w1.alloc (.cells #[.int .i64 tkk, .string ⟨tkt.toArray⟩, .int .i64 tkn, .int .i64 0, .int .i64 0, .int .i64 0] 35))) := (HB0.out.trans (hb1.mono HB0.out.size)).alloc (Nat.le_trans HB0.out.size hb1.size) _; clear hb1) | ((with_reducible apply step_store hold1); rfl; rfl; kernel_rfl; rfl; kernel_rfl))
              refine ret_tokc (p := 4) (q := 5) (r := 6) ?_ ?_ (setRow_heap _ _ _ _ _ _ hold1) ?_ ?_
              all_goals first | rfl | (exact ⟨OPost.good (by rw [← Nat.add_assoc]; rfl), below_setRow HB1.out (Nat.le_refl _) _⟩)
        · have hT2 : T = if (signOf (s.data.toList.drop i)).isEmpty then (Tk.no, 0, 20) else (⟨6, signOf (s.data.toList.drop i), 0⟩, (signOf (s.data.toList.drop i)).length, 0) := by
            rw [hread, hcons]
            simp only [readT, hL, hD', Bool.false_eq_true, if_false, hQ]
          have HS0 : Hid (signOf (s.data.toList.drop i) = signFrom (s.data.toList.drop i) 0) := rfl
          have gQ1 : (((s[i]).toNat : Int) == 34) = false := by rw [beq_eq_false_iff_ne]; omega
          have gQ2 : (((s[i]).toNat : Int) == 39) = false := by rw [beq_eq_false_iff_ne]; omega
          generalize signOf (s.data.toList.drop i) = sg at *
          have HT2 : Hid _ := hT2
          clear hread hname hrun hcons HT hQ hD hD' hL hsl hT2
          generalize w.alloc (.cells #[.int .i64 0, .string ⟨#[]⟩, .int .i64 0, .int .i64 0, .int .i64 0, .int .i64 0] 35) = w0 at *
          have cS := fun W => signs_r W
          go_wp2_with (first | (go_at_call 45; refine (cD _).mono ?_; rintro e w' ⟨rfl, hw⟩; rw [hw]; clear hw w') | (go_at_call 44; refine (cL _).mono ?_; rintro e w' ⟨rfl, hw⟩; rw [hw]; clear hw w') | (go_at_call 49; refine (cS _).mono ?_; rintro e w1 ⟨rfl, rfl⟩))
          have HC : Hid (∀ k, k < 45 → (w0.alloc (.cells signCells 9)).cell? ⟨w0.heap.size, k, none⟩ = some (.string ⟨(signs.getD k []).toArray⟩)) := sign_cellAt w0
          have hold1 : (w0.alloc (.cells signCells 9)).heap[w.heap.size]? = _ := (Below.heap_alloc w0 _ _ hszw).trans HT0.out
          have HB1 : Hid (Below w.heap.size w (w0.alloc (.cells signCells 9))) := HB0.out.alloc HB0.out.size _
          generalize w0.alloc (.cells signCells 9) = w1 at *
          generalize w0.heap.size = b0 at *
          clear HT0 HB0
          go_loop [14] (fun v => ∃ k : Nat, v = .int .i64 k ∧ k ≤ 45 ∧ Hid (sg = signFrom (s.data.toList.drop i) k)) (fun v => 45 - (intOf v).toNat)
          case atStart => exact ⟨0, rfl, by omega, HS0⟩
          case round =>
            obtain ⟨k, rfl, hk, HK⟩ := hrel
            clear HS0
            by_cases hlt : k < 45
            · have hc := HC.out k hlt
              have hxl := sign_len k hlt
              have hst := HK.out
              rw [signFrom_step _ k hlt] at hst
              have hsz1 : (ByteArray.mk (signs.getD k []).toArray).size = (signs.getD k []).length := by show (signs.getD k []).toArray.size = _; simp
              have cA := fun W => at_r s ⟨(signs.getD k []).toArray⟩ i W hi (by omega) (by rw [hsz1]; omega)
              generalize signs.getD k [] = x at *
              rcases hP : Lib.hasPrefix (s.data.toList.drop i) x with _ | _
              · rw [hP] at hst
                simp only [Bool.false_eq_true, if_false] at hst
                have HK2 : Hid _ := hst
                simp only [hP] at cA
                clear HK hst hP HT2 hold1
                go_wp2_with (go_at_call 43; refine (cA _).mono ?_; rintro e w' ⟨rfl, rfl⟩)
                refine ⟨⟨k + 1, by go_num, by omega, HK2⟩, by simp [intOf]; omega⟩
              · rw [hP] at hst
                simp only [if_true] at hst
                have hT3 := HT2.out
                rw [hst] at hT3
                have hne : x.isEmpty = false := by rcases x with _ | ⟨y, z⟩ <;> simp at hxl ⊢
                rw [hne] at hT3
                simp only [if_false, Bool.false_eq_true] at hT3
                subst hT3
                simp only [hP] at cA
                clear HK hst hP HT2 hne
                go_wp2_with (go_at_call 43; refine (cA _).mono ?_; rintro e w' ⟨rfl, hw⟩; rw [hw]; clear hw w')
                obtain ⟨k0, k1, k2, k3, k4, k5, z0, z1, z2, z3, z4, z5⟩ := tok6 hold1
                have hfar : ∀ (W : World) (j : Nat) (v : Value), (W.setCell ⟨w.heap.size, j, none⟩ v).cell? ⟨b0, k, none⟩ = W.cell? ⟨b0, k, none⟩ := fun W j v => setCell_far (by omega) v k
                try clear cA
                try clear HC
                try clear cD
                try clear cL
                try clear hbz
                try clear hsz1
                go_region
                go_wp2
                refine ret_tokc (p := 4) (q := 5) (r := 6) ?_ ?_ (set6 hold1 _ _ _ _ _ _) ?_ ?_
                · rfl
                · rfl
                · rfl
                · exact ⟨OPost.good (by rfl), ((((((HB1.out.setCell (Nat.le_refl _) _).setCell (Nat.le_refl _) _).setCell (Nat.le_refl _) _).setCell (Nat.le_refl _) _).setCell (Nat.le_refl _) _).setCell (Nat.le_refl _) _).drew⟩
            · have hT3 := HT2.out
              have hke : k = 45 := by omega
              subst hke
              have hst : sg = [] := HK.out
              rw [hst] at hT3
              simp only [List.isEmpty_nil, if_true] at hT3
              subst hT3
              clear HK HT2 hst
              go_wp2_with ((with_reducible apply step_store hold1); rfl; rfl; kernel_rfl; rfl; kernel_rfl)
              refine ret_tokc (p := 4) (q := 5) (r := 6) ?_ ?_ (setRow_heap _ _ _ _ _ _ hold1) ?_ ?_
              all_goals first | rfl | (exact ⟨OPost.bad (by decide) ⟨_, rfl⟩, below_setRow HB1.out (Nat.le_refl _) _⟩)
      · rw [hL] at cL
        have hT2 : T = if 63 < n then (Tk.no, 0, 22) else (⟨if isWord X.data.toList then 2 else 1, X.data.toList, 0⟩, n, 0) := by
          rw [hread]; simp only [readT, hL, if_true]; rw [hrun, hname]
        clear hread hname hrun hcons HT HT0 hszw
        by_cases h63 : 63 < n
        · rw [if_pos h63] at hT2
          subst hT2
          have g63 : (63 : Int) < (K : Int) - i := by have := HKI.out; omega
          clear HB0
          go_wp2_with (first | (go_at_call 45; refine (cD _).mono ?_; rintro e w' ⟨rfl, rfl⟩) | (go_at_call 44; refine (cL _).mono ?_; rintro e w' ⟨rfl, rfl⟩))
          refine ret_tokc (p := 4) (q := 5) (r := 6) rfl rfl (heap_r0 _ _) rfl ⟨OPost.bad (by decide) ⟨_, rfl⟩, (Below.refl _ _).alloc (Nat.le_refl _) _⟩
        · rw [if_neg h63] at hT2
          have g63 : ¬ ((63 : Int) < (K : Int) - i) := by have := HKI.out; omega
          have HT0 : Hid ((w.alloc (.cells #[.int .i64 0, .string ⟨#[]⟩, .int .i64 0, .int .i64 0, .int .i64 0, .int .i64 0] 35)).heap[w.heap.size]? = some (.cells #[.int .i64 0, .string ⟨#[]⟩, .int .i64 0, .int .i64 0, .int .i64 0, .int .i64 0] 35 (0, 0))) := heap_r0 w _
          have hszw : w.heap.size < (w.alloc (.cells #[.int .i64 0, .string ⟨#[]⟩, .int .i64 0, .int .i64 0, .int .i64 0, .int .i64 0] 35)).heap.size := by simp
          have HX2 : Hid (X = ⟨X.data.toList.toArray⟩) := rfl
          have cK := fun W => keyword_r X W
          generalize w.alloc (.cells #[.int .i64 0, .string ⟨#[]⟩, .int .i64 0, .int .i64 0, .int .i64 0, .int .i64 0] 35) = w0 at *
          rcases hW : isWord X.data.toList with _ | _
          all_goals
            rw [hW] at cK hT2
            simp only [if_true, if_false, Bool.false_eq_true] at hT2
            subst hT2
            clear hW
            go_wp2_with (first | (go_at_call 45; refine (cD _).mono ?_; rintro e w' ⟨rfl, rfl⟩) | (go_at_call 44; refine (cL _).mono ?_; rintro e w' ⟨rfl, rfl⟩) | (go_at_call 47; refine (cK _).mono ?_; rintro e w1 ⟨rfl, hb1⟩; have hold1 := (hb1.block w.heap.size hszw).trans HT0.out; have HB1 : Hid (Below w.heap.size w w1) := HB0.out.trans (hb1.mono HB0.out.size); clear hb1) | ((with_reducible apply step_store hold1); rfl; rfl; kernel_rfl; rfl; kernel_rfl))
            refine ret_tokc (p := 4) (q := 5) (r := 6) ?_ ?_ (setRow_heap _ _ _ _ _ _ hold1) ?_ ?_
            all_goals first | rfl | (exact ⟨OPost.good (by rw [← HKI.out]; rfl), below_setRow HB1.out (Nat.le_refl _) _⟩)
    · rw [hD] at cD
      have hD' : bDigit (s[i]).toNat < 10 := by simpa using hD
      have hL : bLetter (s[i]).toNat = false := by
        have h48 : 48 ≤ (s[i]).toNat ∧ (s[i]).toNat ≤ 57 := by
          unfold bDigit at hD'
          split at hD'
          · assumption
          · split at hD'
            · omega
            · split at hD' <;> omega
        rw [Bool.eq_false_iff]; intro hc; simp [bLetter] at hc; omega
      have hT2 : T = if numOk X.data.toList then (⟨3, numKind X.data.toList, numVal X.data.toList⟩, n, 0) else (Tk.no, 0, 21) := by
        rw [hread]; simp only [readT, hL, hD', Bool.false_eq_true, if_false, if_true]; rw [hrun, hname]
      have hn1 : 0 < n := by rw [← hrun, runLen, if_pos (by simp [bName, hD'])]; omega
      have cN := fun W => number_r X W (by omega) (by have := HKI.out; omega)
      clear hread hname hrun hcons HT hD hD' hL cL
      generalize w.alloc (.cells #[.int .i64 0, .string ⟨#[]⟩, .int .i64 0, .int .i64 0, .int .i64 0, .int .i64 0] 35) = w0 at *
      rcases hO : numOk X.data.toList with _ | _
      · have hV : numV X.data.toList = .tuple #[tokAgg 0 ⟨#[]⟩ 0, .bool false] := by unfold numV; rw [hO]; rfl
        rw [hV] at cN
        rw [hO] at hT2
        simp only [if_false, Bool.false_eq_true] at hT2
        subst hT2
        simp only [tokAgg] at cN
        clear hV hO
        go_wp2_with (first | (go_at_call 45; refine (cD _).mono ?_; rintro e w' ⟨rfl, rfl⟩) | (go_at_call 46; refine (cN _).mono ?_; rintro e w1 ⟨rfl, hb1⟩; have hold1 : (w1.alloc (.cells #[.int .i64 0, .string ⟨#[]⟩, .int .i64 0, .int .i64 0, .int .i64 0, .int .i64 0] 35)).heap[w.heap.size]? = _ := (Below.heap_alloc w1 _ _ (Nat.lt_of_lt_of_le hszw hb1.size)).trans ((hb1.block w.heap.size hszw).trans HT0.out); have HB1 : Hid (Below w.heap.size w (w1.alloc (.cells #[.int .i64 0, .string ⟨#[]⟩, .int .i64 0, .int .i64 0, .int .i64 0, .int .i64 0] 35))) := (HB0.out.trans (hb1.mono HB0.out.size)).alloc (Nat.le_trans HB0.out.size hb1.size) _; clear hb1) | ((with_reducible apply step_store hold1); rfl; rfl; kernel_rfl; rfl; kernel_rfl))
        refine ret_tokc (p := 4) (q := 5) (r := 6) ?_ ?_ (setRow_heap _ _ _ _ _ _ hold1) ?_ ?_
        all_goals first | rfl | (exact ⟨OPost.bad (by decide) ⟨_, rfl⟩, below_setRow HB1.out (Nat.le_refl _) _⟩)
      · have hV : numV X.data.toList = .tuple #[tokAgg 3 ⟨(numKind X.data.toList).toArray⟩ (numVal X.data.toList), .bool true] := by unfold numV; rw [hO]; rfl
        rw [hV] at cN
        rw [hO] at hT2
        simp only [if_true] at hT2
        subst hT2
        simp only [tokAgg] at cN
        clear hV hO
        go_wp2_with (first | (go_at_call 45; refine (cD _).mono ?_; rintro e w' ⟨rfl, rfl⟩) | (go_at_call 46; refine (cN _).mono ?_; rintro e w1 ⟨rfl, hb1⟩; have hold1 : (w1.alloc (.cells #[.int .i64 3, .string ⟨(numKind X.data.toList).toArray⟩, .int .i64 (numVal X.data.toList), .int .i64 0, .int .i64 0, .int .i64 0] 35)).heap[w.heap.size]? = _ := (Below.heap_alloc w1 _ _ (Nat.lt_of_lt_of_le hszw hb1.size)).trans ((hb1.block w.heap.size hszw).trans HT0.out); have HB1 : Hid (Below w.heap.size w (w1.alloc (.cells #[.int .i64 3, .string ⟨(numKind X.data.toList).toArray⟩, .int .i64 (numVal X.data.toList), .int .i64 0, .int .i64 0, .int .i64 0] 35))) := (HB0.out.trans (hb1.mono HB0.out.size)).alloc (Nat.le_trans HB0.out.size hb1.size) _; clear hb1) | ((with_reducible apply step_store hold1); rfl; rfl; kernel_rfl; rfl; kernel_rfl))
        refine ret_tokc (p := 4) (q := 5) (r := 6) ?_ ?_ (setRow_heap _ _ _ _ _ _ hold1) ?_ ?_
        all_goals first | rfl | (exact ⟨OPost.good (by rw [← HKI.out]; rfl), below_setRow HB1.out (Nat.le_refl _) _⟩)
end Go.Proofs.YtjbmpdcgmphhoaaGreatDoor
