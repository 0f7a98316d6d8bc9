/-
  What mortiseref02's escape answers within quotes: the same bytes as package token's.
-/
import Derived.Test.YtjbmpdcgmphhoaaGreatDoorRefNum
import Derived.Deep.Cut
namespace Go.Proofs.YtjbmpdcgmphhoaaGreatDoor
open Go.RowKit
set_option linter.unusedVariables false

theorem escName_at : ∀ (i : Nat) (h : i < 11), ((ByteArray.mk #[97, 98, 102, 110, 114, 116, 118, 92, 39, 34, 63])[i]'h).toNat = (escNames.getD i 0).toNat
  | 0, _ => rfl
  | 1, _ => rfl
  | 2, _ => rfl
  | 3, _ => rfl
  | 4, _ => rfl
  | 5, _ => rfl
  | 6, _ => rfl
  | 7, _ => rfl
  | 8, _ => rfl
  | 9, _ => rfl
  | 10, _ => rfl
  | n + 11, h => absurd h (by omega)
theorem escName_idx : ∀ k, k < 11 → Lib.indexByte escNames (escNames.getD k 0) = k := by decide +kernel
theorem idx_none (c : UInt8) : ∀ l : List UInt8, (∀ x ∈ l, x.toNat ≠ c.toNat) → Lib.indexByte l c = -1
  | [], _ => rfl
  | x :: l, h => by
    have h1 : (x == c) = false := by
      rw [beq_eq_false_iff_ne]; intro e; exact h x List.mem_cons_self (congrArg UInt8.toNat e)
    rw [Lib.indexByte, h1, idx_none c l (fun y hy => h y (List.mem_cons_of_mem _ hy))]; rfl
theorem escName_none (c : UInt8) (h : ∀ j, j < 11 → (escNames.getD j 0).toNat ≠ c.toNat) : Lib.indexByte escNames c = -1 := by
  refine idx_none c _ fun x hx => ?_
  obtain ⟨j, hj, rfl⟩ := List.mem_iff_getElem.1 hx
  have := h j hj
  rwa [List.getD_eq_getElem?_getD, List.getElem?_eq_getElem hj] at this

/-- Digits of an escape, read up to a place. -/
structure EscAt (X : List UInt8) (b V N j n : Nat) : Prop where
  len : N = j + runLen (bBase b) (X.drop j)
  val : V = digVal b 255 n ((X.drop j).take (runLen (bBase b) (X.drop j)))
theorem EscAt.start (X : List UInt8) (b : Nat) : EscAt X b (digVal b 255 0 (X.take (runLen (bBase b) X))) (runLen (bBase b) X) 0 0 := ⟨by simp, by simp⟩
theorem EscAt.next {X : List UInt8} {b V N j n : Nat} {c : UInt8} (h : EscAt X b V N j n) (hn : n ≤ 255) (hd : X.drop j = c :: X.drop (j + 1)) (hc : bDigit c.toNat < b) : EscAt X b V N (j + 1) (n * b + bDigit c.toNat) := by
  have h1 : runLen (bBase b) (X.drop j) = runLen (bBase b) (X.drop (j + 1)) + 1 := by rw [hd, runLen, if_pos (by simp [bBase, hc])]
  constructor
  · rw [h.len, h1]; omega
  · rw [h.val, h1, hd, List.take_succ_cons]
    show digVal _ _ _ (_ :: _) = _
    rw [digVal, if_pos hn]
theorem EscAt.stop {X : List UInt8} {b V N j n : Nat} (h : EscAt X b V N j n) (h0 : runLen (bBase b) (X.drop j) = 0) : N = j ∧ V = n := by
  have h1 := h.len
  have h2 := h.val
  rw [h0] at h1 h2
  exact ⟨by omega, by rw [h2]; rfl⟩
theorem EscAt.over {X : List UInt8} {b V N j n : Nat} (h : EscAt X b V N j n) (hn : 255 < n) : V = n := by
  rw [h.val, digVal_gt _ _ _ hn]

theorem escd_eq (b size : Nat) (X : List UInt8) : escdOf b size (X.take (runLen (bBase b) X)) = if runLen (bBase b) X = 0 ∨ 255 < digVal b 255 0 (X.take (runLen (bBase b) X)) then none else some (digVal b 255 0 (X.take (runLen (bBase b) X)), size) := by
  unfold escdOf
  have hle := runLen_le (bBase b) X
  have he : (X.take (runLen (bBase b) X)).isEmpty = decide (runLen (bBase b) X = 0) := by
    rw [Bool.eq_iff_iff, List.isEmpty_iff_length_eq_zero, decide_eq_true_eq, List.length_take]; omega
  rw [he]
  by_cases h : runLen (bBase b) X = 0 ∨ 255 < digVal b 255 0 (X.take (runLen (bBase b) X))
  · rw [if_pos h, if_pos (by simpa using h)]
  · rw [if_neg h, if_neg (by simpa using h)]

/-- What escape answers behind a backslash that stands at i: the byte, and where it ends. -/
def escR (L : List UInt8) (i : Nat) : Option (Nat × Nat) := (escOf (L.drop (i + 1))).map fun x => (x.1, i + 1 + x.2)
def EscPost (R : Option (Nat × Nat)) (e : Ending) : Prop := match R with
  | none => ∃ b k : Int, e = .returned (.tuple #[.int .u8 b, .int .i64 k, .bool false])
  | some (b, k) => e = .returned (.tuple #[.int .u8 (b : Nat), .int .i64 (k : Nat), .bool true])

theorem escR_digits {L : List UInt8} {i p b : Nat} {c : UInt8} {r : List UInt8} (hd : L.drop (i + 1) = c :: r) (hn : Lib.indexByte escNames c = -1) (X : List UInt8)
    (h : (c.toNat = 120 ∧ p = i + 2 ∧ b = 16 ∧ X = r) ∨ (c.toNat ≠ 120 ∧ p = i + 1 ∧ b = 8 ∧ X = (c :: r).take 3)) :
    escR L i = if runLen (bBase b) X = 0 ∨ 255 < digVal b 255 0 (X.take (runLen (bBase b) X)) then none else some (digVal b 255 0 (X.take (runLen (bBase b) X)), p + runLen (bBase b) X) := by
  unfold escR
  rw [hd]
  have h0 : ¬ (0 : Int) ≤ -1 := by omega
  rcases h with ⟨h1, rfl, rfl, rfl⟩ | ⟨h1, rfl, rfl, rfl⟩
  · simp only [escOf, hn, h1, if_true, h0, if_false]
    rw [escd_eq]
    split
    · rfl
    · simp only [Option.map_some]; congr 2; omega
  · simp only [escOf, hn, h1, h0, if_false]
    have hr := runLen_le (bBase 8) ((c :: r).take 3)
    have ht : (c :: r).take (runLen (bBase 8) ((c :: r).take 3)) = ((c :: r).take 3).take (runLen (bBase 8) ((c :: r).take 3)) := by
      rw [List.take_take, Nat.min_eq_left]
      rw [List.length_take] at hr; omega
    rw [ht, escd_eq]
    split
    · rfl
    · simp only [Option.map_some]

theorem X_drop {s : ByteArray} {X : List UInt8} {P m k : Nat} (hX : X = (s.data.toList.drop P).take m) (hk : P ≤ k) (hlt : k < s.size) (hm : k - P < m) : X.drop (k - P) = s[k] :: X.drop (k - P + 1) := by
  subst hX
  have e1 : P + (k - P) = k := by omega
  have e2 : P + (k - P + 1) = k + 1 := by omega
  rw [List.drop_take, List.drop_take, List.drop_drop, List.drop_drop, e1, e2, drop_get s k hlt, show m - (k - P) = m - (k - P + 1) + 1 by omega, List.take_succ_cons]
theorem X_done {s : ByteArray} {X : List UInt8} {P m k : Nat} (hX : X = (s.data.toList.drop P).take m) (hk : P ≤ k) (h : s.size ≤ k ∨ m ≤ k - P) : X.drop (k - P) = [] := by
  subst hX
  refine List.drop_eq_nil_of_le ?_
  simp; omega

theorem esc_fin {R : Option (Nat × Nat)} {P k n : Nat} (h : R = if k = P ∨ 255 < n then none else some (n, k)) (hn : n ≤ 255) (hk : P ≤ k) : EscPost R (.returned (.tuple #[.int .u8 n, .int .i64 k, .bool (decide (P < k))])) := by
  subst h
  by_cases hkp : k = P
  · rw [if_pos (.inl hkp), show decide (P < k) = false by simp; omega]
    exact ⟨_, _, rfl⟩
  · rw [if_neg (by omega), show decide (P < k) = true by simp; omega]
    rfl

theorem escBytes_cell (w : World) : ∀ k, k < 11 → (w.alloc (.cells #[.int .u8 7, .int .u8 8, .int .u8 12, .int .u8 10, .int .u8 13, .int .u8 9, .int .u8 11, .int .u8 92, .int .u8 39, .int .u8 34, .int .u8 63] 5)).cell? ⟨w.heap.size, k, none⟩ = some (.int .u8 ((escBytes.getD k 0).toNat : Int)) := by
  intro k hk
  rw [World.cell?_alloc_mark]
  rcases k with _ | _ | _ | _ | _ | _ | _ | _ | _ | _ | _ | k
  all_goals first | rfl | omega

set_option maxRecDepth 100000 in
set_option maxHeartbeats 4000000 in
theorem escape_r (s : ByteArray) (i q : Nat) (w : World) (hs : s.size ≤ 140737488355327) (hi : i < s.size) (hq : q < 256) (hne : (s[i]).toNat ≠ q) (h92 : (s[i]).toNat = 92) :
    Calls Tryz.prog 69 #[.string s, .int .i64 i, .int .u8 q] w fun e w' => EscPost (escR s.data.toList i) e ∧ Below w.heap.size w w' := by
  have g0 : decide ((s.size : Int) ≤ i) = false := by simp; omega
  have g1 : (((s[i]).toNat : Int) == 10) = false := by rw [beq_eq_false_iff_ne]; omega
  have g2 : (((s[i]).toNat : Int) == q) = false := by rw [beq_eq_false_iff_ne]; omega
  have g3 : (((s[i]).toNat : Int) != 92) = false := by simp; omega
  have g0' : decide (s.size ≤ i) = false := by simpa using hi
  by_cases hend : i + 1 < s.size
  · have hd := drop_get s (i + 1) hend
    have g4 : ¬ ((s.size : Int) ≤ (i : Int) + 1) := by omega
    obtain ⟨c, hc⟩ : ∃ c, c = s[i + 1] := ⟨_, rfl⟩
    rw [← hc] at hd
    have HD : Hid _ := hd
    have HCC : Hid _ := hc
    clear hd
    have HB : Hid (Below w.heap.size w (w.alloc (.cells #[.int .u8 7, .int .u8 8, .int .u8 12, .int .u8 10, .int .u8 13, .int .u8 9, .int .u8 11, .int .u8 92, .int .u8 39, .int .u8 34, .int .u8 63] 5))) := (Below.refl _ _).alloc (Nat.le_refl _) _
    have HC : Hid _ := escBytes_cell w
    clear h92
    obtain ⟨p, hp⟩ : ∃ p, p = i + 1 := ⟨_, rfl⟩
    have hpl : p < s.size := by omega
    have HPI : Hid (p = i + 1) := hp
    have HCP : Hid (c = s[p]) := by show c = s[p]; subst hp; exact hc
    have HDP : Hid (s.data.toList.drop (i + 1) = c :: s.data.toList.drop (p + 1)) := by show _ = _; rw [HD.out, hp]
    obtain ⟨R, hRR⟩ : ∃ R, R = escR s.data.toList i := ⟨_, rfl⟩
    rw [← hRR]
    have HRR : Hid _ := hRR
    clear hRR hc HD HCC hp
    go_enter Tryz.func69, Tryz.ntmps69
    go_wp2
    generalize w.alloc (.cells #[.int .u8 7, .int .u8 8, .int .u8 12, .int .u8 10, .int .u8 13, .int .u8 9, .int .u8 11, .int .u8 92, .int .u8 39, .int .u8 34, .int .u8 63] 5) = W at *
    rw [show ((i : Int) + 1) = (p : Int) by have := HPI.out; omega]
    go_loopw [11] (fun v wr => ∃ k q' : Nat, v = .int .i64 k ∧ k ≤ 11 ∧ wr = W.drewN q' ∧ Hid (∀ j, j < k → (escNames.getD j 0).toNat ≠ c.toNat)) (fun v _ => 11 - (intOf v).toNat)
    case atStart => exact ⟨0, 0, rfl, by omega, rfl, fun j hj => absurd hj (Nat.not_lt_zero _)⟩
    case round =>
      obtain ⟨k, q', rfl, hk, rfl, HK⟩ := hrel
      clear g4 hend g0 g0' g1 g2 g3
      by_cases hlt : k < 11
      · have hnm := escName_at k hlt
        have hcell : ∀ n, ((W.drewN q').drewN n).cell? ⟨w.heap.size, k, none⟩ = some (.int .u8 ((escBytes.getD k 0).toNat : Int)) := fun n => HC.out k hlt
        have hcellW : W.cell? ⟨w.heap.size, k, none⟩ = some (.int .u8 ((escBytes.getD k 0).toNat : Int)) := HC.out k hlt
        by_cases he : (escNames.getD k 0).toNat = c.toNat
        · have hR : R = some ((escBytes.getD k 0).toNat, p + 1) := by
            have hce : c = escNames.getD k 0 := (UInt8.toNat_inj.1 he).symm
            rw [HRR.out]
            unfold escR
            rw [HDP.out]
            simp only [escOf]
            rw [hce, escName_idx k hlt, if_pos (by omega), HPI.out]
            simp
          have gk : (((escNames.getD k 0).toNat : Int) == ((s[p]).toNat : Int)) = true := by rw [beq_iff_eq, ← HCP.out]; omega
          subst hR
          clear he HK HRR
          generalize (escNames.getD k 0).toNat = en at hnm gk
          go_wp2
          go_quiet (fail)
          go_wp2
          go_ret3
          refine ⟨?_, below_drewN HB.out _⟩
          show _ = _
          rw [show ((p + 1 : Nat) : Int) = (p : Int) + 1 by omega]
          rfl
        · have gk : (((escNames.getD k 0).toNat : Int) == ((s[p]).toNat : Int)) = false := by rw [beq_eq_false_iff_ne, ← HCP.out]; omega
          have HK2 : Hid (∀ j, j < k + 1 → (escNames.getD j 0).toNat ≠ c.toNat) := fun j hj => by
            rcases Nat.lt_or_ge j k with h | h
            · exact HK.out j h
            · have : j = k := by omega
              subst this; exact he
          clear HK he hcell hcellW
          generalize (escNames.getD k 0).toNat = en at hnm gk
          go_wp2
          go_quiet (fail)
          go_wp2
          go_roundw
          case rel => exact ⟨k + 1, _, by go_num, by omega, rfl, HK2⟩
          case measure => simp [intOf]; omega
      · have hke : k = 11 := by omega
        subst hke
        have HN : Hid _ := escName_none c HK.out
        clear HK HC
        generalize hWW : W.drewN q' = W2
        have HB2 : Hid (Below w.heap.size w W2) := by rw [← hWW]; exact below_drewN HB.out _
        clear hWW HB
        obtain ⟨P, b, m, X, hcase⟩ : ∃ (P b m : Nat) (X : List UInt8), (c.toNat = 120 ∧ P = i + 2 ∧ b = 16 ∧ m = s.size ∧ X = s.data.toList.drop (p + 1)) ∨ (c.toNat ≠ 120 ∧ P = i + 1 ∧ b = 8 ∧ m = 3 ∧ X = (c :: s.data.toList.drop (p + 1)).take 3) := by
          by_cases h : c.toNat = 120
          · exact ⟨_, _, _, _, .inl ⟨h, rfl, rfl, rfl, rfl⟩⟩
          · exact ⟨_, _, _, _, .inr ⟨h, rfl, rfl, rfl, rfl⟩⟩
        have hR := escR_digits HDP.out HN.out (p := P) (b := b) X (by
          rcases hcase with ⟨h1, h2, h3, h4, h5⟩ | ⟨h1, h2, h3, h4, h5⟩
          · exact .inl ⟨h1, h2, h3, h5⟩
          · exact .inr ⟨h1, h2, h3, h5⟩)
        rw [← HRR.out] at hR
        have HR2 : Hid _ := hR
        have hX : X = (s.data.toList.drop P).take m := by
          rcases hcase with ⟨h1, h2, h3, h4, h5⟩ | ⟨h1, h2, h3, h4, h5⟩
          · have e : p + 1 = i + 2 := by have := HPI.out; omega
            rw [h5, h2, h4, e, List.take_of_length_le (by simp)]
          · rw [h5, h2, h4, HDP.out]
        have hPm : (b = 16 ∨ b = 8) ∧ P ≤ s.size ∧ m ≤ 140737488355327 ∧ 3 ≤ m + 100 := by
          have := HPI.out
          rcases hcase with ⟨h1, h2, h3, h4, h5⟩ | ⟨h1, h2, h3, h4, h5⟩ <;> omega
        clear hR HRR
        go_upto_if 73 with (fail)
        go_cut [1, 13, 14] from 16 (fun v1 v13 v14 wc => v1 = .int .i64 P ∧ v13 = .int .i64 b ∧ v14 = .int .i64 m ∧ wc = W2)
        case first =>
          have hpi := HPI.out
          rcases hcase with ⟨h1, h2, h3, h4, h5⟩ | ⟨h1, h2, h3, h4, h5⟩
          · have gx : (((s[p]).toNat : Int) == 120) = true := by rw [beq_iff_eq, ← HCP.out]; omega
            have HH : Hid (P = p + 1 ∧ b = 16 ∧ m = s.size) := ⟨by omega, h3, h4⟩
            clear h1 h2 h3 h4 h5 hX hPm HR2 hpi
            go_wp2
            go_meet
            case rel => obtain ⟨e1, e2, e3⟩ := HH.out; rw [e1, e2, e3]; exact ⟨by go_num, rfl, rfl, rfl⟩
          · have gx : (((s[p]).toNat : Int) == 120) = false := by rw [beq_eq_false_iff_ne, ← HCP.out]; omega
            have HH : Hid (P = p ∧ b = 8 ∧ m = 3) := ⟨by omega, h3, h4⟩
            clear h1 h2 h3 h4 h5 hX hPm HR2 hpi
            go_wp2
            go_meet
            case rel => obtain ⟨e1, e2, e3⟩ := HH.out; rw [e1, e2, e3]; exact ⟨rfl, rfl, rfl, rfl⟩
        case rest =>
          obtain ⟨rfl, rfl, rfl, rfl⟩ := hcut
          clear hcase
          obtain ⟨N, hN⟩ : ∃ N, N = runLen (bBase b) X := ⟨_, rfl⟩
          obtain ⟨V, hV⟩ : ∃ V, V = digVal b 255 0 (X.take N) := ⟨_, rfl⟩
          have HS : Hid (EscAt X b V N 0 0) := by rw [hV, hN]; exact EscAt.start X b
          rw [← hN, ← hV] at HR2
          obtain ⟨hb, hP, hmm, _⟩ := hPm
          have hb16 : b ≤ 16 := by omega
          clear hN hV
          go_wp2
          go_loop [12, 15] (fun nv kv => ∃ k n : Nat, kv = .int .i64 k ∧ nv = .int .i64 n ∧ P ≤ k ∧ k ≤ s.size ∧ n ≤ 255 ∧ Hid (EscAt X b V N (k - P) n)) (fun _ kv => s.size - (intOf kv).toNat)
          case atStart => exact ⟨P, 0, rfl, rfl, Nat.le_refl _, hP, by omega, by rw [Nat.sub_self]; exact HS⟩
          case round =>
            obtain ⟨k, n, rfl, rfl, hPk, hks, hn, HK⟩ := hrel
            clear HS
            by_cases hstep : ∃ h : k < s.size, k - P < m ∧ bDigit (s[k]).toNat < b
            · obtain ⟨hlt, hkm, hdg⟩ := hstep
              have cV := fun W => value_r (s[k]).toNat W (s[k]).toNat_lt
              have hmul : n * b ≤ 255 * 16 := Nat.mul_le_mul hn hb16
              have hbd := bDigit_le (s[k]).toNat
              have HK2 : Hid (EscAt X b V N (k + 1 - P) (n * b + bDigit (s[k]).toNat)) := by
                have := HK.out.next hn (X_drop hX hPk hlt hkm) hdg
                rwa [show k - P + 1 = k + 1 - P by omega] at this
              have gA : decide ((k : Int) < s.size) = true := by simp; omega
              have gA' : decide (k < s.size) = true := by simpa using hlt
              have gB : decide ((k : Int) - P < m) = true := by simp; omega
              have gC : decide ((bDigit (s[k]).toNat : Int) < b) = true := by simp; omega
              have gC' : decide (bDigit (s[k]).toNat < b) = true := by simpa using hdg
              clear HK hX
              generalize bDigit (s[k]).toNat = d at *
              by_cases hov : 255 < n * b + d
              · have hVV := HK2.out.over hov
                have hf : R = none := by rw [HR2.out, if_pos (.inr (by omega))]
                subst hf
                have g3 : (255 : Int) < (n : Int) * b + d := by have := hov; omega
                clear HK2 hVV HR2
                go_wp2_with (first | (go_at_call 66; refine (cV _).mono ?_; rintro e w' ⟨rfl, rfl⟩))
                go_ret3
                exact ⟨⟨_, _, rfl⟩, HB2.out⟩
              · have g3 : ¬ ((255 : Int) < (n : Int) * b + d) := by have := hov; omega
                clear HR2
                go_wp2_with (first | (go_at_call 66; refine (cV _).mono ?_; rintro e w' ⟨rfl, rfl⟩))
                go_round
                case rel =>
                  refine ⟨trivial, ?_⟩
                  (repeat apply Exists.intro)
                  exact ⟨⟨k + 1, n * b + d, by go_num, by simp, by omega, by omega, by omega, HK2⟩, rfl⟩
                case measure => simp [intOf]; omega
            · have hz : runLen (bBase b) (X.drop (k - P)) = 0 := by
                by_cases h1 : k < s.size ∧ k - P < m
                · rw [X_drop hX hPk h1.1 h1.2, runLen, if_neg]
                  simp only [bBase, decide_eq_true_eq]
                  exact fun h => hstep ⟨h1.1, h1.2, h⟩
                · rw [X_done hX hPk (by omega)]; rfl
              obtain ⟨e1, e2⟩ := HK.out.stop hz
              have HF : Hid (R = if k = P ∨ 255 < n then none else some (n, k)) := by
                show _ = _
                rw [HR2.out, e1, e2]
                by_cases hkp : k = P
                · rw [if_pos (.inl (by omega)), if_pos (.inl hkp)]
                · rw [if_neg (by omega), if_neg (by omega), show P + (k - P) = k by omega]
              clear HK HR2 hz e1 e2 hX
              by_cases hlt : k < s.size
              · have gA : decide ((k : Int) < s.size) = true := by simp; omega
                have gA' : decide (k < s.size) = true := by simpa using hlt
                have cV := fun W => value_r (s[k]).toNat W (s[k]).toNat_lt
                by_cases hkm : k - P < m
                · have gB : decide ((k : Int) - P < m) = true := by simp; omega
                  have hdg : ¬ bDigit (s[k]).toNat < b := fun h => hstep ⟨hlt, hkm, h⟩
                  have gC : decide ((bDigit (s[k]).toNat : Int) < b) = false := by simp; omega
                  have gC' : decide (bDigit (s[k]).toNat < b) = false := by simpa using hdg
                  clear hstep hdg
                  generalize bDigit (s[k]).toNat = d at *
                  go_wp2_with (first | (go_at_call 66; refine (cV _).mono ?_; rintro e w' ⟨rfl, rfl⟩))
                  go_ret3
                  exact ⟨esc_fin HF.out hn hPk, HB2.out⟩
                · have gB : decide ((k : Int) - P < m) = false := by simp; omega
                  clear hstep
                  go_wp2
                  go_ret3
                  exact ⟨esc_fin HF.out hn hPk, HB2.out⟩
              · have gA : decide ((k : Int) < s.size) = false := by simp; omega
                have gA' : decide (k < s.size) = false := by simpa using hlt
                clear hstep
                go_wp2
                go_ret3
                exact ⟨esc_fin HF.out hn hPk, HB2.out⟩
  · have hR : escR s.data.toList i = none := by
      unfold escR
      rw [List.drop_eq_nil_of_le (by simp; omega)]; rfl
    have g4 : (s.size : Int) ≤ (i : Int) + 1 := by omega
    rw [hR]
    clear hR h92
    go_enter Tryz.func69, Tryz.ntmps69
    go_wp2
    go_ret3
    exact ⟨⟨_, _, rfl⟩, Below.refl _ _⟩
end Go.Proofs.YtjbmpdcgmphhoaaGreatDoor
