/-
  What mortiseref02's Write answers: the same texts as package token's.
-/
import Derived.Test.YtjbmpdcgmphhoaaGreatDoorRefOne
import Derived.Test.YtjbmpdcgmphhoaaGreatDoorRefIns
import Derived.Test.YtjbmpdcgmphhoaaGreatDoorWrite
import Derived.Test.YtjbmpdcgmphhoaaGreatDoorTab
import Derived.Laws.Concat
namespace Go.Proofs.YtjbmpdcgmphhoaaGreatDoor
open Go.RowKit
set_option linter.unusedVariables false

theorem judge_bad {k n : Int} {L X : List UInt8} (h : canBeP k n L = false) : (readT X).2.2 ≠ 0 ∨ (readT X).2.2 = 0 ∧ ¬ (readT X).2.1 = X.length ∨ (readT X).2.2 = 0 ∧ (readT X).2.1 = X.length ∧ ¬ ((readT X).1.kind = k ∧ (readT X).1.text = L ∧ (readT X).1.num = n) := by
  by_cases h0 : (readT X).2.2 = 0
  · by_cases h1 : (readT X).2.1 = X.length
    · refine .inr (.inr ⟨h0, h1, fun h2 => ?_⟩)
      have := read_canBe X h0
      rw [h2.1, h2.2.1, h2.2.2, h] at this
      cases this
    · exact .inr (.inl ⟨h0, h1⟩)
  · exact .inl h0

theorem writeVal_good {k n : Int} {L : List UInt8} (h : canBeP k n L = true) : writeVal k n L = .tuple #[.string ⟨(writeP k n L).toArray⟩, .int .i64 0] := by unfold writeVal; rw [h]; rfl
theorem writeVal_bad {k n : Int} {L : List UInt8} (h : canBeP k n L = false) : writeVal k n L = .tuple #[.string ⟨#[]⟩, .int .i64 2] := by unfold writeVal; rw [h]; rfl

theorem suffix_len (l : List UInt8) : (numSuffix l).length ≤ 2 := by
  unfold numSuffix; split; simp; split; simp; split <;> simp
theorem canBe_kind (k n : Int) (L : List UInt8) (h : ¬ (0 ≤ k ∧ k ≤ 6)) : canBeP k n L = false := by
  unfold canBeP canHaveP
  rw [if_neg (by omega), if_neg (by omega)]
  rw [if_neg (by omega), if_neg (by omega), if_neg (by omega), if_neg (by omega), if_neg (by omega), Bool.and_false]

set_option maxRecDepth 100000 in
set_option maxHeartbeats 8000000 in
theorem write_r (k n a b c : Int) (s : ByteArray) (w : World) (hs : s.size ≤ 1048576) (hT : Tabs w) (hn0 : -9223372036854775808 ≤ n) (hn1 : n ≤ 9223372036854775807) :
    Calls Tryz.prog 10 #[.agg #[.int .i64 k, .string s, .int .i64 n, .int .i64 a, .int .i64 b, .int .i64 c]] w fun e w' => e = .returned (writeVal k n s.data.toList) ∧ Below w.heap.size w w' := by
  have hbz : ∀ W : World, (Instr.build 25 #[]).run Tryz.prog W = .ok (.agg #[.int .i64 0, .int .i64 0, .int .i64 0]) W := fun W => by kernel_rfl
  obtain ⟨V, hV⟩ : ∃ V, V = writeVal k n s.data.toList := ⟨_, rfl⟩
  rw [← hV]
  have HV : Hid _ := hV
  have HT0 : Hid ((w.alloc (.cells #[.int .i64 k, .string s, .int .i64 n, .int .i64 0, .int .i64 0, .int .i64 0] 35)).heap[w.heap.size]? = some (.cells #[.int .i64 k, .string s, .int .i64 n, .int .i64 0, .int .i64 0, .int .i64 0] 35 (0, 0))) := heap_in0 w _
  have HB0 : Hid (Below w.heap.size w (w.alloc (.cells #[.int .i64 k, .string s, .int .i64 n, .int .i64 0, .int .i64 0, .int .i64 0] 35))) := (Below.refl _ _).alloc (Nat.le_refl _) _
  have hszw : w.heap.size < (w.alloc (.cells #[.int .i64 k, .string s, .int .i64 n, .int .i64 0, .int .i64 0, .int .i64 0] 35)).heap.size := by simp
  clear hV
  go_enter Tryz.func10, Tryz.ntmps10
  go_upto_region 3 with (fail)
  iterate 10 go_step
  obtain ⟨X, hX⟩ : ∃ X : List UInt8, X = if 1 ≤ k ∧ k ≤ 6 then writeP k n s.data.toList else [] := ⟨_, rfl⟩
  have HX : Hid _ := hX
  clear hX
  go_cut [4] from 8 (fun v4 wc => v4 = .string ⟨X.toArray⟩ ∧ wc.heap[w.heap.size]? = some (.cells #[.int .i64 k, .string s, .int .i64 n, .int .i64 0, .int .i64 0, .int .i64 0] 35 (0, 0)) ∧ Below w.heap.size w wc ∧ w.heap.size < wc.heap.size ∧ k ≠ 0 ∧ X.length ≤ 10000000)
  case first =>
    by_cases k1 : k = 1 ∨ k = 2 ∨ k = 6
    · have HXX : Hid (X = s.data.toList) := by
        show X = _
        rw [HX.out, if_pos (by omega)]
        unfold writeP
        rw [if_neg (by omega), if_neg (by omega), if_neg (by omega)]
      have HK0 : Hid (k ≠ 0) := by show k ≠ 0; omega
      rcases k1 with rfl | rfl | rfl
      all_goals
        go_wp2
        go_meet
        case rel => exact ⟨by rw [HXX.out], HT0.out, HB0.out, hszw, HK0.out, by rw [HXX.out]; simp; omega⟩
    · have j1 : ¬ k = 1 := by omega
      have j2 : ¬ k = 2 := by omega
      have j6 : ¬ k = 6 := by omega
      clear k1
      by_cases k3 : k = 3
      · subst k3
        by_cases hr : 0 ≤ n ∧ n ≤ 4294967295
        · have gr1 : decide (n < 0) = false := by simp; omega
          have gr2 : decide (4294967295 < n) = false := by simp; omega
          have HXX : Hid (X = Lib.itoa n ++ numSuffix s.toList) := by
            show X = _
            rw [HX.out, if_pos (by omega), ByteArray.toList_eq]; rfl
          have hI : ∀ W : World, Below w.heap.size w W → ItoaAt n W := fun W hW => itoa_at (hT.below hW) n hn0 hn1
          have cI := hI _ HB0.out
          unfold ItoaAt at cI
          have hmo : mostOf uintText = 4294967295 := by decide
          have hTl : (Lib.itoa n).length ≤ 100 := itoa_len n uintText hr.1 (by omega)
          generalize w.alloc (.cells #[.int .i64 3, .string s, .int .i64 n, .int .i64 0, .int .i64 0, .int .i64 0] 35) = w0 at *
          generalize Lib.itoa n = TT at *
          obtain ⟨t0, t1, t2, _, _, _, _, _, _, _, _, _⟩ := tok6 HT0.out
          go_wp2_with (go_at_call 27; refine cI.mono ?_; rintro e w1 ⟨rfl, hb1⟩; have HT1 : Hid (w1.heap[w.heap.size]? = _) := (hb1.block w.heap.size hszw).trans HT0.out; have HB1 : Hid (Below w.heap.size w w1) := HB0.out.trans (hb1.mono HB0.out.size); have hsz1 : w.heap.size < w1.heap.size := Nat.lt_of_lt_of_le hszw hb1.size; obtain ⟨y0, y1, y2, _, _, _, _, _, _, _, _, _⟩ := tok6 HT1.out; clear hb1)
          all_goals go_meet
          all_goals case rel =>
            have hsl : (numSuffix s.toList).length ≤ 2 := suffix_len _
            refine ⟨?_, HT1.out, HB1.out, hsz1, by decide, by rw [HXX.out, List.length_append]; omega⟩
            rw [HXX.out]
            congr 1
            first
              | (rw [str_app]; simp [numSuffix, *]; done)
              | (simp [numSuffix, *]; done)
        · have hVb : V = .tuple #[.string ⟨#[]⟩, .int .i64 2] := by
            rw [HV.out]
            refine writeVal_bad ?_
            have hm := mostOf_le s.data.toList
            simp only [canBeP, if_true]
            rw [Bool.eq_false_iff]; intro hc
            simp at hc; omega
          subst hVb
          by_cases hneg : n < 0
          · have gr1 : decide (n < 0) = true := by simpa using hneg
            go_wp2
            go_ret2
            exact ⟨rfl, HB0.out⟩
          · have gr1 : decide (n < 0) = false := by simpa using hneg
            have gr2 : decide (4294967295 < n) = true := by simp; omega
            go_wp2
            go_ret2
            exact ⟨rfl, HB0.out⟩
      by_cases k4 : k = 4
      · subst k4
        by_cases hr : -128 ≤ n ∧ n ≤ 127
        · have gr1 : decide (n < -128) = false := by simp; omega
          have gr2 : decide (127 < n) = false := by simp; omega
          have HXX : Hid (X = 39 :: ([byteOf n].flatMap (quoteB 39) ++ [39])) := by
            show X = _
            rw [HX.out, if_pos (by omega)]; rfl
          have hzl := insP_len 39 [byteOf n] 1
          have hze : insP 39 [byteOf n] 1 = [byteOf n].flatMap (quoteB 39) := rfl
          rw [hze] at hzl
          have cI := fun W => inside_r 39 ⟨#[byteOf n]⟩ W (by show 1 ≤ _; omega)
          have e39 : (39 : UInt8).toNat = 39 := rfl
          simp only [e39] at cI
          have hbn := byteOf_nat n
          generalize [byteOf n].flatMap (quoteB 39) = Z at *
          have hc1 : ∀ W : World, (Op.stringOp .add ⟨#[39]⟩ ⟨Z.toArray⟩).run Tryz.prog W = .ok (.string ⟨(39 :: Z).toArray⟩) W := fun W => by
            rw [run_string_add_sum W ⟨#[39]⟩ ⟨Z.toArray⟩ (by show 1 + Z.toArray.size ≤ _; simp; omega)]
            rfl
          have hc2 : ∀ W : World, (Op.stringOp .add ⟨(39 :: Z).toArray⟩ ⟨#[39]⟩).run Tryz.prog W = .ok (.string ⟨(39 :: (Z ++ [39])).toArray⟩) W := fun W => by
            rw [run_string_add_sum W ⟨(39 :: Z).toArray⟩ ⟨#[39]⟩ (by show (39 :: Z).toArray.size + 1 ≤ _; simp; omega), str_app]; rfl
          generalize w.alloc (.cells #[.int .i64 4, .string s, .int .i64 n, .int .i64 0, .int .i64 0, .int .i64 0] 35) = w0 at *
          obtain ⟨t0, t1, t2, _, _, _, _, _, _, _, _, _⟩ := tok6 HT0.out
          have hconv : (convert 58 9 (.slice (some ⟨w0.heap.size, 0, none⟩) 1 1)).run Tryz.prog (w0.alloc (.cells #[.int .u8 (n % 256)] 5)) = .ok (.string ⟨#[byteOf n]⟩) (w0.alloc (.cells #[.int .u8 (n % 256)] 5)) := by
            refine run_convert_bytes_back _ 58 9 5 ⟨w0.heap.size, 0, none⟩ 1 [byteOf n] Tryz.underlying58 Tryz.underlying5 Tryz.underlying9 (fun j hj => ?_)
            have hj0 : j = 0 := by simp at hj; omega
            subst hj0
            rw [← hbn]
            exact cells_at_new w0 [.int .u8 ((byteOf n).toNat : Int)] 5 0 _ rfl
          go_wp2_with (go_at_call 28; refine (cI _).mono ?_; rintro e w1 ⟨rfl, hb1⟩; have HT1 : Hid (w1.heap[w.heap.size]? = _) := (hb1.block w.heap.size (by simp; omega)).trans ((Below.heap_alloc w0 _ _ hszw).trans HT0.out); have HB1 : Hid (Below w.heap.size w w1) := (HB0.out.alloc HB0.out.size _).trans (hb1.mono (by have := HB0.out.size; simp; omega)); have hsz1 : w.heap.size < w1.heap.size := (by have := hb1.size; simp at this; omega); clear hb1)
          go_meet
          case rel => exact ⟨by rw [HXX.out], HT1.out, HB1.out, hsz1, by decide, by rw [HXX.out]; simp; omega⟩
        · have hVb : V = .tuple #[.string ⟨#[]⟩, .int .i64 2] := by
            rw [HV.out]
            refine writeVal_bad ?_
            simp only [canBeP]
            rw [Bool.eq_false_iff]; intro hc
            simp at hc; omega
          subst hVb
          by_cases hneg : n < -128
          · have gr1 : decide (n < -128) = true := by simpa using hneg
            go_wp2
            go_ret2
            exact ⟨rfl, HB0.out⟩
          · have gr1 : decide (n < -128) = false := by simpa using hneg
            have gr2 : decide (127 < n) = true := by simp; omega
            go_wp2
            go_ret2
            exact ⟨rfl, HB0.out⟩
      by_cases k5 : k = 5
      · subst k5
        have HXX : Hid (X = 34 :: (s.data.toList.flatMap (quoteB 34) ++ [34])) := by
          show X = _
          rw [HX.out, if_pos (by omega)]; rfl
        have hzl := insP_len 34 s.data.toList s.size
        have hze : insP 34 s.data.toList s.size = s.data.toList.flatMap (quoteB 34) := by unfold insP; rw [List.take_of_length_le (by simp)]
        rw [hze] at hzl
        have cI := fun W => inside_r 34 s W (by omega)
        have e34 : (34 : UInt8).toNat = 34 := rfl
        simp only [e34] at cI
        generalize s.data.toList.flatMap (quoteB 34) = Z at *
        have hc1 : ∀ W : World, (Op.stringOp .add ⟨#[34]⟩ ⟨Z.toArray⟩).run Tryz.prog W = .ok (.string ⟨(34 :: Z).toArray⟩) W := fun W => by
          rw [run_string_add_sum W ⟨#[34]⟩ ⟨Z.toArray⟩ (by show 1 + Z.toArray.size ≤ _; simp; omega)]
          rfl
        have hc2 : ∀ W : World, (Op.stringOp .add ⟨(34 :: Z).toArray⟩ ⟨#[34]⟩).run Tryz.prog W = .ok (.string ⟨(34 :: (Z ++ [34])).toArray⟩) W := fun W => by
          rw [run_string_add_sum W ⟨(34 :: Z).toArray⟩ ⟨#[34]⟩ (by show (34 :: Z).toArray.size + 1 ≤ _; simp; omega), str_app]; rfl
        generalize w.alloc (.cells #[.int .i64 5, .string s, .int .i64 n, .int .i64 0, .int .i64 0, .int .i64 0] 35) = w0 at *
        obtain ⟨t0, t1, t2, _, _, _, _, _, _, _, _, _⟩ := tok6 HT0.out
        go_wp2_with (go_at_call 28; refine (cI _).mono ?_; rintro e w1 ⟨rfl, hb1⟩; have HT1 : Hid (w1.heap[w.heap.size]? = _) := (hb1.block w.heap.size hszw).trans HT0.out; have HB1 : Hid (Below w.heap.size w w1) := HB0.out.trans (hb1.mono HB0.out.size); have hsz1 : w.heap.size < w1.heap.size := Nat.lt_of_lt_of_le hszw hb1.size; clear hb1)
        go_meet
        case rel => exact ⟨by rw [HXX.out], HT1.out, HB1.out, hsz1, by decide, by rw [HXX.out]; simp; omega⟩
      by_cases k0 : k = 0
      · subst k0
        have hbt : ∀ W : World, (Instr.build 35 #[]).run Tryz.prog W = .ok (.agg #[.int .i64 0, .string ⟨#[]⟩, .int .i64 0, .int .i64 0, .int .i64 0, .int .i64 0]) W := fun W => by kernel_rfl
        generalize w.alloc (.cells #[.int .i64 0, .string s, .int .i64 n, .int .i64 0, .int .i64 0, .int .i64 0] 35) = w0 at *
        obtain ⟨t0, t1, t2, t3, t4, t5, _, _, _, _, _, _⟩ := tok6 HT0.out
        have hcb : canBeP 0 n s.data.toList = (decide (n = 0) && s.toList == []) := by
          rw [ByteArray.toList_eq]
          simp only [canBeP, canHaveP]
          rw [Bool.eq_iff_iff]; simp
        rcases hz1 : (s.toList == []) with _ | _
        · have hVb : V = .tuple #[.string ⟨#[]⟩, .int .i64 2] := by rw [HV.out]; refine writeVal_bad ?_; rw [hcb, hz1]; simp
          subst hVb
          clear hcb
          go_wp2
          go_ret2
          exact ⟨rfl, HB0.out⟩
        · by_cases hz2 : n = 0
          · have hVb : V = .tuple #[.string ⟨#[]⟩, .int .i64 0] := by
              rw [HV.out]
              have hc : canBeP 0 n s.data.toList = true := by rw [hcb, hz1]; simpa using hz2
              rw [writeVal_good hc, (write_end n s.data.toList hc).2.2]
            subst hVb
            subst hz2
            clear hcb
            go_wp2
            go_ret2
            exact ⟨rfl, HB0.out⟩
          · have hVb : V = .tuple #[.string ⟨#[]⟩, .int .i64 2] := by rw [HV.out]; refine writeVal_bad ?_; rw [hcb, hz1]; simpa using hz2
            subst hVb
            have hz3 : (n == 0) = false := by simpa using hz2
            clear hcb
            go_wp2
            go_ret2
            exact ⟨rfl, HB0.out⟩
      · have HXX : Hid (X = []) := by
          show X = _
          rw [HX.out, if_neg (by omega)]
        go_wp2
        go_meet
        case rel => exact ⟨by rw [HXX.out], HT0.out, HB0.out, hszw, k0, by rw [HXX.out]; simp⟩
  case rest =>
    obtain ⟨rfl, hrow, hbel, hszc, hk0, hXb⟩ := hcut
    clear HT0 HB0 hszw hbz
    have HTc : Hid _ := hrow
    have HBc : Hid (Below w.heap.size w wc) := hbel
    clear hrow hbel
    have hXl : (ByteArray.mk X.toArray).toList = X := ByteArray.toList_mk X
    have hXs : (ByteArray.mk X.toArray).size = X.length := by show X.toArray.size = _; simp
    have hXn : (ByteArray.mk X.toArray).data.toList = X := by simp
    by_cases hX0 : X = []
    · have hcb : canBeP k n s.data.toList = false := by
        rw [Bool.eq_false_iff]
        intro hc
        have h1 := (write_back k n s.data.toList hc hk0).2.2
        by_cases h6 : 1 ≤ k ∧ k ≤ 6
        · rw [HX.out, if_pos h6] at hX0; exact h1 hX0
        · have : canBeP k n s.data.toList = false := canBe_kind k n s.data.toList (by omega)
          rw [this] at hc; cases hc
      have hVb : V = .tuple #[.string ⟨#[]⟩, .int .i64 2] := by rw [HV.out]; exact writeVal_bad hcb
      subst hVb
      subst hX0
      go_wp2
      go_ret2
      exact ⟨rfl, HBc.out⟩
    · have hXe : (X == []) = false := by simpa using hX0
      have hXe2 : X.isEmpty = false := by simpa using hX0
      have h6 : 1 ≤ k ∧ k ≤ 6 := by
        by_cases h : 1 ≤ k ∧ k ≤ 6
        · exact h
        · exfalso; apply hX0; rw [HX.out, if_neg h]
      have hXw : X = writeP k n s.data.toList := by rw [HX.out, if_pos h6]
      have cO := fun W => one_r ⟨X.toArray⟩ 0 W (by rw [hXs]; omega) (Nat.zero_le _)
      simp only [List.drop_zero] at cO
      rcases hcb : canBeP k n s.data.toList with _ | _
      · have hVb : V = .tuple #[.string ⟨#[]⟩, .int .i64 2] := by rw [HV.out]; exact writeVal_bad hcb
        subst hVb
        have hj := judge_bad (X := X) hcb
        rcases hR : readT X with ⟨⟨uk, ut, un⟩, sz, code⟩
        rw [hR] at hj cO
        simp only at hj
        unfold OPost at cO
        simp only at cO
        clear HX hXw HV hR hcb
        rcases hj with h1 | ⟨h1, h2⟩ | ⟨h1, h2, h3⟩
        · simp only [if_neg h1, noTok, tokV] at cO
          have gc : ((code : Int) != 0) = true := by simp; omega
          go_wp2_with (go_at_call 20; refine (cO _).mono ?_; rintro e w1 ⟨⟨ke, rfl⟩, hb1⟩; have HB1 : Hid (Below w.heap.size w w1) := HBc.out.trans (hb1.mono HBc.out.size); have HT1 : Hid (w1.heap[w.heap.size]? = _) := (hb1.block w.heap.size hszc).trans HTc.out; obtain ⟨y0, y1, y2, y3, y4, y5, _, _, _, _, _, _⟩ := tok6 HT1.out; have hlt1 : w.heap.size < w1.heap.size := Nat.lt_of_lt_of_le hszc hb1.size; clear hb1)
          go_ret2
          exact ⟨rfl, HB1.out.alloc HB1.out.size _⟩
        · simp only [h1, if_true, tokV, Nat.zero_add] at cO
          have gs : ((sz : Int) != (X.length : Int)) = true := by simp; omega
          go_wp2_with (go_at_call 20; refine (cO _).mono ?_; rintro e w1 ⟨rfl, hb1⟩; have HB1 : Hid (Below w.heap.size w w1) := HBc.out.trans (hb1.mono HBc.out.size); have HT1 : Hid (w1.heap[w.heap.size]? = _) := (hb1.block w.heap.size hszc).trans HTc.out; obtain ⟨y0, y1, y2, y3, y4, y5, _, _, _, _, _, _⟩ := tok6 HT1.out; have hlt1 : w.heap.size < w1.heap.size := Nat.lt_of_lt_of_le hszc hb1.size; clear hb1)
          go_ret2
          exact ⟨rfl, HB1.out.alloc HB1.out.size _⟩
        · simp only [h1, if_true, tokV, Nat.zero_add, h2] at cO
          have hut : (ByteArray.mk ut.toArray).toList = ut := ByteArray.toList_mk ut
          have hneq : (uk == k) = false ∨ (uk == k) = true ∧ (ut == s.toList) = false ∨ (uk == k) = true ∧ (ut == s.toList) = true ∧ (un == n) = false := by
            simp only [beq_iff_eq, beq_eq_false_iff_ne, ByteArray.toList_eq]
            by_cases e1 : uk = k
            · by_cases e2 : ut = s.data.toList
              · exact .inr (.inr ⟨e1, e2, fun e3 => h3 ⟨e1, e2, e3⟩⟩)
              · exact .inr (.inl ⟨e1, e2⟩)
            · exact .inl e1
          clear h3
          rcases hneq with d1 | ⟨d1, d2⟩ | ⟨d1, d2, d3⟩
          all_goals
            go_wp2_with (go_at_call 20; refine (cO _).mono ?_; rintro e w1 ⟨rfl, hb1⟩; have HB1 : Hid (Below w.heap.size w w1) := HBc.out.trans (hb1.mono HBc.out.size); have HT1 : Hid (w1.heap[w.heap.size]? = _) := (hb1.block w.heap.size hszc).trans HTc.out; obtain ⟨y0, y1, y2, y3, y4, y5, _, _, _, _, _, _⟩ := tok6 HT1.out; have hlt1 : w.heap.size < w1.heap.size := Nat.lt_of_lt_of_le hszc hb1.size; clear hb1)
            go_ret2
            exact ⟨rfl, HB1.out.alloc HB1.out.size _⟩
      · have hwb := (write_back k n s.data.toList hcb hk0).2.1
        rw [← hXw] at hwb
        have hVb : V = .tuple #[.string ⟨X.toArray⟩, .int .i64 0] := by rw [HV.out, writeVal_good hcb, ← hXw]
        subst hVb
        rw [hwb] at cO
        unfold OPost at cO
        simp only [if_true, tokV, Nat.zero_add] at cO
        clear HX hXw HV hwb hcb
        have hse : (ByteArray.mk s.data.toList.toArray).toList = s.toList := rfl
        go_wp2_with (go_at_call 20; refine (cO _).mono ?_; rintro e w1 ⟨rfl, hb1⟩; have HB1 : Hid (Below w.heap.size w w1) := HBc.out.trans (hb1.mono HBc.out.size); have HT1 : Hid (w1.heap[w.heap.size]? = _) := (hb1.block w.heap.size hszc).trans HTc.out; obtain ⟨y0, y1, y2, y3, y4, y5, _, _, _, _, _, _⟩ := tok6 HT1.out; have hlt1 : w.heap.size < w1.heap.size := Nat.lt_of_lt_of_le hszc hb1.size; clear hb1)
        go_ret2
        exact ⟨rfl, HB1.out.alloc HB1.out.size _⟩
end Go.Proofs.YtjbmpdcgmphhoaaGreatDoor
