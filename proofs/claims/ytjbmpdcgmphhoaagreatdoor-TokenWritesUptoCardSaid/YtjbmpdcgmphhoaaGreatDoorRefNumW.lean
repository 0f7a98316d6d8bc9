/-
  What mortiseref02's number answers.
-/
import Derived.Test.YtjbmpdcgmphhoaaGreatDoorRefNum
namespace Go.Proofs.YtjbmpdcgmphhoaaGreatDoor
open Go.RowKit
set_option linter.unusedVariables false

theorem lower_u (a : UInt8) (h : Lib.lowerB a = 117) : a = 117 ∨ a = 85 := by
  have H : ∀ n, n < 256 → Lib.lowerB n.toUInt8 = 117 → n.toUInt8 = 117 ∨ n.toUInt8 = 85 := by decide +kernel
  have := H a.toNat a.toNat_lt
  simp only [Nat.toUInt8, UInt8.ofNat_toNat] at this
  exact this h
theorem lower_l (a : UInt8) (h : Lib.lowerB a = 108) : a = 108 ∨ a = 76 := by
  have H : ∀ n, n < 256 → Lib.lowerB n.toUInt8 = 108 → n.toUInt8 = 108 ∨ n.toUInt8 = 76 := by decide +kernel
  have := H a.toNat a.toNat_lt
  simp only [Nat.toUInt8, UInt8.ofNat_toNat] at this
  exact this h
def goodEnds : List (List UInt8) := [[], [117], [85], [108], [76], [117, 108], [117, 76], [85, 108], [85, 76], [108, 117], [108, 85], [76, 117], [76, 85]]
theorem end_good (t : List UInt8) (h : endOk (low t) = true) : t ∈ goodEnds := by
  rcases t with _ | ⟨a, _ | ⟨b, _ | ⟨c, r⟩⟩⟩
  · decide
  · have h' : Lib.lowerB a = 117 ∨ Lib.lowerB a = 108 := by simpa [endOk, low, Lib.toLowerA] using h
    rcases h' with h' | h'
    · rcases lower_u a h' with rfl | rfl <;> decide
    · rcases lower_l a h' with rfl | rfl <;> decide
  · have h' : (Lib.lowerB a = 117 ∧ Lib.lowerB b = 108) ∨ (Lib.lowerB a = 108 ∧ Lib.lowerB b = 117) := by simpa [endOk, low, Lib.toLowerA] using h
    rcases h' with ⟨h1, h2⟩ | ⟨h1, h2⟩
    · rcases lower_u a h1 with rfl | rfl <;> rcases lower_l b h2 with rfl | rfl <;> decide
    · rcases lower_l a h1 with rfl | rfl <;> rcases lower_u b h2 with rfl | rfl <;> decide
  · simp [endOk, low, Lib.toLowerA] at h
theorem end_bad (t : List UInt8) (h : endOk (low t) = false) : t ∉ goodEnds := by
  intro hm
  simp only [goodEnds, List.mem_cons, List.not_mem_nil, or_false] at hm
  rcases hm with rfl | rfl | rfl | rfl | rfl | rfl | rfl | rfl | rfl | rfl | rfl | rfl | rfl <;> revert h <;> decide

theorem numBase_at {s : ByteArray} (h0 : 0 < s.size) : numBase s.data.toList = (if (s[0]).toNat = 48 ∧ ∃ h : 1 < s.size, (s[1]).toNat = 120 ∨ (s[1]).toNat = 88 then 16 else if (s[0]).toNat = 48 then 8 else 10) ∧ numOff s.data.toList = (if (s[0]).toNat = 48 ∧ ∃ h : 1 < s.size, (s[1]).toNat = 120 ∨ (s[1]).toNat = 88 then 2 else 0) := by
  unfold numBase numOff
  rw [hex_of h0, head_get h0]
  constructor
  · by_cases h : (s[0]).toNat = 48 ∧ ∃ h : 1 < s.size, (s[1]).toNat = 120 ∨ (s[1]).toNat = 88
    · rw [if_pos h, if_pos (by simpa using h)]
    · rw [if_neg h, if_neg (by simpa using h)]
      have : (some s[0] == some (48 : UInt8)) = decide ((s[0]).toNat = 48) := by
        rw [Bool.eq_iff_iff]; simp [← UInt8.toNat_inj]
      rw [this]
      by_cases h2 : (s[0]).toNat = 48 <;> simp [h2]
  · by_cases h : (s[0]).toNat = 48 ∧ ∃ h : 1 < s.size, (s[1]).toNat = 120 ∨ (s[1]).toNat = 88
    · rw [if_pos h, if_pos (by simpa using h)]
    · rw [if_neg h, if_neg (by simpa using h)]

theorem numBase_set (l : List UInt8) : (numBase l = 8 ∨ numBase l = 10) ∧ numOff l = 0 ∨ numBase l = 16 ∧ numOff l = 2 := by
  unfold numBase numOff
  by_cases h : (Lib.hasPrefix l [48, 120] || Lib.hasPrefix l [48, 88]) = true
  · rw [if_pos h, if_pos h]; exact .inr ⟨rfl, rfl⟩
  · rw [if_neg h, if_neg h]
    refine .inl ⟨?_, rfl⟩
    split <;> simp

theorem off_le {s : ByteArray} : numOff s.data.toList ≤ s.size := by
  unfold numOff
  split
  · rename_i h
    rw [Bool.or_eq_true] at h
    rcases h with h | h
    · exact size_of_prefix h
    · exact size_of_prefix h
  · exact Nat.zero_le _

set_option maxRecDepth 100000 in
set_option maxHeartbeats 8000000 in
theorem number_r (s : ByteArray) (w : World) (h0 : 0 < s.size) (hs : s.size ≤ 140737488355328) :
    Calls Tryz.prog 46 #[.string s] w fun e w' => e = .returned (numV s.data.toList) ∧ Below w.heap.size w w' := by
  have hNB := numBase_at h0
  have hset := numBase_set s.data.toList
  have hoff := off_le (s := s)
  have HS : Hid (NumAt _ _ _) := NumAt.start s.data.toList
  have hll : s.data.toList.length = s.size := by simp
  have HBW : Hid (Below w.heap.size w (w.alloc (.cells #[.int .i64 0, .string ⟨#[]⟩, .int .i64 0, .int .i64 0, .int .i64 0, .int .i64 0] 35))) := (Below.refl _ _).alloc (Nat.le_refl _) _
  have HHW : Hid ((w.alloc (.cells #[.int .i64 0, .string ⟨#[]⟩, .int .i64 0, .int .i64 0, .int .i64 0, .int .i64 0] 35)).heap[w.heap.size]? = some (.cells #[.int .i64 0, .string ⟨#[]⟩, .int .i64 0, .int .i64 0, .int .i64 0, .int .i64 0] 35 (0, 0))) := heap_r0 w _
  go_enter Tryz.func46, Tryz.ntmps46
  go_upto_if 13 with (fail)
  go_cut [4, 5] from 11 (fun bv iv wc => bv = .int .i64 (numBase s.data.toList) ∧ iv = .int .i64 (numOff s.data.toList) ∧ wc = w.alloc (.cells #[.int .i64 0, .string ⟨#[]⟩, .int .i64 0, .int .i64 0, .int .i64 0, .int .i64 0] 35))
  case first =>
    clear hset hoff HS HBW HHW
    by_cases h48 : (s[0]).toNat = 48
    · have g48 : (((s[0]).toNat : Int) == 48) = true := by simp; omega
      by_cases h1 : 1 < s.size
      · have g1 : decide ((1 : Int) < s.size) = true := by simp; omega
        by_cases h120 : (s[1]).toNat = 120
        · rw [if_pos ⟨h48, h1, .inl h120⟩, if_pos ⟨h48, h1, .inl h120⟩] at hNB
          have HN : Hid _ := hNB
          have g2 : (((s[1]).toNat : Int) == 120) = true := by simp; omega
          clear hNB
          go_wp2
          go_meet
          case rel => rw [HN.out.1, HN.out.2]; exact ⟨rfl, rfl, rfl⟩
        · have g2 : (((s[1]).toNat : Int) == 120) = false := by simp; omega
          by_cases h88 : (s[1]).toNat = 88
          · rw [if_pos ⟨h48, h1, .inr h88⟩, if_pos ⟨h48, h1, .inr h88⟩] at hNB
            have HN : Hid _ := hNB
            have g3 : (((s[1]).toNat : Int) == 88) = true := by simp; omega
            clear hNB
            go_wp2
            go_meet
            case rel => rw [HN.out.1, HN.out.2]; exact ⟨rfl, rfl, rfl⟩
          · have hn : ¬ ((s[0]).toNat = 48 ∧ ∃ h : 1 < s.size, (s[1]).toNat = 120 ∨ (s[1]).toNat = 88) := by rintro ⟨_, _, h | h⟩ <;> contradiction
            rw [if_neg hn, if_neg hn, if_pos h48] at hNB
            have HN : Hid _ := hNB
            have g3 : (((s[1]).toNat : Int) == 88) = false := by simp; omega
            clear hn hNB
            go_wp2
            go_meet
            case rel => rw [HN.out.1, HN.out.2]; exact ⟨rfl, rfl, rfl⟩
      · have hn : ¬ ((s[0]).toNat = 48 ∧ ∃ h : 1 < s.size, (s[1]).toNat = 120 ∨ (s[1]).toNat = 88) := by rintro ⟨_, h, _⟩; exact h1 h
        rw [if_neg hn, if_neg hn, if_pos h48] at hNB
        have HN : Hid _ := hNB
        have g1 : decide ((1 : Int) < s.size) = false := by simp; omega
        clear hn hNB
        go_wp2
        go_meet
        case rel => rw [HN.out.1, HN.out.2]; exact ⟨rfl, rfl, rfl⟩
    · have hn : ¬ ((s[0]).toNat = 48 ∧ ∃ h : 1 < s.size, (s[1]).toNat = 120 ∨ (s[1]).toNat = 88) := by rintro ⟨h, _⟩; exact h48 h
      rw [if_neg hn, if_neg hn, if_neg h48] at hNB
      have HN : Hid _ := hNB
      have g48 : (((s[0]).toNat : Int) == 48) = false := by simp; omega
      clear hn hNB
      go_wp2
      go_meet
      case rel => rw [HN.out.1, HN.out.2]; exact ⟨rfl, rfl, rfl⟩
  case rest =>
    obtain ⟨rfl, rfl, rfl⟩ := hcut
    clear hNB
    have hb16 : numBase s.data.toList ≤ 16 := by omega
    obtain ⟨b, hb⟩ : ∃ b, b = numBase s.data.toList := ⟨_, rfl⟩
    obtain ⟨o, ho⟩ : ∃ o, o = numOff s.data.toList := ⟨_, rfl⟩
    rw [← hb] at hb16 ⊢
    rw [← ho] at hoff HS ⊢
    have hset' : (b = 8 ∨ b = 10) ∧ o = 0 ∨ b = 16 ∧ o = 2 := by rw [hb, ho]; exact hset
    have HEQ : Hid (b = numBase s.data.toList ∧ o = numOff s.data.toList) := ⟨hb, ho⟩
    clear hset hb ho
    have cT := fun u l W => type_r u l W
    clear HHW HBW
    have hbz : ∀ W : World, (Instr.build 35 #[]).run Tryz.prog W = .ok (.agg #[.int .i64 0, .string ⟨#[]⟩, .int .i64 0, .int .i64 0, .int .i64 0, .int .i64 0]) W := fun W => by kernel_rfl
    go_wp2
    go_loop [5, 7] (fun iv nv => ∃ k n : Nat, iv = .int .i64 k ∧ nv = .int .i64 n ∧ o ≤ k ∧ k ≤ s.size ∧ n ≤ 4294967295 ∧ Hid (NumAt s.data.toList k n)) (fun iv _ => s.size - (intOf iv).toNat)
    case atStart => exact ⟨o, 0, rfl, rfl, Nat.le_refl _, hoff, by omega, HS⟩
    case round =>
      obtain ⟨k, n, rfl, rfl, hok, hks, hn, HR⟩ := hrel
      clear HS
      by_cases hdig : ∃ h : k < s.size, bDigit (s[k]).toNat < b
      · obtain ⟨hlt, hd⟩ := hdig
        have cV := fun W => value_r (s[k]).toNat W (s[k]).toNat_lt
        have hmul : n * b ≤ 4294967295 * 16 := Nat.mul_le_mul hn hb16
        have HR2 : Hid (NumAt s.data.toList (k + 1) (n * b + bDigit (s[k]).toNat)) := by
          have h1 := HEQ.out
          have := HR.out.next hn (by omega) (drop_get s k hlt) (by omega)
          rw [← h1.1] at this; exact this
        clear HR
        have g1 : decide ((k : Int) < s.size) = true := by simp; omega
        have g2 : decide ((bDigit (s[k]).toNat : Int) < b) = true := by simp; omega
        generalize hdv : bDigit (s[k]).toNat = d at *
        clear hdv
        by_cases hov : 4294967295 < n * b + d
        · have hf := HR2.out.over hov
          have hV : numV s.data.toList = .tuple #[tokAgg 0 ⟨#[]⟩ 0, .bool false] := by unfold numV; rw [hf]; rfl
          have HV : Hid _ := hV
          have g3 : (4294967295 : Int) < (n : Int) * b + d := by have := hov; omega
          clear HR2 hf hV hset' cT
          go_wp2_with (first | (go_at_call 66; refine (cV _).mono ?_; rintro e w' ⟨rfl, rfl⟩))
          refine ret_tokb (p := 2) (q := 3) ?_ ?_ (heap_r0 _ _) ?_ ?_
          all_goals first | rfl | (exact ⟨(congrArg Ending.returned HV.out).symm, (Below.refl _ _).alloc (Nat.le_refl _) _⟩)
        · have g3 : ¬ ((4294967295 : Int) < (n : Int) * b + d) := by have := hov; omega
          clear hset' cT
          go_wp2_with (first | (go_at_call 66; refine (cV _).mono ?_; rintro e w' ⟨rfl, rfl⟩))
          refine ⟨⟨k + 1, n * b + d, by go_num, by simp, by omega, by omega, by omega, HR2⟩, by simp [intOf]; omega⟩
      · have hrun0 : runLen (bBase (numBase s.data.toList)) (s.data.toList.drop k) = 0 := by
          rw [← HEQ.out.1]
          by_cases hlt : k < s.size
          · have hnd : ¬ bDigit (s[k]).toNat < b := fun h => hdig ⟨hlt, h⟩
            rw [drop_get s k hlt, runLen, if_neg (by simpa [bBase] using hnd)]
          · rw [List.drop_eq_nil_of_le (by omega)]; rfl
        obtain ⟨hlen, hval, hend⟩ := HR.out.stop (by rw [← HEQ.out.2]; exact hok) hrun0
        rw [← HEQ.out.2] at hlen
        have HF1 : Hid (((k : Int) == (o : Int)) = true → numV s.data.toList = .tuple #[tokAgg 0 ⟨#[]⟩ 0, .bool false]) := fun h0 => by
          have h : k = o := by rw [beq_iff_eq] at h0; omega
          unfold numV; rw [numOk_short (by omega)]; rfl
        have HF2 : Hid (endU (low (s.data.toList.drop k)) = false → 2147483647 < n → ((b : Int) == 10) = true → numV s.data.toList = .tuple #[tokAgg 0 ⟨#[]⟩ 0, .bool false]) := fun h h1 h3 => by
          have h2 : b = 10 := by rw [beq_iff_eq] at h3; omega
          unfold numV; rw [numOk_ten (by rw [hend]; exact h) (by omega) (by rw [← HEQ.out.1]; exact h2)]; rfl
        have HT1 : Hid (endOk (low (s.data.toList.drop k)) = true → ((k : Int) == (o : Int)) = false → 2147483647 < n → ((b : Int) == 10) = false → numV s.data.toList = .tuple #[tokAgg 3 ⟨(typeText true (endL (low (s.data.toList.drop k)))).toArray⟩ n, .bool true]) := fun he h0 h1 h5 => by
          have h2 : b ≠ 10 := by rw [beq_eq_false_iff_ne] at h5; omega
          have h : k ≠ o := by rw [beq_eq_false_iff_ne] at h0; omega
          obtain ⟨h3, h4⟩ := numOk_up (L := s.data.toList) (by omega) (by rw [hend]; exact he) (by omega) (by omega) (by rw [← HEQ.out.1]; exact h2)
          unfold numV; rw [h3, h4, hval, hend]; rfl
        have HT2 : Hid (endOk (low (s.data.toList.drop k)) = true → ((k : Int) == (o : Int)) = false → (endU (low (s.data.toList.drop k)) = true ∨ n ≤ 2147483647) → numV s.data.toList = .tuple #[tokAgg 3 ⟨(typeText (endU (low (s.data.toList.drop k))) (endL (low (s.data.toList.drop k)))).toArray⟩ n, .bool true]) := fun he h0 h1 => by
          have h : k ≠ o := by rw [beq_eq_false_iff_ne] at h0; omega
          obtain ⟨h3, h4⟩ := numOk_as (L := s.data.toList) (by omega) (by rw [hend]; exact he) (by omega) (by rw [hend, hval]; exact h1)
          unfold numV; rw [h3, h4, hval, hend]; rfl
        have HF0 : Hid (endOk (low (s.data.toList.drop k)) = false → numV s.data.toList = .tuple #[tokAgg 0 ⟨#[]⟩ 0, .bool false]) := fun h => by
          unfold numV; rw [numOk_bad (by rw [hend]; exact h)]; rfl
        clear hrun0 hlen hval hend HR
        by_cases hlt : k < s.size
        · have hnd : ¬ bDigit (s[k]).toNat < b := fun h => hdig ⟨hlt, h⟩
          have cV := fun W => value_r (s[k]).toNat W (s[k]).toNat_lt
          have g1 : decide ((k : Int) < s.size) = true := by simp; omega
          have g2 : decide ((bDigit (s[k]).toNat : Int) < b) = false := by simp; omega
          have g2' : decide (bDigit (s[k]).toNat < b) = false := by simpa using hnd
          have hxl : (s.extract k s.size).data.toList = s.data.toList.drop k := by rw [extract_list]; exact List.take_of_length_le (by simp)
          have hne : s.data.toList.drop k ≠ [] := by rw [drop_get s k hlt]; simp
          have hsl : ∀ W : World, (Instr.sliceAt 9 (.string s) (some (.int .i64 (k : Int))) none none).run Tryz.prog W = .ok (.string ⟨(s.data.toList.drop k).toArray⟩) W := fun W => by
            have h := run_slice_string_from_if (P := Tryz.prog) W 9 s .i64 k Tryz.underlying9
            rw [if_pos ⟨by omega, by omega⟩] at h
            have h2 : (Instr.sliceAt 9 (.string s) (some (.int .i64 (k : Int))) none none).run Tryz.prog W = (Instr.slice 9 (.string s) (some (.int .i64 (k : Int))) none none).run Tryz.prog W := by simp [Instr.sliceAt, run_underlying Tryz.underlying9]
            rw [h2, h, ← hxl]; rfl
          clear hdig hnd hxl
          rcases hE : endOk (low (s.data.toList.drop k)) with _ | _
          · have HV : Hid _ := HF0.out hE
            have hm := end_bad _ hE
            generalize s.data.toList.drop k = tl at *
            clear hE HF0 HF1 HF2 HT1 HT2
            simp only [goodEnds, List.mem_cons, List.not_mem_nil, or_false, not_or] at hm
            obtain ⟨m0, m1, m2, m3, m4, m5, m6, m7, m8, m9, m10, m11, m12⟩ := hm
            have hl : (ByteArray.mk tl.toArray).toList = tl := ByteArray.toList_mk tl
            have e0 : (tl == []) = false := by simpa using m0
            have e0' : tl.isEmpty = false := by simpa using m0
            have e1 : (tl == [117]) = false := by simpa using m1
            have e2 : (tl == [85]) = false := by simpa using m2
            have e3 : (tl == [108]) = false := by simpa using m3
            have e4 : (tl == [76]) = false := by simpa using m4
            by_cases h2 : tl.length = 2
            · obtain ⟨a, c, rfl⟩ : ∃ a c, tl = [a, c] := by
                rcases tl with _ | ⟨a, _ | ⟨c, _ | ⟨d, r⟩⟩⟩
                · cases h2
                · cases h2
                · exact ⟨a, c, rfl⟩
                · simp at h2
              have hA : ((a.toNat = 117 ∨ a.toNat = 85) → ¬ (c.toNat = 108 ∨ c.toNat = 76)) ∧ ((a.toNat = 108 ∨ a.toNat = 76) → ¬ (c.toNat = 117 ∨ c.toNat = 85)) := by
                simp only [List.cons.injEq, and_true, not_and, ← UInt8.toNat_inj] at m5 m6 m7 m8 m9 m10 m11 m12
                simp only [UInt8.reduceToNat] at m5 m6 m7 m8 m9 m10 m11 m12
                omega
              have HA : Hid _ := hA
              clear m0 m1 m2 m3 m4 m5 m6 m7 m8 m9 m10 m11 m12 h2 hA
              have hi0 : (ByteArray.mk #[a, c])[0]'(by show 0 < 2; omega) = a := rfl
              have hi1 : (ByteArray.mk #[a, c])[1]'(by show 1 < 2; omega) = c := rfl
              have hr2 : (ByteArray.mk #[a, c]).size = 2 := rfl
              have hq : (a.toNat = 117 ∨ a.toNat = 85) ∨ (a.toNat = 108 ∨ a.toNat = 76) ∨ (¬ a.toNat = 117 ∧ ¬ a.toNat = 85 ∧ ¬ a.toNat = 108 ∧ ¬ a.toNat = 76) := by omega
              rcases hq with hq | hq | ⟨q1, q2, q3, q4⟩
              · have hc := HA.out.1 hq
                rcases hq with hq | hq
                · have b1 : ((a.toNat : Int) == 117) = true := by simp; omega
                  have b3 : ((a.toNat : Int) == 108) = false := by simp; omega
                  have b4 : ((a.toNat : Int) == 76) = false := by simp; omega
                  have y1 : ((c.toNat : Int) == 108) = false := by simp; omega
                  have y2 : ((c.toNat : Int) == 76) = false := by simp; omega
                  go_wp2_with (first | (go_at_call 66; refine (cV _).mono ?_; rintro e w' ⟨rfl, rfl⟩))
                  refine ret_tokb (p := 2) (q := 3) ?_ ?_ (heap_r0 _ _) ?_ ?_; rfl; rfl; rfl
                  exact ⟨(congrArg Ending.returned HV.out).symm, (Below.refl _ _).alloc (Nat.le_refl _) _⟩
                · have b1 : ((a.toNat : Int) == 117) = false := by simp; omega
                  have b2 : ((a.toNat : Int) == 85) = true := by simp; omega
                  have b3 : ((a.toNat : Int) == 108) = false := by simp; omega
                  have b4 : ((a.toNat : Int) == 76) = false := by simp; omega
                  have y1 : ((c.toNat : Int) == 108) = false := by simp; omega
                  have y2 : ((c.toNat : Int) == 76) = false := by simp; omega
                  go_wp2_with (first | (go_at_call 66; refine (cV _).mono ?_; rintro e w' ⟨rfl, rfl⟩))
                  refine ret_tokb (p := 2) (q := 3) ?_ ?_ (heap_r0 _ _) ?_ ?_; rfl; rfl; rfl
                  exact ⟨(congrArg Ending.returned HV.out).symm, (Below.refl _ _).alloc (Nat.le_refl _) _⟩
              · have hc := HA.out.2 hq
                rcases hq with hq | hq
                · have b1 : ((a.toNat : Int) == 117) = false := by simp; omega
                  have b2 : ((a.toNat : Int) == 85) = false := by simp; omega
                  have b3 : ((a.toNat : Int) == 108) = true := by simp; omega
                  have y1 : ((c.toNat : Int) == 117) = false := by simp; omega
                  have y2 : ((c.toNat : Int) == 85) = false := by simp; omega
                  go_wp2_with (first | (go_at_call 66; refine (cV _).mono ?_; rintro e w' ⟨rfl, rfl⟩))
                  refine ret_tokb (p := 2) (q := 3) ?_ ?_ (heap_r0 _ _) ?_ ?_; rfl; rfl; rfl
                  exact ⟨(congrArg Ending.returned HV.out).symm, (Below.refl _ _).alloc (Nat.le_refl _) _⟩
                · have b1 : ((a.toNat : Int) == 117) = false := by simp; omega
                  have b2 : ((a.toNat : Int) == 85) = false := by simp; omega
                  have b3 : ((a.toNat : Int) == 108) = false := by simp; omega
                  have b4 : ((a.toNat : Int) == 76) = true := by simp; omega
                  have y1 : ((c.toNat : Int) == 117) = false := by simp; omega
                  have y2 : ((c.toNat : Int) == 85) = false := by simp; omega
                  go_wp2_with (first | (go_at_call 66; refine (cV _).mono ?_; rintro e w' ⟨rfl, rfl⟩))
                  refine ret_tokb (p := 2) (q := 3) ?_ ?_ (heap_r0 _ _) ?_ ?_; rfl; rfl; rfl
                  exact ⟨(congrArg Ending.returned HV.out).symm, (Below.refl _ _).alloc (Nat.le_refl _) _⟩
              · have b1 : ((a.toNat : Int) == 117) = false := by simp; omega
                have b2 : ((a.toNat : Int) == 85) = false := by simp; omega
                have b3 : ((a.toNat : Int) == 108) = false := by simp; omega
                have b4 : ((a.toNat : Int) == 76) = false := by simp; omega
                go_wp2_with (first | (go_at_call 66; refine (cV _).mono ?_; rintro e w' ⟨rfl, rfl⟩))
                refine ret_tokb (p := 2) (q := 3) ?_ ?_ (heap_r0 _ _) ?_ ?_; rfl; rfl; rfl
                exact ⟨(congrArg Ending.returned HV.out).symm, (Below.refl _ _).alloc (Nat.le_refl _) _⟩
            · have e5 : ¬ ((tl.length : Int) = 2) := by omega
              have e6 : ((tl.length : Int) == 2) = false := by simpa using e5
              clear m0 m1 m2 m3 m4 m5 m6 m7 m8 m9 m10 m11 m12 h2
              go_wp2_with (first | (go_at_call 66; refine (cV _).mono ?_; rintro e w' ⟨rfl, rfl⟩))
              refine ret_tokb (p := 2) (q := 3) ?_ ?_ (heap_r0 _ _) ?_ ?_; rfl; rfl; rfl
              exact ⟨(congrArg Ending.returned HV.out).symm, (Below.refl _ _).alloc (Nat.le_refl _) _⟩
          · have HT1 : Hid _ := HT1.out hE
            have HT2 : Hid _ := HT2.out hE
            have hm := end_good _ hE
            generalize s.data.toList.drop k = tl at *
            simp only [goodEnds, List.mem_cons, List.not_mem_nil, or_false] at hm
            clear hE HF0
            rcases hm with rfl | rfl | rfl | rfl | rfl | rfl | rfl | rfl | rfl | rfl | rfl | rfl | rfl
            · exact absurd rfl hne
            all_goals clear hne
            all_goals go_wp2_with (first | (go_at_call 66; refine (cV _).mono ?_; rintro e w' ⟨rfl, rfl⟩) | (go_at_call 67; refine (cT _ _ _).mono ?_; rintro e w' ⟨rfl, rfl⟩))
            all_goals (first | (refine ret_tokb (p := 2) (q := 3) ?_ ?_ (heap_r0 _ _) ?_ ?_; rfl; rfl; rfl; first | exact ⟨(congrArg Ending.returned (HF1.out (by assumption))).symm, (Below.refl _ _).alloc (Nat.le_refl _) _⟩ | exact ⟨(congrArg Ending.returned (HF2.out rfl (by omega) (by assumption))).symm, (Below.refl _ _).alloc (Nat.le_refl _) _⟩ | exact ⟨(congrArg Ending.returned (HT1.out (by assumption) (by omega) (by assumption))).symm, (Below.refl _ _).alloc (Nat.le_refl _) _⟩ | exact ⟨(congrArg Ending.returned (HT2.out (by assumption) (.inl rfl))).symm, (Below.refl _ _).alloc (Nat.le_refl _) _⟩ | exact ⟨(congrArg Ending.returned (HT2.out (by assumption) (.inr (by omega)))).symm, (Below.refl _ _).alloc (Nat.le_refl _) _⟩))
        · have hke : k = s.size := by omega
          have hdn : s.data.toList.drop k = [] := List.drop_eq_nil_of_le (by omega)
          have hsl : ∀ W : World, (Instr.sliceAt 9 (.string s) (some (.int .i64 (k : Int))) none none).run Tryz.prog W = .ok (.string ⟨#[]⟩) W := fun W => by
            have h := run_slice_string_from_if (P := Tryz.prog) W 9 s .i64 k Tryz.underlying9
            rw [if_pos ⟨by omega, by omega⟩] at h
            have h1 : (s.extract k s.size).data.toList = [] := by rw [extract_list, hdn]; simp
            have h3 : s.extract k s.size = ⟨(s.extract k s.size).data.toList.toArray⟩ := rfl
            have h2 : (Instr.sliceAt 9 (.string s) (some (.int .i64 (k : Int))) none none).run Tryz.prog W = (Instr.slice 9 (.string s) (some (.int .i64 (k : Int))) none none).run Tryz.prog W := by simp [Instr.sliceAt, run_underlying Tryz.underlying9]
            rw [h1] at h3
            rw [h2, h]
            simp only [Int.toNat_natCast]
            rw [h3]
          have g1 : decide ((k : Int) < s.size) = false := by simp; omega
          rw [hdn] at HF2 HT1 HT2
          have HT1 : Hid _ := HT1.out rfl
          have HT2 : Hid _ := HT2.out rfl
          clear HF0 hdn hdig hke
          go_wp2_with (first | (go_at_call 67; refine (cT _ _ _).mono ?_; rintro e w' ⟨rfl, rfl⟩))
          all_goals (first | (refine ret_tokb (p := 2) (q := 3) ?_ ?_ (heap_r0 _ _) ?_ ?_; rfl; rfl; rfl; first | exact ⟨(congrArg Ending.returned (HF1.out (by assumption))).symm, (Below.refl _ _).alloc (Nat.le_refl _) _⟩ | exact ⟨(congrArg Ending.returned (HF2.out rfl (by omega) (by assumption))).symm, (Below.refl _ _).alloc (Nat.le_refl _) _⟩ | exact ⟨(congrArg Ending.returned (HT1.out (by assumption) (by omega) (by assumption))).symm, (Below.refl _ _).alloc (Nat.le_refl _) _⟩ | exact ⟨(congrArg Ending.returned (HT2.out (by assumption) (.inl rfl))).symm, (Below.refl _ _).alloc (Nat.le_refl _) _⟩ | exact ⟨(congrArg Ending.returned (HT2.out (by assumption) (.inr (by omega)))).symm, (Below.refl _ _).alloc (Nat.le_refl _) _⟩))
end Go.Proofs.YtjbmpdcgmphhoaaGreatDoor
