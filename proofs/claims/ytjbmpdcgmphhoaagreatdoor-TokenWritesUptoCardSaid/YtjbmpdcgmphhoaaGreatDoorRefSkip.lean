/-
  What mortiseref02's at and skip answer: the same gap as package token's skip.
-/
import Derived.Test.YtjbmpdcgmphhoaaGreatDoorScanS
import Derived.Test.YtjbmpdcgmphhoaaGreatDoorRefKey
namespace Go.Proofs.YtjbmpdcgmphhoaaGreatDoor
open Go.RowKit
set_option linter.unusedVariables false

theorem pfx_take_eq (l p : List UInt8) : Lib.hasPrefix l p = (l.take p.length == p) := by
  rw [Bool.eq_iff_iff, beq_iff_eq]
  unfold Lib.hasPrefix
  rw [List.isPrefixOf_iff_prefix, List.prefix_iff_eq_take]
  exact eq_comm

set_option maxRecDepth 100000 in
theorem at_r (s t : ByteArray) (i : Nat) (w : World) (hi : i ≤ s.size) (hs : s.size ≤ 1000000000000000000) (ht : t.size ≤ 1000) :
    Calls Tryz.prog 43 #[.string s, .int .i64 i, .string t] w fun e w' => e = .returned (.bool (Lib.hasPrefix (s.data.toList.drop i) t.data.toList)) ∧ w' = w := by
  by_cases h : i + t.size ≤ s.size
  · have hsl : ∀ W : World, (Instr.slice 9 (.string s) (some (.int .i64 (i : Int))) (some (.int .i64 ((i : Int) + (t.size : Int)))) none).run Tryz.prog W = .ok (.string (s.extract i (i + t.size))) W := fun W => by
      have h := run_slice_string (P := Tryz.prog) W 9 s .i64 .i64 i ((i : Int) + (t.size : Int)) Tryz.underlying9 (by omega) (by omega) (by omega)
      have e : ((i : Int) + (t.size : Int)).toNat = i + t.size := by omega
      rw [e] at h
      simpa using h
    have hsa : ∀ W : World, (Instr.sliceAt 9 (.string s) (some (.int .i64 (i : Int))) (some (.int .i64 ((i : Int) + (t.size : Int)))) none).run Tryz.prog W = .ok (.string (s.extract i (i + t.size))) W := fun W => by
      have h := hsl W
      simpa [Instr.sliceAt, run_underlying Tryz.underlying9] using h
    have hx : Lib.hasPrefix (s.data.toList.drop i) t.data.toList = ((s.extract i (i + t.size)).toList == t.toList) := by
      rw [pfx_take_eq, ByteArray.toList_eq, ByteArray.toList_eq, extract_list]
      have : t.data.toList.length = i + t.size - i := by simp
      rw [this]
    have hge : (t.size : Int) ≤ (s.size : Int) - i := by omega
    rw [hx]
    go_enter Tryz.func43, Tryz.ntmps43
    go_wp2
    go_ret
    exact ⟨rfl, rfl⟩
  · have hx : Lib.hasPrefix (s.data.toList.drop i) t.data.toList = false := by
      rw [pfx_take_eq, Bool.eq_false_iff]
      intro hc
      rw [beq_iff_eq] at hc
      have := congrArg List.length hc
      simp at this
      omega
    have hge : ¬ ((t.size : Int) ≤ (s.size : Int) - i) := by omega
    rw [hx]
    go_enter Tryz.func43, Tryz.ntmps43
    go_wp2
    go_ret
    exact ⟨rfl, rfl⟩

/-- The first place of an end of a comment, told from a place behind the comment's beginning. -/
def IdxAt (I : Int) (L sub : List UInt8) (a j : Nat) : Prop := I = if Lib.index (L.drop j) sub = -1 then -1 else Lib.index (L.drop j) sub + ((j : Int) - a)
theorem IdxAt.start (L sub : List UInt8) (a : Nat) : IdxAt (Lib.index (L.drop a) sub) L sub a a := by
  unfold IdxAt; split
  · assumption
  · omega
theorem IdxAt.next {I : Int} {L sub : List UInt8} {a j : Nat} (h : IdxAt I L sub a j) (hj : j < L.length) (hp : Lib.hasPrefix (L.drop j) sub = false) : IdxAt I L sub a (j + 1) := by
  unfold IdxAt at h ⊢
  rw [h]
  have hd := List.drop_eq_getElem_cons hj
  have h1 : Lib.index (L.drop j) sub = if Lib.index (L.drop (j + 1)) sub == -1 then -1 else Lib.index (L.drop (j + 1)) sub + 1 := by
    rw [hd] at hp ⊢
    unfold Lib.hasPrefix at hp
    rw [Lib.index, hp]; rfl
  have hge := Lib.index_ge (L.drop (j + 1)) sub
  rw [h1]
  by_cases h2 : Lib.index (L.drop (j + 1)) sub = -1
  · rw [h2]; rfl
  · have h3 : (Lib.index (L.drop (j + 1)) sub == -1) = false := by simpa using h2
    rw [h3]
    simp only [Bool.false_eq_true, if_false]
    rw [if_neg (by omega), if_neg h2]; omega
theorem IdxAt.found {I : Int} {L sub : List UInt8} {a j : Nat} (h : IdxAt I L sub a j) (hj : j < L.length) (hp : Lib.hasPrefix (L.drop j) sub = true) : I = (j : Int) - a := by
  unfold IdxAt at h
  have hd := List.drop_eq_getElem_cons hj
  have h1 : Lib.index (L.drop j) sub = 0 := by
    rw [hd] at hp ⊢
    unfold Lib.hasPrefix at hp
    rw [Lib.index, hp]; rfl
  rw [h, h1]; simp
theorem IdxAt.none {I : Int} {L : List UInt8} {a j : Nat} {c : UInt8} {r : List UInt8} (h : IdxAt I L (c :: r) a j) (hj : L.length ≤ j) : I = -1 := by
  unfold IdxAt at h
  rw [List.drop_eq_nil_of_le hj] at h
  rw [h]; rfl

def skipV (G : Nat × Bool) : Value := if G.2 then .tuple #[.int .i64 G.1, .int .i64 0] else .tuple #[.int .i64 (-1), .int .i64 G.1]

theorem blank_facts (n : Nat) (h : bBlank n = false) : ((n : Int) == 32) = false ∧ (decide ((9 : Int) ≤ n) = false ∨ (decide ((9 : Int) ≤ n) = true ∧ decide ((n : Int) ≤ 13) = false)) := by
  simp [bBlank] at h
  refine ⟨by simp; omega, ?_⟩
  by_cases h9 : 9 ≤ n
  · exact .inr ⟨by simp; omega, by simp; omega⟩
  · exact .inl (by simp; omega)

set_option maxRecDepth 100000 in
set_option maxHeartbeats 4000000 in
theorem skip_r (s : ByteArray) (i : Nat) (w : World) (hi : i ≤ s.size) (hs : s.size ≤ 65536) :
    Calls Tryz.prog 18 #[.string s, .int .i64 i] w fun e w' => e = .returned (skipV (i + (gap (s.data.toList.drop i)).1, (gap (s.data.toList.drop i)).2)) ∧ w' = w := by
  have hS : GapAt (i + (gap (s.data.toList.drop i)).1, (gap (s.data.toList.drop i)).2) s.data.toList i := rfl
  generalize (i + (gap (s.data.toList.drop i)).1, (gap (s.data.toList.drop i)).2) = G at *
  have HS : Hid (GapAt _ _ _) := hS
  clear hS
  have hll : s.data.toList.length = s.size := by simp
  have hn0 : ∀ W : World, (Op.unary UnOp.not (.bool false)).run Tryz.prog W = .ok (.bool true) W := fun _ => rfl
  have hn1 : ∀ W : World, (Op.unary UnOp.not (.bool true)).run Tryz.prog W = .ok (.bool false) W := fun _ => rfl
  go_enter Tryz.func18, Tryz.ntmps18
  go_wp2
  go_loop [1] (fun v => ∃ k : Nat, v = .int .i64 k ∧ k ≤ s.size ∧ Hid (GapAt G s.data.toList k)) (fun v => s.size - (intOf v).toNat)
  case atStart => exact ⟨i, rfl, hi, HS⟩
  case round =>
    obtain ⟨k, rfl, hk, HR⟩ := hrel
    clear HS
    by_cases hlt : k < s.size
    · have hd := drop_get s k hlt
      have hg := gap_cons s[k] (s.data.toList.drop (k + 1))
      rw [← hd] at hg
      have cA := fun W => at_r s ⟨#[47, 42]⟩ k W (by omega) (by omega) (by decide)
      have cB := fun W => at_r s ⟨#[47, 47]⟩ k W (by omega) (by omega) (by decide)
      simp only at cA cB
      rcases hb : bBlank (s[k]).toNat with _ | _
      · rw [hb] at hg
        simp only [Bool.false_eq_true, if_false] at hg
        obtain ⟨hb1, hb2⟩ := blank_facts _ hb
        rcases h4 : Lib.hasPrefix (s.data.toList.drop k) [47, 42] with _ | _
        · rw [h4] at hg
          simp only [h4] at cA
          simp only [Bool.false_eq_true, if_false] at hg
          rcases h2 : Lib.hasPrefix (s.data.toList.drop k) [47, 47] with _ | _
          · rw [h2] at hg
            simp only [h2] at cB
            simp only [Bool.false_eq_true, if_false] at hg
            have hG := HR.out.stop hg
            subst hG
            clear hg hd HR hb
            rcases hb2 with h9 | ⟨h9, h13⟩
            all_goals go_wp2_with (go_at_call 43; first | (refine (cA _).mono ?_; rintro e W' ⟨rfl, rfl⟩; clear cA) | (refine (cB _).mono ?_; rintro e W' ⟨rfl, rfl⟩))
            all_goals go_ret2
            all_goals exact ⟨rfl, rfl⟩
          · rw [h2] at hg
            simp only [h2] at cB
            simp only [if_true] at hg
            have HR2 : Hid (GapAt _ _ _) := HR.out.next hg
            have hpos : 0 < runLen bNoLine (s.data.toList.drop k) := by rw [hd] at h2 ⊢; exact line_pos h2
            obtain ⟨n, hn0⟩ : ∃ n, n = runLen bNoLine (s.data.toList.drop k) := ⟨_, rfl⟩
            have HL : Hid (n = (k - k) + runLen bNoLine (s.data.toList.drop k)) := by show _ = _; omega
            rw [← hn0] at HR2 hpos
            clear hn0
            clear hg hd HR hb
            rcases hb2 with h9 | ⟨h9, h13⟩
            all_goals go_wp2_with (go_at_call 43; first | (refine (cA _).mono ?_; rintro e W' ⟨rfl, rfl⟩; clear cA) | (refine (cB _).mono ?_; rintro e W' ⟨rfl, rfl⟩))
            all_goals (
              go_loop [1] (fun v => ∃ j : Nat, v = .int .i64 j ∧ k ≤ j ∧ j ≤ s.size ∧ Hid (n = (j - k) + runLen bNoLine (s.data.toList.drop j))) (fun v => s.size - (intOf v).toNat)
              case atStart => exact ⟨k, rfl, Nat.le_refl _, by omega, HL⟩
              case round =>
                obtain ⟨j, rfl, hj0, hj1, HJ⟩ := hrel
                clear HL cB
                by_cases hjl : j < s.size
                · have HN : Hid _ := runLen_drop bNoLine s j hjl
                  rcases hP : bNoLine (s[j]).toNat with _ | _
                  · have hn := HJ.out
                    rw [HN.out, hP] at hn
                    simp only [Bool.false_eq_true, if_false] at hn
                    have h10 : (((s[j]).toNat : Int) != 10) = false := by simp [bNoLine] at hP; simp; omega
                    have HR3 : Hid (GapAt G s.data.toList j) := by have := HR2.out; rwa [show k + n = j by omega] at this
                    clear HN HJ HR2 hP
                    go_wp2
                    all_goals refine ⟨⟨j, rfl, by omega, HR3⟩, by simp [intOf]; omega⟩
                  · have hn := HJ.out
                    rw [HN.out, hP] at hn
                    simp only [if_true] at hn
                    have HJ2 : Hid (n = (j + 1 - k) + runLen bNoLine (s.data.toList.drop (j + 1))) := by show _ = _; omega
                    have h10 : (((s[j]).toNat : Int) != 10) = true := by simp [bNoLine] at hP; simp; omega
                    clear HN HJ hP hn
                    go_wp2
                    refine ⟨⟨j + 1, by go_num, by omega, by omega, HJ2⟩, by simp [intOf]; omega⟩
                · have hn := HJ.out
                  rw [List.drop_eq_nil_of_le (by omega)] at hn
                  simp only [runLen] at hn
                  have HR3 : Hid (GapAt G s.data.toList j) := by have := HR2.out; rwa [show k + n = j by omega] at this
                  clear HJ HR2
                  go_wp2
                  all_goals refine ⟨⟨j, rfl, by omega, HR3⟩, by simp [intOf]; omega⟩)
        · have h2 : Lib.hasPrefix (s.data.toList.drop k) [47, 47] = false := by
            rcases h : Lib.hasPrefix (s.data.toList.drop k) [47, 47] with _ | _
            · rfl
            · rw [pfx_take_eq, beq_iff_eq] at h h4
              rw [show ([47, 47] : List UInt8).length = ([47, 42] : List UInt8).length from rfl, h4] at h
              cases h
          rw [h2, h4] at hg
          simp only [h4] at cA
          simp only [Bool.false_eq_true, if_false, if_true, List.drop_drop] at hg
          have h2s : k + 2 ≤ s.size := by
            rw [pfx_take_eq, beq_iff_eq] at h4
            have := congrArg List.length h4
            simp at this; omega
          have HI : Hid (IdxAt _ _ _ _ _) := IdxAt.start s.data.toList [42, 47] (k + 2)
          have HG : Hid _ := hg
          generalize Lib.index (s.data.toList.drop (k + 2)) [42, 47] = I at HI HG
          clear hg hd hb cB h2 h4
          rcases hb2 with h9 | ⟨h9, h13⟩
          all_goals go_wp2_with (go_at_call 43; (refine (cA _).mono ?_; rintro e W' ⟨rfl, rfl⟩; clear cA))
          all_goals (
            go_loop [7] (fun v => ∃ j : Nat, v = .int .i64 j ∧ k + 2 ≤ j ∧ j ≤ s.size ∧ Hid (IdxAt I s.data.toList [42, 47] (k + 2) j)) (fun v => s.size - (intOf v).toNat)
            case atStart => exact ⟨k + 2, by go_num, Nat.le_refl _, h2s, HI⟩
            case round =>
              obtain ⟨j, rfl, hj0, hj1, HJ⟩ := hrel
              clear HI
              by_cases hjl : j < s.size
              · have cE := fun W => at_r s ⟨#[42, 47]⟩ j W (by omega) (by omega) (by decide)
                simp only at cE
                rcases hE : Lib.hasPrefix (s.data.toList.drop j) [42, 47] with _ | _
                · simp only [hE] at cE
                  have HJ2 : Hid (IdxAt _ _ _ _ _) := HJ.out.next (by omega) hE
                  clear HJ hE
                  go_wp2_with (go_at_call 43; (refine (cE _).mono ?_; rintro e W' ⟨rfl, rfl⟩; clear cE))
                  refine ⟨⟨j + 1, by go_num, by omega, by omega, HJ2⟩, by simp [intOf]; omega⟩
                · simp only [hE] at cE
                  have hI := HJ.out.found (by omega) hE
                  have hge : ¬ I < 0 := by omega
                  have hg := HG.out
                  rw [if_neg hge] at hg
                  have HR2 : Hid (GapAt G s.data.toList (j + 2)) := by
                    have h1 : k + (I.toNat + 4) = j + 2 := by omega
                    have := HR.out.next (j := I.toNat + 4) (by rw [List.drop_drop]; exact hg)
                    rwa [h1] at this
                  have hj2 : j + 2 ≤ s.size := by
                    rw [pfx_take_eq, beq_iff_eq] at hE
                    have := congrArg List.length hE
                    simp at this; omega
                  clear HJ hE hg HG HR
                  go_wp2_with (go_at_call 43; (refine (cE _).mono ?_; rintro e W' ⟨rfl, rfl⟩; clear cE))
                  refine ⟨⟨j + 2, by go_num, by omega, HR2⟩, by simp [intOf]; omega⟩
              · have hI := HJ.out.none (by omega)
                have hg := HG.out
                rw [if_pos (by omega)] at hg
                have hG := HR.out.stop hg
                subst hG
                clear HJ hg HG HR
                go_wp2
                go_ret2
                exact ⟨rfl, rfl⟩)
      · rw [hb] at hg
        simp only [if_true] at hg
        have HR2 : Hid (GapAt _ _ _) := HR.out.next (j := 1) (by rw [List.drop_drop]; exact hg)
        have hB : ((s[k]).toNat : Int) = 32 ∨ (¬ ((s[k]).toNat : Int) = 32 ∧ (9 : Int) ≤ (s[k]).toNat ∧ ((s[k]).toNat : Int) ≤ 13) := by
          simp [bBlank] at hb; omega
        clear hg hd HR cA cB hb
        rcases hB with h1 | ⟨h1, h2, h3⟩
        · go_wp2
          all_goals refine ⟨⟨k + 1, by go_num, by omega, HR2⟩, by simp [intOf]; omega⟩
        · have h1' : (((s[k]).toNat : Int) == 32) = false := by simpa using h1
          have h2' : decide ((9 : Int) ≤ (s[k]).toNat) = true := by simpa using h2
          have h3' : decide (((s[k]).toNat : Int) ≤ 13) = true := by simpa using h3
          go_wp2
          all_goals refine ⟨⟨k + 1, by go_num, by omega, HR2⟩, by simp [intOf]; omega⟩
    · have hke : k = s.size := by omega
      subst hke
      have hG := HR.out.stop (b := true) (by rw [List.drop_eq_nil_of_le (by omega)]; rfl)
      subst hG
      clear HR
      go_wp2
      go_ret2
      exact ⟨rfl, rfl⟩
end Go.Proofs.YtjbmpdcgmphhoaaGreatDoor
