/-
  What package token's skip answers: how many bytes of blanks and comments stand ahead of the next token, and whether a comment there has no end.
-/
import Derived.Test.YtjbmpdcgmphhoaaGreatDoorRead
import Derived.WalkMore
namespace Go.Proofs.YtjbmpdcgmphhoaaGreatDoor
open Go.RowKit
set_option linter.unusedVariables false

theorem index_room : ∀ (l sub : List UInt8), 0 ≤ Lib.index l sub → (Lib.index l sub).toNat + sub.length ≤ l.length
  | [], sub, h => by
    unfold Lib.index at h ⊢
    cases sub with
    | nil => simp
    | cons a b => simp at h
  | c :: l, sub, h => by
    have hge := Lib.index_ge l sub
    unfold Lib.index at h ⊢
    split
    · rename_i hp
      have : sub <+: c :: l := by simpa using hp
      simpa using this.length_le
    · rename_i hp
      rw [if_neg hp] at h
      split
      · rename_i h1; rw [if_pos h1] at h; simp at h
      · rename_i h1
        rw [if_neg h1] at h
        have h2 : Lib.index l sub ≠ -1 := by simpa using h1
        have := index_room l sub (by omega)
        simp only [List.length_cons]; omega

/-- How many bytes of blanks and comments stand ahead; and no comment is without its end. -/
def gapF : Nat → List UInt8 → Nat × Bool
  | 0, _ => (0, true)
  | _ + 1, [] => (0, true)
  | n + 1, c :: r =>
    if bBlank c.toNat then (1 + (gapF n r).1, (gapF n r).2)
    else if Lib.hasPrefix (c :: r) [47, 47] then (runLen bNoLine (c :: r) + (gapF n ((c :: r).drop (runLen bNoLine (c :: r)))).1, (gapF n ((c :: r).drop (runLen bNoLine (c :: r)))).2)
    else if Lib.hasPrefix (c :: r) [47, 42] then
      if Lib.index ((c :: r).drop 2) [42, 47] < 0 then (0, false)
      else ((Lib.index ((c :: r).drop 2) [42, 47]).toNat + 4 + (gapF n ((c :: r).drop ((Lib.index ((c :: r).drop 2) [42, 47]).toNat + 4))).1, (gapF n ((c :: r).drop ((Lib.index ((c :: r).drop 2) [42, 47]).toNat + 4))).2)
    else (0, true)

theorem line_pos {c : UInt8} {r : List UInt8} (h : Lib.hasPrefix (c :: r) [47, 47] = true) : 0 < runLen bNoLine (c :: r) := by
  simp [Lib.hasPrefix, List.isPrefixOf] at h
  rw [runLen, ← h.1]; simp [bNoLine]

theorem gapF_enough : ∀ (n m : Nat) (l : List UInt8), l.length < n → l.length < m → gapF n l = gapF m l
  | 0, _, _, h, _ => by omega
  | _, 0, _, _, h => by omega
  | n + 1, m + 1, [], _, _ => rfl
  | n + 1, m + 1, c :: r, h1, h2 => by
    simp only [List.length_cons] at h1 h2
    simp only [gapF]
    split
    · rw [gapF_enough n m r (by omega) (by omega)]
    split
    · rename_i h
      have := line_pos h
      rw [gapF_enough n m ((c :: r).drop (runLen bNoLine (c :: r))) (by rw [List.length_drop, List.length_cons]; omega) (by rw [List.length_drop, List.length_cons]; omega)]
    split
    · split
      · rfl
      · rw [gapF_enough n m ((c :: r).drop ((Lib.index ((c :: r).drop 2) [42, 47]).toNat + 4)) (by rw [List.length_drop, List.length_cons]; omega) (by rw [List.length_drop, List.length_cons]; omega)]
    · rfl
def gap (l : List UInt8) : Nat × Bool := gapF (l.length + 1) l
theorem gap_cons (c : UInt8) (r : List UInt8) : gap (c :: r) =
    if bBlank c.toNat then (1 + (gap r).1, (gap r).2)
    else if Lib.hasPrefix (c :: r) [47, 47] then (runLen bNoLine (c :: r) + (gap ((c :: r).drop (runLen bNoLine (c :: r)))).1, (gap ((c :: r).drop (runLen bNoLine (c :: r)))).2)
    else if Lib.hasPrefix (c :: r) [47, 42] then
      if Lib.index ((c :: r).drop 2) [42, 47] < 0 then (0, false)
      else ((Lib.index ((c :: r).drop 2) [42, 47]).toNat + 4 + (gap ((c :: r).drop ((Lib.index ((c :: r).drop 2) [42, 47]).toNat + 4))).1, (gap ((c :: r).drop ((Lib.index ((c :: r).drop 2) [42, 47]).toNat + 4))).2)
    else (0, true) := by
  show gapF ((c :: r).length + 1) (c :: r) = _
  simp only [gapF]
  split
  · simp only [gap]; rw [gapF_enough _ (r.length + 1) r (by simp) (by simp)]
  split
  · rename_i h
    have := line_pos h
    simp only [gap]; rw [gapF_enough _ (((c :: r).drop (runLen bNoLine (c :: r))).length + 1) ((c :: r).drop (runLen bNoLine (c :: r))) (by rw [List.length_drop, List.length_cons]; omega) (by omega)]
  split
  · split
    · rfl
    · simp only [gap]; rw [gapF_enough _ (((c :: r).drop ((Lib.index ((c :: r).drop 2) [42, 47]).toNat + 4)).length + 1) ((c :: r).drop ((Lib.index ((c :: r).drop 2) [42, 47]).toNat + 4)) (by rw [List.length_drop, List.length_cons]; omega) (by omega)]
  · rfl

def GapAt (G : Nat × Bool) (l : List UInt8) (k : Nat) : Prop := G = (k + (gap (l.drop k)).1, (gap (l.drop k)).2)

theorem GapAt.next {G : Nat × Bool} {l : List UInt8} {k j : Nat} (h : GapAt G l k) (hg : gap (l.drop k) = (j + (gap ((l.drop k).drop j)).1, (gap ((l.drop k).drop j)).2)) : GapAt G l (k + j) := by
  unfold GapAt at h ⊢; rw [h, hg, List.drop_drop]; simp only [Nat.add_assoc]
theorem GapAt.stop {G : Nat × Bool} {l : List UInt8} {k : Nat} {b : Bool} (h : GapAt G l k) (hg : gap (l.drop k) = (0, b)) : G = (k, b) := by
  unfold GapAt at h; rw [h, hg]; rfl

def SkipPost (G : Nat × Bool) (e : Ending) : Prop := e = .returned (.tuple #[.int .i64 G.1, .int .i64 (if G.2 then 0 else 25)])

set_option maxRecDepth 100000 in
set_option maxHeartbeats 1000000 in
theorem skip_c (s : ByteArray) (w : World) (mx : Int) (hs : s.size ≤ 65536) (hm : w.cell? ⟨0, 0, none⟩ = some (.int .i64 mx)) :
    Calls Tryz.prog 15 #[.string s] w fun e w' => SkipPost (gap s.data.toList) e ∧ w' = w := by
  have hS : GapAt (gap s.data.toList) s.data.toList 0 := by unfold GapAt; simp
  generalize gap s.data.toList = G at *
  have HS : Hid (GapAt _ _ _) := hS
  clear hS
  go_enter Tryz.func15, Tryz.ntmps15
  go_wp2
  go_step3
  go_wp2
  go_step3
  go_wp2
  go_loop [4] (fun i => ∃ k : Nat, i = .int .i64 k ∧ k ≤ s.size ∧ Hid (GapAt G s.data.toList k)) (fun i => s.size - (intOf i).toNat)
  case atStart => exact ⟨0, rfl, Nat.zero_le _, HS⟩
  case round =>
    obtain ⟨k, rfl, hk, HR⟩ := hrel
    clear HS
    by_cases hlt : k < s.size
    · have hd := drop_get s k hlt
      have hg := gap_cons s[k] (s.data.toList.drop (k + 1))
      rw [← hd] at hg
      have hLl : (s.extract k s.size).data.toList = s.data.toList.drop k := by rw [extract_list]; exact List.take_of_length_le (by simp)
      have hRs : (s.extract k s.size).size = s.size - k := by simp
      have hR0 : 0 < (s.extract k s.size).size := by omega
      have hr0 : (s.extract k s.size)[0] = s[k] := by
        have h1 := head_get hR0
        rw [hLl, hd] at h1; simpa using h1.symm
      have c1 := fun W => isBlank_c ((s.extract k s.size)[0]).toNat W (UInt8.toNat_lt _)
      have c2 := fun W => Tryz.strings_HasPrefix (s.extract k s.size) ⟨#[47, 47]⟩ W
      have c4 := fun W => Tryz.strings_HasPrefix (s.extract k s.size) ⟨#[47, 42]⟩ W
      have c3 := fun W => run_noLine (s.extract k s.size) W (by omega)
      simp only [hLl] at c2 c3 c4
      have hlenL : (s.data.toList.drop k).length = s.size - k := by simp
      rcases hb : bBlank (s[k]).toNat with _ | _
      · rw [hr0, hb] at c1
        rw [← hr0] at c1
        rw [hb] at hg
        simp only [Bool.false_eq_true, if_false] at hg
        rcases h2 : Lib.hasPrefix (s.data.toList.drop k) [47, 47] with _ | _
        · rw [h2] at hg
          simp only [h2] at c2
          simp only [Bool.false_eq_true, if_false] at hg
          rcases h4 : Lib.hasPrefix (s.data.toList.drop k) [47, 42] with _ | _
          · rw [h4] at hg
            simp only [h4] at c4
            simp only [Bool.false_eq_true, if_false] at hg
            have hG := HR.out.stop hg
            subst hG
            clear hg hd HR hLl hr0
            go_wp2_with (first | (go_at_call 30; refine (c1 _).mono ?_; rintro e W' ⟨rfl, rfl⟩) | (go_at_call 31; first | (refine (c2 _).mono ?_; rintro e W' ⟨rfl, rfl⟩) | (refine (c4 _).mono ?_; rintro e W' ⟨rfl, rfl⟩)))
            rw [Exit.noGoto_ret]
            go_ret2
            exact ⟨rfl, rfl⟩
          · rw [h4] at hg
            simp only [h4] at c4
            simp only [if_true] at hg
            have h2s := size_of_prefix (s := s.extract k s.size) (p := [47, 42]) (by rw [hLl]; exact h4)
            simp only [List.length_cons, List.length_nil] at h2s
            have c5 : Calls Tryz.prog 34 #[.string ((s.extract k s.size).extract 2 (s.size - k)), .string ⟨#[42, 47]⟩] w fun e w' => e = .returned (.int .i64 (Lib.index ((s.data.toList.drop k).drop 2) [42, 47])) ∧ w' = w := by
              have := Tryz.strings_Index ((s.extract k s.size).extract 2 (s.size - k)) ⟨#[42, 47]⟩ mx w (by simp; omega) hm
              have hx : ((s.extract k s.size).extract 2 (s.size - k)).data.toList = (s.data.toList.drop k).drop 2 := by
                rw [extract_list, hLl]; exact List.take_of_length_le (by simp; omega)
              rw [hx] at this; exact this
            have hroom := index_room ((s.data.toList.drop k).drop 2) [42, 47]
            have hge := Lib.index_ge ((s.data.toList.drop k).drop 2) [42, 47]
            simp only [List.length_drop, hlenL, List.length_cons, List.length_nil] at hroom
            have hl2 : ((s.data.toList.drop k).drop 2).length = s.size - k - 2 := by rw [List.length_drop, hlenL]
            clear hd hr0 c3
            by_cases hI : Lib.index ((s.data.toList.drop k).drop 2) [42, 47] < 0
            · rw [if_pos hI] at hg
              have hG := HR.out.stop hg
              subst hG
              clear hg HR hroom hLl hlenL hl2
              generalize Lib.index ((s.data.toList.drop k).drop 2) [42, 47] = I at *
              go_wp2_with (first | (go_at_call 30; refine (c1 _).mono ?_; rintro e W' ⟨rfl, rfl⟩) | (go_at_call 31; first | (refine (c2 _).mono ?_; rintro e W' ⟨rfl, rfl⟩) | (refine (c4 _).mono ?_; rintro e W' ⟨rfl, rfl⟩)) | (go_at_call 34; refine c5.mono ?_; rintro e W' ⟨rfl, rfl⟩))
              rw [Exit.noGoto_ret]
              go_ret2
              exact ⟨rfl, rfl⟩
            · rw [if_neg hI] at hg
              have HR2 : Hid (GapAt _ _ _) := HR.out.next hg
              have hi0 : 0 ≤ Lib.index ((s.data.toList.drop k).drop 2) [42, 47] := by omega
              have hr := hroom hi0
              clear hg HR hroom hLl hlenL hl2
              obtain ⟨i, hi⟩ := Int.eq_ofNat_of_zero_le hi0
              rw [hi] at hr c5 HR2
              simp only [Int.toNat_natCast] at hr HR2
              clear hi hi0 hI hge
              go_wp2_with (first | (go_at_call 30; refine (c1 _).mono ?_; rintro e W' ⟨rfl, rfl⟩) | (go_at_call 31; first | (refine (c2 _).mono ?_; rintro e W' ⟨rfl, rfl⟩) | (refine (c4 _).mono ?_; rintro e W' ⟨rfl, rfl⟩)) | (go_at_call 34; refine c5.mono ?_; rintro e W' ⟨rfl, rfl⟩))
              refine ⟨⟨k + (i + 4), by go_num, by omega, HR2⟩, by simp [intOf]; omega⟩
        · rw [h2] at hg
          simp only [h2] at c2
          simp only [if_true] at hg
          have HR2 : Hid (GapAt _ _ _) := HR.out.next hg
          have hle := runLen_le bNoLine (s.data.toList.drop k)
          have hpos : 0 < runLen bNoLine (s.data.toList.drop k) := by rw [hd] at h2 ⊢; exact line_pos h2
          rw [hlenL] at hle
          clear hg hd HR hLl hr0
          generalize runLen bNoLine (s.data.toList.drop k) = n at *
          go_wp2_with (first | (go_at_call 30; refine (c1 _).mono ?_; rintro e W' ⟨rfl, rfl⟩) | (go_at_call 31; (refine (c2 _).mono ?_; rintro e W' ⟨rfl, rfl⟩)) | (go_at_call 32; refine (c3 _).mono ?_; rintro e W' ⟨rfl, rfl⟩))
          refine ⟨⟨k + n, by go_num, by omega, HR2⟩, by simp [intOf]; omega⟩
      · rw [hr0, hb] at c1
        rw [← hr0] at c1
        rw [hb] at hg
        simp only [if_true] at hg
        rw [show s.data.toList.drop (k + 1) = (s.data.toList.drop k).drop 1 by rw [List.drop_drop]] at hg
        have HR2 : Hid (GapAt _ _ _) := HR.out.next hg
        clear hg hd HR hLl hr0
        go_wp2_with (go_at_call 30; refine (c1 _).mono ?_; rintro e W' ⟨rfl, rfl⟩)
        refine ⟨⟨k + 1, by go_num, by omega, HR2⟩, by simp [intOf]; omega⟩
    · have hg : gap (s.data.toList.drop k) = (0, true) := by
        rw [List.drop_eq_nil_of_le (by simp only [Array.length_toList]; show s.size ≤ k; omega)]; rfl
      have hG := HR.out.stop hg
      subst hG
      clear hg HR
      go_wp2
      try rw [Exit.noGoto_ret]
      go_ret2
      exact ⟨rfl, rfl⟩
end Go.Proofs.YtjbmpdcgmphhoaaGreatDoor
