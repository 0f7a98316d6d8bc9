/-
  What package token's read answers: the token with which a text begins, how many bytes it has, or what is wrong with it.
-/
import Derived.Test.YtjbmpdcgmphhoaaGreatDoorQuoted
import Derived.Test.YtjbmpdcgmphhoaaGreatDoorSign
namespace Go.Proofs.YtjbmpdcgmphhoaaGreatDoor
open Go.RowKit
set_option linter.unusedVariables false

/-- A token without its spot, as plain data. -/
structure Tk where
  kind : Int
  text : List UInt8
  num : Int

def Tk.no : Tk := ⟨0, [], 0⟩
/-- The token with which a text begins, how many bytes it has, and what is wrong with it. -/
def readT (l : List UInt8) : Tk × Nat × Nat :=
  match l with
  | [] => (Tk.no, 0, 0)
  | c :: r =>
    if bLetter c.toNat then (if 63 < runLen bName (c :: r) then (Tk.no, 0, 22) else (⟨if isWord (nameOf (c :: r)) then 2 else 1, nameOf (c :: r), 0⟩, runLen bName (c :: r), 0))
    else if bDigit c.toNat < 10 then (if numOk (nameOf (c :: r)) then (⟨3, numKind (nameOf (c :: r)), numVal (nameOf (c :: r))⟩, runLen bName (c :: r), 0) else (Tk.no, 0, 21))
    else if c.toNat = 39 ∨ c.toNat = 34 then
      match unq c.toNat r with
      | none => (Tk.no, 0, 26)
      | some (t, m) => if c.toNat = 34 then (⟨5, t, 0⟩, 1 + m, 0) else match t with
        | [b] => (⟨4, [], sbyte b⟩, 1 + m, 0)
        | _ => (Tk.no, 0, 26)
    else if (signOf (c :: r)).isEmpty then (Tk.no, 0, 20) else (⟨6, signOf (c :: r), 0⟩, (signOf (c :: r)).length, 0)

def readVal (x : Tk × Nat × Nat) : Value := .tuple #[tokV x.1.kind ⟨x.1.text.toArray⟩ x.1.num, .int .i64 x.2.1, .int .i64 x.2.2]

theorem extract0 (s : ByteArray) (n : Nat) : s.extract 0 n = ⟨(s.data.toList.take n).toArray⟩ := by
  have h := extract_list s 0 n
  rw [List.drop_zero, Nat.sub_zero] at h
  rw [← h]

set_option maxRecDepth 100000 in
set_option maxHeartbeats 4000000 in
theorem read_c (s : ByteArray) (w : World) (hs : s.size ≤ 140737488355327) :
    Calls Tryz.prog 17 #[.string s] w fun e w' => e = .returned (readVal (readT s.data.toList)) ∧ Below w.heap.size w w' := by
  by_cases h0 : s.size = 0
  · have hl : s.data.toList = [] := by
      have : s.data.toList.length = 0 := by simpa using h0
      exact List.eq_nil_of_length_eq_zero this
    have hnil : s.toList = [] := by rw [ByteArray.toList_eq]; exact hl
    rw [hl]
    go_enter Tryz.func17, Tryz.ntmps17
    go_wp2
    exact ret_tok rfl rfl (heap_in0 _ _) rfl ⟨rfl, (Below.refl _ _).alloc (Nat.le_refl _) _⟩
  have h0' : 0 < s.size := by omega
  have hcons := drop_get s 0 h0'
  rw [List.drop_zero] at hcons
  have hne : (s.toList == []) = false := by rw [ByteArray.toList_eq, hcons]; rfl
  have hne2 : s.toList.isEmpty = false := by rw [ByteArray.toList_eq, hcons]; rfl
  have h256 : (s[0]).toNat < 256 := (s[0]).toNat_lt
  have cL := fun W => isLetter_c (s[0]).toNat W h256
  have cDg := fun W => digit_c (s[0]).toNat W h256
  rcases hL : bLetter (s[0]).toNat with _ | _
  · rw [hL] at cL
    by_cases hD : bDigit (s[0]).toNat < 10
    · have hD' : (bDigit (s[0]).toNat : Int) < 10 := by omega
      have hrun : 0 < runLen bName s.data.toList := by
        rw [hcons, runLen, if_pos (by simp [bName, hD])]; omega
      obtain ⟨k, t, n, x, y, hV, hT⟩ : ∃ k t n x y, (if numOk (nameOf s.data.toList) then Value.tuple #[tokV 3 ⟨(numKind (nameOf s.data.toList)).toArray⟩ (numVal (nameOf s.data.toList)), .int .i64 (runLen bName s.data.toList), .int .i64 0]
          else .tuple #[noTok, .int .i64 0, .int .i64 21]) = .tuple #[tokV k t n, .int .i64 x, .int .i64 y] ∧ readVal (readT s.data.toList) = .tuple #[tokV k t n, .int .i64 x, .int .i64 y] := by
        have hr : readT s.data.toList = if numOk (nameOf s.data.toList) then (⟨3, numKind (nameOf s.data.toList), numVal (nameOf s.data.toList)⟩, runLen bName s.data.toList, 0) else (Tk.no, 0, 21) := by
          rw [hcons]; simp only [readT, hL, hD, if_true, Bool.false_eq_true, if_false]
        rw [hr]
        split
        · exact ⟨_, _, _, _, _, rfl, rfl⟩
        · exact ⟨_, _, _, _, _, rfl, rfl⟩
      have cN := fun W => readNumber_c s W (by omega) hrun
      rw [hV] at cN
      rw [hT]
      clear hV hT
      unfold tokV at cN ⊢
      go_enter Tryz.func17, Tryz.ntmps17
      go_wp2_with (first | (go_at_call 37; refine (cL _).mono ?_; rintro e w' ⟨rfl, rfl⟩) | (go_at_call 39; refine (cDg _).mono ?_; rintro e w' ⟨rfl, rfl⟩) | (go_at_call 40; refine (cN _).mono ?_; rintro e w' ⟨rfl, hb⟩; have hold := (hb.block w.heap.size (by simp)).trans (heap_in0 _ _); have HB : Hid (Below _ _ w') := hb; clear hb) | ((with_reducible apply step_store hold); rfl; rfl; kernel_rfl; rfl; kernel_rfl))
      refine ret_tok ?_ ?_ (setRow_heap _ _ _ _ _ _ hold) ?_ ?_; rfl; rfl; rfl; exact ⟨rfl, below_setRow (below_step (Below.refl _ w) ((Below.refl _ _).alloc (Nat.le_refl _) _) HB.out) (Nat.le_refl _) _⟩
    · have hD' : ¬ ((bDigit (s[0]).toNat : Int) < 10) := by omega
      have hr1 : readT s.data.toList = if (s[0]).toNat = 39 ∨ (s[0]).toNat = 34 then
          match unq (s[0]).toNat (s.data.toList.drop 1) with
          | none => (Tk.no, 0, 26)
          | some (t, m) => if (s[0]).toNat = 34 then (⟨5, t, 0⟩, 1 + m, 0) else match t with
            | [b] => (⟨4, [], sbyte b⟩, 1 + m, 0)
            | _ => (Tk.no, 0, 26)
        else if (signOf s.data.toList).isEmpty then (Tk.no, 0, 20) else (⟨6, signOf s.data.toList, 0⟩, (signOf s.data.toList).length, 0) := by
        rw [hcons]; simp only [readT, hL, hD, Bool.false_eq_true, if_false, List.drop_succ_cons, List.drop_zero]; try rfl
      by_cases hQ : (s[0]).toNat = 39 ∨ (s[0]).toNat = 34
      · rw [if_pos hQ] at hr1
        have cQ := fun W => readQuoted_c s W hs h0'
        obtain ⟨k, t, n, x, y, hV, hT⟩ : ∃ k t n x y, quotedV (s[0]).toNat (unq (s[0]).toNat (s.data.toList.drop 1)) = .tuple #[tokV k t n, .int .i64 x, .int .i64 y] ∧ readVal (readT s.data.toList) = .tuple #[tokV k t n, .int .i64 x, .int .i64 y] := by
          rw [hr1]
          rcases unq (s[0]).toNat (s.data.toList.drop 1) with _ | ⟨t, m⟩
          · exact ⟨_, _, _, _, _, rfl, rfl⟩
          · by_cases h34 : (s[0]).toNat = 34
            · simp only [quotedV, h34, if_true]; exact ⟨_, _, _, _, _, rfl, by simp [readVal]⟩
            · simp only [quotedV, h34, if_false]
              rcases t with _ | ⟨c, _ | ⟨d, r⟩⟩
              · exact ⟨_, _, _, _, _, rfl, rfl⟩
              · exact ⟨_, _, _, _, _, rfl, by simp [readVal]⟩
              · exact ⟨_, _, _, _, _, rfl, rfl⟩
        rw [hV] at cQ
        rw [hT]
        clear hV hT hr1 hcons
        unfold tokV at cQ ⊢
        have hQ' : ((s[0]).toNat : Int) = 39 ∨ ((s[0]).toNat : Int) = 34 := by omega
        clear hQ
        go_enter Tryz.func17, Tryz.ntmps17
        go_wp2_with (first | (go_at_call 37; refine (cL _).mono ?_; rintro e w' ⟨rfl, rfl⟩) | (go_at_call 39; refine (cDg _).mono ?_; rintro e w' ⟨rfl, rfl⟩) | (go_at_call 41; refine (cQ _).mono ?_; rintro e w' ⟨rfl, hb⟩; have hold := (hb.block w.heap.size (by simp)).trans (heap_in0 _ _); have HB : Hid (Below _ _ w') := hb; clear hb) | ((with_reducible apply step_store hold); rfl; rfl; kernel_rfl; rfl; kernel_rfl))
        all_goals first | (exfalso; simp only [beq_eq_false_iff_ne, ne_eq, beq_iff_eq] at *; omega) | (refine ret_tok ?_ ?_ (setRow_heap _ _ _ _ _ _ hold) ?_ ?_; rfl; rfl; rfl; exact ⟨rfl, below_setRow (below_step (Below.refl _ w) ((Below.refl _ _).alloc (Nat.le_refl _) _) HB.out) (Nat.le_refl _) _⟩)
      · rw [if_neg hQ] at hr1
        have hQ1 : ¬ (((s[0]).toNat : Int) = 39) := by omega
        have hQ2 : ¬ (((s[0]).toNat : Int) = 34) := by omega
        have cS := fun W => sign_c s W
        rw [hr1]
        clear hr1 hcons hQ
        have hl : (ByteArray.mk (signOf s.data.toList).toArray).toList = signOf s.data.toList := ByteArray.toList_mk _
        generalize signOf s.data.toList = g at *
        rcases hE : g.isEmpty with _ | _
        · have hE2 : (g == []) = false := by cases g with | nil => cases hE | cons => rfl
          simp only [Bool.false_eq_true, if_false]
          go_enter Tryz.func17, Tryz.ntmps17
          go_wp2_with (first | (go_at_call 37; refine (cL _).mono ?_; rintro e w' ⟨rfl, rfl⟩) | (go_at_call 39; refine (cDg _).mono ?_; rintro e w' ⟨rfl, rfl⟩) | (go_at_call 42; refine (cS _).mono ?_; rintro e w' ⟨rfl, hb⟩; have hold := (hb.block w.heap.size (by simp)).trans (heap_in0 _ _); have HB : Hid (Below _ _ w') := hb; clear hb) | ((with_reducible apply step_store hold); rfl; rfl; kernel_rfl; rfl; kernel_rfl))
          all_goals first | (exfalso; simp only [beq_eq_false_iff_ne, ne_eq, beq_iff_eq] at *; omega) | (refine ret_tok ?_ ?_ (setRow_heap _ _ _ _ _ _ hold) ?_ ?_; rfl; rfl; rfl; exact ⟨rfl, below_setRow (below_step (Below.refl _ w) ((Below.refl _ _).alloc (Nat.le_refl _) _) HB.out) (Nat.le_refl _) _⟩)
        · have hg : g = [] := by cases g with | nil => rfl | cons => cases hE
          subst hg
          simp only [if_true]
          go_enter Tryz.func17, Tryz.ntmps17
          go_wp2_with (first | (go_at_call 37; refine (cL _).mono ?_; rintro e w' ⟨rfl, rfl⟩) | (go_at_call 39; refine (cDg _).mono ?_; rintro e w' ⟨rfl, rfl⟩) | (go_at_call 42; refine (cS _).mono ?_; rintro e w' ⟨rfl, hb⟩; have hold := (hb.block w.heap.size (by simp)).trans (heap_in0 _ _); have HB : Hid (Below _ _ w') := hb; clear hb) | ((with_reducible apply step_store hold); rfl; rfl; kernel_rfl; rfl; kernel_rfl))
          all_goals first | (exfalso; simp only [beq_eq_false_iff_ne, ne_eq, beq_iff_eq] at *; omega) | (refine ret_tok ?_ ?_ (setRow_heap _ _ _ _ _ _ hold) ?_ ?_; rfl; rfl; rfl; exact ⟨rfl, below_setRow (below_step (Below.refl _ w) ((Below.refl _ _).alloc (Nat.le_refl _) _) HB.out) (Nat.le_refl _) _⟩)
  · rw [hL] at cL
    obtain ⟨k, t, n, x, y, hV, hT⟩ : ∃ k t n x y, (if 63 < runLen bName s.data.toList then Value.tuple #[noTok, .int .i64 0, .int .i64 22]
      else .tuple #[tokV (if isWord (s.data.toList.take (runLen bName s.data.toList)) then 2 else 1) (s.extract 0 (runLen bName s.data.toList)) 0, .int .i64 (runLen bName s.data.toList), .int .i64 0]) = .tuple #[tokV k t n, .int .i64 x, .int .i64 y] ∧ readVal (readT s.data.toList) = .tuple #[tokV k t n, .int .i64 x, .int .i64 y] := by
      have hr : readT s.data.toList = if 63 < runLen bName s.data.toList then (Tk.no, 0, 22) else (⟨if isWord (nameOf s.data.toList) then 2 else 1, nameOf s.data.toList, 0⟩, runLen bName s.data.toList, 0) := by
        rw [hcons]; simp only [readT, hL, if_true]
      rw [hr]
      split
      · exact ⟨_, _, _, _, _, rfl, rfl⟩
      · exact ⟨_, _, _, _, _, rfl, by rw [extract0]; rfl⟩
    have cN := fun W => readName_c s W (by omega)
    rw [hV] at cN
    rw [hT]
    clear hV hT
    unfold tokV at cN ⊢
    go_enter Tryz.func17, Tryz.ntmps17
    go_wp2_with (first | (go_at_call 37; refine (cL _).mono ?_; rintro e w' ⟨rfl, rfl⟩) | (go_at_call 38; refine (cN _).mono ?_; rintro e w' ⟨rfl, hb⟩; have hold := (hb.block w.heap.size (by simp)).trans (heap_in0 _ _); have HB : Hid (Below _ _ w') := hb; clear hb) | ((with_reducible apply step_store hold); rfl; rfl; kernel_rfl; rfl; kernel_rfl))
    refine ret_tok ?_ ?_ (setRow_heap _ _ _ _ _ _ hold) ?_ ?_; rfl; rfl; rfl; exact ⟨rfl, below_setRow (below_step (Below.refl _ w) ((Below.refl _ _).alloc (Nat.le_refl _) _) HB.out) (Nat.le_refl _) _⟩
end Go.Proofs.YtjbmpdcgmphhoaaGreatDoor
