/-
  What package token's escaped and escape answer: the byte that an escape tells, and how many bytes it has.
-/
import Derived.Test.YtjbmpdcgmphhoaaGreatDoorRead1
import Derived.Deep.RegionWith
namespace Go.Proofs.YtjbmpdcgmphhoaaGreatDoor
open Go.RowKit
set_option linter.unusedVariables false

def escdOf (base size : Nat) (d : List UInt8) : Option (Nat × Nat) := if d.isEmpty || decide (255 < digVal base 255 0 d) then none else some (digVal base 255 0 d, size)
def escV : Option (Nat × Nat) → Value
  | none => .tuple #[.int .u8 0, .int .i64 0, .bool false]
  | some (b, n) => .tuple #[.int .u8 b, .int .i64 n, .bool true]

set_option maxRecDepth 100000 in
theorem escaped_c (base size : Nat) (s : ByteArray) (w : World) (hs : s.size ≤ 9223372036854775807) (hb : base ≤ 16) :
    Calls Tryz.prog 94 #[.string s, .int .i64 base, .int .i64 size] w fun e w' => e = .returned (escV (escdOf base size s.data.toList)) ∧ w' = w := by
  have cV : ∀ W : World, Calls Tryz.prog 80 #[.string s, .int .i64 base, .int .i64 255] W fun e w' => e = .returned (.int .i64 (digVal base 255 0 s.data.toList)) ∧ w' = W := fun W => value_c base 255 s W hs hb (by omega)
  unfold escdOf
  have hnil : s.toList.isEmpty = s.data.toList.isEmpty := by rw [ByteArray.toList_eq]
  have hni2 : (s.toList == []) = s.data.toList.isEmpty := by rw [ByteArray.toList_eq]; cases s.data.toList <;> rfl
  generalize digVal base 255 0 s.data.toList = v at *
  rcases hE : s.data.toList.isEmpty with _ | _
  · rw [hE] at hnil hni2
    by_cases hv : 255 < v
    · rw [show (false || decide (255 < v)) = true by simp [hv], if_pos rfl]
      go_enter Tryz.func94, Tryz.ntmps94
      go_wp2_with (go_at_call 80; refine (cV _).mono ?_; rintro e w' ⟨rfl, rfl⟩)
      go_ret3
      exact ⟨rfl, rfl⟩
    · rw [show (false || decide (255 < v)) = false by simp [hv], if_neg (by simp)]
      go_enter Tryz.func94, Tryz.ntmps94
      go_wp2_with (go_at_call 80; refine (cV _).mono ?_; rintro e w' ⟨rfl, rfl⟩)
      go_ret3
      exact ⟨rfl, rfl⟩
  · rw [hE] at hnil hni2
    rw [Bool.true_or, if_pos rfl]
    go_enter Tryz.func94, Tryz.ntmps94
    go_wp2_with (go_at_call 80; refine (cV _).mono ?_; rintro e w' ⟨rfl, rfl⟩)
    go_ret3
    exact ⟨rfl, rfl⟩

def escNames : List UInt8 := [97, 98, 102, 110, 114, 116, 118, 92, 39, 34, 63]
def escBytes : List UInt8 := [7, 8, 12, 10, 13, 9, 11, 92, 39, 34, 63]
/-- What stands behind a backslash: its byte, and how many bytes it has. -/
def escOf (l : List UInt8) : Option (Nat × Nat) :=
  match l with
  | [] => none
  | c :: r =>
    if 0 ≤ Lib.indexByte escNames c then some ((escBytes.getD (Lib.indexByte escNames c).toNat 0).toNat, 1)
    else if c.toNat = 120 then escdOf 16 (1 + runLen (bBase 16) r) (r.take (runLen (bBase 16) r))
    else escdOf 8 (runLen (bBase 8) (l.take 3)) (l.take (runLen (bBase 8) (l.take 3)))

theorem escByte_at : ∀ (i : Nat) (h : i < 11), ((ByteArray.mk #[7, 8, 12, 10, 13, 9, 11, 92, 39, 34, 63])[i]'h).toNat = (escBytes.getD i 0).toNat
  | 0, _ => rfl
  | 1, _ => rfl
  | 2, _ => rfl
  | 3, _ => rfl
  | 4, _ => rfl
  | 5, _ => rfl
  | 6, _ => rfl
  | 7, _ => rfl
  | 8, _ => rfl
  | 9, _ => rfl
  | 10, _ => rfl
  | n + 11, h => absurd h (by omega)

set_option maxRecDepth 100000 in
set_option maxHeartbeats 2000000 in
theorem escape_oct (s : ByteArray) (w : World) (hs : s.size ≤ 140737488355328) (h0' : 0 < s.size) (hx : ¬ (s[0]).toNat = 120) (hi' : Lib.indexByte escNames s[0] = -1) :
    Calls Tryz.prog 82 #[.string s] w fun e w' => e = .returned (escV (escOf s.data.toList)) ∧ Below w.heap.size w w' := by
  have hcons := drop_get s 0 h0'
  rw [List.drop_zero] at hcons
  have hne : (s.toList == []) = false := by rw [ByteArray.toList_eq, hcons]; rfl
  have hne2 : s.toList.isEmpty = false := by rw [ByteArray.toList_eq, hcons]; rfl
  have cI : ∀ W : World, Calls Tryz.prog 93 #[.string ⟨#[97, 98, 102, 110, 114, 116, 118, 92, 39, 34, 63]⟩, .int .u8 (s[0]).toNat] W fun e w' => e = .returned (.int .i64 (-1)) ∧ w' = W := fun W => by
    have := Tryz.strings_IndexByte ⟨#[97, 98, 102, 110, 114, 116, 118, 92, 39, 34, 63]⟩ ((s[0]).toNat) W
    have hc8 : (((s[0]).toNat : Int)).toNat.toUInt8 = s[0] := by simp
    rw [hc8, show Lib.indexByte (ByteArray.mk #[97, 98, 102, 110, 114, 116, 118, 92, 39, 34, 63]).data.toList s[0] = -1 from hi'] at this; exact this
  have hE : escOf s.data.toList = escdOf 8 (runLen (bBase 8) (s.data.toList.take 3)) (s.data.toList.take (runLen (bBase 8) (s.data.toList.take 3))) := by
    rw [hcons]; simp only [escOf, hi']; simp [hx]
  rw [hE]
  have cD : ∀ W : World, Calls Tryz.prog 78 #[.int .i64 8] W fun e w' => e = .returned (.func (.func 91) #[] #[.pointer (some ⟨W.heap.size, 0, none⟩)]) ∧ w' = W.alloc (.cells #[.int .i64 8] 3) := fun W => digitsOf_c 8 W
  have hn : runLen (bBase 8) (s.data.toList.take 3) ≤ s.size := by have := runLen_le (bBase 8) (s.data.toList.take 3); simp at this; omega
  have cE : ∀ W : World, Calls Tryz.prog 94 #[.string (s.extract 0 (runLen (bBase 8) (s.data.toList.take 3))), .int .i64 8, .int .i64 (runLen (bBase 8) (s.data.toList.take 3))] W fun e w' => e = .returned (escV (escdOf 8 (runLen (bBase 8) (s.data.toList.take 3)) (s.data.toList.take (runLen (bBase 8) (s.data.toList.take 3))))) ∧ w' = W := fun W => by
    have := escaped_c 8 (runLen (bBase 8) (s.data.toList.take 3)) (s.extract 0 (runLen (bBase 8) (s.data.toList.take 3))) W (by simp; omega) (by omega)
    rw [extract_list, List.drop_zero, Nat.sub_zero] at this; exact this
  have hl1 : (s.extract 0 (min 3 (s.size : Int)).toNat).data.toList = s.data.toList.take 3 := by
    rw [extract_list, List.drop_zero, Nat.sub_zero]
    by_cases h3 : 3 ≤ s.size
    · rw [show (min 3 (s.size : Int)).toNat = 3 by omega]
    · rw [show (min 3 (s.size : Int)).toNat = s.size by omega, List.take_of_length_le (by simp), List.take_of_length_le (by simp; omega)]
  have cR : ∀ (W : World) (B : Nat), W.cell? ⟨B, 0, none⟩ = some (.int .i64 8) → Calls Tryz.prog 32 #[.string (s.extract 0 (min 3 (s.size : Int)).toNat), .func (.func 91) #[] #[.pointer (some ⟨B, 0, none⟩)]] W fun e w' => e = .returned (.int .i64 (runLen (bBase 8) (s.data.toList.take 3))) ∧ ∃ q, w' = W.drewN q := fun W B hB => by
    have := run_ofBase 8 B (s.extract 0 (min 3 (s.size : Int)).toNat) W (by simp; omega) hB
    rw [hl1] at this; exact this
  generalize escdOf 8 (runLen (bBase 8) (s.data.toList.take 3)) (s.data.toList.take (runLen (bBase 8) (s.data.toList.take 3))) = R at *
  generalize runLen (bBase 8) (s.data.toList.take 3) = n at *
  have hx' : ¬ (((s[0]).toNat : Int) = 120) := by omega
  clear hE hl1 hcons hi'
  go_enter Tryz.func82, Tryz.ntmps82
  go_wp2_with (go_at_call 93; refine (cI _).mono ?_; rintro e w' ⟨rfl, rfl⟩)
  go_region_with (first | (go_at_call 78; refine (cD _).mono ?_; rintro e w' ⟨rfl, rfl⟩) | (go_at_call 32; refine (cR _ _ (by simp)).mono ?_; rintro e w' ⟨rfl, q, rfl⟩))
  all_goals rcases R with _ | ⟨b, k⟩
  all_goals simp only [escV] at cE ⊢
  all_goals go_wp2_with (go_at_call 94; refine (cE _).mono ?_; rintro e w' ⟨rfl, rfl⟩)
  all_goals go_ret3
  all_goals exact ⟨rfl, below_drewN ((Below.refl _ _).alloc (Nat.le_refl _) _) _⟩

set_option maxRecDepth 100000 in
set_option maxHeartbeats 1000000 in
theorem escape_c (s : ByteArray) (w : World) (hs : s.size ≤ 140737488355328) :
    Calls Tryz.prog 82 #[.string s] w fun e w' => e = .returned (escV (escOf s.data.toList)) ∧ Below w.heap.size w w' := by
  by_cases h0 : s.size = 0
  · have hl : s.data.toList = [] := by
      have : s.data.toList.length = 0 := by simpa using h0
      exact List.eq_nil_of_length_eq_zero this
    have hnil : s.toList = [] := by rw [ByteArray.toList_eq]; exact hl
    rw [hl]
    go_enter Tryz.func82, Tryz.ntmps82
    go_wp2
    go_ret3
    exact ⟨rfl, Below.refl _ _⟩
  have h0' : 0 < s.size := by omega
  have hcons := drop_get s 0 h0'
  rw [List.drop_zero] at hcons
  have hne : (s.toList == []) = false := by rw [ByteArray.toList_eq, hcons]; rfl
  have hne2 : s.toList.isEmpty = false := by rw [ByteArray.toList_eq, hcons]; rfl
  have cI : ∀ W : World, Calls Tryz.prog 93 #[.string ⟨#[97, 98, 102, 110, 114, 116, 118, 92, 39, 34, 63]⟩, .int .u8 (s[0]).toNat] W fun e w' => e = .returned (.int .i64 (Lib.indexByte escNames s[0])) ∧ w' = W := fun W => by
    have := Tryz.strings_IndexByte ⟨#[97, 98, 102, 110, 114, 116, 118, 92, 39, 34, 63]⟩ ((s[0]).toNat) W
    have hc8 : (((s[0]).toNat : Int)).toNat.toUInt8 = s[0] := by simp
    rw [hc8] at this; exact this
  by_cases hi : 0 ≤ Lib.indexByte escNames s[0]
  · obtain ⟨i, hi'⟩ := Int.eq_ofNat_of_zero_le hi
    have hlt : i < 11 := by
      have := (Lib.indexByte_some hi').1
      have := (List.getElem?_eq_some_iff.1 this).1
      simpa [escNames] using this
    have hE : escOf s.data.toList = some ((escBytes.getD i 0).toNat, 1) := by rw [hcons]; simp [escOf, hi']
    rw [hE]
    rw [hi'] at cI
    clear hi hi' hE hcons
    go_enter Tryz.func82, Tryz.ntmps82
    go_wp2_with (go_at_call 93; refine (cI _).mono ?_; rintro e w' ⟨rfl, rfl⟩)
    go_ret3
    exact ⟨congrArg (fun x : Nat => Ending.returned (.tuple #[.int .u8 x, .int .i64 1, .bool true])) (escByte_at i hlt), Below.refl _ _⟩
  · have hi' : Lib.indexByte escNames s[0] = -1 := by have := Lib.indexByte_ge escNames s[0]; omega
    rw [hi'] at cI
    by_cases hx : (s[0]).toNat = 120
    · have hE : escOf s.data.toList = escdOf 16 (1 + runLen (bBase 16) (s.data.toList.drop 1)) ((s.data.toList.drop 1).take (runLen (bBase 16) (s.data.toList.drop 1))) := by
        rw [hcons]; simp [escOf, hi', hx]
      rw [hE]
      have hl1 : (s.extract 1 s.size).data.toList = s.data.toList.drop 1 := by rw [extract_list]; exact List.take_of_length_le (by simp)
      have hn : runLen (bBase 16) (s.data.toList.drop 1) ≤ s.size - 1 := by have := runLen_le (bBase 16) (s.data.toList.drop 1); simpa using this
      have cD : ∀ W : World, Calls Tryz.prog 78 #[.int .i64 16] W fun e w' => e = .returned (.func (.func 91) #[] #[.pointer (some ⟨W.heap.size, 0, none⟩)]) ∧ w' = W.alloc (.cells #[.int .i64 16] 3) := fun W => digitsOf_c 16 W
      have cR : ∀ (W : World) (B : Nat), W.cell? ⟨B, 0, none⟩ = some (.int .i64 16) → Calls Tryz.prog 32 #[.string (s.extract 1 s.size), .func (.func 91) #[] #[.pointer (some ⟨B, 0, none⟩)]] W fun e w' => e = .returned (.int .i64 (runLen (bBase 16) (s.data.toList.drop 1))) ∧ ∃ q, w' = W.drewN q := fun W B hB => by
        have := run_ofBase 16 B (s.extract 1 s.size) W (by simp; omega) hB
        rw [hl1] at this; exact this
      have hl2 : (s.extract 1 (1 + runLen (bBase 16) (s.data.toList.drop 1))).data.toList = (s.data.toList.drop 1).take (runLen (bBase 16) (s.data.toList.drop 1)) := by
        rw [extract_list]; congr 1; omega
      have cE : ∀ W : World, Calls Tryz.prog 94 #[.string (s.extract 1 (1 + runLen (bBase 16) (s.data.toList.drop 1))), .int .i64 16, .int .i64 (1 + runLen (bBase 16) (s.data.toList.drop 1))] W fun e w' => e = .returned (escV (escdOf 16 (1 + runLen (bBase 16) (s.data.toList.drop 1)) ((s.data.toList.drop 1).take (runLen (bBase 16) (s.data.toList.drop 1))))) ∧ w' = W := fun W => by
        have := escaped_c 16 (1 + runLen (bBase 16) (s.data.toList.drop 1)) (s.extract 1 (1 + runLen (bBase 16) (s.data.toList.drop 1))) W (by simp; omega) (by omega)
        rw [hl2] at this
        have hcast : ((1 + runLen (bBase 16) (s.data.toList.drop 1) : Nat) : Int) = 1 + (runLen (bBase 16) (s.data.toList.drop 1) : Int) := by omega
        rw [hcast] at this; exact this
      generalize escdOf 16 (1 + runLen (bBase 16) (s.data.toList.drop 1)) ((s.data.toList.drop 1).take (runLen (bBase 16) (s.data.toList.drop 1))) = R at *
      generalize runLen (bBase 16) (s.data.toList.drop 1) = n at *
      clear hE hl1 hl2 hcons hi hi'
      have cI' : ∀ W : World, Calls Tryz.prog 93 #[.string ⟨#[97, 98, 102, 110, 114, 116, 118, 92, 39, 34, 63]⟩, .int .u8 120] W fun e w' => e = .returned (.int .i64 (-1)) ∧ w' = W := fun W => by
        have := cI W; rw [hx] at this; exact this
      clear cI
      have hn' : 1 + n ≤ s.size := by omega
      have hsl : ∀ W : World, (Instr.slice 9 (.string s) (some (.int .i64 1)) (some (.int .i64 (1 + (n : Int)))) none).run Tryz.prog W = .ok (.string (s.extract 1 (1 + n))) W := fun W => by
        have h := run_slice_string (P := Tryz.prog) W 9 s .i64 .i64 1 (1 + (n : Int)) Tryz.underlying9 (by omega) (by omega) (by omega)
        rw [show (1 + (n : Int)).toNat = 1 + n by omega] at h; exact h
      go_enter Tryz.func82, Tryz.ntmps82
      go_wp2_with (go_at_call 93; refine (cI' _).mono ?_; rintro e w' ⟨rfl, rfl⟩)
      go_region_with (first | (go_at_call 78; refine (cD _).mono ?_; rintro e w' ⟨rfl, rfl⟩) | (go_at_call 32; refine (cR _ _ (by simp)).mono ?_; rintro e w' ⟨rfl, q, rfl⟩))
      all_goals rcases R with _ | ⟨b, k⟩
      all_goals simp only [escV] at cE ⊢
      all_goals go_wp2_with (go_at_call 94; refine (cE _).mono ?_; rintro e w' ⟨rfl, rfl⟩)
      all_goals go_ret3
      all_goals exact ⟨rfl, below_drewN ((Below.refl _ _).alloc (Nat.le_refl _) _) _⟩
    · exact escape_oct s w hs h0' hx hi'
end Go.Proofs.YtjbmpdcgmphhoaaGreatDoor
