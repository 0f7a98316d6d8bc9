/-
  How a text is cut into tokens, as a plain function on its bytes, and bounds on its steps.
-/
import Derived.Test.YtjbmpdcgmphhoaaGreatDoorSkip
import Derived.Test.YtjbmpdcgmphhoaaGreatDoorOnward
namespace Go.Proofs.YtjbmpdcgmphhoaaGreatDoor
open Go.RowKit
set_option linter.unusedVariables false

theorem gapF_le : ∀ (n : Nat) (l : List UInt8), (gapF n l).1 ≤ l.length
  | 0, _ => Nat.zero_le _
  | n + 1, [] => Nat.zero_le _
  | n + 1, c :: r => by
    simp only [gapF]
    split
    · have := gapF_le n r; simp only [List.length_cons]; omega
    split
    · have h1 := gapF_le n ((c :: r).drop (runLen bNoLine (c :: r)))
      have h2 := runLen_le bNoLine (c :: r)
      rw [List.length_drop] at h1; omega
    split
    · split
      · exact Nat.zero_le _
      · rename_i hp hI
        have h1 := gapF_le n ((c :: r).drop ((Lib.index ((c :: r).drop 2) [42, 47]).toNat + 4))
        have h2 := index_room ((c :: r).drop 2) [42, 47] (by omega)
        have h3 : 2 ≤ (c :: r).length := by
          have h4 : [47, 42] <+: c :: r := by simpa [Lib.hasPrefix] using hp
          simpa using h4.length_le
        rw [List.length_drop] at h1 h2
        simp only [List.length_cons, List.length_nil] at h1 h2 h3 ⊢
        omega
    · exact Nat.zero_le _
theorem gap_le (l : List UInt8) : (gap l).1 ≤ l.length := gapF_le _ l

theorem unqF_le : ∀ (n q : Nat) (l t : List UInt8) (m : Nat), unqF n q l = some (t, m) → m ≤ l.length
  | 0, _, _, _, _, h => by cases h
  | n + 1, q, [], _, _, h => by cases h
  | n + 1, q, c :: r, t, m, h => by
    simp only [unqF] at h
    split at h
    · simp only [Option.some.injEq, Prod.mk.injEq] at h; simp only [List.length_cons]; omega
    split at h
    · cases h
    split at h
    · rcases hE : escOf r with _ | ⟨b, k⟩
      · rw [hE] at h; cases h
      · rw [hE] at h
        have hk := (escOf_le hE).2
        simp only [Option.map_eq_some_iff] at h
        obtain ⟨⟨t', m'⟩, h1, h2⟩ := h
        have := unqF_le n q (r.drop k) t' m' h1
        rw [List.length_drop] at this
        simp only [Prod.mk.injEq] at h2
        simp only [List.length_cons]; omega
    · simp only [Option.map_eq_some_iff] at h
      obtain ⟨⟨t', m'⟩, h1, h2⟩ := h
      have := unqF_le n q r t' m' h1
      simp only [Prod.mk.injEq] at h2
      simp only [List.length_cons]; omega

theorem signOf_le (l : List UInt8) : (signOf l).length ≤ l.length := by
  unfold signOf
  rcases h : signs.find? (fun x => Lib.hasPrefix l x) with _ | x
  · simp
  · have h1 := List.find?_some h
    have h2 : x <+: l := by simpa [Lib.hasPrefix] using h1
    exact h2.length_le

theorem readT_le (l : List UInt8) : (readT l).2.1 ≤ l.length := by
  cases l with
  | nil => exact Nat.zero_le _
  | cons c r =>
    simp only [readT]
    split
    · split
      · exact Nat.zero_le _
      · exact runLen_le _ _
    split
    · split
      · exact runLen_le _ _
      · exact Nat.zero_le _
    split
    · rcases hu : unq c.toNat r with _ | ⟨t, m⟩
      · exact Nat.zero_le _
      · have hm := unqF_le _ _ _ _ _ hu
        simp only
        split
        · simp only [List.length_cons]; omega
        · split
          · simp only [List.length_cons]; omega
          · exact Nat.zero_le _
    split
    · exact Nat.zero_le _
    · exact signOf_le _

/-- A token with its spot. -/
structure Tok where
  tk : Tk
  line : Int
  col : Int
  off : Nat

/-- Why a text is refused, and where. -/
structure Flt where
  code : Nat
  line : Int
  col : Int
  off : Nat

def partL (L : List UInt8) (a b : Nat) : ByteArray := ⟨((L.drop a).take (b - a)).toArray⟩
theorem extract_part (s : ByteArray) (a b : Nat) : s.extract a b = partL s.data.toList a b := by
  unfold partL
  rw [← extract_list]

/-- The tokens of the text L from the place off on; done are read already; prev is the place of the spot that is known. -/
def scanF (L : List UInt8) : Nat → Nat → Int → Int → Nat → Nat → Except Flt (List Tok)
  | 0, _, _, _, _, _ => .error ⟨0, 0, 0, 0⟩
  | n + 1, done, line, col, prev, off =>
    if (gap (L.drop off)).2 = false then .error ⟨25, onLine line (partL L prev (off + (gap (L.drop off)).1)), onCol col (partL L prev (off + (gap (L.drop off)).1)), off + (gap (L.drop off)).1⟩
    else if (readT (L.drop (off + (gap (L.drop off)).1))).2.2 ≠ 0 then .error ⟨(readT (L.drop (off + (gap (L.drop off)).1))).2.2, onLine line (partL L prev (off + (gap (L.drop off)).1)), onCol col (partL L prev (off + (gap (L.drop off)).1)), off + (gap (L.drop off)).1⟩
    else if 0 < (readT (L.drop (off + (gap (L.drop off)).1))).2.1 ∧ done = 16384 then .error ⟨23, onLine line (partL L prev (off + (gap (L.drop off)).1)), onCol col (partL L prev (off + (gap (L.drop off)).1)), off + (gap (L.drop off)).1⟩
    else if (readT (L.drop (off + (gap (L.drop off)).1))).2.1 = 0 then .ok [⟨(readT (L.drop (off + (gap (L.drop off)).1))).1, onLine line (partL L prev (off + (gap (L.drop off)).1)), onCol col (partL L prev (off + (gap (L.drop off)).1)), off + (gap (L.drop off)).1⟩]
    else match scanF L n (done + 1) (onLine line (partL L prev (off + (gap (L.drop off)).1))) (onCol col (partL L prev (off + (gap (L.drop off)).1))) (off + (gap (L.drop off)).1) (off + (gap (L.drop off)).1 + (readT (L.drop (off + (gap (L.drop off)).1))).2.1) with
      | .error e => .error e
      | .ok r => .ok (⟨(readT (L.drop (off + (gap (L.drop off)).1))).1, onLine line (partL L prev (off + (gap (L.drop off)).1)), onCol col (partL L prev (off + (gap (L.drop off)).1)), off + (gap (L.drop off)).1⟩ :: r)

def scan (L : List UInt8) : Except Flt (List Tok) := if 65536 < L.length then .error ⟨24, 0, 0, 0⟩ else scanF L (L.length + 1) 0 1 1 0 0

/-- What heads asks of Scan, reckoned. -/
def headText : List UInt8 := [105, 110, 116, 32, 97, 91, 50, 93, 61, 123, 48, 120, 49, 102, 44, 39, 92, 110, 39, 125, 59, 32, 47, 47, 32, 120]
theorem head_scan : (match scan headText with
    | .error _ => false
    | .ok l => l.length == 13 && (l.map (·.tk.kind)) == [2, 1, 6, 3, 6, 6, 6, 3, 6, 4, 6, 6, 0] && (l.map (·.tk.num)) == [0, 0, 0, 2, 0, 0, 0, 31, 0, 10, 0, 0, 0]) = true := by decide +kernel
def headText2 : List UInt8 := [97, 10, 32, 48, 56]
theorem head_scan2 : (match scan headText2 with
    | .error f => f.code == 21 && f.off == 3 && f.line == 2 && f.col == 2
    | .ok l => false) = true := by decide +kernel
end Go.Proofs.YtjbmpdcgmphhoaaGreatDoor
