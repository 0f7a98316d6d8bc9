/-
  What stands between two quotes: the bytes that it tells, and how long it is; as a plain function, and its laws.
-/
import Derived.Test.YtjbmpdcgmphhoaaGreatDoorEsc
namespace Go.Proofs.YtjbmpdcgmphhoaaGreatDoor
open Go.RowKit
set_option linter.unusedVariables false

theorem escdOf_le {base size : Nat} {d : List UInt8} {b k : Nat} (h : escdOf base size d = some (b, k)) : b < 256 ∧ k = size := by
  unfold escdOf at h
  split at h
  · cases h
  · rename_i hc
    simp only [Option.some.injEq, Prod.mk.injEq] at h
    obtain ⟨rfl, rfl⟩ := h
    simp at hc
    exact ⟨by omega, rfl⟩
theorem escOf_le {l : List UInt8} {b k : Nat} (h : escOf l = some (b, k)) : b < 256 ∧ k ≤ l.length := by
  cases l with
  | nil => cases h
  | cons c r =>
    unfold escOf at h
    simp only at h
    split at h
    · simp only [Option.some.injEq, Prod.mk.injEq] at h
      obtain ⟨rfl, rfl⟩ := h
      exact ⟨UInt8.toNat_lt _, by simp⟩
    · split at h
      · have := escdOf_le h
        have h2 := runLen_le (bBase 16) r
        exact ⟨this.1, by simp; omega⟩
      · have := escdOf_le h
        have h2 := runLen_le (bBase 8) ((c :: r).take 3)
        simp only [List.length_take] at h2
        exact ⟨this.1, by omega⟩

def unqF : Nat → Nat → List UInt8 → Option (List UInt8 × Nat)
  | 0, _, _ => none
  | n + 1, q, [] => none
  | n + 1, q, c :: r =>
    if c.toNat = q then some ([], 1)
    else if c.toNat = 10 then none
    else if c.toNat = 92 then match escOf r with
      | none => none
      | some (b, k) => (unqF n q (r.drop k)).map fun x => (b.toUInt8 :: x.1, 1 + k + x.2)
    else (unqF n q r).map fun x => (c :: x.1, 1 + x.2)
theorem unqF_enough : ∀ (n : Nat) (m : Nat) (q : Nat) (l : List UInt8), l.length < n → l.length < m → unqF n q l = unqF m q l
  | 0, _, _, _, h, _ => by omega
  | _, 0, _, _, _, h => by omega
  | n + 1, m + 1, q, [], _, _ => rfl
  | n + 1, m + 1, q, c :: r, h1, h2 => by
    simp only [List.length_cons] at h1 h2
    simp only [unqF]
    split
    · rfl
    split
    · rfl
    split
    · cases escOf r with
      | none => rfl
      | some x => simp only [unqF_enough n m q (r.drop x.2) (by simp; omega) (by simp; omega)]
    · simp only [unqF_enough n m q r (by omega) (by omega)]
/-- What stands from behind a quote q on: the bytes up to the next q, and how many bytes that is with the q. -/
def unq (q : Nat) (l : List UInt8) : Option (List UInt8 × Nat) := unqF (l.length + 1) q l
theorem unq_nil (q : Nat) : unq q [] = none := rfl
theorem unq_cons (q : Nat) (c : UInt8) (r : List UInt8) : unq q (c :: r) =
    if c.toNat = q then some ([], 1)
    else if c.toNat = 10 then none
    else if c.toNat = 92 then match escOf r with
      | none => none
      | some (b, k) => (unq q (r.drop k)).map fun x => (b.toUInt8 :: x.1, 1 + k + x.2)
    else (unq q r).map fun x => (c :: x.1, 1 + x.2) := by
  show unqF ((c :: r).length + 1) q (c :: r) = _
  simp only [unqF]
  split
  · rfl
  split
  · rfl
  split
  · cases hE : escOf r with
    | none => rfl
    | some x => simp only [unq]; rw [unqF_enough _ ((r.drop x.2).length + 1) q (r.drop x.2) (by simp; omega) (by simp)]
  · simp only [unq]; rw [unqF_enough _ (r.length + 1) q r (by simp) (by simp)]

/-- The same, from a place on, behind bytes that are read already. -/
def unqFrom (q : Nat) (l : List UInt8) (t : List UInt8) (k : Nat) : Option (List UInt8 × Nat) := (unq q (l.drop k)).map fun x => (t ++ x.1, k + x.2)

def byteVals (t : List UInt8) : List Value := t.map fun c => .int .u8 c.toNat

theorem own_below {w w' : World} {B e size n : Nat} {v : Value} {xs : List Value} (h : w.ownsRow B e size v n xs) (hb : Below w.heap.size w w') : w'.ownsRow B e size v n xs := by
  obtain ⟨hl, h⟩ := h
  refine ⟨hl, ?_⟩
  rcases h with h | ⟨g, cap, cur, h1, h2, h3, h4⟩
  · exact .inl h
  · refine .inr ⟨g, cap, cur, h1, h2, ?_, h4⟩
    rw [hb.block g (Array.getElem?_eq_some_iff.1 h3).1]; exact h3
end Go.Proofs.YtjbmpdcgmphhoaaGreatDoor
