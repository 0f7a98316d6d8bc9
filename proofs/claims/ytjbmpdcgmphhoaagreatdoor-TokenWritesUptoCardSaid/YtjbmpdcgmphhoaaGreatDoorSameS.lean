/-
  Slices of tokens in memory; what the statements' Same answers of them.
-/
import Derived.Test.YtjbmpdcgmphhoaaGreatDoorJoin
import Derived.Test.YtjbmpdcgmphhoaaGreatDoorScan
import Derived.BigQuiet
namespace Go.Proofs.YtjbmpdcgmphhoaaGreatDoor
open Go.RowKit
set_option linter.unusedVariables false

/-- The value v is a slice that holds the tokens xs. -/
def TokSl (w : World) (v : Value) (xs : List RTok) : Prop :=
  (v = .slice none 0 0 ∧ xs = []) ∨ ∃ g cap, v = .slice (some ⟨g, 0, none⟩) xs.length cap ∧ rowsAt w g xs ∧ g < w.heap.size ∧ xs.length ≤ cap
theorem TokSl.below {w w' : World} {v : Value} {xs : List RTok} (h : TokSl w v xs) (hb : Below w.heap.size w w') : TokSl w' v xs := by
  rcases h with h | ⟨g, cap, h1, h2, h3, h4⟩
  · exact .inl h
  · exact .inr ⟨g, cap, h1, h2.below hb h3, Nat.lt_of_lt_of_le h3 hb.size, h4⟩
theorem TokSl.alloc {w : World} {v : Value} {xs : List RTok} (h : TokSl w v xs) (o : Obj) : TokSl (w.alloc o) v xs := h.below ((Below.refl _ w).alloc (Nat.le_refl _) _)

/-- The value v is a slice, from whatever place of its block on, that holds the tokens xs. -/
def TokIn (w : World) (v : Value) (xs : List RTok) : Prop :=
  (∃ a cap, v = .slice a 0 cap ∧ xs = []) ∨ ∃ g o cap, v = .slice (some ⟨g, o, none⟩) xs.length cap ∧ rowsAtO w g o xs ∧ g < w.heap.size ∧ xs.length ≤ cap
theorem TokIn.below {w w' : World} {v : Value} {xs : List RTok} (h : TokIn w v xs) (hb : Below w.heap.size w w') : TokIn w' v xs := by
  rcases h with h | ⟨g, o, cap, h1, h2, h3, h4⟩
  · exact .inl h
  · exact .inr ⟨g, o, cap, h1, h2.below hb h3, Nat.lt_of_lt_of_le h3 hb.size, h4⟩
theorem TokSl.isIn {w : World} {v : Value} {xs : List RTok} (h : TokSl w v xs) : TokIn w v xs := by
  rcases h with h | ⟨g, cap, h1, h2, h3, h4⟩
  · exact .inl ⟨none, 0, h.1, h.2⟩
  · exact .inr ⟨g, 0, cap, h1, h2.at0, h3, h4⟩

theorem rflat_get : ∀ (l : List RTok) (j i : Nat), i < 6 → (l.flatMap RTok.cells)[j * 6 + i]? = (l[j]?).bind fun t => (RTok.cells t)[i]?
  | [], j, i, _ => by simp
  | t :: r, 0, i, h => by
    rw [List.flatMap_cons, Nat.zero_mul, Nat.zero_add, List.getElem?_append_left (by simpa [RTok.cells] using h)]; rfl
  | t :: r, j + 1, i, h => by
    rw [List.flatMap_cons, List.getElem?_append_right (by simp [RTok.cells]; omega), List.getElem?_cons_succ, ← rflat_get r j i h]
    congr 1
    simp [RTok.cells]; omega

theorem rflat_len (l : List RTok) : (l.flatMap RTok.cells).length = l.length * 6 := by
  induction l with
  | nil => rfl
  | cons t r ih => rw [List.flatMap_cons, List.length_append, ih]; simp [RTok.cells]; omega

theorem own_tokSl {w : World} {B : Nat} {v : Value} {xs : List RTok} (h : w.ownsRow B 35 6 v xs.length (xs.flatMap RTok.cells)) : TokSl w v xs := by
  rcases h.2 with ⟨rfl, h0⟩ | ⟨g, cap, cur, rfl, hg, hcur, hcap, _, hsz, htake⟩
  · exact .inl ⟨rfl, List.length_eq_zero_iff.1 h0⟩
  · refine .inr ⟨g, cap, rfl, ?_, ?_, hcap⟩
    · intro j x hj i u hu
      have hi6 : i < 6 := by
        have := (List.getElem?_eq_some_iff.1 hu).1
        simpa [RTok.cells] using this
      have hjl : j < xs.length := (List.getElem?_eq_some_iff.1 hj).1
      have h1 := rflat_get xs j i hi6
      rw [hj] at h1
      simp only [Option.bind_some] at h1
      rw [hu, ← htake, List.getElem?_take_of_lt (by omega)] at h1
      simp only [World.cell?, hcur]
      simpa using h1
    · rcases Nat.lt_or_ge g w.heap.size with h' | h'
      · exact h'
      · simp [Array.getElem?_eq_none h'] at hcur

def Tok.r (t : Tok) : RTok := ⟨t.tk.kind, ⟨t.tk.text.toArray⟩, t.tk.num, t.line, t.col, t.off⟩
theorem tokCells_r (t : Tok) : tokCells t = t.r.cells := rfl
theorem scan_tokSl {w : World} {B : Nat} {v : Value} {l : List Tok} (h : w.ownsRow B 35 6 v l.length (l.flatMap tokCells)) : TokSl w v (l.map Tok.r) := by
  refine own_tokSl (B := B) ?_
  rw [List.length_map, List.flatMap_map]
  exact h

theorem tok_range {w : World} {g o k : Nat} {x : RTok} (h : w.rangeAt g (o + k * 6) x.cells) : w.cell? ⟨g, o + k * 6, none⟩ = some (.int .i64 x.k) ∧ w.cell? ⟨g, o + k * 6 + 1, none⟩ = some (.string x.s) ∧ w.cell? ⟨g, o + k * 6 + 2, none⟩ = some (.int .i64 x.n) ∧ w.cell? ⟨g, o + k * 6 + 3, none⟩ = some (.int .i64 x.a) ∧ w.cell? ⟨g, o + k * 6 + 4, none⟩ = some (.int .i64 x.b) ∧ w.cell? ⟨g, o + k * 6 + 5, none⟩ = some (.int .i64 x.c) :=
  ⟨h 0 _ rfl, h 1 _ rfl, h 2 _ rfl, h 3 _ rfl, h 4 _ rfl, h 5 _ rfl⟩

set_option maxRecDepth 100000 in
set_option maxHeartbeats 4000000 in
theorem same_o (va vb : Value) (xs : List RTok) (w : World) (ha : TokIn w va xs) (hb : TokIn w vb xs) (hN : xs.length ≤ 9223372036854775807) :
    Calls Tryz.prog 7 #[va, vb] w fun e w' => e = .returned (.bool true) ∧ ∃ q, w' = w.drewN q := by
  have hlen : ∀ {v : Value}, TokIn w v xs → ∃ a cap, v = .slice a xs.length cap ∧ (∀ k x, xs[k]? = some x → ∃ g o, a = some ⟨g, o, none⟩ ∧ w.rangeAt g (o + k * 6) x.cells ∧ xs.length ≤ cap) := by
    intro v h
    rcases h with ⟨a, cap, rfl, rfl⟩ | ⟨g, o, cap, rfl, h2, h3, h4⟩
    · exact ⟨a, cap, rfl, fun k x h => by simp at h⟩
    · exact ⟨_, cap, rfl, fun k x h => ⟨g, o, rfl, h2 k x h, h4⟩⟩
  obtain ⟨aa, capa, rfl, hra⟩ := hlen ha
  obtain ⟨ab, capb, rfl, hrb⟩ := hlen hb
  have HRA : Hid _ := hra
  have HRB : Hid _ := hrb
  clear hlen ha hb hra hrb
  go_enter Tryz.func7, Tryz.ntmps7
  go_wp2
  go_loopw [5] (fun i wr => ∃ (k q : Nat), k ≤ xs.length ∧ i = .int .i64 k ∧ wr = w.drewN q) (fun i _ => xs.length - (intOf i).toNat)
  case atStart => exact ⟨0, 0, Nat.zero_le _, rfl, rfl⟩
  case round =>
    obtain ⟨k, q, hk, rfl, rfl⟩ := hrel
    by_cases hlt : k < xs.length
    · obtain ⟨x, hx⟩ : ∃ x, xs[k]? = some x := ⟨xs[k], List.getElem?_eq_getElem hlt⟩
      obtain ⟨ga, oa, rfl, ra, hca⟩ := HRA.out k x hx
      obtain ⟨gb, ob, rfl, rb, hcb⟩ := HRB.out k x hx
      obtain ⟨a0, a1, a2, a3, a4, a5⟩ := tok_range ra
      obtain ⟨b0, b1, b2, b3, b4, b5⟩ := tok_range rb
      clear ra rb HRA HRB
      go_wp2
      go_quiet (fail)
      go_wp2
      refine ⟨⟨k + 1, _, by omega, by go_num, rfl⟩, by simp [intOf]; omega⟩
    · have hke : k = xs.length := by omega
      subst hke
      go_wp2
      go_ret
      exact ⟨rfl, q, rfl⟩

theorem same_c (va vb : Value) (xs : List RTok) (w : World) (ha : TokSl w va xs) (hb : TokSl w vb xs) (hN : xs.length ≤ 9223372036854775807) :
    Calls Tryz.prog 7 #[va, vb] w fun e w' => e = .returned (.bool true) ∧ ∃ q, w' = w.drewN q := same_o va vb xs w ha.isIn hb.isIn hN

end Go.Proofs.YtjbmpdcgmphhoaaGreatDoor
