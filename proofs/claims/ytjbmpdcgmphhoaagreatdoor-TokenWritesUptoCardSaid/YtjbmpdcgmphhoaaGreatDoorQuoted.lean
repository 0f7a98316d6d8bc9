/-
  What package token's readQuoted answers.
-/
import Derived.Test.YtjbmpdcgmphhoaaGreatDoorUnqw
namespace Go.Proofs.YtjbmpdcgmphhoaaGreatDoor
open Go.RowKit
set_option linter.unusedVariables false

/-- A byte as a signed one. -/
def sbyte (c : UInt8) : Int := if c.toNat < 128 then c.toNat else c.toNat - 256

theorem sbyte_wrap : ∀ n : Nat, n < 256 → wrap64 (IntKind.i8.wrap (n : Int)) = (if n < 128 then (n : Int) else n - 256) := by decide +kernel

def quotedV (q : Nat) (R : Option (List UInt8 × Nat)) : Value :=
  match R with
  | none => .tuple #[noTok, .int .i64 0, .int .i64 26]
  | some (t, m) => if q = 34 then .tuple #[tokV 5 ⟨t.toArray⟩ 0, .int .i64 (1 + m), .int .i64 0]
    else match t with
      | [c] => .tuple #[tokV 4 ⟨#[]⟩ (sbyte c), .int .i64 (1 + m), .int .i64 0]
      | _ => .tuple #[noTok, .int .i64 0, .int .i64 26]

theorem own_slice {w : World} {B : Nat} {v : Value} {t : List UInt8} (h : w.ownsRow B 5 1 v t.length (byteVals t)) : ∃ a cap, v = .slice a t.length cap := by
  rcases h.2 with ⟨rfl, h0⟩ | ⟨g, cap, cur, rfl, _⟩
  · exact ⟨none, 0, by rw [h0]⟩
  · exact ⟨_, _, rfl⟩
theorem own_cell {w : World} {B : Nat} {v : Value} {t : List UInt8} (h : w.ownsRow B 5 1 v t.length (byteVals t)) (h0 : t ≠ []) : ∃ g cap, B ≤ g ∧ v = .slice (some ⟨g, 0, none⟩) t.length cap ∧ ∀ j (hj : j < t.length), w.cell? ⟨g, j, none⟩ = some (.int .u8 (t[j].toNat : Int)) := by
  have hl : t.length ≠ 0 := fun e => h0 (List.eq_nil_of_length_eq_zero e)
  rcases h.2 with ⟨rfl, h1⟩ | ⟨g, cap, cur, rfl, hg, _⟩
  · exact absurd h1 hl
  · refine ⟨g, cap, hg, rfl, fun j hj => ?_⟩
    rw [h.cellAt j (by omega)]
    simp [byteVals, hj]
theorem convert_own {w : World} {B : Nat} {v : Value} {t : List UInt8} (h : w.ownsRow B 5 1 v t.length (byteVals t)) : (convert 58 9 v).run Tryz.prog w = .ok (.string ⟨t.toArray⟩) w := by
  by_cases h0 : t = []
  · subst h0
    rcases h.2 with ⟨rfl, _⟩ | ⟨g, cap, cur, rfl, _⟩
    · kernel_rfl
    · kernel_rfl
  · obtain ⟨g, cap, _, rfl, hc⟩ := own_cell h h0
    refine run_convert_bytes_back w 58 9 5 ⟨g, 0, none⟩ cap t Tryz.underlying58 Tryz.underlying5 Tryz.underlying9 (fun j hj => ?_)
    have hadd : (⟨g, 0, none⟩ : Addr).add j = ⟨g, j, none⟩ := by unfold Addr.add; split <;> simp_all
    rw [hadd]; exact hc j hj

set_option maxRecDepth 100000 in
set_option maxHeartbeats 4000000 in
theorem readQuoted_none (s : ByteArray) (w : World) (hs : s.size ≤ 140737488355327) (h0 : 0 < s.size) (hR : unq (s[0]).toNat (s.data.toList.drop 1) = none) :
    Calls Tryz.prog 41 #[.string s] w fun e w' => e = .returned (.tuple #[noTok, .int .i64 0, .int .i64 26]) ∧ Below w.heap.size w w' := by
  have cU : ∀ W : World, Calls Tryz.prog 65 #[.string s] W fun e w' => Below W.heap.size W w' ∧ e = .returned (.tuple #[.slice none 0 0, .int .i64 0, .bool false]) := fun W => by
    have := unquote_c s W hs h0; rw [hR] at this; exact this
  go_enter Tryz.func41, Tryz.ntmps41
  go_wp2_with (first | (go_at_call 65; refine (cU _).mono ?_; rintro e w' ⟨hb, rfl⟩; have hold := (hb.block w.heap.size (by simp)).trans (heap_in0 _ _); have HB : Hid (Below _ _ w') := hb; clear hb) | ((with_reducible apply step_store hold); rfl; rfl; kernel_rfl; rfl; kernel_rfl))
  refine ret_tok ?_ ?_ (setRow_heap _ _ _ _ _ _ hold) ?_ ?_; rfl; rfl; rfl; exact ⟨rfl, below_setRow (below_step (Below.refl _ w) ((Below.refl _ _).alloc (Nat.le_refl _) _) HB.out) (Nat.le_refl _) _⟩

set_option maxRecDepth 100000 in
set_option maxHeartbeats 4000000 in
theorem readQuoted_str (s : ByteArray) (w : World) (t : List UInt8) (m : Nat) (hs : s.size ≤ 140737488355327) (h0 : 0 < s.size) (hR : unq (s[0]).toNat (s.data.toList.drop 1) = some (t, m)) (hq : (s[0]).toNat = 34) :
    Calls Tryz.prog 41 #[.string s] w fun e w' => e = .returned (.tuple #[tokV 5 ⟨t.toArray⟩ 0, .int .i64 (1 + m), .int .i64 0]) ∧ Below w.heap.size w w' := by
  have cU : ∀ W : World, Calls Tryz.prog 65 #[.string s] W fun e w' => Below W.heap.size W w' ∧ ∃ v, e = .returned (.tuple #[v, .int .i64 (1 + m), .bool true]) ∧ w'.ownsRow W.heap.size 5 1 v t.length (byteVals t) := fun W => by
    have := unquote_c s W hs h0; rw [hR] at this; exact this
  go_enter Tryz.func41, Tryz.ntmps41
  go_wp2_with (first | (go_at_call 65; refine (cU _).mono ?_; rintro e w' ⟨hb, v, rfl, hown⟩; have hold := (hb.block w.heap.size (by simp)).trans (heap_in0 _ _); have HB : Hid (Below _ _ w') := hb; have hconv := convert_own hown; clear hb hown) | ((with_reducible apply step_store hold); rfl; rfl; kernel_rfl; rfl; kernel_rfl))
  refine ret_tok ?_ ?_ (setRow_heap _ _ _ _ _ _ hold) ?_ ?_; rfl; rfl; rfl; exact ⟨rfl, below_setRow (below_step (Below.refl _ w) ((Below.refl _ _).alloc (Nat.le_refl _) _) HB.out) (Nat.le_refl _) _⟩

set_option maxRecDepth 100000 in
set_option maxHeartbeats 4000000 in
theorem readQuoted_chr (s : ByteArray) (w : World) (c : UInt8) (m : Nat) (hs : s.size ≤ 140737488355327) (h0 : 0 < s.size) (hR : unq (s[0]).toNat (s.data.toList.drop 1) = some ([c], m)) (hq : (s[0]).toNat ≠ 34) :
    Calls Tryz.prog 41 #[.string s] w fun e w' => e = .returned (.tuple #[tokV 4 ⟨#[]⟩ (sbyte c), .int .i64 (1 + m), .int .i64 0]) ∧ Below w.heap.size w w' := by
  have cU : ∀ W : World, Calls Tryz.prog 65 #[.string s] W fun e w' => Below W.heap.size W w' ∧ ∃ v, e = .returned (.tuple #[v, .int .i64 (1 + m), .bool true]) ∧ w'.ownsRow W.heap.size 5 1 v [c].length (byteVals [c]) := fun W => by
    have := unquote_c s W hs h0; rw [hR] at this; exact this
  have hq' : ¬ (((s[0]).toNat : Int) = 34) := by omega
  have hc256 := c.toNat_lt
  have HSB : Hid (wrap64 (IntKind.i8.wrap (c.toNat : Int)) = sbyte c) := sbyte_wrap c.toNat c.toNat_lt
  go_enter Tryz.func41, Tryz.ntmps41
  go_wp2_with (first | (go_at_call 65; refine (cU _).mono ?_; rintro e w' ⟨hb, v, rfl, hown⟩; have hold := (hb.block w.heap.size (by simp)).trans (heap_in0 _ _); have HB : Hid (Below _ _ w') := hb; obtain ⟨g, cap, hg, rfl, hcell⟩ := own_cell hown (by simp); have hc0 : w'.cell? ⟨g, 0, none⟩ = some (.int .u8 (c.toNat : Int)) := hcell 0 (by simp); clear hb hown hcell) | ((with_reducible apply step_store hold); rfl; rfl; kernel_rfl; rfl; kernel_rfl))
  refine ret_tok ?_ ?_ (setRow_heap _ _ _ _ _ _ hold) ?_ ?_; rfl; rfl; rfl
  refine ⟨?_, below_setRow (below_step (Below.refl _ w) ((Below.refl _ _).alloc (Nat.le_refl _) _) HB.out) (Nat.le_refl _) _⟩
  rw [← HSB.out]; rfl

set_option maxRecDepth 100000 in
set_option maxHeartbeats 4000000 in
theorem readQuoted_not (s : ByteArray) (w : World) (t : List UInt8) (m : Nat) (hs : s.size ≤ 140737488355327) (h0 : 0 < s.size) (hR : unq (s[0]).toNat (s.data.toList.drop 1) = some (t, m)) (hq : (s[0]).toNat ≠ 34) (ht : t.length ≠ 1) :
    Calls Tryz.prog 41 #[.string s] w fun e w' => e = .returned (.tuple #[noTok, .int .i64 0, .int .i64 26]) ∧ Below w.heap.size w w' := by
  have cU : ∀ W : World, Calls Tryz.prog 65 #[.string s] W fun e w' => Below W.heap.size W w' ∧ ∃ v, e = .returned (.tuple #[v, .int .i64 (1 + m), .bool true]) ∧ w'.ownsRow W.heap.size 5 1 v t.length (byteVals t) := fun W => by
    have := unquote_c s W hs h0; rw [hR] at this; exact this
  have hq' : ¬ (((s[0]).toNat : Int) = 34) := by omega
  have ht' : ¬ ((t.length : Int) = 1) := by omega
  go_enter Tryz.func41, Tryz.ntmps41
  go_wp2_with (first | (go_at_call 65; refine (cU _).mono ?_; rintro e w' ⟨hb, v, rfl, hown⟩; have hold := (hb.block w.heap.size (by simp)).trans (heap_in0 _ _); have HB : Hid (Below _ _ w') := hb; obtain ⟨a, cap, rfl⟩ := own_slice hown; clear hb hown) | ((with_reducible apply step_store hold); rfl; rfl; kernel_rfl; rfl; kernel_rfl))
  refine ret_tok ?_ ?_ (setRow_heap _ _ _ _ _ _ hold) ?_ ?_; rfl; rfl; rfl; exact ⟨rfl, below_setRow (below_step (Below.refl _ w) ((Below.refl _ _).alloc (Nat.le_refl _) _) HB.out) (Nat.le_refl _) _⟩

theorem readQuoted_c (s : ByteArray) (w : World) (hs : s.size ≤ 140737488355327) (h0 : 0 < s.size) :
    Calls Tryz.prog 41 #[.string s] w fun e w' => e = .returned (quotedV (s[0]).toNat (unq (s[0]).toNat (s.data.toList.drop 1))) ∧ Below w.heap.size w w' := by
  rcases hR : unq (s[0]).toNat (s.data.toList.drop 1) with _ | ⟨t, m⟩
  · exact readQuoted_none s w hs h0 hR
  · by_cases hq : (s[0]).toNat = 34
    · simp only [quotedV, hq, if_true]; exact readQuoted_str s w t m hs h0 hR hq
    · simp only [quotedV, hq, if_false]
      match t, hR with
      | [], hR => exact readQuoted_not s w [] m hs h0 hR hq (by simp)
      | [c], hR => exact readQuoted_chr s w c m hs h0 hR hq
      | a :: b :: r, hR => exact readQuoted_not s w (a :: b :: r) m hs h0 hR hq (by simp)
end Go.Proofs.YtjbmpdcgmphhoaaGreatDoor
