/-
  What package token's writeNumber and Write answer.
-/
import Derived.Test.YtjbmpdcgmphhoaaGreatDoorQuote
import Derived.Test.YtjbmpdcgmphhoaaGreatDoorCanBe
import Derived.Test.YtjbmpdcgmphhoaaGreatDoorQuoted
namespace Go.Proofs.YtjbmpdcgmphhoaaGreatDoor
open Go.RowKit
set_option linter.unusedVariables false

theorem below_grow (w : World) (k : Nat) (os : Array Obj) : Below w.heap.size w (Go.Sort.grow (w.drewN k) os) := by
  refine ⟨rfl, rfl, rfl, ?_, ?_⟩
  · simp [Go.Sort.grow]
  · intro b hb
    simp only [Go.Sort.grow]
    show (w.heap ++ os)[b]? = _
    rw [Array.getElem?_append_left hb]

def ItoaAt (n : Int) (W : World) : Prop := Calls Tryz.prog 27 #[.int .i64 n] W fun e w' => e = .returned (.string ⟨(Lib.itoa n).toArray⟩) ∧ Below W.heap.size W w'

theorem str_app (a : List UInt8) (b : ByteArray) : (ByteArray.mk a.toArray) ++ b = ⟨(a ++ b.data.toList).toArray⟩ := by
  apply ByteArray.ext
  simp

theorem str_ret2 {x : ByteArray} {y z : List UInt8} (h : x = ⟨y.toArray⟩) (h2 : y = z) : Ending.returned (.string x) = .returned (.string ⟨z.toArray⟩) := by rw [h, h2]

set_option maxRecDepth 100000 in
set_option maxHeartbeats 1000000 in
theorem writeNumber_c (n : Int) (s : ByteArray) (w : World) (hI : ItoaAt n w) (hT : (Lib.itoa n).length ≤ 100) :
    Calls Tryz.prog 25 #[.int .i64 n, .string s] w fun e w' => e = .returned (.string ⟨(writeNumP n s.data.toList).toArray⟩) ∧ Below w.heap.size w w' := by
  unfold ItoaAt at hI
  rw [← ByteArray.toList_eq]
  unfold writeNumP
  generalize Lib.itoa n = T at *
  go_enter Tryz.func25, Tryz.ntmps25
  go_wp2_with (go_at_call 27; refine hI.mono ?_; rintro e w1 ⟨rfl, hb1⟩)
  all_goals go_ret
  all_goals refine ⟨?_, hb1⟩
  all_goals first
    | exact str_ret2 (str_app T ⟨#[76]⟩) (by simp [numSuffix, *])
    | exact str_ret2 (str_app T ⟨#[85]⟩) (by simp [numSuffix, *])
    | exact str_ret2 (str_app T ⟨#[85, 76]⟩) (by simp [numSuffix, *])
    | exact str_ret2 rfl (by simp [numSuffix, *])

def writeVal (k n : Int) (l : List UInt8) : Value := if canBeP k n l then .tuple #[.string ⟨(writeP k n l).toArray⟩, .int .i64 0] else .tuple #[.string ⟨#[]⟩, .int .i64 2]

theorem itoa_len (n : Int) (k : List UInt8) (h0 : 0 ≤ n) (hm : n ≤ mostOf k) : (Lib.itoa n).length ≤ 100 := by
  obtain ⟨v, rfl⟩ := Int.eq_ofNat_of_zero_le h0
  have hv : v < 4294967296 := by
    have h1 : mostOf k ≤ 4294967295 := by unfold mostOf; split; omega; split <;> omega
    omega
  unfold Lib.itoa
  rw [if_neg (by omega), decDigits_digs]
  have := digs_len (b := 10) (by omega) 32 v hv
  split
  · simp
  · simp only [Int.toNat_natCast]; omega

theorem tok_cells {w0 w : World} {S : Nat} {a b c d e f : Value} (h : w0.heap[S]? = some (.cells #[a, b, c, d, e, f] 35 (0, 0))) (hb : Below w0.heap.size w0 w) :
    w.cell? ⟨S, 0, none⟩ = some a ∧ w.cell? ⟨S, 1, none⟩ = some b ∧ w.cell? ⟨S, 2, none⟩ = some c := by
  have hlt : S < w0.heap.size := by
    rcases Nat.lt_or_ge S w0.heap.size with h' | h'
    · exact h'
    · simp [Array.getElem?_eq_none h'] at h
  have h' := (hb.block S hlt).trans h
  refine ⟨?_, ?_, ?_⟩ <;> simp [World.cell?, h']

theorem byteOf_nat (n : Int) : ((byteOf n).toNat : Int) = n % 256 := by
  unfold byteOf
  have h1 : (n % 256).toNat < 256 := by omega
  have h2 : ((n % 256).toNat.toUInt8).toNat = (n % 256).toNat := by simp; omega
  rw [h2]; omega
theorem convert_one (n : Int) (w : World) : (convert 58 9 (.slice (some ⟨w.heap.size, 0, none⟩) 1 1)).run Tryz.prog (w.alloc (.cells #[.int .u8 (n % 256)] 5)) = .ok (.string ⟨#[byteOf n]⟩) (w.alloc (.cells #[.int .u8 (n % 256)] 5)) := by
  have hown : (w.alloc (.cells #[.int .u8 (n % 256)] 5)).ownsRow 0 5 1 (.slice (some ⟨w.heap.size, 0, none⟩) 1 1) [byteOf n].length (byteVals [byteOf n]) := by
    refine ⟨rfl, .inr ⟨w.heap.size, 1, #[.int .u8 (n % 256)], rfl, Nat.zero_le _, heap_in0 w _, by simp, by decide, rfl, ?_⟩⟩
    simp [byteVals, byteOf_nat]
  exact convert_own hown

set_option maxRecDepth 100000 in
set_option maxHeartbeats 2000000 in
theorem tWrite_c (k n a b c : Int) (s : ByteArray) (w : World) (hs : 4 * s.size + 2 ≤ 140737488355328) (hI : k = 3 → ∀ W, Below w.heap.size w W → 0 ≤ n → n ≤ mostOf s.data.toList → ItoaAt n W) :
    Calls Tryz.prog 9 #[.agg #[.int .i64 k, .string s, .int .i64 n, .int .i64 a, .int .i64 b, .int .i64 c]] w fun e w' => e = .returned (writeVal k n s.data.toList) ∧ Below w.heap.size w w' := by
  have cB := fun W => canBe_c k n a b c s W (by omega)
  have HB : Hid (Below w.heap.size w (w.alloc (.cells #[.int .i64 k, .string s, .int .i64 n, .int .i64 a, .int .i64 b, .int .i64 c] 35))) := (Below.refl _ w).alloc (Nat.le_refl _) _
  have HC : Hid ((w.alloc (.cells #[.int .i64 k, .string s, .int .i64 n, .int .i64 a, .int .i64 b, .int .i64 c] 35)).heap[w.heap.size]? = some (.cells #[.int .i64 k, .string s, .int .i64 n, .int .i64 a, .int .i64 b, .int .i64 c] 35 (0, 0))) := heap_in0 w _
  rcases hcb : canBeP k n s.data.toList with _ | _
  · have hv : writeVal k n s.data.toList = .tuple #[.string ⟨#[]⟩, .int .i64 2] := by unfold writeVal; rw [hcb]; rfl
    rw [hcb] at cB
    rw [hv]
    go_enter Tryz.func9, Tryz.ntmps9
    go_wp2_with (go_at_call 24; refine (cB _).mono ?_; rintro e w1 ⟨rfl, hb1⟩)
    go_ret2
    exact ⟨rfl, HB.out.trans (hb1.mono (by simp))⟩
  · have hv : writeVal k n s.data.toList = .tuple #[.string ⟨(writeP k n s.data.toList).toArray⟩, .int .i64 0] := by unfold writeVal; rw [hcb]; rfl
    rw [hcb] at cB
    rw [hv]
    unfold writeP
    by_cases h3 : k = 3
    · subst h3
      have hn : 0 ≤ n ∧ n ≤ mostOf s.data.toList := by simpa [canBeP] using hcb
      rw [if_pos rfl]
      have cN := fun W h => writeNumber_c n s W (hI rfl W h hn.1 hn.2) (itoa_len n s.data.toList hn.1 hn.2)
      clear hI
      go_enter Tryz.func9, Tryz.ntmps9
      go_wp2_with (first | (go_at_call 24; refine (cB _).mono ?_; rintro e w1 ⟨rfl, hb1⟩; obtain ⟨c0, c1, c2⟩ := tok_cells HC.out hb1; have HB1 := HB.out.trans (hb1.mono (by simp))) | (go_at_call 25; refine (cN _ HB1).mono ?_; rintro e w2 ⟨rfl, hb2⟩))
      go_ret2
      exact ⟨rfl, HB1.trans (hb2.mono HB1.size)⟩
    rw [if_neg h3]
    clear hI
    by_cases h5 : k = 5
    · subst h5
      rw [if_neg (by omega), if_pos rfl]
      have cQ := fun W => quote_c 34 s W (.inr rfl) hs
      go_enter Tryz.func9, Tryz.ntmps9
      go_wp2_with (first | (go_at_call 24; refine (cB _).mono ?_; rintro e w1 ⟨rfl, hb1⟩; obtain ⟨c0, c1, c2⟩ := tok_cells HC.out hb1; have HB1 := HB.out.trans (hb1.mono (by simp))) | (go_at_call 26; refine (cQ _).mono ?_; rintro e w2 ⟨rfl, hb2⟩))
      go_ret2
      exact ⟨rfl, HB1.trans (hb2.mono HB1.size)⟩
    by_cases h4 : k = 4
    · subst h4
      rw [if_pos rfl]
      have cQ := fun W => quote_c 39 ⟨#[byteOf n]⟩ W (.inl rfl) (by show 4 * 1 + 2 ≤ _; omega)
      go_enter Tryz.func9, Tryz.ntmps9
      go_wp2_with (first | (go_at_call 24; refine (cB _).mono ?_; rintro e w1 ⟨rfl, hb1⟩; obtain ⟨c0, c1, c2⟩ := tok_cells HC.out hb1; have HB1 := HB.out.trans (hb1.mono (by simp)); have hconv := convert_one n w1) | (go_at_call 26; refine (cQ _).mono ?_; rintro e w2 ⟨rfl, hb2⟩))
      go_ret2
      exact ⟨rfl, (HB1.alloc HB1.size _).trans (hb2.mono (Nat.le_trans HB1.size (by simp)))⟩
    · rw [if_neg h4, if_neg h5]
      go_enter Tryz.func9, Tryz.ntmps9
      go_wp2_with (first | (go_at_call 24; refine (cB _).mono ?_; rintro e w1 ⟨rfl, hb1⟩; obtain ⟨c0, c1, c2⟩ := tok_cells HC.out hb1; have HB1 := HB.out.trans (hb1.mono (by simp))))
      go_ret2
      exact ⟨rfl, HB1⟩
end Go.Proofs.YtjbmpdcgmphhoaaGreatDoor
