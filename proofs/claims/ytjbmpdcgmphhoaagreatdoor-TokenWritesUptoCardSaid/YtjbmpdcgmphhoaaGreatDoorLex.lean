/-
  What package token's small functions on bytes answer: isBlank, isLetter, digit, inName, and run, which counts how many of a text's first bytes a function lets by.
-/
import Derived.Test.YtjbmpdcgmphhoaaGreatDoorChecked
import Derived.Deep.QuietTactic
import Derived.BigQuiet
import Derived.LoopN
import Derived.Below
import Derived.Shelf.Abstract
namespace Go.Proofs.YtjbmpdcgmphhoaaGreatDoor
open Go.RowKit
set_option linter.unusedVariables false

def bBlank (n : Nat) : Bool := n == 32 || (decide (9 ≤ n) && decide (n ≤ 13))
def bLetter (n : Nat) : Bool := (decide (97 ≤ n) && decide (n ≤ 122)) || (decide (65 ≤ n) && decide (n ≤ 90)) || n == 95
def bDigit (n : Nat) : Nat := if 48 ≤ n ∧ n ≤ 57 then n - 48 else if 97 ≤ n ∧ n ≤ 102 then n - 87 else if 65 ≤ n ∧ n ≤ 70 then n - 55 else 99
def bName (n : Nat) : Bool := bLetter n || decide (bDigit n < 10)

theorem int_ret {k : IntKind} {x y : Int} (h : x = y) : Ending.returned (.int k x) = .returned (.int k y) := by rw [h]
theorem bool_ret {x y : Bool} (h : x = y) : Ending.returned (.bool x) = .returned (.bool y) := by rw [h]

theorem isBlank_c (n : Nat) (w : World) (h : n < 256) :
    Calls Tryz.prog 30 #[.int .u8 n] w fun e w' => e = .returned (.bool (bBlank n)) ∧ w' = w := by
  go_enter Tryz.func30, Tryz.ntmps30
  go_wp2
  all_goals go_ret
  all_goals refine ⟨bool_ret ?_, rfl⟩
  all_goals (rw [Bool.eq_iff_iff]; simp [bBlank]; omega)

theorem isLetter_c (n : Nat) (w : World) (h : n < 256) :
    Calls Tryz.prog 37 #[.int .u8 n] w fun e w' => e = .returned (.bool (bLetter n)) ∧ w' = w := by
  go_enter Tryz.func37, Tryz.ntmps37
  go_wp2
  all_goals go_ret
  all_goals refine ⟨bool_ret ?_, rfl⟩
  all_goals (rw [Bool.eq_iff_iff]; simp [bLetter]; omega)

theorem digit_c (n : Nat) (w : World) (h : n < 256) :
    Calls Tryz.prog 39 #[.int .u8 n] w fun e w' => e = .returned (.int .i64 (bDigit n)) ∧ w' = w := by
  go_enter Tryz.func39, Tryz.ntmps39
  go_wp2
  all_goals go_ret
  all_goals refine ⟨int_ret ?_, rfl⟩
  all_goals (simp only [bDigit]; repeat' split)
  all_goals omega

theorem inName_c (n : Nat) (w : World) (h : n < 256) :
    Calls Tryz.prog 50 #[.int .u8 n] w fun e w' => e = .returned (.bool (bName n)) ∧ w' = w := by
  have c1 := fun W => isLetter_c n W h
  have c2 := fun W => digit_c n W h
  rcases hL : bLetter n with _ | _
  all_goals
    rw [hL] at c1
    go_enter Tryz.func50, Tryz.ntmps50
    go_wp2_with (first | (go_at_call 37; refine (c1 _).mono ?_; rintro e w' ⟨rfl, rfl⟩) | (go_at_call 39; refine (c2 _).mono ?_; rintro e w' ⟨rfl, rfl⟩))
    go_ret
    refine ⟨bool_ret ?_, rfl⟩
    simp [bName, hL]
    try omega

/-- How many of a text's first bytes p lets by. -/
def runLen (p : Nat → Bool) : List UInt8 → Nat
  | [] => 0
  | c :: r => if p c.toNat then runLen p r + 1 else 0

theorem runLen_le (p : Nat → Bool) : ∀ l, runLen p l ≤ l.length
  | [] => Nat.le_refl _
  | c :: r => by simp only [runLen]; split <;> simp <;> exact runLen_le p r

theorem runLen_append (p : Nat → Bool) : ∀ (l r : List UInt8), (∀ c ∈ l, p c.toNat = true) → runLen p (l ++ r) = l.length + runLen p r
  | [], r, _ => by simp
  | c :: l, r, h => by
    simp only [List.cons_append, runLen, h c List.mem_cons_self, if_true, runLen_append p l r (fun d hd => h d (List.mem_cons_of_mem _ hd)), List.length_cons]; omega

theorem drop_get (s : ByteArray) (k : Nat) (h : k < s.size) : s.data.toList.drop k = s[k] :: s.data.toList.drop (k + 1) := by
  have hl : k < s.data.toList.length := by simpa using h
  rw [List.drop_eq_getElem_cons hl]; simp; rfl

theorem runLen_drop (p : Nat → Bool) (s : ByteArray) (k : Nat) (h : k < s.size) :
    runLen p (s.data.toList.drop k) = if p (s[k]).toNat then runLen p (s.data.toList.drop (k + 1)) + 1 else 0 := by
  rw [drop_get s k h]; rfl

set_option maxRecDepth 100000 in
theorem run_c (R : World → Prop) (p : Nat → Bool) (g : Nat) (lb : Array Value) (s : ByteArray) (w : World) (hs : s.size ≤ 9223372036854775807) (hw : R w)
    (eg : ∀ args w, (callFunc g args).run Tryz.prog w = .ok (.enter g args) w)
    (hp : ∀ (n : Nat) (W : World), n < 256 → R W → Calls Tryz.prog g (#[.int .u8 n] ++ lb) W fun e w' => e = .returned (.bool (p n)) ∧ R w') :
    Calls Tryz.prog 32 #[.string s, .func (.func g) #[] lb] w fun e w' => e = .returned (.int .i64 (runLen p s.data.toList)) ∧ R w' := by
  go_enter Tryz.func32, Tryz.ntmps32
  go_wp2
  go_loopw [5] (fun i wr => R wr ∧ ∃ k : Nat, i = .int .i64 k ∧ k ≤ s.size ∧ Hid (runLen p s.data.toList = k + runLen p (s.data.toList.drop k))) (fun i _ => s.size - (intOf i).toNat)
  case atStart => exact ⟨hw, 0, rfl, Nat.zero_le _, by simp [Hid]⟩
  case round =>
    obtain ⟨hwr, k, rfl, hk, hR⟩ := hrel
    clear hw
    by_cases hlt : k < s.size
    · have HN : Hid _ := runLen_drop p s k hlt
      have hn : (s[k]).toNat < 256 := (s[k]).toNat_lt
      have hc := hp _ _ hn hwr
      clear hp
      rcases hP : p (s[k]).toNat with _ | _
      · rw [hP] at hc
        go_wp2_with (go_at_fn g; refine hc.mono ?_; rintro e W' ⟨rfl, hW'⟩)
        go_ret
        refine ⟨int_ret ?_, hW'⟩
        have h1 := hR.out; rw [HN.out, hP] at h1; simp at h1; rw [h1]
      · rw [hP] at hc
        go_wp2_with (go_at_fn g; refine hc.mono ?_; rintro e W' ⟨rfl, hW'⟩)
        go_roundw
        case rel =>
          refine ⟨hW', k + 1, by go_num, by omega, ?_⟩
          have h1 := hR.out; rw [HN.out, hP] at h1; simp only [if_true] at h1; show _ = _; omega
        case measure => simp [intOf]; omega
    · go_wp2
      go_ret
      refine ⟨int_ret ?_, hwr⟩
      have h1 := hR.out
      rw [List.drop_eq_nil_of_le (by simp only [Array.length_toList]; show s.size ≤ k; omega)] at h1
      simp [runLen] at h1; rw [h1]

/-- The functions that package token hands to run: inName; a byte other than 10; a digit of a base (its number lies in the block of the call that made it). -/
theorem enters_inName : ∀ args w, (callFunc 50 args).run Tryz.prog w = .ok (.enter 50 args) w := enters_of Tryz.func50 (by kernel_rfl) rfl
theorem enters_noLine : ∀ args w, (callFunc 33 args).run Tryz.prog w = .ok (.enter 33 args) w := enters_of Tryz.func33 (by kernel_rfl) rfl
theorem enters_ofBase : ∀ args w, (callFunc 91 args).run Tryz.prog w = .ok (.enter 91 args) w := enters_of Tryz.func91 (by kernel_rfl) rfl

theorem run_inName (s : ByteArray) (w : World) (hs : s.size ≤ 9223372036854775807) :
    Calls Tryz.prog 32 #[.string s, .func (.func 50) #[] #[]] w fun e w' => e = .returned (.int .i64 (runLen bName s.data.toList)) ∧ w' = w :=
  run_c (· = w) bName _ _ s w hs rfl enters_inName fun n W hn hW => by subst hW; exact inName_c n W hn

def bNoLine (n : Nat) : Bool := n != 10
theorem noLine_c (n : Nat) (w : World) (h : n < 256) :
    Calls Tryz.prog 33 #[.int .u8 n] w fun e w' => e = .returned (.bool (bNoLine n)) ∧ w' = w := by
  go_enter Tryz.func33, Tryz.ntmps33
  go_wp2
  go_ret
  refine ⟨bool_ret ?_, rfl⟩
  rw [Bool.eq_iff_iff]; simp [bNoLine]; try omega

theorem run_noLine (s : ByteArray) (w : World) (hs : s.size ≤ 9223372036854775807) :
    Calls Tryz.prog 32 #[.string s, .func (.func 33) #[] #[]] w fun e w' => e = .returned (.int .i64 (runLen bNoLine s.data.toList)) ∧ w' = w :=
  run_c (· = w) bNoLine _ _ s w hs rfl enters_noLine fun n W hn hW => by subst hW; exact noLine_c n W hn

def bBase (base : Nat) (n : Nat) : Bool := decide (bDigit n < base)
theorem ofBase_c (base n B : Nat) (w : World) (h : n < 256) (hc : w.cell? ⟨B, 0, none⟩ = some (.int .i64 base)) :
    Calls Tryz.prog 91 #[.int .u8 n, .pointer (some ⟨B, 0, none⟩)] w fun e w' => e = .returned (.bool (bBase base n)) ∧ ∃ q, w' = w.drewN q := by
  have c2 := fun W => digit_c n W h
  go_enter Tryz.func91, Tryz.ntmps91
  go_wp2
  go_quiet (first | (go_at_call 39; refine Calls.quiet_of_same (c2 _)))
  go_wp2
  go_ret
  refine ⟨bool_ret ?_, _, rfl⟩
  rw [Bool.eq_iff_iff]; simp [bBase]; try omega

theorem digitsOf_c (base : Nat) (w : World) :
    Calls Tryz.prog 78 #[.int .i64 base] w fun e w' => e = .returned (.func (.func 91) #[] #[.pointer (some ⟨w.heap.size, 0, none⟩)]) ∧ w' = w.alloc (.cells #[.int .i64 base] 3) := by
  have hmf : ∀ (fn : Fn) (first cap : Array Value) (w : World), (Instr.makeFunc fn first cap).run Tryz.prog w = .ok (.func fn first cap) w := fun _ _ _ _ => rfl
  go_enter Tryz.func78, Tryz.ntmps78
  go_wp2
  go_ret
  exact ⟨rfl, rfl⟩

theorem run_ofBase (base B : Nat) (s : ByteArray) (w : World) (hs : s.size ≤ 9223372036854775807) (hc : w.cell? ⟨B, 0, none⟩ = some (.int .i64 base)) :
    Calls Tryz.prog 32 #[.string s, .func (.func 91) #[] #[.pointer (some ⟨B, 0, none⟩)]] w fun e w' => e = .returned (.int .i64 (runLen (bBase base) s.data.toList)) ∧ ∃ q, w' = w.drewN q :=
  run_c (fun W => ∃ q, W = w.drewN q) (bBase base) _ _ s w hs ⟨0, rfl⟩ enters_ofBase fun n W hn ⟨q, hW⟩ => by
    subst hW
    exact (ofBase_c base n B (w.drewN q) hn hc).mono fun e w' ⟨he, q', hq⟩ => ⟨he, q + q', by rw [hq]; simp [World.drewN, Nat.add_assoc]⟩

/-- The number that digits tell, or some number above most. -/
def digVal (base most : Nat) : Nat → List UInt8 → Nat
  | n, [] => n
  | n, c :: r => if n ≤ most then digVal base most (n * base + bDigit c.toNat) r else n

theorem digVal_drop (base most n : Nat) (s : ByteArray) (k : Nat) (h : k < s.size) :
    digVal base most n (s.data.toList.drop k) = if n ≤ most then digVal base most (n * base + bDigit (s[k]).toNat) (s.data.toList.drop (k + 1)) else n := by
  rw [drop_get s k h]; rfl

theorem bDigit_le (n : Nat) : bDigit n ≤ 99 := by simp only [bDigit]; repeat' split
                                                  all_goals omega

set_option maxRecDepth 100000 in
theorem value_c (base most : Nat) (s : ByteArray) (w : World) (hs : s.size ≤ 9223372036854775807) (hb : base ≤ 16) (hm : most ≤ 4294967295) :
    Calls Tryz.prog 80 #[.string s, .int .i64 base, .int .i64 most] w fun e w' => e = .returned (.int .i64 (digVal base most 0 s.data.toList)) ∧ w' = w := by
  go_enter Tryz.func80, Tryz.ntmps80
  go_wp2
  go_loop [7, 8] (fun nv i => ∃ k n : Nat, i = .int .i64 k ∧ nv = .int .i64 n ∧ k ≤ s.size ∧ n ≤ 68719476900 ∧ Hid (digVal base most 0 s.data.toList = digVal base most n (s.data.toList.drop k))) (fun _ i => s.size - (intOf i).toNat)
  case atStart => exact ⟨0, 0, rfl, rfl, Nat.zero_le _, by omega, by simp [Hid]⟩
  case round =>
    obtain ⟨k, n, rfl, rfl, hk, hn99, hR⟩ := hrel
    by_cases hlt : k < s.size
    · have HN : Hid _ := digVal_drop base most n s k hlt
      have hn : (s[k]).toNat < 256 := (s[k]).toNat_lt
      have hd := bDigit_le (s[k]).toNat
      have hc := fun W => digit_c _ W hn
      by_cases hle : n ≤ most
      · have hmul : n * base ≤ 4294967295 * 16 := Nat.mul_le_mul (by omega) hb
        go_wp2_with (go_at_call 39; refine (hc _).mono ?_; rintro e W' ⟨rfl, rfl⟩)
        refine ⟨⟨k + 1, n * base + bDigit (s[k]).toNat, by go_num, by simp, by omega, by omega, ?_⟩, by simp [intOf]; omega⟩
        have h1 := hR.out; rw [HN.out, if_pos hle] at h1; exact h1
      · go_wp2
        go_ret
        refine ⟨int_ret ?_, rfl⟩
        have h1 := hR.out; rw [HN.out, if_neg hle] at h1; rw [h1]
    · go_wp2
      go_ret
      refine ⟨int_ret ?_, rfl⟩
      have h1 := hR.out
      rw [List.drop_eq_nil_of_le (by simp only [Array.length_toList]; show s.size ≤ k; omega)] at h1
      simp [digVal] at h1; rw [h1]
end Go.Proofs.YtjbmpdcgmphhoaaGreatDoor
