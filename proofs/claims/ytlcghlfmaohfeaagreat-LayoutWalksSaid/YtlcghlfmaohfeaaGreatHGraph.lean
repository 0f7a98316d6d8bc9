/-
  Which types lie within which: a table without circles, by a search in depth and by growing from below. (Pure.)
  Struct, Union, Enum: a type with a tag.
  New: a table with the basic types.
  isBits: how many bits a bit-field may have.
-/
import Derived.Test.YtlcghlfmaohfeaaGreatHKinds
import Derived.Test.YtlcghlfmaohfeaaGreatHTag
import Derived.Test.YtlcghlfmaohfeaaGreatHDerive
import Derived.Carry
import Derived.Deep.DeepMust
import Derived.Test.YtlcghlfmaohfeaaGreatHTab
namespace Go.Proofs.YtlcghlfmaohfeaaGreat
open Go.RowKit Go.Maps
set_option linter.unusedVariables false
set_option maxRecDepth 100000

section
variable {B : Nat} {w : World} {b mb : Nat} {v : Value} {rs : List (Rw × Value)} {ps : List (Value × Value)}

theorem build_tag (k : Int) (s : ByteArray) (W : World) : (Instr.build TR #[(0, .int .i64 k), (3, .string s)]).run Tryz.prog W = .ok (.agg #[.int .i64 k, .int .i64 0, .int .i64 0, .string s, .slice none 0 0, .bool false]) W := by kernel_rfl

theorem tagged_bad (h : Tab B w b mb v rs ps) (h0 : 0 < rs.length) (k : Int) (s : ByteArray) (hs : s.size ≤ 9223372036854775807) (ht : tagP s.data.toList = false) :
    Calls Tryz.prog 49 #[.pointer (some ⟨b, 0, none⟩), .int .i64 k, .string s] w fun e w' => e = .returned (.tuple #[.int .i64 0, .int .i64 31]) ∧ w' = w := by
  have c := made_c h h0
  have c2 := tag_c s w hs
  rw [ht] at c2
  have h1 := not_t
  have h2 := not_f
  go_enter Tryz.func49, Tryz.ntmps49
  go_wp2_with (first | (go_at_call 50; refine c.mono ?_; rintro e w' ⟨rfl, rfl⟩) | (go_at_call 77; refine c2.mono ?_; rintro e w' ⟨rfl, rfl⟩))
  go_ret2
  exact ⟨rfl, rfl⟩

theorem tagged_of {R : Ending → World → Prop} (h : Tab B w b mb v rs ps) (h0 : 0 < rs.length) (k : Int) (s : ByteArray) (hs : s.size ≤ 9223372036854775807) (ht : tagP s.data.toList = true) {x y : Int}
    (c3 : Calls Tryz.prog 82 #[.pointer (some ⟨b, 0, none⟩), .agg (rwCells ⟨k, 0, 0, s, [], false⟩ (.slice none 0 0)).toArray] w fun e w' => e = .returned (.tuple #[.int .i64 x, .int .i64 y]) ∧ R e w') :
    Calls Tryz.prog 49 #[.pointer (some ⟨b, 0, none⟩), .int .i64 k, .string s] w fun e w' => e = .returned (.tuple #[.int .i64 x, .int .i64 y]) ∧ R e w' := by
  have c := made_c h h0
  have c2 := tag_c s w hs
  rw [ht] at c2
  have h1 := not_t
  have hb := build_tag
  simp only [rwCells] at c3
  go_enter Tryz.func49, Tryz.ntmps49
  go_wp2_with (first | (go_at_call 50; refine c.mono ?_; rintro e w' ⟨rfl, rfl⟩) | (go_at_call 77; refine c2.mono ?_; rintro e w' ⟨rfl, rfl⟩) | (go_at_call 82; refine c3.mono ?_; rintro e w' ⟨rfl, hR⟩))
  go_ret2
  exact ⟨rfl, hR⟩

theorem struct_of {R : Ending → World → Prop} {a : Value} {s : ByteArray} {x y : Int} (c : Calls Tryz.prog 49 #[a, .int .i64 15, .string s] w fun e w' => e = .returned (.tuple #[.int .i64 x, .int .i64 y]) ∧ R e w') :
    Calls Tryz.prog 26 #[a, .string s] w fun e w' => e = .returned (.tuple #[.int .i64 x, .int .i64 y]) ∧ R e w' := by
  go_enter Tryz.func26, Tryz.ntmps26
  go_wp2_with (go_at_call 49; refine c.mono ?_; rintro e w' ⟨rfl, hR⟩)
  go_ret2
  exact ⟨rfl, hR⟩
end
end Go.Proofs.YtlcghlfmaohfeaaGreat
namespace Go.Proofs.YtlcghlfmaohfeaaGreat
open Go.RowKit Go.Maps
set_option linter.unusedVariables false
set_option maxRecDepth 100000

theorem heap_s1' (w : World) (A B : Obj) : ((w.alloc A).alloc B).heap[w.heap.size]? = some A := by
  show ((w.heap.push A).push B)[w.heap.size]? = some A
  simp [Array.getElem?_push]
theorem heap_s2' (w : World) (A B : Obj) : ((w.alloc A).alloc B).heap[w.heap.size + 1]? = some B := by
  show ((w.heap.push A).push B)[w.heap.size + 1]? = some B
  rw [Array.getElem?_push, if_pos (by simp)]
def basic (i : Nat) : Rw × Value := (⟨(i : Int) + 1, 0, 0, ⟨#[]⟩, [], false⟩, .slice none 0 0)
def basicRows (n : Nat) : List (Rw × Value) := (List.range n).map basic

theorem tab_empty (w : World) : Tab w.heap.size ((w.alloc (.map #[] 0)).alloc (.cells #[.slice none 0 0, .map (some w.heap.size)] 111)) (w.heap.size + 1) w.heap.size (.slice none 0 0) (basicRows 0) [] where
  bB := by omega
  mB := Nat.le_refl _
  tab := heap_s2' w _ _
  rows := World.ownsRow_nil _ _ _ _
  mems := by intro p hp; cases hp
  map := ⟨#[], 0, heap_s1' w _ _, rfl⟩
  wf := by intro kv h; cases h
  len := by simp [basicRows]

set_option maxHeartbeats 1000000 in
theorem new_c (w : World) :
    Calls Tryz.prog 25 #[] w fun e w' => ∃ b mb v, e = .returned (.pointer (some ⟨b, 0, none⟩)) ∧ Tab w.heap.size w' b mb v (basicRows 11) [] ∧ Below w.heap.size w w' := by
  have hmm := @run_makeMap Tryz.prog
  have hbz : ∀ (k : Int) (W : World), (Instr.build TR #[(0, .int .i64 k)]).run Tryz.prog W = .ok (.agg #[.int .i64 k, .int .i64 0, .int .i64 0, .string ⟨#[]⟩, .slice none 0 0, .bool false]) W := fun k W => by kernel_rfl
  have hbt : ∀ (m : Value) (W : World), (Instr.build 111 #[(1, .map (some w.heap.size))]).run Tryz.prog W = .ok (.agg #[.slice none 0 0, .map (some w.heap.size)]) W := fun k W => by kernel_rfl
  have hbt := hbt (.bool true)
  obtain ⟨i0, hi, hz0, hz1, hz2⟩ := info_parts infoTR
  go_enter Tryz.func25, Tryz.ntmps25
  go_wp2
  go_loopw [2] (fun i wr => ∃ (n : Nat) (v : Value), i = .int .i64 ((n : Int) + 1) ∧ n ≤ 11 ∧ Hid (Tab w.heap.size wr (w.heap.size + 1) w.heap.size v (basicRows n) []) ∧ Hid (Below w.heap.size w wr)) (fun i _ => 12 - (intOf i).toNat)
  case atStart =>
    refine ⟨0, .slice none 0 0, rfl, by omega, ?_, ?_⟩
    · exact tab_empty w
    · exact ((Below.refl _ w).alloc (Nat.le_refl _) _).alloc (by simp) _
  case round =>
    obtain ⟨n, v, rfl, hn, HT, HB⟩ := hrel
    by_cases hlt : n < 11
    · have hc := HT.out.c0
      obtain ⟨p, cap, hv, hcap⟩ := HT.out.sl
      have hl : (basicRows n).length = n := by simp [basicRows]
      rw [hl] at hv hcap
      rw [hv] at hc
      have H3 : Hid (Tab w.heap.size (wr.alloc (.cells #[.int .i64 ((n : Int) + 1), .int .i64 0, .int .i64 0, .string ⟨#[]⟩, .slice none 0 0, .bool false] TR)) (w.heap.size + 1) w.heap.size v (basicRows n) []) := HT.out.alloc _
      have HR : Hid (World.ownsRow (wr.alloc (.cells #[.int .i64 ((n : Int) + 1), .int .i64 0, .int .i64 0, .string ⟨#[]⟩, .slice none 0 0, .bool false] TR)) w.heap.size TR 6 v n (allCells (basicRows n))) := by
        have := H3.out.rows; rw [hl] at this; exact this
      clear hl
      go_wp2_with (at_builtin; go_must (refine wpList_append_own_at _ rfl (.tmp 14) (.tmp 17) 22 rfl w.heap.size TR i0 zeroRow 6 72 Tryz.underlying22 hi hz0 hz1 hz2 rfl (by decide) v n _ hv.symm HR.out ⟨wr.heap.size, 0, none⟩ 1 1 _ rfl rfl (cells_new _ _ _) (by simp [Value.oneCell']) (by unfold maxLen; omega) (by omega) (by exact H3.out.lt) ?_); intro v' w' hown hgrow hnil hat; obtain ⟨p', cap', rfl⟩ := slice_of_own hown; have HTT : Hid (w'.heap[w.heap.size + 1]? = some (.cells #[v, .map (some w.heap.size)] 111 (0, 0))) := (hgrow.block _ (lt_of_heap H3.out.tab) (fun e => (H3.out.v_b e.symm).1 rfl)).trans H3.out.tab; have hc' : w'.cell? ⟨w.heap.size + 1, 0, none⟩ = some v := (Lib.cell_of_heap HTT.out 0).trans rfl; have hf' : w'.frozen? ⟨w.heap.size + 1, 0, none⟩ = false := frozen_of HTT.out 0; have HO : Hid (World.ownsRow _ _ _ _ _ _ _) := hown; have HG : Hid (World.grownBy _ _ _) := hgrow; have HA : Hid (_ ∨ _) := hat; clear hown hgrow hnil hat)
      have hl : (basicRows n).length = n := by simp [basicRows]
      have t := H3.out.snoc (r := (basic n).1) (s := .slice none 0 0) HG.out (by rw [hl]; exact HO.out) HA.out (Turned.setCell _ (w.heap.size + 1) 0 _ rfl) (heap_setCell HTT.out _) (World.ownsRow_nil _ _ _ _) (by omega)
      refine ⟨⟨n + 1, .slice p' (n + 1) cap', by simp, by omega, ?_, ?_⟩, by simp [intOf]; omega⟩
      · have e : basicRows (n + 1) = basicRows n ++ [((basic n).1, .slice none 0 0)] := by simp [basicRows, List.range_succ, basic]
        show Tab _ _ _ _ _ _ _
        rw [e]; exact t.1
      · exact HB.out.trans (((Below.refl _ wr).alloc HB.out.size _).trans (H3.out.below t.2))
    · go_wp2
      go_ret
      obtain rfl : n = 11 := by omega
      exact ⟨_, _, _, rfl, HT.out, HB.out⟩
end Go.Proofs.YtlcghlfmaohfeaaGreat
namespace Go.Proofs.YtlcghlfmaohfeaaGreat
open Go.RowKit Go.Maps
set_option linter.unusedVariables false
set_option maxRecDepth 100000

def widthP (k : Int) : Int := if 2 ≤ k ∧ k ≤ 5 then 1 else if k = 6 ∨ k = 7 then 2 else if 8 ≤ k ∧ k ≤ 13 then 4 else 0
def widestP (k : Int) : Int := if k = 2 then 1 else 8 * widthP k
def bitsP (k n : Int) : Bool := n == -1 || (intK k && decide (0 ≤ n) && decide (n ≤ widestP k))
theorem int_ret {x y : Int} (h : x = y) : Ending.returned (.int .i64 x) = .returned (.int .i64 y) := by rw [h]

theorem width_c (k : Int) (w : World) : Calls Tryz.prog 104 #[.int .i64 k] w fun e w' => e = .returned (.int .i64 (widthP k)) ∧ w' = w := by
  by_cases h : 2 ≤ k ∧ k ≤ 13
  · obtain rfl | rfl | rfl | rfl | rfl | rfl | rfl | rfl | rfl | rfl | rfl | rfl : k = 2 ∨ k = 3 ∨ k = 4 ∨ k = 5 ∨ k = 6 ∨ k = 7 ∨ k = 8 ∨ k = 9 ∨ k = 10 ∨ k = 11 ∨ k = 12 ∨ k = 13 := by omega
    all_goals go_enter Tryz.func104, Tryz.ntmps104
    all_goals go_wp2
    all_goals go_ret
    all_goals exact ⟨by simp [widthP], rfl⟩
  · have b2 : (k == 2) = false := by simp; omega
    have b3 : (k == 3) = false := by simp; omega
    have b4 : (k == 4) = false := by simp; omega
    have b5 : (k == 5) = false := by simp; omega
    have b6 : (k == 6) = false := by simp; omega
    have b7 : (k == 7) = false := by simp; omega
    have b8 : (k == 8) = false := by simp; omega
    have b9 : (k == 9) = false := by simp; omega
    have b10 : (k == 10) = false := by simp; omega
    have b11 : (k == 11) = false := by simp; omega
    have b12 : (k == 12) = false := by simp; omega
    have b13 : (k == 13) = false := by simp; omega
    go_enter Tryz.func104, Tryz.ntmps104
    go_wp2
    go_ret
    exact ⟨int_ret (by unfold widthP; repeat' split
                       all_goals omega), rfl⟩

theorem widthP_le (k : Int) : 0 ≤ widthP k ∧ widthP k ≤ 4 := by
  unfold widthP; repeat' split
  all_goals omega

theorem widest_c (k : Int) (w : World) : Calls Tryz.prog 100 #[.int .i64 k] w fun e w' => e = .returned (.int .i64 (widestP k)) ∧ w' = w := by
  have c := width_c k w
  have hle := widthP_le k
  by_cases h2 : k = 2
  · subst h2
    clear c
    go_enter Tryz.func100, Tryz.ntmps100
    go_wp2
    go_ret
    exact ⟨by simp [widestP], rfl⟩
  · have b2 : (k == 2) = false := by simpa using h2
    have hw : widestP k = 8 * widthP k := by simp [widestP, h2]
    rw [hw]
    generalize widthP k = x at *
    obtain ⟨hx0, hx4⟩ := hle
    go_enter Tryz.func100, Tryz.ntmps100
    go_wp2_with (go_at_call 104; refine c.mono ?_; rintro e w' ⟨rfl, rfl⟩)
    go_ret
    exact ⟨rfl, rfl⟩

set_option maxHeartbeats 1000000 in
theorem isBits_c (k n : Int) (w : World) : Calls Tryz.prog 84 #[.int .i64 k, .int .i64 n] w fun e w' => e = .returned (.bool (bitsP k n)) ∧ w' = w := by
  have c1 := isInteger_c k w
  have c2 := widest_c k w
  unfold bitsP
  generalize widestP k = x at *
  rcases hI : intK k with _ | _ <;> rw [hI] at c1
  all_goals go_enter Tryz.func84, Tryz.ntmps84
  all_goals go_wp2_with (first | (go_at_call 99; refine c1.mono ?_; rintro e w' ⟨rfl, rfl⟩) | (go_at_call 100; refine c2.mono ?_; rintro e w' ⟨rfl, rfl⟩))
  all_goals go_ret
  all_goals refine ⟨bool_ret ?_, rfl⟩
  all_goals (rw [Bool.eq_iff_iff]; simp <;> omega)
end Go.Proofs.YtlcghlfmaohfeaaGreat
namespace Go.Proofs.YtlcghlfmaohfeaaGreat
set_option linter.unusedVariables false

/-- The types that lie within a type, one step down. -/
def partsR (r : Rw) : List Int := if r.kind = 14 then [r.elem] else r.mem.map (·.type)
def partsAt (rs : List (Rw × Value)) (i : Nat) : List Nat := match rs[i]? with | some p => (partsR p.1).map (·.toNat) | none => []

section
variable {P : Nat → List Nat}

inductive Reach (P : Nat → List Nat) : Nat → Nat → Prop
  | refl (i : Nat) : Reach P i i
  | step {i j k : Nat} : Reach P i j → k ∈ P j → Reach P i k

/-- No circle: parts have a smaller number. -/
def Acyc (P : Nat → List Nat) (n : Nat) : Prop := ∃ rank : Nat → Nat, ∀ i, i < n → ∀ j ∈ P i, rank j < rank i
/-- A circle. -/
def Cyc (P : Nat → List Nat) (n : Nat) : Prop := ∃ i j, j < n ∧ Reach P i j ∧ i ∈ P j

theorem reach_rank {n : Nat} {rank : Nat → Nat} (h : ∀ i, i < n → ∀ j ∈ P i, rank j < rank i) (hin : ∀ i, i < n → ∀ j ∈ P i, j < n) {i j : Nat} (hr : Reach P i j) (hi : i < n) : j < n ∧ rank j ≤ rank i := by
  induction hr with
  | refl => exact ⟨hi, Nat.le_refl _⟩
  | step _ hk ih => exact ⟨hin _ ih.1 _ hk, Nat.le_of_lt (Nat.lt_of_lt_of_le (h _ ih.1 _ hk) ih.2)⟩
theorem not_cyc {n : Nat} (hin : ∀ i, i < n → ∀ j ∈ P i, j < n) (h : Acyc P n) : ¬ Cyc P n := by
  obtain ⟨rank, h⟩ := h
  rintro ⟨i, j, hj, hr, hij⟩
  have hi := hin j hj i hij
  have h1 := (reach_rank h hin hr hi).2
  have h2 := h j hj i hij
  omega

/-! The search in depth: 0 unseen, 1 on the way, 2 left. -/

/-- What is left has its parts left, with smaller numbers. -/
def Left (P : Nat → List Nat) (σ : Nat → Nat) : Prop := ∃ rank : Nat → Nat, ∀ i, σ i = 2 → ∀ j ∈ P i, σ j = 2 ∧ rank j < rank i
/-- What is on the way leads to c. -/
def Way (P : Nat → List Nat) (σ : Nat → Nat) (c : Nat) : Prop := ∀ i, σ i = 1 → Reach P i c
/-- One step of the search, from σ to σ': nothing is taken back. -/
structure Grew (σ σ' : Nat → Nat) : Prop where
  one : ∀ i, σ' i = 1 ↔ σ i = 1
  two : ∀ i, σ i = 2 → σ' i = 2

theorem Grew.refl (σ : Nat → Nat) : Grew σ σ := ⟨fun _ => Iff.rfl, fun _ h => h⟩
theorem Grew.trans {a b c : Nat → Nat} (h : Grew a b) (k : Grew b c) : Grew a c := ⟨fun i => (k.one i).trans (h.one i), fun i hi => k.two i (h.two i hi)⟩
theorem Way.grew {σ σ' : Nat → Nat} {c : Nat} (h : Way P σ c) (hg : Grew σ σ') : Way P σ' c := fun i hi => h i ((hg.one i).1 hi)

/-- A type on the way is met again: a circle. -/
theorem way_cyc {n : Nat} {σ : Nat → Nat} {c i : Nat} (hc : c < n) (hw : Way P σ c) (hi : i ∈ P c) (h1 : σ i = 1) : Cyc P n := ⟨i, c, hc, hw i h1, hi⟩

def upd (σ : Nat → Nat) (k x : Nat) : Nat → Nat := fun i => if i = k then x else σ i

/-- A type is entered. -/
theorem way_enter {σ : Nat → Nat} {c k : Nat} (hw : Way P σ c) (hk : k ∈ P c) : Way P (upd σ k 1) k := by
  intro i hi
  unfold upd at hi
  split at hi
  · rename_i h; rw [h]; exact .refl k
  · exact .step (hw i hi) hk
theorem way_root {σ : Nat → Nat} {k : Nat} (h : ∀ i, σ i ≠ 1) : Way P (upd σ k 1) k := by
  intro i hi
  unfold upd at hi
  split at hi
  · rename_i h; rw [h]; exact .refl k
  · exact absurd hi (h i)
theorem left_enter {σ : Nat → Nat} {k : Nat} (h : Left P σ) (hk : σ k = 0) : Left P (upd σ k 1) := by
  obtain ⟨rank, h⟩ := h
  refine ⟨rank, fun i hi j hj => ?_⟩
  unfold upd at hi ⊢
  split at hi
  · cases hi
  · obtain ⟨h1, h2⟩ := h i hi j hj
    refine ⟨?_, h2⟩
    split
    · rename_i e; rw [e, hk] at h1; cases h1
    · exact h1

/-- A type is left: all its parts are. -/
theorem left_leave {σ : Nat → Nat} {k : Nat} (h : Left P σ) (hk : σ k = 1) (hp : ∀ j ∈ P k, σ j = 2) : Left P (upd σ k 2) := by
  obtain ⟨rank, h⟩ := h
  refine ⟨fun i => if i = k then ((P k).map rank).foldr max 0 + 1 else rank i, fun i hi j hj => ?_⟩
  have hmax : ∀ (l : List Nat) (x : Nat), x ∈ l → x ≤ l.foldr max 0 := by
    intro l
    induction l with
    | nil => intro x hx; cases hx
    | cons a l ih =>
      intro x hx
      simp only [List.foldr_cons]
      rcases List.mem_cons.1 hx with rfl | hx
      · exact Nat.le_max_left _ _
      · exact Nat.le_trans (ih x hx) (Nat.le_max_right _ _)
  by_cases hik : i = k
  · subst hik
    have h2 := hp j hj
    have hjk : j ≠ i := fun e => by rw [e, hk] at h2; cases h2
    refine ⟨by simp [upd, hjk, h2], ?_⟩
    simp only [hjk, if_false, if_true]
    exact Nat.lt_succ_of_le (hmax _ _ (List.mem_map.2 ⟨j, hj, rfl⟩))
  · have hi2 : σ i = 2 := by simpa [upd, hik] using hi
    obtain ⟨h1, h2⟩ := h i hi2 j hj
    have hjk : j ≠ k := fun e => by rw [e, hk] at h1; cases h1
    refine ⟨by simp [upd, hjk, h1], ?_⟩
    simp only [hik, hjk, if_false]
    exact h2

/-- From entered to left: nothing is taken back. -/
theorem grew_leave {σ σ' : Nat → Nat} {k : Nat} (hk : σ k = 0) (hg : Grew (upd σ k 1) σ') : Grew σ (upd σ' k 2) := by
  refine ⟨fun i => ?_, fun i hi => ?_⟩
  · by_cases hik : i = k
    · subst hik; simp [upd, hk]
    · have := hg.one i
      simpa [upd, hik] using this
  · by_cases hik : i = k
    · subst hik; rw [hk] at hi; cases hi
    · have := hg.two i (by simpa [upd, hik] using hi)
      simpa [upd, hik] using this
theorem upd_at (σ : Nat → Nat) (k x : Nat) : upd σ k x k = x := by simp [upd]

/-- All are left: no circle. -/
theorem left_acyc {n : Nat} {σ : Nat → Nat} (h : Left P σ) (hn : ∀ i, i < n → σ i = 2) : Acyc P n := by
  obtain ⟨rank, h⟩ := h
  exact ⟨rank, fun i hi j hj => (h i (hn i hi) j hj).2⟩

/-! Growing from below. -/

/-- What is grounded has its parts grounded, with smaller numbers, all below m. -/
def Ground (P : Nat → List Nat) (ok : Nat → Bool) (m : Nat) : Prop := ∃ rank : Nat → Nat, ∀ i, ok i = true → rank i < m ∧ ∀ j ∈ P i, ok j = true ∧ rank j < rank i
theorem ground_none (P : Nat → List Nat) (m : Nat) : Ground P (fun _ => false) m := ⟨fun _ => 0, fun i hi => by cases hi⟩
theorem ground_more {ok : Nat → Bool} {m k : Nat} (h : Ground P ok m) (hk : ok k = false) (hp : ∀ j ∈ P k, ok j = true) : Ground P (fun i => if i = k then true else ok i) (m + 1) := by
  obtain ⟨rank, h⟩ := h
  refine ⟨fun i => if i = k then m else rank i, fun i hi => ?_⟩
  by_cases hik : i = k
  · subst hik
    refine ⟨by simp, fun j hj => ?_⟩
    have h1 := hp j hj
    have hjk : j ≠ i := fun e => by rw [e, hk] at h1; cases h1
    exact ⟨by simp [hjk, h1], by simp [hjk, (h j h1).1]⟩
  · have hi2 : ok i = true := by simpa [hik] using hi
    obtain ⟨h1, h2⟩ := h i hi2
    refine ⟨by simp [hik]; omega, fun j hj => ?_⟩
    obtain ⟨h3, h4⟩ := h2 j hj
    have hjk : j ≠ k := fun e => by rw [e, hk] at h3; cases h3
    exact ⟨by simp [hjk, h3], by simp [hik, hjk, h4]⟩
theorem ground_acyc {ok : Nat → Bool} {m n : Nat} (h : Ground P ok m) (hn : ∀ i, i < n → ok i = true) : Acyc P n := by
  obtain ⟨rank, h⟩ := h
  exact ⟨rank, fun i hi j hj => ((h i (hn i hi)).2 j hj).2⟩
/-- Without a circle, what grows no more is all. -/
theorem acyc_ground {ok : Nat → Bool} {n : Nat} (hin : ∀ i, i < n → ∀ j ∈ P i, j < n) (h : Acyc P n) (hfix : ∀ i, i < n → (∀ j ∈ P i, ok j = true) → ok i = true) : ∀ i, i < n → ok i = true := by
  obtain ⟨rank, h⟩ := h
  intro i
  induction hr : rank i using Nat.strongRecOn generalizing i with
  | ind r ih =>
    intro hi
    exact hfix i hi (fun j hj => ih (rank j) (by rw [← hr]; exact h i hi j hj) j rfl (hin i hi j hj))
end
end Go.Proofs.YtlcghlfmaohfeaaGreat
