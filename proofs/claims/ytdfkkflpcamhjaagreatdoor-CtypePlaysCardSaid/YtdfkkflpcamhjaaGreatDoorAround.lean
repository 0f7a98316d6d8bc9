/-
  around and base: what Declare puts together.
-/
import Derived.Test.YtdfkkflpcamhjaaGreatDoorKinds
import Derived.Test.YtdfkkflpcamhjaaGreatDoorShelf
import Derived.Lib.LaidTab
import Derived.Laws.Concat
namespace Go.Proofs.YtdfkkflpcamhjaaGreatDoor
open Go.RowKit Go.Maps
set_option linter.unusedVariables false
set_option maxRecDepth 100000

abbrev Tabs (w : World) : Prop := Lib.TabIs Tryz.prog w "internal/strconv.uint64pow10" .u64 Lib.pow10Tab
theorem Tabs.below {w w' : World} (h : Tabs w) (hb : Below w.heap.size w w') : Tabs w' := by
  unfold Tabs Lib.TabIs World.var? at h ⊢
  rcases hg : Tryz.prog.globalNamed "internal/strconv.uint64pow10" with _ | g
  · rw [hg] at h; cases h
  · rw [hg] at h
    simp only [Option.bind_some] at h ⊢
    have hlt : g < w.heap.size := by
      rcases Nat.lt_or_ge g w.heap.size with h' | h'
      · exact h'
      · rw [Array.getElem?_eq_none h'] at h; cases h
    rw [hb.block g hlt]; exact h
theorem below_grow (w : World) (k : Nat) (os : Array Obj) : Below w.heap.size w («Sort».grow (w.drewN k) os) := by
  refine ⟨rfl, rfl, rfl, ?_, ?_⟩
  · show w.heap.size ≤ (w.heap ++ os).size
    simp
  · intro b hb
    show (w.heap ++ os)[b]? = _
    rw [Array.getElem?_append_left hb]
theorem itoa_at {W : World} (h : Tabs W) (n : Int) (h0 : -9223372036854775808 ≤ n) (h1 : n ≤ 9223372036854775807) :
    Calls Tryz.prog 83 #[.int .i64 n] W fun e w' => e = .returned (.string ⟨(Lib.itoa n).toArray⟩) ∧ Below W.heap.size W w' := by
  refine (Tryz.strconv_Itoa n h0 h1 W h).mono ?_
  rintro e w' ⟨rfl, k, os, rfl⟩
  exact ⟨rfl, below_grow W k os⟩

def aroundP (d : ByteArray) (r : Rw) (ek : Int) : ByteArray :=
  if r.kind = 14 then (if r.len = -1 then d ++ ⟨#[91, 93]⟩ else d ++ ⟨#[91]⟩ ++ ⟨(Lib.itoa r.len).toArray⟩ ++ ⟨#[93]⟩) else if ek = 14 then ⟨#[40, 42]⟩ ++ d ++ ⟨#[41]⟩ else ⟨#[42]⟩ ++ d

set_option maxHeartbeats 1000000 in
theorem around_c (d : ByteArray) (r : Rw) (s : Value) (ek : Int) (w : World) (hT : Tabs w) (h0 : -9223372036854775808 ≤ r.len) (h1 : r.len ≤ 9223372036854775807) (hd : d.size ≤ 1000000000000000) (hL : (Lib.itoa r.len).length ≤ 100) :
    Calls Tryz.prog 64 #[.string d, .agg #[.int .i64 r.kind, .int .i64 r.elem, .int .i64 r.len, .string r.tag, s, .bool r.done], .int .i64 ek] w fun e w' => e = .returned (.string (aroundP d r ek)) ∧ Below w.heap.size w w' := by
  obtain ⟨kd, el, ln, tg, mm, dn⟩ := r
  simp only at h0 h1 hL ⊢
  have HB : Hid (Below w.heap.size w (w.alloc (.cells #[.int .i64 kd, .int .i64 el, .int .i64 ln, .string tg, s, .bool dn] TR))) := (Below.refl _ w).alloc (Nat.le_refl _) _
  have cI := itoa_at (hT.below HB.out) ln h0 h1
  unfold aroundP
  simp only
  by_cases h14 : kd = 14
  · rw [if_pos h14]
    subst h14
    by_cases hl : ln = -1
    · rw [if_pos hl]
      subst hl
      clear cI
      have k1 := fun W => run_string_add_sum (P := Tryz.prog) W d ⟨#[91, 93]⟩ (by show d.size + 2 ≤ _; omega)
      go_enter Tryz.func64, Tryz.ntmps64
      go_wp2
      go_ret
      exact ⟨rfl, HB.out⟩
    · rw [if_neg hl]
      have bl : (ln == -1) = false := by simpa using hl
      generalize Lib.itoa ln = T at *
      have sT : (ByteArray.mk T.toArray).size = T.length := by simp [ByteArray.size]
      have k1 := fun W => run_string_add_sum (P := Tryz.prog) W d ⟨#[91]⟩ (by show d.size + 1 ≤ _; omega)
      have s1 : (d ++ ⟨#[91]⟩ : ByteArray).size = d.size + 1 := by rw [ByteArray.size_append]; rfl
      have k2 := fun W => run_string_add_sum (P := Tryz.prog) W (d ++ ⟨#[91]⟩) ⟨T.toArray⟩ (by rw [s1, sT]; omega)
      have s2 : (d ++ ⟨#[91]⟩ ++ ⟨T.toArray⟩ : ByteArray).size = d.size + 1 + T.length := by rw [ByteArray.size_append, s1, sT]
      have k3 := fun W => run_string_add_sum (P := Tryz.prog) W (d ++ ⟨#[91]⟩ ++ ⟨T.toArray⟩) ⟨#[93]⟩ (by rw [s2]; show d.size + 1 + T.length + 1 ≤ _; omega)
      clear s1 s2 sT
      go_enter Tryz.func64, Tryz.ntmps64
      go_wp2_with (go_at_call 83; refine cI.mono ?_; rintro e w1 ⟨rfl, hb1⟩)
      go_ret
      exact ⟨rfl, HB.out.trans (hb1.mono HB.out.size)⟩
  · rw [if_neg h14]
    clear cI
    have b14 : (kd == 14) = false := by simpa using h14
    by_cases he : ek = 14
    · rw [if_pos he]
      subst he
      have k1 := fun W => run_string_add_sum (P := Tryz.prog) W ⟨#[40, 42]⟩ d (by show 2 + d.size ≤ _; omega)
      have s1 : (⟨#[40, 42]⟩ ++ d : ByteArray).size = 2 + d.size := by rw [ByteArray.size_append]; rfl
      have k2 := fun W => run_string_add_sum (P := Tryz.prog) W (⟨#[40, 42]⟩ ++ d) ⟨#[41]⟩ (by rw [s1]; show 2 + d.size + 1 ≤ _; omega)
      clear s1
      go_enter Tryz.func64, Tryz.ntmps64
      go_wp2
      go_ret
      exact ⟨rfl, HB.out⟩
    · rw [if_neg he]
      have be : (ek == 14) = false := by simpa using he
      have k1 := fun W => run_string_add_sum (P := Tryz.prog) W ⟨#[42]⟩ d (by show 1 + d.size ≤ _; omega)
      go_enter Tryz.func64, Tryz.ntmps64
      go_wp2
      go_ret
      exact ⟨rfl, HB.out⟩

def nameTab : List ByteArray := [⟨#[118, 111, 105, 100]⟩, ⟨#[95, 66, 111, 111, 108]⟩, ⟨#[99, 104, 97, 114]⟩, ⟨#[115, 105, 103, 110, 101, 100, 32, 99, 104, 97, 114]⟩, ⟨#[117, 110, 115, 105, 103, 110, 101, 100, 32, 99, 104, 97, 114]⟩, ⟨#[115, 104, 111, 114, 116]⟩,
  ⟨#[117, 110, 115, 105, 103, 110, 101, 100, 32, 115, 104, 111, 114, 116]⟩, ⟨#[105, 110, 116]⟩, ⟨#[117, 110, 115, 105, 103, 110, 101, 100, 32, 105, 110, 116]⟩, ⟨#[108, 111, 110, 103]⟩, ⟨#[117, 110, 115, 105, 103, 110, 101, 100, 32, 108, 111, 110, 103]⟩]
/-- The table of the basic types' names lies in its block. -/
def Names (w : World) : Prop := ∀ i s, nameTab[i]? = some s → w.cell? ⟨0, i, none⟩ = some (.string s)
theorem Names.below {w w' : World} (h : Names w) (hb : Below w.heap.size w w') : Names w' := fun i s hi => by
  rw [hb.cell (p := ⟨0, i, none⟩) (World.block_lt_of_cell? w _ (h i s hi))]; exact h i s hi

def baseP (r : Rw) : ByteArray :=
  if r.kind = 12 then ⟨#[101, 110, 117, 109, 32]⟩ ++ r.tag else if r.kind = 15 then ⟨#[115, 116, 114, 117, 99, 116, 32]⟩ ++ r.tag else if r.kind = 16 then ⟨#[117, 110, 105, 111, 110, 32]⟩ ++ r.tag else (nameTab[(r.kind - 1).toNat]?).getD ⟨#[]⟩

set_option maxHeartbeats 1000000 in
theorem base_c (r : Rw) (s : Value) (w : World) (hN : Names w) (hk : (1 ≤ r.kind ∧ r.kind ≤ 12) ∨ r.kind = 15 ∨ r.kind = 16) (ht : r.tag.size ≤ 1000000000000000) :
    Calls Tryz.prog 65 #[.agg #[.int .i64 r.kind, .int .i64 r.elem, .int .i64 r.len, .string r.tag, s, .bool r.done]] w fun e w' => e = .returned (.string (baseP r)) ∧ Below w.heap.size w w' := by
  obtain ⟨kd, el, ln, tg, mm, dn⟩ := r
  simp only at hk ht ⊢
  have HB : Hid (Below w.heap.size w (w.alloc (.cells #[.int .i64 kd, .int .i64 el, .int .i64 ln, .string tg, s, .bool dn] TR))) := (Below.refl _ w).alloc (Nat.le_refl _) _
  have hN2 := hN.below HB.out
  unfold baseP
  simp only
  by_cases hn : 1 ≤ kd ∧ kd ≤ 11
  · obtain ⟨n, rfl⟩ : ∃ n : Nat, kd = (n : Int) + 1 := ⟨(kd - 1).toNat, by omega⟩
    have hn11 : n < 11 := by omega
    have hlen : nameTab.length = 11 := rfl
    obtain ⟨t, htn⟩ : ∃ t, nameTab[n]? = some t := ⟨_, List.getElem?_eq_getElem (by omega)⟩
    have hc := hN2 n t htn
    rw [if_neg (by omega), if_neg (by omega), if_neg (by omega), show ((n : Int) + 1 - 1).toNat = n by omega, htn]
    have b12 : ((n : Int) + 1 == 12) = false := by simp; omega
    have b15 : ((n : Int) + 1 == 15) = false := by simp; omega
    have b16 : ((n : Int) + 1 == 16) = false := by simp; omega
    clear hlen htn hN2 hN hk hn
    go_enter Tryz.func65, Tryz.ntmps65
    go_wp2
    go_ret
    exact ⟨rfl, HB.out⟩
  · clear hN2 hN
    have k1 := fun W => run_string_add_sum (P := Tryz.prog) W ⟨#[101, 110, 117, 109, 32]⟩ tg (by show 5 + tg.size ≤ _; omega)
    have k2 := fun W => run_string_add_sum (P := Tryz.prog) W ⟨#[115, 116, 114, 117, 99, 116, 32]⟩ tg (by show 7 + tg.size ≤ _; omega)
    have k3 := fun W => run_string_add_sum (P := Tryz.prog) W ⟨#[117, 110, 105, 111, 110, 32]⟩ tg (by show 6 + tg.size ≤ _; omega)
    obtain rfl | rfl | rfl : kd = 12 ∨ kd = 15 ∨ kd = 16 := by omega
    all_goals go_enter Tryz.func65, Tryz.ntmps65
    all_goals go_wp2
    all_goals go_ret
    all_goals exact ⟨rfl, HB.out⟩
end Go.Proofs.YtdfkkflpcamhjaaGreatDoor
