/-
  What must come at any rate: heads, step by step on a memory with one block.
-/
import Derived.Test.YtigiahcfcglacaaMmH
import Derived.Test.YtigiahcfcglacaaMmT
namespace Go.Proofs.Ytigiahcfcglacaa
open Go.RowKit Go.Maps
set_option linter.unusedVariables false
set_option maxRecDepth 100000
section
variable {B : Nat} {w : World} {b : Nat} {K : Bk}
/-- A memory of one block, its own from B on. -/
def HS (B : Nat) (w : World) (b : Nat) (K : Bk) (P : Nat → Prop) : Prop := ∃ x, MemX w b [some x] P ∧ x.bk = K ∧ (∀ k, P k → B ≤ k)
theorem HS.lt {P : Nat → Prop} (h : HS B w b K P) : B ≤ w.heap.size := by
  obtain ⟨x, h1, h2, h3⟩ := h
  exact Nat.le_of_lt (Nat.lt_of_le_of_lt (h3 b h1.pb) h1.blt)
theorem HS.bd {P : Nat → Prop} (h : HS B w b K P) : ∀ k, P k → k < w.heap.size := by
  obtain ⟨x, h1, h2, h3⟩ := h
  exact h1.lt
theorem HS.bB {P : Nat → Prop} (h : HS B w b K P) : ∀ k, P k → B ≤ k := by
  obtain ⟨x, h1, h2, h3⟩ := h
  exact h3
theorem HS.below {P : Nat → Prop} (h : HS B w b K P) {w' : World} (hb : Below w.heap.size w w') : HS B w' b K P := by
  obtain ⟨x, h1, h2, h3⟩ := h
  exact ⟨x, h1.keptB hb, h2, h3⟩
theorem HS.after {x : Bx} {P : Nat → Prop} {bk : Bk} {w' : World} (hw : B ≤ w.heap.size) (h3 : ∀ k, P k → B ≤ k) (h : After w b [some x] P 0 x bk w') : ∃ P', HS B w' b bk P' ∧ Turned w w' P ∧ ∀ m, P' m → P m ∨ w.heap.size ≤ m := by
  obtain ⟨x', P', g1, g2, g3, g4, g5⟩ := h
  refine ⟨P', ⟨x', g3, g1, fun k hk => ?_⟩, g4, g5⟩
  rcases g5 k hk with h | h
  · exact h3 k h
  · omega
def K0 : Bk := ⟨8, 4, fun _ => clZ⟩
def K1 : Bk := K0.fill 0 (stCell ⟨1, 258, 0⟩) 4
def K2 : Bk := K1.fill 4 (stCell ⟨2, 0, 1⟩) 4
def K3 : Bk := cpy K2 0 0 K2 0 4 4
theorem vlok (k v bl : Int) (h : 0 ≤ v ∧ v < 4294967296 ∧ -9223372036854775808 ≤ bl ∧ bl < 9223372036854775808) : VlOK ⟨k, v, bl⟩ := ⟨h.1, h.2.1, h.2.2.1, h.2.2.2⟩
theorem room1 (x : Bx) (v n wd : Int) : roomX [some x] ⟨2, v, 1⟩ n wd = (if v ≤ x.bk.size ∧ isW wd = true ∧ wd ≤ x.bk.align ∧ v % wd = 0 ∧ 1 ≤ n ∧ n ≤ x.bk.size - v then some x else none) := by
  unfold roomX roomG goodG look
  simp only [if_true]
  by_cases h1 : v ≤ x.bk.size
  · by_cases h2 : isW wd = true ∧ wd ≤ x.bk.align ∧ v % wd = 0 ∧ 1 ≤ n ∧ n ≤ x.bk.size - v
    · obtain ⟨a, c, d, e, f⟩ := h2
      simp [Option.filter, h1, a, c, d, e, f]
    · have : ¬ (v ≤ x.bk.size ∧ isW wd = true ∧ wd ≤ x.bk.align ∧ v % wd = 0 ∧ 1 ≤ n ∧ n ≤ x.bk.size - v) := fun hh => h2 hh.2
      rw [if_neg this]
      simp [Option.filter, h1]
      intro a c d e
      exact Classical.byContradiction (fun g => h2 ⟨a, c, d, e, by omega⟩)
  · have this : ¬ (v ≤ x.bk.size ∧ isW wd = true ∧ wd ≤ x.bk.align ∧ v % wd = 0 ∧ 1 ≤ n ∧ n ≤ x.bk.size - v) := fun hh => h1 hh.1
    rw [if_neg this]
    simp [Option.filter, h1]
theorem good1 (x : Bx) (v : Int) (h : v ≤ x.bk.size) : goodX [some x] ⟨2, v, 1⟩ = some x := by
  unfold goodX goodG look
  simp [Option.filter, h]
theorem hd_new (w : World) : Calls Try.prog 16 #[] w fun e w' => ∃ b P, e = .returned (.pointer (some ⟨b, 0, none⟩)) ∧ MemX w' b [] P ∧ (∀ k, P k → w.heap.size ≤ k) ∧ Below w.heap.size w w' := new_c w
theorem hd_make {P : Nat → Prop} (hw : B ≤ w.heap.size) (h : MemX w b [] P) (h3 : ∀ k, P k → B ≤ k) : Calls Try.prog 28 #[.pointer (some ⟨b, 0, none⟩), .int .i64 8, .int .i64 4] w fun e w' => e = .returned (.tuple #[.int .i64 1, .int .i64 0]) ∧ ∃ P', HS B w' b K0 P' ∧ Turned w w' P := by
  refine (make_ok h 8 4 (by decide) (by decide) (by decide)).mono ?_
  rintro e w' ⟨rfl, x, P', g1, g2, g3, g4⟩
  refine ⟨rfl, P', ⟨x, g2, g1, fun k hk => ?_⟩, g3⟩
  rcases g4 k hk with h | h
  · exact h3 k h
  · omega
theorem hd_load1 {P : Nat → Prop} (h : HS B w b K0 P) : Calls Try.prog 19 #[.pointer (some ⟨b, 0, none⟩), .agg #[.int .i64 2, .int .u32 0, .int .i64 1], .int .i64 4, .bool false] w fun e w' => e = .returned (.tuple #[.agg #[.int .i64 0, .int .u32 0, .int .i64 0], .int .i64 3]) ∧ HS B w' b K0 P ∧ Below w.heap.size w w' := by
  have h' := h
  obtain ⟨x, h1, h2, h3⟩ := h
  refine (load_bad h1 ⟨2, 0, 1⟩ (vlok _ _ _ (by decide)) 0 4 rfl false rfl x 0 (by rw [room1, h2, if_pos (by decide)]) rfl (by rw [h2]; decide) (by rw [h2]; decide)).mono ?_
  rintro e w' ⟨rfl, hb⟩
  exact ⟨rfl, h'.below hb, hb⟩
theorem hd_store1 {P : Nat → Prop} (h : HS B w b K0 P) : Calls Try.prog 18 #[.pointer (some ⟨b, 0, none⟩), .agg #[.int .i64 2, .int .u32 0, .int .i64 1], .int .i64 4, .agg #[.int .i64 1, .int .u32 258, .int .i64 0]] w fun e w' => e = .returned (.int .i64 0) ∧ ∃ P', HS B w' b K1 P' ∧ Turned w w' P ∧ ∀ m, P' m → P m ∨ w.heap.size ≤ m := by
  have hw := h.lt
  obtain ⟨x, h1, h2, h3⟩ := h
  refine (store_ok h1 ⟨2, 0, 1⟩ ⟨1, 258, 0⟩ (vlok _ _ _ (by decide)) (vlok _ _ _ (by decide)) 0 4 rfl x 0 (by rw [room1, h2, if_pos (by decide)]) rfl (by decide)).mono ?_
  rintro e w' ⟨rfl, hA⟩
  rw [h2] at hA
  exact ⟨rfl, HS.after hw h3 hA⟩
theorem hd_load2 {P : Nat → Prop} (h : HS B w b K1 P) : Calls Try.prog 19 #[.pointer (some ⟨b, 0, none⟩), .agg #[.int .i64 2, .int .u32 1, .int .i64 1], .int .i64 1, .bool false] w fun e w' => e = .returned (.tuple #[.agg #[.int .i64 1, .int .u32 1, .int .i64 0], .int .i64 0]) ∧ HS B w' b K1 P ∧ Below w.heap.size w w' := by
  have h' := h
  obtain ⟨x, h1, h2, h3⟩ := h
  have hn : numV x.bk 1 1 false = 1 := by rw [h2]; decide
  have c := load_num h1 ⟨2, 1, 1⟩ (vlok _ _ _ (by decide)) 1 1 false rfl x 0 (by rw [room1, h2, if_pos (by decide)]) rfl (by rw [h2]; decide)
  rw [hn] at c
  refine c.mono ?_
  rintro e w' ⟨rfl, hb⟩
  exact ⟨rfl, h'.below hb, hb⟩
theorem hd_load3 {P : Nat → Prop} (h : HS B w b K1 P) : Calls Try.prog 19 #[.pointer (some ⟨b, 0, none⟩), .agg #[.int .i64 2, .int .u32 2, .int .i64 1], .int .i64 4, .bool false] w fun e w' => e = .returned (.tuple #[.agg #[.int .i64 0, .int .u32 0, .int .i64 0], .int .i64 3]) ∧ HS B w' b K1 P ∧ Below w.heap.size w w' := by
  have h' := h
  obtain ⟨x, h1, h2, h3⟩ := h
  refine (load_none h1 ⟨2, 2, 1⟩ (vlok _ _ _ (by decide)) 4 false (by decide) (by decide) (by rw [room1, h2, if_neg (by decide)])).mono ?_
  rintro e w' ⟨rfl, hb⟩
  exact ⟨rfl, h'.below hb, hb⟩
theorem hd_store2 {P : Nat → Prop} (h : HS B w b K1 P) : Calls Try.prog 18 #[.pointer (some ⟨b, 0, none⟩), .agg #[.int .i64 2, .int .u32 4, .int .i64 1], .int .i64 4, .agg #[.int .i64 2, .int .u32 0, .int .i64 1]] w fun e w' => e = .returned (.int .i64 0) ∧ ∃ P', HS B w' b K2 P' ∧ Turned w w' P ∧ ∀ m, P' m → P m ∨ w.heap.size ≤ m := by
  have hw := h.lt
  obtain ⟨x, h1, h2, h3⟩ := h
  refine (store_ok h1 ⟨2, 4, 1⟩ ⟨2, 0, 1⟩ (vlok _ _ _ (by decide)) (vlok _ _ _ (by decide)) 4 4 rfl x 0 (by rw [room1, h2, if_pos (by decide)]) rfl (by decide)).mono ?_
  rintro e w' ⟨rfl, hA⟩
  rw [h2] at hA
  exact ⟨rfl, HS.after hw h3 hA⟩
theorem hd_copy {P : Nat → Prop} (h : HS B w b K2 P) : Calls Try.prog 14 #[.pointer (some ⟨b, 0, none⟩), .agg #[.int .i64 2, .int .u32 0, .int .i64 1], .agg #[.int .i64 2, .int .u32 4, .int .i64 1], .int .i64 4, .int .i64 4] w fun e w' => e = .returned (.int .i64 0) ∧ ∃ P', HS B w' b K3 P' ∧ Turned w w' P ∧ ∀ m, P' m → P m ∨ w.heap.size ≤ m := by
  have hw := h.lt
  obtain ⟨x, h1, h2, h3⟩ := h
  refine (copy_ok h1 ⟨2, 0, 1⟩ ⟨2, 4, 1⟩ (vlok _ _ _ (by decide)) (vlok _ _ _ (by decide)) 4 0 4 4 0 0 x x rfl rfl (by rw [room1, h2, if_pos (by decide)]) (by rw [room1, h2, if_pos (by decide)]) rfl rfl (by decide)).mono ?_
  rintro e w' ⟨rfl, hA⟩
  rw [h2] at hA
  exact ⟨rfl, HS.after hw h3 hA⟩
theorem hd_load4 {P : Nat → Prop} (h : HS B w b K3 P) : Calls Try.prog 19 #[.pointer (some ⟨b, 0, none⟩), .agg #[.int .i64 2, .int .u32 0, .int .i64 1], .int .i64 4, .bool false] w fun e w' => e = .returned (.tuple #[.agg #[.int .i64 2, .int .u32 0, .int .i64 1], .int .i64 0]) ∧ HS B w' b K3 P ∧ Below w.heap.size w w' := by
  have h' := h
  obtain ⟨x, h1, h2, h3⟩ := h
  have hn1 : (x.bk.cell 0).v = 0 := by rw [h2]; decide
  have hn2 : (x.bk.cell 0).block = 1 := by rw [h2]; decide
  have c := load_ptr h1 ⟨2, 0, 1⟩ (vlok _ _ _ (by decide)) 0 4 rfl false rfl x 0 (by rw [room1, h2, if_pos (by decide)]) rfl (by rw [h2]; decide) (by rw [h2]; decide)
  rw [hn1, hn2] at c
  refine c.mono ?_
  rintro e w' ⟨rfl, hb⟩
  exact ⟨rfl, h'.below hb, hb⟩
theorem hd_load5 {P : Nat → Prop} (h : HS B w b K3 P) : Calls Try.prog 19 #[.pointer (some ⟨b, 0, none⟩), .agg #[.int .i64 2, .int .u32 0, .int .i64 1], .int .i64 1, .bool false] w fun e w' => e = .returned (.tuple #[.agg #[.int .i64 0, .int .u32 0, .int .i64 0], .int .i64 3]) ∧ HS B w' b K3 P ∧ Below w.heap.size w w' := by
  have h' := h
  obtain ⟨x, h1, h2, h3⟩ := h
  refine (load_un h1 ⟨2, 0, 1⟩ (vlok _ _ _ (by decide)) 0 1 false rfl x 0 (by rw [room1, h2, if_pos (by decide)]) rfl (by rw [h2]; decide) (by decide)).mono ?_
  rintro e w' ⟨rfl, hb⟩
  exact ⟨rfl, h'.below hb, hb⟩
theorem hd_bin1 {P : Nat → Prop} (h : HS B w b K3 P) : Calls Try.prog 10 #[.pointer (some ⟨b, 0, none⟩), .int .i64 1, .agg #[.int .i64 2, .int .u32 0, .int .i64 1], .agg #[.int .i64 1, .int .u32 8, .int .i64 0]] w fun e w' => e = .returned (.tuple #[.agg #[.int .i64 2, .int .u32 8, .int .i64 1], .int .i64 0]) ∧ HS B w' b K3 P ∧ Below w.heap.size w w' := by
  have h' := h
  obtain ⟨x, h1, h2, h3⟩ := h
  have hg : goodX [some x] ⟨2, 0, 1⟩ = some x := good1 x 0 (by rw [h2]; decide)
  have hsz : x.bk.size = 8 := by rw [h2]; rfl
  have hw8 : wrap32 8 = 8 := by decide +kernel
  have cM : ∀ Y, Below w.heap.size w Y → Calls Try.prog 56 #[.pointer (some ⟨b, 0, none⟩), .agg #[.int .i64 2, .int .u32 0, .int .i64 1], .int .i64 (wrap32 8)] Y fun e w' => e = .returned (.tuple #[.agg #[.int .i64 2, .int .u32 8, .int .i64 1], .int .i64 0]) ∧ Below Y.heap.size Y w' := by
    intro Y hY
    rw [hw8]
    exact moved_ok (h1.keptB hY) ⟨2, 0, 1⟩ (vlok _ _ _ (by decide)) 8 (by decide) x hg (by decide) (by rw [hsz]; decide)
  refine (bin_pn h1 ⟨2, 0, 1⟩ ⟨1, 8, 0⟩ 1 (vlok _ _ _ (by decide)) (vlok _ _ _ (by decide)) (by decide) (by decide) (by unfold usX; rw [good1 x _ (by rw [h2]; decide)]; rfl) (by unfold usX; rfl) rfl rfl ⟨2, 8, 1⟩ 0 (fun Y hY => ofPtr_add (w := Y) ⟨2, 0, 1⟩ 1 8 (by decide) (by decide) rfl ⟨2, 8, 1⟩ 0 (fun Z hZ => cM Z (hY.trans (hZ.mono hY.size))))).mono ?_
  rintro e w' ⟨rfl, hb⟩
  exact ⟨rfl, h'.below hb, hb⟩
theorem hd_bin2 {P : Nat → Prop} (h : HS B w b K3 P) : Calls Try.prog 10 #[.pointer (some ⟨b, 0, none⟩), .int .i64 1, .agg #[.int .i64 2, .int .u32 0, .int .i64 1], .agg #[.int .i64 1, .int .u32 9, .int .i64 0]] w fun e w' => e = .returned (.tuple #[.agg #[.int .i64 0, .int .u32 0, .int .i64 0], .int .i64 3]) ∧ HS B w' b K3 P ∧ Below w.heap.size w w' := by
  have h' := h
  obtain ⟨x, h1, h2, h3⟩ := h
  have hg : goodX [some x] ⟨2, 0, 1⟩ = some x := good1 x 0 (by rw [h2]; decide)
  have hsz : x.bk.size = 8 := by rw [h2]; rfl
  have hw8 : wrap32 9 = 9 := by decide +kernel
  have cM : ∀ Y, Below w.heap.size w Y → Calls Try.prog 56 #[.pointer (some ⟨b, 0, none⟩), .agg #[.int .i64 2, .int .u32 0, .int .i64 1], .int .i64 (wrap32 9)] Y fun e w' => e = .returned (.tuple #[.agg #[.int .i64 0, .int .u32 0, .int .i64 0], .int .i64 3]) ∧ Below Y.heap.size Y w' := by
    intro Y hY
    rw [hw8]
    exact moved_high (h1.keptB hY) ⟨2, 0, 1⟩ (vlok _ _ _ (by decide)) 9 (by decide) x hg (by rw [hsz]; decide)
  refine (bin_pn h1 ⟨2, 0, 1⟩ ⟨1, 9, 0⟩ 1 (vlok _ _ _ (by decide)) (vlok _ _ _ (by decide)) (by decide) (by decide) (by unfold usX; rw [good1 x _ (by rw [h2]; decide)]; rfl) (by unfold usX; rfl) rfl rfl ⟨0, 0, 0⟩ 3 (fun Y hY => ofPtr_add (w := Y) ⟨2, 0, 1⟩ 1 9 (by decide) (by decide) rfl ⟨0, 0, 0⟩ 3 (fun Z hZ => cM Z (hY.trans (hZ.mono hY.size))))).mono ?_
  rintro e w' ⟨rfl, hb⟩
  exact ⟨rfl, h'.below hb, hb⟩
theorem hd_bin3 {P : Nat → Prop} (h : HS B w b K3 P) : Calls Try.prog 10 #[.pointer (some ⟨b, 0, none⟩), .int .i64 14, .agg #[.int .i64 2, .int .u32 0, .int .i64 1], .agg #[.int .i64 1, .int .u32 0, .int .i64 0]] w fun e w' => e = .returned (.tuple #[.agg #[.int .i64 1, .int .u32 0, .int .i64 0], .int .i64 0]) ∧ HS B w' b K3 P ∧ Below w.heap.size w w' := by
  have h' := h
  obtain ⟨x, h1, h2, h3⟩ := h
  have hg : goodX [some x] ⟨2, 0, 1⟩ = some x := good1 x 0 (by rw [h2]; decide)
  have hsz : x.bk.size = 8 := by rw [h2]; rfl
  refine (bin_pn h1 ⟨2, 0, 1⟩ ⟨1, 0, 0⟩ 14 (vlok _ _ _ (by decide)) (vlok _ _ _ (by decide)) (by decide) (by decide) (by unfold usX; rw [good1 x _ (by rw [h2]; decide)]; rfl) (by unfold usX; rfl) rfl rfl ⟨1, 0, 0⟩ 0 (fun Y hY => ofPtr_zero (w := Y) ⟨2, 0, 1⟩ 14 0 (by decide) (by decide) (by decide) (by decide) rfl ⟨1, 0, 0⟩ 0 (fun Z => unlike_eq 14 rfl Z))).mono ?_
  rintro e w' ⟨rfl, hb⟩
  exact ⟨rfl, h'.below hb, hb⟩
theorem num_c (v : Int) (w : World) : Calls Try.prog 12 #[.int .u32 v] w fun e w' => e = .returned (.agg #[.int .i64 1, .int .u32 v, .int .i64 0]) ∧ Below w.heap.size w w' := by
  have hb : ∀ W : World, (Instr.build TV #[(0, .int .i64 1), (1, .int .u32 v)]).run Try.prog W = .ok (.agg #[.int .i64 1, .int .u32 v, .int .i64 0]) W := fun W => by kernel_rfl
  go_enter Try.func12, Try.ntmps12
  go_wp2
  exact bodyPost_ret (v := .agg #[.int .i64 1, .int .u32 v, .int .i64 0]) (by simp [results, Try.results12, go_sem]) rfl ⟨rfl, (by repeat (first | exact Below.refl _ _ | refine Below.setCell ?_ (by simp) _ | refine Below.alloc ?_ (by simp) _))⟩
theorem ptr_c (bl v : Int) (w : World) : Calls Try.prog 29 #[.int .i64 bl, .int .u32 v] w fun e w' => e = .returned (.agg #[.int .i64 2, .int .u32 v, .int .i64 bl]) ∧ Below w.heap.size w w' := by
  have hb := build_V v bl
  go_enter Try.func29, Try.ntmps29
  go_wp2
  exact bodyPost_ret (v := .agg #[.int .i64 2, .int .u32 v, .int .i64 bl]) (by simp [results, Try.results29, go_sem]) rfl ⟨rfl, (by repeat (first | exact Below.refl _ _ | refine Below.setCell ?_ (by simp) _ | refine Below.alloc ?_ (by simp) _))⟩
end
end Go.Proofs.Ytigiahcfcglacaa
