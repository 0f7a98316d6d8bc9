/-
  What the program's functions Read and Write of package field answer at every bytes, place, kind and number: the field's number; the bytes in new memory, the unit's turned. They change nothing that was there.
-/
import Derived.Test.YtmdgnjadfdnibaaFdO
import Derived.Laws.CopyOwn
import Derived.Deep.OwnRows
namespace Go.Proofs.Ytmdgnjadfdnibaa
open Go.RowKit
set_option linter.unusedVariables false
set_option maxHeartbeats 2000000 in
theorem readIn_c (U : BitVec 32) (b n gp gk : Nat) (k : Int) (W : World) (h1 : 1 ≤ n) (h2 : b + n ≤ 32) (hW : Whole k)
    (q3 : W.cell? ⟨gp, 3, none⟩ = some (.int .i64 b)) (q4 : W.cell? ⟨gp, 4, none⟩ = some (.int .i64 n)) (qk : W.cell? ⟨gk, 0, none⟩ = some (.int .i64 k)) :
    Calls Try.prog 37 #[.int .u32 U.toNat, .pointer (some ⟨gp, 0, none⟩), .pointer (some ⟨gk, 0, none⟩)] W fun e w' => e = .returned (.int .u32 (takeB U b n (signOf k)).toNat) ∧ Below W.heap.size W w' := by
  have c1 := fun X => signed_c k X hW
  have c2 := fun X => take_c U b n (signOf k) X h1 h2
  clear h1 h2 hW
  generalize signOf k = s at *
  generalize takeB U b n s = R at *
  go_enter Try.func37, Try.ntmps37
  go_wp2
  go_quiet (first | (go_at_call 33; refine Calls.quiet_of_same (c1 _)) | (go_at_call 27; refine Calls.quiet_of_same (c2 _)))
  go_wp2
  go_ret
  exact ⟨rfl, below_drewN (Below.refl _ _) _⟩
set_option maxHeartbeats 2000000 in
theorem writeIn_c (U X : BitVec 32) (b n gp gx : Nat) (W : World) (h1 : 1 ≤ n) (h2 : b + n ≤ 32)
    (q3 : W.cell? ⟨gp, 3, none⟩ = some (.int .i64 b)) (q4 : W.cell? ⟨gp, 4, none⟩ = some (.int .i64 n)) (qx : W.cell? ⟨gx, 0, none⟩ = some (.int .u32 X.toNat)) :
    Calls Try.prog 40 #[.int .u32 U.toNat, .pointer (some ⟨gp, 0, none⟩), .pointer (some ⟨gx, 0, none⟩)] W fun e w' => e = .returned (.int .u32 (layB U b n X).toNat) ∧ Below W.heap.size W w' := by
  have c2 := fun Y => lay_c U X b n Y h1 h2
  clear h1 h2
  generalize layB U b n X = R at *
  go_enter Try.func40, Try.ntmps40
  go_wp2_with fail
  refine (c2 _).mono ?_; rintro e w' ⟨rfl, rfl⟩
  go_wp2
  go_ret
  exact ⟨rfl, Below.refl _ _⟩
/-- Two boxes at the end of the heap. -/
theorem box2_cell {w w1 : World} {c d : Array Value} {t u : TypeId} (h : Below ((w.alloc (.cells c t)).alloc (.cells d u)).heap.size ((w.alloc (.cells c t)).alloc (.cells d u)) w1) :
    (∀ i, w1.cell? ⟨w.heap.size, i, none⟩ = c[i]?) ∧ (∀ i, w1.cell? ⟨w.heap.size + 1, i, none⟩ = d[i]?) ∧ Below w.heap.size w w1 := by
  refine ⟨fun i => ?_, fun i => ?_, ?_⟩
  · rw [h.cell (p := ⟨w.heap.size, i, none⟩) (by simp; omega), ((Below.refl (w.alloc (.cells c t)).heap.size _).alloc (Nat.le_refl _) _).cell (p := ⟨w.heap.size, i, none⟩) (by simp)]
    exact World.cell?_alloc_at _ _ _ _ rfl
  · rw [h.cell (p := ⟨w.heap.size + 1, i, none⟩) (by simp)]
    exact World.cell?_alloc_at _ _ _ _ (by simp)
  · exact (((Below.refl w.heap.size w).alloc (Nat.le_refl _) _).alloc (by simp) _).trans (h.mono (by simp; omega))
theorem box2_below (w : World) (c d : Array Value) (t u : TypeId) : Below w.heap.size w ((w.alloc (.cells c t)).alloc (.cells d u)) :=
  ((Below.refl w.heap.size w).alloc (Nat.le_refl _) _).alloc (by simp) _
set_option maxHeartbeats 4000000 in
theorem Read_yes (a : Option Addr) (cap : Nat) (zs : List Int) (m t k : Int) (o b n : Nat) (w : World) (hr : Row w a zs) (h : Lies o b n k) (ho : o + widthOf k ≤ zs.length) :
    Calls Try.prog 17 #[.slice a zs.length cap, placeV m t o b n, .int .i64 k] w fun e w' => e = .returned (.tuple #[.int .u32 (takeB (unitB zs o (widthOf k)) b n (signOf k)).toNat, .int .i64 0]) ∧ Below w.heap.size w w' := by
  have hW := whole_of_lies h
  have hn : 1 ≤ n ∧ b + n ≤ 32 := by
    obtain ⟨_, h1, h2, h3⟩ := h
    have := room_bd k
    omega
  have c := onUnit_R a cap zs m t k o b n (some ⟨w.heap.size, 0, none⟩) (some ⟨w.heap.size + 1, 0, none⟩) (takeB (unitB zs o (widthOf k)) b n (signOf k)) ((w.alloc (.cells (placeCells m t o b n) 41)).alloc (.cells #[.int .i64 k] 42)) (hr.later (box2_below _ _ _ _ _)) h hW ho (fun W hb => by
    obtain ⟨p, q, _⟩ := box2_cell hb
    refine (readIn_c _ b n _ _ k W hn.1 hn.2 hW (by rw [p 3]; rfl) (by rw [p 4]; rfl) (by rw [q 0]; rfl)).mono ?_
    rintro e w' ⟨rfl, hb'⟩
    exact ⟨rfl, hb.trans (hb'.mono hb.size)⟩)
  clear hr h ho hW hn
  generalize takeB (unitB zs o (widthOf k)) b n (signOf k) = R at *
  generalize zs.length = len at *
  go_enter Try.func17, Try.ntmps17
  go_wp2_with fail
  refine c.mono ?_; rintro e w1 ⟨rfl, hb1⟩
  clear c
  have HB : Hid (Below w.heap.size w w1) := (box2_cell hb1).2.2
  clear hb1
  go_wp2
  go_ret2
  exact ⟨rfl, HB.out⟩
/-- Where Read and Write answer that there is no such field. -/
def Out (len : Nat) (o b n k : Int) : Prop := ¬ Lies o b n k ∨ (Lies o b n k ∧ (len : Int) < o + widthOf k)
theorem out_or (len : Nat) (o b n k : Int) : Out len o b n k ∨ ∃ O B N : Nat, o = O ∧ b = B ∧ n = N ∧ Lies o b n k ∧ O + widthOf k ≤ len ∧ 1 ≤ N ∧ B + N ≤ 32 := by
  by_cases h : Lies o b n k
  · by_cases g : (len : Int) < o + widthOf k
    · exact .inl (.inr ⟨h, g⟩)
    · have h0 := h
      obtain ⟨h1, h2, h3, h4⟩ := h
      have := room_bd k
      exact .inr ⟨o.toNat, b.toNat, n.toNat, by omega, by omega, by omega, h0, by omega, by omega, by omega⟩
  · exact .inl (.inl h)
set_option maxHeartbeats 4000000 in
theorem Read_no (a : Option Addr) (cap len : Nat) (m t o b n k : Int) (w : World) (hm : len ≤ 140737488351232) (b1 : b < 9223372036854775808) (h : Out len o b n k) :
    Calls Try.prog 17 #[.slice a len cap, placeV m t o b n, .int .i64 k] w fun e w' => e = .returned (.tuple #[.int .u32 0, .int .i64 80]) ∧ Below w.heap.size w w' := by
  have c := fun W P Q => show Calls Try.prog 36 #[.slice a len cap, placeV m t o b n, .int .i64 k, .func (.func 37) #[] #[.pointer P, .pointer Q]] W fun e w' => e = .returned (.tuple #[.int .u32 0, .int .i64 80]) ∧ Below W.heap.size W w' from by
    rcases h with h | ⟨h, g⟩
    · exact onUnit_R_no a cap len m t o b n k P Q W hm b1 h
    · exact onUnit_R_far a cap len m t o b n k P Q W hm h (whole_of_lies h) g
  clear h
  go_enter Try.func17, Try.ntmps17
  go_wp2_with fail
  refine (c _ _ _).mono ?_; rintro e w1 ⟨rfl, hb1⟩
  clear c
  have HB : Hid (Below w.heap.size w w1) := (box2_cell hb1).2.2
  clear hb1
  go_wp2
  go_ret2
  exact ⟨rfl, HB.out⟩
/-- The number that is put: of a _Bool 0 or 1. -/
def putB (k : Int) (X : BitVec 32) : BitVec 32 := if k = 2 then boolB X else X
/-- The bytes with the unit's turned, so many of them. -/
def setB (zs : List Int) (o : Nat) (R : BitVec 32) : Nat → List Int
  | 0 => zs
  | j + 1 => (setB zs o R j).set (o + j) ((R.toNat : Int) / 2 ^ (8 * j) % 256)
theorem setB_length (zs : List Int) (o : Nat) (R : BitVec 32) (j : Nat) : (setB zs o R j).length = zs.length := by
  induction j with
  | zero => rfl
  | succ j ih => simp [setB, ih]
theorem setB_getD (zs : List Int) (o : Nat) (R : BitVec 32) (j i : Nat) (hj : o + j ≤ zs.length) :
    (setB zs o R j).getD i 0 = if o ≤ i ∧ i < o + j then (R.toNat : Int) / 2 ^ (8 * (i - o)) % 256 else zs.getD i 0 := by
  induction j with
  | zero => rw [if_neg (by omega)]; rfl
  | succ j ih =>
    unfold setB
    rw [List.getD_eq_getElem?_getD, List.getElem?_set]
    by_cases h : o + j = i
    · subst h
      rw [if_pos rfl, if_pos (by rw [setB_length]; omega), if_pos (by omega)]
      simp
    · rw [if_neg h, ← List.getD_eq_getElem?_getD, ih (by omega)]
      by_cases g : o ≤ i ∧ i < o + j
      · rw [if_pos g, if_pos (by omega)]
      · rw [if_neg g, if_neg (by omega)]
theorem setB_bd (zs : List Int) (o : Nat) (R : BitVec 32) (j : Nat) (h : ∀ z ∈ zs, 0 ≤ z ∧ z < 256) : ∀ z ∈ setB zs o R j, 0 ≤ z ∧ z < 256 := by
  induction j with
  | zero => exact h
  | succ j ih =>
    intro z hz
    rcases List.mem_or_eq_of_mem_set hz with g | g
    · exact ih z g
    · subst g; omega
theorem heap_setCell {w : World} {g j : Nat} {cs : Array Value} {t : TypeId} {fr : Nat × Nat} (h : w.heap[g]? = some (.cells cs t fr)) (x : Value) : (w.setCell ⟨g, j, none⟩ x).heap[g]? = some (.cells (cs.setIfInBounds j x) t fr) := by
  rw [setCell_eq_setRow w g j cs t fr x h]; exact setRow_heap _ _ _ _ _ _ h
theorem frozen_of {w : World} {g : Nat} {cs : Array Value} {t : TypeId} (h : w.heap[g]? = some (.cells cs t (0, 0))) (j : Nat) : w.frozen? ⟨g, j, none⟩ = false := by simp [World.frozen?, h]
theorem cell_of {w : World} {g : Nat} {cs : Array Value} {t : TypeId} (h : w.heap[g]? = some (.cells cs t (0, 0))) (j : Nat) : w.cell? ⟨g, j, none⟩ = cs[j]? := by simp [World.cell?, h]
/-- The new bytes in memory, so many of the unit's laid. -/
structure Laid (w1 : World) (zs : List Int) (o : Nat) (R : BitVec 32) (j : Nat) (wr : World) : Prop where
  row : wr.heap[w1.heap.size]? = some (.cells ((setB zs o R j).map (Value.int .u8)).toArray 5 (0, 0))
  below : Below w1.heap.size w1 wr
theorem Laid.step {w1 wr : World} {zs : List Int} {o j : Nat} {R : BitVec 32} (h : Laid w1 zs o R j wr) (n : Nat) :
    Laid w1 zs o R (j + 1) ((wr.drewN n).setCell ⟨w1.heap.size, o + j, none⟩ (.int .u8 ((R.toNat : Int) / 2 ^ (8 * j) % 256))) := by
  refine ⟨?_, ((below_drewN h.below n).setCell (Nat.le_refl _) _)⟩
  rw [heap_setCell (w := wr.drewN n) (g := w1.heap.size) h.row]
  rw [show setB zs o R (j + 1) = (setB zs o R j).set (o + j) ((R.toNat : Int) / 2 ^ (8 * j) % 256) from rfl, List.map_set]
  simp
theorem info_u8 : (Try.prog.info? 5).map (fun i => (i.zero, i.size, i.bytes)) = some (some (.int .u8 0), 1, 1) := by kernel_rfl
theorem size_u8 : (Try.prog.info? 5).map (·.size) = some 1 := by kernel_rfl
end Go.Proofs.Ytmdgnjadfdnibaa
