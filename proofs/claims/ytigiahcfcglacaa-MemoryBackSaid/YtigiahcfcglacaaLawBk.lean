/-
  What is stored is loaded; what is copied is loaded; MemoryBack's own walk.
-/
import Derived.Test.YtigiahcfcglacaaLawCp
namespace Go.Proofs.Ytigiahcfcglacaa
open Go.RowKit Go.Maps
set_option linter.unusedVariables false
set_option maxRecDepth 100000
theorem neV2 (x y : Vl) (Y : World) : (binOp .neq TV (.agg #[.int .i64 x.kind, .int .u32 x.v, .int .i64 x.block]) (.agg #[.int .i64 y.kind, .int .u32 y.v, .int .i64 y.block])).run Try.prog Y = .ok (.bool (!sameV x y)) Y := by
  have hT : Try.prog.underlying TV = some (.struct (Try.prog.fieldsOf TV)) := by kernel_rfl
  have hp : Try.prog.stoodInHeld TV = false := by kernel_rfl
  have h1 := Try.underlying23
  have h2 := Try.underlying24
  have h3 := Try.underlying3
  obtain ⟨xk, xv, xb⟩ := x
  obtain ⟨yk, yv, yb⟩ := y
  rw [run_neq_struct, run_equalIn_agg _ 9999 _ _ _ hT hp]
  unfold sameV
  rcases hk : (xk == yk) with _ | _ <;> rcases hv : (xv == yv) with _ | _ <;> rcases hb : (xb == yb) with _ | _
  all_goals simp only [Program.fieldsOf, Try.underlying26]
  all_goals go_simp
theorem valP_congr {f g : Nat → Int} {n : Nat} (hn : n = 1 ∨ n = 2 ∨ n = 4) (h : ∀ j, j < n → f j = g j) : valP f n = valP g n := by
  unfold valP
  rcases hn with rfl | rfl | rfl
  · simp [h 0 (by omega)]
  · simp [h 0 (by omega), h 1 (by omega)]
  · simp [h 0 (by omega), h 1 (by omega), h 2 (by omega), h 3 (by omega)]
theorem loadB_congr {a b : Bk} {f1 f2 n : Nat} {s : Bool} (hn : n = 1 ∨ n = 2 ∨ n = 4) (h : ∀ j, j < n → a.cell (f1 + j) = b.cell (f2 + j)) : loadB a f1 n s = loadB b f2 n s := by
  have h0 : a.cell f1 = b.cell f2 := by have := h 0 (by omega); simpa using this
  have e1 : allNum a f1 n = allNum b f2 n := by
    rw [Bool.eq_iff_iff, allNum_t, allNum_t]
    exact ⟨fun k j hj => by rw [← h j hj]; exact k j hj, fun k j hj => by rw [h j hj]; exact k j hj⟩
  have e2 : numV a f1 n s = numV b f2 n s := by
    unfold numV
    rw [valP_congr (g := fByte b f2) hn (fun j hj => by unfold fByte; rw [h j hj])]
  have e3 : n = 4 → allPart a f1 = allPart b f2 := by
    rintro rfl
    rw [Bool.eq_iff_iff, allPart_t, allPart_t, h0]
    exact ⟨fun k j hj => by rw [← h j hj]; exact k j hj, fun k j hj => by rw [h j hj]; exact k j hj⟩
  unfold loadB
  rw [e1, e2, h0]
  by_cases h4 : n = 4
  · rw [e3 h4]
  · simp [h4]
/-- What is loaded of what was stored. -/
def wantV (v : Vl) (m : Nat) : Vl := if v.kind = 1 then ⟨1, v.v % 256 ^ m, 0⟩ else v
theorem load_fill {k : Bk} {v : Vl} {v1 m : Nat} (hv : VlOK v) (hm : m = 1 ∨ m = 2 ∨ m = 4) (hs : storesB v m = true) : loadB (k.fill v1 (stCell v) m) v1 m false = some (wantV v m) := by
  have hc : ∀ j, j < m → (k.fill v1 (stCell v) m).cell (v1 + j) = stCell v j := fun j hj => by
    show (if v1 ≤ v1 + j ∧ v1 + j < v1 + m then stCell v (v1 + j - v1) else k.cell (v1 + j)) = _
    rw [if_pos (by omega), show v1 + j - v1 = j by omega]
  have h0 : (k.fill v1 (stCell v) m).cell v1 = stCell v 0 := by have := hc 0 (by omega); simpa using this
  have v0 := hv.v0
  have v1' := hv.v1
  unfold wantV
  by_cases hk : v.kind = 1
  · rw [if_pos hk]
    have hcl : ∀ j, stCell v j = ⟨1, byteAt v.v j, 0, 0⟩ := fun j => by unfold stCell; rw [if_neg (by omega)]
    have ha : allNum (k.fill v1 (stCell v) m) v1 m = true := by
      rw [allNum_t]
      intro j hj
      rw [hc j hj, hcl]
    unfold loadB
    rw [if_pos ha]
    have hn : numV (k.fill v1 (stCell v) m) v1 m false = v.v % 256 ^ m := by
      unfold numV
      rw [valP_congr (g := byteAt v.v) hm (fun j hj => by
        unfold fByte
        rw [hc j hj, hcl]
        show byteAt v.v j % 256 = byteAt v.v j
        have := byteAt_bd v.v j
        omega)]
      unfold W.ext valP byteAt
      rcases hm with rfl | rfl | rfl
      all_goals first | (simp; done) | (simp; omega)
    rw [hn]
  · rw [if_neg hk]
    have hs' : v.kind = 2 ∧ m = 4 := by
      unfold storesB at hs
      simp [hk] at hs
      omega
    obtain ⟨hk2, rfl⟩ := hs'
    have hcl : ∀ j, stCell v j = ⟨2, v.v, v.block, j⟩ := fun j => by unfold stCell; rw [if_pos hk2]
    have ha : ¬ allNum (k.fill v1 (stCell v) 4) v1 4 = true := by
      rw [allNum_t]
      intro h
      have := h 0 (by omega)
      rw [hc 0 (by omega), hcl] at this
      exact absurd this (by show ¬ (2 : Int) = 1; decide)
    have hp : allPart (k.fill v1 (stCell v) 4) v1 = true := by
      rw [allPart_t]
      intro j hj
      rw [hc j hj, hcl, h0, hcl]
    unfold loadB
    rw [if_neg ha, if_pos ⟨rfl, hp⟩, h0, hcl]
    show some (⟨2, v.v, v.block⟩ : Vl) = some v
    obtain ⟨a, b, c⟩ := v
    simp only at hk2
    rw [hk2]
theorem wantV_ok {v : Vl} (hv : VlOK v) (m : Nat) : VlOK (wantV v m) := by
  unfold wantV
  split
  · have h0 := hv.v0
    have h1 := hv.v1
    have hp : (0 : Int) < 256 ^ m := Int.pow_pos (by decide)
    refine ⟨Int.emod_nonneg _ (by omega), ?_, by show (-9223372036854775808 : Int) ≤ 0; decide, by show (0 : Int) < 9223372036854775808; decide⟩
    show v.v % 256 ^ m < 4294967296
    by_cases h : v.v < 256 ^ m
    · rw [Int.emod_eq_of_lt h0 h]; exact h1
    · have := Int.emod_lt_of_pos v.v hp
      omega
  · exact hv
theorem roomS_look {s s' : St} {p : Vl} {n w : Int} {k k' : Bk} (h : roomS s p n w = some k) (hl : look s' p.block = some k') (hz : k'.size = k.size) (ha : k'.align = k.align) : roomS s' p n w = some k' := by
  unfold roomS roomG goodG at h ⊢
  split at h
  · rename_i hk
    rw [if_pos hk, hl]
    rw [Option.filter_eq_some_iff] at h
    obtain ⟨h1, h2⟩ := h
    rw [Option.filter_eq_some_iff] at h1
    obtain ⟨h3, h4⟩ := h1
    have e1 : decide (p.v ≤ (k'.size : Int)) = true := by rw [hz]; exact h4
    simp only [Option.filter, e1, if_true]
    rw [if_pos]
    rw [hz, ha]; exact h2
  · simp at h
theorem cpy_align (tb : Bk) (i1 i2 : Nat) (sb : Bk) (tv fv k : Nat) : (cpy tb i1 i2 sb tv fv k).align = tb.align := by
  induction k with
  | zero => rfl
  | succ k ih => exact ih
theorem back_cases (s : St) (p v q : Vl) (hp : VlOK p) (hv : VlOK v) (hq : VlOK q) (wd : Int) :
    (stA s p wd v = 3 ∧ stN s p wd v = s) ∨ (stA s p wd v = 0 ∧ ∃ (k1 k3 : Bk) (v1 m : Nat), p.v = v1 ∧ wd = m ∧ (m = 1 ∨ m = 2 ∨ m = 4) ∧ v1 + m ≤ k1.size ∧ storesB v m = true ∧ look s p.block = some k1 ∧ look (stN s p wd v) p.block = some k3 ∧ k3.size = k1.size ∧ (∀ j, ¬ (v1 ≤ j ∧ j < v1 + m) → k3.cell j = k1.cell j) ∧ ldA (stN s p wd v) p wd false = (wantV v m, 0) ∧
      (cpA (stN s p wd v) q p wd 1 = 3 ∨ (cpA (stN s p wd v) q p wd 1 = 0 ∧ ((ldA (cpN (stN s p wd v) q p wd 1) q wd false).2 = 3 ∨ ldA (cpN (stN s p wd v) q p wd 1) q wd false = (wantV v m, 0))))) := by
  cases h1 : roomS s p wd wd with
  | none => left; unfold stA stN; rw [h1]; exact ⟨by simp, by simp⟩
  | some k1 =>
    cases hs : storesB v wd with
    | false => left; unfold stA stN; rw [h1, hs]; exact ⟨by simp, by simp⟩
    | true =>
      right
      have eA : stA s p wd v = 0 := by unfold stA; rw [h1, hs]; simp
      have eN : stN s p wd v = s.set (p.block - 1).toNat (some (k1.fill p.v.toNat (stCell v) wd.toNat)) := by unfold stN; rw [h1, hs]; simp
      refine ⟨eA, ?_⟩
      obtain ⟨a1, ⟨i1, a2, a3⟩, a4, _, _, a5, a6⟩ := roomS_some h1
      have hp0 := hp.v0
      have hw : wd = 1 ∨ wd = 2 ∨ wd = 4 := by unfold isW at a4; simpa using a4
      have hi1 : i1 < s.length := (List.getElem?_eq_some_iff.1 a3).1
      have e1 : (p.block - 1).toNat = i1 := by omega
      obtain ⟨m, rfl⟩ : ∃ m : Nat, wd = m := ⟨wd.toNat, by omega⟩
      obtain ⟨v1, hv1⟩ : ∃ v1 : Nat, p.v = v1 := ⟨p.v.toNat, by omega⟩
      have hm : m = 1 ∨ m = 2 ∨ m = 4 := by omega
      have l3 : look (stN s p m v) p.block = some (k1.fill v1 (stCell v) m) := by
        rw [eN, a2]
        apply look_at
        simp only [hv1, Int.toNat_natCast]
        rw [show ((i1 : Int) + 1 - 1).toNat = i1 by omega]
        simp [hi1]
      have r3 : roomS (stN s p m v) p m m = some (k1.fill v1 (stCell v) m) := roomS_look h1 l3 rfl rfl
      have ld3 : ldA (stN s p m v) p m false = (wantV v m, 0) := by
        unfold ldA
        rw [r3]
        simp only [hv1, Int.toNat_natCast]
        rw [load_fill hv hm hs]
      refine ⟨k1, k1.fill v1 (stCell v) m, v1, m, hv1, rfl, hm, by omega, hs, by rw [a2]; exact look_at a3, l3, rfl, fun j hj => ?_, ld3, ?_⟩
      · show (if v1 ≤ j ∧ j < v1 + m then stCell v (j - v1) else k1.cell j) = _
        rw [if_neg hj]
      · rcases copies_cases (stN s p m v) q p hq hp m 1 with ⟨hA, _⟩ | ⟨hA, t1, t2, t3, u1, u2, n, hu1, hu2, hn, hn1, hr1, hr2, hl1, hl2, hl3, hz3, hc3⟩
        · exact Or.inl hA
        · right
          refine ⟨hA, ?_⟩
          obtain rfl : m = n := by omega
          obtain rfl : v1 = u2 := by omega
          rw [l3] at hl2
          injection hl2 with hl2
          cases hr : roomS (cpN (stN s p m v) q p m 1) q m m with
          | none => left; unfold ldA; rw [hr]
          | some t4 =>
            right
            obtain ⟨_, ⟨i4, c2, c3⟩, _⟩ := roomS_some hr
            have ht : t4 = t3 := by
              rw [c2, look_at c3] at hl3
              injection hl3
            subst ht
            unfold ldA
            rw [hr]
            simp only [hu1, Int.toNat_natCast]
            rw [loadB_congr (b := k1.fill v1 (stCell v) m) (f2 := v1) hm (fun j hj => by
              rw [hc3, if_pos (by omega), ← hl2]
              congr 1; omega), load_fill hv hm hs]
theorem vbox2_heap (w : World) (u v : Vl) : (vbox (vbox w u) v).heap[w.heap.size]? = some (.cells #[.int .i64 u.kind, .int .u32 u.v, .int .i64 u.block] TV (0, 0)) ∧ (vbox (vbox w u) v).heap[w.heap.size + 1]? = some (.cells #[.int .i64 v.kind, .int .u32 v.v, .int .i64 v.block] TV (0, 0)) := box2_heap w u v
def box3 (w : World) (p v q : Vl) : World := ((w.alloc (.cells #[.int .i64 p.kind, .int .u32 p.v, .int .i64 p.block] TV)).alloc (.cells #[.int .i64 v.kind, .int .u32 v.v, .int .i64 v.block] TV)).alloc (.cells #[.int .i64 q.kind, .int .u32 q.v, .int .i64 q.block] TV)
theorem box3_size (w : World) (p v q : Vl) : (box3 w p v q).heap.size = w.heap.size + 3 := by simp [box3]
theorem box3_below (w : World) (p v q : Vl) : Below w.heap.size w (box3 w p v q) := (((Below.refl _ w).alloc (Nat.le_refl _) _).alloc (by simp) _).alloc (by simp; omega) _
theorem box3_heap (w : World) (p v q : Vl) : (box3 w p v q).heap[w.heap.size]? = some (.cells #[.int .i64 p.kind, .int .u32 p.v, .int .i64 p.block] TV (0, 0)) ∧ (box3 w p v q).heap[w.heap.size + 1]? = some (.cells #[.int .i64 v.kind, .int .u32 v.v, .int .i64 v.block] TV (0, 0)) ∧ (box3 w p v q).heap[w.heap.size + 2]? = some (.cells #[.int .i64 q.kind, .int .u32 q.v, .int .i64 q.block] TV (0, 0)) := by
  obtain ⟨h1, h2⟩ := box2_heap w p v
  have hs := box2_size w p v
  have hb : Below (box2 w p v).heap.size (box2 w p v) (box3 w p v q) := below_box _ _
  refine ⟨(hb.block _ (by omega)).trans h1, (hb.block _ (by omega)).trans h2, ?_⟩
  have := heap_r0 (box2 w p v) (.cells #[.int .i64 q.kind, .int .u32 q.v, .int .i64 q.block] TV)
  rw [hs] at this
  exact this
theorem box_set3 {Y : World} {g : Nat} {a0 a1 a2 v0 v1 v2 : Value} (h : Y.heap[g]? = some (.cells #[a0, a1, a2] TV (0, 0))) : (((Y.setCell ⟨g, 0, none⟩ v0).setCell ⟨g, 1, none⟩ v1).setCell ⟨g, 2, none⟩ v2).heap[g]? = some (.cells #[v0, v1, v2] TV (0, 0)) := by
  rw [heap_setCell (heap_setCell (heap_setCell h v0) v1) v2]; rfl
theorem below_set3 {B : Nat} {W0 Y : World} {g : Nat} {v0 v1 v2 : Value} (h : Below B W0 Y) (hg : B ≤ g) : Below B W0 (((Y.setCell ⟨g, 0, none⟩ v0).setCell ⟨g, 1, none⟩ v1).setCell ⟨g, 2, none⟩ v2) :=
  Below.setCell (Below.setCell (Below.setCell h hg _) hg _) hg _
theorem heap_set3 {Y : World} {g k : Nat} {v0 v1 v2 : Value} (h : k ≠ g) (hk : k < Y.heap.size) : (((Y.setCell ⟨g, 0, none⟩ v0).setCell ⟨g, 1, none⟩ v1).setCell ⟨g, 2, none⟩ v2).heap[k]? = Y.heap[k]? :=
  (((Turned.setCell Y g 0 v0 (S := fun x => x = g) rfl).trans (Turned.setCell _ g 1 v1 (S := fun x => x = g) rfl) (fun _ _ h => h)).trans (Turned.setCell _ g 2 v2 (S := fun x => x = g) rfl) (fun _ _ h => h)).block k hk h
theorem frozen3 {Y : World} {g : Nat} {a0 a1 a2 : Value} (h : Y.heap[g]? = some (.cells #[a0, a1, a2] TV (0, 0))) (j : Nat) : Y.frozen? ⟨g, j, none⟩ = false := by
  simp [World.frozen?, h]
theorem and_mask (x : Int) (k : Nat) (h0 : 0 ≤ x) (h1 : x < 4294967296) (hk : k ≤ 32) : bits .and .u32 x ((2 ^ k - 1 : Nat) : Int) = x % ((2 ^ k : Nat) : Int) := by
  obtain ⟨n, rfl⟩ : ∃ n : Nat, x = n := ⟨x.toNat, by omega⟩
  have hp : 2 ^ k ≤ 2 ^ 32 := Nat.pow_le_pow_right (by decide) hk
  rw [u32_and_nat n (2 ^ k - 1) (by omega) (by omega), Nat.and_two_pow_sub_one_eq_mod]
  simp
section
variable {w : World}
set_option maxHeartbeats 8000000 in
theorem back_c {sv : Value} {l : List Ac} (hin : ActIn w sv l) (hok : ∀ a ∈ l, AcOK a) (hlen : l.length * 80 ≤ 140737488355328) (p : Vl) (hp : VlOK p) (n : Int) (n0 : -9223372036854775808 ≤ n) (n1 : n < 9223372036854775808) (v : Vl) (hv : VlOK v) (q : Vl) (hq : VlOK q) :
    Calls Try.prog 6 #[sv, .agg #[.int .i64 p.kind, .int .u32 p.v, .int .i64 p.block], .int .i64 n, .agg #[.int .i64 v.kind, .int .u32 v.v, .int .i64 v.block], .agg #[.int .i64 q.kind, .int .u32 q.v, .int .i64 q.block]] w fun e w' => e = .returned (.bool true) ∧ Below w.heap.size w w' := by
  have hB := box3_below w p v q
  have hsz := box3_size w p v q
  have cM := made_c (hin.below hB) hok hlen
  obtain ⟨hx0, hy0, hz0⟩ := box3_heap w p v q
  have HX0 : Hid ((box3 w p v q).heap[w.heap.size]? = some (.cells #[.int .i64 p.kind, .int .u32 p.v, .int .i64 p.block] TV (0, 0))) := hx0
  have HY0 : Hid ((box3 w p v q).heap[w.heap.size + 1]? = some (.cells #[.int .i64 v.kind, .int .u32 v.v, .int .i64 v.block] TV (0, 0))) := hy0
  have HZ0 : Hid ((box3 w p v q).heap[w.heap.size + 2]? = some (.cells #[.int .i64 q.kind, .int .u32 q.v, .int .i64 q.block] TV (0, 0))) := hz0
  have HB0 : Hid (Below w.heap.size w (box3 w p v q)) := hB
  have HSZ : Hid ((box3 w p v q).heap.size = w.heap.size + 3) := hsz
  have HP : Hid (VlOK p) := hp
  have HV : Hid (VlOK v) := hv
  have HQ : Hid (VlOK q) := hq
  have HN0 : Hid (-9223372036854775808 ≤ n) := n0
  have HN1 : Hid (n < 9223372036854775808) := n1
  clear hin hok hlen hB hsz hx0 hy0 hz0 hp hv hq n0 n1
  unfold box3 at cM
  go_enter Try.func6, Try.ntmps6
  go_upto_region 2 with (go_at_call 9; refine cM.mono ?_; rintro e w2 ⟨b, rb, s, rfl, hd, hb2⟩; have HD : Hid (D (Old (box3 w p v q)) b rb s s w2) := hd; have HB2 : Hid (Below (box3 w p v q).heap.size (box3 w p v q) w2) := hb2; clear hd hb2 cM)
  have PQ : Hid (∀ Y, Kept (Old (box3 w p v q)) w2 Y → (Y.cell? ⟨w.heap.size, 0, none⟩ = some (.int .i64 p.kind) ∧ Y.cell? ⟨w.heap.size, 1, none⟩ = some (.int .u32 p.v) ∧ Y.cell? ⟨w.heap.size, 2, none⟩ = some (.int .i64 p.block)) ∧ (Y.cell? ⟨w.heap.size + 1, 0, none⟩ = some (.int .i64 v.kind) ∧ Y.cell? ⟨w.heap.size + 1, 1, none⟩ = some (.int .u32 v.v) ∧ Y.cell? ⟨w.heap.size + 1, 2, none⟩ = some (.int .i64 v.block)) ∧ (Y.cell? ⟨w.heap.size + 2, 0, none⟩ = some (.int .i64 q.kind) ∧ Y.cell? ⟨w.heap.size + 2, 1, none⟩ = some (.int .u32 q.v) ∧ Y.cell? ⟨w.heap.size + 2, 2, none⟩ = some (.int .i64 q.block))) := by
    intro Y hY
    have hs := HSZ.out
    have hs2 := HB2.out.size
    have e1 := (hY.heap (k := w.heap.size) (by omega) (by unfold Old; omega)).trans ((HB2.out.block w.heap.size (by omega)).trans HX0.out)
    have e2 := (hY.heap (k := w.heap.size + 1) (by omega) (by unfold Old; omega)).trans ((HB2.out.block (w.heap.size + 1) (by omega)).trans HY0.out)
    have e3 := (hY.heap (k := w.heap.size + 2) (by omega) (by unfold Old; omega)).trans ((HB2.out.block (w.heap.size + 2) (by omega)).trans HZ0.out)
    exact ⟨box3_cells e1, box3_cells e2, box3_cells e3⟩
  have HE : Hid (∀ Y, Kept (Old (box3 w p v q)) w2 Y → Below w.heap.size w Y) := fun Y hY => HB0.out.trans ((HB2.out.trans (Kept.old hY HB2.out.size)).mono HB0.out.size)
  obtain ⟨⟨x20, x21, x22⟩, ⟨y20, y21, y22⟩, _⟩ := PQ.out w2 (Turned.refl _ _)
  have cH := heads_c
  rcases back_cases s p v q HP.out HV.out HQ.out n with ⟨hA, hN⟩ | ⟨hA, k1, k3, v1, m, hv1, rfl, hm, hr1, hst, hl1, hl3, hs3, hcell, hld, hcp⟩
  · have HA : Hid (stA s p n v = 3) := hA
    have HN : Hid (stN s p n v = s) := hN
    clear hA hN
    cases hl : look s p.block with
    | none =>
      have HL : Hid (look s p.block = none) := hl
      have c1 := pCells_bad HD.out p.block HP.out.b0 HP.out.b1 hl
      have cC := pStore HD.out p v HP.out HV.out n HN0.out HN1.out
      rw [HA.out, HN.out] at cC
      clear hl
      go_wp2_with (first
        | (go_at_call 13; refine c1.mono ?_; rintro e w3 ⟨rfl, hw⟩; rw [hw]; clear hw w3 c1)
        | (go_at_call 18; refine cC.mono ?_; rintro e w5 ⟨rfl, hd5, hk5⟩; have HD5 : Hid (D (Old (box3 w p v q)) b rb s s w5) := hd5; have HK5 : Hid (Kept (Old (box3 w p v q)) w2 w5) := hk5; obtain ⟨⟨x50, x51, x52⟩, _⟩ := PQ.out w5 HK5.out; have c3 := pCells_bad HD5.out p.block HP.out.b0 HP.out.b1 HL.out; clear cC hd5 hk5 x20 x21 x22 y20 y21 y22)
        | (go_at_call 13; refine c3.mono ?_; rintro e w6 ⟨rfl, hw⟩; rw [hw]; have cS := same_nil w5; clear hw w6 c3)
        | (go_at_call 15; refine cS.mono ?_; rintro e w7 ⟨rfl, hb7⟩; have HK7 : Hid (Kept (Old (box3 w p v q)) w2 w7) := HK5.out.trans (Kept.below hb7); clear hb7 cS)
        | (go_at_call 11; refine (cH _).mono ?_; rintro e w8 ⟨rfl, hb8⟩; have HK8 : Hid (Kept (Old (box3 w p v q)) w2 w8) := HK7.out.trans (Kept.below hb8); clear hb8))
      go_ret
      exact ⟨rfl, HE.out _ HK8.out⟩
    | some k1 =>
      have HL : Hid (look s p.block = some k1) := hl
      have hmx : k1.size ≤ 16384 := by
        obtain ⟨i, _, hi⟩ := look_some hl
        exact (HD.out.ok1.sz i k1 hi).2.1
      have c1 := pCells_ok HD.out p.block k1 hl
      clear hl
      go_wp2_with (first
        | (go_at_call 13; refine c1.mono ?_; rintro e w4 ⟨g1, cap1, rfl, hc4, hg1, hb4⟩; have HB4 : Hid (Below w2.heap.size w2 w4) := hb4; have HC4 : Hid (CellsAt w4 g1 k1.size k1.cell) := hc4; have HG1 : Hid (w2.heap.size ≤ g1) := hg1; have HD4 : Hid (D (NW (Old (box3 w p v q)) w2 w4) b rb s s w4) := HD.out.wide HB4.out; obtain ⟨⟨x40, x41, x42⟩, ⟨y40, y41, y42⟩, _⟩ := PQ.out w4 (Kept.below HB4.out); have cC := pStore HD4.out p v HP.out HV.out n HN0.out HN1.out; rw [HA.out, HN.out] at cC; clear c1 hc4 hg1 hb4 x20 x21 x22 y20 y21 y22)
        | (go_at_call 18; refine cC.mono ?_; rintro e w5 ⟨rfl, hd5, hk5⟩; have HD5 : Hid (D (NW (Old (box3 w p v q)) w2 w4) b rb s s w5) := hd5; have HK5 : Hid (Kept (Old (box3 w p v q)) w2 w5) := (Kept.below HB4.out).trans (hk5.mono (fun _ h => Or.inl h)); have HC5 : Hid (CellsAt w5 g1 k1.size k1.cell) := HC4.out.keep hk5 (Or.inr ⟨HG1.out, HC4.out.lt⟩); obtain ⟨⟨x50, x51, x52⟩, _⟩ := PQ.out w5 HK5.out; have c3 := pCells_ok HD5.out p.block k1 HL.out; clear cC hd5 hk5 x40 x41 x42 y40 y41 y42)
        | (go_at_call 13; refine c3.mono ?_; rintro e w6 ⟨g3, cap3, rfl, hc6, hg3, hb6⟩; have HK6 : Hid (Kept (Old (box3 w p v q)) w2 w6) := HK5.out.trans (Kept.below hb6); have cS := same_cells (cap1 := cap1) (cap2 := cap3) hmx (HC5.out.bel hb6) hc6; clear hc6 hg3 hb6 c3)
        | (go_at_call 15; refine cS.mono ?_; rintro e w7 ⟨rfl, hb7⟩; have HK7 : Hid (Kept (Old (box3 w p v q)) w2 w7) := HK6.out.trans (Kept.below hb7); clear hb7 cS)
        | (go_at_call 11; refine (cH _).mono ?_; rintro e w8 ⟨rfl, hb8⟩; have HK8 : Hid (Kept (Old (box3 w p v q)) w2 w8) := HK7.out.trans (Kept.below hb8); clear hb8))
      go_ret
      exact ⟨rfl, HE.out _ HK8.out⟩
  · have HA : Hid (stA s p m v = 0) := hA
    have HL1 : Hid (look s p.block = some k1) := hl1
    have HL3 : Hid (look (stN s p m v) p.block = some k3) := hl3
    have HS3 : Hid (k3.size = k1.size) := hs3
    have HCELL : Hid (∀ j, ¬ (v1 ≤ j ∧ j < v1 + m) → k3.cell j = k1.cell j) := hcell
    have HV1 : Hid (p.v = v1) := hv1
    have HLD : Hid (ldA (stN s p m v) p m false = (wantV v m, 0)) := hld
    have HST : Hid (storesB v m = true) := hst
    have HM : Hid (m = 1 ∨ m = 2 ∨ m = 4) := hm
    have HCP : Hid (cpA (stN s p m v) q p m 1 = 3 ∨ (cpA (stN s p m v) q p m 1 = 0 ∧ ((ldA (cpN (stN s p m v) q p m 1) q m false).2 = 3 ∨ ldA (cpN (stN s p m v) q p m 1) q m false = (wantV v m, 0)))) := hcp
    have HR1 : Hid (v1 + m ≤ k1.size) := hr1
    have hmx1 : k1.size ≤ 16384 := by
      obtain ⟨i, _, hi⟩ := look_some hl1
      exact (HD.out.ok1.sz i k1 hi).2.1
    have c1 := pCells_ok HD.out p.block k1 hl1
    have g7 : (((m : Int) != 1) && ((m : Int) != 2) && ((m : Int) != 4)) = false := by rcases hm with rfl | rfl | rfl <;> rfl
    clear hA hl1 hl3 hs3 hcell hv1 hld hst hcp hr1 hm
    go_upto_region 7 with (first
        | (go_at_call 13; refine c1.mono ?_; rintro e w4 ⟨g1, cap1, rfl, hc4, hg1, hb4⟩; have HB4 : Hid (Below w2.heap.size w2 w4) := hb4; have HC4 : Hid (CellsAt w4 g1 k1.size k1.cell) := hc4; have HG1 : Hid (w2.heap.size ≤ g1) := hg1; have HD4 : Hid (D (NW (Old (box3 w p v q)) w2 w4) b rb s s w4) := HD.out.wide HB4.out; obtain ⟨⟨x40, x41, x42⟩, ⟨y40, y41, y42⟩, _⟩ := PQ.out w4 (Kept.below HB4.out); have cC := pStore HD4.out p v HP.out HV.out m HN0.out HN1.out; rw [HA.out] at cC; clear c1 hc4 hg1 hb4 x20 x21 x22 y20 y21 y22)
        | (go_at_call 18; refine cC.mono ?_; rintro e w5 ⟨rfl, hd5, hk5⟩; have HD5 : Hid (D (NW (Old (box3 w p v q)) w2 w4) b rb (stN s p m v) s w5) := hd5; have HK5 : Hid (Kept (Old (box3 w p v q)) w2 w5) := (Kept.below HB4.out).trans (hk5.mono (fun _ h => Or.inl h)); have HC5 : Hid (CellsAt w5 g1 k1.size k1.cell) := HC4.out.keep hk5 (Or.inr ⟨HG1.out, HC4.out.lt⟩); clear cC hd5 hk5 x40 x41 x42 y40 y41 y42))
    have cN := num_c
    go_cut [71] from 58 to 70 (fun x71 wx => x71 = .bool false ∧ wx = w5)
    case first =>
      rcases HM.out with hem | hem | hem
      · have h1 : ((m : Int) != 1) = false := by rw [hem]; rfl
        clear hem
        go_wp2_with fail
        go_meet
        exact ⟨rfl, rfl⟩
      · have h1 : ((m : Int) != 1) = true := by rw [hem]; rfl
        have h2 : ((m : Int) != 2) = false := by rw [hem]; rfl
        clear hem
        go_wp2_with fail
        go_meet
        exact ⟨rfl, rfl⟩
      · have h1 : ((m : Int) != 1) = true := by rw [hem]; rfl
        have h2 : ((m : Int) != 2) = true := by rw [hem]; rfl
        have h3 : ((m : Int) != 4) = false := by rw [hem]; rfl
        clear hem
        go_wp2_with fail
        go_meet
        exact ⟨rfl, rfl⟩
    case rest =>
    obtain ⟨rfl, hwx⟩ := hcut
    rw [hwx]
    clear hwx g7
    obtain ⟨⟨x50, x51, x52⟩, _⟩ := PQ.out w5 HK5.out
    have cL := pLoad HD5.out p HP.out m false HN0.out HN1.out
    rw [HLD.out] at cL
    simp only at cL
    obtain ⟨u, hu⟩ : ∃ u, u = wantV v m := ⟨_, rfl⟩
    rw [← hu] at cL
    have HU : Hid (u = wantV v m) := hu
    clear hu
    go_upto_if 82 with (go_at_call 19; refine cL.mono ?_; rintro e w6 ⟨rfl, hb6⟩; have HB6 : Hid (Below w5.heap.size w5 w6) := hb6; have HB7 : Hid (Below w5.heap.size w5 (vbox w6 u)) := hb6.trans ((vbox_below w6 u).mono hb6.size); have HB8 : Hid (Below w5.heap.size w5 (vbox (vbox w6 u) v)) := HB7.out.trans ((vbox_below (vbox w6 u) v).mono HB7.out.size); obtain ⟨_, ⟨y60, y61, y62⟩, _⟩ := PQ.out _ (HK5.out.trans (Kept.below HB7.out)); obtain ⟨_, ⟨y70, y71, y72⟩, _⟩ := PQ.out _ (HK5.out.trans (Kept.below HB8.out)); unfold vbox at y60 y61 y62 y70 y71 y72; clear hb6 cL x50 x51 x52)
    refine (?_ : Code.wp _ _ _ _ (vbox (vbox w6 u) v))
    obtain ⟨hg7, hg9⟩ := vbox2_heap w6 u v
    have HG7 : Hid ((vbox (vbox w6 u) v).heap[w6.heap.size]? = some (.cells #[.int .i64 u.kind, .int .u32 u.v, .int .i64 u.block] TV (0, 0))) := hg7
    have HG9 : Hid ((vbox (vbox w6 u) v).heap[w6.heap.size + 1]? = some (.cells #[.int .i64 v.kind, .int .u32 v.v, .int .i64 v.block] TV (0, 0))) := hg9
    clear hg7 hg9 y60 y61 y62 y70 y71 y72
    obtain ⟨_, ⟨y80, y81, y82⟩, _⟩ := PQ.out _ (HK5.out.trans (Kept.below HB8.out))
    generalize vbox (vbox w6 u) v = W7 at HG7 HG9 HB8 y80 y81 y82 ⊢
    go_cut [19] from 82 to 91 (fun x19 wx => x19 = .pointer (some ⟨w6.heap.size + 1, 0, none⟩) ∧ Hid (wx.heap[w6.heap.size + 1]? = some (.cells #[.int .i64 u.kind, .int .u32 u.v, .int .i64 u.block] TV (0, 0))) ∧ Hid (Below w5.heap.size w5 wx) ∧ Hid (wx.heap[w6.heap.size]? = some (.cells #[.int .i64 u.kind, .int .u32 u.v, .int .i64 u.block] TV (0, 0))))
    case first =>
      by_cases hk : v.kind = 1
      · have k1 : (v.kind == 1) = true := by simpa using hk
        have HK : Hid (v.kind = 1) := hk
        clear hk
        rcases HM.out with hem | hem | hem
        · have HEM : Hid (m = 1) := hem
          have hmul : IntKind.i64.wrap (8 * (m : Int)) = 8 := by rw [hem]; rfl
          have hu : u = ⟨1, v.v % 256, 0⟩ := by rw [HU.out]; unfold wantV; rw [if_pos HK.out, hem]; rfl
          have HU2 : Hid (u = ⟨1, v.v % 256, 0⟩) := hu
          rw [k1]
          have hand : bits .and .u32 v.v 255 = v.v % 256 := and_mask v.v 8 HV.out.v0 HV.out.v1 (by decide)
          clear hem hu k1
          go_wp2_with (go_at_call 12; refine (cN _ _).mono ?_; rintro e w8 ⟨rfl, hb8⟩; have HB9 : Hid (Below w5.heap.size w5 w8) := HB8.out.trans (hb8.mono HB8.out.size); have hg := (hb8.block _ (lt_of_heap HG9.out)).trans HG9.out; have ff := frozen3 hg; obtain ⟨o0, o1, o2⟩ := box3_cells hg; have HH7 : Hid (w8.heap[w6.heap.size]? = some (.cells #[.int .i64 u.kind, .int .u32 u.v, .int .i64 u.block] TV (0, 0))) := (hb8.block _ (lt_of_heap HG7.out)).trans HG7.out; have HH9 : Hid (w8.heap[w6.heap.size + 1]? = some (.cells #[.int .i64 v.kind, .int .u32 v.v, .int .i64 v.block] TV (0, 0))) := hg; clear hb8 hg)
          go_meet
          exact ⟨rfl, by rw [HU2.out]; exact box_set3 HH9.out, below_set3 HB9.out (Nat.le_trans HB6.out.size (Nat.le_succ _)), (heap_set3 (by omega) (lt_of_heap HH7.out)).trans HH7.out⟩
        · have HEM : Hid (m = 2) := hem
          have hmul : IntKind.i64.wrap (8 * (m : Int)) = 16 := by rw [hem]; rfl
          have hu : u = ⟨1, v.v % 65536, 0⟩ := by rw [HU.out]; unfold wantV; rw [if_pos HK.out, hem]; rfl
          have HU2 : Hid (u = ⟨1, v.v % 65536, 0⟩) := hu
          rw [k1]
          have hand : bits .and .u32 v.v 65535 = v.v % 65536 := and_mask v.v 16 HV.out.v0 HV.out.v1 (by decide)
          clear hem hu k1
          go_wp2_with (go_at_call 12; refine (cN _ _).mono ?_; rintro e w8 ⟨rfl, hb8⟩; have HB9 : Hid (Below w5.heap.size w5 w8) := HB8.out.trans (hb8.mono HB8.out.size); have hg := (hb8.block _ (lt_of_heap HG9.out)).trans HG9.out; have ff := frozen3 hg; obtain ⟨o0, o1, o2⟩ := box3_cells hg; have HH7 : Hid (w8.heap[w6.heap.size]? = some (.cells #[.int .i64 u.kind, .int .u32 u.v, .int .i64 u.block] TV (0, 0))) := (hb8.block _ (lt_of_heap HG7.out)).trans HG7.out; have HH9 : Hid (w8.heap[w6.heap.size + 1]? = some (.cells #[.int .i64 v.kind, .int .u32 v.v, .int .i64 v.block] TV (0, 0))) := hg; clear hb8 hg)
          go_meet
          exact ⟨rfl, by rw [HU2.out]; exact box_set3 HH9.out, below_set3 HB9.out (Nat.le_trans HB6.out.size (Nat.le_succ _)), (heap_set3 (by omega) (lt_of_heap HH7.out)).trans HH7.out⟩
        · have HEM : Hid (m = 4) := hem
          have hmul : IntKind.i64.wrap (8 * (m : Int)) = 32 := by rw [hem]; rfl
          have hu : u = ⟨1, v.v % 4294967296, 0⟩ := by rw [HU.out]; unfold wantV; rw [if_pos HK.out, hem]; rfl
          have HU2 : Hid (u = ⟨1, v.v % 4294967296, 0⟩) := hu
          rw [k1]
          have hand : bits .and .u32 v.v 4294967295 = v.v % 4294967296 := and_mask v.v 32 HV.out.v0 HV.out.v1 (by decide)
          clear hem hu k1
          go_wp2_with (go_at_call 12; refine (cN _ _).mono ?_; rintro e w8 ⟨rfl, hb8⟩; have HB9 : Hid (Below w5.heap.size w5 w8) := HB8.out.trans (hb8.mono HB8.out.size); have hg := (hb8.block _ (lt_of_heap HG9.out)).trans HG9.out; have ff := frozen3 hg; obtain ⟨o0, o1, o2⟩ := box3_cells hg; have HH7 : Hid (w8.heap[w6.heap.size]? = some (.cells #[.int .i64 u.kind, .int .u32 u.v, .int .i64 u.block] TV (0, 0))) := (hb8.block _ (lt_of_heap HG7.out)).trans HG7.out; have HH9 : Hid (w8.heap[w6.heap.size + 1]? = some (.cells #[.int .i64 v.kind, .int .u32 v.v, .int .i64 v.block] TV (0, 0))) := hg; clear hb8 hg)
          go_meet
          exact ⟨rfl, by rw [HU2.out]; exact box_set3 HH9.out, below_set3 HB9.out (Nat.le_trans HB6.out.size (Nat.le_succ _)), (heap_set3 (by omega) (lt_of_heap HH7.out)).trans HH7.out⟩
      · have k1 : (v.kind == 1) = false := by simpa using hk
        have hu : u = v := by rw [HU.out]; unfold wantV; rw [if_neg hk]
        have HU2 : Hid (u = v) := hu
        rw [k1]
        clear hu hk k1
        go_wp2_with fail
        go_meet
        exact ⟨rfl, by rw [HU2.out]; exact HG9.out, HB8.out, HG7.out⟩
    case rest =>
    obtain ⟨rfl, HA9, HBX, HA7⟩ := hcut
    rename World => W9
    have HK9 : Hid (Kept (Old (box3 w p v q)) w2 W9) := HK5.out.trans (Kept.below HBX.out)
    obtain ⟨⟨x90, x91, x92⟩, _⟩ := PQ.out W9 HK9.out
    have c9 := pCells_ok (HD5.out.below HBX.out) p.block k3 HL3.out
    rw [HS3.out] at c9
    have nu : ∀ Y : World, (binOp .neq TV (.agg #[.int .i64 u.kind, .int .u32 u.v, .int .i64 u.block]) (.agg #[.int .i64 u.kind, .int .u32 u.v, .int .i64 u.block])).run Try.prog Y = .ok (.bool false) Y := fun Y => by rw [neV2, sameV_self]; rfl
    have eu : ∀ Y : World, (binOp .eql TV (.agg #[.int .i64 u.kind, .int .u32 u.v, .int .i64 u.block]) (.agg #[.int .i64 u.kind, .int .u32 u.v, .int .i64 u.block])).run Try.prog Y = .ok (.bool true) Y := fun Y => by rw [eqV, sameV_self]
    have d0 : ((k1.size : Int) != (k1.size : Int)) = false := by simp
    clear y80 y81 y82
    go_wp2_with (go_at_call 13; refine c9.mono ?_; rintro e w10 ⟨g3, cap3, rfl, hc10, hg3, hb10⟩; have HB10 : Hid (Below w5.heap.size w5 w10) := HBX.out.trans (hb10.mono HBX.out.size); have HC10 : Hid (CellsAt w10 g1 k1.size k1.cell) := HC5.out.bel HB10.out; have HF10 : Hid (CellsAt w10 g3 k1.size k3.cell) := hc10; have HU7 : Hid (w10.heap[w6.heap.size]? = some (.cells #[.int .i64 u.kind, .int .u32 u.v, .int .i64 u.block] TV (0, 0))) := (hb10.block _ (lt_of_heap HA7.out)).trans HA7.out; have HU9 : Hid (w10.heap[w6.heap.size + 1]? = some (.cells #[.int .i64 u.kind, .int .u32 u.v, .int .i64 u.block] TV (0, 0))) := (hb10.block _ (lt_of_heap HA9.out)).trans HA9.out; obtain ⟨e70, e71, e72⟩ := box3_cells HU7.out; obtain ⟨e90, e91, e92⟩ := box3_cells HU9.out; clear hc10 hg3 hb10 c9 x90 x91 x92)
    clear e70 e71 e72 e90 e91 e92
    have PV : Hid (∀ Y, Below w10.heap.size w10 Y → Y.cell? ⟨w.heap.size, 1, none⟩ = some (.int .u32 v1)) := fun Y hY => by
      obtain ⟨⟨_, h1, _⟩, _⟩ := PQ.out Y ((HK5.out.trans (Kept.below HB10.out)).trans (Kept.below hY))
      rw [h1, HV1.out]
    have ne : ∀ (c : Cl) (Y : World), (binOp .neq TC (.agg #[.int .i64 c.kind, .int .u32 c.v, .int .i64 c.block, .int .i64 c.part]) (.agg #[.int .i64 c.kind, .int .u32 c.v, .int .i64 c.block, .int .i64 c.part])).run Try.prog Y = .ok (.bool false) Y := fun c Y => by rw [neC, sameC_self]; rfl
    go_loopw [22] (fun i_ wr => ∃ j : Nat, i_ = .int .i64 j ∧ j ≤ k1.size ∧ Hid (Below w10.heap.size w10 wr)) (fun i_ _ => k1.size - (intOf i_).toNat)
    case atStart => exact ⟨0, rfl, Nat.zero_le _, Below.refl _ _⟩
    case round =>
      obtain ⟨j, rfl, hj, HBr⟩ := hrel
      by_cases hlt : j < k1.size
      · have hr := HR1.out
        have iw1 : IntKind.i64.wrap (v1 : Int) = v1 := wrap_id (by omega) (by omega)
        have iw2 : IntKind.i64.wrap ((v1 : Int) + (m : Int)) = v1 + m := wrap_id (by omega) (by omega)
        obtain ⟨a0, a1, a2, a3⟩ := (HC10.out.bel HBr.out).cell hlt
        obtain ⟨c0, c1, c2, c3⟩ := (HF10.out.bel HBr.out).cell hlt
        have pv := PV.out wr HBr.out
        clear hr
        by_cases hin1 : j < v1
        · have b1 : decide ((j : Int) < (v1 : Int)) = true := by rw [decide_eq_true_iff]; omega
          have hcj : k3.cell j = k1.cell j := HCELL.out j (by omega)
          rw [hcj] at c0 c1 c2 c3
          have ne1 := ne (k1.cell j)
          generalize k1.cell j = c at a0 a1 a2 a3 c0 c1 c2 c3 ne1
          clear ne hcj
          go_wp2
          go_quiet (fail)
          go_wp2
          exact ⟨⟨j + 1, by go_num, by omega, HBr.out.trans ⟨rfl, rfl, rfl, Nat.le_refl _, fun _ _ => rfl⟩⟩, by simp [intOf]; omega⟩
        · by_cases hin2 : v1 + m ≤ j
          · have b1 : decide ((j : Int) < (v1 : Int)) = false := by rw [decide_eq_false_iff_not]; omega
            have b2 : decide ((v1 : Int) + (m : Int) ≤ (j : Int)) = true := by rw [decide_eq_true_iff]; omega
            have hcj : k3.cell j = k1.cell j := HCELL.out j (by omega)
            rw [hcj] at c0 c1 c2 c3
            have ne1 := ne (k1.cell j)
            generalize k1.cell j = c at a0 a1 a2 a3 c0 c1 c2 c3 ne1
            clear ne hcj
            go_wp2
            go_quiet (fail)
            go_wp2
            exact ⟨⟨j + 1, by go_num, by omega, HBr.out.trans ⟨rfl, rfl, rfl, Nat.le_refl _, fun _ _ => rfl⟩⟩, by simp [intOf]; omega⟩
          · have b1 : decide ((j : Int) < (v1 : Int)) = false := by rw [decide_eq_false_iff_not]; omega
            have b2 : decide ((v1 : Int) + (m : Int) ≤ (j : Int)) = false := by rw [decide_eq_false_iff_not]; omega
            clear ne
            go_wp2
            go_quiet (fail)
            go_wp2
            exact ⟨⟨j + 1, by go_num, by omega, HBr.out.trans ⟨rfl, rfl, rfl, Nat.le_refl _, fun _ _ => rfl⟩⟩, by simp [intOf]; omega⟩
      · obtain rfl : j = k1.size := by omega
        have HBr5 : Hid (Below w5.heap.size w5 wr) := HB10.out.trans (HBr.out.mono HB10.out.size)
        have HKr : Hid (Kept (Old (box3 w p v q)) w2 wr) := HK5.out.trans (Kept.below HBr5.out)
        obtain ⟨⟨x30, x31, x32⟩, _, z30, z31, z32⟩ := PQ.out wr HKr.out
        have HDr : Hid (D (NW (NW (Old (box3 w p v q)) w2 w4) w5 wr) b rb (stN s p m v) s wr) := HD5.out.wide HBr5.out
        have cC := pCopy HDr.out q p HQ.out HP.out m 1 HN0.out HN1.out
        rcases HCP.out with hcp | ⟨hcp, hld2⟩
        · rw [hcp] at cC
          clear hcp
          go_wp2_with (first
            | (go_at_call 14; refine cC.mono ?_; rintro e w11 ⟨rfl, hd11, hk11⟩; have HK11 : Hid (Kept (Old (box3 w p v q)) w2 w11) := HKr.out.trans (hk11.mono (fun _ h => Or.inl (Or.inl h))); clear cC hd11 hk11 x30 x31 x32 z30 z31 z32)
            | (go_at_call 11; refine (cH _).mono ?_; rintro e w15 ⟨rfl, hb15⟩; have HK15 : Hid (Kept (Old (box3 w p v q)) w2 w15) := HK11.out.trans (Kept.below hb15); clear hb15))
          go_ret
          exact ⟨rfl, HE.out _ HK15.out⟩
        · rw [hcp] at cC
          have HUr : Hid (wr.heap[w6.heap.size + 1]? = some (.cells #[.int .i64 u.kind, .int .u32 u.v, .int .i64 u.block] TV (0, 0))) := (HBr.out.block _ (lt_of_heap HU9.out)).trans HU9.out
          have HGu : Hid (w5.heap.size ≤ w6.heap.size + 1) := Nat.le_trans HB6.out.size (Nat.le_succ _)
          have hy : ∃ y st, (st = 3 ∨ (st = 0 ∧ y = u)) ∧ ldA (cpN (stN s p m v) q p m 1) q m false = (y, st) := by
            rcases hld2 with h | h
            · exact ⟨_, 3, Or.inl rfl, by rw [← h]⟩
            · exact ⟨u, 0, Or.inr ⟨rfl, rfl⟩, by rw [h, HU.out]⟩
          obtain ⟨y, st, hst, hy⟩ := hy
          have HY : Hid (ldA (cpN (stN s p m v) q p m 1) q m false = (y, st)) := hy
          clear hcp hld2 hy
          rcases hst with rfl | ⟨rfl, hyu⟩
          · go_wp2_with (first
              | (go_at_call 14; refine cC.mono ?_; rintro e w11 ⟨rfl, hd11, hk11⟩; have HK11 : Hid (Kept (Old (box3 w p v q)) w2 w11) := HKr.out.trans (hk11.mono (fun _ h => Or.inl (Or.inl h))); have HU11 : Hid (w11.heap[w6.heap.size + 1]? = some (.cells #[.int .i64 u.kind, .int .u32 u.v, .int .i64 u.block] TV (0, 0))) := (hk11.heap (lt_of_heap HUr.out) (Or.inr ⟨HGu.out, lt_of_heap HUr.out⟩)).trans HUr.out; obtain ⟨_, _, z40, z41, z42⟩ := PQ.out w11 HK11.out; have cL2 := pLoad hd11 q HQ.out m false HN0.out HN1.out; rw [HY.out] at cL2; simp only at cL2; clear cC hd11 hk11 x30 x31 x32 z30 z31 z32)
              | (go_at_call 19; refine cL2.mono ?_; rintro e w12 ⟨rfl, hb12⟩; have HK13 : Hid (Kept (Old (box3 w p v q)) w2 (vbox w12 y)) := (HK11.out.trans (Kept.below hb12)).trans (Kept.below (vbox_below w12 y)); have HU13 : (vbox w12 y).heap[w6.heap.size + 1]? = some (.cells #[.int .i64 u.kind, .int .u32 u.v, .int .i64 u.block] TV (0, 0)) := ((vbox_below w12 y).block _ (Nat.lt_of_lt_of_le (lt_of_heap HU11.out) hb12.size)).trans ((hb12.block _ (lt_of_heap HU11.out)).trans HU11.out); obtain ⟨e70, e71, e72⟩ := vbox_cells w12 y (Below.refl _ _); obtain ⟨e90, e91, e92⟩ := box3_cells HU13; unfold vbox at e70 e71 e72 e90 e91 e92; clear hb12 HU13 cL2 z40 z41 z42)
              | (go_at_call 11; refine (cH _).mono ?_; rintro e w15 ⟨rfl, hb15⟩; have HK15 : Hid (Kept (Old (box3 w p v q)) w2 w15) := HK13.out.trans (Kept.below hb15); clear hb15))
            go_ret
            exact ⟨rfl, HE.out _ HK15.out⟩
          · rw [hyu] at HY
            clear hyu
            go_wp2_with (first
              | (go_at_call 14; refine cC.mono ?_; rintro e w11 ⟨rfl, hd11, hk11⟩; have HK11 : Hid (Kept (Old (box3 w p v q)) w2 w11) := HKr.out.trans (hk11.mono (fun _ h => Or.inl (Or.inl h))); have HU11 : Hid (w11.heap[w6.heap.size + 1]? = some (.cells #[.int .i64 u.kind, .int .u32 u.v, .int .i64 u.block] TV (0, 0))) := (hk11.heap (lt_of_heap HUr.out) (Or.inr ⟨HGu.out, lt_of_heap HUr.out⟩)).trans HUr.out; obtain ⟨_, _, z40, z41, z42⟩ := PQ.out w11 HK11.out; have cL2 := pLoad hd11 q HQ.out m false HN0.out HN1.out; rw [HY.out] at cL2; simp only at cL2; clear cC hd11 hk11 x30 x31 x32 z30 z31 z32)
              | (go_at_call 19; refine cL2.mono ?_; rintro e w12 ⟨rfl, hb12⟩; have HK13 : Hid (Kept (Old (box3 w p v q)) w2 (vbox w12 u)) := (HK11.out.trans (Kept.below hb12)).trans (Kept.below (vbox_below w12 u)); have HU13 : (vbox w12 u).heap[w6.heap.size + 1]? = some (.cells #[.int .i64 u.kind, .int .u32 u.v, .int .i64 u.block] TV (0, 0)) := ((vbox_below w12 u).block _ (Nat.lt_of_lt_of_le (lt_of_heap HU11.out) hb12.size)).trans ((hb12.block _ (lt_of_heap HU11.out)).trans HU11.out); obtain ⟨e70, e71, e72⟩ := vbox_cells w12 u (Below.refl _ _); obtain ⟨e90, e91, e92⟩ := box3_cells HU13; unfold vbox at e70 e71 e72 e90 e91 e92; clear hb12 HU13 cL2 z40 z41 z42)
              | (go_at_call 11; refine (cH _).mono ?_; rintro e w15 ⟨rfl, hb15⟩; have HK15 : Hid (Kept (Old (box3 w p v q)) w2 w15) := HK13.out.trans (Kept.below hb15); clear hb15))
            go_ret
            exact ⟨rfl, HE.out _ HK15.out⟩
end
end Go.Proofs.Ytigiahcfcglacaa
