/-
  Copy.
-/
import Derived.Test.YtigiahcfcglacaaMmL
namespace Go.Proofs.Ytigiahcfcglacaa
open Go.RowKit Go.Maps
set_option linter.unusedVariables false
set_option maxRecDepth 100000
def SA (W0 Y : World) : Prop := Below W0.heap.size W0 Y
theorem SA.drew {W0 Y : World} (h : SA W0 Y) : SA W0 Y.drew := Below.drew h
theorem SA.below {W0 Y Z : World} (h : SA W0 Y) (hb : Below Y.heap.size Y Z) : SA W0 Z := Below.trans h (hb.mono (Below.size h))
theorem SA.refl (W0 : World) : SA W0 W0 := Below.refl _ _
theorem SA.b {W0 Y : World} (h : SA W0 Y) : Below W0.heap.size W0 Y := h
def clashB (t f : Vl) (n : Int) : Bool := decide (t.block = f.block) && !decide (t.v = f.v) && (if t.v < f.v then decide (f.v - t.v < n) else decide (t.v - f.v < n))
theorem max_u (a c : Int) (W : World) (ts : Array TypeId) (t : TypeId) : (Builtin.max_ ts t #[.int .u32 a, .int .u32 c]).run Try.prog W = .ok (.int .u32 (if a < c then c else a)) W := by
  simp [Builtin.max_, Builtin.max2]
theorem min_u (a c : Int) (W : World) (ts : Array TypeId) (t : TypeId) : (Builtin.min_ ts t #[.int .u32 a, .int .u32 c]).run Try.prog W = .ok (.int .u32 (if c < a then c else a)) W := by
  simp [Builtin.min_, Builtin.min2]
set_option maxHeartbeats 1000000 in
theorem clash_c (t f : Vl) (ht : VlOK t) (hf : VlOK f) (n : Int) (w : World) : Calls Try.prog 33 #[.agg #[.int .i64 t.kind, .int .u32 t.v, .int .i64 t.block], .agg #[.int .i64 f.kind, .int .u32 f.v, .int .i64 f.block], .int .i64 n] w fun e w' => e = .returned (.bool (clashB t f n)) ∧ Below w.heap.size w w' := by
  obtain ⟨⟨a0, a1, a2⟩, a3, a4, a5⟩ := box2_cells w t f
  have HB : Hid (Below w.heap.size w (box2 w t f)) := box2_below w t f
  obtain ⟨v0, v1, _, _⟩ := ht
  obtain ⟨u0, u1, _, _⟩ := hf
  have mx := max_u
  have mn := min_u
  obtain ⟨W, hW⟩ : ∃ W, W = box2 w t f := ⟨_, rfl⟩
  unfold clashB
  by_cases hb : t.block = f.block
  · have hb1 : (t.block != f.block) = false := by simpa using hb
    by_cases hv : t.v = f.v
    · have hv1 : (t.v == f.v) = true := by simpa using hv
      have hR : (decide (t.block = f.block) && !decide (t.v = f.v) && (if t.v < f.v then decide (f.v - t.v < n) else decide (t.v - f.v < n))) = false := by simp [hv]
      rw [hR]
      clear hR hb hv
      go_enter Try.func33, Try.ntmps33
      go_upto_region 1 with (fail)
      refine (?_ : Code.wp _ _ _ _ (box2 w t f))
      rw [← hW] at a0 a1 a2 a3 a4 a5 HB ⊢
      clear hW
      go_wp2
      go_ret
      exact ⟨rfl, HB.out⟩
    · have hv1 : (t.v == f.v) = false := by simpa using hv
      by_cases hl : t.v < f.v
      · have hR : (decide (t.block = f.block) && !decide (t.v = f.v) && (if t.v < f.v then decide (f.v - t.v < n) else decide (t.v - f.v < n))) = decide (f.v - t.v < n) := by simp [hv, hb, hl]
        rw [hR]
        have hl2 : ¬ f.v < t.v := by omega
        have mx1 := fun W ts t' => mx t.v f.v W ts t'
        have mn1 := fun W ts t' => mn t.v f.v W ts t'
        simp only [hl, hl2, if_true, if_false] at mx1 mn1
        clear hR hb hv mx mn
        go_enter Try.func33, Try.ntmps33
        go_upto_region 1 with (fail)
        refine (?_ : Code.wp _ _ _ _ (box2 w t f))
        rw [← hW] at a0 a1 a2 a3 a4 a5 HB ⊢
        clear hW
        go_wp2
        go_ret
        exact ⟨rfl, HB.out⟩
      · have hR : (decide (t.block = f.block) && !decide (t.v = f.v) && (if t.v < f.v then decide (f.v - t.v < n) else decide (t.v - f.v < n))) = decide (t.v - f.v < n) := by simp [hv, hb, hl]
        rw [hR]
        have hl2 : f.v < t.v := by omega
        have mx1 := fun W ts t' => mx t.v f.v W ts t'
        have mn1 := fun W ts t' => mn t.v f.v W ts t'
        simp only [hl, hl2, if_true, if_false] at mx1 mn1
        clear hR hb hv mx mn
        go_enter Try.func33, Try.ntmps33
        go_upto_region 1 with (fail)
        refine (?_ : Code.wp _ _ _ _ (box2 w t f))
        rw [← hW] at a0 a1 a2 a3 a4 a5 HB ⊢
        clear hW
        go_wp2
        go_ret
        exact ⟨rfl, HB.out⟩
  · have hb1 : (t.block != f.block) = true := by simpa using hb
    have hR : (decide (t.block = f.block) && !decide (t.v = f.v) && (if t.v < f.v then decide (f.v - t.v < n) else decide (t.v - f.v < n))) = false := by simp [hb]
    rw [hR]
    clear hR hb
    go_enter Try.func33, Try.ntmps33
    go_upto_region 1 with (fail)
    refine (?_ : Code.wp _ _ _ _ (box2 w t f))
    rw [← hW] at a0 a1 a2 a3 a4 a5 HB ⊢
    clear hW
    go_wp2
    go_ret
    exact ⟨rfl, HB.out⟩
/-- Cells copied one behind the other. -/
def cpy (tb : Bk) (i1 i2 : Nat) (sb : Bk) (tv fv : Nat) : Nat → Bk
  | 0 => tb
  | k + 1 => (cpy tb i1 i2 sb tv fv k).put (tv + k) ((if i1 = i2 then cpy tb i1 i2 sb tv fv k else sb).cell (fv + k))
theorem cpy_size (tb : Bk) (i1 i2 : Nat) (sb : Bk) (tv fv k : Nat) : (cpy tb i1 i2 sb tv fv k).size = tb.size := by
  induction k with
  | zero => rfl
  | succ k ih => exact ih
theorem After.src {w wr : World} {b : Nat} {xs : List (Option Bx)} {P : Nat → Prop} {i : Nat} {x : Bx} {bk : Bk} (h : After w b xs P i x bk wr) (hx : xs[i]? = some (some x)) {i2 : Nat} {x2 : Bx} (hx2 : xs[i2]? = some (some x2)) (hsz : bk.size = x.bk.size) {k : Nat} (hk : k < x2.bk.size) :
    Calls Try.prog 35 #[.pointer (some ⟨x2.bb, 0, none⟩), .int .i64 k] wr fun e w' => e = .returned (.agg #[.int .i64 ((if i = i2 then bk else x2.bk).cell k).kind, .int .u32 ((if i = i2 then bk else x2.bk).cell k).v, .int .i64 ((if i = i2 then bk else x2.bk).cell k).block, .int .i64 ((if i = i2 then bk else x2.bk).cell k).part]) ∧ Below wr.heap.size wr w' := by
  by_cases e : i = i2
  · subst e
    rw [hx] at hx2; cases hx2
    rw [if_pos rfl]
    exact h.at_ (List.getElem?_eq_some_iff.1 hx).1 (by omega)
  · rw [if_neg e]
    obtain ⟨x', P', rfl, h2, h3, h4, h5⟩ := h
    exact at_c (h3.at_ (i := i2) (x := x2) (by rw [List.getElem?_set_ne e]; exact hx2)) k hk
section
variable {w : World} {b : Nat} {xs : List (Option Bx)} {P : Nat → Prop}
theorem After.cp {wr : World} {i1 i2 : Nat} {x1 x2 : Bx} {tv fv k : Nat} (h : After w b xs P i1 x1 (cpy x1.bk i1 i2 x2.bk tv fv k) wr) (hi : i1 < xs.length) (hk : tv + k < x1.bk.size) (c : Cl) (hc : c = (if i1 = i2 then cpy x1.bk i1 i2 x2.bk tv fv k else x2.bk).cell (fv + k)) :
    Calls Try.prog 34 #[.pointer (some ⟨x1.bb, 0, none⟩), .int .i64 ((tv : Int) + (k : Int)), .agg #[.int .i64 c.kind, .int .u32 c.v, .int .i64 c.block, .int .i64 c.part]] wr fun e w' => e = .returned (.tuple #[]) ∧ After w b xs P i1 x1 (cpy x1.bk i1 i2 x2.bk tv fv (k + 1)) w' := by
  have := h.put hi (k := tv + k) (by rw [cpy_size]; exact hk) c
  rw [show ((tv : Int) + (k : Int)) = ((tv + k : Nat) : Int) by omega]
  subst hc
  exact this
theorem After.rd {wr : World} {i1 i2 : Nat} {x1 x2 : Bx} {tv fv k : Nat} (h : After w b xs P i1 x1 (cpy x1.bk i1 i2 x2.bk tv fv k) wr) (hx : xs[i1]? = some (some x1)) (hx2 : xs[i2]? = some (some x2)) (hk : fv + k < x2.bk.size) (c : Cl) (hc : c = (if i1 = i2 then cpy x1.bk i1 i2 x2.bk tv fv k else x2.bk).cell (fv + k)) :
    Calls Try.prog 35 #[.pointer (some ⟨x2.bb, 0, none⟩), .int .i64 ((fv : Int) + (k : Int))] wr fun e w' => e = .returned (.agg #[.int .i64 c.kind, .int .u32 c.v, .int .i64 c.block, .int .i64 c.part]) ∧ Below wr.heap.size wr w' := by
  have := h.src hx hx2 (cpy_size _ _ _ _ _ _ _) hk
  rw [show ((fv : Int) + (k : Int)) = ((fv + k : Nat) : Int) by omega]
  subst hc
  exact this
def ptrR (xs : List (Option Bx)) (n al : Int) (k v bl : Int) : Value := ptrX (roomX xs ⟨k, v, bl⟩ n al)
set_option maxHeartbeats 4000000 in
theorem copy_bad (h : MemX w b xs P) (t f : Vl) (ht : VlOK t) (hf : VlOK f) (n al : Int) (n0 : -9223372036854775808 ≤ n) (n1 : n < 9223372036854775808) (hr : roomX xs t n al = none ∨ roomX xs f n al = none ∨ clashB t f n = true) :
    Calls Try.prog 14 #[.pointer (some ⟨b, 0, none⟩), .agg #[.int .i64 t.kind, .int .u32 t.v, .int .i64 t.block], .agg #[.int .i64 f.kind, .int .u32 f.v, .int .i64 f.block], .int .i64 n, .int .i64 al] w fun e w' => e = .returned (.int .i64 3) ∧ Below w.heap.size w w' := by
  have hB := box2_below w t f
  obtain ⟨⟨a0, a1, a2⟩, a3, a4, a5⟩ := box2_cells w t f
  have cc := fun Y => clash_c t f ht hf n Y
  have hsz := box2_size w t f
  have HB : Hid (Below w.heap.size w (box2 w t f)) := hB
  have H : Hid (MemX (box2 w t f) b xs P) := h.keptB hB
  obtain ⟨W, hW⟩ : ∃ W, W = box2 w t f := ⟨_, rfl⟩
  have e1 := eq_nil
  have e2 := eq_some
  have cR : ∀ Y, SA W Y → ∀ k v bl, (VlOK ⟨k, v, bl⟩) → Calls Try.prog 32 #[.pointer (some ⟨b, 0, none⟩), .agg #[.int .i64 k, .int .u32 v, .int .i64 bl], .int .i64 n, .int .i64 al] Y fun e w' => e = .returned (ptrR xs n al k v bl) ∧ Below Y.heap.size Y w' := fun Y hY k v bl hv => room_c (p := ⟨k, v, bl⟩) ((show MemX W b xs P from hW ▸ H.out).keptB hY.b) hv n al n0 n1
  have HT : Hid (VlOK ⟨t.kind, t.v, t.block⟩) := ht
  have HF : Hid (VlOK ⟨f.kind, f.v, f.block⟩) := hf
  obtain ⟨r1, hr1⟩ : ∃ r1, ptrR xs n al t.kind t.v t.block = .pointer r1 := ⟨_, rfl⟩
  obtain ⟨r2, hr2⟩ : ∃ r2, ptrR xs n al f.kind f.v f.block = .pointer r2 := ⟨_, rfl⟩
  have hr' : r1 = none ∨ r2 = none ∨ clashB t f n = true := by
    rcases hr with e | e | e
    · left
      have : ptrR xs n al t.kind t.v t.block = ptrX (roomX xs t n al) := rfl
      rw [this, e] at hr1; exact (Value.pointer.inj hr1).symm
    · right; left
      have : ptrR xs n al f.kind f.v f.block = ptrX (roomX xs f n al) := rfl
      rw [this, e] at hr2; exact (Value.pointer.inj hr2).symm
    · exact Or.inr (Or.inr e)
  clear hr h hB ht hf
  have HW : SA W W := SA.refl _
  go_enter Try.func14, Try.ntmps14
  go_upto_region 1 with (fail)
  refine (?_ : Code.wp _ _ _ _ (box2 w t f))
  rw [← hW] at a0 a1 a2 a3 a4 a5 HB hsz H ⊢
  clear hW
  have b0 : ∀ Y, SA W Y → Y.cell? ⟨w.heap.size, 0, none⟩ = some (.int .i64 t.kind) := fun Y h => (Below.cell h (p := ⟨w.heap.size, 0, none⟩) (by simp; omega)).trans a0
  have b1 : ∀ Y, SA W Y → Y.cell? ⟨w.heap.size, 1, none⟩ = some (.int .u32 t.v) := fun Y h => (Below.cell h (p := ⟨w.heap.size, 1, none⟩) (by simp; omega)).trans a1
  have b2 : ∀ Y, SA W Y → Y.cell? ⟨w.heap.size, 2, none⟩ = some (.int .i64 t.block) := fun Y h => (Below.cell h (p := ⟨w.heap.size, 2, none⟩) (by simp; omega)).trans a2
  have b3 : ∀ Y, SA W Y → Y.cell? ⟨w.heap.size + 1, 0, none⟩ = some (.int .i64 f.kind) := fun Y h => (Below.cell h (p := ⟨w.heap.size + 1, 0, none⟩) (by simp; omega)).trans a3
  have b4 : ∀ Y, SA W Y → Y.cell? ⟨w.heap.size + 1, 1, none⟩ = some (.int .u32 f.v) := fun Y h => (Below.cell h (p := ⟨w.heap.size + 1, 1, none⟩) (by simp; omega)).trans a4
  have b5 : ∀ Y, SA W Y → Y.cell? ⟨w.heap.size + 1, 2, none⟩ = some (.int .i64 f.block) := fun Y h => (Below.cell h (p := ⟨w.heap.size + 1, 2, none⟩) (by simp; omega)).trans a5
  have HCP : Hid (∀ Y, SA W Y → Below w.heap.size w Y) := fun Y h => HB.out.trans (Below.mono h (by omega))
  clear a0 a1 a2 a3 a4 a5
  go_wp2
  go_region_held3 (fun Y => SA W Y) (first | assumption | (with_reducible refine SA.drew ?_; assumption) | (with_reducible refine SA.below ?_ (by assumption); assumption)) ((go_at_call 32; refine (cR _ (by assumption) _ _ _ (by first | exact HT.out | exact HF.out)).mono ?_; rintro e y1 ⟨rfl, hy1⟩))
  rename_i hHeld
  have HBF : Hid (Below w.heap.size w y1) := HCP.out _ hHeld
  have d0 := b0 _ hHeld
  have d1 := b1 _ hHeld
  have d2 := b2 _ hHeld
  have d3 := b3 _ hHeld
  have d4 := b4 _ hHeld
  have d5 := b5 _ hHeld
  clear hr1 hr2 cR b0 b1 b2 b3 b4 b5 HW hHeld
  rcases r1 with _ | a1
  · go_wp2
    go_ret
    exact ⟨rfl, HBF.out⟩
  · rcases r2 with _ | a2
    · go_wp2
      go_ret
      exact ⟨rfl, HBF.out⟩
    · have hcl : clashB t f n = true := by
        rcases hr' with e | e | e
        · cases e
        · cases e
        · exact e
      simp only [hcl] at cc
      clear hr' hcl
      go_wp2_with fail
      refine (cc _).mono ?_; rintro e y3 ⟨rfl, hb3⟩
      have HB3 : Hid (Below w.heap.size w y3) := HBF.out.trans (hb3.mono HBF.out.size)
      clear hb3 cc
      go_wp2
      go_ret
      exact ⟨rfl, HB3.out⟩
set_option maxHeartbeats 8000000 in
theorem copy_ok (h : MemX w b xs P) (t f : Vl) (ht : VlOK t) (hf : VlOK f) (n tv fv : Nat) (al : Int) (i1 i2 : Nat) (x1 x2 : Bx) (htv : t.v = tv) (hfv : f.v = fv) (hr1 : roomX xs t n al = some x1) (hr2 : roomX xs f n al = some x2) (hx1 : xs[i1]? = some (some x1)) (hx2 : xs[i2]? = some (some x2)) (hcl : clashB t f n = false) :
    Calls Try.prog 14 #[.pointer (some ⟨b, 0, none⟩), .agg #[.int .i64 t.kind, .int .u32 t.v, .int .i64 t.block], .agg #[.int .i64 f.kind, .int .u32 f.v, .int .i64 f.block], .int .i64 n, .int .i64 al] w fun e w' => e = .returned (.int .i64 0) ∧ After w b xs P i1 x1 (cpy x1.bk i1 i2 x2.bk tv fv n) w' := by
  obtain ⟨hvs1, _, _, _, _, hn1, hn2⟩ := roomX_some hr1
  obtain ⟨hvs2, _, _, _, _, _, hm2⟩ := roomX_some hr2
  have hmx1 := (h.at_ hx1).max
  have hmx2 := (h.at_ hx2).max
  have hil1 : i1 < xs.length := (List.getElem?_eq_some_iff.1 hx1).1
  have n0 : -9223372036854775808 ≤ (n : Int) := by omega
  have n1 : (n : Int) < 9223372036854775808 := by omega
  have hB := box2_below w t f
  obtain ⟨⟨a0, a1, a2⟩, a3, a4, a5⟩ := box2_cells w t f
  have cc := fun Y => clash_c t f ht hf n Y
  have hsz := box2_size w t f
  have HB : Hid (Below w.heap.size w (box2 w t f)) := hB
  have H : Hid (MemX (box2 w t f) b xs P) := h.keptB hB
  obtain ⟨W, hW⟩ : ∃ W, W = box2 w t f := ⟨_, rfl⟩
  have e1 := eq_nil
  have e2 := eq_some
  have cR : ∀ Y, SA W Y → ∀ k v bl, (VlOK ⟨k, v, bl⟩) → Calls Try.prog 32 #[.pointer (some ⟨b, 0, none⟩), .agg #[.int .i64 k, .int .u32 v, .int .i64 bl], .int .i64 n, .int .i64 al] Y fun e w' => e = .returned (ptrR xs n al k v bl) ∧ Below Y.heap.size Y w' := fun Y hY k v bl hv => room_c (p := ⟨k, v, bl⟩) ((show MemX W b xs P from hW ▸ H.out).keptB hY.b) hv n al n0 n1
  have HT : Hid (VlOK ⟨t.kind, t.v, t.block⟩) := ht
  have HF : Hid (VlOK ⟨f.kind, f.v, f.block⟩) := hf
  have hq1 : ptrR xs n al t.kind t.v t.block = .pointer (some ⟨x1.bb, 0, none⟩) := by
    have : ptrR xs n al t.kind t.v t.block = ptrX (roomX xs t n al) := rfl
    rw [this, hr1]; rfl
  have hq2 : ptrR xs n al f.kind f.v f.block = .pointer (some ⟨x2.bb, 0, none⟩) := by
    have : ptrR xs n al f.kind f.v f.block = ptrX (roomX xs f n al) := rfl
    rw [this, hr2]; rfl
  have hvn1 : tv + n ≤ x1.bk.size := by omega
  have hvn2 : fv + n ≤ x2.bk.size := by omega
  have H0 : Hid (MemX w b xs P) := h
  have HX1 : Hid (xs[i1]? = some (some x1)) := hx1
  have HX2 : Hid (xs[i2]? = some (some x2)) := hx2
  have HTV : Hid (t.v = tv) := htv
  have HFV : Hid (f.v = fv) := hfv
  have n2 := not_t
  simp only [hcl] at cc
  clear hr1 hr2 h hB ht hf hx1 hx2 htv hfv hcl
  have HW : SA W W := SA.refl _
  go_enter Try.func14, Try.ntmps14
  go_upto_region 1 with (fail)
  refine (?_ : Code.wp _ _ _ _ (box2 w t f))
  rw [← hW] at a0 a1 a2 a3 a4 a5 HB hsz H ⊢
  clear hW
  have b0 : ∀ Y, SA W Y → Y.cell? ⟨w.heap.size, 0, none⟩ = some (.int .i64 t.kind) := fun Y h => (Below.cell h (p := ⟨w.heap.size, 0, none⟩) (by simp; omega)).trans a0
  have b1 : ∀ Y, SA W Y → Y.cell? ⟨w.heap.size, 1, none⟩ = some (.int .u32 t.v) := fun Y h => (Below.cell h (p := ⟨w.heap.size, 1, none⟩) (by simp; omega)).trans a1
  have b2 : ∀ Y, SA W Y → Y.cell? ⟨w.heap.size, 2, none⟩ = some (.int .i64 t.block) := fun Y h => (Below.cell h (p := ⟨w.heap.size, 2, none⟩) (by simp; omega)).trans a2
  have b3 : ∀ Y, SA W Y → Y.cell? ⟨w.heap.size + 1, 0, none⟩ = some (.int .i64 f.kind) := fun Y h => (Below.cell h (p := ⟨w.heap.size + 1, 0, none⟩) (by simp; omega)).trans a3
  have b4 : ∀ Y, SA W Y → Y.cell? ⟨w.heap.size + 1, 1, none⟩ = some (.int .u32 f.v) := fun Y h => (Below.cell h (p := ⟨w.heap.size + 1, 1, none⟩) (by simp; omega)).trans a4
  have b5 : ∀ Y, SA W Y → Y.cell? ⟨w.heap.size + 1, 2, none⟩ = some (.int .i64 f.block) := fun Y h => (Below.cell h (p := ⟨w.heap.size + 1, 2, none⟩) (by simp; omega)).trans a5
  have HCP : Hid (∀ Y, SA W Y → Below w.heap.size w Y) := fun Y h => HB.out.trans (Below.mono h (by omega))
  clear a0 a1 a2 a3 a4 a5
  go_wp2
  go_region_held3 (fun Y => SA W Y) (first | assumption | (with_reducible refine SA.drew ?_; assumption) | (with_reducible refine SA.below ?_ (by assumption); assumption)) ((go_at_call 32; refine (cR _ (by assumption) _ _ _ (by first | exact HT.out | exact HF.out)).mono ?_; rintro e y1 ⟨rfl, hy1⟩))
  rename_i hHeld
  have HBF : Hid (Below w.heap.size w y1) := HCP.out _ hHeld
  have d0 := b0 _ hHeld
  have d1 := b1 _ hHeld
  have d2 := b2 _ hHeld
  have d3 := b3 _ hHeld
  have d4 := b4 _ hHeld
  have d5 := b5 _ hHeld
  clear hq1 hq2 cR b0 b1 b2 b3 b4 b5 HW hHeld e1
  go_wp2_with fail
  refine (cc _).mono ?_; rintro e y3 ⟨rfl, hb3⟩
  have HB3 : Hid (Below w.heap.size w y3) := HBF.out.trans (hb3.mono HBF.out.size)
  have k1 := (hb3.cell (p := ⟨w.heap.size, 1, none⟩) (World.block_lt_of_cell? y1 _ d1)).trans d1
  have k4 := (hb3.cell (p := ⟨w.heap.size + 1, 1, none⟩) (World.block_lt_of_cell? y1 _ d4)).trans d4
  rw [HTV.out] at k1
  rw [HFV.out] at k4
  have hl1 : w.heap.size < y3.heap.size := World.block_lt_of_cell? y3 _ k1
  have hl4 : w.heap.size + 1 < y3.heap.size := World.block_lt_of_cell? y3 _ k4
  have hP : ¬ P w.heap.size := fun hp => absurd (H0.out.lt _ hp) (by omega)
  have hP2 : ¬ P (w.heap.size + 1) := fun hp => absurd (H0.out.lt _ hp) (by omega)
  have HA : Hid (After y3 b xs P i1 x1 (cpy x1.bk i1 i2 x2.bk tv fv 0) y3) := After.start (H0.out.keptB HB3.out) HX1.out
  clear hb3 cc d0 d1 d2 d3 d4 d5
  go_wp2
  go_loopw [37] (fun i_ wr => ∃ (k : Nat), i_ = .int .i64 k ∧ k ≤ n ∧ Hid (After y3 b xs P i1 x1 (cpy x1.bk i1 i2 x2.bk tv fv k) wr)) (fun i_ _ => n - (intOf i_).toNat)
  case atStart => exact ⟨0, rfl, Nat.zero_le _, HA⟩
  case round =>
    obtain ⟨k, rfl, hk, HR⟩ := hrel
    by_cases hlt2 : k < n
    · have q1 := (HR.out.cell hl1 hP 1).trans k1
      have q4 := (HR.out.cell hl4 hP2 1).trans k4
      have hvk1 : tv + k < x1.bk.size := by omega
      have hvk2 : fv + k < x2.bk.size := by omega
      have w1_ := wrap_id (n := (tv : Int)) (by omega) (by omega)
      have w2_ := wrap_id (n := (tv : Int) + (k : Int)) (by omega) (by omega)
      have w3_ := wrap_id (n := (fv : Int)) (by omega) (by omega)
      have w4_ := wrap_id (n := (fv : Int) + (k : Int)) (by omega) (by omega)
      obtain ⟨c, hc⟩ : ∃ c, c = (if i1 = i2 then cpy x1.bk i1 i2 x2.bk tv fv k else x2.bk).cell (fv + k) := ⟨_, rfl⟩
      have HC : Hid (c = (if i1 = i2 then cpy x1.bk i1 i2 x2.bk tv fv k else x2.bk).cell (fv + k)) := hc
      clear hc
      have cb := (HR.out.below (Below.refl _ wr).drew).rd HX1.out HX2.out hvk2 c HC.out
      have hlr : w.heap.size < wr.heap.size := World.block_lt_of_cell? wr _ q1
      have hlr4 : w.heap.size + 1 < wr.heap.size := World.block_lt_of_cell? wr _ q4
      go_wp2
      go_region_with (first | (go_at_call 35; refine cb.mono ?_; rintro e w2 ⟨rfl, hb0⟩; have hb2 : Below wr.heap.size wr w2 := (Below.refl _ wr).drew.trans hb0; have q2 := (hb2.cell (p := ⟨w.heap.size, 1, none⟩) hlr).trans q1; have q3 := (hb2.cell (p := ⟨w.heap.size + 1, 1, none⟩) hlr4).trans q4; have cp := (HR.out.below hb2).cp hil1 hvk1 c HC.out; clear hb2 hb0 cb) | (go_at_call 34; refine cp.mono ?_; rintro e w3 ⟨rfl, hA3⟩; have HA3 : Hid (After y3 b xs P i1 x1 (cpy x1.bk i1 i2 x2.bk tv fv (k + 1)) w3) := hA3; clear hA3 cp))
      all_goals go_wp2
      all_goals exact ⟨⟨k + 1, by go_num, by omega, HA3⟩, by simp [intOf]; omega⟩
    · obtain rfl : k = n := by omega
      go_wp2
      go_ret
      refine ⟨rfl, ?_⟩
      obtain ⟨x', P', h1, h2, h3, h4, h5⟩ := HR.out
      exact ⟨x', P', h1, h2, h3, (Turned.of_below HB3.out P).trans h4 (fun _ _ h => h), fun m hm => (h5 m hm).imp id (fun h => Nat.le_trans HB3.out.size h)⟩
end
end Go.Proofs.Ytigiahcfcglacaa
