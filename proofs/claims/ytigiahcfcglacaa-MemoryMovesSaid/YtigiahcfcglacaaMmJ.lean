/-
  Cells; a block in which some cells were put; Zero.
-/
import Derived.Test.YtigiahcfcglacaaMmI
namespace Go.Proofs.Ytigiahcfcglacaa
open Go.RowKit Go.Maps
set_option linter.unusedVariables false
set_option maxRecDepth 100000
theorem MemX.map_at' {w : World} {b : Nat} {xs : List (Option Bx)} {P : Nat → Prop} (h : MemX w b xs P) : ∃ mb es ck, w.heap[b]? = some (.cells #[.pointer (some ⟨b, 0, none⟩), .map (some mb), .int .i64 xs.length] TMm (0, 0)) ∧ w.heap[mb]? = some (.map es ck) ∧ Ents es xs ∧ w.cell? ⟨b, 1, none⟩ = some (.map (some mb)) := by
  obtain ⟨mb, es, ck, q1, q2, q3, q4⟩ := h.head
  exact ⟨mb, es, ck, q1, q2, q4, by rw [Lib.cell_of_heap q1]; rfl⟩
set_option maxHeartbeats 1000000 in
theorem cells_bad {w : World} {b : Nat} {xs : List (Option Bx)} {P : Nat → Prop} (h : MemX w b xs P) (n : Int) (n0 : -9223372036854775808 ≤ n) (n1 : n < 9223372036854775808) (hl : look xs n = none) :
    Calls Try.prog 13 #[.pointer (some ⟨b, 0, none⟩), .int .i64 n] w fun e w' => e = .returned (.tuple #[.slice none 0 0, .int .i64 2]) ∧ w' = w := by
  have c := given_c h.c012.1
  have n2 := not_t
  have e1 := eq_nil
  obtain ⟨mb, es, ck, q1, q2, q3, k1⟩ := h.map_at'
  have lk := look_run q2 q3 h.len n n0 n1
  rw [hl] at lk
  simp only [ptrX, Option.map_none] at lk
  clear h q1 q2 q3 hl
  go_enter Try.func13, Try.ntmps13
  go_wp2_with (go_at_call 30; refine c.mono ?_; rintro e w' ⟨rfl, hw⟩; rw [hw]; clear hw w')
  go_ret2
  exact ⟨rfl, rfl⟩
set_option maxHeartbeats 1000000 in
theorem cells_ok {w : World} {b : Nat} {xs : List (Option Bx)} {P : Nat → Prop} (h : MemX w b xs P) {i : Nat} {x : Bx} (hx : xs[i]? = some (some x)) :
    Calls Try.prog 13 #[.pointer (some ⟨b, 0, none⟩), .int .i64 ((i : Int) + 1)] w fun e w' => ∃ g cap, e = .returned (.tuple #[.slice (some ⟨g, 0, none⟩) x.bk.size cap, .int .i64 0]) ∧ CellsAt w' g x.bk.size x.bk.cell ∧ w.heap.size ≤ g ∧ Below w.heap.size w w' := by
  have c := given_c h.c012.1
  have n2 := not_t
  have e2 := eq_some
  have hil : i < xs.length := (List.getElem?_eq_some_iff.1 hx).1
  have hlen := h.len
  obtain ⟨mb, es, ck, q1, q2, q3, k1⟩ := h.map_at'
  have lk := look_run q2 q3 h.len ((i : Int) + 1) (by omega) (by omega)
  rw [look_at hx] at lk
  simp only [ptrX, Option.map_some] at lk
  have ca := all_c (h.at_ hx)
  clear h q1 q2 q3 hx
  go_enter Try.func13, Try.ntmps13
  go_wp2_with (first | (go_at_call 30; refine c.mono ?_; rintro e w' ⟨rfl, hw⟩; rw [hw]; clear hw w') | (go_at_call 31; refine ca.mono ?_; rintro e w1 ⟨g, cap, rfl, h1, h2, h3⟩; have H1 : Hid (CellsAt w1 g x.bk.size x.bk.cell) := h1; have H3 : Hid (Below w.heap.size w w1) := h3; clear h1 h3))
  go_ret2
  exact ⟨g, cap, rfl, H1.out, h2, H3.out⟩

/-- The memory w whose block i has other cells by now. -/
def After (w : World) (b : Nat) (xs : List (Option Bx)) (P : Nat → Prop) (i : Nat) (x : Bx) (bk : Bk) (wr : World) : Prop :=
  ∃ (x' : Bx) (P' : Nat → Prop), x'.bk = bk ∧ x'.bb = x.bb ∧ MemX wr b (xs.set i (some x')) P' ∧ Turned w wr P ∧ ∀ m, P' m → P m ∨ w.heap.size ≤ m
namespace After
variable {w wr : World} {b : Nat} {xs : List (Option Bx)} {P : Nat → Prop} {i : Nat} {x : Bx} {bk : Bk}
theorem start (h : MemX w b xs P) (hx : xs[i]? = some (some x)) : After w b xs P i x x.bk w := ⟨x, P, rfl, rfl, by rw [set_self hx]; exact h, Turned.refl _ _, fun m hm => Or.inl hm⟩
theorem below (h : After w b xs P i x bk wr) {w' : World} (hb : Below wr.heap.size wr w') : After w b xs P i x bk w' := by
  obtain ⟨x', P', h1, h2, h3, h4, h5⟩ := h
  exact ⟨x', P', h1, h2, h3.keptB hb, h4.trans (Turned.of_below hb P) (fun _ _ h => h), h5⟩
theorem put (h : After w b xs P i x bk wr) (hi : i < xs.length) {k : Nat} (hk : k < bk.size) (c : Cl) :
    Calls Try.prog 34 #[.pointer (some ⟨x.bb, 0, none⟩), .int .i64 k, .agg #[.int .i64 c.kind, .int .u32 c.v, .int .i64 c.block, .int .i64 c.part]] wr fun e w' => e = .returned (.tuple #[]) ∧ After w b xs P i x (bk.put k c) w' := by
  obtain ⟨x', P', rfl, h2, h3, h4, h5⟩ := h
  have := put_c h3 (i := i) (x := x') (List.getElem?_set_self hi) k hk c
  rw [h2] at this
  refine this.mono ?_
  rintro e w' ⟨rfl, x2, P2, g1, g2, g3, g4, g5⟩
  refine ⟨rfl, ⟨x2, P2, g1, g2, by rw [List.set_set] at g3; exact g3, h4.trans g4 (fun m hm hp => ?_), fun m hm => ?_⟩⟩
  · rcases h5 m hp with h | h
    · exact h
    · omega
  · rcases g5 m hm with h | h
    · exact h5 m h
    · exact Or.inr (Nat.le_trans h4.size h)
theorem at_ (h : After w b xs P i x bk wr) (hi : i < xs.length) {k : Nat} (hk : k < bk.size) :
    Calls Try.prog 35 #[.pointer (some ⟨x.bb, 0, none⟩), .int .i64 k] wr fun e w' => e = .returned (.agg #[.int .i64 (bk.cell k).kind, .int .u32 (bk.cell k).v, .int .i64 (bk.cell k).block, .int .i64 (bk.cell k).part]) ∧ Below wr.heap.size wr w' := by
  obtain ⟨x', P', rfl, h2, h3, h4, h5⟩ := h
  have := at_c (h3.at_ (i := i) (x := x') (List.getElem?_set_self hi)) k hk
  rw [h2] at this
  exact this
theorem cell (h : After w b xs P i x bk wr) {g : Nat} (hg : g < w.heap.size) (hP : ¬ P g) (j : Nat) : wr.cell? ⟨g, j, none⟩ = w.cell? ⟨g, j, none⟩ := by
  obtain ⟨x', P', rfl, h2, h3, h4, h5⟩ := h
  exact World.cell?_of_block (h4.block g hg hP)
end After
def Bk.fill (x : Bk) (first : Nat) (f : Nat → Cl) (n : Nat) : Bk := { x with cell := fun k => if first ≤ k ∧ k < first + n then f (k - first) else x.cell k }
theorem bk_ext {x y : Bk} (h1 : x.size = y.size) (h2 : x.align = y.align) (h3 : ∀ k, x.cell k = y.cell k) : x = y := by
  cases x; cases y
  simp only at h1 h2 h3
  subst h1; subst h2
  congr 1; funext k; exact h3 k
theorem fill_zero (x : Bk) (first : Nat) (f : Nat → Cl) : x.fill first f 0 = x := bk_ext rfl rfl (fun k => by show (if first ≤ k ∧ k < first + 0 then _ else _) = _; rw [if_neg (by omega)])
theorem fill_succ (x : Bk) (first : Nat) (f : Nat → Cl) (n : Nat) : x.fill first f (n + 1) = (x.fill first f n).put (first + n) (f n) := by
  refine bk_ext rfl rfl (fun k => ?_)
  show (if first ≤ k ∧ k < first + (n + 1) then f (k - first) else x.cell k) = if k = first + n then f n else (if first ≤ k ∧ k < first + n then f (k - first) else x.cell k)
  by_cases e : k = first + n
  · rw [if_pos (by omega), if_pos e]; congr 1; omega
  · rw [if_neg e]
    by_cases e2 : first ≤ k ∧ k < first + n
    · rw [if_pos e2, if_pos (by omega)]
    · rw [if_neg e2, if_neg (by omega)]
theorem roomX_some {xs : List (Option Bx)} {p : Vl} {n w : Int} {x : Bx} (h : roomX xs p n w = some x) : p.v ≤ x.bk.size ∧ (∃ i : Nat, p.block = (i : Int) + 1 ∧ xs[i]? = some (some x)) ∧ isW w = true ∧ w ≤ x.bk.align ∧ p.v % w = 0 ∧ 1 ≤ n ∧ n ≤ x.bk.size - p.v := by
  obtain ⟨h1, h2, h3, h4, h5, h6⟩ := roomG_some h
  obtain ⟨_, g2, g3⟩ := goodG_some h1
  exact ⟨g2, g3, h2, h3, h4, h5, h6⟩
def byte0 : Cl := ⟨1, 0, 0, 0⟩
theorem wrap_id {n : Int} (h0 : -1000000000 ≤ n) (h1 : n ≤ 1000000000) : IntKind.i64.wrap n = n := by rw [IntKind.wrap_i64]; omega
theorem After.fill {w wr : World} {b : Nat} {xs : List (Option Bx)} {P : Nat → Prop} {i : Nat} {x : Bx} {bk : Bk} {v k : Nat} {f : Nat → Cl} (h : After w b xs P i x (bk.fill v f k) wr) (hi : i < xs.length) (hk : v + k < bk.size) :
    Calls Try.prog 34 #[.pointer (some ⟨x.bb, 0, none⟩), .int .i64 ((v : Int) + (k : Int)), .agg #[.int .i64 (f k).kind, .int .u32 (f k).v, .int .i64 (f k).block, .int .i64 (f k).part]] wr fun e w' => e = .returned (.tuple #[]) ∧ After w b xs P i x (bk.fill v f (k + 1)) w' := by
  have := h.put hi (k := v + k) hk (f k)
  rw [fill_succ]
  rw [show ((v : Int) + (k : Int)) = ((v + k : Nat) : Int) by omega]
  exact this
theorem After.zero {w wr : World} {b : Nat} {xs : List (Option Bx)} {P : Nat → Prop} {i : Nat} {x : Bx} {bk : Bk} {v k : Nat} (h : After w b xs P i x (bk.fill v (fun _ => byte0) k) wr) (hi : i < xs.length) (hk : v + k < bk.size) :
    Calls Try.prog 34 #[.pointer (some ⟨x.bb, 0, none⟩), .int .i64 ((v : Int) + (k : Int)), .agg #[.int .i64 1, .int .u32 0, .int .i64 0, .int .i64 0]] wr fun e w' => e = .returned (.tuple #[]) ∧ After w b xs P i x (bk.fill v (fun _ => byte0) (k + 1)) w' := h.fill hi hk
set_option maxHeartbeats 1000000 in
theorem zero_bad {w : World} {b : Nat} {xs : List (Option Bx)} {P : Nat → Prop} (h : MemX w b xs P) (p : Vl) (hp : VlOK p) (n : Int) (n0 : -9223372036854775808 ≤ n) (n1 : n < 9223372036854775808) (hr : roomX xs p n 1 = none) :
    Calls Try.prog 42 #[.pointer (some ⟨b, 0, none⟩), .agg #[.int .i64 p.kind, .int .u32 p.v, .int .i64 p.block], .int .i64 n] w fun e w' => e = .returned (.int .i64 3) ∧ Below w.heap.size w w' := by
  have hB : Below w.heap.size w (w.alloc (.cells #[.int .i64 p.kind, .int .u32 p.v, .int .i64 p.block] TV)) := (Below.refl _ w).alloc (Nat.le_refl _) _
  have c := room_c (h.keptB hB) p hp n 1 n0 n1
  have HB : Hid (Below w.heap.size w (w.alloc (.cells #[.int .i64 p.kind, .int .u32 p.v, .int .i64 p.block] TV))) := hB
  obtain ⟨a0, a1, a2⟩ := box_cells w p
  have e1 := eq_nil
  rw [hr] at c
  simp only [ptrX, Option.map_none] at c
  clear h hB hr
  go_enter Try.func42, Try.ntmps42
  go_wp2_with fail
  refine c.mono ?_; rintro e w1 ⟨rfl, hb1⟩
  have HB1 : Hid (Below w.heap.size w w1) := HB.out.trans (hb1.mono (by simp))
  clear hb1 c
  go_wp2
  go_ret
  exact ⟨rfl, HB1.out⟩
set_option maxHeartbeats 2000000 in
theorem zero_ok {w : World} {b : Nat} {xs : List (Option Bx)} {P : Nat → Prop} (h : MemX w b xs P) (p : Vl) (hp : VlOK p) (v n : Nat) (hv : p.v = v) (x : Bx) (i : Nat) (hr : roomX xs p n 1 = some x) (hx : xs[i]? = some (some x)) :
    Calls Try.prog 42 #[.pointer (some ⟨b, 0, none⟩), .agg #[.int .i64 p.kind, .int .u32 p.v, .int .i64 p.block], .int .i64 n] w fun e w' => e = .returned (.int .i64 0) ∧ After w b xs P i x (x.bk.fill v (fun _ => byte0) n) w' := by
  have hB : Below w.heap.size w (w.alloc (.cells #[.int .i64 p.kind, .int .u32 p.v, .int .i64 p.block] TV)) := (Below.refl _ w).alloc (Nat.le_refl _) _
  obtain ⟨hvs, _, _, _, _, hn1, hn2⟩ := roomX_some hr
  have hmx := (h.at_ hx).max
  have hil : i < xs.length := (List.getElem?_eq_some_iff.1 hx).1
  have c := room_c (h.keptB hB) p hp n 1 (by omega) (by omega)
  have HB : Hid (Below w.heap.size w (w.alloc (.cells #[.int .i64 p.kind, .int .u32 p.v, .int .i64 p.block] TV))) := hB
  obtain ⟨a0, a1, a2⟩ := box_cells w p
  have e2 := eq_some
  have cb := fun Y => byteOf_c 0 Y (by omega) (by omega)
  rw [hr] at c
  simp only [ptrX, Option.map_some] at c
  have H : Hid (MemX w b xs P) := h
  have HX : Hid (xs[i]? = some (some x)) := hx
  rw [hv] at a1 c a0 a2 HB ⊢
  have hvn : v + n ≤ x.bk.size := by omega
  clear h hB hr hx hv
  go_enter Try.func42, Try.ntmps42
  go_wp2_with fail
  refine c.mono ?_; rintro e w1 ⟨rfl, hb1⟩
  have HB1 : Hid (Below w.heap.size w w1) := HB.out.trans (hb1.mono (by simp))
  have k1 := (hb1.cell (p := ⟨w.heap.size, 1, none⟩) (by simp)).trans a1
  have hlt : w.heap.size < w1.heap.size := World.block_lt_of_cell? w1 _ k1
  have hP : ¬ P w.heap.size := fun hp => absurd (H.out.lt _ hp) (by omega)
  have HA : Hid (After w1 b xs P i x (x.bk.fill v (fun _ => byte0) 0) w1) := by
    show After _ _ _ _ _ _ _ _
    rw [fill_zero]; exact After.start (H.out.keptB HB1.out) HX.out
  clear hb1 c a0 a1 a2 HB
  go_wp2
  go_loopw [16] (fun i_ wr => ∃ (k : Nat), i_ = .int .i64 k ∧ k ≤ n ∧ Hid (After w1 b xs P i x (x.bk.fill v (fun _ => byte0) k) wr)) (fun i_ _ => n - (intOf i_).toNat)
  case atStart => exact ⟨0, rfl, Nat.zero_le _, HA⟩
  case round =>
    obtain ⟨k, rfl, hk, HR⟩ := hrel
    by_cases hlt2 : k < n
    · have q1 := (HR.out.cell hlt hP 1).trans k1
      have hvk : v + k < x.bk.size := by omega
      have w1_ := wrap_id (n := (v : Int)) (by omega) (by omega)
      have w2_ := wrap_id (n := (v : Int) + (k : Int)) (by omega) (by omega)
      go_wp2
      go_region_with (first | (go_at_call 64; refine (cb _).mono ?_; rintro e w2 ⟨rfl, hb0⟩; have hb2 : Below wr.heap.size wr w2 := (Below.refl _ wr).drew.trans hb0; have q2 := (hb2.cell (p := ⟨w.heap.size, 1, none⟩) (World.block_lt_of_cell? wr _ q1)).trans q1; have cp := (HR.out.below hb2).zero hil hvk; clear hb2 hb0) | (go_at_call 34; refine cp.mono ?_; rintro e w3 ⟨rfl, hA3⟩; have HA3 : Hid (After w1 b xs P i x (x.bk.fill v (fun _ => byte0) (k + 1)) w3) := hA3; clear hA3 cp))
      all_goals go_wp2
      all_goals exact ⟨⟨k + 1, by go_num, by omega, HA3⟩, by simp [intOf]; omega⟩
    · obtain rfl : k = n := by omega
      go_wp2
      go_ret
      refine ⟨rfl, ?_⟩
      obtain ⟨x', P', h1, h2, h3, h4, h5⟩ := HR.out
      exact ⟨x', P', h1, h2, h3, (Turned.of_below HB1.out P).trans h4 (fun _ _ h => h), fun m hm => (h5 m hm).imp id (fun h => Nat.le_trans HB1.out.size h)⟩
end Go.Proofs.Ytigiahcfcglacaa
