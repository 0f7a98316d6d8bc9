/-
  The given answer's memory in Go's memory: a row of blocks, each with its cells; what stays of it, what becomes of it.
-/
import Derived.Test.YtigiahcfcglacaaMmI
namespace Go.Proofs.Ytigiahcfcglacaa
open Go.RowKit Go.Maps
set_option linter.unusedVariables false
set_option maxRecDepth 100000
abbrev TRM : TypeId := 49
abbrev TRB : TypeId := 110
structure Ry where
  al : Int
  bk : Option Bk
  g : Nat
def ryS (y : Ry) : Value := match y.bk with | none => .slice none 0 0 | some k => .slice (some ⟨y.g, 0, none⟩) k.size k.size
def ryV (y : Ry) : List Value := [.int .i64 y.al, .bool y.bk.isNone, ryS y]
def ryL (ys : List Ry) : List Value := ys.flatMap ryV
def stR (ys : List Ry) : List (Option Bk) := ys.map Ry.bk
theorem ryL_length (ys : List Ry) : (ryL ys).length = ys.length * 3 := by
  induction ys with
  | nil => rfl
  | cons y r ih => simp only [ryL, List.flatMap_cons, List.length_append] at ih ⊢; rw [ih]; simp [ryV]; omega
theorem ryL_at (ys : List Ry) (i : Nat) (y : Ry) (h : ys[i]? = some y) (j : Nat) (hj : j < 3) : (ryL ys)[i * 3 + j]? = (ryV y)[j]? := by
  induction ys generalizing i with
  | nil => simp at h
  | cons q r ih =>
    cases i with
    | zero =>
      simp at h; subst h
      simp only [ryL, List.flatMap_cons, Nat.zero_mul, Nat.zero_add]
      rw [List.getElem?_append_left (by simpa [ryV] using hj)]
    | succ i =>
      simp at h
      have := ih i h
      simp only [ryL, List.flatMap_cons] at this ⊢
      rw [List.getElem?_append_right (by simp [ryV]; omega), ← this]
      congr 1; simp [ryV]; omega
structure RBk (w : World) (R : Nat → Prop) (ow : Nat → Nat) (i : Nat) (y : Ry) (k : Bk) : Prop where
  cells : CellsAt w y.g k.size k.cell
  al : y.al = k.align
  own : R y.g
  ow_ : ow y.g = i
  one : 1 ≤ k.size
  max : k.size ≤ 16384
  okal : k.align = 1 ∨ k.align = 2 ∨ k.align = 4
structure RX (w : World) (rb : Nat) (ys : List Ry) (R : Nat → Prop) : Prop where
  head : ∃ v, w.heap[rb]? = some (.cells #[v, .int .i64 (alive (stR ys))] TRM (0, 0)) ∧ w.ownsRow 0 TRB 3 v ys.length (ryL ys) ∧ ∀ k, v.ownBlock = some k → R k
  own : ∃ ow : Nat → Nat, ∀ (i : Nat) (y : Ry) (k : Bk), ys[i]? = some y → y.bk = some k → RBk w R ow i y k
  pb : R rb
  lt : ∀ k, R k → k < w.heap.size
  len : ys.length < 3518437208883
theorem ownsRow_turned {w w' : World} {S : Nat → Prop} {base : Nat} {e : TypeId} {size n : Nat} {v : Value} {xs : List Value} (h : w.ownsRow base e size v n xs) (ht : Turned w w' S) (hS : ∀ k, v.ownBlock = some k → ¬ S k) :
    w'.ownsRow base e size v n xs := by
  obtain ⟨h1, h2 | ⟨g, cap, cur, rfl, hb, hg, r⟩⟩ := h
  · exact ⟨h1, Or.inl h2⟩
  · refine ⟨h1, Or.inr ⟨g, cap, cur, rfl, hb, ?_, r⟩⟩
    rw [ht.block g (lt_of_heap hg) (hS g rfl)]; exact hg
theorem ownsRow_at {w : World} {base : Nat} {e : TypeId} {size n : Nat} {v : Value} {xs : List Value} (h : w.ownsRow base e size v n xs) {g : Nat} (hg : v.ownBlock = some g) : base ≤ g ∧ ∃ cur, w.heap[g]? = some (.cells cur e (0, 0)) := by
  obtain ⟨h1, ⟨rfl, _⟩ | ⟨g', cap, cur, rfl, hb, hg', r⟩⟩ := h
  · cases hg
  · cases hg; exact ⟨hb, cur, hg'⟩
theorem Turned.of_grown {w w' : World} {row : Option Nat} (h : w.grownBy w' row) {S : Nat → Prop} (hS : ∀ k, row = some k → S k) : Turned w w' S :=
  ⟨h.os, h.tape, h.output, h.size, fun k hk hn => h.block k hk (fun e => hn (hS k e.symm))⟩
namespace RX
variable {w w' : World} {rb : Nat} {ys : List Ry} {R : Nat → Prop}
theorem kept (h : RX w rb ys R) {S : Nat → Prop} (ht : Turned w w' S) (hS : ∀ k, R k → ¬ S k) : RX w' rb ys R := by
  refine ⟨?_, ?_, h.pb, fun k hk => Nat.lt_of_lt_of_le (h.lt k hk) ht.size, h.len⟩
  · obtain ⟨v, h1, h2, h3⟩ := h.head
    exact ⟨v, by rw [ht.block _ (lt_of_heap h1) (hS _ h.pb)]; exact h1, ownsRow_turned h2 ht (fun k hk => hS k (h3 k hk)), h3⟩
  · obtain ⟨ow, ho⟩ := h.own
    refine ⟨ow, fun i y k hy hk => ?_⟩
    have := ho i y k hy hk
    exact ⟨this.cells.kept ht (hS _ this.own), this.al, this.own, this.ow_, this.one, this.max, this.okal⟩
theorem keptB (h : RX w rb ys R) (ht : Below w.heap.size w w') : RX w' rb ys R := h.kept (Turned.of_below ht (fun _ => False)) (fun _ _ hf => hf)
/-- The cells of block i's row. -/
theorem row (h : RX w rb ys R) {i : Nat} {y : Ry} (hy : ys[i]? = some y) : ∃ g cap, w.cell? ⟨rb, 0, none⟩ = some (.slice (some ⟨g, 0, none⟩) ys.length cap) ∧ w.cell? ⟨rb, 1, none⟩ = some (.int .i64 (alive (stR ys))) ∧ R g ∧ (∃ cur, w.heap[g]? = some (.cells cur TRB (0, 0)) ∧ ys.length * 3 ≤ cur.size) ∧ ys.length ≤ cap ∧
    w.cell? ⟨g, i * 3, none⟩ = some (.int .i64 y.al) ∧ w.cell? ⟨g, i * 3 + 1, none⟩ = some (.bool y.bk.isNone) ∧ w.cell? ⟨g, i * 3 + 2, none⟩ = some (ryS y) := by
  obtain ⟨v, h1, h2, h3⟩ := h.head
  have hil : i < ys.length := (List.getElem?_eq_some_iff.1 hy).1
  have hc := h2
  obtain ⟨_, ⟨rfl, h0⟩ | ⟨g, cap, cur, rfl, hb, hg, hcap, hm, hs, ht⟩⟩ := hc
  · omega
  · have hcell : ∀ j, j < 3 → w.cell? ⟨g, i * 3 + j, none⟩ = (ryV y)[j]? := by
      intro j hj
      rw [h2.cellAt (i * 3 + j) (by omega)]
      exact ryL_at ys i y hy j hj
    refine ⟨g, cap, by rw [Lib.cell_of_heap h1]; rfl, by rw [Lib.cell_of_heap h1]; rfl, h3 g rfl, ⟨cur, hg, by rw [hs]; exact Nat.mul_le_mul_right 3 hcap⟩, hcap, ?_, ?_, ?_⟩
    · have := hcell 0 (by omega); simpa [ryV] using this
    · have := hcell 1 (by omega); simpa [ryV] using this
    · have := hcell 2 (by omega); simpa [ryV] using this
theorem sl (h : RX w rb ys R) : ∃ q cap, w.cell? ⟨rb, 0, none⟩ = some (.slice q ys.length cap) ∧ w.cell? ⟨rb, 1, none⟩ = some (.int .i64 (alive (stR ys))) := by
  obtain ⟨v, h1, h2, h3⟩ := h.head
  obtain ⟨q, cap, rfl⟩ := slice_of_own h2
  exact ⟨q, cap, by rw [Lib.cell_of_heap h1]; rfl, by rw [Lib.cell_of_heap h1]; rfl⟩
/-- A cell of block i is put. -/
theorem put (h : RX w rb ys R) {i : Nat} {y : Ry} {k : Bk} (hy : ys[i]? = some y) (hk : y.bk = some k) {j : Nat} (hj : j < k.size) (c : Cl) :
    RX (set4 w y.g (j * 4) c) rb (ys.set i { y with bk := some { k with cell := setF k.cell j c } }) R ∧ Turned w (set4 w y.g (j * 4) c) R := by
  obtain ⟨ow, ho⟩ := h.own
  obtain ⟨v, h1, h2, h3⟩ := h.head
  have hb := ho i y k hy hk
  have hil : i < ys.length := (List.getElem?_eq_some_iff.1 hy).1
  have ht : Turned w (set4 w y.g (j * 4) c) (fun m => m = y.g) := Turned.set4 _ _ _ _ rfl
  have tag : ∀ {m : Nat} {o : Obj}, w.heap[m]? = some o → (∀ cs, o ≠ .cells cs TC (0, 0)) → m ≠ y.g := by
    intro m o hm hne e
    subst e; rw [hb.cells.choose_spec.1] at hm; cases hm; exact hne _ rfl
  have hal : alive (stR (ys.set i { y with bk := some { k with cell := setF k.cell j c } })) = alive (stR ys) := by
    unfold stR
    rw [List.map_set]
    exact (alive_set (x := k) (by rw [List.getElem?_map, hy]; simp [hk])).symm
  have hL : ryL (ys.set i { y with bk := some { k with cell := setF k.cell j c } }) = ryL ys := by
    have e : ryV { y with bk := some { k with cell := setF k.cell j c } } = ryV y := by simp [ryV, ryS, hk]
    unfold ryL
    rw [List.flatMap_def, List.flatMap_def, List.map_set, e]
    rw [set_self (by rw [List.getElem?_map, hy]; rfl)]
  refine ⟨⟨⟨v, ?_, ?_, h3⟩, ⟨ow, ?_⟩, h.pb, fun m hm => Nat.lt_of_lt_of_le (h.lt m hm) ht.size, by simpa using h.len⟩, ht.mono (fun m hm => by subst hm; exact hb.own)⟩
  · rw [hal, ht.block _ (lt_of_heap h1) (tag h1 (by intro cs e; injection e with _ e2; exact absurd e2 (by decide)))]; exact h1
  · rw [hL, List.length_set]
    refine ownsRow_turned h2 ht (fun m hm => ?_)
    obtain ⟨_, cur, hc⟩ := ownsRow_at h2 hm
    exact tag hc (by intro cs e; injection e with _ e2; exact absurd e2 (by decide))
  · intro i2 y2 k2 hy2 hk2
    by_cases e : i = i2
    · subst e
      rw [List.getElem?_set_self hil] at hy2
      cases hy2
      cases hk2
      exact ⟨hb.cells.set hj c, hb.al, hb.own, hb.ow_, hb.one, hb.max, hb.okal⟩
    · rw [List.getElem?_set_ne e] at hy2
      have hb2 := ho i2 y2 k2 hy2 hk2
      exact ⟨hb2.cells.kept ht (fun e2 => e (by rw [← hb.ow_, ← hb2.ow_, e2])), hb2.al, hb2.own, hb2.ow_, hb2.one, hb2.max, hb2.okal⟩
/-- A block more. -/
theorem push (h : RX w rb ys R) {w2 : World} {v v' : Value} {y : Ry} {k : Bk} (h1 : w.heap[rb]? = some (.cells #[v, .int .i64 (alive (stR ys))] TRM (0, 0))) (hrow : w.ownsRow 0 TRB 3 v ys.length (ryL ys))
    (ht : Turned w w2 (fun m => m = rb ∨ v.ownBlock = some m)) (hb2 : w2.heap[rb]? = some (.cells #[v', .int .i64 ((alive (stR ys) : Int) + 1)] TRM (0, 0))) (hr2 : w2.ownsRow 0 TRB 3 v' (ys.length + 1) (ryL ys ++ ryV y))
    (hat : v'.ownBlock = v.ownBlock ∨ ∃ m, v'.ownBlock = some m ∧ w.heap.size ≤ m) (hk : y.bk = some k) (hg : w.heap.size ≤ y.g) (hc : CellsAt w2 y.g k.size k.cell) (hal : y.al = k.align) (one : 1 ≤ k.size) (max : k.size ≤ 16384) (okal : k.align = 1 ∨ k.align = 2 ∨ k.align = 4) (hlen : ys.length + 1 < 3518437208883) :
    ∃ R', RX w2 rb (ys ++ [y]) R' ∧ Turned w w2 R ∧ ∀ m, R' m → R m ∨ w.heap.size ≤ m := by
  obtain ⟨ow, ho⟩ := h.own
  obtain ⟨v0, g1, g2, g3⟩ := h.head
  rw [h1] at g1
  have hv0 : v0 = v := by simp at g1; exact g1.symm
  subst hv0
  have hvm : ∀ m, v0.ownBlock = some m → R m := g3
  refine ⟨fun m => R m ∨ m = y.g ∨ v'.ownBlock = some m, ⟨⟨v', ?_, ?_, fun m hm => Or.inr (Or.inr hm)⟩, ⟨fun m => if m = y.g then ys.length else ow m, ?_⟩, Or.inl h.pb, ?_, by simpa using hlen⟩, ht.mono (fun m hm => ?_), ?_⟩
  · rw [hb2]; simp [stR, alive, hk]
  · simpa [ryL] using hr2
  · intro i2 y2 k2 hy2 hk2
    by_cases hi : i2 < ys.length
    · rw [List.getElem?_append_left hi] at hy2
      have hb := ho i2 y2 k2 hy2 hk2
      have hne : y2.g ≠ y.g := fun e => absurd (h.lt _ hb.own) (by rw [e]; omega)
      refine ⟨hb.cells.kept ht ?_, hb.al, Or.inl hb.own, by rw [if_neg hne]; exact hb.ow_, hb.one, hb.max, hb.okal⟩
      rintro (e | e)
      · obtain ⟨cs9, this, _⟩ := hb.cells
        rw [e, h1] at this; injection this with this; injection this with _ this; exact absurd this (by decide)
      · obtain ⟨_, cur, hcur⟩ := ownsRow_at hrow e
        obtain ⟨cs9, this, _⟩ := hb.cells
        rw [hcur] at this; injection this with this; injection this with _ this; exact absurd this (by decide)
    · rw [List.getElem?_append_right (by omega)] at hy2
      have h0 : i2 - ys.length = 0 := by
        rcases Nat.eq_zero_or_pos (i2 - ys.length) with e | e
        · exact e
        · rw [List.getElem?_eq_none (by simp; omega)] at hy2; cases hy2
      rw [h0] at hy2
      simp at hy2; subst hy2
      rw [hk] at hk2; cases hk2
      exact ⟨hc, hal, Or.inr (Or.inl rfl), by rw [if_pos rfl]; omega, one, max, okal⟩
  · rintro m (hm | rfl | hm)
    · exact Nat.lt_of_lt_of_le (h.lt m hm) ht.size
    · exact hc.lt
    · exact (hr2.lt m hm).2
  · rcases hm with rfl | hm
    · exact h.pb
    · exact hvm m hm
  · rintro m (hm | rfl | hm)
    · exact Or.inl hm
    · exact Or.inr hg
    · rcases hat with e | ⟨m2, e, h2⟩
      · exact Or.inl (hvm m (e ▸ hm))
      · rw [e] at hm; cases hm; exact Or.inr h2
/-- A block less. -/
theorem drop (h : RX w rb ys R) {i : Nat} {y : Ry} {k : Bk} (hy : ys[i]? = some y) (hk : y.bk = some k) {g cap : Nat} (hg : w.cell? ⟨rb, 0, none⟩ = some (.slice (some ⟨g, 0, none⟩) ys.length cap)) :
    RX (((w.setCell ⟨g, i * 3 + 1, none⟩ (.bool true)).setCell ⟨g, i * 3 + 2, none⟩ (.slice none 0 0)).setCell ⟨rb, 1, none⟩ (.int .i64 ((alive (stR ys) : Int) - 1))) rb (ys.set i { y with bk := none }) R ∧ Turned w (((w.setCell ⟨g, i * 3 + 1, none⟩ (.bool true)).setCell ⟨g, i * 3 + 2, none⟩ (.slice none 0 0)).setCell ⟨rb, 1, none⟩ (.int .i64 ((alive (stR ys) : Int) - 1))) R := by
  obtain ⟨ow, ho⟩ := h.own
  obtain ⟨v, h1, h2, h3⟩ := h.head
  have hil : i < ys.length := (List.getElem?_eq_some_iff.1 hy).1
  rw [Lib.cell_of_heap h1] at hg
  have hv : v = .slice (some ⟨g, 0, none⟩) ys.length cap := by simpa using hg
  subst hv
  have hRg : R g := h3 g rfl
  obtain ⟨_, cur, hcur⟩ := ownsRow_at h2 (g := g) rfl
  have hgb : g ≠ rb := by
    rintro rfl
    rw [h1] at hcur; injection hcur with e; injection e with _ e; exact absurd e (by decide)
  have t1 : Turned w ((w.setCell ⟨g, i * 3 + 1, none⟩ (.bool true)).setCell ⟨g, i * 3 + 2, none⟩ (.slice none 0 0)) (fun m => m = g) := (Turned.setCell (S := fun m => m = g) w g _ _ rfl).trans (Turned.setCell (S := fun m => m = g) _ g _ _ rfl) (fun _ _ h => h)
  have t2 : Turned w (((w.setCell ⟨g, i * 3 + 1, none⟩ (.bool true)).setCell ⟨g, i * 3 + 2, none⟩ (.slice none 0 0)).setCell ⟨rb, 1, none⟩ (.int .i64 ((alive (stR ys) : Int) - 1))) (fun m => m = g ∨ m = rb) := (t1.mono (fun m hm => Or.inl hm)).trans (Turned.setCell (S := fun m => m = rb) _ rb _ _ rfl) (fun _ _ h => Or.inr h)
  have hal : alive (stR ys) = alive (stR (ys.set i { y with bk := none })) + 1 := by
    unfold stR
    rw [List.map_set]
    have hx : (ys.map Ry.bk)[i]? = some (some k) := by rw [List.getElem?_map, hy]; simp [hk]
    have hil' : i < (ys.map Ry.bk).length := by simpa using hil
    unfold alive
    conv => lhs; rw [← set_self hx]
    rw [List.countP_set hil', List.countP_set hil']; simp
  have hb1 : ((w.setCell ⟨g, i * 3 + 1, none⟩ (.bool true)).setCell ⟨g, i * 3 + 2, none⟩ (.slice none 0 0)).heap[rb]? = some (.cells #[.slice (some ⟨g, 0, none⟩) ys.length cap, .int .i64 (alive (stR ys))] TRM (0, 0)) := by
    rw [t1.block rb (lt_of_heap h1) (fun e => hgb e.symm)]; exact h1
  refine ⟨⟨⟨.slice (some ⟨g, 0, none⟩) ys.length cap, ?_, ?_, h3⟩, ⟨ow, ?_⟩, h.pb, fun m hm => Nat.lt_of_lt_of_le (h.lt m hm) t2.size, by simpa using h.len⟩, t2.mono (fun m hm => ?_)⟩
  · rw [heap_setCell hb1]
    have e : ((alive (stR ys) : Int) - 1) = (alive (stR (ys.set i { y with bk := none })) : Int) := by omega
    simp [e]
  · obtain ⟨hl, ⟨e0, _⟩ | ⟨g', cap', cur', hv', hb, hg', hcap, hm, hs, htk⟩⟩ := h2
    · cases e0
    · cases hv'
      rw [List.length_set]
      refine ⟨by rw [ryL_length, List.length_set], Or.inr ⟨g, cap, (cur'.setIfInBounds (i * 3 + 1) (.bool true)).setIfInBounds (i * 3 + 2) (.slice none 0 0), rfl, hb, ?_, hcap, hm, ?_, ?_⟩⟩
      · rw [(Turned.setCell (S := fun m => m = rb) _ rb _ _ rfl).block g (by simpa using lt_of_heap hg') hgb]
        exact heap_setCell (heap_setCell hg' _) _
      · simpa using hs
      · have hLl : (ryL ys).length = ys.length * 3 := ryL_length ys
        apply List.ext_getElem?
        intro m
        by_cases hmm : m < ys.length * 3
        · rw [List.getElem?_take_of_lt hmm]
          have hold : cur'.toList[m]? = (ryL ys)[m]? := by rw [← htk, List.getElem?_take_of_lt hmm]
          have hm3 : m = m / 3 * 3 + m % 3 := by omega
          have hd : m / 3 < ys.length := by omega
          obtain ⟨y2, hy2⟩ : ∃ y2, ys[m / 3]? = some y2 := ⟨_, List.getElem?_eq_getElem hd⟩
          have hr : m % 3 < 3 := by omega
          have o1 := ryL_at ys (m / 3) y2 hy2 (m % 3) hr
          rw [← hm3] at o1
          have hsz : ys.length * 3 ≤ cur'.size := by rw [hs]; exact Nat.mul_le_mul_right 3 hcap
          by_cases e : m / 3 = i
          · subst e
            rw [hy] at hy2; cases hy2
            have n1 := ryL_at (ys.set (m / 3) { y with bk := none }) (m / 3) { y with bk := none } (List.getElem?_set_self hil) (m % 3) hr
            rw [← hm3] at n1
            rw [n1]
            have hc3 : m % 3 = 0 ∨ m % 3 = 1 ∨ m % 3 = 2 := by omega
            simp only [Array.toList_setIfInBounds]
            rcases hc3 with c | c | c
            · rw [List.getElem?_set_ne (by omega), List.getElem?_set_ne (by omega), hold, o1, c]; rfl
            · have e1 : m / 3 * 3 + 1 = m := by omega
              rw [List.getElem?_set_ne (by omega), e1, List.getElem?_set_self (by simp; omega), c]; rfl
            · have e1 : m / 3 * 3 + 2 = m := by omega
              rw [e1, List.getElem?_set_self (by simp; omega), c]; rfl
          · have n1 := ryL_at (ys.set i { y with bk := none }) (m / 3) y2 (by rw [List.getElem?_set_ne (fun h => e h.symm)]; exact hy2) (m % 3) hr
            rw [← hm3] at n1
            rw [n1, ← o1, ← hold]
            simp only [Array.toList_setIfInBounds]
            rw [List.getElem?_set_ne (by omega), List.getElem?_set_ne (by omega)]
        · rw [List.getElem?_eq_none (by simp; omega), List.getElem?_eq_none (by rw [ryL_length, List.length_set]; omega)]
  · intro i2 y2 k2 hy2 hk2
    by_cases e : i = i2
    · subst e
      rw [List.getElem?_set_self hil] at hy2
      cases hy2; cases hk2
    · rw [List.getElem?_set_ne e] at hy2
      have hb := ho i2 y2 k2 hy2 hk2
      refine ⟨hb.cells.kept t2 ?_, hb.al, hb.own, hb.ow_, hb.one, hb.max, hb.okal⟩
      rintro (e | e)
      · obtain ⟨cs9, this, _⟩ := hb.cells
        rw [e, hcur] at this; injection this with this; injection this with _ this; exact absurd this (by decide)
      · obtain ⟨cs9, this, _⟩ := hb.cells
        rw [e, h1] at this; injection this with this; injection this with _ this; exact absurd this (by decide)
  · rcases hm with rfl | rfl
    · exact hRg
    · exact h.pb
end RX
end Go.Proofs.Ytigiahcfcglacaa
