/-
  A memory of package memory as it lies in Go's memory: its blocks, their pages, the map of those that live; what stays of it where other blocks turn.
-/
import Derived.Test.YtigiahcfcglacaaProg
import Derived.WalkKit
import Derived.WalkSpells
import Derived.WalkLawsBesides
import Derived.Maps.OwnOps
import Derived.Maps.AppendAt
import Derived.OwnWalk
import Derived.DeepKeys5
import Derived.ChangeMaps5
import Derived.Lib.Builder
namespace Go.Proofs.Ytigiahcfcglacaa
open Go.RowKit Go.Maps
set_option linter.unusedVariables false
set_option maxRecDepth 100000

structure Cl where
  kind : Int
  v : Int
  block : Int
  part : Int
structure Vl where
  kind : Int
  v : Int
  block : Int
structure Bk where
  size : Nat
  align : Int
  cell : Nat → Cl
structure Bx where
  bk : Bk
  bb : Nat
  pb : Nat
  pg : Nat → Option Nat
abbrev TC : TypeId := 43
abbrev TV : TypeId := 26
abbrev TB : TypeId := 108
abbrev TP : TypeId := 36
abbrev TMm : TypeId := 65
def clV (c : Cl) : List Value := [.int .i64 c.kind, .int .u32 c.v, .int .i64 c.block, .int .i64 c.part]
def vlV (p : Vl) : List Value := [.int .i64 p.kind, .int .u32 p.v, .int .i64 p.block]
def clZ : Cl := ⟨0, 0, 0, 0⟩
def look {α : Type} (xs : List (Option α)) (n : Int) : Option α := if 1 ≤ n then (xs[(n - 1).toNat]?).join else none
def alive {α : Type} (xs : List (Option α)) : Nat := xs.countP Option.isSome
def np (n : Nat) : Nat := (n + 127) / 128
def plen (n j : Nat) : Nat := min 128 (n - j * 128)
def pgV (x : Bx) (j : Nat) : Value := match x.pg j with | none => .slice none 0 0 | some g => .slice (some ⟨g, 0, none⟩) (plen x.bk.size j) (plen x.bk.size j)

/-- Nothing but the blocks of S has turned. -/
structure Turned (w w' : World) (S : Nat → Prop) : Prop where
  os : w'.os = w.os
  tape : w'.tape = w.tape
  output : w'.output = w.output
  size : w.heap.size ≤ w'.heap.size
  block : ∀ k, k < w.heap.size → ¬ S k → w'.heap[k]? = w.heap[k]?
theorem Turned.refl (w : World) (S : Nat → Prop) : Turned w w S := ⟨rfl, rfl, rfl, Nat.le_refl _, fun _ _ _ => rfl⟩
theorem Turned.trans {a b c : World} {S S' : Nat → Prop} (h : Turned a b S) (k : Turned b c S') (hS : ∀ i, i < a.heap.size → S' i → S i) : Turned a c S :=
  ⟨k.os.trans h.os, k.tape.trans h.tape, k.output.trans h.output, Nat.le_trans h.size k.size, fun i hi hn => (k.block i (Nat.lt_of_lt_of_le hi h.size) (fun s => hn (hS i hi s))).trans (h.block i hi hn)⟩
theorem Turned.of_below {w w' : World} (h : Below w.heap.size w w') (S : Nat → Prop) : Turned w w' S := ⟨h.os, h.tape, h.output, h.size, fun k hk _ => h.block k hk⟩
theorem Turned.alloc (w : World) (o : Obj) (S : Nat → Prop) : Turned w (w.alloc o) S := .of_below ((Below.refl _ w).alloc (Nat.le_refl _) o) S
theorem Turned.mono {w w' : World} {S S' : Nat → Prop} (h : Turned w w' S) (hS : ∀ k, S k → S' k) : Turned w w' S' := ⟨h.os, h.tape, h.output, h.size, fun k hk hn => h.block k hk (fun s => hn (hS k s))⟩
theorem Turned.setCell (w : World) (g j : Nat) (x : Value) {S : Nat → Prop} (hS : S g) : Turned w (w.setCell ⟨g, j, none⟩ x) S :=
  ⟨rfl, rfl, rfl, by simp, fun k _ hn => heap_setCell_other w ⟨g, j, none⟩ k x (fun e => hn (e ▸ hS))⟩
theorem Turned.below {w w' : World} {S : Nat → Prop} (h : Turned w w' S) {B : Nat} (hB : B ≤ w.heap.size) (hS : ∀ k, S k → B ≤ k) : Below B w w' :=
  ⟨h.os, h.tape, h.output, h.size, fun k hk => h.block k (Nat.lt_of_lt_of_le hk hB) (fun s => absurd (hS k s) (by omega))⟩
theorem lt_of_heap {w : World} {g : Nat} {o : Obj} (h : w.heap[g]? = some o) : g < w.heap.size := by
  rcases Nat.lt_or_ge g w.heap.size with h' | h'
  · exact h'
  · simp [h'] at h
theorem heap_r0 (w : World) (A : Obj) : (w.alloc A).heap[w.heap.size]? = some A := by
  show (w.heap.push A)[w.heap.size]? = some A
  simp
theorem heap_setCell {w : World} {g j : Nat} {cs : Array Value} {t : TypeId} {fr : Nat × Nat} (h : w.heap[g]? = some (.cells cs t fr)) (x : Value) : (w.setCell ⟨g, j, none⟩ x).heap[g]? = some (.cells (cs.setIfInBounds j x) t fr) := by
  rw [setCell_eq_setRow w g j cs t fr x h]; exact setRow_heap _ _ _ _ _ _ h
theorem frozen_of {w : World} {g : Nat} {cs : Array Value} {t : TypeId} (h : w.heap[g]? = some (.cells cs t (0, 0))) (j : Nat) : w.frozen? ⟨g, j, none⟩ = false := by simp [World.frozen?, h]

/-- n cells of package api's type Cell in one block. -/
def CellsAt (w : World) (g n : Nat) (f : Nat → Cl) : Prop :=
  ∃ cs, w.heap[g]? = some (.cells cs TC (0, 0)) ∧ n * 4 ≤ cs.size ∧ ∀ i, i < n → ∀ k, k < 4 → cs[i * 4 + k]? = (clV (f i))[k]?
theorem CellsAt.kept {w w' : World} {g n : Nat} {f : Nat → Cl} (h : CellsAt w g n f) {S : Nat → Prop} (ht : Turned w w' S) (hg : ¬ S g) : CellsAt w' g n f := by
  obtain ⟨cs, h1, h2⟩ := h
  exact ⟨cs, by rw [ht.block g (lt_of_heap h1) hg]; exact h1, h2⟩
theorem CellsAt.lt {w : World} {g n : Nat} {f : Nat → Cl} (h : CellsAt w g n f) : g < w.heap.size := by
  obtain ⟨cs, h1, h2⟩ := h
  exact lt_of_heap h1
theorem CellsAt.congr {w : World} {g n : Nat} {f f' : Nat → Cl} (h : CellsAt w g n f) (he : ∀ i, i < n → f i = f' i) : CellsAt w g n f' := by
  obtain ⟨cs, h1, h2, h3⟩ := h
  exact ⟨cs, h1, h2, fun i hi k hk => by rw [h3 i hi k hk, he i hi]⟩
theorem CellsAt.cell {w : World} {g n : Nat} {f : Nat → Cl} (h : CellsAt w g n f) {i : Nat} (hi : i < n) : w.cell? ⟨g, i * 4, none⟩ = some (.int .i64 (f i).kind) ∧ w.cell? ⟨g, i * 4 + 1, none⟩ = some (.int .u32 (f i).v) ∧ w.cell? ⟨g, i * 4 + 2, none⟩ = some (.int .i64 (f i).block) ∧ w.cell? ⟨g, i * 4 + 3, none⟩ = some (.int .i64 (f i).part) := by
  obtain ⟨cs, h1, h2, h3⟩ := h
  have h4 := h3 i hi
  refine ⟨?_, ?_, ?_, ?_⟩ <;> rw [Lib.cell_of_heap h1]
  · have := h4 0 (by omega); simpa [clV] using this
  · have := h4 1 (by omega); simpa [clV] using this
  · have := h4 2 (by omega); simpa [clV] using this
  · have := h4 3 (by omega); simpa [clV] using this
theorem CellsAt.frozen {w : World} {g n : Nat} {f : Nat → Cl} (h : CellsAt w g n f) (j : Nat) : w.frozen? ⟨g, j, none⟩ = false := by
  obtain ⟨cs, h1, _⟩ := h
  exact frozen_of h1 j
def setF {α : Type} (f : Nat → α) (i : Nat) (c : α) : Nat → α := fun k => if k = i then c else f k
def set4 (w : World) (g j : Nat) (c : Cl) : World := (((w.setCell ⟨g, j, none⟩ (.int .i64 c.kind)).setCell ⟨g, j + 1, none⟩ (.int .u32 c.v)).setCell ⟨g, j + 2, none⟩ (.int .i64 c.block)).setCell ⟨g, j + 3, none⟩ (.int .i64 c.part)
theorem Turned.set4 (w : World) (g j : Nat) (c : Cl) {S : Nat → Prop} (hS : S g) : Turned w (set4 w g j c) S :=
  (((Turned.setCell w g j _ hS).trans (Turned.setCell _ g (j + 1) _ hS) (fun _ _ h => h)).trans (Turned.setCell _ g (j + 2) _ hS) (fun _ _ h => h)).trans (Turned.setCell _ g (j + 3) _ hS) (fun _ _ h => h)
theorem CellsAt.set {w : World} {g n : Nat} {f : Nat → Cl} (h : CellsAt w g n f) {i : Nat} (hi : i < n) (c : Cl) : CellsAt (set4 w g (i * 4) c) g n (setF f i c) := by
  obtain ⟨cs, h1, h2, h3⟩ := h
  refine ⟨_, heap_setCell (heap_setCell (heap_setCell (heap_setCell h1 _) _) _) _, by simpa using h2, fun m hm k hk => ?_⟩
  have h4 := h3 m hm k hk
  unfold setF
  have hk4 : k = 0 ∨ k = 1 ∨ k = 2 ∨ k = 3 := by omega
  by_cases e : m = i
  · subst e
    rw [if_pos rfl]
    have hz : m * 4 + 3 < cs.size := by omega
    rcases hk4 with rfl | rfl | rfl | rfl <;> simp [Array.getElem?_setIfInBounds, clV] <;> omega
  · rw [if_neg e, ← h4]
    have q : ∀ t, t < 4 → ¬ i * 4 + t = m * 4 + k := fun t ht => by omega
    have q0 : ¬ i * 4 = m * 4 + k := q 0 (by omega); have q1 := q 1 (by omega); have q2 := q 2 (by omega); have q3 := q 3 (by omega)
    rw [Array.getElem?_setIfInBounds, if_neg q3, Array.getElem?_setIfInBounds, if_neg q2, Array.getElem?_setIfInBounds, if_neg q1, Array.getElem?_setIfInBounds, if_neg q0]

theorem set_self {α : Type} {xs : List α} {i : Nat} {x : α} (hx : xs[i]? = some x) : xs.set i x = xs := by
  apply List.ext_getElem?
  intro k
  by_cases e : i = k
  · subst e; rw [List.getElem?_set_self (List.getElem?_eq_some_iff.1 hx).1, hx]
  · rw [List.getElem?_set_ne e]
theorem alive_set {α : Type} {xs : List (Option α)} {i : Nat} {x x' : α} (hx : xs[i]? = some (some x)) : alive xs = alive (xs.set i (some x')) := by
  have hil : i < xs.length := (List.getElem?_eq_some_iff.1 hx).1
  unfold alive
  conv => lhs; rw [← set_self hx]
  rw [List.countP_set hil, List.countP_set hil]; simp
/-- A block that lives. -/
structure BlkAt (w : World) (x : Bx) : Prop where
  one : 1 ≤ x.bk.size
  max : x.bk.size ≤ 16384
  al : x.bk.align = 1 ∨ x.bk.align = 2 ∨ x.bk.align = 4
  blk : w.heap[x.bb]? = some (.cells #[.int .i64 x.bk.size, .int .i64 x.bk.align, .slice (some ⟨x.pb, 0, none⟩) (np x.bk.size) (np x.bk.size)] TB (0, 0))
  pages : ∃ cs, w.heap[x.pb]? = some (.cells cs TP (0, 0)) ∧ cs.size = np x.bk.size ∧ ∀ j, j < np x.bk.size → cs[j]? = some (pgV x j)
  nopg : ∀ j, j < np x.bk.size → x.pg j = none → ∀ i, i < 128 → x.bk.cell (j * 128 + i) = clZ
  apg : ∀ j g, j < np x.bk.size → x.pg j = some g → CellsAt w g (plen x.bk.size j) (fun i => x.bk.cell (j * 128 + i))
structure Owned (P : Nat → Prop) (ow : Nat → Nat × Nat) (i : Nat) (x : Bx) : Prop where
  pbb : P x.bb
  ppb : P x.pb
  ob : (ow x.bb).1 = i
  op : (ow x.pb).1 = i
  pg : ∀ j g, j < np x.bk.size → x.pg j = some g → P g ∧ ow g = (i, j)
structure Ents (es : Array MapEntry) (xs : List (Option Bx)) : Prop where
  sound : ∀ e ∈ es.toList, ∃ (i : Nat) (x : Bx), xs[i]? = some (some x) ∧ e.key = .int .i64 ((i : Int) + 1) ∧ e.val = .pointer (some ⟨x.bb, 0, none⟩)
  all : ∀ (i : Nat) (x : Bx), xs[i]? = some (some x) → ∃ e ∈ es.toList, e.key = .int .i64 ((i : Int) + 1)
  nodup : (es.toList.map (·.key)).Nodup
  num : es.size = alive xs
structure MemX (w : World) (b : Nat) (xs : List (Option Bx)) (P : Nat → Prop) : Prop where
  head : ∃ mb es ck, w.heap[b]? = some (.cells #[.pointer (some ⟨b, 0, none⟩), .map (some mb), .int .i64 xs.length] TMm (0, 0)) ∧ w.heap[mb]? = some (.map es ck) ∧ P mb ∧ Ents es xs
  own : ∃ ow : Nat → Nat × Nat, ∀ i x, xs[i]? = some (some x) → BlkAt w x ∧ Owned P ow i x
  pb : P b
  lt : ∀ k, P k → k < w.heap.size
  len : xs.length < 140737488355328

theorem BlkAt.kept {w w' : World} {x : Bx} (h : BlkAt w x) {S : Nat → Prop} (ht : Turned w w' S) (h1 : ¬ S x.bb) (h2 : ¬ S x.pb) (h3 : ∀ j g, j < np x.bk.size → x.pg j = some g → ¬ S g) : BlkAt w' x := by
  refine ⟨h.one, h.max, h.al, ?_, ?_, h.nopg, fun j g hj hg => (h.apg j g hj hg).kept ht (h3 j g hj hg)⟩
  · rw [ht.block _ (lt_of_heap h.blk) h1]; exact h.blk
  · obtain ⟨cs, c1, c2⟩ := h.pages
    exact ⟨cs, by rw [ht.block _ (lt_of_heap c1) h2]; exact c1, c2⟩
namespace MemX
variable {w w' : World} {b : Nat} {xs : List (Option Bx)} {P : Nat → Prop}
theorem kept (h : MemX w b xs P) {S : Nat → Prop} (ht : Turned w w' S) (hS : ∀ k, P k → ¬ S k) : MemX w' b xs P := by
  refine ⟨?_, ?_, h.pb, fun k hk => Nat.lt_of_lt_of_le (h.lt k hk) ht.size, h.len⟩
  · obtain ⟨mb, es, ck, h1, h2, h3, h4⟩ := h.head
    exact ⟨mb, es, ck, by rw [ht.block _ (lt_of_heap h1) (hS _ h.pb)]; exact h1, by rw [ht.block _ (lt_of_heap h2) (hS _ h3)]; exact h2, h3, h4⟩
  · obtain ⟨ow, ho⟩ := h.own
    refine ⟨ow, fun i x hx => ⟨(ho i x hx).1.kept ht (hS _ (ho i x hx).2.pbb) (hS _ (ho i x hx).2.ppb) (fun j g hj hg => hS _ ((ho i x hx).2.pg j g hj hg).1), (ho i x hx).2⟩⟩
theorem keptB (h : MemX w b xs P) (ht : Below w.heap.size w w') : MemX w' b xs P := h.kept (Turned.of_below ht (fun _ => False)) (fun _ _ hf => hf)
theorem alloc (h : MemX w b xs P) (o : Obj) : MemX (w.alloc o) b xs P := h.keptB ((Below.refl _ w).alloc (Nat.le_refl _) o)
theorem blt (h : MemX w b xs P) : b < w.heap.size := h.lt b h.pb
theorem at_ (h : MemX w b xs P) {i : Nat} {x : Bx} (hx : xs[i]? = some (some x)) : BlkAt w x := by
  obtain ⟨ow, ho⟩ := h.own
  exact (ho i x hx).1
/-- A page of its own that block i gets. -/
theorem newPage (h : MemX w b xs P) {i : Nat} {x : Bx} (hx : xs[i]? = some (some x)) {j : Nat} (hj : j < np x.bk.size) (hn : x.pg j = none) {w1 : World} (hB : Below w.heap.size w w1) (hs : w.heap.size < w1.heap.size) {g : Nat} (hg : w.heap.size ≤ g) (hc : CellsAt w1 g (plen x.bk.size j) (fun _ => clZ)) :
    MemX (w1.setCell ⟨x.pb, j, none⟩ (.slice (some ⟨g, 0, none⟩) (plen x.bk.size j) (plen x.bk.size j))) b (xs.set i (some { x with pg := setF x.pg j (some g) })) (fun k => P k ∨ k = g) ∧ Turned w (w1.setCell ⟨x.pb, j, none⟩ (.slice (some ⟨g, 0, none⟩) (plen x.bk.size j) (plen x.bk.size j))) P := by
  have hM := h.keptB hB
  have hglt := hc.lt
  obtain ⟨ow, ho⟩ := hM.own
  obtain ⟨mb, es, ck, h1, h2, h3, h4⟩ := hM.head
  obtain ⟨hbx, hox⟩ := ho i x hx
  obtain ⟨pcs, p1, p2, p3⟩ := hbx.pages
  have hil : i < xs.length := (List.getElem?_eq_some_iff.1 hx).1
  have hPg : ¬ P g := fun hp => absurd (h.lt g hp) (by omega)
  have ht : Turned w1 (w1.setCell ⟨x.pb, j, none⟩ (.slice (some ⟨g, 0, none⟩) (plen x.bk.size j) (plen x.bk.size j))) (fun k => k = x.pb) := Turned.setCell _ _ _ _ rfl
  have tag : ∀ {k : Nat} {o : Obj}, w1.heap[k]? = some o → (∀ cs, o ≠ .cells cs TP (0, 0)) → k ≠ x.pb := by
    intro k o hk hne e
    subst e; rw [p1] at hk; cases hk; exact hne _ rfl
  refine ⟨⟨⟨mb, es, ck, ?_, ?_, Or.inl h3, ?_⟩, ⟨fun k => if k = g then (i, j) else ow k, ?_⟩, Or.inl h.pb, ?_, by simpa using h.len⟩, (Turned.of_below hB P).trans (ht.mono (S' := P) (fun k hk => by subst hk; exact hox.ppb)) (fun _ _ h => h)⟩
  · rw [ht.block _ (lt_of_heap h1) (tag h1 (by intro cs e; injection e with _ e2; exact absurd e2 (by decide))), List.length_set]; exact h1
  · rw [ht.block _ (lt_of_heap h2) (tag h2 (by intro cs e; cases e))]; exact h2
  · refine ⟨fun e he => ?_, fun i2 x2 hx2 => ?_, h4.nodup, ?_⟩
    · obtain ⟨i2, x2, q1, q2, q3⟩ := h4.sound e he
      by_cases e2 : i = i2
      · subst e2
        rw [hx] at q1; cases q1
        exact ⟨i, { x with pg := setF x.pg j (some g) }, by simp [hil], q2, q3⟩
      · exact ⟨i2, x2, by rw [List.getElem?_set_ne e2]; exact q1, q2, q3⟩
    · by_cases e2 : i = i2
      · subst e2; exact h4.all i x hx
      · rw [List.getElem?_set_ne e2] at hx2; exact h4.all i2 x2 hx2
    · rw [h4.num, alive_set hx]
  · intro i2 x2 hx2
    by_cases e2 : i = i2
    · subst e2
      rw [List.getElem?_set_self hil] at hx2
      cases hx2
      refine ⟨⟨hbx.one, hbx.max, hbx.al, ?_, ?_, ?_, ?_⟩, ⟨Or.inl hox.pbb, Or.inl hox.ppb, ?_, ?_, ?_⟩⟩
      · show (World.heap _)[x.bb]? = _
        rw [ht.block _ (lt_of_heap hbx.blk) (tag hbx.blk (by intro cs e; injection e with _ e2; exact absurd e2 (by decide)))]; exact hbx.blk
      · refine ⟨_, heap_setCell p1 _, by simp [p2], fun k hk => ?_⟩
        have hk' : k < np x.bk.size := hk
        simp only [pgV, setF]
        rw [Array.getElem?_setIfInBounds]
        by_cases e : j = k
        · subst e; simp [p2, hj]
        · rw [if_neg e, p3 k hk', if_neg (fun h => e h.symm)]; rfl
      · intro k hk hnk
        simp only [setF] at hnk
        by_cases e : k = j
        · subst e; simp at hnk
        · rw [if_neg e] at hnk; exact hbx.nopg k hk hnk
      · intro k g' hk hgk
        simp only [setF] at hgk
        by_cases e : k = j
        · subst e; simp at hgk; subst hgk
          have hz := hbx.nopg k hj hn
          refine (hc.kept ht (tag (hc.choose_spec.1) (by intro cs e; injection e with _ e2; exact absurd e2 (by decide)))).congr (fun m hm => ?_)
          exact (hz m (by unfold plen at hm; omega)).symm
        · rw [if_neg e] at hgk
          have := hbx.apg k g' hk hgk
          exact this.kept ht (tag (this.choose_spec.1) (by intro cs e; injection e with _ e2; exact absurd e2 (by decide)))
      · have : x.bb ≠ g := fun e => hPg (e ▸ hox.pbb)
        simp [this]; exact hox.ob
      · have : x.pb ≠ g := fun e => hPg (e ▸ hox.ppb)
        simp [this]; exact hox.op
      · intro k g' hk hgk
        simp only [setF] at hgk
        by_cases e : k = j
        · subst e; simp at hgk; subst hgk; simp
        · rw [if_neg e] at hgk
          have q := hox.pg k g' hk hgk
          have : g' ≠ g := fun e => hPg (e ▸ q.1)
          simp [this, q.1]; exact q.2
    · rw [List.getElem?_set_ne e2] at hx2
      obtain ⟨hb2, ho2⟩ := ho i2 x2 hx2
      have hpb : x2.pb ≠ x.pb := fun e => e2 (by rw [← hox.op, ← ho2.op, e])
      refine ⟨hb2.kept ht (tag hb2.blk (by intro cs e; injection e with _ e2; exact absurd e2 (by decide))) hpb (fun k g' hk hg' => tag (hb2.apg k g' hk hg').choose_spec.1 (by intro cs e; injection e with _ e2; exact absurd e2 (by decide))), ⟨Or.inl ho2.pbb, Or.inl ho2.ppb, ?_, ?_, ?_⟩⟩
      · have : x2.bb ≠ g := fun e => hPg (e ▸ ho2.pbb)
        simp [this]; exact ho2.ob
      · have : x2.pb ≠ g := fun e => hPg (e ▸ ho2.ppb)
        simp [this]; exact ho2.op
      · intro k g' hk hgk
        have q := ho2.pg k g' hk hgk
        have : g' ≠ g := fun e => hPg (e ▸ q.1)
        simp [this, q.1]; exact q.2
  · rintro k (hk | rfl)
    · have := h.lt k hk; have := hB.size; simp; omega
    · simpa using hglt
end MemX
end Go.Proofs.Ytigiahcfcglacaa
