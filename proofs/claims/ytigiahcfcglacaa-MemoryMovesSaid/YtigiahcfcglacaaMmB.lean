/-
  What becomes of a memory where a cell is put, where a block is made, where a block ends; what the map answers.
-/
import Derived.Test.YtigiahcfcglacaaMmA
namespace Go.Proofs.Ytigiahcfcglacaa
open Go.RowKit Go.Maps
set_option linter.unusedVariables false
set_option maxRecDepth 100000

theorem np_lt {n k : Nat} (h : k < n) : k / 128 < np n := by unfold np; omega
theorem plen_lt {n k : Nat} (h : k < n) : k % 128 < plen n (k / 128) := by unfold plen; omega
theorem np_max {n : Nat} (h : n ≤ 16384) : np n ≤ 128 := by unfold np; omega
theorem plen_max (n j : Nat) : plen n j ≤ 128 := by unfold plen; omega
def Bk.put (x : Bk) (k : Nat) (c : Cl) : Bk := { x with cell := setF x.cell k c }
def Bx.put (x : Bx) (k : Nat) (c : Cl) : Bx := { x with bk := x.bk.put k c }
theorem div_of {j m k : Nat} (hm : m < 128) (e : j * 128 + m = k) : j = k / 128 ∧ m = k % 128 := by omega
theorem perm_erase {α : Type} : ∀ (l : List α) (j : Nat) (e : α), l[j]? = some e → l.Perm (e :: l.eraseIdx j)
  | [], j, e, h => by simp at h
  | a :: l, 0, e, h => by simp at h; subst h; exact List.Perm.refl _
  | a :: l, j + 1, e, h => by
    simp at h
    have := perm_erase l j e h
    rw [List.eraseIdx_cons_succ]
    exact (List.Perm.cons a this).trans (List.Perm.swap e a _)
namespace MemX
variable {w w' : World} {b : Nat} {xs : List (Option Bx)} {P : Nat → Prop}
theorem putCell (h : MemX w b xs P) {i : Nat} {x : Bx} (hx : xs[i]? = some (some x)) {k g : Nat} (hk : k < x.bk.size) (hg : x.pg (k / 128) = some g) (c : Cl) :
    MemX (set4 w g (k % 128 * 4) c) b (xs.set i (some (x.put k c))) P ∧ Turned w (set4 w g (k % 128 * 4) c) P := by
  obtain ⟨ow, ho⟩ := h.own
  obtain ⟨mb, es, ck, h1, h2, h3, h4⟩ := h.head
  obtain ⟨hbx, hox⟩ := ho i x hx
  have hil : i < xs.length := (List.getElem?_eq_some_iff.1 hx).1
  have hj := np_lt hk
  have hpg := hbx.apg _ g hj hg
  obtain ⟨hPg, hog⟩ := hox.pg _ g hj hg
  have ht : Turned w (set4 w g (k % 128 * 4) c) (fun m => m = g) := Turned.set4 _ _ _ _ rfl
  have tag : ∀ {m : Nat} {o : Obj}, w.heap[m]? = some o → (∀ cs, o ≠ .cells cs TC (0, 0)) → m ≠ g := by
    intro m o hm hne e
    subst e; rw [hpg.choose_spec.1] at hm; cases hm; exact hne _ rfl
  refine ⟨⟨⟨mb, es, ck, ?_, ?_, h3, ?_⟩, ⟨ow, ?_⟩, h.pb, fun m hm => Nat.lt_of_lt_of_le (h.lt m hm) ht.size, by simpa using h.len⟩, ht.mono (fun m hm => by subst hm; exact hPg)⟩
  · rw [ht.block _ (lt_of_heap h1) (tag h1 (by intro cs e; injection e with _ e2; exact absurd e2 (by decide))), List.length_set]; exact h1
  · rw [ht.block _ (lt_of_heap h2) (tag h2 (by intro cs e; cases e))]; exact h2
  · refine ⟨fun e he => ?_, fun i2 x2 hx2 => ?_, h4.nodup, by rw [h4.num, alive_set hx]⟩
    · obtain ⟨i2, x2, q1, q2, q3⟩ := h4.sound e he
      by_cases e2 : i = i2
      · subst e2
        rw [hx] at q1; cases q1
        exact ⟨i, x.put k c, by simp [hil], q2, q3⟩
      · exact ⟨i2, x2, by rw [List.getElem?_set_ne e2]; exact q1, q2, q3⟩
    · by_cases e2 : i = i2
      · subst e2; exact h4.all i x hx
      · rw [List.getElem?_set_ne e2] at hx2; exact h4.all i2 x2 hx2
  · intro i2 x2 hx2
    by_cases e2 : i = i2
    · subst e2
      rw [List.getElem?_set_self hil] at hx2
      cases hx2
      refine ⟨⟨hbx.one, hbx.max, hbx.al, ?_, ?_, ?_, ?_⟩, ⟨hox.pbb, hox.ppb, hox.ob, hox.op, hox.pg⟩⟩
      · show (World.heap _)[x.bb]? = _
        rw [ht.block _ (lt_of_heap hbx.blk) (tag hbx.blk (by intro cs e; injection e with _ e2; exact absurd e2 (by decide)))]; exact hbx.blk
      · obtain ⟨pcs, p1, p2, p3⟩ := hbx.pages
        refine ⟨pcs, ?_, p2, p3⟩
        show (World.heap _)[x.pb]? = _
        rw [ht.block _ (lt_of_heap p1) (tag p1 (by intro cs e; injection e with _ e2; exact absurd e2 (by decide)))]; exact p1
      · intro j hj2 hn m hm
        show setF x.bk.cell k c (j * 128 + m) = clZ
        unfold setF
        rw [if_neg (fun e => by
          have := (div_of hm e).1
          subst this
          have hn' : x.pg (k / 128) = none := hn
          rw [hg] at hn'; cases hn')]
        exact hbx.nopg j hj2 hn m hm
      · intro j g' hj2 hg'
        have hg2 : x.pg j = some g' := hg'
        by_cases e : g' = g
        · subst e
          have hjk : k / 128 = j := by
            have := (hox.pg j g' hj2 hg2).2
            rw [hog] at this; exact congrArg Prod.snd this
          subst hjk
          refine (hpg.set (plen_lt hk) c).congr (fun m hm => ?_)
          have hm128 : m < 128 := Nat.lt_of_lt_of_le hm (plen_max _ _)
          show setF (fun i => x.bk.cell (k / 128 * 128 + i)) (k % 128) c m = setF x.bk.cell k c (k / 128 * 128 + m)
          unfold setF
          by_cases e : m = k % 128
          · rw [if_pos e, if_pos (by omega)]
          · rw [if_neg e, if_neg (by omega)]
        · refine ((hbx.apg j g' hj2 hg2).kept ht e).congr (fun m hm => ?_)
          have hm128 : m < 128 := Nat.lt_of_lt_of_le hm (plen_max _ _)
          show x.bk.cell (j * 128 + m) = setF x.bk.cell k c (j * 128 + m)
          unfold setF
          rw [if_neg (fun e2 => by
            have := (div_of hm128 e2).1
            subst this
            rw [hg] at hg2; cases hg2; exact e rfl)]
    · rw [List.getElem?_set_ne e2] at hx2
      obtain ⟨hb2, ho2⟩ := ho i2 x2 hx2
      refine ⟨hb2.kept ht (tag hb2.blk (by intro cs e; injection e with _ e2; exact absurd e2 (by decide))) (tag hb2.pages.choose_spec.1 (by intro cs e; injection e with _ e2; exact absurd e2 (by decide))) (fun j g' hj2 hg' e => ?_), ho2⟩
      subst e
      have := (ho2.pg j g' hj2 hg').2
      rw [hog] at this
      exact e2 (congrArg Prod.fst this)
/-- A block more. -/
theorem push (h : MemX w b xs P) {mb : Nat} {es : Array MapEntry} {ck ck2 ck3 : Nat} (hmb : w.heap[b]? = some (.cells #[.pointer (some ⟨b, 0, none⟩), .map (some mb), .int .i64 xs.length] TMm (0, 0))) (hes : w.heap[mb]? = some (.map es ck)) {w2 : World} {x : Bx}
    (ht : Turned w w2 (fun k => k = b ∨ k = mb)) (hb : w2.heap[b]? = some (.cells #[.pointer (some ⟨b, 0, none⟩), .map (some mb), .int .i64 ((xs.length : Int) + 1)] TMm (0, 0)))
    (hm : w2.heap[mb]? = some (.map (es.push ⟨.int .i64 ((xs.length : Int) + 1), .pointer (some ⟨x.bb, 0, none⟩), ck2⟩) ck3)) (hx : BlkAt w2 x) (h1 : w.heap.size ≤ x.bb) (h2 : w.heap.size ≤ x.pb) (h3 : ∀ j, x.pg j = none) (hlen : xs.length + 1 < 140737488355328) :
    MemX w2 b (xs ++ [some x]) (fun k => P k ∨ k = x.bb ∨ k = x.pb) := by
  obtain ⟨ow, ho⟩ := h.own
  obtain ⟨mb', es', ck', g1, g2, g3, g4⟩ := h.head
  rw [hmb] at g1; injection g1 with g1; injection g1 with g1; 
  have hmm : mb' = mb := by simp at g1; exact g1.symm
  subst hmm
  rw [hes] at g2; injection g2 with g2; injection g2 with g2 g2'; subst g2
  have hPb : ∀ k, w.heap.size ≤ k → ¬ P k := fun k hk hp => absurd (h.lt k hp) (by omega)
  have tb : ∀ {m : Nat} {o : Obj}, w.heap[m]? = some o → (∀ cs, o ≠ .cells cs TMm (0, 0)) → (∀ a b, o ≠ .map a b) → ¬ (m = b ∨ m = mb') := by
    rintro m o hmo hne hne2 (e | e)
    · subst e; rw [hmb] at hmo; cases hmo; exact hne _ rfl
    · subst e; rw [hes] at hmo; cases hmo; exact hne2 _ _ rfl
  refine ⟨⟨mb', _, _, by simpa using hb, hm, Or.inl g3, ?_⟩, ⟨fun k => if k = x.bb ∨ k = x.pb then (xs.length, 0) else ow k, ?_⟩, Or.inl h.pb, ?_, by simpa using hlen⟩
  · refine ⟨fun e he => ?_, fun i y hy => ?_, ?_, ?_⟩
    · simp only [Array.toList_push, List.mem_append, List.mem_singleton] at he
      rcases he with he | rfl
      · obtain ⟨i, y, q1, q2⟩ := g4.sound e he
        exact ⟨i, y, by rw [List.getElem?_append_left (List.getElem?_eq_some_iff.1 q1).1]; exact q1, q2⟩
      · exact ⟨xs.length, x, by simp, rfl, rfl⟩
    · by_cases hi : i < xs.length
      · rw [List.getElem?_append_left hi] at hy
        obtain ⟨e, he, hk⟩ := g4.all i y hy
        exact ⟨e, by simp [he], hk⟩
      · rw [List.getElem?_append_right (by omega)] at hy
        have : i - xs.length = 0 := by
          rcases Nat.eq_zero_or_pos (i - xs.length) with e | e
          · exact e
          · rw [List.getElem?_eq_none (by simp; omega)] at hy; cases hy
        exact ⟨_, by simp; exact Or.inr rfl, by simp; omega⟩
    · rw [Array.toList_push, List.map_append, List.nodup_append]
      refine ⟨g4.nodup, by simp, ?_⟩
      intro a ha c hc
      simp only [List.map_cons, List.map_nil, List.mem_singleton] at hc
      obtain ⟨e, he, rfl⟩ := List.mem_map.1 ha
      obtain ⟨i, y, q1, q2, _⟩ := g4.sound e he
      subst hc
      rw [q2]
      intro e3
      injection e3 with _ e3
      have := (List.getElem?_eq_some_iff.1 q1).1
      omega
    · simp [alive, g4.num]
  · intro i y hy
    by_cases hi : i < xs.length
    · rw [List.getElem?_append_left hi] at hy
      obtain ⟨hby, hoy⟩ := ho i y hy
      have ne : ∀ k, P k → ¬ (k = x.bb ∨ k = x.pb) := by
        rintro k hk (e | e)
        · exact hPb _ h1 (e ▸ hk)
        · exact hPb _ h2 (e ▸ hk)
      refine ⟨hby.kept ht (tb hby.blk (by intro cs e; injection e with _ e2; exact absurd e2 (by decide)) (by intro _ _ e; cases e)) (tb hby.pages.choose_spec.1 (by intro cs e; injection e with _ e2; exact absurd e2 (by decide)) (by intro _ _ e; cases e)) (fun j g hj hg => tb (hby.apg j g hj hg).choose_spec.1 (by intro cs e; injection e with _ e2; exact absurd e2 (by decide)) (by intro _ _ e; cases e)), ⟨Or.inl hoy.pbb, Or.inl hoy.ppb, ?_, ?_, ?_⟩⟩
      · rw [if_neg (ne _ hoy.pbb)]; exact hoy.ob
      · rw [if_neg (ne _ hoy.ppb)]; exact hoy.op
      · intro j g hj hg
        have q := hoy.pg j g hj hg
        refine ⟨Or.inl q.1, ?_⟩
        rw [if_neg (ne _ q.1)]; exact q.2
    · rw [List.getElem?_append_right (by omega)] at hy
      have h0 : i - xs.length = 0 := by
        rcases Nat.eq_zero_or_pos (i - xs.length) with e | e
        · exact e
        · rw [List.getElem?_eq_none (by simp; omega)] at hy; cases hy
      rw [h0] at hy
      simp at hy; subst hy
      have hi2 : i = xs.length := by omega
      refine ⟨hx, ⟨Or.inr (Or.inl rfl), Or.inr (Or.inr rfl), by rw [if_pos (Or.inl rfl)]; exact hi2.symm, by rw [if_pos (Or.inr rfl)]; exact hi2.symm, fun j g hj hg => by rw [h3 j] at hg; cases hg⟩⟩
  · rintro k (hk | rfl | rfl)
    · exact Nat.lt_of_lt_of_le (h.lt k hk) ht.size
    · exact lt_of_heap hx.blk
    · exact lt_of_heap hx.pages.choose_spec.1
/-- A block less. -/
theorem drop (h : MemX w b xs P) {mb : Nat} {es : Array MapEntry} {ck ck2 : Nat} (hmb : w.heap[b]? = some (.cells #[.pointer (some ⟨b, 0, none⟩), .map (some mb), .int .i64 xs.length] TMm (0, 0))) (hes : w.heap[mb]? = some (.map es ck)) {w2 : World} {i : Nat} {x : Bx} (hx : xs[i]? = some (some x))
    (ht : Turned w w2 (fun k => k = mb)) {j : Nat} {e0 : MapEntry} (he0 : es.toList[j]? = some e0) (hk0 : e0.key = .int .i64 ((i : Int) + 1)) {es2 : Array MapEntry} (he2 : es2.toList = es.toList.eraseIdx j) (hm : w2.heap[mb]? = some (.map es2 ck2)) :
    MemX w2 b (xs.set i none) P ∧ Turned w w2 P := by
  obtain ⟨ow, ho⟩ := h.own
  obtain ⟨mb', es', ck', g1, g2, g3, g4⟩ := h.head
  rw [hmb] at g1; injection g1 with g1; injection g1 with g1; 
  have hmm : mb' = mb := by simp at g1; exact g1.symm
  subst hmm
  rw [hes] at g2; injection g2 with g2; injection g2 with g2 g2'; subst g2
  have hil : i < xs.length := (List.getElem?_eq_some_iff.1 hx).1
  have tb : ∀ {m : Nat} {o : Obj}, w.heap[m]? = some o → (∀ a b, o ≠ .map a b) → ¬ (m = mb') := by
    rintro m o hmo hne2 e
    subst e; rw [hes] at hmo; cases hmo; exact hne2 _ _ rfl
  have hjl : j < es.toList.length := (List.getElem?_eq_some_iff.1 he0).1
  have hperm : es.toList.Perm (e0 :: es2.toList) := by
    rw [he2]
    exact perm_erase _ _ _ he0
  have hnd : (e0.key :: es2.toList.map (·.key)).Nodup := by
    have := ((hperm.map (fun e : MapEntry => e.key)).nodup_iff).1 g4.nodup
    exact this
  rw [List.nodup_cons] at hnd
  refine ⟨⟨⟨mb', es2, ck2, ?_, hm, g3, ?_⟩, ⟨ow, ?_⟩, h.pb, fun m hm => Nat.lt_of_lt_of_le (h.lt m hm) ht.size, by simpa using h.len⟩, ht.mono (fun k hk => by subst hk; exact g3)⟩
  · rw [ht.block _ (lt_of_heap hmb) (tb hmb (by intro _ _ e; cases e)), List.length_set]; exact hmb
  · refine ⟨fun e he => ?_, fun i2 y hy => ?_, hnd.2, ?_⟩
    · obtain ⟨i2, y, q1, q2, q3⟩ := g4.sound e (hperm.mem_iff.2 (List.mem_cons_of_mem _ he))
      have hne : i ≠ i2 := by
        rintro rfl
        exact hnd.1 (List.mem_map.2 ⟨e, he, by rw [q2, hk0]⟩)
      exact ⟨i2, y, by rw [List.getElem?_set_ne hne]; exact q1, q2, q3⟩
    · have hne : i ≠ i2 := by
        rintro rfl
        rw [List.getElem?_set_self hil] at hy; cases hy
      rw [List.getElem?_set_ne hne] at hy
      obtain ⟨e, he, hk⟩ := g4.all i2 y hy
      rcases List.mem_cons.1 (hperm.mem_iff.1 he) with rfl | he
      · rw [hk0] at hk; injection hk with _ hk; omega
      · exact ⟨e, he, hk⟩
    · have hl := hperm.length_eq
      have hn := g4.num
      have : alive xs = alive (xs.set i none) + 1 := by
        unfold alive
        conv => lhs; rw [← set_self hx]
        rw [List.countP_set hil, List.countP_set hil]; simp
      simp at hl
      omega
  · intro i2 y hy
    have hne : i ≠ i2 := by
      rintro rfl
      rw [List.getElem?_set_self hil] at hy; cases hy
    rw [List.getElem?_set_ne hne] at hy
    obtain ⟨hby, hoy⟩ := ho i2 y hy
    exact ⟨hby.kept ht (tb hby.blk (by intro _ _ e; cases e)) (tb hby.pages.choose_spec.1 (by intro _ _ e; cases e)) (fun j g hj hg => tb (hby.apg j g hj hg).choose_spec.1 (by intro _ _ e; cases e)), hoy⟩
end MemX
theorem keyed_int : Keyed Try.prog 3 := int_keyed Try.underlying3
theorem key_int {a : Int} (h1 : -9223372036854775808 ≤ a) (h2 : a < 9223372036854775808) : keyOf Try.prog 3 (.int .i64 a) = some (.int .i64 a) :=
  keyOf_int_mk Try.underlying3 (by simp [Lit.wf, IntKind.min, IntKind.max, IntKind.bits, IntKind.signed]; omega)
end Go.Proofs.Ytigiahcfcglacaa
