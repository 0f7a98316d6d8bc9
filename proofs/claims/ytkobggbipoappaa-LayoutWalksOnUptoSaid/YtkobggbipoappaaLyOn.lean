/-
  A walk goes on from where another one ended (pure), and hops appended to hops.
-/
import Derived.Test.YtkobggbipoappaaLyWl
import Derived.Laws.AppendOwnNone
namespace Go.Proofs.Ytkobggbipoappaa
open Go.RowKit Go.Maps
set_option linter.unusedVariables false
set_option maxRecDepth 100000
section
variable {rs : List (Rw × Value)} {M : Int → Ex}
theorem walkR_some (hf : FromOK rs) (hM : IsMeas (rowsOf rs) M) {id : Int} {l : List Hp} (h : (walkR rs M id l).2 = 0) : openE rs M id = 0 ∧ walkP rs M ⟨0, id, 0, 0, 0⟩ l = some (walkR rs M id l).1 ∧ (M id).size ≤ 16384 ∧ AtOK rs M (M id).size (walkR rs M id l).1 := by
  unfold walkR at h ⊢
  by_cases he : openE rs M id = 0
  · rw [if_pos he] at h ⊢
    have hhh : hasP rs.length id = true := by
      cases hh : hasP rs.length id with
      | true => rfl
      | false => rw [(openE_none (M := M) hh).1] at he; cases he
    obtain ⟨i, p, rfl, hp⟩ := has_at hhh
    have hwP := wholeP_at hp
    cases hw : wholeR p.1 with
    | false => rw [hw] at hwP; rw [(openE_inc (M := M) hhh hwP).1] at he; cases he
    | true =>
      rw [hw] at hwP
      have hg : (M i).size ≤ 16384 := by
        refine Int.not_lt.1 fun hg => ?_
        rw [(openE_large hhh hwP hg).1] at he
        cases he
      cases ho : walkP rs M ⟨0, i, 0, 0, 0⟩ l with
      | none => rw [ho] at h; cases h
      | some P => exact ⟨he, rfl, hg, walk_at hf hM hg l (at_first hf hM hp hw) ho⟩
  · rw [if_neg he] at h
    exact absurd h he
theorem at_open (hf : FromOK rs) (hM : IsMeas (rowsOf rs) M) {S : Int} (hS : S ≤ 16384) {a : Pl} (h : AtOK rs M S a) : openE rs M a.type = 0 := by
  have hsz := at_size hf hM h hS
  obtain ⟨i, p, e, hp, hw, _⟩ := h.ex
  have hlt : i < rs.length := (List.getElem?_eq_some_iff.1 hp).1
  rw [e] at hsz ⊢
  exact (openE_ok (by simp [hasP]; omega) (by rw [wholeP_at hp]; exact hw) hsz).1
/-- The places add up. -/
theorem walks_on (hf : FromOK rs) (hM : IsMeas (rowsOf rs) M) {id : Int} {f : List Hp} (s : List Hp) (h : (walkR rs M id f).2 = 0) (hb : (walkR rs M id f).1.bits ≤ 0) :
    (walkR rs M (walkR rs M id f).1.type s = (pl0, 30) ∧ walkR rs M id (f ++ s) = (pl0, 30)) ∨
    ∃ x y, walkR rs M (walkR rs M id f).1.type s = (y, 0) ∧ walkR rs M id (f ++ s) = (x, 0) ∧ x.off = (walkR rs M id f).1.off + y.off ∧ x.bit = y.bit ∧ x.bits = y.bits ∧ x.type = y.type ∧ 0 ≤ x.off ∧ x.off ≤ 16384 := by
  obtain ⟨he, hw, hg, hA⟩ := walkR_some hf hM h
  generalize (walkR rs M id f).1 = P at *
  have heP := at_open hf hM hg hA
  have hz : P.bits = 0 ∧ P.bit = 0 := by rcases hA.bz with hz | hz; exact hz; omega
  have hfar : Far P.off P ⟨0, P.type, 0, 0, 0⟩ := ⟨rfl, hz.2, hz.1, by show P.off = 0 + P.off; omega⟩
  have happ := walk_append (rs := rs) (M := M) f s ⟨0, id, 0, 0, 0⟩
  rw [hw] at happ
  have happ2 : walkP rs M ⟨0, id, 0, 0, 0⟩ (f ++ s) = walkP rs M P s := happ
  unfold walkR
  rw [if_pos he, if_pos heP, happ2]
  rcases walk_far (rs := rs) (M := M) s hfar with ⟨h1, h2⟩ | ⟨x, y, h1, h2, hF⟩
  · left
    rw [h1, h2]
    exact ⟨rfl, rfl⟩
  · right
    rw [h1, h2]
    have hx := walk_at hf hM hg s hA h1
    have := hF.off
    exact ⟨x, y, rfl, rfl, by omega, hF.bit, hF.bits, hF.ty, hx.lo, by have := hx.hi; omega⟩
end
def hopsC (l : List Hp) : List Value := l.flatMap hpCells
theorem hopsC_length (l : List Hp) : (hopsC l).length = l.length * 2 := by
  induction l with
  | nil => rfl
  | cons a l ih =>
    show (hpCells a ++ hopsC l).length = _
    rw [List.length_append, ih]
    simp only [hpCells, List.length_cons, List.length_nil]
    omega
theorem hopsC_at : ∀ (l : List Hp) (i : Nat) (h : Hp), l[i]? = some h → ∀ k, k < 2 → (hopsC l)[i * 2 + k]? = (hpCells h)[k]?
  | [], i, h, hh, _, _ => by simp at hh
  | a :: l, 0, h, hh, k, hk => by
    simp only [List.getElem?_cons_zero, Option.some.injEq] at hh
    subst hh
    simp only [hopsC, List.flatMap_cons, Nat.zero_mul, Nat.zero_add]
    rw [List.getElem?_append_left (by simpa [hpCells] using hk)]
  | a :: l, i + 1, h, hh, k, hk => by
    simp only [List.getElem?_cons_succ] at hh
    have := hopsC_at l i h hh k hk
    simp only [hopsC, List.flatMap_cons]
    rw [List.getElem?_append_right (by simp [hpCells]; omega), show (i + 1) * 2 + k - (hpCells a).length = i * 2 + k by simp [hpCells]; omega]
    exact this
theorem hopsC_one (l : List Hp) : ∀ u ∈ hopsC l, u.oneCell' = true := by
  intro u hu
  simp only [hopsC, List.mem_flatMap] at hu
  obtain ⟨h, _, hu⟩ := hu
  simp only [hpCells, List.mem_cons, List.not_mem_nil, or_false] at hu
  rcases hu with rfl | rfl <;> rfl
theorem hopsC_append (f s : List Hp) : hopsC f ++ hopsC s = hopsC (f ++ s) := by simp [hopsC]
theorem HopSl.of_own {w : World} {B : Nat} {s : Value} {l : List Hp} (h : w.ownsRow B THop 2 s l.length (hopsC l)) : HopSl w s l := by
  obtain ⟨h1, ⟨rfl, h2⟩ | ⟨g, cap, cur, rfl, hb, hg, hc, hm, hsz, ht⟩⟩ := h
  · exact .inl ⟨rfl, List.eq_nil_of_length_eq_zero h2⟩
  · refine .inr ⟨g, 0, cap, rfl, hc, lt_of_heap hg, fun i m hi j hj => ?_⟩
    have hil := (List.getElem?_eq_some_iff.1 hi).1
    have e := hopsC_at l i m hi j hj
    rw [← ht, List.getElem?_take, if_pos (by omega)] at e
    rw [Lib.cell_of_heap hg, Nat.zero_add]
    simpa using e
theorem infoHop : (Try.prog.info? THop).map (fun i => (i.zero, i.size, i.bytes)) = some (some (.agg #[.string ⟨#[]⟩, .int .i64 0]), 2, 24) := by kernel_rfl
/-- append of hops that came in, or were made, to hops that the call made. -/
theorem append_hops {ops : Array Oper} {rest : List Oper} {o : Oper} {a : Act} {Q : Exit → Act → World → Prop} {w : World} (hgd : o.guard = none) (s x : Operand)
    (ho : o.op = .call { callee := .builtin .append, args := #[s, x], argTypes := #[39, 39] }) (base : Nat) (v : Value) (n : Nat) (xs : List Value) (hs : a.eval s = v) (hown : w.ownsRow base THop 2 v n xs)
    {xv : Value} {l : List Hp} (hx : a.eval x = xv) (hin : HopIn w xv l) (hb : (n + l.length) * 24 ≤ 140737488355328) (hbase : base ≤ w.heap.size)
    (h : ∀ v' w', w'.ownsRow base THop 2 v' (n + l.length) (xs ++ hopsC l) → w.grownBy w' v.ownBlock → wpList Try.prog ops Q rest (a.put o.dst v') w') : wpList Try.prog ops Q (o :: rest) a w := by
  obtain ⟨i0, hi, hz0, hz1, hz2⟩ := info_parts infoHop
  rcases hin with (⟨rfl, rfl⟩ | ⟨g, of, cap, rfl, hc, hg, hcell⟩) | ⟨ad, c, rfl, rfl⟩
  · refine wpList_append_own_none hgd s x 39 ho base THop i0 2 Try.underlying39 hi v n xs hs hown hx ?_
    exact h v w (by simpa [hopsC] using hown) ⟨rfl, rfl, rfl, Nat.le_refl _, fun _ _ _ => rfl⟩
  · refine wpList_append_own _ hgd s x 39 ho base THop i0 _ 2 24 Try.underlying39 hi hz0 hz1 hz2 rfl (by decide) v n xs hs hown ⟨g, of, none⟩ l.length cap (hopsC l) hx (hopsC_length l) ?_ (hopsC_one l) (by unfold maxLen; omega) hb hbase (fun v' w' h1 h2 _ => h v' w' h1 h2)
    intro j u hj
    have hjl := (List.getElem?_eq_some_iff.1 hj).1
    rw [hopsC_length] at hjl
    obtain ⟨m, hm⟩ : ∃ m, l[j / 2]? = some m := ⟨_, List.getElem?_eq_getElem (by omega)⟩
    have e := hopsC_at l (j / 2) m hm (j % 2) (Nat.mod_lt _ (by decide))
    have c := hcell (j / 2) m hm (j % 2) (Nat.mod_lt _ (by decide))
    rw [show j / 2 * 2 + j % 2 = j by omega, hj] at e
    rw [← e, show of + j / 2 * 2 + j % 2 = of + j by omega] at c
    rw [Addr.add_lit]
    exact c
  · exact wpList_append_own _ hgd s x 39 ho base THop i0 _ 2 24 Try.underlying39 hi hz0 hz1 hz2 rfl (by decide) v n xs hs hown ad 0 c [] hx rfl (fun j u hj => by simp at hj) (fun u hu => by cases hu) (by unfold maxLen; simp at hb; omega) hb hbase (fun v' w' h1 h2 _ => h v' w' h1 h2)
end Go.Proofs.Ytkobggbipoappaa
