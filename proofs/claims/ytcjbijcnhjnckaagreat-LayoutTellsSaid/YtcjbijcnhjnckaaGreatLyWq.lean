/-
  Places, gaps and the given answer's rows, cell by cell.
-/
import Derived.Test.YtcjbijcnhjnckaaGreatLyWp
import Derived.Test.YtcjbijcnhjnckaaGreatHRowOpen
namespace Go.Proofs.YtcjbijcnhjnckaaGreat
open Go.RowKit Go.Maps
set_option linter.unusedVariables false
set_option maxRecDepth 100000
theorem pl_at : ∀ (l : List Pl) (i : Nat) (P : Pl), l[i]? = some P → ∀ k, k < 5 → (plCells l)[i * 5 + k]? = (plV P).toList[k]?
  | [], i, P, h, _, _ => by simp at h
  | a :: l, 0, P, h, k, hk => by
    simp only [List.getElem?_cons_zero, Option.some.injEq] at h
    subst h
    simp only [plCells, List.flatMap_cons, Nat.zero_mul, Nat.zero_add]
    rw [List.getElem?_append_left (by simpa using hk)]
  | a :: l, i + 1, P, h, k, hk => by
    simp only [List.getElem?_cons_succ] at h
    have := pl_at l i P h k hk
    simp only [plCells, List.flatMap_cons]
    rw [List.getElem?_append_right (by simp; omega), show (i + 1) * 5 + k - (plV a).toList.length = i * 5 + k by simp; omega]
    exact this
theorem pl_len {un : Bool} {M : Int → Ex} : ∀ (l : List Mb) (s : Ls) (i : Nat), (placesS un M s i l).length ≤ l.length
  | [], _, _ => by simp [placesS]
  | m :: l, s, i => by
    have := pl_len (un := un) (M := M) l (stepP un M s m) (i + 1)
    simp only [placesS, List.length_append, List.length_cons]
    split <;> simp <;> omega
theorem ref_at {B : Nat} {w1 : World} {b mb : Nat} {tv : Value} {trs rrs : List (Rw × Value)} {rb : Nat} {rv : Value} {i : Nat} {p : Rw × Value} (hD : Duo B w1 b mb tv trs rb rv rrs) (hp : trs[i]? = some p) :
    ∃ (gr or' cr : Nat) (sp : Option Addr) (mc : Nat), rv = .slice (some ⟨gr, or', none⟩) trs.length cr ∧ trs.length ≤ cr ∧
      (∀ Y, Below w1.heap.size w1 Y → Y.cell? ⟨rb, 0, none⟩ = some (.slice (some ⟨gr, or', none⟩) trs.length cr) ∧ Y.cell? ⟨gr, or' + i * 6, none⟩ = some (.int .i64 p.1.kind) ∧ Y.cell? ⟨gr, or' + i * 6 + 4, none⟩ = some (.slice sp p.1.mem.length mc)) ∧
      (∀ (j : Nat) (m : Mb), p.1.mem[j]? = some m → ∃ gm om, sp = some ⟨gm, om, none⟩ ∧ p.1.mem.length ≤ mc ∧ ∀ Y, Below w1.heap.size w1 Y → ∀ k, k < 3 → Y.cell? ⟨gm, om + j * 3 + k, none⟩ = (mbCells m)[k]?) := by
  have hlen : rrs.length = trs.length := by have := congrArg List.length hD.same; simpa using this
  obtain ⟨q, hq, hqp⟩ : ∃ q, rrs[i]? = some q ∧ q.1 = p.1 := by
    have hlt : i < rrs.length := by rw [hlen]; exact (List.getElem?_eq_some_iff.1 hp).1
    refine ⟨rrs[i], List.getElem?_eq_getElem hlt, ?_⟩
    have := congrArg (fun l => l[i]?) hD.same
    simp only [List.getElem?_map, hp, List.getElem?_eq_getElem hlt, Option.map_some, Option.some.injEq] at this
    exact this
  have hs := hD.ref.rowSl
  rcases hs.1 with ⟨_, h0⟩ | ⟨g, o, cap, h1, h2, h3, h4⟩
  · rw [h0] at hq; simp at hq
  · have hc := h4 i q hq
    have hm := hs.2 q (List.mem_of_getElem? hq)
    obtain ⟨sp, mc, hsp⟩ : ∃ sp mc, q.2 = .slice sp p.1.mem.length mc := by
      rcases hm with ⟨e1, e2⟩ | ⟨gm, om, mc, e1, _⟩
      · exact ⟨none, 0, by rw [e1, ← hqp, e2]; rfl⟩
      · exact ⟨_, _, by rw [e1, hqp]⟩
    rw [hlen] at h1 h2
    refine ⟨g, o, cap, sp, mc, h1, h2, fun Y hY => ⟨?_, ?_, ?_⟩, fun j m hj => ?_⟩
    · rw [← h1]; exact (hD.ref.keptB hY).c0
    · rw [hY.cell (p := ⟨g, o + i * 6, none⟩) h3]
      have := hc 0 (by omega)
      simp only [Nat.add_zero, rwCells, List.getElem?_cons_zero] at this
      rw [this, hqp]
    · rw [hY.cell (p := ⟨g, o + i * 6 + 4, none⟩) h3]
      have := hc 4 (by omega)
      simp only [rwCells, List.getElem?_cons_zero, List.getElem?_cons_succ] at this
      rw [this, hsp]
    · rcases hm with ⟨e1, e2⟩ | ⟨gm, om, mc', e1, e2, e3, e4⟩
      · rw [← hqp, e2] at hj; simp at hj
      · rw [hsp] at e1
        injection e1 with e5 e6 e7
        refine ⟨gm, om, e5, by rw [e7, ← hqp]; exact e2, fun Y hY k hk => ?_⟩
        rw [hY.cell (p := ⟨gm, om + j * 3 + k, none⟩) e3]
        exact e4 j m (by rw [hqp]; exact hj) k hk
theorem gp_at : ∀ (l : List Gp) (i : Nat) (g : Gp), l[i]? = some g → (gpCells l)[i * 2]? = some (.int .i64 (g.from_ : Int)) ∧ (gpCells l)[i * 2 + 1]? = some (.int .i64 (g.bits : Int))
  | [], i, g, h => by simp at h
  | a :: l, 0, g, h => by
    simp only [List.getElem?_cons_zero, Option.some.injEq] at h
    subst h
    exact ⟨rfl, rfl⟩
  | a :: l, i + 1, g, h => by
    simp only [List.getElem?_cons_succ] at h
    have := gp_at l i g h
    simp only [gpCells, List.flatMap_cons] at this ⊢
    rw [List.getElem?_append_right (by simp; omega), List.getElem?_append_right (by simp; omega)]
    rw [show (i + 1) * 2 - [Value.int .i64 (a.from_ : Int), .int .i64 (a.bits : Int)].length = i * 2 by simp; omega, show (i + 1) * 2 + 1 - [Value.int .i64 (a.from_ : Int), .int .i64 (a.bits : Int)].length = i * 2 + 1 by simp; omega]
    exact this
/-- A row that a call made, in every world in which its block has not turned. -/
theorem own_kept {w w' : World} {S : Nat → Prop} {base : Nat} {e : TypeId} {size n : Nat} {v : Value} {xs : List Value} (h : w.ownsRow base e size v n xs) (ht : Turned w w' S) (hS : ∀ k, k < w.heap.size → S k → ¬ v.ownBlock = some k) : w'.ownsRow base e size v n xs :=
  ownsRow_turned h ht (fun k hk hs => hS k (by obtain ⟨_, cur, hc⟩ := ownsRow_at h hk; exact lt_of_heap hc) hs hk)
/-- Where the last gap ended, as the law keeps it. -/
def lastG (l : List Gp) : Nat → Int
  | 0 => -1
  | t + 1 => match l[t]? with | some g => (g.from_ : Int) + g.bits | none => 0
theorem lastG_at {l : List Gp} {t : Nat} {g : Gp} (h : l[t]? = some g) : lastG l (t + 1) = (g.from_ : Int) + g.bits := by
  show (match l[t]? with | some g => (g.from_ : Int) + g.bits | none => 0) = _
  rw [h]
theorem last_lt {f : Nat → Bool} {n : Nat} {s : Gs} (h : GapInv f n s) {t : Nat} {g : Gp} (hg : s.l[t]? = some g) : lastG s.l t < g.from_ := by
  cases t with
  | zero => show (-1 : Int) < _; omega
  | succ t =>
    have hlt : t < s.l.length := by have := (List.getElem?_eq_some_iff.1 hg).1; omega
    have ha : s.l[t]? = some s.l[t] := List.getElem?_eq_getElem hlt
    have := gap_next (f := f) (n := n) h.sorted ha hg
    rw [lastG_at ha]
    omega
theorem onF_step (l : List Gp) {t : Nat} {g : Gp} (hg : l[t]? = some g) (k : Nat) : onF (l.take (t + 1)) k = (onF (l.take t) k || (decide (g.from_ ≤ k) && decide (k < g.from_ + g.bits))) := by
  rw [take_snoc1 hg, onF_snoc]
  rfl
end Go.Proofs.YtcjbijcnhjnckaaGreat
