/-
  Slices of tokens that came in: what they hold, and how great they are.
-/
import Derived.Test.YtjbmpdcgmphhoaaGreatDoorSameS
import Derived.Test.YtjbmpdcgmphhoaaGreatDoorRows
import Derived.ProofKit
import Derived.OpenShut
import Derived.Deep.Slices
import Derived.Stop.Joined
import Derived.Deep.DeepHandedRow
namespace Go.Proofs.YtjbmpdcgmphhoaaGreatDoor
open Go.ChangeShapes Go.WideShapes Go.ChangeAt Go.RowKit
set_option linter.unusedVariables false

theorem cells_kind : Tryz.prog.cellsOf 33 = 1 := by kernel_rfl
theorem cells_str : Tryz.prog.cellsOf 9 = 1 := by kernel_rfl
theorem cells_int : Tryz.prog.cellsOf 3 = 1 := by kernel_rfl
theorem cells_spot : Tryz.prog.cellsOf 25 = 3 := by kernel_rfl
theorem cells_tok : Tryz.prog.cellsOf 35 = 6 := by kernel_rfl

section
variable {H : Type} {enc : TypeId × Value → H} {w : World} {base : Nat} {spare : Nat → Bool} {held : Bool}

/-- A token's reading. -/
def RTok.data (t : RTok) : DataW H := .agg [.lit (.int .i64 t.k), .lit (.string t.s.data.toList), .lit (.int .i64 t.n), .agg [.lit (.int .i64 t.a), .lit (.int .i64 t.b), .lit (.int .i64 t.c)]]

theorem list6 {α : Type} : ∀ {l : List α}, l.length = 6 → ∃ a b c d e f, l = [a, b, c, d, e, f]
  | [a, b, c, d, e, f], _ => ⟨a, b, c, d, e, f, rfl⟩
theorem list4 {α : Type} : ∀ {l : List α}, l.length = 4 → ∃ a b c d, l = [a, b, c, d]
  | [a, b, c, d], _ => ⟨a, b, c, d, rfl⟩
theorem list3 {α : Type} : ∀ {l : List α}, l.length = 3 → ∃ a b c, l = [a, b, c]
  | [a, b, c], _ => ⟨a, b, c, rfl⟩

theorem open_tok {fuel : Nat} {cs : List Value} {x : DataW H × List MemPlace} (h : DataW.trod enc Tryz.prog w base spare held fuel 35 cs = some x) :
    ∃ t : RTok, cs = t.cells ∧ x.1 = t.data ∧ t.s.size ≤ maxLen ∧ (-9223372036854775808 ≤ t.k ∧ t.k ≤ 9223372036854775807) ∧ (-9223372036854775808 ≤ t.n ∧ t.n ≤ 9223372036854775807) := by
  obtain ⟨xs, n, rfl, rfl, hl, hlen, hf⟩ := DataW.trod_struct Tryz.underlying35 h
  rw [cells_tok] at hl
  have f0 : DataW.trod enc Tryz.prog w base spare held n 33 ((cs.drop 0).take (Tryz.prog.cellsOf 33)) = xs[0]? := hf 0 _ rfl
  have f1 : DataW.trod enc Tryz.prog w base spare held n 9 ((cs.drop 1).take (Tryz.prog.cellsOf 9)) = xs[1]? := hf 1 _ rfl
  have f2 : DataW.trod enc Tryz.prog w base spare held n 3 ((cs.drop 2).take (Tryz.prog.cellsOf 3)) = xs[2]? := hf 2 _ rfl
  have f3 : DataW.trod enc Tryz.prog w base spare held n 25 ((cs.drop 3).take (Tryz.prog.cellsOf 25)) = xs[3]? := hf 3 _ rfl
  rw [cells_kind] at f0
  rw [cells_str] at f1
  rw [cells_int] at f2
  rw [cells_spot] at f3
  obtain ⟨c0, c1, c2, c3, c4, c5, rfl⟩ := list6 hl
  obtain ⟨y0, y1, y2, y3, rfl⟩ := list4 hlen
  simp only [List.drop_zero, List.drop_succ_cons, List.take_succ_cons, List.take_zero, List.getElem?_cons_zero, List.getElem?_cons_succ] at f0 f1 f2 f3
  obtain ⟨k, e0, d0, w0⟩ := DataW.trod_int Tryz.underlying33 f0
  obtain ⟨s, e1, d1, w1⟩ := DataW.trod_string Tryz.underlying9 f1
  obtain ⟨m, e2, d2, w2⟩ := DataW.trod_int Tryz.underlying3 f2
  obtain ⟨zs, n', rfl, hy3, hl3, hlen3, hf3⟩ := DataW.trod_struct Tryz.underlying25 f3
  have g0 : DataW.trod enc Tryz.prog w base spare held n' 3 (([c3, c4, c5].drop 0).take (Tryz.prog.cellsOf 3)) = zs[0]? := hf3 0 _ rfl
  have g1 : DataW.trod enc Tryz.prog w base spare held n' 3 (([c3, c4, c5].drop 1).take (Tryz.prog.cellsOf 3)) = zs[1]? := hf3 1 _ rfl
  have g2 : DataW.trod enc Tryz.prog w base spare held n' 3 (([c3, c4, c5].drop 2).take (Tryz.prog.cellsOf 3)) = zs[2]? := hf3 2 _ rfl
  rw [cells_int] at g0 g1 g2
  obtain ⟨z0, z1, z2, rfl⟩ := list3 hlen3
  simp only [List.drop_zero, List.drop_succ_cons, List.take_succ_cons, List.take_zero, List.getElem?_cons_zero, List.getElem?_cons_succ] at g0 g1 g2
  obtain ⟨a, e3, d3, w3⟩ := DataW.trod_int Tryz.underlying3 g0
  obtain ⟨b, e4, d4, w4⟩ := DataW.trod_int Tryz.underlying3 g1
  obtain ⟨c, e5, d5, w5⟩ := DataW.trod_int Tryz.underlying3 g2
  cases e0; cases e1; cases e2; cases e3; cases e4; cases e5
  subst d0 d1 d2 hy3 d3 d4 d5
  exact ⟨⟨k, s, m, a, b, c⟩, rfl, rfl, w1, bounds_i64 w0, bounds_i64 w2⟩

theorem open_toks {fuel : Nat} {cs : List Value} {x : DataW H × List MemPlace} (h : DataW.trod enc Tryz.prog w base spare held fuel 22 cs = some x) :
    (cs = [.slice none 0 0] ∧ x = (.nil, [])) ∨
    ∃ (a : Addr) (cap : Nat) (xs : List RTok) (rest : List (DataW H)), cs = [.slice (some a) xs.length cap] ∧ xs.length ≤ cap ∧ cap ≤ maxLen ∧ x.1 = .slice (xs.map RTok.data) rest ∧
      (∀ j t, xs[j]? = some t → t.s.size ≤ maxLen ∧ (-9223372036854775808 ≤ t.k ∧ t.k ≤ 9223372036854775807) ∧ (-9223372036854775808 ≤ t.n ∧ t.n ≤ 9223372036854775807) ∧ ∀ i u, t.cells[i]? = some u → w.cell? (a.add (j * 6 + i)) = some u) := by
  rcases Deep.open_slice Tryz.underlying22 h with h0 | ⟨a, len, cap, m, n, D, Pl, rfl, hb, hl, hm, hmm, rfl, hx⟩
  · exact .inl h0
  right
  have hlm : len ≤ m := by rw [hmm]; split <;> omega
  obtain ⟨V, hV⟩ := @Deep.choose_lt RTok ⟨⟨0, ⟨#[]⟩, 0, 0, 0, 0⟩⟩ len (fun i t => D i = t.data ∧ t.s.size ≤ maxLen ∧ (-9223372036854775808 ≤ t.k ∧ t.k ≤ 9223372036854775807) ∧ (-9223372036854775808 ≤ t.n ∧ t.n ≤ 9223372036854775807) ∧ ∀ j u, t.cells[j]? = some u → w.cell? (a.add (i * 6 + j)) = some u) (fun i hi => by
    obtain ⟨cs', h1, h2⟩ := hx i (by omega)
    rw [cells_tok] at h1
    obtain ⟨t, rfl, ht, hs, hk, hn⟩ := open_tok h2
    obtain ⟨_, _, h3⟩ := World.cells?_some h1
    refine ⟨t, ht, hs, hk, hn, fun j u hj => ?_⟩
    have hj6 : j < 6 := by have := (List.getElem?_eq_some_iff.1 hj).1; simpa [RTok.cells] using this
    have := h3 j hj6
    rw [Deep.add_add] at this
    rw [this, hj])
  refine ⟨a, cap, (List.range len).map V, (List.range (m - len)).map fun j => D (len + j), by simp, by simpa using hl, hm, ?_, ?_⟩
  · show DataW.slice _ _ = _
    congr 1
    rw [List.map_map]
    refine List.map_congr_left fun i hi => ?_
    exact (hV i (by simpa using hi)).1
  · intro j t hj
    rw [List.getElem?_map] at hj
    rcases hr : (List.range len)[j]? with _ | i
    · rw [hr] at hj; cases hj
    · rw [hr] at hj
      simp only [Option.map_some, Option.some.injEq] at hj
      subst hj
      obtain ⟨hjl, hji⟩ := List.getElem?_eq_some_iff.1 hr
      simp only [List.getElem_range] at hji
      subst hji
      exact (hV j (by simpa using hjl)).2

theorem tokIn_of {a : Addr} {cap : Nat} {xs : List RTok} (hl : xs.length ≤ cap) (h : ∀ j t, xs[j]? = some t → ∀ i u, t.cells[i]? = some u → w.cell? (a.add (j * 6 + i)) = some u) : TokIn w (.slice (some a) xs.length cap) xs := by
  by_cases h0 : xs = []
  · subst h0; exact .inl ⟨_, _, rfl, rfl⟩
  · obtain ⟨t, ht⟩ : ∃ t, xs[0]? = some t := by
      rcases xs with _ | ⟨t, r⟩
      · exact absurd rfl h0
      · exact ⟨t, rfl⟩
    obtain ⟨b, off, spot⟩ := a
    have hc := h 0 t ht 0 _ rfl
    have hspot : spot = none := by simpa [Addr.add] using World.cell?_spot hc
    subst hspot
    have hlt : b < w.heap.size := by
      have := World.block_lt_of_cell? w _ hc
      simpa [Addr.add] using this
    refine .inr ⟨b, off, cap, rfl, fun j x hj i u hu => ?_, hlt, hl⟩
    have := h j x hj i u hu
    rw [Addr.add_lit, ← Nat.add_assoc] at this
    exact this

theorem bulk_one {H : Type} (d : DataW H) : 1 ≤ Rows.uptoBulk d := by
  cases d with
  | lit l => cases l <;> simp [Rows.uptoBulk]
  | nil => simp [Rows.uptoBulk]
  | ptr d => simp [Rows.uptoBulk]
  | slice elems spare => simp [Rows.uptoBulk]
  | agg parts => simp [Rows.uptoBulk]
  | iface t d => simp [Rows.uptoBulk]
  | map entries => simp [Rows.uptoBulk]
  | held h => simp [Rows.uptoBulk]
theorem bulk_toks {H : Type} : ∀ (xs : List RTok), xs.length ≤ Rows.uptoBulkAll (H := H) (xs.map RTok.data) ∧ ∀ t ∈ xs, t.s.size ≤ Rows.uptoBulkAll (H := H) (xs.map RTok.data)
  | [] => ⟨Nat.zero_le _, fun t ht => by cases ht⟩
  | x :: r => by
    have ih := bulk_toks (H := H) r
    have h1 := bulk_one (H := H) x.data
    have h2 : x.s.size ≤ Rows.uptoBulk (H := H) x.data := by
      simp only [RTok.data, Rows.uptoBulk, Rows.uptoBulkAll]
      have : x.s.data.toList.length = x.s.size := by simp
      omega
    simp only [List.map_cons, Rows.uptoBulkAll, List.length_cons]
    refine ⟨by omega, fun t ht => ?_⟩
    rcases List.mem_cons.1 ht with rfl | ht
    · omega
    · have := ih.2 t ht; omega
theorem bulk_slice {H : Type} {xs : List RTok} {rest : List (DataW H)} {l : List (DataW H)} (hk : Rows.uptoSmall H l = true) (hm : DataW.slice (xs.map RTok.data) rest ∈ l) : xs.length ≤ 1048576 ∧ ∀ t ∈ xs, t.s.size ≤ 1048576 := by
  have hb : Rows.uptoBulkAll l ≤ 1048576 := of_decide_eq_true hk
  have hp : ∀ (l : List (DataW H)) (d : DataW H), d ∈ l → Rows.uptoBulk d ≤ Rows.uptoBulkAll l := by
    intro l
    induction l with
    | nil => intro d hd; cases hd
    | cons x r ih =>
      intro d hd
      simp only [Rows.uptoBulkAll]
      rcases List.mem_cons.1 hd with rfl | hd
      · omega
      · have := ih d hd; omega
  have h1 := hp l _ hm
  have h2 := bulk_toks (H := H) xs
  simp only [Rows.uptoBulk] at h1
  refine ⟨by omega, fun t ht => ?_⟩
  have := h2.2 t ht
  omega

/-- There is an input that fits, at a world whose shape is known. -/
theorem witness_row_shaped {C : Checked} {os : Os} {f : FuncId} {fn : Func} {s : OpenSpec} {conds : List PathCond} {apart : Bool} {laid : List (String × DataW Unit)} (modest : Bool) (w0 : World) (args : Array Value) (hos : w0.os = os)
    (hsh : (w0.forCall (fun _ _ => 0) ⟨#[], args, []⟩).Shaped C.prog)
    (hok : Input.okWideB C.prog (w0.forCall (fun _ _ => 0) ⟨#[], args, []⟩) f ⟨#[], args, []⟩ = true)
    (hrow : s.preRow enc C.prog fn conds apart laid (w0.forCall (fun _ _ => 0) ⟨#[], args, []⟩).memory args) :
    ∃ (w : World) (tape : Tape) (i : Input), w.os = os ∧ (w.forCall tape i).Shaped C.prog ∧ i.vars = [] ∧ Input.okWide C.prog (w.forCall tape i) .any w.heap.size f i ∧
      s.preRow enc C.prog fn conds apart laid (w.forCall tape i).memory i.args ∧ ({ modest := modest } : Assume).holds C.prog (lone (Frame.enter C.prog f i.args .normal) [] (w.forCall tape i)) :=
  ⟨w0, fun _ _ => 0, ⟨#[], args, []⟩, hos, hsh, (Input.okWide_of_okWideB (base := 0) hok).1, (Input.okWide_of_okWideB hok).2, hrow, by
    simp only [Assume.holds]
    exact ⟨by simp, by simp, fun _ => Modest.zero, by simp, by simp⟩⟩
end
end Go.Proofs.YtjbmpdcgmphhoaaGreatDoor
