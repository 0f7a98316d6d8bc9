/-
  Rows and acts that came in as arguments, with their sizes.
  From a call's contract to a row's statement: the world's shape and the listed variables are handed on; what the listed table of names says of memory.
  From a call's contract to a row's statement, with the sizes of the arguments in hand.
  Rows and members that came in: what they hold, and how great they are.
  Acts that came in.
-/
import Derived.Test.YtdfkkflpcamhjaaGreatDoorRows
import Derived.Test.YtdfkkflpcamhjaaGreatDoorTie
import Derived.Test.YtdfkkflpcamhjaaGreatDoorCards
import Derived.ProofKit
import Derived.LaidMore
import Derived.OpenShut
import Derived.Lay
import Derived.SevenTiedAt
import Derived.Stop.Joined
import Derived.HandedShaped
import Derived.ChangeMaps5
import Derived.Shelf.Vars
import Derived.Test.YtdfkkflpcamhjaaGreatDoorHeads
import Derived.Lib.LaidTab
import Derived.Carry
import Derived.Stop.LaidErr
import Derived.SizedLaws
import Derived.Test.YtdfkkflpcamhjaaGreatDoorRefRow
import Derived.Test.YtdfkkflpcamhjaaGreatDoorEnter
import Derived.Deep.Slices
namespace Go.Proofs.YtdfkkflpcamhjaaGreatDoor
open Go.ChangeShapes Go.WideShapes Go.ChangeAt Go.RowKit
set_option linter.unusedVariables false

theorem ownK : ownKnob Tryz.prog.godebug = none := by kernel_rfl

/-- A law's step from its calls, with the listed variables' reading and the world's shape in hand. -/
theorem lift_law {H : Type} {enc : TypeId × Value → H} {C : Checked} {os : Os} {f : FuncId} {fn : Func} {s : ChangeSpec} {X : World → Array Value → Prop}
    (hX : ∀ (w w' : World) (args : Array Value), w.heap = w'.heap → X w args → X w' args)
    (own : ownKnob C.prog.godebug = none) (started : os.Started) (noInit : C.prog.inits.idxOf? f = none) (hfn : C.prog.funcs[f]? = some fn)
    (witness : ∃ (w : World) (tape : Tape) (i : Input), w.os = os ∧ (w.forCall tape i).Shaped C.prog ∧ i.vars = [] ∧ Input.okWide C.prog (w.forCall tape i) .any w.heap.size f i ∧
      ((s.pre enc C.prog fn [] false (w.forCall tape i).memory i.args ∧ X (w.forCall tape i).memory i.args) ∧ sizedMet enc C.prog fn (OpenSpec.ofChange s) false (w.forCall tape i).memory i.args) ∧ Assume.holds {} C.prog (lone (Frame.enter C.prog f i.args .normal) [] (w.forCall tape i)))
    (contract : ∀ (W : World) (base : Nat) (args : Array Value) (ds gs : List (DataW H)) (before : List MemPlace),
      (∀ (j : Nat) t v, fn.params[j]? = some t → args[j]? = some v → Value.okWide C.prog W .any base t v) →
      DataW.Whole enc C.prog fn.params.toList s.vars false W args.toList ds gs before → X W args → W.ShapedOpen C.prog →
      Calls C.prog f args W fun e W' => ∃ v, e = .returned v ∧ s.post enc C.prog fn false true false false W args v W') :
    ReturnsInHanded {} C os f .any (fun w args => (s.pre enc C.prog fn [] false w args ∧ X w args) ∧ sizedMet enc C.prog fn (OpenSpec.ofChange s) false w args) (s.post enc C.prog fn false true false false) := by
  refine returnsInHanded_of_calls own started noInit witness fun w tape i _ hsh _ hok hpre _ => ?_
  obtain ⟨_, _, _, fn', hfn', _, _, _, _, hval⟩ := hok
  obtain rfl : fn' = fn := Option.some.inj (hfn'.symm.trans hfn)
  obtain ⟨⟨⟨ds, gs, before, hw, _⟩, hx⟩, _⟩ := hpre
  refine (contract (w.forCall tape i) w.heap.size i.args ds gs before hval (DataW.Whole.of_heap (w := (w.forCall tape i).memory) (w' := w.forCall tape i) (by rfl) hw) (hX (w.forCall tape i).memory (w.forCall tape i) _ (by rfl) hx) hsh).mono fun e W' h => ?_
  obtain ⟨v, rfl, hp⟩ := h
  exact ChangeSpec.post_blind hp

theorem laidOut : laidOutB Tryz.prog = true := by kernel_rfl

/-- The names, as the listed datum has them. -/
def nameList : List (List UInt8) := nameTab.map (·.data.toList)
theorem laid_names {H : Type} : (Rows.laid_mortise_ctype_names : DataW H) = .agg (nameList.map fun l => .lit (.string l)) := rfl

theorem tabs_of {W : World} (h : laidMetH Tryz.prog Rows.ctypePlaysRow.laid W) : Tabs W := by
  rw [MakeChecks.laidMetH_plain _ _ _ (by kernel_rfl)] at h
  have h2 := h.tail.tail
  exact Lib.tabIs_of_head (P := Tryz.prog) (name := "internal/strconv.uint64pow10") (k := .u64) (zs := Lib.pow10Tab) (g := (Tryz.prog.globalNamed "internal/strconv.uint64pow10").getD 0) (t := 125) (e := 107) (n := 20) (by kernel_rfl) (by kernel_rfl) (by kernel_rfl) (by kernel_rfl) (by kernel_rfl) (by kernel_rfl) h2

theorem names_of {W : World} (h : laidMetH Tryz.prog Rows.ctypePlaysRow.laid W) : Names W := by
  rw [MakeChecks.laidMetH_plain _ _ _ (by kernel_rfl)] at h
  have h3 := h.tail.tail.tail
  obtain ⟨ps, ⟨g0, t0, cs0, f0, p0, q0, hg0, ht0, hv0, hd0, _, _⟩, _, _⟩ := h3
  obtain rfl := Option.some.inj ((show Tryz.prog.globalNamed _ = some 0 by kernel_rfl).symm.trans hg0)
  obtain rfl := Option.some.inj ((show (Tryz.prog.globals[0]?).map (·.type) = some 106 by kernel_rfl).symm.trans ht0)
  obtain ⟨xs, m, rfl, hx, hlen, hn, hel⟩ := DataW.trod_array Tryz.underlying106 hd0
  have c9 : Tryz.prog.cellsOf 9 = 1 := by kernel_rfl
  have cN : Tryz.prog.cellsOf 106 = 11 := by kernel_rfl
  simp only [Prod.mk.injEq] at hx
  have hxs : nameList.map (fun l => (.lit (.string l) : DataW _)) = xs.map (·.1) := by
    have := hx.1
    rw [laid_names] at this
    simpa using this
  intro i s0 hs0
  have hi : i < 11 := (List.getElem?_eq_some_iff.1 hs0).1
  have h1 := hel i hi
  rw [c9] at h1
  have hxi : xs[i]? = some xs[i] := List.getElem?_eq_getElem (by omega)
  rw [hxi] at h1
  obtain ⟨s, e1, e2, _⟩ := DataW.trod_string Tryz.underlying9 h1
  have hv := World.var?_cell hg0 hv0 i
  have e3 : cs0[i]? = some (.string s) := by
    have := congrArg (fun l => l[0]?) e1
    simpa using this
  have e4 : s.data.toList = s0.data.toList := by
    have := congrArg (fun l => l[i]?) hxs
    simp only [List.getElem?_map, hxi, e2, Option.map_some, nameList, hs0] at this
    simpa using this.symm
  have e5 : s = s0 := by
    apply ByteArray.ext
    exact Array.ext' e4
  rw [hv, e3, e5]
end Go.Proofs.YtdfkkflpcamhjaaGreatDoor
namespace Go.Proofs.YtdfkkflpcamhjaaGreatDoor
open Go.ChangeShapes Go.WideShapes Go.ChangeAt Go.RowKit
set_option linter.unusedVariables false

/-- A law's step from its calls, with the listed variables' reading, the world's shape and the arguments' sizes in hand. -/
theorem lift_law_sized {H : Type} {enc : TypeId × Value → H} {C : Checked} {os : Os} {f : FuncId} {fn : Func} {s : ChangeSpec} {X : World → Array Value → Prop}
    (hX : ∀ (w w' : World) (args : Array Value), w.heap = w'.heap → X w args → X w' args)
    (own : ownKnob C.prog.godebug = none) (started : os.Started) (noInit : C.prog.inits.idxOf? f = none) (hfn : C.prog.funcs[f]? = some fn)
    (witness : ∃ (w : World) (tape : Tape) (i : Input), w.os = os ∧ (w.forCall tape i).Shaped C.prog ∧ i.vars = [] ∧ Input.okWide C.prog (w.forCall tape i) .any w.heap.size f i ∧
      ((s.pre enc C.prog fn [] false (w.forCall tape i).memory i.args ∧ X (w.forCall tape i).memory i.args) ∧ sizedMet enc C.prog fn (OpenSpec.ofChange s) false (w.forCall tape i).memory i.args) ∧ Assume.holds {} C.prog (lone (Frame.enter C.prog f i.args .normal) [] (w.forCall tape i)))
    (contract : ∀ (W : World) (base : Nat) (args : Array Value) (ds gs : List (DataW H)) (before : List MemPlace),
      (∀ (j : Nat) t v, fn.params[j]? = some t → args[j]? = some v → Value.okWide C.prog W .any base t v) →
      DataW.Whole enc C.prog fn.params.toList s.vars false W args.toList ds gs before →
      (DataW.weightsEach C.prog (fn.params.toList ++ s.plain.varTypes C.prog) (ds ++ gs)).all (· ≤ reachBytes) = true → X W args → W.ShapedOpen C.prog →
      Calls C.prog f args W fun e W' => ∃ v, e = .returned v ∧ s.post enc C.prog fn false true false false W args v W') :
    ReturnsInHanded {} C os f .any (fun w args => (s.pre enc C.prog fn [] false w args ∧ X w args) ∧ sizedMet enc C.prog fn (OpenSpec.ofChange s) false w args) (s.post enc C.prog fn false true false false) := by
  refine returnsInHanded_of_calls own started noInit witness fun w tape i _ hsh _ hok hpre _ => ?_
  obtain ⟨_, _, _, fn', hfn', _, _, _, _, hval⟩ := hok
  obtain rfl : fn' = fn := Option.some.inj (hfn'.symm.trans hfn)
  obtain ⟨⟨⟨ds, gs, before, hw, _⟩, hx⟩, hz⟩ := hpre
  refine (contract (w.forCall tape i) w.heap.size i.args ds gs before hval (DataW.Whole.of_heap (w := (w.forCall tape i).memory) (w' := w.forCall tape i) (by rfl) hw) (hz.weights hw) (hX (w.forCall tape i).memory (w.forCall tape i) _ (by rfl) hx) hsh).mono fun e W' h => ?_
  obtain ⟨v, rfl, hp⟩ := h
  exact ChangeSpec.post_blind hp
end Go.Proofs.YtdfkkflpcamhjaaGreatDoor
namespace Go.Proofs.YtdfkkflpcamhjaaGreatDoor
open Go.ChangeShapes Go.WideShapes Go.ChangeAt Go.RowKit
set_option linter.unusedVariables false

theorem cells_kind : Tryz.prog.cellsOf 39 = 1 := by kernel_rfl
theorem cells_str : Tryz.prog.cellsOf 9 = 1 := by kernel_rfl
theorem cells_int : Tryz.prog.cellsOf 3 = 1 := by kernel_rfl
theorem cells_bool : Tryz.prog.cellsOf 4 = 1 := by kernel_rfl
theorem cells_sl : Tryz.prog.cellsOf 31 = 1 := by kernel_rfl
theorem cells_mem : Tryz.prog.cellsOf TM = 3 := by kernel_rfl
theorem cells_row : Tryz.prog.cellsOf TR = 6 := by kernel_rfl
theorem bytes_mem : Tryz.prog.bytesOf TM = 32 := by kernel_rfl
theorem bytes_row : Tryz.prog.bytesOf TR = 72 := by kernel_rfl

section
variable {H : Type} {enc : TypeId × Value → H} {w : World} {base : Nat} {spare : Nat → Bool} {held : Bool}
def Mb.data (m : Mb) : DataW H := .agg [.lit (.string m.name.data.toList), .lit (.int .i64 m.type), .lit (.int .i64 m.bits)]

theorem list6 {α : Type} : ∀ {l : List α}, l.length = 6 → ∃ a b c d e f, l = [a, b, c, d, e, f]
  | [a, b, c, d, e, f], _ => ⟨a, b, c, d, e, f, rfl⟩
theorem list3 {α : Type} : ∀ {l : List α}, l.length = 3 → ∃ a b c, l = [a, b, c]
  | [a, b, c], _ => ⟨a, b, c, rfl⟩

theorem open_mem {fuel : Nat} {cs : List Value} {x : DataW H × List MemPlace} (h : DataW.trod enc Tryz.prog w base spare held fuel TM cs = some x) :
    ∃ m : Mb, cs = mbCells m ∧ x.1 = m.data ∧ m.name.size ≤ maxLen := by
  obtain ⟨xs, n, rfl, rfl, hl, hlen, hf⟩ := DataW.trod_struct Tryz.underlying43 h
  rw [cells_mem] at hl
  have f0 : DataW.trod enc Tryz.prog w base spare held n 9 ((cs.drop 0).take (Tryz.prog.cellsOf 9)) = xs[0]? := hf 0 _ rfl
  have f1 : DataW.trod enc Tryz.prog w base spare held n 3 ((cs.drop 1).take (Tryz.prog.cellsOf 3)) = xs[1]? := hf 1 _ rfl
  have f2 : DataW.trod enc Tryz.prog w base spare held n 3 ((cs.drop 2).take (Tryz.prog.cellsOf 3)) = xs[2]? := hf 2 _ rfl
  rw [cells_str] at f0
  rw [cells_int] at f1 f2
  obtain ⟨c0, c1, c2, rfl⟩ := list3 hl
  obtain ⟨y0, y1, y2, rfl⟩ := list3 hlen
  simp only [List.drop_zero, List.drop_succ_cons, List.take_succ_cons, List.take_zero, List.getElem?_cons_zero, List.getElem?_cons_succ] at f0 f1 f2
  obtain ⟨s, e0, d0, w0⟩ := DataW.trod_string Tryz.underlying9 f0
  obtain ⟨a, e1, d1, w1⟩ := DataW.trod_int Tryz.underlying3 f1
  obtain ⟨b, e2, d2, w2⟩ := DataW.trod_int Tryz.underlying3 f2
  cases e0; cases e1; cases e2
  subst d0 d1 d2
  exact ⟨⟨s, a, b⟩, rfl, rfl, w0⟩

theorem open_mems {fuel : Nat} {cs : List Value} {x : DataW H × List MemPlace} (h : DataW.trod enc Tryz.prog w base spare held fuel 31 cs = some x) :
    ∃ (s : Value) (l : List Mb), cs = [s] ∧ MemIn w s l ∧ (∀ m ∈ l, m.name.size ≤ maxLen) ∧ (x.1 = .nil ∧ l = [] ∨ ∃ rest, x.1 = .slice (l.map Mb.data) rest) := by
  rcases Deep.open_slice Tryz.underlying31 h with ⟨rfl, rfl⟩ | ⟨a, len, cap, m, n, D, Pl, rfl, hb, hl, hm, hmm, rfl, hx⟩
  · exact ⟨_, [], rfl, Or.inl (Or.inl ⟨rfl, rfl⟩), fun m hm => (by cases hm), Or.inl ⟨rfl, rfl⟩⟩
  have hlm : len ≤ m := by rw [hmm]; split <;> omega
  obtain ⟨V, hV⟩ := @Deep.choose_lt Mb ⟨⟨⟨#[]⟩, 0, 0⟩⟩ len (fun i t => D i = t.data ∧ t.name.size ≤ maxLen ∧ ∀ j u, (mbCells t)[j]? = some u → w.cell? (a.add (i * 3 + j)) = some u) (fun i hi => by
    obtain ⟨cs', h1, h2⟩ := hx i (by omega)
    rw [cells_mem] at h1
    obtain ⟨t, rfl, ht, hs⟩ := open_mem h2
    obtain ⟨_, _, h3⟩ := World.cells?_some h1
    refine ⟨t, ht, hs, fun j u hj => ?_⟩
    have hj6 : j < 3 := by have := (List.getElem?_eq_some_iff.1 hj).1; simpa [mbCells] using this
    have := h3 j hj6
    rw [Deep.add_add] at this
    rw [this, hj])
  have hat : ∀ j t, ((List.range len).map V)[j]? = some t → j < len ∧ t = V j := by
    intro j t hj
    rw [List.getElem?_map] at hj
    rcases hr : (List.range len)[j]? with _ | i
    · rw [hr] at hj; cases hj
    · rw [hr] at hj
      simp only [Option.map_some, Option.some.injEq] at hj
      obtain ⟨hjl, hji⟩ := List.getElem?_eq_some_iff.1 hr
      simp only [List.getElem_range] at hji
      subst hji
      exact ⟨by simpa using hjl, hj.symm⟩
  refine ⟨_, (List.range len).map V, rfl, ?_, ?_, Or.inr ⟨(List.range (m - len)).map fun j => D (len + j), ?_⟩⟩
  · by_cases h0 : len = 0
    · subst h0; exact Or.inr ⟨a, cap, rfl, rfl⟩
    · left; right
      obtain ⟨b, off, spot⟩ := a
      have hc := (hV 0 (by omega)).2.2 0 _ rfl
      have hspot : spot = none := by simpa [Addr.add] using World.cell?_spot hc
      subst hspot
      have hlt : b < w.heap.size := by
        have := World.block_lt_of_cell? w _ hc
        simpa [Addr.add] using this
      refine ⟨b, off, cap, by simp, by simpa using hl, hlt, fun i t hi j hj => ?_⟩
      obtain ⟨hil, rfl⟩ := hat i t hi
      cases hu : (mbCells (V i))[j]? with
      | none => simp [mbCells] at hu; omega
      | some u =>
        have := (hV i hil).2.2 j u hu
        rw [Addr.add_lit, ← Nat.add_assoc] at this
        exact this
  · intro t ht
    obtain ⟨j, hj⟩ := List.mem_iff_getElem?.1 ht
    obtain ⟨hjl, rfl⟩ := hat j t hj
    exact (hV j hjl).2.1
  · show DataW.slice _ _ = _
    congr 1
    rw [List.map_map]
    refine List.map_congr_left fun i hi => ?_
    exact (hV i (by simpa using hi)).1

/-- A row's reading: its members are nil or a slice. -/
def RowData (r : Rw) (d : DataW H) : Prop := ∃ md, d = .agg [.lit (.int .i64 r.kind), .lit (.int .i64 r.elem), .lit (.int .i64 r.len), .lit (.string r.tag.data.toList), md, .lit (.bool r.done)] ∧ (md = .nil ∧ r.mem = [] ∨ ∃ rest, md = .slice (r.mem.map Mb.data) rest)

theorem open_row {fuel : Nat} {cs : List Value} {x : DataW H × List MemPlace} (h : DataW.trod enc Tryz.prog w base spare held fuel TR cs = some x) :
    ∃ (r : Rw) (s : Value), cs = rwCells r s ∧ MemIn w s r.mem ∧ RowData r x.1 ∧ wf64 r.kind ∧ wf64 r.elem ∧ wf64 r.len ∧ r.tag.size ≤ maxLen ∧ ∀ m ∈ r.mem, m.name.size ≤ maxLen := by
  obtain ⟨xs, n, rfl, rfl, hl, hlen, hf⟩ := DataW.trod_struct Tryz.underlying41 h
  rw [cells_row] at hl
  have f0 : DataW.trod enc Tryz.prog w base spare held n 39 ((cs.drop 0).take (Tryz.prog.cellsOf 39)) = xs[0]? := hf 0 _ rfl
  have f1 : DataW.trod enc Tryz.prog w base spare held n 3 ((cs.drop 1).take (Tryz.prog.cellsOf 3)) = xs[1]? := hf 1 _ rfl
  have f2 : DataW.trod enc Tryz.prog w base spare held n 3 ((cs.drop 2).take (Tryz.prog.cellsOf 3)) = xs[2]? := hf 2 _ rfl
  have f3 : DataW.trod enc Tryz.prog w base spare held n 9 ((cs.drop 3).take (Tryz.prog.cellsOf 9)) = xs[3]? := hf 3 _ rfl
  have f4 : DataW.trod enc Tryz.prog w base spare held n 31 ((cs.drop 4).take (Tryz.prog.cellsOf 31)) = xs[4]? := hf 4 _ rfl
  have f5 : DataW.trod enc Tryz.prog w base spare held n 4 ((cs.drop 5).take (Tryz.prog.cellsOf 4)) = xs[5]? := hf 5 _ rfl
  rw [cells_kind] at f0
  rw [cells_int] at f1 f2
  rw [cells_str] at f3
  rw [cells_sl] at f4
  rw [cells_bool] at f5
  obtain ⟨c0, c1, c2, c3, c4, c5, rfl⟩ := list6 hl
  obtain ⟨y0, y1, y2, y3, y4, y5, rfl⟩ := list6 hlen
  simp only [List.drop_zero, List.drop_succ_cons, List.take_succ_cons, List.take_zero, List.getElem?_cons_zero, List.getElem?_cons_succ] at f0 f1 f2 f3 f4 f5
  obtain ⟨kd, e0, d0, w0⟩ := DataW.trod_int Tryz.underlying39 f0
  obtain ⟨el, e1, d1, w1⟩ := DataW.trod_int Tryz.underlying3 f1
  obtain ⟨ln, e2, d2, w2⟩ := DataW.trod_int Tryz.underlying3 f2
  obtain ⟨tg, e3, d3, w3⟩ := DataW.trod_string Tryz.underlying9 f3
  obtain ⟨s, l, e4, hM, hN, hD⟩ := open_mems f4
  obtain ⟨dn, e5, d5⟩ := DataW.trod_bool Tryz.underlying4 f5
  cases e0; cases e1; cases e2; cases e3; cases e4; cases e5
  subst d0 d1 d2 d3 d5
  exact ⟨⟨kd, el, ln, tg, l, dn⟩, c4, rfl, hM, ⟨y4.1, rfl, hD⟩, w0, w1, w2, w3, hN⟩

structure RowFit (w : World) (p : Rw × Value) (d : DataW H) : Prop where
  data : RowData p.1 d
  mem : MemIn w p.2 p.1.mem
  kind : wf64 p.1.kind
  elem : wf64 p.1.elem
  len : wf64 p.1.len
  tag : p.1.tag.size ≤ maxLen
  names : ∀ m ∈ p.1.mem, m.name.size ≤ maxLen

theorem open_rows {fuel : Nat} {cs : List Value} {x : DataW H × List MemPlace} (h : DataW.trod enc Tryz.prog w base spare held fuel 22 cs = some x) :
    ∃ (v : Value) (rs : List (Rw × Value)), cs = [v] ∧ RowIn w v rs ∧ (x.1 = .nil ∧ rs = [] ∨ ∃ ds rest, x.1 = .slice ds rest ∧ ds.length = rs.length ∧ ∀ (i : Nat) (p : Rw × Value), rs[i]? = some p → ∃ d, ds[i]? = some d ∧ RowFit w p d) := by
  rcases Deep.open_slice Tryz.underlying22 h with ⟨rfl, rfl⟩ | ⟨a, len, cap, m, n, D, Pl, rfl, hb, hl, hm, hmm, rfl, hx⟩
  · exact ⟨_, [], rfl, ⟨Or.inl ⟨rfl, rfl⟩, fun p hp => (by cases hp)⟩, Or.inl ⟨rfl, rfl⟩⟩
  have hlm : len ≤ m := by rw [hmm]; split <;> omega
  obtain ⟨V, hV⟩ := @Deep.choose_lt (Rw × Value) ⟨(⟨0, 0, 0, ⟨#[]⟩, [], false⟩, .slice none 0 0)⟩ len (fun i t => RowFit w t (D i) ∧ ∀ j u, (rwCells t.1 t.2)[j]? = some u → w.cell? (a.add (i * 6 + j)) = some u) (fun i hi => by
    obtain ⟨cs', h1, h2⟩ := hx i (by omega)
    rw [cells_row] at h1
    obtain ⟨r, s, rfl, k1, k2, k3, k4, k5, k6, k7⟩ := open_row h2
    obtain ⟨_, _, h3⟩ := World.cells?_some h1
    refine ⟨(r, s), ⟨k2, k1, k3, k4, k5, k6, k7⟩, fun j u hj => ?_⟩
    have hj6 : j < 6 := by have := (List.getElem?_eq_some_iff.1 hj).1; simpa [rwCells] using this
    have := h3 j hj6
    rw [Deep.add_add] at this
    rw [this, hj])
  have hat : ∀ j t, ((List.range len).map V)[j]? = some t → j < len ∧ t = V j := by
    intro j t hj
    rw [List.getElem?_map] at hj
    rcases hr : (List.range len)[j]? with _ | i
    · rw [hr] at hj; cases hj
    · rw [hr] at hj
      simp only [Option.map_some, Option.some.injEq] at hj
      obtain ⟨hjl, hji⟩ := List.getElem?_eq_some_iff.1 hr
      simp only [List.getElem_range] at hji
      subst hji
      exact ⟨by simpa using hjl, hj.symm⟩
  refine ⟨_, (List.range len).map V, rfl, ⟨?_, ?_⟩, Or.inr ⟨(List.range len).map D, (List.range (m - len)).map fun j => D (len + j), rfl, by simp, ?_⟩⟩
  · by_cases h0 : len = 0
    · subst h0; exact Or.inr (Or.inl ⟨a, cap, rfl, rfl⟩)
    · right; right
      obtain ⟨b, off, spot⟩ := a
      have hc := (hV 0 (by omega)).2 0 _ rfl
      have hspot : spot = none := by simpa [Addr.add] using World.cell?_spot hc
      subst hspot
      have hlt : b < w.heap.size := by
        have := World.block_lt_of_cell? w _ hc
        simpa [Addr.add] using this
      refine ⟨b, off, cap, by simp, by simpa using hl, hlt, fun i t hi j hj => ?_⟩
      obtain ⟨hil, rfl⟩ := hat i t hi
      cases hu : (rwCells (V i).1 (V i).2)[j]? with
      | none => simp [rwCells] at hu; omega
      | some u =>
        have := (hV i hil).2 j u hu
        rw [Addr.add_lit, ← Nat.add_assoc] at this
        exact this
  · intro t ht
    obtain ⟨j, hj⟩ := List.mem_iff_getElem?.1 ht
    obtain ⟨hjl, rfl⟩ := hat j t hj
    exact (hV j hjl).1.mem
  · intro i p hp
    obtain ⟨hil, rfl⟩ := hat i p hp
    exact ⟨D i, by simp [hil], (hV i hil).1⟩

theorem weightsAll_mem {P : Program} {e : TypeId} : ∀ {l : List (DataW H)} {d : DataW H}, d ∈ l → ∀ x ∈ d.weights P e, x ∈ DataW.weightsAll P e l
  | a :: r, d, hd, x, hx => by
    simp only [DataW.weightsAll, List.mem_append]
    rcases List.mem_cons.1 hd with rfl | hd
    · exact Or.inl hx
    · exact Or.inr (weightsAll_mem hd x hx)

/-- The sizes of rows that came in. -/
theorem rows_sized {ds rest : List (DataW H)} (h : ((DataW.slice ds rest).weights Tryz.prog 22).all (· ≤ reachBytes) = true) :
    ds.length * 72 ≤ reachBytes ∧ ∀ d ∈ ds, ∀ r, RowData r d → r.mem.length * 32 ≤ reachBytes := by
  rw [List.all_eq_true] at h
  have hu := Tryz.underlying22
  simp only [DataW.weights, hu, bytes_row] at h
  constructor
  · have := h _ (List.mem_cons_self ..)
    simp at this
    omega
  · intro d hd r hr
    obtain ⟨md, rfl, hmd⟩ := hr
    rcases hmd with ⟨rfl, h0⟩ | ⟨rs2, rfl⟩
    · rw [h0]; simp
    · have hx : (r.mem.length + rs2.length) * 32 ∈ (DataW.agg [.lit (.int .i64 r.kind), .lit (.int .i64 r.elem), .lit (.int .i64 r.len), .lit (.string r.tag.data.toList), .slice (r.mem.map Mb.data) rs2, .lit (.bool r.done)] : DataW H).weights Tryz.prog TR := by
        have hu2 := Tryz.underlying41
        have hu3 := Tryz.underlying31
        simp only [DataW.weights, hu2]
        simp [DataW.weightsEach, DataW.weights, hu3, bytes_mem]
      have := h _ (List.mem_cons_of_mem _ (List.mem_append_left _ (weightsAll_mem hd _ hx)))
      simp at this
      omega
theorem okay_of {p : Rw × Value} {d : DataW H} (h : RowFit w p d) (hm : p.1.mem.length * 32 ≤ reachBytes) : Okay p.1 :=
  ⟨h.kind, h.elem, h.len, by have := h.tag; unfold maxLen at this; omega, by simp [reachBytes] at hm; omega, fun m hmm => by have := h.names m hmm; unfold maxLen at this; omega⟩
end
end Go.Proofs.YtdfkkflpcamhjaaGreatDoor
namespace Go.Proofs.YtdfkkflpcamhjaaGreatDoor
open Go.ChangeShapes Go.WideShapes Go.ChangeAt Go.RowKit
set_option linter.unusedVariables false

structure Ac where
  k : Int
  a : Int
  c : Int
  s : ByteArray
  l : List Mb
structure AcOK (x : Ac) : Prop where
  a : wf64 x.a
  c : wf64 x.c
  s : x.s.size ≤ 9223372036854775807
  names : ∀ m ∈ x.l, m.name.size ≤ 9223372036854775807
  big : x.l.length * 32 ≤ 140737488355328
def acCells (x : Ac) (v : Value) : List Value := [.int .i64 x.k, .int .i64 x.a, .int .i64 x.c, .string x.s, v]
def ActIn (w : World) (v : Value) (xs : List (Ac × Value)) : Prop :=
  ((v = .slice none 0 0 ∧ xs = []) ∨ (∃ a c, v = .slice (some a) 0 c ∧ xs = []) ∨ ∃ g o cap, v = .slice (some ⟨g, o, none⟩) xs.length cap ∧ xs.length ≤ cap ∧ g < w.heap.size ∧ ∀ i p, xs[i]? = some p → ∀ j, j < 5 → w.cell? ⟨g, o + i * 5 + j, none⟩ = (acCells p.1 p.2)[j]?) ∧
  ∀ p ∈ xs, MemIn w p.2 p.1.l

section
variable {H : Type} {enc : TypeId × Value → H} {w : World} {base : Nat} {spare : Nat → Bool} {held : Bool}
theorem cells_act : Tryz.prog.cellsOf 33 = 5 := by kernel_rfl
theorem bytes_act : Tryz.prog.bytesOf 33 = 64 := by kernel_rfl
theorem list5 {α : Type} : ∀ {l : List α}, l.length = 5 → ∃ a b c d e, l = [a, b, c, d, e]
  | [a, b, c, d, e], _ => ⟨a, b, c, d, e, rfl⟩
def AcData (x : Ac) (d : DataW H) : Prop := ∃ md, d = .agg [.lit (.int .i64 x.k), .lit (.int .i64 x.a), .lit (.int .i64 x.c), .lit (.string x.s.data.toList), md] ∧ (md = .nil ∧ x.l = [] ∨ ∃ rest, md = .slice (x.l.map Mb.data) rest)

theorem open_act {fuel : Nat} {cs : List Value} {x : DataW H × List MemPlace} (h : DataW.trod enc Tryz.prog w base spare held fuel 33 cs = some x) :
    ∃ (r : Ac) (s : Value), cs = acCells r s ∧ MemIn w s r.l ∧ AcData r x.1 ∧ wf64 r.k ∧ wf64 r.a ∧ wf64 r.c ∧ r.s.size ≤ maxLen ∧ ∀ m ∈ r.l, m.name.size ≤ maxLen := by
  obtain ⟨xs, n, rfl, rfl, hl, hlen, hf⟩ := DataW.trod_struct Tryz.underlying33 h
  rw [cells_act] at hl
  have f0 : DataW.trod enc Tryz.prog w base spare held n 3 ((cs.drop 0).take (Tryz.prog.cellsOf 3)) = xs[0]? := hf 0 _ rfl
  have f1 : DataW.trod enc Tryz.prog w base spare held n 3 ((cs.drop 1).take (Tryz.prog.cellsOf 3)) = xs[1]? := hf 1 _ rfl
  have f2 : DataW.trod enc Tryz.prog w base spare held n 3 ((cs.drop 2).take (Tryz.prog.cellsOf 3)) = xs[2]? := hf 2 _ rfl
  have f3 : DataW.trod enc Tryz.prog w base spare held n 9 ((cs.drop 3).take (Tryz.prog.cellsOf 9)) = xs[3]? := hf 3 _ rfl
  have f4 : DataW.trod enc Tryz.prog w base spare held n 31 ((cs.drop 4).take (Tryz.prog.cellsOf 31)) = xs[4]? := hf 4 _ rfl
  rw [cells_int] at f0 f1 f2
  rw [cells_str] at f3
  rw [cells_sl] at f4
  obtain ⟨c0, c1, c2, c3, c4, rfl⟩ := list5 hl
  obtain ⟨y0, y1, y2, y3, y4, rfl⟩ := list5 hlen
  simp only [List.drop_zero, List.drop_succ_cons, List.take_succ_cons, List.take_zero, List.getElem?_cons_zero, List.getElem?_cons_succ] at f0 f1 f2 f3 f4
  obtain ⟨kd, e0, d0, w0⟩ := DataW.trod_int Tryz.underlying3 f0
  obtain ⟨el, e1, d1, w1⟩ := DataW.trod_int Tryz.underlying3 f1
  obtain ⟨ln, e2, d2, w2⟩ := DataW.trod_int Tryz.underlying3 f2
  obtain ⟨tg, e3, d3, w3⟩ := DataW.trod_string Tryz.underlying9 f3
  obtain ⟨s, l, e4, hM, hN, hD⟩ := open_mems f4
  cases e0; cases e1; cases e2; cases e3; cases e4
  subst d0 d1 d2 d3
  exact ⟨⟨kd, el, ln, tg, l⟩, c4, rfl, hM, ⟨y4.1, rfl, hD⟩, w0, w1, w2, w3, hN⟩

structure ActFit (w : World) (p : Ac × Value) (d : DataW H) : Prop where
  data : AcData p.1 d
  mem : MemIn w p.2 p.1.l
  kind : wf64 p.1.k
  elem : wf64 p.1.a
  len : wf64 p.1.c
  tag : p.1.s.size ≤ maxLen
  names : ∀ m ∈ p.1.l, m.name.size ≤ maxLen

theorem open_acts {fuel : Nat} {cs : List Value} {x : DataW H × List MemPlace} (h : DataW.trod enc Tryz.prog w base spare held fuel 23 cs = some x) :
    ∃ (v : Value) (rs : List (Ac × Value)), cs = [v] ∧ ActIn w v rs ∧ (x.1 = .nil ∧ rs = [] ∨ ∃ ds rest, x.1 = .slice ds rest ∧ ds.length = rs.length ∧ ∀ (i : Nat) (p : Ac × Value), rs[i]? = some p → ∃ d, ds[i]? = some d ∧ ActFit w p d) := by
  rcases Deep.open_slice Tryz.underlying23 h with ⟨rfl, rfl⟩ | ⟨a, len, cap, m, n, D, Pl, rfl, hb, hl, hm, hmm, rfl, hx⟩
  · exact ⟨_, [], rfl, ⟨Or.inl ⟨rfl, rfl⟩, fun p hp => (by cases hp)⟩, Or.inl ⟨rfl, rfl⟩⟩
  have hlm : len ≤ m := by rw [hmm]; split <;> omega
  obtain ⟨V, hV⟩ := @Deep.choose_lt (Ac × Value) ⟨(⟨0, 0, 0, ⟨#[]⟩, []⟩, .slice none 0 0)⟩ len (fun i t => ActFit w t (D i) ∧ ∀ j u, (acCells t.1 t.2)[j]? = some u → w.cell? (a.add (i * 5 + j)) = some u) (fun i hi => by
    obtain ⟨cs', h1, h2⟩ := hx i (by omega)
    rw [cells_act] at h1
    obtain ⟨r, s, rfl, k1, k2, k3, k4, k5, k6, k7⟩ := open_act h2
    obtain ⟨_, _, h3⟩ := World.cells?_some h1
    refine ⟨(r, s), ⟨k2, k1, k3, k4, k5, k6, k7⟩, fun j u hj => ?_⟩
    have hj6 : j < 5 := by have := (List.getElem?_eq_some_iff.1 hj).1; simpa [acCells] using this
    have := h3 j hj6
    rw [Deep.add_add] at this
    rw [this, hj])
  have hat : ∀ j t, ((List.range len).map V)[j]? = some t → j < len ∧ t = V j := by
    intro j t hj
    rw [List.getElem?_map] at hj
    rcases hr : (List.range len)[j]? with _ | i
    · rw [hr] at hj; cases hj
    · rw [hr] at hj
      simp only [Option.map_some, Option.some.injEq] at hj
      obtain ⟨hjl, hji⟩ := List.getElem?_eq_some_iff.1 hr
      simp only [List.getElem_range] at hji
      subst hji
      exact ⟨by simpa using hjl, hj.symm⟩
  refine ⟨_, (List.range len).map V, rfl, ⟨?_, ?_⟩, Or.inr ⟨(List.range len).map D, (List.range (m - len)).map fun j => D (len + j), rfl, by simp, ?_⟩⟩
  · by_cases h0 : len = 0
    · subst h0; exact Or.inr (Or.inl ⟨a, cap, rfl, rfl⟩)
    · right; right
      obtain ⟨b, off, spot⟩ := a
      have hc := (hV 0 (by omega)).2 0 _ rfl
      have hspot : spot = none := by simpa [Addr.add] using World.cell?_spot hc
      subst hspot
      have hlt : b < w.heap.size := by
        have := World.block_lt_of_cell? w _ hc
        simpa [Addr.add] using this
      refine ⟨b, off, cap, by simp, by simpa using hl, hlt, fun i t hi j hj => ?_⟩
      obtain ⟨hil, rfl⟩ := hat i t hi
      cases hu : (acCells (V i).1 (V i).2)[j]? with
      | none => simp [acCells] at hu; omega
      | some u =>
        have := (hV i hil).2 j u hu
        rw [Addr.add_lit, ← Nat.add_assoc] at this
        exact this
  · intro t ht
    obtain ⟨j, hj⟩ := List.mem_iff_getElem?.1 ht
    obtain ⟨hjl, rfl⟩ := hat j t hj
    exact (hV j hjl).1.mem
  · intro i p hp
    obtain ⟨hil, rfl⟩ := hat i p hp
    exact ⟨D i, by simp [hil], (hV i hil).1⟩

theorem acts_sized {ds rest : List (DataW H)} (h : ((DataW.slice ds rest).weights Tryz.prog 23).all (· ≤ reachBytes) = true) :
    ds.length * 64 ≤ reachBytes ∧ ∀ d ∈ ds, ∀ r, AcData r d → r.l.length * 32 ≤ reachBytes := by
  rw [List.all_eq_true] at h
  have hu := Tryz.underlying23
  simp only [DataW.weights, hu, bytes_act] at h
  constructor
  · have := h _ (List.mem_cons_self ..)
    simp at this
    omega
  · intro d hd r hr
    obtain ⟨md, rfl, hmd⟩ := hr
    rcases hmd with ⟨rfl, h0⟩ | ⟨rs2, rfl⟩
    · rw [h0]; simp
    · have hx : (r.l.length + rs2.length) * 32 ∈ (DataW.agg [.lit (.int .i64 r.k), .lit (.int .i64 r.a), .lit (.int .i64 r.c), .lit (.string r.s.data.toList), .slice (r.l.map Mb.data) rs2] : DataW H).weights Tryz.prog 33 := by
        have hu2 := Tryz.underlying33
        have hu3 := Tryz.underlying31
        simp only [DataW.weights, hu2]
        simp [DataW.weightsEach, DataW.weights, hu3, bytes_mem]
      have := h _ (List.mem_cons_of_mem _ (List.mem_append_left _ (weightsAll_mem hd _ hx)))
      simp at this
      omega
theorem acOk_of {p : Ac × Value} {d : DataW H} (h : ActFit w p d) (hm : p.1.l.length * 32 ≤ reachBytes) : AcOK p.1 :=
  ⟨h.elem, h.len, by have := h.tag; unfold maxLen at this; omega, fun m hmm => by have := h.names m hmm; unfold maxLen at this; omega, by simp [reachBytes] at hm; omega⟩
end
end Go.Proofs.YtdfkkflpcamhjaaGreatDoor
namespace Go.Proofs.YtdfkkflpcamhjaaGreatDoor
open Go.ChangeShapes Go.WideShapes Go.ChangeAt Go.RowKit
set_option linter.unusedVariables false

section
variable {H : Type} {enc : TypeId × Value → H} {W : World} {base : Nat} {spare : Nat → Bool} {held : Bool}
theorem rows_arg {a0 : Option Addr} {len0 cap0 : Nat} {d : DataW H} {p : List MemPlace} (h0 : DataW.Trod enc Tryz.prog W base spare held 22 (.slice a0 len0 cap0) d p)
    (hw : (d.weights Tryz.prog 22).all (· ≤ reachBytes) = true) : ∃ rs : List (Rw × Value), RowIn W (.slice a0 len0 cap0) rs ∧ rs.length * 72 ≤ 140737488355328 ∧ ∀ p ∈ rs, Okay p.1 := by
  obtain ⟨fuel, hf⟩ := h0
  obtain ⟨v, rs, hcs, hin, hd⟩ := open_rows hf
  simp [Value.cells] at hcs
  subst hcs
  refine ⟨rs, hin, ?_⟩
  rcases hd with ⟨_, rfl⟩ | ⟨ds, rest, hx, hlen, hfit⟩
  · exact ⟨by simp, fun p hp => (by cases hp)⟩
  · simp only at hx
    subst hx
    obtain ⟨z1, z2⟩ := rows_sized hw
    refine ⟨by rw [← hlen]; simp [reachBytes] at z1; omega, fun p hp => ?_⟩
    obtain ⟨i, hi⟩ := List.mem_iff_getElem?.1 hp
    obtain ⟨d, hd1, hd2⟩ := hfit i p hi
    exact okay_of hd2 (z2 d (List.mem_of_getElem? hd1) _ hd2.data)
theorem acts_arg {a0 : Option Addr} {len0 cap0 : Nat} {d : DataW H} {p : List MemPlace} (h0 : DataW.Trod enc Tryz.prog W base spare held 23 (.slice a0 len0 cap0) d p)
    (hw : (d.weights Tryz.prog 23).all (· ≤ reachBytes) = true) : ∃ rs : List (Ac × Value), ActIn W (.slice a0 len0 cap0) rs ∧ rs.length ≤ 9223372036854775807 ∧ ∀ p ∈ rs, AcOK p.1 := by
  obtain ⟨fuel, hf⟩ := h0
  obtain ⟨v, rs, hcs, hin, hd⟩ := open_acts hf
  simp [Value.cells] at hcs
  subst hcs
  refine ⟨rs, hin, ?_⟩
  rcases hd with ⟨_, rfl⟩ | ⟨ds, rest, hx, hlen, hfit⟩
  · exact ⟨by simp, fun p hp => (by cases hp)⟩
  · simp only at hx
    subst hx
    obtain ⟨z1, z2⟩ := acts_sized hw
    refine ⟨by rw [← hlen]; simp [reachBytes] at z1; omega, fun p hp => ?_⟩
    obtain ⟨i, hi⟩ := List.mem_iff_getElem?.1 hp
    obtain ⟨d, hd1, hd2⟩ := hfit i p hi
    exact acOk_of hd2 (z2 d (List.mem_of_getElem? hd1) _ hd2.data)
end
end Go.Proofs.YtdfkkflpcamhjaaGreatDoor
