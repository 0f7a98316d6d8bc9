/-
  From a call's contract to a row's statement: the world's shape and the listed variables are handed on; what the listed table of names says of memory.
-/
import Derived.Test.YtfdjghfgbibedaaDoorRows
import Derived.Test.YtfdjghfgbibedaaDoorTie
import Derived.Test.YtfdjghfgbibedaaDoorCards
import Derived.ProofKit
import Derived.LaidMore
import Derived.OpenShut
import Derived.Lay
import Derived.SevenTiedAt
import Derived.Stop.Joined
import Derived.HandedShaped
import Derived.ChangeMaps5
import Derived.Shelf.Vars
import Derived.Test.YtfdjghfgbibedaaDoorHeads
import Derived.Lib.LaidTab
import Derived.Carry
import Derived.Stop.LaidErr
namespace Go.Proofs.YtfdjghfgbibedaaDoor
open Go.ChangeShapes Go.WideShapes Go.ChangeAt Go.RowKit
set_option linter.unusedVariables false

theorem ownK : ownKnob Tryd.prog.godebug = none := by kernel_rfl

/-- A law's step from its calls, with the listed variables' reading and the world's shape in hand. -/
theorem lift_law {H : Type} {enc : TypeId × Value → H} {C : Checked} {os : Os} {f : FuncId} {fn : Func} {s : ChangeSpec} {X : World → Array Value → Prop}
    (hX : ∀ (w w' : World) (args : Array Value), w.heap = w'.heap → X w args → X w' args)
    (own : ownKnob C.prog.godebug = none) (started : os.Started) (noInit : C.prog.inits.idxOf? f = none) (hfn : C.prog.funcs[f]? = some fn)
    (witness : ∃ (w : World) (tape : Tape) (i : Input), w.os = os ∧ (w.forCall tape i).Shaped C.prog ∧ i.vars = [] ∧ Input.okWide C.prog (w.forCall tape i) .any w.heap.size f i ∧
      ((s.pre enc C.prog fn [] false (w.forCall tape i).memory i.args ∧ X (w.forCall tape i).memory i.args) ∧ sizedMet enc C.prog fn (OpenSpec.ofChange s) false (w.forCall tape i).memory i.args) ∧ Assume.holds {} C.prog (lone (Frame.enter C.prog f i.args .normal) [] (w.forCall tape i)))
    (contract : ∀ (W : World) (base : Nat) (args : Array Value) (ds gs : List (DataW H)) (before : List MemPlace),
      (∀ (j : Nat) t v, fn.params[j]? = some t → args[j]? = some v → Value.okWide C.prog W .any base t v) →
      DataW.Whole enc C.prog fn.params.toList s.vars false W args.toList ds gs before → X W args → W.ShapedOpen C.prog →
      Calls C.prog f args W fun e W' => ∃ v, e = .returned v ∧ s.post enc C.prog fn false true false false W args v W') :
    ReturnsInHanded {} C os f .any (fun w args => (s.pre enc C.prog fn [] false w args ∧ X w args) ∧ sizedMet enc C.prog fn (OpenSpec.ofChange s) false w args) (s.post enc C.prog fn false true false false) := by
  refine returnsInHanded_of_calls own started noInit witness fun w tape i _ hsh _ hok hpre _ => ?_
  obtain ⟨_, _, _, fn', hfn', _, _, _, _, hval⟩ := hok
  obtain rfl : fn' = fn := Option.some.inj (hfn'.symm.trans hfn)
  obtain ⟨⟨⟨ds, gs, before, hw, _⟩, hx⟩, _⟩ := hpre
  refine (contract (w.forCall tape i) w.heap.size i.args ds gs before hval (DataW.Whole.of_heap (w := (w.forCall tape i).memory) (w' := w.forCall tape i) (by rfl) hw) (hX (w.forCall tape i).memory (w.forCall tape i) _ (by rfl) hx) hsh).mono fun e W' h => ?_
  obtain ⟨v, rfl, hp⟩ := h
  exact ChangeSpec.post_blind hp

theorem laidOut : laidOutB Tryd.prog = true := by kernel_rfl

/-- The names, as the listed datum has them. -/
def nameList : List (List UInt8) := nameTab.map (·.data.toList)
theorem laid_names {H : Type} : (Rows.laid_mortise_ctype_names : DataW H) = .agg (nameList.map fun l => .lit (.string l)) := rfl

theorem tabs_of {W : World} (h : laidMetH Tryd.prog Rows.ctypeNobodyRow.laid W) : Tabs W := by
  rw [MakeChecks.laidMetH_plain _ _ _ (by kernel_rfl)] at h
  have h2 := h.tail.tail
  exact Lib.tabIs_of_head (P := Tryd.prog) (name := "internal/strconv.uint64pow10") (k := .u64) (zs := Lib.pow10Tab) (g := (Tryd.prog.globalNamed "internal/strconv.uint64pow10").getD 0) (t := 125) (e := 117) (n := 20) (by kernel_rfl) (by kernel_rfl) (by kernel_rfl) (by kernel_rfl) (by kernel_rfl) (by kernel_rfl) h2

theorem names_of {W : World} (h : laidMetH Tryd.prog Rows.ctypeNobodyRow.laid W) : Names W := by
  rw [MakeChecks.laidMetH_plain _ _ _ (by kernel_rfl)] at h
  have h3 := h.tail.tail.tail
  obtain ⟨ps, ⟨g0, t0, cs0, f0, p0, q0, hg0, ht0, hv0, hd0, _, _⟩, _, _⟩ := h3
  obtain rfl := Option.some.inj ((show Tryd.prog.globalNamed _ = some 0 by kernel_rfl).symm.trans hg0)
  obtain rfl := Option.some.inj ((show (Tryd.prog.globals[0]?).map (·.type) = some 107 by kernel_rfl).symm.trans ht0)
  obtain ⟨xs, m, rfl, hx, hlen, hn, hel⟩ := DataW.trod_array Tryd.underlying107 hd0
  have c9 : Tryd.prog.cellsOf 9 = 1 := by kernel_rfl
  have cN : Tryd.prog.cellsOf 107 = 11 := by kernel_rfl
  simp only [Prod.mk.injEq] at hx
  have hxs : nameList.map (fun l => (.lit (.string l) : DataW _)) = xs.map (·.1) := by
    have := hx.1
    rw [laid_names] at this
    simpa using this
  intro i s0 hs0
  have hi : i < 11 := (List.getElem?_eq_some_iff.1 hs0).1
  have h1 := hel i hi
  rw [c9] at h1
  have hxi : xs[i]? = some xs[i] := List.getElem?_eq_getElem (by omega)
  rw [hxi] at h1
  obtain ⟨s, e1, e2, _⟩ := DataW.trod_string Tryd.underlying9 h1
  have hv := World.var?_cell hg0 hv0 i
  have e3 : cs0[i]? = some (.string s) := by
    have := congrArg (fun l => l[0]?) e1
    simpa using this
  have e4 : s.data.toList = s0.data.toList := by
    have := congrArg (fun l => l[i]?) hxs
    simp only [List.getElem?_map, hxi, e2, Option.map_some, nameList, hs0] at this
    simpa using this.symm
  have e5 : s = s0 := by
    apply ByteArray.ext
    exact Array.ext' e4
  rw [hv, e3, e5]
end Go.Proofs.YtfdjghfgbibedaaDoor
