/-
  From a call's contract to a row's statement: the world's shape, the listed variables and the arguments' sizes are handed on; what the listed tables say of memory.
-/
import Derived.Test.YtaaphipbkpjkjaaGreatDoorRows
import Derived.Test.YtaaphipbkpjkjaaGreatDoorTie
import Derived.Test.YtaaphipbkpjkjaaGreatDoorCards
import Derived.ProofKit
import Derived.LaidMore
import Derived.OpenShut
import Derived.Lay
import Derived.SevenTiedAt
import Derived.Stop.Joined
import Derived.HandedShaped
import Derived.ChangeMaps5
import Derived.Shelf.Vars
import Derived.Lib.LaidTab
import Derived.Carry
import Derived.Stop.LaidErr
import Derived.SizedLaws
import Derived.Test.YtaaphipbkpjkjaaGreatDoorTcJ
namespace Go.Proofs.YtaaphipbkpjkjaaGreatDoor
open Go.ChangeShapes Go.WideShapes Go.ChangeAt Go.RowKit
set_option linter.unusedVariables false
set_option maxRecDepth 100000

theorem ownK : ownKnob Tryz.prog.godebug = none := by kernel_rfl
theorem maxLen_cell (w : World) (h : w.ShapedOpen Tryz.prog) : MaxIn w :=
  cell_of_shapedOpen_int (zero := #[.int .i64 0]) (t := 3) h (of_decide_eq_true (by kernel_rfl)) (by kernel_rfl) rfl (by kernel_rfl) (by kernel_rfl) Tryz.underlying3

/-- A law's step from its calls, with the listed variables' reading, the world's shape and the arguments' sizes in hand. -/
theorem lift_law_sized {H : Type} {enc : TypeId × Value → H} {C : Checked} {os : Os} {f : FuncId} {fn : Func} {s : ChangeSpec} {X : World → Array Value → Prop}
    (hX : ∀ (w w' : World) (args : Array Value), w.heap = w'.heap → X w args → X w' args)
    (own : ownKnob C.prog.godebug = none) (started : os.Started) (noInit : C.prog.inits.idxOf? f = none) (hfn : C.prog.funcs[f]? = some fn)
    (witness : ∃ (w : World) (tape : Tape) (i : Input), w.os = os ∧ (w.forCall tape i).Shaped C.prog ∧ i.vars = [] ∧ Input.okWide C.prog (w.forCall tape i) .any w.heap.size f i ∧
      ((s.pre enc C.prog fn [] false (w.forCall tape i).memory i.args ∧ X (w.forCall tape i).memory i.args) ∧ sizedMet enc C.prog fn (OpenSpec.ofChange s) false (w.forCall tape i).memory i.args) ∧ Assume.holds {} C.prog (lone (Frame.enter C.prog f i.args .normal) [] (w.forCall tape i)))
    (contract : ∀ (W : World) (base : Nat) (args : Array Value) (ds gs : List (DataW H)) (before : List MemPlace),
      (∀ (j : Nat) t v, fn.params[j]? = some t → args[j]? = some v → Value.okWide C.prog W .any base t v) →
      DataW.Whole enc C.prog fn.params.toList s.vars false W args.toList ds gs before →
      (DataW.weightsEach C.prog (fn.params.toList ++ s.plain.varTypes C.prog) (ds ++ gs)).all (· ≤ reachBytes) = true → X W args → W.ShapedOpen C.prog →
      Calls C.prog f args W fun e W' => ∃ v, e = .returned v ∧ s.post enc C.prog fn false true false false W args v W') :
    ReturnsInHanded {} C os f .any (fun w args => (s.pre enc C.prog fn [] false w args ∧ X w args) ∧ sizedMet enc C.prog fn (OpenSpec.ofChange s) false w args) (s.post enc C.prog fn false true false false) := by
  refine returnsInHanded_of_calls own started noInit witness fun w tape i _ hsh _ hok hpre _ => ?_
  obtain ⟨_, _, _, fn', hfn', _, _, _, _, hval⟩ := hok
  obtain rfl : fn' = fn := Option.some.inj (hfn'.symm.trans hfn)
  obtain ⟨⟨⟨ds, gs, before, hw, _⟩, hx⟩, hz⟩ := hpre
  refine (contract (w.forCall tape i) w.heap.size i.args ds gs before hval (DataW.Whole.of_heap (w := (w.forCall tape i).memory) (w' := w.forCall tape i) (by rfl) hw) (hz.weights hw) (hX (w.forCall tape i).memory (w.forCall tape i) _ (by rfl) hx) hsh).mono fun e W' h => ?_
  obtain ⟨v, rfl, hp⟩ := h
  exact ChangeSpec.post_blind hp
theorem laidOut : laidOutB Tryz.prog = true := by kernel_rfl
theorem tabs_of {W : World} (h : laidMetH Tryz.prog Rows.tacNextsRow.laid W) : Tabs W := by
  rw [MakeChecks.laidMetH_plain _ _ _ (by kernel_rfl)] at h
  have h2 := h.tail.tail
  exact Lib.tabIs_of_head (P := Tryz.prog) (name := "internal/strconv.uint64pow10") (k := .u64) (zs := Lib.pow10Tab) (g := (Tryz.prog.globalNamed "internal/strconv.uint64pow10").getD 0) (t := 182) (e := 150) (n := 20) (by kernel_rfl) (by kernel_rfl) (by kernel_rfl) (by kernel_rfl) (by kernel_rfl) (by kernel_rfl) h2
def nameList : List (List UInt8) := opTab.map (·.data.toList)
theorem laid_names {H : Type} : (Rows.laid_mortise_word_names : DataW H) = .agg (nameList.map fun l => .lit (.string l)) := rfl
theorem names_of {W : World} (h : laidMetH Tryz.prog Rows.tacNextsRow.laid W) : NamesIn W := by
  rw [MakeChecks.laidMetH_plain _ _ _ (by kernel_rfl)] at h
  have h3 := h.tail.tail.tail
  obtain ⟨ps, ⟨g0, t0, cs0, f0, p0, q0, hg0, ht0, hv0, hd0, _, _⟩, _, _⟩ := h3
  obtain rfl := Option.some.inj ((show Tryz.prog.globalNamed _ = some 1 by kernel_rfl).symm.trans hg0)
  obtain rfl := Option.some.inj ((show (Tryz.prog.globals[1]?).map (·.type) = some 156 by kernel_rfl).symm.trans ht0)
  obtain ⟨xs, m, rfl, hx, hlen, hn, hel⟩ := DataW.trod_array Tryz.underlying156 hd0
  have c9 : Tryz.prog.cellsOf 9 = 1 := by kernel_rfl
  simp only [Prod.mk.injEq] at hx
  have hxs : nameList.map (fun l => (.lit (.string l) : DataW _)) = xs.map (·.1) := by
    have := hx.1
    rw [laid_names] at this
    simpa using this
  intro i s0 hs0
  have hi : i < 19 := (List.getElem?_eq_some_iff.1 hs0).1
  have h1 := hel i hi
  rw [c9] at h1
  have hxi : xs[i]? = some xs[i] := List.getElem?_eq_getElem (by omega)
  rw [hxi] at h1
  obtain ⟨s, e1, e2, _⟩ := DataW.trod_string Tryz.underlying9 h1
  have hv := World.var?_cell hg0 hv0 i
  have e3 : cs0[i]? = some (.string s) := by
    have := congrArg (fun l => l[0]?) e1
    simpa using this
  have e4 : s.data.toList = s0.data.toList := by
    have := congrArg (fun l => l[i]?) hxs
    simp only [List.getElem?_map, hxi, e2, Option.map_some, nameList, hs0] at this
    simpa using this.symm
  have e5 : s = s0 := by
    apply ByteArray.ext
    exact Array.ext' e4
  rw [hv, e3, e5]
def formList : List (List UInt8 × List UInt8) := (wordTab.map (·.data.toList)).zip (fieldTab.map fun l => (bytesOf l).data.toList)
theorem laid_forms {H : Type} : (Rows.laid_mortise_tac_forms : DataW H) = .agg (formList.map fun l => .agg [.lit (.string l.1), .lit (.string l.2)]) := rfl
theorem forms_at {W : World} (h : laidMetH Tryz.prog Rows.tacNextsRow.laid W) (i : Nat) (hi : i < 15) (a b : List UInt8) (hab : formList[i]? = some (a, b)) :
    W.cell? ⟨0, i * 2, none⟩ = some (.string ⟨a.toArray⟩) ∧ W.cell? ⟨0, i * 2 + 1, none⟩ = some (.string ⟨b.toArray⟩) := by
  rw [MakeChecks.laidMetH_plain _ _ _ (by kernel_rfl)] at h
  have h3 := h.tail.tail.tail.tail.tail.tail.tail
  obtain ⟨ps, ⟨g0, t0, cs0, f0, p0, q0, hg0, ht0, hv0, hd0, _, _⟩, _, _⟩ := h3
  obtain rfl := Option.some.inj ((show Tryz.prog.globalNamed _ = some 0 by kernel_rfl).symm.trans hg0)
  obtain rfl := Option.some.inj ((show (Tryz.prog.globals[0]?).map (·.type) = some 144 by kernel_rfl).symm.trans ht0)
  obtain ⟨xs, m, rfl, hx, hlen, hn, hel⟩ := DataW.trod_array Tryz.underlying144 hd0
  have c9 : Tryz.prog.cellsOf 9 = 1 := by kernel_rfl
  have cF : Tryz.prog.cellsOf 143 = 2 := by kernel_rfl
  simp only [Prod.mk.injEq] at hx
  have hxs : formList.map (fun l => (.agg [.lit (.string l.1), .lit (.string l.2)] : DataW _)) = xs.map (·.1) := by
    have := hx.1
    rw [laid_forms] at this
    simpa using this
  have h1 := hel i hi
  rw [cF] at h1
  have hxi : xs[i]? = some xs[i] := List.getElem?_eq_getElem (by omega)
  rw [hxi] at h1
  have hy := congrArg (fun l => l[i]?) hxs
  simp only [List.getElem?_map, hxi, hab, Option.map_some, Option.some.injEq] at hy
  obtain ⟨zs, n, hc, hz, hl, hzl, hf⟩ := DataW.trod_struct Tryz.underlying143 h1
  have f0 : DataW.trod _ Tryz.prog _ _ _ _ n 9 ((((cs0.toList.drop (i * 2)).take 2).drop 0).take (Tryz.prog.cellsOf 9)) = zs[0]? := hf 0 _ rfl
  have f1 : DataW.trod _ Tryz.prog _ _ _ _ n 9 ((((cs0.toList.drop (i * 2)).take 2).drop 1).take (Tryz.prog.cellsOf 9)) = zs[1]? := hf 1 _ rfl
  rw [c9] at f0 f1
  obtain ⟨y0, y1, rfl⟩ : ∃ a b, zs = [a, b] := by
    match zs, hzl with
    | [a, b], _ => exact ⟨a, b, rfl⟩
  simp only [List.getElem?_cons_zero, List.getElem?_cons_succ] at f0 f1
  obtain ⟨s0, e0, d0, _⟩ := DataW.trod_string Tryz.underlying9 f0
  obtain ⟨s1, e1, d1, _⟩ := DataW.trod_string Tryz.underlying9 f1
  have hz' := congrArg Prod.fst hz
  rw [← hy] at hz'
  simp only [List.map_cons, List.map_nil, d0, d1, DataW.agg.injEq, List.cons.injEq, DataW.lit.injEq, Lit.string.injEq, and_true] at hz'
  have q0 : cs0[i * 2]? = some (.string s0) := by
    have := congrArg (fun l => l[0]?) e0
    simpa using this
  have q1 : cs0[i * 2 + 1]? = some (.string s1) := by
    have := congrArg (fun l => l[0]?) e1
    simpa using this
  refine ⟨(World.var?_cell hg0 hv0 _).trans ?_, (World.var?_cell hg0 hv0 _).trans ?_⟩
  · rw [q0, hz'.1]
  · rw [q1, hz'.2]
theorem forms_of {W : World} (h : laidMetH Tryz.prog Rows.tacNextsRow.laid W) : FormsIn W := fun i l hl => by
  have hi : i < 15 := (List.getElem?_eq_some_iff.1 hl).1
  have hi2 : i < wordTab.length := hi
  have := (forms_at h i hi _ _ (show formList[i]? = some ((wordTab.map (·.data.toList))[i]'(by simpa using hi2), (bytesOf l).data.toList) by
    unfold formList
    rw [List.getElem?_zip_eq_some]
    exact ⟨List.getElem?_eq_getElem _, by rw [List.getElem?_map, hl]; rfl⟩)).2
  simpa using this
theorem words_of {W : World} (h : laidMetH Tryz.prog Rows.tacNextsRow.laid W) : WordsIn W := fun i s hs => by
  have hi : i < 15 := (List.getElem?_eq_some_iff.1 hs).1
  have hi2 : i < fieldTab.length := hi
  have := (forms_at h i hi _ _ (show formList[i]? = some (s.data.toList, (fieldTab.map fun l => (bytesOf l).data.toList)[i]'(by simpa using hi2)) by
    unfold formList
    rw [List.getElem?_zip_eq_some]
    exact ⟨by rw [List.getElem?_map, hs]; rfl, List.getElem?_eq_getElem _⟩)).1
  simpa using this
theorem size_of {W : World} (h : laidMetH Tryz.prog Rows.tacNextsRow.laid W) : 10 ≤ W.heap.size := by
  rw [MakeChecks.laidMetH_plain _ _ _ (by kernel_rfl)] at h
  have h3 := h.tail.tail.tail.tail.tail
  obtain ⟨ps, ⟨g0, t0, cs0, f0, p0, q0, hg0, ht0, hv0, hd0, _, _⟩, _, _⟩ := h3
  obtain rfl := Option.some.inj ((show Tryz.prog.globalNamed _ = some 9 by kernel_rfl).symm.trans hg0)
  unfold World.var? at hv0
  rw [hg0] at hv0
  simp only [Option.bind_some] at hv0
  rcases Nat.lt_or_ge 9 W.heap.size with h' | h'
  · exact h'
  · rw [Array.getElem?_eq_none h'] at hv0; cases hv0
theorem prW_of {W : World} (h : laidMetH Tryz.prog Rows.tacNextsRow.laid W) : PrW W := ⟨tabs_of h, forms_of h, words_of h, names_of h, Nat.lt_of_lt_of_le (by decide) (size_of h)⟩
end Go.Proofs.YtaaphipbkpjkjaaGreatDoor
