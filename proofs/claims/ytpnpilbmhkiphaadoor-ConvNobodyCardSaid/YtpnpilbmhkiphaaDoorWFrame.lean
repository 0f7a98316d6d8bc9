/-
  What the given reading of the table of the operations' names says of memory: its nineteen cells hold the nineteen names; and the start from which the program's own initialiser leaves them so.
-/
import Derived.Test.YtpnpilbmhkiphaaDoorRows
import Derived.Test.YtpnpilbmhkiphaaDoorWHeads
import Derived.ProofKit
import Derived.LaidMore
import Derived.OpenShut
import Derived.Stop.Joined
namespace Go.Proofs.YtpnpilbmhkiphaaDoor.W
open Go.ChangeShapes Go.WideShapes Go.ChangeAt Go.RowKit

theorem own : ownKnob Tryd.prog.godebug = none := by kernel_rfl

/-- The names, as the listed datum has them. -/
def nameList : List (List UInt8) := [[97, 100, 100], [115, 117, 98], [109, 117, 108], [100, 105, 118, 115], [100, 105, 118, 117], [114, 101, 109, 115], [114, 101, 109, 117], [97, 110, 100], [111, 114], [120, 111, 114], [115, 104, 108], [115, 104, 114, 115], [115, 104, 114, 117], [101, 113], [110, 101], [108, 116, 115], [108, 116, 117], [108, 101, 115], [108, 101, 117]]
theorem laid_names {H : Type} : (Rows.laid_mortise_word_names : DataW H) = .agg (nameList.map fun l => .lit (.string l)) := rfl

theorem u32_bounds {a : Int} (h : (Lit.int .u32 a).wf = true) : 0 ≤ a ∧ a < 4294967296 := by
  have := bounds_u32 h
  omega
theorem i64_bounds {a : Int} (h : (Lit.int .i64 a).wf = true) : -9223372036854775808 ≤ a ∧ a < 9223372036854775808 := by
  have := bounds_i64 h
  omega
/-- The table of names as the program's text lays it. -/
abbrev NamesIn (w : World) : Prop := ∀ i, i < 19 → w.cell? ⟨0, i, none⟩ = some (.string ⟨(nameList.getD i []).toArray⟩)

theorem door_met (os : Os) (args : Array Value) : laidMetH Tryd.prog Rows.convFoldsRow.laid ((World.doorLaid Tryd.prog 400 os).forCall (fun _ _ => 0) ⟨#[], args, []⟩).memory :=
  laidMetH_of_parts3 (fuel := 8) (laidMet_of_run' 8 (by kernel_rfl) (by kernel_rfl)) (by kernel_rfl) (by kernel_rfl)

theorem of_laid {W : World} (h : laidMetH Tryd.prog Rows.convFoldsRow.laid W) : NamesIn W ∧ 0 < W.heap.size := by
  rw [MakeChecks.laidMetH_plain _ _ _ (by kernel_rfl)] at h
  obtain ⟨ps, ⟨g0, t0, cs0, f0, p0, q0, hg0, ht0, hv0, hd0, _, _⟩, _, _⟩ := h
  obtain rfl := Option.some.inj ((show Tryd.prog.globalNamed _ = some 0 by kernel_rfl).symm.trans hg0)
  obtain rfl := Option.some.inj ((show (Tryd.prog.globals[0]?).map (·.type) = some 65 by kernel_rfl).symm.trans ht0)
  obtain ⟨xs, m, rfl, hx, hlen, hn, hel⟩ := DataW.trod_array Tryd.underlying65 hd0
  have c9 : Tryd.prog.cellsOf 9 = 1 := by kernel_rfl
  have cN : Tryd.prog.cellsOf 65 = 19 := by kernel_rfl
  simp only [Prod.mk.injEq] at hx
  have hxs : nameList.map (fun l => (.lit (.string l) : DataW _)) = xs.map (·.1) := by
    have := hx.1
    rw [laid_names] at this
    simpa using this
  have hcs : cs0.size = 19 := by simpa [cN] using hlen
  have hcell : ∀ i, i < 19 → W.cell? ⟨0, i, none⟩ = some (.string ⟨(nameList.getD i []).toArray⟩) := by
    intro i hi
    have h1 := hel i hi
    rw [c9] at h1
    have hxi : xs[i]? = some xs[i] := List.getElem?_eq_getElem (by omega)
    rw [hxi] at h1
    obtain ⟨s, e1, e2, _⟩ := DataW.trod_string Tryd.underlying9 h1
    have hv := World.var?_cell hg0 hv0 i
    have e3 : cs0[i]? = some (.string s) := by
      have := congrArg (fun l => l[0]?) e1
      simpa using this
    have e4 : s.data.toList = nameList.getD i [] := by
      have := congrArg (fun l => l[i]?) hxs
      simp only [List.getElem?_map, hxi, e2, Option.map_some] at this
      have hi2 : i < nameList.length := by simpa [nameList] using hi
      rw [List.getElem?_eq_getElem hi2] at this
      simp at this
      rw [List.getD_eq_getElem?_getD, List.getElem?_eq_getElem hi2]
      simpa using this.symm
    rw [hv, e3, ← e4]
  refine ⟨hcell, ?_⟩
  have h0 := hcell 0 (by decide)
  by_cases hz : 0 < W.heap.size
  · exact hz
  · exfalso
    have hz0 : W.heap.size = 0 := by omega
    have hn0 : W.heap[0]? = none := Array.getElem?_eq_none (by omega)
    simp [World.cell?, hn0] at h0
end Go.Proofs.YtpnpilbmhkiphaaDoor.W
