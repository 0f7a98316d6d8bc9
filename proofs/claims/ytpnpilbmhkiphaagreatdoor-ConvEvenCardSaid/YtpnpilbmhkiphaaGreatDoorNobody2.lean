/-
  A table that no call made: Whole, Row, and the law's own function nobody.
-/
import Derived.Test.YtpnpilbmhkiphaaGreatDoorNobody
import Derived.Laws.CopyOwn
import Derived.Deep.WholeRow
namespace Go.Proofs.YtpnpilbmhkiphaaGreatDoor
open Go.RowKit
set_option linter.unusedVariables false
set_option maxRecDepth 100000

def zeroRow : Value := .agg #[.int .i64 0, .int .i64 0, .int .i64 0, .string ⟨#[]⟩, .slice none 0 0, .bool false]

theorem whole_no {v : Value} {w : World} (h : NoT v w) (id : Int) :
    Calls Tryz.prog 101 #[v, .int .i64 id] w fun e w' => e = .returned (.bool false) ∧ w' = w := by
  have c := kind_no h id
  have c2 := scalar_no h id
  go_enter Tryz.func101, Tryz.ntmps101
  go_wp2_with fail
  refine c.mono ?_
  rintro e w' ⟨rfl, rfl⟩
  go_wp2_with fail
  refine c2.mono ?_
  rintro e w' ⟨rfl, rfl⟩
  go_wp2
  go_ret
  exact ⟨rfl, rfl⟩

theorem noT_below {v : Value} {w w' : World} (h : NoT v w) (hb : Below w.heap.size w w') : NoT v w' := by
  rcases h with rfl | ⟨b, rfl, hc⟩
  · exact Or.inl rfl
  · refine Or.inr ⟨b, rfl, ?_⟩
    rw [hb.cell (p := ⟨b, 0, none⟩) (World.block_lt_of_cell? w _ hc)]; exact hc

theorem results_cell2 {fn : Func} {p u : Tmp} {ty : TypeId} (h : fn.results = #[.cell p ty, .tmp u]) (tmps : Array Value) (P : Program) (w : World) :
    (results fn tmps).run P w =
      ((asAddr (tmps.getD p undef)).run P w).andThen fun a w₁ => ((loadVar ty a).run P w₁).andThen fun x w₂ => .ok (.tuple #[x, tmps.getD u undef]) w₂ := by
  simp only [results, h]
  simp [Sem.run_bind, Result.andThen]
theorem ret_rowb {fn : Func} {R : Ending → World → Prop} {tmps : Array Value} {w : World} {g p q : Nat} {cs : Array Value}
    (hres : fn.results = #[.cell p 67, .tmp q]) (hp : tmps.getD p undef = .pointer (some ⟨g, 0, none⟩)) (hg : w.heap[g]? = some (.cells cs 67 (0, 0))) (hcs : cs.size = 6)
    (hR : R (.returned (.tuple #[.agg cs, tmps.getD q undef])) w) : bodyPost Tryz.prog fn R .ret ⟨tmps, []⟩ w := by
  refine bodyPost_ret ?_ rfl hR
  have hl := run_loadVar_row (P := Tryz.prog) w g 67 67 cs (0, 0) _ hg Tryz.underlying67 rfl (by rw [hcs]; kernel_rfl)
  rw [results_cell2 hres]
  simp only [hp]
  simp [asAddr, Result.andThen, hl]
theorem step_store {P : Program} {t ty : TypeId} {p x : Operand} {pos : String} {af : Array Edge} {ops : Array Oper} {rest : List Oper} {tmps : Array Value} {w : World} {Q : Exit → Act → World → Prop} {g : Nat} {old cells : Array Value}
    (hg : w.heap[g]? = some (.cells old t (0, 0))) (hp : Act.eval ⟨tmps, []⟩ p = .pointer (some ⟨g, 0, none⟩)) (hx : Act.eval ⟨tmps, []⟩ x = .agg cells) (hi : (P.info? t).map (·.size) = some cells.size) (ho : old.size = cells.size)
    (h1 : cells.all (·.oneCell') = true) (k : wpList P ops Q rest ⟨tmps, []⟩ (w.setRow g cells)) : wpList P ops Q ({ dst := none, op := Op.store t p x, type := ty, pos := pos, after := af, guard := none } :: rest) ⟨tmps, []⟩ w :=
  wpList_plain rfl fun K hK => wp_store_row t p x rfl g cells hp hx t old hg hi ho h1 (hK _ _ k)

theorem heap_r0 (w : World) (A : Obj) : (w.alloc A).heap[w.heap.size]? = some A := by
  show (w.heap.push A)[w.heap.size]? = some A
  simp

theorem row_no {v : Value} {w : World} (h : NoT v w) (id : Int) :
    Calls Tryz.prog 84 #[v, .int .i64 id] w fun e w' => e = .returned (.tuple #[zeroRow, .bool false]) ∧ Below w.heap.size w w' := by
  have hB : Below w.heap.size w (w.alloc (.cells #[.int .i64 0, .int .i64 0, .int .i64 0, .string ⟨#[]⟩, .slice none 0 0, .bool false] 67)) := (Below.refl _ w).alloc (Nat.le_refl _) _
  have c := has_no (noT_below h hB) id
  have h0 := not_f
  have hbz : ∀ W : World, (Instr.build 67 #[]).run Tryz.prog W = .ok (.agg #[.int .i64 0, .int .i64 0, .int .i64 0, .string ⟨#[]⟩, .slice none 0 0, .bool false]) W := fun W => by kernel_rfl
  go_enter Tryz.func84, Tryz.ntmps84
  go_wp2_with fail
  refine c.mono ?_
  rintro e w' ⟨rfl, rfl⟩
  have hold := heap_r0 w (.cells #[.int .i64 0, .int .i64 0, .int .i64 0, .string ⟨#[]⟩, .slice none 0 0, .bool false] 67)
  go_wp2_with ((with_reducible apply step_store hold); rfl; rfl; kernel_rfl; rfl; kernel_rfl)
  refine ret_rowb (p := 4) (q := 5) ?_ ?_ (setRow_heap _ _ _ _ _ _ hold) ?_ ?_
  · rfl
  · rfl
  · rfl
  · exact ⟨rfl, below_setRow hB (Nat.le_refl _) _⟩
end Go.Proofs.YtpnpilbmhkiphaaGreatDoor
