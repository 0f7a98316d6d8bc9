/-
  What the walks of the given answer's 'record' and 'union' share.
-/
import Derived.Test.YtlcghlfmaohfeaaGreatRtA
namespace Go.Proofs.YtlcghlfmaohfeaaGreat
open Go.RowKit Go.Maps
set_option linter.unusedVariables false
set_option maxRecDepth 100000
theorem memSl_cells {w : World} {x : Value} {l : List Mb} (h : MemSl w x l) : ∃ p c, x = .slice p l.length c ∧ ∀ j m, l[j]? = some m → ∃ g o, p = some ⟨g, o, none⟩ ∧ l.length ≤ c ∧ ∀ Y, Below w.heap.size w Y → ∀ k, k < 3 → Y.cell? ⟨g, o + j * 3 + k, none⟩ = (mbCells m)[k]? := by
  rcases h with ⟨rfl, rfl⟩ | ⟨g, o, c, rfl, hc, hg, hcell⟩
  · exact ⟨none, 0, rfl, fun j m hm => by simp at hm⟩
  · exact ⟨_, c, rfl, fun j m hm => ⟨g, o, rfl, hc, fun Y hY k hk => (hY.cell (p := ⟨g, o + j * 3 + k, none⟩) hg).trans (hcell j m hm k hk)⟩⟩
theorem load_Ly {w : World} {g : Nat} {cs : Array Value} (hg : w.heap[g]? = some (.cells cs TLy (0, 0))) (hcs : cs.size = 4) : (loadVar TLy ⟨g, 0, none⟩).run Tryz.prog w = .ok (.agg cs) w :=
  run_loadVar_row (P := Tryz.prog) w g TLy TLy cs (0, 0) _ hg Tryz.underlying82 rfl (by rw [hcs]; kernel_rfl)
/-- What is asked of a member: its type is known. -/
def MemK (M : Int → Ex) (ys : List Ly) (m : Mb) : Prop :=
  ExOK (M m.type) ∧ BitsOK m (M m.type) ∧ (m.bits = -1 → (m.name.toList == []) = false) ∧ (m.bits = 0 → (m.name.toList == []) = true) ∧
  ∃ (t : Nat) (y : Ly), m.type = t ∧ ys[t]? = some y ∧ y.fine = decide ((M m.type).size ≤ 16384) ∧ (y.fine = true → y.size = (M m.type).size ∧ y.align = (M m.type).align)
theorem below_grow {B : Nat} {W w w' : World} {row : Option Nat} (hb : Below B W w) (hB : B ≤ w.heap.size) (hg : w.grownBy w' row) (hr : ∀ k, row = some k → B ≤ k) : Below B W w' :=
  ⟨hg.os.trans hb.os, hg.tape.trans hb.tape, hg.output.trans hb.output, Nat.le_trans hb.size hg.size, fun k hk => (hg.block k (by omega) (fun e => by have := hr k e.symm; omega)).trans (hb.block k hk)⟩
theorem blk_cell {w w' : World} {a : Addr} {v : Value} (h : w.cell? a = some v) (hb : Below w.heap.size w w') : w'.cell? a = some v := (hb.cell (World.block_lt_of_cell? w _ h)).trans h
section
variable {w : World} {M : Int → Ex} {base : Nat}
theorem layS_fin {M : Int → Ex} : ∀ (mem : List Mb) (s : Ls), 0 ≤ s.place → s.fin = s.place → (∀ m ∈ mem, ExOK (M m.type) ∧ BitsOK m (M m.type)) → (layS false M s mem).fin = (layS false M s mem).place
  | [], _, _, h, _ => h
  | m :: l, s, h0, h, ha => by
    have hm := ha m (List.mem_cons_self ..)
    have b1 := begin_bd (m := m) hm.1 h0
    have b2 := taken_bd hm.1 hm.2
    refine layS_fin l (stepP false M s m) ?_ ?_ (fun q hq => ha q (List.mem_cons_of_mem _ hq))
    · show 0 ≤ beginP s.place m (M m.type) + takenP m (M m.type); omega
    · show max s.fin (beginP s.place m (M m.type) + takenP m (M m.type)) = beginP s.place m (M m.type) + takenP m (M m.type); omega
end
end Go.Proofs.YtlcghlfmaohfeaaGreat
