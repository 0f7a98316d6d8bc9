/-
  What a row does not name is zero: bare of package tac.
  Fields taken out of an instruction: clearField of package tac.
-/
import Derived.Test.YtdijnbgcamgjfaaGreatDoorKD
import Derived.Laws.RangeString
namespace Go.Proofs.YtdijnbgcamgjfaaGreatDoor
open Go.RowKit Go.Maps
set_option linter.unusedVariables false
set_option maxRecDepth 100000
section
variable {w : World}
/-- An instruction's cells with one field taken out. -/
def clrI (c : Nat) (x : In) (s : Value) : In × Value :=
  if c = 68 ∨ c = 84 then ({ x with d := -1 }, s) else if c = 65 ∨ c = 82 then ({ x with a := ⟨0, 0⟩ }, s) else if c = 66 then ({ x with b := ⟨0, 0⟩ }, s) else if c = 78 then ({ x with n := 0 }, s)
  else if c = 79 then ({ x with off := 0 }, s) else if c = 87 then ({ x with width := 0 }, s) else if c = 83 then ({ x with sg := false }, s) else ({ x with args := [] }, .slice none 0 0)
def letters : List Nat := [68, 84, 65, 82, 66, 78, 79, 87, 83, 76]
set_option maxHeartbeats 8000000 in
theorem clear_c {g : Nat} {x : In} {sp : Option Addr} {sn sc : Nat} (hg : w.heap[g]? = some (.cells (inCells x (.slice sp sn sc)).toArray TIn (0, 0))) (c : Nat) (hc : c ∈ letters) :
    Calls Tryz.prog 130 #[.pointer (some ⟨g, 0, none⟩), .int .i32 (c : Int)] w fun e w' => e = .returned (.tuple #[]) ∧ w'.heap[g]? = some (.cells (inCells (clrI c x (.slice sp sn sc)).1 (clrI c x (.slice sp sn sc)).2).toArray TIn (0, 0)) ∧ Turned w w' (fun k => k = g) := by
  obtain ⟨op, bin, d, ⟨ak, an⟩, ⟨bk, bn⟩, n, off, width, sg, args⟩ := x
  simp only [inCells] at hg
  have fz : ∀ j, w.frozen? ⟨g, j, none⟩ = false := fun j => frozen_of hg j
  have r2 := Lib.cell_of_heap hg 2
  have r3 := Lib.cell_of_heap hg 3
  have r4 := Lib.cell_of_heap hg 4
  have r5 := Lib.cell_of_heap hg 5
  have r6 := Lib.cell_of_heap hg 6
  have r7 := Lib.cell_of_heap hg 7
  have r8 := Lib.cell_of_heap hg 8
  have r9 := Lib.cell_of_heap hg 9
  have r10 := Lib.cell_of_heap hg 10
  have r11 := Lib.cell_of_heap hg 11
  simp only [List.getElem?_toArray, List.getElem?_cons_zero, List.getElem?_cons_succ] at r2 r3 r4 r5 r6 r7 r8 r9 r10 r11
  have HG : Hid (_ = _) := hg
  clear hg
  simp only [letters, List.mem_cons, List.not_mem_nil, or_false] at hc
  rcases hc with rfl | rfl | rfl | rfl | rfl | rfl | rfl | rfl | rfl | rfl
  · have f := fz 2
    clear fz
    go_enter Tryz.func130, Tryz.ntmps130
    go_wp2
    go_end0
    exact ⟨rfl, heap_setCell (j := 2) HG.out _, Turned.setCell (S := fun k => k = g) _ _ _ _ rfl⟩
  · have f := fz 2
    clear fz
    go_enter Tryz.func130, Tryz.ntmps130
    go_wp2
    go_end0
    exact ⟨rfl, heap_setCell (j := 2) HG.out _, Turned.setCell (S := fun k => k = g) _ _ _ _ rfl⟩
  · have f3 := fz 3
    have f4 := fz 4
    have r4b : (w.setCell ⟨g, 3, none⟩ (.int .i64 0)).cell? ⟨g, 4, none⟩ = some (.int .u32 an) := (Lib.cell_of_heap (heap_setCell (j := 3) HG.out _) 4).trans rfl
    have f4b : (w.setCell ⟨g, 3, none⟩ (.int .i64 0)).frozen? ⟨g, 4, none⟩ = false := frozen_of (heap_setCell (j := 3) HG.out _) 4
    have hbz : ∀ Y : World, (Instr.build TAr #[]).run Tryz.prog Y = .ok (.agg #[.int .i64 0, .int .u32 0]) Y := fun Y => by kernel_rfl
    clear fz
    go_enter Tryz.func130, Tryz.ntmps130
    go_wp2
    go_end0
    exact ⟨rfl, heap_setCell (j := 4) (heap_setCell (j := 3) HG.out _) _, (Turned.setCell (S := fun k => k = g) _ _ _ _ rfl).trans (Turned.setCell (S := fun k => k = g) _ _ _ _ rfl) (fun _ _ e => e)⟩
  · have f3 := fz 3
    have f4 := fz 4
    have r4b : (w.setCell ⟨g, 3, none⟩ (.int .i64 0)).cell? ⟨g, 4, none⟩ = some (.int .u32 an) := (Lib.cell_of_heap (heap_setCell (j := 3) HG.out _) 4).trans rfl
    have f4b : (w.setCell ⟨g, 3, none⟩ (.int .i64 0)).frozen? ⟨g, 4, none⟩ = false := frozen_of (heap_setCell (j := 3) HG.out _) 4
    have hbz : ∀ Y : World, (Instr.build TAr #[]).run Tryz.prog Y = .ok (.agg #[.int .i64 0, .int .u32 0]) Y := fun Y => by kernel_rfl
    clear fz
    go_enter Tryz.func130, Tryz.ntmps130
    go_wp2
    go_end0
    exact ⟨rfl, heap_setCell (j := 4) (heap_setCell (j := 3) HG.out _) _, (Turned.setCell (S := fun k => k = g) _ _ _ _ rfl).trans (Turned.setCell (S := fun k => k = g) _ _ _ _ rfl) (fun _ _ e => e)⟩
  · have f3 := fz 5
    have f4 := fz 6
    have r4b : (w.setCell ⟨g, 5, none⟩ (.int .i64 0)).cell? ⟨g, 6, none⟩ = some (.int .u32 bn) := (Lib.cell_of_heap (heap_setCell (j := 5) HG.out _) 6).trans rfl
    have f4b : (w.setCell ⟨g, 5, none⟩ (.int .i64 0)).frozen? ⟨g, 6, none⟩ = false := frozen_of (heap_setCell (j := 5) HG.out _) 6
    have hbz : ∀ Y : World, (Instr.build TAr #[]).run Tryz.prog Y = .ok (.agg #[.int .i64 0, .int .u32 0]) Y := fun Y => by kernel_rfl
    clear fz
    go_enter Tryz.func130, Tryz.ntmps130
    go_wp2
    go_end0
    exact ⟨rfl, heap_setCell (j := 6) (heap_setCell (j := 5) HG.out _) _, (Turned.setCell (S := fun k => k = g) _ _ _ _ rfl).trans (Turned.setCell (S := fun k => k = g) _ _ _ _ rfl) (fun _ _ e => e)⟩
  · have f := fz 7
    clear fz
    go_enter Tryz.func130, Tryz.ntmps130
    go_wp2
    go_end0
    exact ⟨rfl, heap_setCell (j := 7) HG.out _, Turned.setCell (S := fun k => k = g) _ _ _ _ rfl⟩
  · have f := fz 8
    clear fz
    go_enter Tryz.func130, Tryz.ntmps130
    go_wp2
    go_end0
    exact ⟨rfl, heap_setCell (j := 8) HG.out _, Turned.setCell (S := fun k => k = g) _ _ _ _ rfl⟩
  · have f := fz 9
    clear fz
    go_enter Tryz.func130, Tryz.ntmps130
    go_wp2
    go_end0
    exact ⟨rfl, heap_setCell (j := 9) HG.out _, Turned.setCell (S := fun k => k = g) _ _ _ _ rfl⟩
  · have f := fz 10
    clear fz
    go_enter Tryz.func130, Tryz.ntmps130
    go_wp2
    go_end0
    exact ⟨rfl, heap_setCell (j := 10) HG.out _, Turned.setCell (S := fun k => k = g) _ _ _ _ rfl⟩
  · have f := fz 11
    clear fz
    go_enter Tryz.func130, Tryz.ntmps130
    go_wp2
    go_end0
    exact ⟨rfl, heap_setCell (j := 11) HG.out _, Turned.setCell (S := fun k => k = g) _ _ _ _ rfl⟩
end
end Go.Proofs.YtdijnbgcamgjfaaGreatDoor
namespace Go.Proofs.YtdijnbgcamgjfaaGreatDoor
open Go.RowKit Go.Maps
set_option linter.unusedVariables false
set_option maxRecDepth 100000
set_option linter.unusedSimpArgs false
def World.setIter (W : World) (b : Nat) (s : ByteArray) (p : Nat) : World := { W with heap := W.heap.setIfInBounds b (.stringIter s p) }
theorem setIter_at {W : World} {b : Nat} {s : ByteArray} {p : Nat} (hb : b < W.heap.size) : (World.setIter W b s p).heap[b]? = some (.stringIter s p) := by
  simp [World.setIter, Array.getElem?_setIfInBounds, hb]
theorem setIter_turned (W : World) (b : Nat) (s : ByteArray) (p : Nat) : Turned W (World.setIter W b s p) (fun k => k = b) :=
  ⟨rfl, rfl, rfl, by simp [World.setIter], fun k _ hn => by simp only [World.setIter, Array.getElem?_setIfInBounds]; rw [if_neg (fun e => hn e.symm)]⟩
theorem next_at {W : World} {b : Nat} {s : ByteArray} {pos : Nat} (hb : W.heap[b]? = some (.stringIter s pos)) (h : pos < s.size) (ha : (s[pos]'h).toNat < 128) (ty : TypeId) :
    (Instr.next (.pointer (some ⟨b, 0, none⟩)) true ty).run Tryz.prog W = .ok (.tuple #[.bool true, .int .i64 pos, .int .i32 (s[pos]'h).toNat]) (World.setIter W b s (pos + 1)) := by
  simp only [Instr.next, getObj, setObj, Sem.run_bind, Sem.run, hb, Result.andThen, h, if_true, decode_ascii s pos h ha]
  simp [goInt, Sem.run, hb, World.setIter, lt_of_heap hb]
theorem next_end {W : World} {b : Nat} {s : ByteArray} {pos : Nat} (hb : W.heap[b]? = some (.stringIter s pos)) (h : ¬ pos < s.size) (ty : TypeId) :
    (Instr.next (.pointer (some ⟨b, 0, none⟩)) true ty).run Tryz.prog W = .ok (.tuple #[.bool false]) W := by
  simp [Instr.next, getObj, Sem.run, hb, h]
/-- An instruction with so many fields taken out. -/
def clrS : List Nat → In × Value → In × Value
  | [], p => p
  | c :: l, p => clrS l (clrI c p.1 p.2)
theorem clrS_snoc : ∀ (l : List Nat) (c : Nat) (p : In × Value), clrS (l ++ [c]) p = clrI c (clrS l p).1 (clrS l p).2
  | [], c, p => rfl
  | a :: l, c, p => clrS_snoc l c _
theorem clrI_sl (c : Nat) (x : In) (sp : Option Addr) (sn sc : Nat) : ∃ sp' sn' sc', (clrI c x (.slice sp sn sc)).2 = .slice sp' sn' sc' ∧ (sn = x.args.length → sn' = (clrI c x (.slice sp sn sc)).1.args.length) := by
  unfold clrI
  repeat' split
  all_goals first
    | exact ⟨_, _, _, rfl, fun h => h⟩
    | exact ⟨none, 0, 0, rfl, fun _ => rfl⟩
theorem clrS_sl : ∀ (l : List Nat) (x : In) (sp : Option Addr) (sn sc : Nat), ∃ sp' sn' sc', (clrS l (x, .slice sp sn sc)).2 = .slice sp' sn' sc' ∧ (sn = x.args.length → sn' = (clrS l (x, .slice sp sn sc)).1.args.length)
  | [], x, sp, sn, sc => ⟨sp, sn, sc, rfl, fun h => h⟩
  | c :: l, x, sp, sn, sc => by
    obtain ⟨sp', sn', sc', h, hn⟩ := clrI_sl c x sp sn sc
    obtain ⟨a, b, d, h2, hn2⟩ := clrS_sl l (clrI c x (.slice sp sn sc)).1 sp' sn' sc'
    show ∃ a b d, (clrS l (clrI c x (.slice sp sn sc))).2 = _ ∧ _
    have e : clrI c x (.slice sp sn sc) = ((clrI c x (.slice sp sn sc)).1, .slice sp' sn' sc') := Prod.ext rfl h
    refine ⟨a, b, d, ?_, fun hh => ?_⟩
    · rw [e]; exact h2
    · show b = (clrS l (clrI c x (.slice sp sn sc))).1.args.length
      rw [e]; exact hn2 (hn hh)
theorem clrS_op : ∀ (l : List Nat) (p : In × Value), (clrS l p).1.op = p.1.op
  | [], p => rfl
  | c :: l, p => by
    show (clrS l (clrI c p.1 p.2)).1.op = _
    rw [clrS_op l]
    unfold clrI
    repeat' split
    all_goals rfl
def fieldTab : List (List Nat) := [[], [68, 65], [68, 65, 66], [68, 78, 79], [68, 78, 79], [68, 65, 79, 87, 83], [65, 79, 66, 87], [65, 66, 79, 87], [84, 78, 76], [82], [78], [65, 78], [65], [68], [65]]
def bytesOf (l : List Nat) : ByteArray := ⟨(l.map fun c => UInt8.ofNat c).toArray⟩
/-- The table of forms lies in its block. -/
def FormsIn (w : World) : Prop := ∀ i l, fieldTab[i]? = some l → w.cell? ⟨0, i * 2 + 1, none⟩ = some (.string (bytesOf l))
theorem fieldTab_ok : ∀ l ∈ fieldTab, (∀ c ∈ l, c ∈ letters) ∧ ∀ k (h : k < (bytesOf l).size), k < l.length ∧ ((bytesOf l)[k]'h).toNat = l.getD k 0 := by
  decide +kernel
end Go.Proofs.YtdijnbgcamgjfaaGreatDoor
