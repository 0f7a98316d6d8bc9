/-
  bare of package tac: the walk.
  Fields taken out of an instruction: clearField of package tac.
  What a row does not name is zero: bare of package tac.
-/
import Derived.Test.YtaaphipbkpjkjaaGreatDoorKD
import Derived.Laws.RangeString
import Derived.Deep.CutBlock
import Derived.Laws.RangeAny
namespace Go.Proofs.YtaaphipbkpjkjaaGreatDoor
open Go.RowKit Go.Maps
set_option linter.unusedVariables false
set_option maxRecDepth 100000
section
variable {w : World}
/-- An instruction's cells with one field taken out. -/
def clrI (c : Nat) (x : In) (s : Value) : In × Value :=
  if c = 68 ∨ c = 84 then ({ x with d := -1 }, s) else if c = 65 ∨ c = 82 then ({ x with a := ⟨0, 0⟩ }, s) else if c = 66 then ({ x with b := ⟨0, 0⟩ }, s) else if c = 78 then ({ x with n := 0 }, s)
  else if c = 79 then ({ x with off := 0 }, s) else if c = 87 then ({ x with width := 0 }, s) else if c = 83 then ({ x with sg := false }, s) else ({ x with args := [] }, .slice none 0 0)
def letters : List Nat := [68, 84, 65, 82, 66, 78, 79, 87, 83, 76]
set_option maxHeartbeats 8000000 in
theorem clear_c {g : Nat} {x : In} {sp : Option Addr} {sn sc : Nat} (hg : w.heap[g]? = some (.cells (inCells x (.slice sp sn sc)).toArray TIn (0, 0))) (c : Nat) (hc : c ∈ letters) :
    Calls Tryz.prog 130 #[.pointer (some ⟨g, 0, none⟩), .int .i32 (c : Int)] w fun e w' => e = .returned (.tuple #[]) ∧ w'.heap[g]? = some (.cells (inCells (clrI c x (.slice sp sn sc)).1 (clrI c x (.slice sp sn sc)).2).toArray TIn (0, 0)) ∧ Turned w w' (fun k => k = g) := by
  obtain ⟨op, bin, d, ⟨ak, an⟩, ⟨bk, bn⟩, n, off, width, sg, args⟩ := x
  simp only [inCells] at hg
  have fz : ∀ j, w.frozen? ⟨g, j, none⟩ = false := fun j => frozen_of hg j
  have r2 := Lib.cell_of_heap hg 2
  have r3 := Lib.cell_of_heap hg 3
  have r4 := Lib.cell_of_heap hg 4
  have r5 := Lib.cell_of_heap hg 5
  have r6 := Lib.cell_of_heap hg 6
  have r7 := Lib.cell_of_heap hg 7
  have r8 := Lib.cell_of_heap hg 8
  have r9 := Lib.cell_of_heap hg 9
  have r10 := Lib.cell_of_heap hg 10
  have r11 := Lib.cell_of_heap hg 11
  simp only [List.getElem?_toArray, List.getElem?_cons_zero, List.getElem?_cons_succ] at r2 r3 r4 r5 r6 r7 r8 r9 r10 r11
  have HG : Hid (_ = _) := hg
  clear hg
  simp only [letters, List.mem_cons, List.not_mem_nil, or_false] at hc
  rcases hc with rfl | rfl | rfl | rfl | rfl | rfl | rfl | rfl | rfl | rfl
  · have f := fz 2
    clear fz
    go_enter Tryz.func130, Tryz.ntmps130
    go_wp2
    go_end0
    exact ⟨rfl, heap_setCell (j := 2) HG.out _, Turned.setCell (S := fun k => k = g) _ _ _ _ rfl⟩
  · have f := fz 2
    clear fz
    go_enter Tryz.func130, Tryz.ntmps130
    go_wp2
    go_end0
    exact ⟨rfl, heap_setCell (j := 2) HG.out _, Turned.setCell (S := fun k => k = g) _ _ _ _ rfl⟩
  · have f3 := fz 3
    have f4 := fz 4
    have r4b : (w.setCell ⟨g, 3, none⟩ (.int .i64 0)).cell? ⟨g, 4, none⟩ = some (.int .u32 an) := (Lib.cell_of_heap (heap_setCell (j := 3) HG.out _) 4).trans rfl
    have f4b : (w.setCell ⟨g, 3, none⟩ (.int .i64 0)).frozen? ⟨g, 4, none⟩ = false := frozen_of (heap_setCell (j := 3) HG.out _) 4
    have hbz : ∀ Y : World, (Instr.build TAr #[]).run Tryz.prog Y = .ok (.agg #[.int .i64 0, .int .u32 0]) Y := fun Y => by kernel_rfl
    clear fz
    go_enter Tryz.func130, Tryz.ntmps130
    go_wp2
    go_end0
    exact ⟨rfl, heap_setCell (j := 4) (heap_setCell (j := 3) HG.out _) _, (Turned.setCell (S := fun k => k = g) _ _ _ _ rfl).trans (Turned.setCell (S := fun k => k = g) _ _ _ _ rfl) (fun _ _ e => e)⟩
  · have f3 := fz 3
    have f4 := fz 4
    have r4b : (w.setCell ⟨g, 3, none⟩ (.int .i64 0)).cell? ⟨g, 4, none⟩ = some (.int .u32 an) := (Lib.cell_of_heap (heap_setCell (j := 3) HG.out _) 4).trans rfl
    have f4b : (w.setCell ⟨g, 3, none⟩ (.int .i64 0)).frozen? ⟨g, 4, none⟩ = false := frozen_of (heap_setCell (j := 3) HG.out _) 4
    have hbz : ∀ Y : World, (Instr.build TAr #[]).run Tryz.prog Y = .ok (.agg #[.int .i64 0, .int .u32 0]) Y := fun Y => by kernel_rfl
    clear fz
    go_enter Tryz.func130, Tryz.ntmps130
    go_wp2
    go_end0
    exact ⟨rfl, heap_setCell (j := 4) (heap_setCell (j := 3) HG.out _) _, (Turned.setCell (S := fun k => k = g) _ _ _ _ rfl).trans (Turned.setCell (S := fun k => k = g) _ _ _ _ rfl) (fun _ _ e => e)⟩
  · have f3 := fz 5
    have f4 := fz 6
    have r4b : (w.setCell ⟨g, 5, none⟩ (.int .i64 0)).cell? ⟨g, 6, none⟩ = some (.int .u32 bn) := (Lib.cell_of_heap (heap_setCell (j := 5) HG.out _) 6).trans rfl
    have f4b : (w.setCell ⟨g, 5, none⟩ (.int .i64 0)).frozen? ⟨g, 6, none⟩ = false := frozen_of (heap_setCell (j := 5) HG.out _) 6
    have hbz : ∀ Y : World, (Instr.build TAr #[]).run Tryz.prog Y = .ok (.agg #[.int .i64 0, .int .u32 0]) Y := fun Y => by kernel_rfl
    clear fz
    go_enter Tryz.func130, Tryz.ntmps130
    go_wp2
    go_end0
    exact ⟨rfl, heap_setCell (j := 6) (heap_setCell (j := 5) HG.out _) _, (Turned.setCell (S := fun k => k = g) _ _ _ _ rfl).trans (Turned.setCell (S := fun k => k = g) _ _ _ _ rfl) (fun _ _ e => e)⟩
  · have f := fz 7
    clear fz
    go_enter Tryz.func130, Tryz.ntmps130
    go_wp2
    go_end0
    exact ⟨rfl, heap_setCell (j := 7) HG.out _, Turned.setCell (S := fun k => k = g) _ _ _ _ rfl⟩
  · have f := fz 8
    clear fz
    go_enter Tryz.func130, Tryz.ntmps130
    go_wp2
    go_end0
    exact ⟨rfl, heap_setCell (j := 8) HG.out _, Turned.setCell (S := fun k => k = g) _ _ _ _ rfl⟩
  · have f := fz 9
    clear fz
    go_enter Tryz.func130, Tryz.ntmps130
    go_wp2
    go_end0
    exact ⟨rfl, heap_setCell (j := 9) HG.out _, Turned.setCell (S := fun k => k = g) _ _ _ _ rfl⟩
  · have f := fz 10
    clear fz
    go_enter Tryz.func130, Tryz.ntmps130
    go_wp2
    go_end0
    exact ⟨rfl, heap_setCell (j := 10) HG.out _, Turned.setCell (S := fun k => k = g) _ _ _ _ rfl⟩
  · have f := fz 11
    clear fz
    go_enter Tryz.func130, Tryz.ntmps130
    go_wp2
    go_end0
    exact ⟨rfl, heap_setCell (j := 11) HG.out _, Turned.setCell (S := fun k => k = g) _ _ _ _ rfl⟩
end
end Go.Proofs.YtaaphipbkpjkjaaGreatDoor
namespace Go.Proofs.YtaaphipbkpjkjaaGreatDoor
open Go.RowKit Go.Maps
set_option linter.unusedVariables false
set_option maxRecDepth 100000
set_option linter.unusedSimpArgs false
def World.setIter (W : World) (b : Nat) (s : ByteArray) (p : Nat) : World := { W with heap := W.heap.setIfInBounds b (.stringIter s p) }
theorem setIter_at {W : World} {b : Nat} {s : ByteArray} {p : Nat} (hb : b < W.heap.size) : (World.setIter W b s p).heap[b]? = some (.stringIter s p) := by
  simp [World.setIter, Array.getElem?_setIfInBounds, hb]
theorem setIter_turned (W : World) (b : Nat) (s : ByteArray) (p : Nat) : Turned W (World.setIter W b s p) (fun k => k = b) :=
  ⟨rfl, rfl, rfl, by simp [World.setIter], fun k _ hn => by simp only [World.setIter, Array.getElem?_setIfInBounds]; rw [if_neg (fun e => hn e.symm)]⟩
theorem next_at {W : World} {b : Nat} {s : ByteArray} {pos : Nat} (hb : W.heap[b]? = some (.stringIter s pos)) (h : pos < s.size) (ha : (s[pos]'h).toNat < 128) (ty : TypeId) :
    (Instr.next (.pointer (some ⟨b, 0, none⟩)) true ty).run Tryz.prog W = .ok (.tuple #[.bool true, .int .i64 pos, .int .i32 (s[pos]'h).toNat]) (World.setIter W b s (pos + 1)) := by
  simp only [Instr.next, getObj, setObj, Sem.run_bind, Sem.run, hb, Result.andThen, h, if_true, decode_ascii s pos h ha]
  simp [goInt, Sem.run, hb, World.setIter, lt_of_heap hb]
theorem next_end {W : World} {b : Nat} {s : ByteArray} {pos : Nat} (hb : W.heap[b]? = some (.stringIter s pos)) (h : ¬ pos < s.size) (ty : TypeId) :
    (Instr.next (.pointer (some ⟨b, 0, none⟩)) true ty).run Tryz.prog W = .ok (.tuple #[.bool false]) W := by
  simp [Instr.next, getObj, Sem.run, hb, h]
/-- An instruction with so many fields taken out. -/
def clrS : List Nat → In × Value → In × Value
  | [], p => p
  | c :: l, p => clrS l (clrI c p.1 p.2)
theorem clrS_snoc : ∀ (l : List Nat) (c : Nat) (p : In × Value), clrS (l ++ [c]) p = clrI c (clrS l p).1 (clrS l p).2
  | [], c, p => rfl
  | a :: l, c, p => clrS_snoc l c _
theorem clrI_sl (c : Nat) (x : In) (sp : Option Addr) (sn sc : Nat) : ∃ sp' sn' sc', (clrI c x (.slice sp sn sc)).2 = .slice sp' sn' sc' ∧ (sn = x.args.length → sn' = (clrI c x (.slice sp sn sc)).1.args.length) := by
  unfold clrI
  repeat' split
  all_goals first
    | exact ⟨_, _, _, rfl, fun h => h⟩
    | exact ⟨none, 0, 0, rfl, fun _ => rfl⟩
theorem clrS_sl : ∀ (l : List Nat) (x : In) (sp : Option Addr) (sn sc : Nat), ∃ sp' sn' sc', (clrS l (x, .slice sp sn sc)).2 = .slice sp' sn' sc' ∧ (sn = x.args.length → sn' = (clrS l (x, .slice sp sn sc)).1.args.length)
  | [], x, sp, sn, sc => ⟨sp, sn, sc, rfl, fun h => h⟩
  | c :: l, x, sp, sn, sc => by
    obtain ⟨sp', sn', sc', h, hn⟩ := clrI_sl c x sp sn sc
    obtain ⟨a, b, d, h2, hn2⟩ := clrS_sl l (clrI c x (.slice sp sn sc)).1 sp' sn' sc'
    show ∃ a b d, (clrS l (clrI c x (.slice sp sn sc))).2 = _ ∧ _
    have e : clrI c x (.slice sp sn sc) = ((clrI c x (.slice sp sn sc)).1, .slice sp' sn' sc') := Prod.ext rfl h
    refine ⟨a, b, d, ?_, fun hh => ?_⟩
    · rw [e]; exact h2
    · show b = (clrS l (clrI c x (.slice sp sn sc))).1.args.length
      rw [e]; exact hn2 (hn hh)
theorem clrS_op : ∀ (l : List Nat) (p : In × Value), (clrS l p).1.op = p.1.op
  | [], p => rfl
  | c :: l, p => by
    show (clrS l (clrI c p.1 p.2)).1.op = _
    rw [clrS_op l]
    unfold clrI
    repeat' split
    all_goals rfl
def fieldTab : List (List Nat) := [[], [68, 65], [68, 65, 66], [68, 78, 79], [68, 78, 79], [68, 65, 79, 87, 83], [65, 79, 66, 87], [65, 66, 79, 87], [84, 78, 76], [82], [78], [65, 78], [65], [68], [65]]
def bytesOf (l : List Nat) : ByteArray := ⟨(l.map fun c => UInt8.ofNat c).toArray⟩
/-- The table of forms lies in its block. -/
def FormsIn (w : World) : Prop := ∀ i l, fieldTab[i]? = some l → w.cell? ⟨0, i * 2 + 1, none⟩ = some (.string (bytesOf l))
theorem fieldTab_ok : ∀ l ∈ fieldTab, (∀ c ∈ l, c ∈ letters) ∧ ∀ k (h : k < (bytesOf l).size), k < l.length ∧ ((bytesOf l)[k]'h).toNat = l.getD k 0 := by
  decide +kernel
end Go.Proofs.YtaaphipbkpjkjaaGreatDoor
namespace Go.Proofs.YtaaphipbkpjkjaaGreatDoor
open Go.RowKit Go.Maps
set_option linter.unusedVariables false
set_option maxRecDepth 100000
def bareB (y : In) : Bool := y.bin == 0 && (y.d == -1 && ((y.a.kind == 0 && y.a.n == 0) && ((y.b.kind == 0 && y.b.n == 0) && (y.n == 0 && (y.off == 0 && (y.width == 0 && (!y.sg && (y.args.length : Int) == 0)))))))
def bareP (l : List Nat) (x : In) : Bool := bareB (if x.op = 2 then { (clrS l (x, .slice none 0 0)).1 with bin := 0 } else (clrS l (x, .slice none 0 0)).1)
theorem clrI_fst (c : Nat) (x : In) (s s' : Value) : (clrI c x s).1 = (clrI c x s').1 := by
  unfold clrI
  repeat' split
  all_goals rfl
theorem clrS_fst : ∀ (l : List Nat) (x : In) (s s' : Value), (clrS l (x, s)).1 = (clrS l (x, s')).1
  | [], x, s, s' => rfl
  | c :: l, x, s, s' => by
    have h := clrS_fst l (clrI c x s).1 (clrI c x s).2 (clrI c x s').2
    show (clrS l (clrI c x s)).1 = (clrS l (clrI c x s')).1
    have e : clrI c x s' = ((clrI c x s).1, (clrI c x s').2) := Prod.ext (clrI_fst c x s' s) rfl
    rw [e]
    exact h
section
variable {w : World}
set_option maxHeartbeats 16000000 in
theorem bare_c (x : In) (sp : Option Addr) (sc : Nat) {k : Nat} (hk : x.op = k) {l : List Nat} (hl : fieldTab[k]? = some l) (hF : FormsIn w) (hw : 0 < w.heap.size) :
    Calls Tryz.prog 110 #[.agg (inCells x (.slice sp x.args.length sc)).toArray] w fun e w' => e = .returned (.bool (bareP l x)) ∧ Below w.heap.size w w' := by
  have hk15 : k < 15 := (List.getElem?_eq_some_iff.1 hl).1
  obtain ⟨hlet, hbyt⟩ := fieldTab_ok l (List.mem_of_getElem? hl)
  have b1 := below1 w (.cells (inCells x (.slice sp x.args.length sc)).toArray TIn)
  have N1 := heap_r0 w (.cells (inCells x (.slice sp x.args.length sc)).toArray TIn)
  have hz1 : (w.alloc (.cells (inCells x (.slice sp x.args.length sc)).toArray TIn)).heap.size = w.heap.size + 1 := by simp
  have f0 := (b1.cell (p := ⟨0, k * 2 + 1, none⟩) hw).trans (hF k l hl)
  have c0 : (w.alloc (.cells (inCells x (.slice sp x.args.length sc)).toArray TIn)).cell? ⟨w.heap.size, 0, none⟩ = some (.int .i64 (k : Int)) := (Lib.cell_of_heap N1 0).trans (by rw [← hk]; rfl)
  have HN1 : Hid ((w.alloc (.cells (inCells x (.slice sp x.args.length sc)).toArray TIn)).heap[w.heap.size]? = some (.cells (inCells (clrS (l.take 0) (x, .slice sp x.args.length sc)).1 (clrS (l.take 0) (x, .slice sp x.args.length sc)).2).toArray TIn (0, 0))) := N1
  have HB1 : Hid (Below w.heap.size w (w.alloc (.cells (inCells x (.slice sp x.args.length sc)).toArray TIn))) := b1
  have HLET : Hid (∀ c ∈ l, c ∈ letters) := hlet
  have HBYT : Hid (∀ k (h : k < (bytesOf l).size), k < l.length ∧ ((bytesOf l)[k]'h).toNat = l.getD k 0) := hbyt
  have hsz : (bytesOf l).size = l.length := by simp [bytesOf, ByteArray.size]
  obtain ⟨R, hR⟩ : ∃ R, R = bareP l x := ⟨_, rfl⟩
  rw [← hR]
  have HR : Hid (R = bareP l x) := hR
  have HK : Hid (x.op = k) := hk
  clear hk hl hF b1 N1 hlet hbyt hR
  go_enter Tryz.func110, Tryz.ntmps110
  go_upto_region 1 with (fail)
  refine (?_ : Code.wp _ _ _ _ (w.alloc (.cells (inCells x (.slice sp x.args.length sc)).toArray TIn)))
  generalize w.alloc (.cells (inCells x (.slice sp x.args.length sc)).toArray TIn) = W1 at *
  go_wp2
  have hzi : w.heap.size + 1 < (W1.iter (bytesOf l) 0).heap.size := by simp [World.iter]; omega
  have HBI : Hid (Below w.heap.size w (W1.iter (bytesOf l) 0)) := HB1.out.trans ((below1 W1 _).mono HB1.out.size)
  have HI0 : Hid ((W1.iter (bytesOf l) 0).heap[w.heap.size + 1]? = some (.stringIter (bytesOf l) 0)) := by rw [← hz1]; exact World.iter_heap W1 _ 0
  have HN2 : Hid ((W1.iter (bytesOf l) 0).heap[w.heap.size]? = some (.cells (inCells (clrS (l.take 0) (x, .slice sp x.args.length sc)).1 (clrS (l.take 0) (x, .slice sp x.args.length sc)).2).toArray TIn (0, 0))) := blk_b HN1.out (below1 W1 _)
  generalize W1.iter (bytesOf l) 0 = W2 at *
  clear HN1 HB1 c0 f0 hz1
  go_loopw [4] (fun v4 wr => ∃ j : Nat, j ≤ l.length ∧ Hid (wr.heap[w.heap.size + 1]? = some (.stringIter (bytesOf l) j)) ∧ Hid (wr.heap[w.heap.size]? = some (.cells (inCells (clrS (l.take j) (x, .slice sp x.args.length sc)).1 (clrS (l.take j) (x, .slice sp x.args.length sc)).2).toArray TIn (0, 0))) ∧ Hid (Below w.heap.size w wr)) (fun _ wr => l.length - wr.iterPos (w.heap.size + 1))
  case atStart => exact ⟨0, Nat.zero_le _, HI0, HN2, HBI⟩
  case round =>
    obtain ⟨j, hj, HI, HG, HBW⟩ := hrel
    by_cases hlt : j < l.length
    · have hjs : j < (bytesOf l).size := by omega
      obtain ⟨_, hcj⟩ := HBYT.out j hjs
      obtain ⟨c, hc⟩ : ∃ c, l[j]? = some c := ⟨_, List.getElem?_eq_getElem hlt⟩
      have hcd : l.getD j 0 = c := by simp [List.getD, hc]
      have hcl := HLET.out c (List.mem_of_getElem? hc)
      have hc128 : c < 128 := by simp only [letters, List.mem_cons, List.not_mem_nil, or_false] at hcl; omega
      have hnx := next_at HI.out hjs (by rw [hcj, hcd]; exact hc128)
      rw [hcj, hcd] at hnx
      have T1 := setIter_turned wr (w.heap.size + 1) (bytesOf l) (j + 1)
      have I1 := setIter_at (s := bytesOf l) (p := j + 1) (lt_of_heap HI.out)
      have G1 := blk_t HG.out T1 (by omega)
      have B1 : Hid (Below w.heap.size w (World.setIter wr (w.heap.size + 1) (bytesOf l) (j + 1))) := below_turned HBW.out T1 (by omega)
      obtain ⟨sp', sn', sc', hsl, _⟩ := clrS_sl (l.take j) x sp x.args.length sc
      have HSN : Hid (clrS (l.take (j + 1)) (x, .slice sp x.args.length sc) = clrI c (clrS (l.take j) (x, .slice sp x.args.length sc)).1 (.slice sp' sn' sc')) := by
        show _ = _
        rw [List.take_add_one, hc, Option.toList_some, clrS_snoc, hsl]
      rw [hsl] at G1
      have cC := clear_c G1 c hcl
      have HI1 : Hid ((World.setIter wr (w.heap.size + 1) (bytesOf l) (j + 1)).heap[w.heap.size + 1]? = some (.stringIter (bytesOf l) (j + 1))) := I1
      have HP0 : Hid (wr.iterPos (w.heap.size + 1) = j) := by show World.iterPos wr _ = j; unfold World.iterPos; rw [HI.out]
      generalize World.setIter wr (w.heap.size + 1) (bytesOf l) (j + 1) = W5 at *
      clear hcl hc128 hcd hc hcj T1 I1 G1 hsl
      go_wp2_with (first | (go_at_call 130; refine cC.mono ?_; rintro e w6 ⟨rfl, h6, t6⟩; have H6 : Hid (_ = _) := h6; have T6 : Hid (Turned W5 w6 (fun k => k = w.heap.size)) := t6; clear h6 t6 cC) | fail)
      have I6 := blk_t HI1.out T6.out (by omega)
      refine ⟨⟨j + 1, by omega, I6, ?_, below_turned B1.out T6.out (Nat.le_refl _)⟩, ?_⟩
      · rw [HSN.out]; exact H6.out
      · have : w6.iterPos (w.heap.size + 1) = j + 1 := by unfold World.iterPos; rw [I6]
        rw [HP0.out, this]; omega
    · obtain rfl : j = l.length := by omega
      have hnx := next_end HI.out (by omega)
      have HR1 := HR.out
      unfold bareP at HR1
      rw [List.take_length] at HG
      rw [clrS_fst l x (.slice none 0 0) (.slice sp x.args.length sc)] at HR1
      obtain ⟨sp', sn', sc', hsl, hsn⟩ := clrS_sl l x sp x.args.length sc
      have hsn2 := hsn rfl
      clear hsn
      have hop := clrS_op l (x, .slice sp x.args.length sc)
      generalize clrS l (x, .slice sp x.args.length sc) = Y at *
      obtain ⟨⟨op, bin, d, ⟨ak, an⟩, ⟨bk, bn⟩, n, off, wd, sg, args⟩, s'⟩ := Y
      simp only at hsl hsn2 hop HG HR1
      subst hsl
      rw [hsn2] at HG
      clear hsn2
      rw [HK.out] at hop HR1
      subst hop
      have HR3 : Hid (R = _) := HR1
      simp only [inCells] at HG
      have E2 : Hid (∀ Y : World, (binOp .eql TAr (.agg #[.int .i64 ak, .int .u32 an]) (.agg #[.int .i64 0, .int .u32 0])).run Tryz.prog Y = .ok (.bool (ak == 0 && an == 0)) Y) := eqAr ak an
      have E3 : Hid (∀ Y : World, (binOp .eql TAr (.agg #[.int .i64 bk, .int .u32 bn]) (.agg #[.int .i64 0, .int .u32 0])).run Tryz.prog Y = .ok (.bool (bk == 0 && bn == 0)) Y) := eqAr bk bn
      have hbz : ∀ Y : World, (Instr.build TAr #[]).run Tryz.prog Y = .ok (.agg #[.int .i64 0, .int .u32 0]) Y := fun Y => by kernel_rfl
      have nt := not_t
      have nf := not_f
      clear HR HR1 HLET HBYT HK
      by_cases hk2 : k = 2
      · subst hk2
        have HR2 : Hid (R = bareB ⟨(2 : Int), 0, d, ⟨ak, an⟩, ⟨bk, bn⟩, n, off, wd, sg, args⟩) := by show R = _; rw [HR3.out, if_pos (by decide : ((2 : Nat) : Int) = 2)]; rfl
        have k0 := (Lib.cell_of_heap HG.out 0).trans rfl
        have k1 := (Lib.cell_of_heap HG.out 1).trans rfl
        have kf := frozen_of HG.out 1
        have G7 : (wr.setCell ⟨w.heap.size, 1, none⟩ (.int .i64 0)).heap[w.heap.size]? = some (.cells #[.int .i64 2, .int .i64 0, .int .i64 d, .int .i64 ak, .int .u32 an, .int .i64 bk, .int .u32 bn, .int .i64 n, .int .i64 off, .int .i64 wd, .bool sg, .slice sp' args.length sc'] TIn (0, 0)) := heap_setCell (j := 1) HG.out _
        have B7 : Below w.heap.size w (wr.setCell ⟨w.heap.size, 1, none⟩ (.int .i64 0)) := Below.setCell HBW.out (p := ⟨w.heap.size, 1, none⟩) (Nat.le_refl _) _
        have hold := heap_r0 (wr.setCell ⟨w.heap.size, 1, none⟩ (.int .i64 0)) (.cells #[.int .i64 0, .int .u32 0] TAr)
        have NZ := heap_r0 (wr.setCell ⟨w.heap.size, 1, none⟩ (.int .i64 0)) (.cells #[.int .i64 0, .int .u32 0] TAr)
        have hzw : (wr.setCell ⟨w.heap.size, 1, none⟩ (.int .i64 0)).heap.size = wr.heap.size := by simp
        rw [hzw] at NZ
        have bZ := below1 (wr.setCell ⟨w.heap.size, 1, none⟩ (.int .i64 0)) (.cells #[.int .i64 0, .int .u32 0] TAr)
        have GZ := blk_b G7 bZ
        have HBZ : Hid (Below w.heap.size w ((wr.setCell ⟨w.heap.size, 1, none⟩ (.int .i64 0)).alloc (.cells #[.int .i64 0, .int .u32 0] TAr))) := B7.trans (bZ.mono B7.size)
        have z0 := Lib.cell_of_heap NZ 0
        have z1 := Lib.cell_of_heap NZ 1
        have x1 := Lib.cell_of_heap GZ 1
        have x2 := Lib.cell_of_heap GZ 2
        have x3 := Lib.cell_of_heap GZ 3
        have x4 := Lib.cell_of_heap GZ 4
        have x5 := Lib.cell_of_heap GZ 5
        have x6 := Lib.cell_of_heap GZ 6
        have x7 := Lib.cell_of_heap GZ 7
        have x8 := Lib.cell_of_heap GZ 8
        have x9 := Lib.cell_of_heap GZ 9
        have x10 := Lib.cell_of_heap GZ 10
        have x11 := Lib.cell_of_heap GZ 11
        simp only [List.getElem?_toArray, List.getElem?_cons_zero, List.getElem?_cons_succ] at z0 z1 x1 x2 x3 x4 x5 x6 x7 x8 x9 x10 x11
        clear NZ bZ GZ HR3 HBW HG HI G7 B7 hzw
        go_upto_region 8 with (first | ((with_reducible apply step_store hold); rfl; rfl; kernel_rfl; rfl; kernel_rfl; rw [World.setRow_alloc_new]) | fail)
        generalize (wr.setCell ⟨w.heap.size, 1, none⟩ (.int .i64 0)).alloc (.cells #[.int .i64 0, .int .u32 0] TAr) = W8 at *
        clear hnx hold k0 k1 kf
        cases h1 : (d == -1) with
        | false =>
          have HV : Hid (R = false) := by show R = _; rw [HR2.out]; unfold bareB; simp only [h1]; try rfl
          go_wp2
          go_ret
          exact ⟨by rw [HV.out]; rfl, HBZ.out⟩
        | true =>
          cases h2 : (ak == 0 && an == 0) with
          | false =>
            have e2 := E2.out
            rw [h2] at e2
            have HV : Hid (R = false) := by show R = _; rw [HR2.out]; unfold bareB; simp only [h1, h2]; try rfl
            go_wp2
            go_ret
            exact ⟨by rw [HV.out]; rfl, HBZ.out⟩
          | true =>
            cases h3 : (bk == 0 && bn == 0) with
            | false =>
              have e2 := E2.out
              rw [h2] at e2
              have e3 := E3.out
              rw [h3] at e3
              have HV : Hid (R = false) := by show R = _; rw [HR2.out]; unfold bareB; simp only [h1, h2, h3]; try rfl
              go_wp2
              go_ret
              exact ⟨by rw [HV.out]; rfl, HBZ.out⟩
            | true =>
              cases h4 : (n == 0) with
              | false =>
                have e2 := E2.out
                rw [h2] at e2
                have e3 := E3.out
                rw [h3] at e3
                have HV : Hid (R = false) := by show R = _; rw [HR2.out]; unfold bareB; simp only [h1, h2, h3, h4]; try rfl
                go_wp2
                go_ret
                exact ⟨by rw [HV.out]; rfl, HBZ.out⟩
              | true =>
                cases h5 : (off == 0) with
                | false =>
                  have e2 := E2.out
                  rw [h2] at e2
                  have e3 := E3.out
                  rw [h3] at e3
                  have HV : Hid (R = false) := by show R = _; rw [HR2.out]; unfold bareB; simp only [h1, h2, h3, h4, h5]; try rfl
                  go_wp2
                  go_ret
                  exact ⟨by rw [HV.out]; rfl, HBZ.out⟩
                | true =>
                  cases h6 : (wd == 0) with
                  | false =>
                    have e2 := E2.out
                    rw [h2] at e2
                    have e3 := E3.out
                    rw [h3] at e3
                    have HV : Hid (R = false) := by show R = _; rw [HR2.out]; unfold bareB; simp only [h1, h2, h3, h4, h5, h6]; try rfl
                    go_wp2
                    go_ret
                    exact ⟨by rw [HV.out]; rfl, HBZ.out⟩
                  | true =>
                    cases h7 : (!sg) with
                    | false =>
                      have e2 := E2.out
                      rw [h2] at e2
                      have e3 := E3.out
                      rw [h3] at e3
                      have HV : Hid (R = false) := by show R = _; rw [HR2.out]; unfold bareB; simp only [h1, h2, h3, h4, h5, h6, h7]; try rfl
                      go_wp2
                      go_ret
                      exact ⟨by rw [HV.out]; rfl, HBZ.out⟩
                    | true =>
                      cases h8 : ((args.length : Int) == 0) with
                      | false =>
                        have e2 := E2.out
                        rw [h2] at e2
                        have e3 := E3.out
                        rw [h3] at e3
                        have HV : Hid (R = false) := by show R = _; rw [HR2.out]; unfold bareB; simp only [h1, h2, h3, h4, h5, h6, h7, h8]; try rfl
                        go_wp2
                        go_ret
                        exact ⟨by rw [HV.out]; rfl, HBZ.out⟩
                      | true =>
                        have e2 := E2.out
                        rw [h2] at e2
                        have e3 := E3.out
                        rw [h3] at e3
                        have HV : Hid (R = true) := by show R = _; rw [HR2.out]; unfold bareB; simp only [h1, h2, h3, h4, h5, h6, h7, h8]; try rfl
                        go_wp2
                        go_ret
                        exact ⟨by rw [HV.out]; rfl, HBZ.out⟩
      · have hq2 : ((k : Int) == 2) = false := by simp; omega
        have HR2 : Hid (R = bareB ⟨(k : Int), bin, d, ⟨ak, an⟩, ⟨bk, bn⟩, n, off, wd, sg, args⟩) := by show R = _; rw [HR3.out, if_neg (by omega)]
        have k0 := (Lib.cell_of_heap HG.out 0).trans rfl
        have hold := heap_r0 wr (.cells #[.int .i64 0, .int .u32 0] TAr)
        have NZ := heap_r0 wr (.cells #[.int .i64 0, .int .u32 0] TAr)
        have bZ := below1 wr (.cells #[.int .i64 0, .int .u32 0] TAr)
        have GZ := blk_b HG.out bZ
        have HBZ : Hid (Below w.heap.size w (wr.alloc (.cells #[.int .i64 0, .int .u32 0] TAr))) := HBW.out.trans (bZ.mono HBW.out.size)
        have z0 := Lib.cell_of_heap NZ 0
        have z1 := Lib.cell_of_heap NZ 1
        have x1 := Lib.cell_of_heap GZ 1
        have x2 := Lib.cell_of_heap GZ 2
        have x3 := Lib.cell_of_heap GZ 3
        have x4 := Lib.cell_of_heap GZ 4
        have x5 := Lib.cell_of_heap GZ 5
        have x6 := Lib.cell_of_heap GZ 6
        have x7 := Lib.cell_of_heap GZ 7
        have x8 := Lib.cell_of_heap GZ 8
        have x9 := Lib.cell_of_heap GZ 9
        have x10 := Lib.cell_of_heap GZ 10
        have x11 := Lib.cell_of_heap GZ 11
        simp only [List.getElem?_toArray, List.getElem?_cons_zero, List.getElem?_cons_succ] at z0 z1 x1 x2 x3 x4 x5 x6 x7 x8 x9 x10 x11
        clear NZ bZ GZ HR3 HBW HG HI
        go_upto_region 8 with (first | ((with_reducible apply step_store hold); rfl; rfl; kernel_rfl; rfl; kernel_rfl; rw [World.setRow_alloc_new]) | fail)
        generalize wr.alloc (.cells #[.int .i64 0, .int .u32 0] TAr) = W8 at *
        clear hnx hold k0
        cases h0 : (bin == 0) with
        | false =>
          have HV : Hid (R = false) := by show R = _; rw [HR2.out]; unfold bareB; simp only [h0]; try rfl
          go_wp2
          go_ret
          exact ⟨by rw [HV.out]; rfl, HBZ.out⟩
        | true =>
          cases h1 : (d == -1) with
          | false =>
            have HV : Hid (R = false) := by show R = _; rw [HR2.out]; unfold bareB; simp only [h0, h1]; try rfl
            go_wp2
            go_ret
            exact ⟨by rw [HV.out]; rfl, HBZ.out⟩
          | true =>
            cases h2 : (ak == 0 && an == 0) with
            | false =>
              have e2 := E2.out
              rw [h2] at e2
              have HV : Hid (R = false) := by show R = _; rw [HR2.out]; unfold bareB; simp only [h0, h1, h2]; try rfl
              go_wp2
              go_ret
              exact ⟨by rw [HV.out]; rfl, HBZ.out⟩
            | true =>
              cases h3 : (bk == 0 && bn == 0) with
              | false =>
                have e2 := E2.out
                rw [h2] at e2
                have e3 := E3.out
                rw [h3] at e3
                have HV : Hid (R = false) := by show R = _; rw [HR2.out]; unfold bareB; simp only [h0, h1, h2, h3]; try rfl
                go_wp2
                go_ret
                exact ⟨by rw [HV.out]; rfl, HBZ.out⟩
              | true =>
                cases h4 : (n == 0) with
                | false =>
                  have e2 := E2.out
                  rw [h2] at e2
                  have e3 := E3.out
                  rw [h3] at e3
                  have HV : Hid (R = false) := by show R = _; rw [HR2.out]; unfold bareB; simp only [h0, h1, h2, h3, h4]; try rfl
                  go_wp2
                  go_ret
                  exact ⟨by rw [HV.out]; rfl, HBZ.out⟩
                | true =>
                  cases h5 : (off == 0) with
                  | false =>
                    have e2 := E2.out
                    rw [h2] at e2
                    have e3 := E3.out
                    rw [h3] at e3
                    have HV : Hid (R = false) := by show R = _; rw [HR2.out]; unfold bareB; simp only [h0, h1, h2, h3, h4, h5]; try rfl
                    go_wp2
                    go_ret
                    exact ⟨by rw [HV.out]; rfl, HBZ.out⟩
                  | true =>
                    cases h6 : (wd == 0) with
                    | false =>
                      have e2 := E2.out
                      rw [h2] at e2
                      have e3 := E3.out
                      rw [h3] at e3
                      have HV : Hid (R = false) := by show R = _; rw [HR2.out]; unfold bareB; simp only [h0, h1, h2, h3, h4, h5, h6]; try rfl
                      go_wp2
                      go_ret
                      exact ⟨by rw [HV.out]; rfl, HBZ.out⟩
                    | true =>
                      cases h7 : (!sg) with
                      | false =>
                        have e2 := E2.out
                        rw [h2] at e2
                        have e3 := E3.out
                        rw [h3] at e3
                        have HV : Hid (R = false) := by show R = _; rw [HR2.out]; unfold bareB; simp only [h0, h1, h2, h3, h4, h5, h6, h7]; try rfl
                        go_wp2
                        go_ret
                        exact ⟨by rw [HV.out]; rfl, HBZ.out⟩
                      | true =>
                        cases h8 : ((args.length : Int) == 0) with
                        | false =>
                          have e2 := E2.out
                          rw [h2] at e2
                          have e3 := E3.out
                          rw [h3] at e3
                          have HV : Hid (R = false) := by show R = _; rw [HR2.out]; unfold bareB; simp only [h0, h1, h2, h3, h4, h5, h6, h7, h8]; try rfl
                          go_wp2
                          go_ret
                          exact ⟨by rw [HV.out]; rfl, HBZ.out⟩
                        | true =>
                          have e2 := E2.out
                          rw [h2] at e2
                          have e3 := E3.out
                          rw [h3] at e3
                          have HV : Hid (R = true) := by show R = _; rw [HR2.out]; unfold bareB; simp only [h0, h1, h2, h3, h4, h5, h6, h7, h8]; try rfl
                          go_wp2
                          go_ret
                          exact ⟨by rw [HV.out]; rfl, HBZ.out⟩
end
end Go.Proofs.YtaaphipbkpjkjaaGreatDoor
