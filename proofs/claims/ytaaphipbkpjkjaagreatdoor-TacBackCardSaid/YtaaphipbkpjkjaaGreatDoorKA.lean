/-
  Where code goes on: slices.IndexFunc, DeleteFunc and Compact at rows of at most two numbers, ways and Next of package tac.
  What is used everywhere: blocks that stay where others turn, rows that a call owns, cells of new blocks.
  Instructions as they lie in memory; the small questions of package tac and of the given answer: within, isNumber, isWidth, roomHolds, Writes.
-/
import Derived.Test.YtaaphipbkpjkjaaGreatDoorChecked
import Derived.Deep.QuietTactic
import Derived.BigQuiet
import Derived.LoopN
import Derived.Below
import Derived.WalkKit
import Derived.Laws.CopyOwn
import Derived.Deep.WholeRow
import Derived.Maps.OwnOps
import Derived.Maps.AppendAt
import Derived.OwnWalk
import Derived.DeepKeys5
import Derived.Lib.Builder
import Derived.Lib.SliceRun
namespace Go.Proofs.YtaaphipbkpjkjaaGreatDoor
open Go.RowKit Go.Maps
set_option linter.unusedVariables false
set_option maxRecDepth 100000
structure Turned (w w' : World) (S : Nat → Prop) : Prop where
  os : w'.os = w.os
  tape : w'.tape = w.tape
  output : w'.output = w.output
  size : w.heap.size ≤ w'.heap.size
  block : ∀ k, k < w.heap.size → ¬ S k → w'.heap[k]? = w.heap[k]?
theorem Turned.refl (w : World) (S : Nat → Prop) : Turned w w S := ⟨rfl, rfl, rfl, Nat.le_refl _, fun _ _ _ => rfl⟩
theorem Turned.trans {a b c : World} {S S' : Nat → Prop} (h : Turned a b S) (k : Turned b c S') (hS : ∀ i, i < a.heap.size → S' i → S i) : Turned a c S :=
  ⟨k.os.trans h.os, k.tape.trans h.tape, k.output.trans h.output, Nat.le_trans h.size k.size, fun i hi hn => (k.block i (Nat.lt_of_lt_of_le hi h.size) (fun s => hn (hS i hi s))).trans (h.block i hi hn)⟩
theorem Turned.of_below {w w' : World} (h : Below w.heap.size w w') (S : Nat → Prop) : Turned w w' S := ⟨h.os, h.tape, h.output, h.size, fun k hk _ => h.block k hk⟩
theorem Turned.of_grown {w w' : World} {row : Option Nat} (h : w.grownBy w' row) {S : Nat → Prop} (hS : ∀ k, row = some k → S k) : Turned w w' S :=
  ⟨h.os, h.tape, h.output, h.size, fun k hk hn => h.block k hk (fun e => hn (hS k e.symm))⟩
theorem Turned.alloc (w : World) (o : Obj) (S : Nat → Prop) : Turned w (w.alloc o) S := .of_below ((Below.refl _ w).alloc (Nat.le_refl _) o) S
theorem Turned.setRow (w : World) (g : Nat) (cs : Array Value) {S : Nat → Prop} (hS : S g) : Turned w (w.setRow g cs) S :=
  ⟨rfl, rfl, rfl, by simp, fun k _ hn => setRow_other w g k cs (fun e => hn (e ▸ hS))⟩
theorem Turned.mono {w w' : World} {S S' : Nat → Prop} (h : Turned w w' S) (hS : ∀ k, S k → S' k) : Turned w w' S' := ⟨h.os, h.tape, h.output, h.size, fun k hk hn => h.block k hk (fun s => hn (hS k s))⟩
theorem lt_of_heap {w : World} {g : Nat} {o : Obj} (h : w.heap[g]? = some o) : g < w.heap.size := by
  rcases Nat.lt_or_ge g w.heap.size with h' | h'
  · exact h'
  · simp [h'] at h
theorem heap_r0 (w : World) (A : Obj) : (w.alloc A).heap[w.heap.size]? = some A := by
  show (w.heap.push A)[w.heap.size]? = some A
  simp
theorem cells_new (w : World) (cs : Array Value) (t : TypeId) : ∀ j u, cs.toList[j]? = some u → (w.alloc (.cells cs t)).cell? ((⟨w.heap.size, 0, none⟩ : Addr).add j) = some u := by
  intro j u hj
  have e : ((⟨w.heap.size, 0, none⟩ : Addr).add j) = ⟨w.heap.size, j, none⟩ := by
    simp [Addr.add]; rintro rfl; rfl
  rw [e, Lib.cell_of_heap (heap_r0 w _)]
  simpa using hj
theorem frozen_of {w : World} {g : Nat} {cs : Array Value} {t : TypeId} (h : w.heap[g]? = some (.cells cs t (0, 0))) (j : Nat) : w.frozen? ⟨g, j, none⟩ = false := by simp [World.frozen?, h]
theorem heap_setCell {w : World} {g j : Nat} {cs : Array Value} {t : TypeId} {fr : Nat × Nat} (h : w.heap[g]? = some (.cells cs t fr)) (x : Value) : (w.setCell ⟨g, j, none⟩ x).heap[g]? = some (.cells (cs.setIfInBounds j x) t fr) := by
  rw [setCell_eq_setRow w g j cs t fr x h]; exact setRow_heap _ _ _ _ _ _ h
theorem Turned.setCell (w : World) (g j : Nat) (x : Value) {S : Nat → Prop} (hS : S g) : Turned w (w.setCell ⟨g, j, none⟩ x) S :=
  ⟨rfl, rfl, rfl, by simp, fun k _ hn => heap_setCell_other w ⟨g, j, none⟩ k x (fun e => hn (e ▸ hS))⟩
theorem ownsRow_turned {w w' : World} {S : Nat → Prop} {base : Nat} {e : TypeId} {size n : Nat} {v : Value} {xs : List Value} (h : w.ownsRow base e size v n xs) (ht : Turned w w' S) (hS : ∀ k, v.ownBlock = some k → ¬ S k) :
    w'.ownsRow base e size v n xs := by
  obtain ⟨h1, h2 | ⟨g, cap, cur, rfl, hb, hg, r⟩⟩ := h
  · exact ⟨h1, Or.inl h2⟩
  · refine ⟨h1, Or.inr ⟨g, cap, cur, rfl, hb, ?_, r⟩⟩
    have hlt : g < w.heap.size := by
      rcases Nat.lt_or_ge g w.heap.size with h | h
      · exact h
      · simp [h] at hg
    rw [ht.block g hlt (hS g rfl)]; exact hg
theorem ownsRow_base {w : World} {base base' : Nat} {e : TypeId} {size n : Nat} {v : Value} {xs : List Value} (h : w.ownsRow base e size v n xs) (hb : base' ≤ base) : w.ownsRow base' e size v n xs := by
  obtain ⟨h1, h2 | ⟨g, cap, cur, rfl, hb0, r⟩⟩ := h
  · exact ⟨h1, Or.inl h2⟩
  · exact ⟨h1, Or.inr ⟨g, cap, cur, rfl, Nat.le_trans hb hb0, r⟩⟩
theorem ownsRow_at {w : World} {base : Nat} {e : TypeId} {size n : Nat} {v : Value} {xs : List Value} (h : w.ownsRow base e size v n xs) {g : Nat} (hg : v.ownBlock = some g) : base ≤ g ∧ ∃ cur, w.heap[g]? = some (.cells cur e (0, 0)) := by
  obtain ⟨h1, ⟨rfl, _⟩ | ⟨g', cap, cur, rfl, hb, hg', r⟩⟩ := h
  · cases hg
  · cases hg; exact ⟨hb, cur, hg'⟩
theorem step_store {P : Program} {t ty : TypeId} {p x : Operand} {pos : String} {af : Array Edge} {ops : Array Oper} {rest : List Oper} {tmps : Array Value} {w : World} {Q : Exit → Act → World → Prop} {g : Nat} {old cells : Array Value}
    (hg : w.heap[g]? = some (.cells old t (0, 0))) (hp : Act.eval ⟨tmps, []⟩ p = .pointer (some ⟨g, 0, none⟩)) (hx : Act.eval ⟨tmps, []⟩ x = .agg cells) (hi : (P.info? t).map (·.size) = some cells.size) (ho : old.size = cells.size)
    (h1 : cells.all (·.oneCell') = true) (k : wpList P ops Q rest ⟨tmps, []⟩ (w.setRow g cells)) : wpList P ops Q ({ dst := none, op := Op.store t p x, type := ty, pos := pos, after := af, guard := none } :: rest) ⟨tmps, []⟩ w :=
  wpList_plain rfl fun K hK => wp_store_row t p x rfl g cells hp hx t old hg hi ho h1 (hK _ _ k)
theorem not_f (W : World) : (Op.unary UnOp.not (.bool false)).run Tryz.prog W = .ok (.bool true) W := rfl
theorem not_t (W : World) : (Op.unary UnOp.not (.bool true)).run Tryz.prog W = .ok (.bool false) W := rfl
theorem slice_of_own {w : World} {base : Nat} {e : TypeId} {size n : Nat} {v : Value} {xs : List Value} (h : w.ownsRow base e size v n xs) : ∃ p cap, v = .slice p n cap := by
  obtain ⟨_, ⟨rfl, rfl⟩ | ⟨g, cap, cur, rfl, _⟩⟩ := h
  · exact ⟨_, _, rfl⟩
  · exact ⟨_, _, rfl⟩
theorem step_append_own_at {P : Program} {ops : Array Oper} {o : Oper} {a : Act} {w : World} {K : Act → World → Prop} {Q : Exit → Act → World → Prop} {E : Prop} (hgd : o.guard = none) (s x : Operand) (t : TypeId)
    (ho : o.op = .call { callee := .builtin .append, args := #[s, x], argTypes := #[t, t] })
    (base : Nat) (e : TypeId) (i : TypeInfo) (z : Value) (size bytes : Nat) (ht : P.underlying t = some (.slice e)) (hi : P.info? e = some i) (hz : i.zero = some z)
    (hsize : i.size = size) (hby : i.bytes = bytes) (hzs : z.cells.size = size) (hsz : 0 < size)
    (v : Value) (n : Nat) (xs : List Value) (hs : a.eval s = v) (hown : w.ownsRow base e size v n xs)
    (ad : Addr) (m c : Nat) (news : List Value) (hx : a.eval x = .slice (some ad) m c) (hl : news.length = m * size) (hnews : ∀ j u, news[j]? = some u → w.cell? (ad.add j) = some u) (h1 : ∀ u ∈ news, u.oneCell' = true)
    (h63 : n + m ≤ maxLen) (hbytes : (n + m) * bytes ≤ 140737488355328) (hbase : base ≤ w.heap.size)
    (h : ∀ v' w', w'.ownsRow base e size v' (n + m) (xs ++ news) → w.grownBy w' v.ownBlock → (v' = .slice none 0 0 ↔ v = .slice none 0 0 ∧ m = 0) → (v'.ownBlock = v.ownBlock ∨ v'.ownBlock = some w.heap.size) → K (a.put o.dst v') w') :
    if Region.wanted o (yielded ops a.tmps) = true then Oper.wp P o a w K Q else E := by
  have hw : Region.wanted o (yielded ops a.tmps) = true := by simp [Region.wanted, hgd]
  rw [if_pos hw]
  obtain ⟨v', w', hr, h2, h3, h4, h5⟩ := run_append_own_at (P := P) w base t o.type e i z size bytes ht hi hz hsize hby hzs hsz v n xs hown ad m c news hl hnews h1 h63 hbytes hbase
  unfold Oper.wp execOp
  simp only [ho, resolve, invoke, builtin, Sem.run_bind, Sem.run_pure, Result.andThen_ok, List.map_toArray, List.map_cons, List.map_nil, hs, hx, hr]
  exact h v' w' h2 h3 h4 h5
theorem below1 (w : World) (o : Obj) : Below w.heap.size w (w.alloc o) := (Below.refl _ w).alloc (Nat.le_refl _) _
theorem blk_b {w w' : World} {g : Nat} {o : Obj} (h : w.heap[g]? = some o) (hb : Below w.heap.size w w') : w'.heap[g]? = some o := (hb.block _ (lt_of_heap h)).trans h
theorem blk_t {w w' : World} {g : Nat} {o : Obj} {S : Nat → Prop} (h : w.heap[g]? = some o) (ht : Turned w w' S) (hS : ¬ S g) : w'.heap[g]? = some o := (ht.block g (lt_of_heap h) hS).trans h
theorem blk_cell {w w' : World} {a : Addr} {v : Value} (h : w.cell? a = some v) (hb : Below w.heap.size w w') : w'.cell? a = some v := (hb.cell (World.block_lt_of_cell? w _ h)).trans h
theorem own_cell {w : World} {base : Nat} {e : TypeId} {size n : Nat} {xs : List Value} {v : Value} (h : w.ownsRow base e size v n xs) (hn : 0 < n) : ∃ g cap, v = .slice (some ⟨g, 0, none⟩) n cap ∧ base ≤ g ∧ g < w.heap.size ∧ n ≤ cap ∧ (∀ j u, xs[j]? = some u → w.cell? ⟨g, j, none⟩ = some u) ∧ ∀ j, w.frozen? ⟨g, j, none⟩ = false := by
  obtain ⟨h1, ⟨_, h2⟩ | ⟨g', cap', cur, rfl, hb, hg, h3, h4, h5, h6⟩⟩ := h
  · omega
  · refine ⟨g', cap', rfl, hb, lt_of_heap hg, h3, fun j u hu => ?_, fun j => frozen_of hg j⟩
    rw [Lib.cell_of_heap hg, ← Array.getElem?_toList]
    have hj : j < xs.length := (List.getElem?_eq_some_iff.1 hu).1
    rw [← h6, List.getElem?_take] at hu
    split at hu
    · exact hu
    · rename_i hx; rw [h1] at hj; exact absurd hj hx
theorem own_set {w : World} {base : Nat} {e : TypeId} {size n : Nat} {xs : List Value} {g cap : Nat} (h : w.ownsRow base e size (.slice (some ⟨g, 0, none⟩) n cap) n xs) (j : Nat) (hj : j < n * size) (x : Value) :
    (w.setCell ⟨g, j, none⟩ x).ownsRow base e size (.slice (some ⟨g, 0, none⟩) n cap) n (xs.set j x) := by
  obtain ⟨h1, ⟨h2, _⟩ | ⟨g', cap', cur, he, hb, hg, h3, h4, h5, h6⟩⟩ := h
  · cases h2
  · cases he
    refine ⟨by rw [List.length_set]; exact h1, Or.inr ⟨g, cap, _, rfl, hb, heap_setCell hg x, h3, h4, by simpa using h5, ?_⟩⟩
    rw [Array.toList_setIfInBounds, List.take_set, h6]
theorem wrap_id {x : Int} (h0 : 0 ≤ x) (h1 : x ≤ 1000000000) : IntKind.i64.wrap x = x := by
  simp [IntKind.wrap, IntKind.signed, IntKind.bits]
  omega
theorem cell_new (w : World) (cs : Array Value) (t : TypeId) (j : Nat) : (w.alloc (.cells cs t)).cell? ⟨w.heap.size, j, none⟩ = cs[j]? := Lib.cell_of_heap (heap_r0 w _) j
theorem frozen_new (w : World) (cs : Array Value) (t : TypeId) : ∀ j, (w.alloc (.cells cs t)).frozen? ⟨w.heap.size, j, none⟩ = false := fun j => frozen_of (heap_r0 w _) j
theorem upon_skip {P : Program} {o : Oper} {a : Act} {K : Act → World → Prop} {Q : Exit → Act → World → Prop} {R : Result Next} {w' : World} (h : R = .ok .skip w') (hk : K (a.put o.dst undef) w') : Oper.upon P o a K Q R := by
  subst h; exact hk
theorem below_turned {w w1 w2 : World} {g : Nat} (h : Below w.heap.size w w1) (ht : Turned w1 w2 (fun j => j = g)) (hg : w.heap.size ≤ g := by first | exact Nat.le_refl _ | omega) : Below w.heap.size w w2 :=
  ⟨ht.os.trans h.os, ht.tape.trans h.tape, ht.output.trans h.output, Nat.le_trans h.size ht.size, fun k hk => (ht.block k (Nat.lt_of_lt_of_le hk h.size) (by omega)).trans (h.block k hk)⟩
theorem tag_ne {w : World} {g k : Nat} {c d : Array Value} {t u : TypeId} (h1 : w.heap[g]? = some (.cells c t (0, 0))) (h2 : w.heap[k]? = some (.cells d u (0, 0))) (htu : t ≠ u) : g ≠ k := by
  rintro rfl
  rw [h1] at h2
  injection h2 with q1
  injection q1 with _ q2
  exact htu q2
theorem below_grown {B : Nat} {W w w' : World} {row : Option Nat} (hb : Below B W w) (hB : B ≤ w.heap.size) (hg : w.grownBy w' row) (hr : ∀ k, row = some k → B ≤ k) : Below B W w' :=
  ⟨hg.os.trans hb.os, hg.tape.trans hb.tape, hg.output.trans hb.output, Nat.le_trans hb.size hg.size, fun k hk => (hg.block k (by omega) (fun e => by have := hr k e.symm; omega)).trans (hb.block k hk)⟩
end Go.Proofs.YtaaphipbkpjkjaaGreatDoor
namespace Go.Proofs.YtaaphipbkpjkjaaGreatDoor
open Go.RowKit Go.Maps
set_option linter.unusedVariables false
set_option maxRecDepth 100000
/-- An operand. -/
structure Ar where
  kind : Int
  n : Int
/-- An instruction. -/
structure In where
  op : Int
  bin : Int
  d : Int
  a : Ar
  b : Ar
  n : Int
  off : Int
  width : Int
  sg : Bool
  args : List Ar
abbrev TAr : TypeId := 40
abbrev TArs : TypeId := 41
abbrev TIn : TypeId := 43
abbrev TIns : TypeId := 30
abbrev TIs : TypeId := 33
def arCells (a : Ar) : List Value := [.int .i64 a.kind, .int .u32 a.n]
def argsC (l : List Ar) : List Value := l.flatMap arCells
def inCells (x : In) (s : Value) : List Value := [.int .i64 x.op, .int .i64 x.bin, .int .i64 x.d, .int .i64 x.a.kind, .int .u32 x.a.n, .int .i64 x.b.kind, .int .u32 x.b.n, .int .i64 x.n, .int .i64 x.off, .int .i64 x.width, .bool x.sg, s]
def withinP (n lo hi : Int) : Bool := decide (lo ≤ n) && decide (n ≤ hi)
def writesP (x : In) : Int := if x.op = 1 ∨ x.op = 2 ∨ x.op = 3 ∨ x.op = 4 ∨ x.op = 5 ∨ x.op = 8 ∨ x.op = 13 then max x.d (-1) else -1
theorem wrap_idI {x : Int} (h0 : -9223372036854775808 ≤ x) (h1 : x ≤ 9223372036854775807) : IntKind.i64.wrap x = x := by
  simp [IntKind.wrap, IntKind.signed, IntKind.bits]
  omega
section
variable {w : World}
theorem within_c (n lo hi : Int) (w : World) : Calls Tryz.prog 50 #[.int .i64 n, .int .i64 lo, .int .i64 hi] w fun e w' => e = .returned (.bool (withinP n lo hi)) ∧ w' = w := by
  unfold withinP
  by_cases h1 : lo ≤ n
  · have d1 : decide (lo ≤ n) = true := by simpa using h1
    rw [d1, Bool.true_and]
    go_enter Tryz.func50, Tryz.ntmps50
    go_wp2
    go_ret
    exact ⟨rfl, rfl⟩
  · have d1 : decide (lo ≤ n) = false := by simpa using h1
    rw [d1, Bool.false_and]
    go_enter Tryz.func50, Tryz.ntmps50
    go_wp2
    go_ret
    exact ⟨rfl, rfl⟩
theorem rwithin_c (n lo hi : Int) (w : World) : Calls Tryz.prog 33 #[.int .i64 n, .int .i64 lo, .int .i64 hi] w fun e w' => e = .returned (.bool (withinP n lo hi)) ∧ w' = w := by
  unfold withinP
  by_cases h1 : lo ≤ n
  · have d1 : decide (lo ≤ n) = true := by simpa using h1
    rw [d1, Bool.true_and]
    go_enter Tryz.func33, Tryz.ntmps33
    go_wp2
    go_ret
    exact ⟨rfl, rfl⟩
  · have d1 : decide (lo ≤ n) = false := by simpa using h1
    rw [d1, Bool.false_and]
    go_enter Tryz.func33, Tryz.ntmps33
    go_wp2
    go_ret
    exact ⟨rfl, rfl⟩
theorem isNumber_c (n : Int) (c : Int) (h0 : -1000 ≤ c) (h1 : c ≤ 9223372036854775807) (w : World) : Calls Tryz.prog 28 #[.int .i64 n, .int .i64 c] w fun e w' => e = .returned (.bool (withinP n 0 (c - 1))) ∧ w' = w := by
  have c1 := within_c n 0 (c - 1) w
  have hw : IntKind.i64.wrap (c - 1) = c - 1 := wrap_idI (by omega) (by omega)
  go_enter Tryz.func28, Tryz.ntmps28
  go_wp2_with fail
  refine c1.mono ?_
  rintro e w' ⟨rfl, hw⟩
  rw [hw]
  clear hw w'
  go_wp2
  go_ret
  exact ⟨rfl, rfl⟩
theorem writes_c (x : In) (s : Option Addr) (sn sc : Nat) (w : World) :
    Calls Tryz.prog 12 #[.agg (inCells x (.slice s sn sc)).toArray] w fun e w' => e = .returned (.int .i64 (writesP x)) ∧ Below w.heap.size w w' := by
  have b1 := below1 w (.cells (inCells x (.slice s sn sc)).toArray TIn)
  have N := heap_r0 w (.cells (inCells x (.slice s sn sc)).toArray TIn)
  have c0 := Lib.cell_of_heap N 0
  have c2 := Lib.cell_of_heap N 2
  simp only [inCells, List.getElem?_toArray, List.getElem?_cons_zero, List.getElem?_cons_succ] at c0 c2
  have HB : Hid (Below w.heap.size w (w.alloc (.cells (inCells x (.slice s sn sc)).toArray TIn))) := b1
  unfold inCells at *
  unfold writesP
  clear b1 N
  obtain ⟨op, bin, d, ⟨ak, an⟩, ⟨bk, bn⟩, n, off, width, sg, args⟩ := x
  simp only at *
  by_cases h : op = 1 ∨ op = 2 ∨ op = 3 ∨ op = 4 ∨ op = 5 ∨ op = 8 ∨ op = 13
  · rw [if_pos h]
    rcases h with rfl | rfl | rfl | rfl | rfl | rfl | rfl
    all_goals
      go_enter Tryz.func12, Tryz.ntmps12
      go_wp2
      all_goals
        go_ret
        refine ⟨?_, HB.out⟩
        show Ending.returned (.int .i64 _) = _
        congr 2
        omega
  · rw [if_neg h]
    have h1 : (op == 1) = false := by simp; omega
    have h2 : (op == 2) = false := by simp; omega
    have h3 : (op == 3) = false := by simp; omega
    have h4 : (op == 4) = false := by simp; omega
    have h5 : (op == 5) = false := by simp; omega
    have h8 : (op == 8) = false := by simp; omega
    have h13 : (op == 13) = false := by simp; omega
    clear h
    go_enter Tryz.func12, Tryz.ntmps12
    go_wp2
    go_ret
    exact ⟨rfl, HB.out⟩
theorem rWrites_c (x : In) (s : Option Addr) (sn sc : Nat) (w : World) :
    Calls Tryz.prog 19 #[.agg (inCells x (.slice s sn sc)).toArray] w fun e w' => e = .returned (.int .i64 (writesP x)) ∧ Below w.heap.size w w' := by
  have b1 := below1 w (.cells (inCells x (.slice s sn sc)).toArray TIn)
  have N := heap_r0 w (.cells (inCells x (.slice s sn sc)).toArray TIn)
  have c0 := Lib.cell_of_heap N 0
  have c2 := Lib.cell_of_heap N 2
  simp only [inCells, List.getElem?_toArray, List.getElem?_cons_zero, List.getElem?_cons_succ] at c0 c2
  have HB : Hid (Below w.heap.size w (w.alloc (.cells (inCells x (.slice s sn sc)).toArray TIn))) := b1
  unfold inCells at *
  unfold writesP
  clear b1 N
  obtain ⟨op, bin, d, ⟨ak, an⟩, ⟨bk, bn⟩, n, off, width, sg, args⟩ := x
  simp only at *
  by_cases hd : d < 0
  · have hr : (if op = 1 ∨ op = 2 ∨ op = 3 ∨ op = 4 ∨ op = 5 ∨ op = 8 ∨ op = 13 then max d (-1) else -1) = -1 := by split <;> omega
    rw [hr]
    have hd1 : decide (d < 0) = true := by simpa using hd
    clear hr
    go_enter Tryz.func19, Tryz.ntmps19
    go_wp2
    go_ret
    exact ⟨rfl, HB.out⟩
  have hd1 : decide (d < 0) = false := by simpa using hd
  by_cases h : op = 1 ∨ op = 2 ∨ op = 3 ∨ op = 4 ∨ op = 5 ∨ op = 8 ∨ op = 13
  · rw [if_pos h, show max d (-1) = d by omega]
    rcases h with rfl | rfl | rfl | rfl | rfl | rfl | rfl
    all_goals
      go_enter Tryz.func19, Tryz.ntmps19
      go_wp2
      go_ret
      exact ⟨rfl, HB.out⟩
  · rw [if_neg h]
    have h1 : (op == 1) = false := by simp; omega
    have h2 : (op == 2) = false := by simp; omega
    have h3 : (op == 3) = false := by simp; omega
    have h4 : (op == 4) = false := by simp; omega
    have h5 : (op == 5) = false := by simp; omega
    have h8 : (op == 8) = false := by simp; omega
    have h13 : (op == 13) = false := by simp; omega
    clear h
    go_enter Tryz.func19, Tryz.ntmps19
    go_wp2
    go_ret
    exact ⟨rfl, HB.out⟩
end
end Go.Proofs.YtaaphipbkpjkjaaGreatDoor
namespace Go.Proofs.YtaaphipbkpjkjaaGreatDoor
open Go.RowKit Go.Maps
set_option linter.unusedVariables false
set_option maxRecDepth 100000
/-- A slice of numbers, wherever it begins. -/
def IntSl (w : World) (v : Value) (l : List Int) : Prop :=
  (v = .slice none 0 0 ∧ l = []) ∨ ∃ g o cap, v = .slice (some ⟨g, o, none⟩) l.length cap ∧ l.length ≤ cap ∧ g < w.heap.size ∧ ∀ i n, l[i]? = some n → w.cell? ⟨g, o + i, none⟩ = some (.int .i64 n)
theorem IntSl.below {w w' : World} {v : Value} {l : List Int} (h : IntSl w v l) (hb : Below w.heap.size w w') : IntSl w' v l := by
  rcases h with h | ⟨g, o, cap, h1, h2, h3, h4⟩
  · exact Or.inl h
  · exact Or.inr ⟨g, o, cap, h1, h2, Nat.lt_of_lt_of_le h3 hb.size, fun i n hn => by rw [hb.cell (p := ⟨g, o + i, none⟩) h3]; exact h4 i n hn⟩
theorem next1_c {w : World} {cb n len cap : Nat} {cp : Option Addr} (hc : w.cell? ⟨cb, 0, none⟩ = some (.slice cp len cap)) (hl : len ≤ 9223372036854775807) (x : Int) :
    Calls Tryz.prog 31 #[.int .i64 x, .pointer (some ⟨cb, 0, none⟩)] w fun e w' => e = .returned (.bool (!withinP x 0 ((len : Int) - 1))) ∧ w' = w := by
  have c1 := isNumber_c x (len : Int) (by omega) (by omega) w
  generalize withinP x 0 ((len : Int) - 1) = b at *
  have nt := not_t
  have nf := not_f
  go_enter Tryz.func31, Tryz.ntmps31
  go_wp2_with fail
  refine c1.mono ?_
  rintro e w' ⟨rfl, hw⟩
  rw [hw]
  clear hw w'
  cases b
  all_goals
    go_wp2
    go_ret
    exact ⟨rfl, rfl⟩
section
variable {w : World} {cb len cap : Nat} {cp : Option Addr}
abbrev nextFn (cb : Nat) : Value := .func (.func 31) #[] #[.pointer (some ⟨cb, 0, none⟩)]
theorem index0 (hc : w.cell? ⟨cb, 0, none⟩ = some (.slice cp len cap)) (hl : len ≤ 9223372036854775807) (s : Option Addr) (c : Nat) :
    Calls Tryz.prog 53 #[.slice s 0 c, nextFn cb] w fun e w' => e = .returned (.int .i64 (-1)) ∧ w' = w := by
  go_enter Tryz.func53, Tryz.ntmps53
  go_wp2
  refine wp_loop_rounds 1 ?_
  rw [rounds_succ]
  go_wp2
  go_ret
  exact ⟨rfl, rfl⟩
theorem index1 (hc : w.cell? ⟨cb, 0, none⟩ = some (.slice cp len cap)) (hl : len ≤ 9223372036854775807) {g c : Nat} {a : Int} (h0 : w.cell? ⟨g, 0, none⟩ = some (.int .i64 a)) :
    Calls Tryz.prog 53 #[.slice (some ⟨g, 0, none⟩) 1 c, nextFn cb] w fun e w' => e = .returned (.int .i64 (if withinP a 0 ((len : Int) - 1) then -1 else 0)) ∧ w' = w := by
  have c1 := next1_c (n := 0) hc hl a
  generalize withinP a 0 ((len : Int) - 1) = b at *
  cases b
  · go_enter Tryz.func53, Tryz.ntmps53
    go_wp2
    refine wp_loop_rounds 1 ?_
    rw [rounds_succ]
    go_wp2_with (first | (go_at_call 31; refine c1.mono ?_; rintro e w' ⟨rfl, hw⟩; rw [hw]; clear hw w') | fail)
    go_ret
    exact ⟨rfl, rfl⟩
  · go_enter Tryz.func53, Tryz.ntmps53
    go_wp2
    refine wp_loop_rounds 2 ?_
    rw [rounds_succ]
    go_wp2_with (first | (go_at_call 31; refine c1.mono ?_; rintro e w' ⟨rfl, hw⟩; rw [hw]; clear hw w') | fail)
    rw [rounds_succ]
    go_wp2
    go_ret
    exact ⟨rfl, rfl⟩
theorem index2 (hc : w.cell? ⟨cb, 0, none⟩ = some (.slice cp len cap)) (hl : len ≤ 9223372036854775807) {g c : Nat} {a b : Int} (h0 : w.cell? ⟨g, 0, none⟩ = some (.int .i64 a)) (h1 : w.cell? ⟨g, 1, none⟩ = some (.int .i64 b)) :
    Calls Tryz.prog 53 #[.slice (some ⟨g, 0, none⟩) 2 c, nextFn cb] w fun e w' => e = .returned (.int .i64 (if withinP a 0 ((len : Int) - 1) then (if withinP b 0 ((len : Int) - 1) then -1 else 1) else 0)) ∧ w' = w := by
  have c1 := next1_c (n := 0) hc hl a
  have c2 := next1_c (n := 0) hc hl b
  generalize withinP a 0 ((len : Int) - 1) = x at *
  generalize withinP b 0 ((len : Int) - 1) = y at *
  cases x
  · clear c2
    go_enter Tryz.func53, Tryz.ntmps53
    go_wp2
    refine wp_loop_rounds 1 ?_
    rw [rounds_succ]
    go_wp2_with (first | (go_at_call 31; refine c1.mono ?_; rintro e w' ⟨rfl, hw⟩; rw [hw]; clear hw w') | fail)
    go_ret
    exact ⟨rfl, rfl⟩
  · cases y
    · go_enter Tryz.func53, Tryz.ntmps53
      go_wp2
      refine wp_loop_rounds 2 ?_
      rw [rounds_succ]
      go_wp2_with (first | (go_at_call 31; refine c1.mono ?_; rintro e w' ⟨rfl, hw⟩; rw [hw]; clear hw w') | fail)
      clear c1
      rw [rounds_succ]
      go_wp2_with (first | (go_at_call 31; refine c2.mono ?_; rintro e w' ⟨rfl, hw⟩; rw [hw]; clear hw w') | fail)
      go_ret
      exact ⟨rfl, rfl⟩
    · go_enter Tryz.func53, Tryz.ntmps53
      go_wp2
      refine wp_loop_rounds 3 ?_
      rw [rounds_succ]
      go_wp2_with (first | (go_at_call 31; refine c1.mono ?_; rintro e w' ⟨rfl, hw⟩; rw [hw]; clear hw w') | fail)
      clear c1
      rw [rounds_succ]
      go_wp2_with (first | (go_at_call 31; refine c2.mono ?_; rintro e w' ⟨rfl, hw⟩; rw [hw]; clear hw w') | fail)
      rw [rounds_succ]
      go_wp2
      go_ret
      exact ⟨rfl, rfl⟩
theorem Turned.setCells (g : Nat) : ∀ (vs : List Value) (o : Nat) (w : World) {S : Nat → Prop}, S g → Turned w (w.setCells g o vs) S
  | [], o, w, S, hS => Turned.refl _ _
  | v :: r, o, w, S, hS => (Turned.setCell w g o v hS).trans (Turned.setCells g r (o + 1) _ hS) (fun _ _ x => x)
theorem clearI (w : World) (g o n c : Nat) {cs : Array Value} (hg : w.heap[g]? = some (.cells cs 3 (0, 0))) (hn : 0 < n) (hs : o + n ≤ cs.size) :
    (Builtin.clear_ #[TIs] 0 #[.slice (some ⟨g, o, none⟩) n c]).run Tryz.prog w = .ok (.tuple #[]) (w.setCells g o (List.replicate n (.int .i64 0))) :=
  Lib.run_clear_slice w TIs 3 0 (.int .i64 0) Tryz.underlying33 (fun w => by kernel_rfl) rfl rfl g o n c hn (fun j hj => by rw [Lib.cell_of_heap hg]; simp; omega) (fun j _ => frozen_of hg _)
/-- What DeleteFunc leaves of one number or two. -/
theorem del0 (hc : w.cell? ⟨cb, 0, none⟩ = some (.slice cp len cap)) (hl : len ≤ 9223372036854775807) (s : Option Addr) (c : Nat) :
    Calls Tryz.prog 29 #[.slice s 0 c, nextFn cb] w fun e w' => e = .returned (.slice s 0 c) ∧ w' = w := by
  have c1 := index0 hc hl s c
  go_enter Tryz.func29, Tryz.ntmps29
  go_wp2_with (first | (go_at_call 53; refine c1.mono ?_; rintro e w' ⟨rfl, hw⟩; rw [hw]; clear hw w') | fail)
  go_ret
  exact ⟨rfl, rfl⟩
theorem del1 (hc : w.cell? ⟨cb, 0, none⟩ = some (.slice cp len cap)) (hl : len ≤ 9223372036854775807) {g c : Nat} (hc1 : 1 ≤ c) {a : Int} {cs : Array Value} (hg : w.heap[g]? = some (.cells cs 3 (0, 0))) (hz : 1 ≤ cs.size) (h0 : w.cell? ⟨g, 0, none⟩ = some (.int .i64 a)) :
    Calls Tryz.prog 29 #[.slice (some ⟨g, 0, none⟩) 1 c, nextFn cb] w fun e w' => ∃ v, e = .returned v ∧ IntSl w' v ([a].filter fun x => withinP x 0 ((len : Int) - 1)) ∧ Turned w w' (fun k => k = g) := by
  have hgl := lt_of_heap hg
  have c1 := index1 hc hl h0 (c := c)
  cases hp : withinP a 0 ((len : Int) - 1) with
  | true =>
    rw [hp] at c1
    simp only [if_true] at c1
    have HF : Hid ([a].filter (fun x => withinP x 0 ((len : Int) - 1)) = [a]) := by show _ = _; simp [hp]
    clear hp
    go_enter Tryz.func29, Tryz.ntmps29
    go_wp2_with (first | (go_at_call 53; refine c1.mono ?_; rintro e w' ⟨rfl, hw⟩; rw [hw]; clear hw w') | fail)
    go_ret
    refine ⟨_, rfl, ?_, Turned.refl _ _⟩
    rw [HF.out]
    exact Or.inr ⟨g, 0, c, rfl, hc1, hgl, fun i n hn => by
      rcases i with _ | i
      · simp at hn; subst hn; exact h0
      · simp at hn⟩
  | false =>
    rw [hp] at c1
    simp only [Bool.false_eq_true, if_false] at c1
    have HF : Hid ([a].filter (fun x => withinP x 0 ((len : Int) - 1)) = []) := by show _ = _; simp [hp]
    have hclr := clearI w g 0 1 c hg (by omega) (by omega)
    have HT : Hid (Turned w (w.setCells g 0 (List.replicate 1 (.int .i64 0))) (fun k => k = g)) := Turned.setCells g _ 0 w rfl
    generalize w.setCells g 0 (List.replicate 1 (.int .i64 0)) = w2 at *
    clear hp
    go_enter Tryz.func29, Tryz.ntmps29
    go_wp2_with (first | (go_at_call 53; refine c1.mono ?_; rintro e w' ⟨rfl, hw⟩; rw [hw]; clear hw w') | fail)
    refine wp_loop_rounds 1 ?_
    rw [rounds_succ]
    go_wp2
    go_ret
    refine ⟨_, rfl, ?_, HT.out⟩
    rw [HF.out]
    exact Or.inr ⟨g, 0, c, rfl, Nat.zero_le _, Nat.lt_of_lt_of_le hgl HT.out.size, fun i n hn => by simp at hn⟩
end
end Go.Proofs.YtaaphipbkpjkjaaGreatDoor
