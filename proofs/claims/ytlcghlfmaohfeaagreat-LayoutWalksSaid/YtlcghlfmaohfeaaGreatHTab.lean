/-
  A table of package ctype in memory: its rows, their members, the map of its pointers and arrays.
  What package ctype's functions on texts answer: isDigit, isLetter, isName, isNumbered, Tag.
  A table that no call made (none at all, or one whose rows are nil) refuses each of package ctype's calls.
  A table that no call made: Whole, Row, and the law's own function nobody.
-/
import Derived.Test.YtlcghlfmaohfeaaGreatChecked
import Derived.Deep.QuietTactic
import Derived.BigQuiet
import Derived.LoopN
import Derived.Below
import Derived.Shelf.Abstract
import Derived.Laws.CopyOwn
import Derived.Deep.WholeRow
import Derived.Maps.OwnOps
import Derived.Maps.AppendAt
import Derived.OwnWalk
import Derived.DeepKeys5
namespace Go.Proofs.YtlcghlfmaohfeaaGreat
open Go.RowKit
set_option linter.unusedVariables false

def tDigit (n : Nat) : Bool := decide (48 ≤ n) && decide (n ≤ 57)
def tLetter (n : Nat) : Bool := (decide (97 ≤ n) && decide (n ≤ 122)) || (decide (65 ≤ n) && decide (n ≤ 90)) || n == 95

theorem bool_ret {x y : Bool} (h : x = y) : Ending.returned (.bool x) = .returned (.bool y) := by rw [h]

theorem tDigit_c (n : Nat) (w : World) (h : n < 256) :
    Calls Tryz.prog 114 #[.int .u8 n] w fun e w' => e = .returned (.bool (tDigit n)) ∧ w' = w := by
  go_enter Tryz.func114, Tryz.ntmps114
  go_wp2
  all_goals go_ret
  all_goals refine ⟨bool_ret ?_, rfl⟩
  all_goals (rw [Bool.eq_iff_iff]; simp [tDigit]; omega)

theorem tLetter_c (n : Nat) (w : World) (h : n < 256) :
    Calls Tryz.prog 115 #[.int .u8 n] w fun e w' => e = .returned (.bool (tLetter n)) ∧ w' = w := by
  go_enter Tryz.func115, Tryz.ntmps115
  go_wp2
  all_goals go_ret
  all_goals refine ⟨bool_ret ?_, rfl⟩
  all_goals (rw [Bool.eq_iff_iff]; simp [tLetter]; omega)
end Go.Proofs.YtlcghlfmaohfeaaGreat
namespace Go.Proofs.YtlcghlfmaohfeaaGreat
open Go.RowKit
set_option linter.unusedVariables false
set_option maxRecDepth 100000

/-- A table that no call made. -/
def NoT (v : Value) (w : World) : Prop := v = .pointer none ∨ ∃ b, v = .pointer (some ⟨b, 0, none⟩) ∧ w.cell? ⟨b, 0, none⟩ = some (.slice none 0 0)

theorem not_f (W : World) : (Op.unary UnOp.not (.bool false)).run Tryz.prog W = .ok (.bool true) W := rfl
theorem not_t (W : World) : (Op.unary UnOp.not (.bool true)).run Tryz.prog W = .ok (.bool false) W := rfl
theorem neq_nil (W : World) : (binOp BinOp.neq 23 (.pointer none) (.pointer none)).run Tryz.prog W = .ok (.bool false) W := by kernel_rfl
theorem neq_some (a : Addr) (W : World) : (binOp BinOp.neq 23 (.pointer (some a)) (.pointer none)).run Tryz.prog W = .ok (.bool true) W := by kernel_rfl

theorem made_no {v : Value} {w : World} (h : NoT v w) :
    Calls Tryz.prog 50 #[v] w fun e w' => e = .returned (.bool false) ∧ w' = w := by
  have h0 := neq_nil
  have h1 := neq_some
  rcases h with rfl | ⟨b, rfl, hb⟩
  · go_enter Tryz.func50, Tryz.ntmps50
    go_wp2
    go_ret
    exact ⟨rfl, rfl⟩
  · go_enter Tryz.func50, Tryz.ntmps50
    go_wp2
    go_ret
    exact ⟨rfl, rfl⟩

theorem has_no {v : Value} {w : World} (h : NoT v w) (id : Int) :
    Calls Tryz.prog 83 #[v, .int .i64 id] w fun e w' => e = .returned (.bool false) ∧ w' = w := by
  have c := made_no h
  go_enter Tryz.func83, Tryz.ntmps83
  go_wp2_with fail
  refine c.mono ?_
  rintro e w' ⟨rfl, rfl⟩
  go_wp2
  go_ret
  exact ⟨rfl, rfl⟩

theorem kind_no {v : Value} {w : World} (h : NoT v w) (id : Int) :
    Calls Tryz.prog 52 #[v, .int .i64 id] w fun e w' => e = .returned (.int .i64 0) ∧ w' = w := by
  have c := has_no h id
  have h0 := not_f
  go_enter Tryz.func52, Tryz.ntmps52
  go_wp2_with fail
  refine c.mono ?_
  rintro e w' ⟨rfl, rfl⟩
  go_wp2
  go_ret
  exact ⟨rfl, rfl⟩

theorem tagged_no {v : Value} {w : World} (h : NoT v w) (k : Int) (s : ByteArray) :
    Calls Tryz.prog 49 #[v, .int .i64 k, .string s] w fun e w' => e = .returned (.tuple #[.int .i64 0, .int .i64 1]) ∧ w' = w := by
  have c := made_no h
  have h0 := not_f
  go_enter Tryz.func49, Tryz.ntmps49
  go_wp2_with fail
  refine c.mono ?_
  rintro e w' ⟨rfl, rfl⟩
  go_wp2
  go_ret2
  exact ⟨rfl, rfl⟩

theorem struct_no {v : Value} {w : World} (h : NoT v w) (s : ByteArray) :
    Calls Tryz.prog 26 #[v, .string s] w fun e w' => e = .returned (.tuple #[.int .i64 0, .int .i64 1]) ∧ w' = w := by
  have c := tagged_no h 15 s
  have h0 := not_f
  go_enter Tryz.func26, Tryz.ntmps26
  go_wp2_with fail
  refine c.mono ?_
  rintro e w' ⟨rfl, rfl⟩
  go_wp2
  go_ret2
  exact ⟨rfl, rfl⟩

theorem complete_no {v : Value} {w : World} (h : NoT v w) (id : Int) (l : Value) :
    Calls Tryz.prog 27 #[v, .int .i64 id, l] w fun e w' => e = .returned (.int .i64 1) ∧ w' = w := by
  have c := made_no h
  have h0 := not_f
  go_enter Tryz.func27, Tryz.ntmps27
  go_wp2_with fail
  refine c.mono ?_
  rintro e w' ⟨rfl, rfl⟩
  go_wp2
  go_ret
  exact ⟨rfl, rfl⟩

theorem scalar_no {v : Value} {w : World} (h : NoT v w) (id : Int) :
    Calls Tryz.prog 86 #[v, .int .i64 id] w fun e w' => e = .returned (.bool false) ∧ w' = w := by
  have c := kind_no h id
  have h0 := not_f
  go_enter Tryz.func86, Tryz.ntmps86
  go_wp2_with fail
  refine c.mono ?_
  rintro e w' ⟨rfl, rfl⟩
  go_wp2
  go_ret
  exact ⟨rfl, rfl⟩

theorem len_no {v : Value} {w : World} (h : NoT v w)  :
    Calls Tryz.prog 37 #[v] w fun e w' => e = .returned (.int .i64 0) ∧ w' = w := by
  have c := made_no h
  have h0 := not_f
  go_enter Tryz.func37, Tryz.ntmps37
  go_wp2_with fail
  refine c.mono ?_
  rintro e w' ⟨rfl, rfl⟩
  go_wp2
  go_ret
  exact ⟨rfl, rfl⟩

theorem rows_no {v : Value} {w : World} (h : NoT v w)  :
    Calls Tryz.prog 36 #[v] w fun e w' => e = .returned (.slice none 0 0) ∧ w' = w := by
  have c := made_no h
  have h0 := not_f
  go_enter Tryz.func36, Tryz.ntmps36
  go_wp2_with fail
  refine c.mono ?_
  rintro e w' ⟨rfl, rfl⟩
  go_wp2
  go_ret
  exact ⟨rfl, rfl⟩

end Go.Proofs.YtlcghlfmaohfeaaGreat
namespace Go.Proofs.YtlcghlfmaohfeaaGreat
open Go.RowKit
set_option linter.unusedVariables false
set_option maxRecDepth 100000

def zeroRow : Value := .agg #[.int .i64 0, .int .i64 0, .int .i64 0, .string ⟨#[]⟩, .slice none 0 0, .bool false]

theorem whole_no {v : Value} {w : World} (h : NoT v w) (id : Int) :
    Calls Tryz.prog 56 #[v, .int .i64 id] w fun e w' => e = .returned (.bool false) ∧ w' = w := by
  have c := kind_no h id
  have c2 := scalar_no h id
  go_enter Tryz.func56, Tryz.ntmps56
  go_wp2_with fail
  refine c.mono ?_
  rintro e w' ⟨rfl, rfl⟩
  go_wp2_with fail
  refine c2.mono ?_
  rintro e w' ⟨rfl, rfl⟩
  go_wp2
  go_ret
  exact ⟨rfl, rfl⟩

theorem noT_below {v : Value} {w w' : World} (h : NoT v w) (hb : Below w.heap.size w w') : NoT v w' := by
  rcases h with rfl | ⟨b, rfl, hc⟩
  · exact Or.inl rfl
  · refine Or.inr ⟨b, rfl, ?_⟩
    rw [hb.cell (p := ⟨b, 0, none⟩) (World.block_lt_of_cell? w _ hc)]; exact hc

theorem results_cell2 {fn : Func} {p u : Tmp} {ty : TypeId} (h : fn.results = #[.cell p ty, .tmp u]) (tmps : Array Value) (P : Program) (w : World) :
    (results fn tmps).run P w =
      ((asAddr (tmps.getD p undef)).run P w).andThen fun a w₁ => ((loadVar ty a).run P w₁).andThen fun x w₂ => .ok (.tuple #[x, tmps.getD u undef]) w₂ := by
  simp only [results, h]
  simp [Sem.run_bind, Result.andThen]
theorem ret_rowb {fn : Func} {R : Ending → World → Prop} {tmps : Array Value} {w : World} {g p q : Nat} {cs : Array Value}
    (hres : fn.results = #[.cell p 87, .tmp q]) (hp : tmps.getD p undef = .pointer (some ⟨g, 0, none⟩)) (hg : w.heap[g]? = some (.cells cs 87 (0, 0))) (hcs : cs.size = 6)
    (hR : R (.returned (.tuple #[.agg cs, tmps.getD q undef])) w) : bodyPost Tryz.prog fn R .ret ⟨tmps, []⟩ w := by
  refine bodyPost_ret ?_ rfl hR
  have hl := run_loadVar_row (P := Tryz.prog) w g 87 87 cs (0, 0) _ hg Tryz.underlying87 rfl (by rw [hcs]; kernel_rfl)
  rw [results_cell2 hres]
  simp only [hp]
  simp [asAddr, Result.andThen, hl]
theorem step_store {P : Program} {t ty : TypeId} {p x : Operand} {pos : String} {af : Array Edge} {ops : Array Oper} {rest : List Oper} {tmps : Array Value} {w : World} {Q : Exit → Act → World → Prop} {g : Nat} {old cells : Array Value}
    (hg : w.heap[g]? = some (.cells old t (0, 0))) (hp : Act.eval ⟨tmps, []⟩ p = .pointer (some ⟨g, 0, none⟩)) (hx : Act.eval ⟨tmps, []⟩ x = .agg cells) (hi : (P.info? t).map (·.size) = some cells.size) (ho : old.size = cells.size)
    (h1 : cells.all (·.oneCell') = true) (k : wpList P ops Q rest ⟨tmps, []⟩ (w.setRow g cells)) : wpList P ops Q ({ dst := none, op := Op.store t p x, type := ty, pos := pos, after := af, guard := none } :: rest) ⟨tmps, []⟩ w :=
  wpList_plain rfl fun K hK => wp_store_row t p x rfl g cells hp hx t old hg hi ho h1 (hK _ _ k)

theorem heap_r0 (w : World) (A : Obj) : (w.alloc A).heap[w.heap.size]? = some A := by
  show (w.heap.push A)[w.heap.size]? = some A
  simp

theorem row_no {v : Value} {w : World} (h : NoT v w) (id : Int) :
    Calls Tryz.prog 55 #[v, .int .i64 id] w fun e w' => e = .returned (.tuple #[zeroRow, .bool false]) ∧ Below w.heap.size w w' := by
  have hB : Below w.heap.size w (w.alloc (.cells #[.int .i64 0, .int .i64 0, .int .i64 0, .string ⟨#[]⟩, .slice none 0 0, .bool false] 87)) := (Below.refl _ w).alloc (Nat.le_refl _) _
  have c := has_no (noT_below h hB) id
  have h0 := not_f
  have hbz : ∀ W : World, (Instr.build 87 #[]).run Tryz.prog W = .ok (.agg #[.int .i64 0, .int .i64 0, .int .i64 0, .string ⟨#[]⟩, .slice none 0 0, .bool false]) W := fun W => by kernel_rfl
  go_enter Tryz.func55, Tryz.ntmps55
  go_wp2_with fail
  refine c.mono ?_
  rintro e w' ⟨rfl, rfl⟩
  have hold := heap_r0 w (.cells #[.int .i64 0, .int .i64 0, .int .i64 0, .string ⟨#[]⟩, .slice none 0 0, .bool false] 87)
  go_wp2_with ((with_reducible apply step_store hold); rfl; rfl; kernel_rfl; rfl; kernel_rfl)
  refine ret_rowb (p := 4) (q := 5) ?_ ?_ (setRow_heap _ _ _ _ _ _ hold) ?_ ?_
  · rfl
  · rfl
  · rfl
  · exact ⟨rfl, below_setRow hB (Nat.le_refl _) _⟩
end Go.Proofs.YtlcghlfmaohfeaaGreat
namespace Go.Proofs.YtlcghlfmaohfeaaGreat
open Go.RowKit Go.Maps
set_option linter.unusedVariables false
set_option maxRecDepth 100000

structure Mb where
  name : ByteArray
  type : Int
  bits : Int
structure Rw where
  kind : Int
  elem : Int
  len : Int
  tag : ByteArray
  mem : List Mb
  done : Bool

abbrev TR : TypeId := 87
abbrev TM : TypeId := 72

def mbCells (m : Mb) : List Value := [.string m.name, .int .i64 m.type, .int .i64 m.bits]
def memCells (l : List Mb) : List Value := l.flatMap mbCells
def rwCells (r : Rw) (s : Value) : List Value := [.int .i64 r.kind, .int .i64 r.elem, .int .i64 r.len, .string r.tag, s, .bool r.done]
def allCells (rs : List (Rw × Value)) : List Value := rs.flatMap fun p => rwCells p.1 p.2
def keyV (k e n : Int) : Value := .agg #[.int .i64 k, .int .i64 e, .int .i64 n]
def derivd (r : Rw) : Bool := r.kind == 13 || r.kind == 14
def pairOf (p : Rw × Nat) : Option (Value × Value) := if derivd p.1 then some (keyV p.1.kind p.1.elem p.1.len, .int .i64 p.2) else none
def pairs (rs : List Rw) : List (Value × Value) := rs.zipIdx.filterMap pairOf
def wf64 (x : Int) : Prop := (Lit.int .i64 x).wf = true

structure Tab (B : Nat) (w : World) (b mb : Nat) (v : Value) (rs : List (Rw × Value)) (ps : List (Value × Value)) : Prop where
  bB : B ≤ b
  mB : B ≤ mb
  tab : w.heap[b]? = some (.cells #[v, .map (some mb)] 111 (0, 0))
  rows : w.ownsRow B TR 6 v rs.length (allCells rs)
  mems : ∀ p ∈ rs, w.ownsRow B TM 3 p.2 p.1.mem.length (memCells p.1.mem)
  map : ∃ es ck, w.heap[mb]? = some (.map es ck) ∧ es.toList.map (fun e => (e.key, e.val)) = ps
  wf : ∀ kv ∈ ps, ∃ k e n, kv.1 = keyV k e n ∧ wf64 k ∧ wf64 e ∧ wf64 n
  len : rs.length ≤ 512

/-- Nothing but the blocks of S has turned. -/
structure Turned (w w' : World) (S : Nat → Prop) : Prop where
  os : w'.os = w.os
  tape : w'.tape = w.tape
  output : w'.output = w.output
  size : w.heap.size ≤ w'.heap.size
  block : ∀ k, k < w.heap.size → ¬ S k → w'.heap[k]? = w.heap[k]?

def own (b mb : Nat) (v : Value) (k : Nat) : Prop := k = b ∨ k = mb ∨ v.ownBlock = some k

theorem Turned.refl (w : World) (S : Nat → Prop) : Turned w w S := ⟨rfl, rfl, rfl, Nat.le_refl _, fun _ _ _ => rfl⟩
theorem Turned.trans {a b c : World} {S S' : Nat → Prop} (h : Turned a b S) (k : Turned b c S') (hS : ∀ i, i < a.heap.size → S' i → S i) : Turned a c S :=
  ⟨k.os.trans h.os, k.tape.trans h.tape, k.output.trans h.output, Nat.le_trans h.size k.size, fun i hi hn => (k.block i (Nat.lt_of_lt_of_le hi h.size) (fun s => hn (hS i hi s))).trans (h.block i hi hn)⟩
theorem Turned.of_below {w w' : World} (h : Below w.heap.size w w') (S : Nat → Prop) : Turned w w' S := ⟨h.os, h.tape, h.output, h.size, fun k hk _ => h.block k hk⟩
theorem Turned.of_grown {w w' : World} {row : Option Nat} (h : w.grownBy w' row) {S : Nat → Prop} (hS : ∀ k, row = some k → S k) : Turned w w' S :=
  ⟨h.os, h.tape, h.output, h.size, fun k hk hn => h.block k hk (fun e => hn (hS k e.symm))⟩
theorem Turned.alloc (w : World) (o : Obj) (S : Nat → Prop) : Turned w (w.alloc o) S := .of_below ((Below.refl _ w).alloc (Nat.le_refl _) o) S
theorem Turned.setRow (w : World) (g : Nat) (cs : Array Value) {S : Nat → Prop} (hS : S g) : Turned w (w.setRow g cs) S :=
  ⟨rfl, rfl, rfl, by simp, fun k _ hn => setRow_other w g k cs (fun e => hn (e ▸ hS))⟩
theorem Turned.mono {w w' : World} {S S' : Nat → Prop} (h : Turned w w' S) (hS : ∀ k, S k → S' k) : Turned w w' S' := ⟨h.os, h.tape, h.output, h.size, fun k hk hn => h.block k hk (fun s => hn (hS k s))⟩

theorem ownsRow_turned {w w' : World} {S : Nat → Prop} {base : Nat} {e : TypeId} {size n : Nat} {v : Value} {xs : List Value} (h : w.ownsRow base e size v n xs) (ht : Turned w w' S) (hS : ∀ k, v.ownBlock = some k → ¬ S k) :
    w'.ownsRow base e size v n xs := by
  obtain ⟨h1, h2 | ⟨g, cap, cur, rfl, hb, hg, r⟩⟩ := h
  · exact ⟨h1, Or.inl h2⟩
  · refine ⟨h1, Or.inr ⟨g, cap, cur, rfl, hb, ?_, r⟩⟩
    have hlt : g < w.heap.size := by
      rcases Nat.lt_or_ge g w.heap.size with h | h
      · exact h
      · simp [h] at hg
    rw [ht.block g hlt (hS g rfl)]; exact hg
theorem ownsRow_base {w : World} {base base' : Nat} {e : TypeId} {size n : Nat} {v : Value} {xs : List Value} (h : w.ownsRow base e size v n xs) (hb : base' ≤ base) : w.ownsRow base' e size v n xs := by
  obtain ⟨h1, h2 | ⟨g, cap, cur, rfl, hb0, r⟩⟩ := h
  · exact ⟨h1, Or.inl h2⟩
  · exact ⟨h1, Or.inr ⟨g, cap, cur, rfl, Nat.le_trans hb hb0, r⟩⟩
/-- The block that a slice owns holds cells of its element's type. -/
theorem ownsRow_at {w : World} {base : Nat} {e : TypeId} {size n : Nat} {v : Value} {xs : List Value} (h : w.ownsRow base e size v n xs) {g : Nat} (hg : v.ownBlock = some g) : base ≤ g ∧ ∃ cur, w.heap[g]? = some (.cells cur e (0, 0)) := by
  obtain ⟨h1, ⟨rfl, _⟩ | ⟨g', cap, cur, rfl, hb, hg', r⟩⟩ := h
  · cases hg
  · cases hg; exact ⟨hb, cur, hg'⟩

theorem lt_of_heap {w : World} {g : Nat} {o : Obj} (h : w.heap[g]? = some o) : g < w.heap.size := by
  rcases Nat.lt_or_ge g w.heap.size with h' | h'
  · exact h'
  · simp [h'] at h

namespace Tab
variable {B : Nat} {w w' : World} {b mb : Nat} {v : Value} {rs : List (Rw × Value)} {ps : List (Value × Value)}

theorem lt (h : Tab B w b mb v rs ps) : B ≤ w.heap.size := Nat.le_trans h.bB (Nat.le_of_lt (lt_of_heap h.tab))

/-- What turned lies in the table's own blocks, from B on. -/
theorem below (h : Tab B w b mb v rs ps) (ht : Turned w w' (own b mb v)) : Below B w w' := by
  refine ⟨ht.os, ht.tape, ht.output, ht.size, fun k hk => ht.block k (Nat.lt_of_lt_of_le hk h.lt) ?_⟩
  rintro (rfl | rfl | hv)
  · exact absurd h.bB (by omega)
  · exact absurd h.mB (by omega)
  · exact absurd (ownsRow_at h.rows hv).1 (by omega)

/-- It stays where nothing of it has turned. -/
theorem kept (h : Tab B w b mb v rs ps) {S : Nat → Prop} (ht : Turned w w' S) (h1 : ∀ k, own b mb v k → ¬ S k) (h2 : ∀ p ∈ rs, ∀ k, p.2.ownBlock = some k → ¬ S k) : Tab B w' b mb v rs ps := by
  refine ⟨h.bB, h.mB, ?_, ownsRow_turned h.rows ht (fun k hk => h1 k (Or.inr (Or.inr hk))), fun p hp => ownsRow_turned (h.mems p hp) ht (h2 p hp), ?_, h.wf, h.len⟩
  · rw [ht.block b (lt_of_heap h.tab) (h1 b (Or.inl rfl))]; exact h.tab
  · obtain ⟨es, ck, hm, r⟩ := h.map
    exact ⟨es, ck, by rw [ht.block mb (lt_of_heap hm) (h1 mb (Or.inr (Or.inl rfl)))]; exact hm, r⟩
theorem keptB (h : Tab B w b mb v rs ps) (ht : Below w.heap.size w w') : Tab B w' b mb v rs ps :=
  h.kept (Turned.of_below ht (fun _ => False)) (fun _ _ hf => hf) (fun _ _ _ _ hf => hf)
theorem alloc (h : Tab B w b mb v rs ps) (o : Obj) : Tab B (w.alloc o) b mb v rs ps := h.keptB ((Below.refl _ w).alloc (Nat.le_refl _) o)
theorem b_mb (h : Tab B w b mb v rs ps) : b ≠ mb := by
  rintro rfl
  obtain ⟨es, ck, hm, _⟩ := h.map
  have := h.tab
  rw [hm] at this; cases this
theorem v_b (h : Tab B w b mb v rs ps) {g : Nat} (hg : v.ownBlock = some g) : g ≠ b ∧ g ≠ mb := by
  obtain ⟨_, cur, hc⟩ := ownsRow_at h.rows hg
  constructor
  · rintro rfl; have := h.tab; rw [hc] at this; injection this with h1; injection h1 with _ h2; exact absurd h2 (by decide)
  · rintro rfl; obtain ⟨es, ck, hm, _⟩ := h.map; rw [hc] at hm; cases hm
/-- A member's block is none of the three. -/
theorem m_own (h : Tab B w b mb v rs ps) {p : Rw × Value} (hp : p ∈ rs) {g : Nat} (hg : p.2.ownBlock = some g) : ¬ own b mb v g := by
  obtain ⟨_, cur, hc⟩ := ownsRow_at (h.mems p hp) hg
  rintro (rfl | rfl | hv)
  · have := h.tab; rw [hc] at this; injection this with h1; injection h1 with _ h2; exact absurd h2 (by decide)
  · obtain ⟨es, ck, hm, _⟩ := h.map; rw [hc] at hm; cases hm
  · obtain ⟨_, cur', hc'⟩ := ownsRow_at h.rows hv
    rw [hc] at hc'; injection hc' with h1; injection h1 with _ h2; exact absurd h2 (by decide)
end Tab

/-! The map's look-up and store. -/
theorem run_look_none {P : Program} {t k e : TypeId} {w : World} {mb : Nat} {es : Array MapEntry} {ck : Nat} (K : Keyed P k) (ht : P.underlying t = some (.map k e)) {z : Value} (hz : (zeroValue e).run P w = .ok z w)
    (hb : w.heap[mb]? = some (.map es ck)) {key : Value} {kl : Lit} (hkey : keyOf P k key = some kl) (hes : ∀ x ∈ es.toList, ∃ l, keyOf P k x.key = some l) (hn : ∀ x ∈ es.toList, x.key ≠ key) :
    (Instr.lookup t (.map (some mb)) key true).run P w = .ok (.tuple #[z, .bool false]) w := by
  rcases K.find w hkey es.toList hes with ⟨h1, _⟩ | ⟨j, e0, _, h2, h3⟩
  · simp [Instr.lookup, run_underlying ht, MapKept.run_getObj_map hb, K.check w _ hkey, h1, hz, Result.andThen]
  · exact absurd h3 (hn e0 (List.mem_of_getElem? h2))
theorem run_look_some {P : Program} {t k e : TypeId} {w : World} {mb : Nat} {es : Array MapEntry} {ck : Nat} (K : Keyed P k) (ht : P.underlying t = some (.map k e))
    (hb : w.heap[mb]? = some (.map es ck)) {key : Value} {kl : Lit} (hkey : keyOf P k key = some kl) (hes : ∀ x ∈ es.toList, ∃ l, keyOf P k x.key = some l) (hn : ∃ x ∈ es.toList, x.key = key) :
    ∃ x ∈ es.toList, x.key = key ∧ (Instr.lookup t (.map (some mb)) key true).run P w = .ok (.tuple #[x.val, .bool true]) w := by
  rcases K.find w hkey es.toList hes with ⟨_, h2⟩ | ⟨j, e0, h1, h2, h3⟩
  · obtain ⟨x, hx, he⟩ := hn; exact absurd he (h2 x hx)
  · exact ⟨e0, List.mem_of_getElem? h2, h3, by simp [Instr.lookup, run_underlying ht, MapKept.run_getObj_map hb, K.check w _ hkey, h1, Result.andThen]⟩
theorem run_store_new {P : Program} {t k e : TypeId} {w : World} {mb : Nat} {es : Array MapEntry} {ck : Nat} (K : Keyed P k) (ht : P.underlying t = some (.map k e))
    (hb : w.heap[mb]? = some (.map es ck)) {key val : Value} {kl : Lit} (hkey : keyOf P k key = some kl) (hes : ∀ x ∈ es.toList, ∃ l, keyOf P k x.key = some l) (hn : ∀ x ∈ es.toList, x.key ≠ key) :
    (Instr.mapUpdate t (.map (some mb)) key val).run P w = .ok () (ChangeMaps.setBlock w mb (.map (es.push ⟨key, val, ck⟩) (ck + 1))) := by
  rcases K.find w hkey es.toList hes with ⟨h1, _⟩ | ⟨j, e0, _, h2, h3⟩
  · simp [Instr.mapUpdate, run_underlying ht, MapKept.run_getObj_map hb, K.check w false hkey, h1, MapKept.run_setObj_map _ hb, Result.andThen, ChangeMaps.setBlock]
  · exact absurd h3 (hn e0 (List.mem_of_getElem? h2))

/-! pairs -/
theorem pairs_snoc (rs : List Rw) (r : Rw) : pairs (rs ++ [r]) = pairs rs ++ (if derivd r then [(keyV r.kind r.elem r.len, .int .i64 rs.length)] else []) := by
  simp only [pairs, List.zipIdx_append, List.filterMap_append]
  congr 1
  simp only [List.zipIdx_cons, List.zipIdx_nil, List.filterMap_cons, List.filterMap_nil, pairOf]
  cases derivd r <;> simp
theorem mem_pairs {rs : List Rw} {kv : Value × Value} : kv ∈ pairs rs ↔ ∃ (i : Nat) (r : Rw), rs[i]? = some r ∧ derivd r = true ∧ kv = (keyV r.kind r.elem r.len, .int .i64 i) := by
  simp only [pairs, List.mem_filterMap]
  constructor
  · rintro ⟨⟨r, i⟩, hm, hp⟩
    have hi := List.mem_zipIdx_iff_getElem?.1 hm
    simp only [pairOf] at hp
    split at hp
    · rename_i hd; cases hp; exact ⟨i, r, hi, hd, rfl⟩
    · cases hp
  · rintro ⟨i, r, hi, hd, rfl⟩
    exact ⟨(r, i), List.mem_zipIdx_iff_getElem?.2 hi, by simp [pairOf, hd]⟩
theorem keyV_inj {a b c a' b' c' : Int} (h : keyV a b c = keyV a' b' c') : a = a' ∧ b = b' ∧ c = c' := by
  simp [keyV] at h; exact h
theorem allCells_length (rs : List (Rw × Value)) : (allCells rs).length = rs.length * 6 := by
  induction rs with
  | nil => rfl
  | cons p r ih => simp only [allCells, List.flatMap_cons, List.length_append] at ih ⊢; rw [ih]; simp [rwCells]; omega
theorem allCells_at (rs : List (Rw × Value)) (i : Nat) (p : Rw × Value) (h : rs[i]? = some p) (j : Nat) (hj : j < 6) : (allCells rs)[i * 6 + j]? = (rwCells p.1 p.2)[j]? := by
  induction rs generalizing i with
  | nil => simp at h
  | cons q r ih =>
    cases i with
    | zero =>
      simp at h; subst h
      simp only [allCells, List.flatMap_cons, Nat.zero_mul, Nat.zero_add]
      rw [List.getElem?_append_left (by simpa [rwCells] using hj)]
    | succ i =>
      simp at h
      have := ih i h
      simp only [allCells, List.flatMap_cons] at this ⊢
      rw [List.getElem?_append_right (by simp [rwCells]; omega), ← this]
      congr 1; simp [rwCells]; omega
theorem memCells_length (l : List Mb) : (memCells l).length = l.length * 3 := by
  induction l with
  | nil => rfl
  | cons p r ih => simp only [memCells, List.flatMap_cons, List.length_append] at ih ⊢; rw [ih]; simp [mbCells]; omega
theorem memCells_at (l : List Mb) (i : Nat) (p : Mb) (h : l[i]? = some p) (j : Nat) (hj : j < 3) : (memCells l)[i * 3 + j]? = (mbCells p)[j]? := by
  induction l generalizing i with
  | nil => simp at h
  | cons q r ih =>
    cases i with
    | zero =>
      simp at h; subst h
      simp only [memCells, List.flatMap_cons, Nat.zero_mul, Nat.zero_add]
      rw [List.getElem?_append_left (by simpa [mbCells] using hj)]
    | succ i =>
      simp at h
      have := ih i h
      simp only [memCells, List.flatMap_cons] at this ⊢
      rw [List.getElem?_append_right (by simp [mbCells]; omega), ← this]
      congr 1; simp [mbCells]; omega

/-- The cells of row i. -/
theorem Tab.cell {B : Nat} {w : World} {b mb : Nat} {v : Value} {rs : List (Rw × Value)} {ps : List (Value × Value)} (h : Tab B w b mb v rs ps) {i : Nat} {p : Rw × Value} (hp : rs[i]? = some p) :
    ∃ g cap, v = .slice (some ⟨g, 0, none⟩) rs.length cap ∧ rs.length ≤ cap ∧ ∀ j, j < 6 → w.cell? ⟨g, i * 6 + j, none⟩ = (rwCells p.1 p.2)[j]? := by
  have hlt : i < rs.length := (List.getElem?_eq_some_iff.1 hp).1
  have hc := h.rows
  obtain ⟨h1, ⟨rfl, h0⟩ | ⟨g, cap, cur, rfl, hb, hg, hcap, _⟩⟩ := hc
  · omega
  · refine ⟨g, cap, rfl, hcap, fun j hj => ?_⟩
    have := h.rows.cells (g := g) rfl (i * 6 + j)
    cases hu : (rwCells p.1 p.2)[j]? with
    | none => simp [rwCells] at hu; omega
    | some u =>
      have := this u (by rw [allCells_at rs i p hp j hj]; exact hu)
      have e : ((⟨g, 0, none⟩ : Addr).add (i * 6 + j)) = ⟨g, i * 6 + j, none⟩ := by
        simp [Addr.add]; rintro h1 h2; omega
      rw [e] at this; exact this

/-- A new row at the end: what append and the store of the slice leave. -/
theorem Tab.snoc {B : Nat} {w w1 w2 : World} {b mb : Nat} {v v' s : Value} {rs : List (Rw × Value)} {ps : List (Value × Value)} {r : Rw} (h : Tab B w b mb v rs ps) (hg : w.grownBy w1 v.ownBlock)
    (hr : w1.ownsRow B TR 6 v' (rs.length + 1) (allCells rs ++ rwCells r s)) (hat : v'.ownBlock = v.ownBlock ∨ v'.ownBlock = some w.heap.size)
    (h2 : Turned w1 w2 (fun k => k = b)) (hb2 : w2.heap[b]? = some (.cells #[v', .map (some mb)] 111 (0, 0)))
    (hs : w.ownsRow B TM 3 s r.mem.length (memCells r.mem)) (hl : rs.length < 512) : Tab B w2 b mb v' (rs ++ [(r, s)]) ps ∧ Turned w w2 (own b mb v) := by
  have t1 : Turned w w1 (own b mb v) := Turned.of_grown hg (fun k hk => Or.inr (Or.inr hk))
  have t2 : Turned w w2 (own b mb v) := t1.trans h2 (fun i _ hi => Or.inl hi)
  have hv'b : ∀ k, v'.ownBlock = some k → k ≠ b := by
    intro k hk
    rcases hat with e | e
    · exact (h.v_b (e ▸ hk)).1
    · rw [e] at hk; cases hk; exact Nat.ne_of_gt (lt_of_heap h.tab)
  refine ⟨⟨h.bB, h.mB, hb2, ?_, ?_, ?_, h.wf, by simp; omega⟩, t2⟩
  · have := ownsRow_turned hr h2 hv'b
    simpa [allCells] using this
  · intro p hp
    rw [List.mem_append, List.mem_singleton] at hp
    rcases hp with hp | rfl
    · exact ownsRow_turned (h.mems p hp) t2 (fun k hk => h.m_own hp hk)
    · refine ownsRow_turned hs t2 (fun k hk => ?_)
      obtain ⟨_, cur, hc⟩ := ownsRow_at hs hk
      rintro (rfl | rfl | hv)
      · have := h.tab; rw [hc] at this; injection this with h1; injection h1 with _ h2; exact absurd h2 (by decide)
      · obtain ⟨es, ck, hm, _⟩ := h.map; rw [hc] at hm; cases hm
      · obtain ⟨_, cur', hc'⟩ := ownsRow_at h.rows hv
        rw [hc] at hc'; injection hc' with h1; injection h1 with _ h2; exact absurd h2 (by decide)
  · obtain ⟨es, ck, hm, r⟩ := h.map
    refine ⟨es, ck, ?_, r⟩
    have hmb := lt_of_heap hm
    rw [h2.block mb (Nat.lt_of_lt_of_le hmb hg.size) (fun e => h.b_mb e.symm), hg.block mb hmb (fun e => (h.v_b e.symm).2 rfl)]
    exact hm

/-- A new pair in the map. -/
theorem Tab.store {B : Nat} {w : World} {b mb : Nat} {v : Value} {rs : List (Rw × Value)} {ps : List (Value × Value)} (h : Tab B w b mb v rs ps) {k e n : Int} {val : Value} (hk : wf64 k) (he : wf64 e) (hn : wf64 n)
    {es : Array MapEntry} {ck : Nat} (hm : w.heap[mb]? = some (.map es ck)) (hes : es.toList.map (fun e => (e.key, e.val)) = ps) :
    Tab B (ChangeMaps.setBlock w mb (.map (es.push ⟨keyV k e n, val, ck⟩) (ck + 1))) b mb v rs (ps ++ [(keyV k e n, val)]) ∧ Turned w (ChangeMaps.setBlock w mb (.map (es.push ⟨keyV k e n, val, ck⟩) (ck + 1))) (own b mb v) := by
  have hT : Turned w (ChangeMaps.setBlock w mb (.map (es.push ⟨keyV k e n, val, ck⟩) (ck + 1))) (fun i => i = mb) :=
    ⟨rfl, rfl, rfl, by simp [ChangeMaps.setBlock], fun i _ hi => ChangeMaps.heap_setBlock_other hm _ hi⟩
  refine ⟨⟨h.bB, h.mB, ?_, ownsRow_turned h.rows hT (fun i hi => (h.v_b hi).2), fun p hp => ownsRow_turned (h.mems p hp) hT (fun i hi e => h.m_own hp hi (Or.inr (Or.inl e))), ⟨_, _, ChangeMaps.heap_setBlock_same hm _, by simp [hes]⟩, ?_, h.len⟩, hT.mono (fun i hi => Or.inr (Or.inl hi))⟩
  · rw [hT.block b (lt_of_heap h.tab) h.b_mb]; exact h.tab
  · intro kv hkv
    rw [List.mem_append, List.mem_singleton] at hkv
    rcases hkv with hkv | rfl
    · exact h.wf kv hkv
    · exact ⟨k, e, n, rfl, hk, he, hn⟩
end Go.Proofs.YtlcghlfmaohfeaaGreat
