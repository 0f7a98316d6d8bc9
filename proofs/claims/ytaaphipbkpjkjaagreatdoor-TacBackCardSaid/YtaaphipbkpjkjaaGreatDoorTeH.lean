/-
  A function without slots is read: function of package tac's reader, where it does not give up.
-/
import Derived.Test.YtaaphipbkpjkjaaGreatDoorKQ
import Derived.Test.YtaaphipbkpjkjaaGreatDoorKK
import Derived.Deep.RegionHeld3
import Derived.Test.YtaaphipbkpjkjaaGreatDoorTdH
namespace Go.Proofs.YtaaphipbkpjkjaaGreatDoor
open Go.RowKit Go.Maps
set_option linter.unusedVariables false
set_option linter.unusedSimpArgs false
set_option maxRecDepth 100000
def givesW : ByteArray := ⟨#[103, 105, 118, 101, 115]⟩
def slotWd : ByteArray := ⟨#[115, 108, 111, 116]⟩
def opFind (s : ByteArray) : Option In := (opsL.find? fun p => decide (p.1 = s)).map (·.2)
/-- The line of an instruction. -/
def lineR (x : In) (l : ByteArray) : Option In := match fldsR (fieldTab.getD x.op.toNat []) x (splitL l 32).tail with
  | some (y, []) => some y
  | _ => none
/-- The lines of a function's code, and what stands behind them. -/
def codeR : List ByteArray → Option (List In × List ByteArray)
  | [] => some ([], [])
  | l :: r => match opFind (cutW l) with
    | none => some ([], l :: r)
    | some x => match lineR x l with
      | some y => (codeR r).map fun p => (y :: p.1, p.2)
      | none => none
def lenAt (w : World) (rb : Nat) : Nat := match w.cell? ⟨rb, 0, none⟩ with
  | some (.slice _ n _) => n
  | _ => 0
theorem lenAt_eq {w : World} {rb mb : Nat} {ls ws : List ByteArray} (h : RdT w rb mb ls ws) : lenAt w rb = ls.length := by
  obtain ⟨⟨lp, lc, wp, wc, hg, _⟩, _⟩ := h
  unfold lenAt
  rw [(Lib.cell_of_heap hg 0).trans rfl]
  rfl
def insC (l : List In) : List Value := l.flatMap fun x => inCells x (.slice none 0 0)
def zFn : Array Value := #[.string ⟨#[]⟩, .int .i64 0, .int .i64 0, .bool false, .slice none 0 0, .slice none 0 0]
theorem SH.drewN {W0 Y : World} (h : SH W0 Y) (n : Nat) : SH W0 (Y.drewN n) := Below.trans h (below_drewN _ Y n)
def zIn : Array Value := #[.int .i64 0, .int .i64 0, .int .i64 0, .int .i64 0, .int .u32 0, .int .i64 0, .int .u32 0, .int .i64 0, .int .i64 0, .int .i64 0, .bool false, .slice none 0 0]
theorem storeIn (wr : World) (c : Array Value) (hs : c.size = 12) (h1 : c.all (·.oneCell') = true) (n : Nat) : (Instr.storeAt TIn (.pointer (some ⟨wr.heap.size, 0, none⟩)) (.agg c)).run Tryz.prog ((wr.alloc (.cells zIn TIn)).drewN n) = .ok () ((wr.alloc (.cells c TIn)).drewN n) :=
  run_storeAt_new (P := Tryz.prog) (wr.drewN n) TIn zIn c (by rw [hs]; kernel_rfl) (by rw [hs]; rfl) h1
theorem storeIn2 (wr : World) (c : Array Value) (hs : c.size = 12) (h1 : c.all (·.oneCell') = true) (n : Nat) : (storeCells ⟨wr.heap.size, 0, none⟩ c.toList 0).run Tryz.prog ((wr.alloc (.cells zIn TIn)).drewN n) = .ok () ((wr.alloc (.cells c TIn)).drewN n) :=
  run_storeCells_new (P := Tryz.prog) (wr.drewN n) TIn zIn c (by rw [hs]; kernel_rfl) (by rw [hs]; rfl) h1
theorem SH.set1 {W0 Y : World} (h : SH W0 Y) {j : Nat} {v : Value} : SH W0 (Y.setCell ⟨W0.heap.size, j, none⟩ v) := below_turned h (Turned.setCell Y W0.heap.size j v rfl) (Nat.le_refl _)
/-- A call of a Go function by its contract, as one step of a region that draws its order. -/
theorem step_call_fn {P : Program} {ops : Array Oper} {o : Oper} {a : Act} {w : World} {K : Act → World → Prop} {Q : Exit → Act → World → Prop} {E : Prop} (hg : o.guard = none) (f : FuncId) (args : Array Value)
    (hrun : (execOp a.eval o).run P w = .ok (.enter f args) w) {R : Ending → World → Prop} (hc : Calls P f args w R)
    (h : ∀ e w', R e w' → ∃ v, e = .returned v ∧ K (a.put o.dst v) w') : if Region.wanted o (yielded ops a.tmps) = true then Oper.wp P o a w K Q else E := by
  have hw : Region.wanted o (yielded ops a.tmps) = true := by simp [Region.wanted, hg]
  rw [if_pos hw]
  unfold Oper.wp
  rw [hrun, Oper.upon_enter]
  refine hc.mono fun e w'' hh => ?_
  obtain ⟨v, rfl, hk⟩ := h e w'' hh
  exact hk
theorem RdT.offS {w w' : World} {rb mb : Nat} {ls ws : List ByteArray} {S : Nat → Prop} {ty : TypeId} (h : RdT w rb mb ls ws) (ht : Turned w w' S) (hb : ∀ k, S k → ∃ cs, w.heap[k]? = some (.cells cs ty (0, 0))) (h1 : ty ≠ TRd) (h2 : ty ≠ TStr) : RdT w' rb mb ls ws := by
  obtain ⟨⟨lp, lc, wp, wc, hg, hl, hw⟩, hm, hll, hwl⟩ := h
  have ne : ∀ {k : Nat} {o : Obj}, w.heap[k]? = some o → (∀ cs, o ≠ .cells cs ty (0, 0)) → ¬ S k := fun {k o} hk hn hs => by
    obtain ⟨cs, e⟩ := hb k hs
    rw [hk] at e
    exact hn cs (Option.some.inj e)
  have sv : ∀ {p : Option Addr} {cap : Nat} {l : List ByteArray}, StrV w p cap l → StrV w' p cap l := fun h =>
    ⟨h.1, fun hn => by
      obtain ⟨g, o, cs, e, q1, q2⟩ := h.2 hn
      exact ⟨g, o, cs, e, blk_t q1 ht (ne q1 (fun cs' e => by injection e with _ e; exact h2 e.symm)), q2⟩⟩
  refine ⟨⟨lp, lc, wp, wc, blk_t hg ht (ne hg (fun cs' e => by injection e with _ e; exact h1 e.symm)), sv hl, sv hw⟩, hm.turned ht ?_, hll, hwl⟩
  obtain ⟨es, ck, q, _⟩ := hm
  exact ne q (fun cs' e => by cases e)
theorem insC_snoc (l : List In) (y : In) : insC (l ++ [y]) = insC l ++ inCells y (.slice none 0 0) := by simp [insC]
theorem infoIn : (Tryz.prog.info? TIn).map (fun i => (i.zero, i.size, i.bytes)) = some (some (.agg #[.int .i64 0, .int .i64 0, .int .i64 0, .int .i64 0, .int .u32 0, .int .i64 0, .int .u32 0, .int .i64 0, .int .i64 0, .int .i64 0, .bool false, .slice none 0 0]), 12, 112) := by kernel_rfl
theorem codeR_cons (l : ByteArray) (r : List ByteArray) {x : In} (h : opFind (cutW l) = some x) {cr : List In} {ls2 : List ByteArray} (hc : codeR (l :: r) = some (cr, ls2)) : ∃ y cr', lineR x l = some y ∧ codeR r = some (cr', ls2) ∧ cr = y :: cr' := by
  unfold codeR at hc
  rw [h] at hc
  simp only at hc
  split at hc
  · rename_i y hy
    obtain ⟨p, hp, e⟩ := Option.map_eq_some_iff.1 hc
    injection e with e1 e2
    exact ⟨y, p.1, hy, by rw [hp, ← e2], e1.symm⟩
  · cases hc
theorem codeR_stop {ls : List ByteArray} (h : opFind (firstW ls) = none) {cr : List In} {ls2 : List ByteArray} (hc : codeR ls = some (cr, ls2)) : cr = [] ∧ ls2 = ls := by
  cases ls with
  | nil => injection hc with hc; injection hc with e1 e2; exact ⟨e1.symm, e2.symm⟩
  | cons l r =>
    unfold codeR at hc
    rw [show opFind (cutW l) = none from h] at hc
    injection hc with hc; injection hc with e1 e2; exact ⟨e1.symm, e2.symm⟩
theorem set12 {w : World} {b : Nat} {t : TypeId} {a0 a1 a2 a3 a4 a5 a6 a7 a8 a9 a10 a11 : Value} (h : w.heap[b]? = some (.cells #[a0, a1, a2, a3, a4, a5, a6, a7, a8, a9, a10, a11] t (0, 0))) (v0 v1 v2 v3 v4 v5 v6 v7 v8 v9 v10 v11 : Value) :
    ((((((((((((w.setCell ⟨b, 0, none⟩ v0).setCell ⟨b, 1, none⟩ v1).setCell ⟨b, 2, none⟩ v2).setCell ⟨b, 3, none⟩ v3).setCell ⟨b, 4, none⟩ v4).setCell ⟨b, 5, none⟩ v5).setCell ⟨b, 6, none⟩ v6).setCell ⟨b, 7, none⟩ v7).setCell ⟨b, 8, none⟩ v8).setCell ⟨b, 9, none⟩ v9).setCell ⟨b, 10, none⟩ v10).setCell ⟨b, 11, none⟩ v11).heap[b]? = some (.cells #[v0, v1, v2, v3, v4, v5, v6, v7, v8, v9, v10, v11] t (0, 0)) := by
  have h0 : (w.setCell ⟨b, 0, none⟩ v0).heap[b]? = some (.cells #[v0, a1, a2, a3, a4, a5, a6, a7, a8, a9, a10, a11] t (0, 0)) := heap_setCell (j := 0) h v0
  have h1 : ((w.setCell ⟨b, 0, none⟩ v0).setCell ⟨b, 1, none⟩ v1).heap[b]? = some (.cells #[v0, v1, a2, a3, a4, a5, a6, a7, a8, a9, a10, a11] t (0, 0)) := heap_setCell (j := 1) h0 v1
  have h2 : (((w.setCell ⟨b, 0, none⟩ v0).setCell ⟨b, 1, none⟩ v1).setCell ⟨b, 2, none⟩ v2).heap[b]? = some (.cells #[v0, v1, v2, a3, a4, a5, a6, a7, a8, a9, a10, a11] t (0, 0)) := heap_setCell (j := 2) h1 v2
  have h3 : ((((w.setCell ⟨b, 0, none⟩ v0).setCell ⟨b, 1, none⟩ v1).setCell ⟨b, 2, none⟩ v2).setCell ⟨b, 3, none⟩ v3).heap[b]? = some (.cells #[v0, v1, v2, v3, a4, a5, a6, a7, a8, a9, a10, a11] t (0, 0)) := heap_setCell (j := 3) h2 v3
  have h4 : (((((w.setCell ⟨b, 0, none⟩ v0).setCell ⟨b, 1, none⟩ v1).setCell ⟨b, 2, none⟩ v2).setCell ⟨b, 3, none⟩ v3).setCell ⟨b, 4, none⟩ v4).heap[b]? = some (.cells #[v0, v1, v2, v3, v4, a5, a6, a7, a8, a9, a10, a11] t (0, 0)) := heap_setCell (j := 4) h3 v4
  have h5 : ((((((w.setCell ⟨b, 0, none⟩ v0).setCell ⟨b, 1, none⟩ v1).setCell ⟨b, 2, none⟩ v2).setCell ⟨b, 3, none⟩ v3).setCell ⟨b, 4, none⟩ v4).setCell ⟨b, 5, none⟩ v5).heap[b]? = some (.cells #[v0, v1, v2, v3, v4, v5, a6, a7, a8, a9, a10, a11] t (0, 0)) := heap_setCell (j := 5) h4 v5
  have h6 : (((((((w.setCell ⟨b, 0, none⟩ v0).setCell ⟨b, 1, none⟩ v1).setCell ⟨b, 2, none⟩ v2).setCell ⟨b, 3, none⟩ v3).setCell ⟨b, 4, none⟩ v4).setCell ⟨b, 5, none⟩ v5).setCell ⟨b, 6, none⟩ v6).heap[b]? = some (.cells #[v0, v1, v2, v3, v4, v5, v6, a7, a8, a9, a10, a11] t (0, 0)) := heap_setCell (j := 6) h5 v6
  have h7 : ((((((((w.setCell ⟨b, 0, none⟩ v0).setCell ⟨b, 1, none⟩ v1).setCell ⟨b, 2, none⟩ v2).setCell ⟨b, 3, none⟩ v3).setCell ⟨b, 4, none⟩ v4).setCell ⟨b, 5, none⟩ v5).setCell ⟨b, 6, none⟩ v6).setCell ⟨b, 7, none⟩ v7).heap[b]? = some (.cells #[v0, v1, v2, v3, v4, v5, v6, v7, a8, a9, a10, a11] t (0, 0)) := heap_setCell (j := 7) h6 v7
  have h8 : (((((((((w.setCell ⟨b, 0, none⟩ v0).setCell ⟨b, 1, none⟩ v1).setCell ⟨b, 2, none⟩ v2).setCell ⟨b, 3, none⟩ v3).setCell ⟨b, 4, none⟩ v4).setCell ⟨b, 5, none⟩ v5).setCell ⟨b, 6, none⟩ v6).setCell ⟨b, 7, none⟩ v7).setCell ⟨b, 8, none⟩ v8).heap[b]? = some (.cells #[v0, v1, v2, v3, v4, v5, v6, v7, v8, a9, a10, a11] t (0, 0)) := heap_setCell (j := 8) h7 v8
  have h9 : ((((((((((w.setCell ⟨b, 0, none⟩ v0).setCell ⟨b, 1, none⟩ v1).setCell ⟨b, 2, none⟩ v2).setCell ⟨b, 3, none⟩ v3).setCell ⟨b, 4, none⟩ v4).setCell ⟨b, 5, none⟩ v5).setCell ⟨b, 6, none⟩ v6).setCell ⟨b, 7, none⟩ v7).setCell ⟨b, 8, none⟩ v8).setCell ⟨b, 9, none⟩ v9).heap[b]? = some (.cells #[v0, v1, v2, v3, v4, v5, v6, v7, v8, v9, a10, a11] t (0, 0)) := heap_setCell (j := 9) h8 v9
  have h10 : (((((((((((w.setCell ⟨b, 0, none⟩ v0).setCell ⟨b, 1, none⟩ v1).setCell ⟨b, 2, none⟩ v2).setCell ⟨b, 3, none⟩ v3).setCell ⟨b, 4, none⟩ v4).setCell ⟨b, 5, none⟩ v5).setCell ⟨b, 6, none⟩ v6).setCell ⟨b, 7, none⟩ v7).setCell ⟨b, 8, none⟩ v8).setCell ⟨b, 9, none⟩ v9).setCell ⟨b, 10, none⟩ v10).heap[b]? = some (.cells #[v0, v1, v2, v3, v4, v5, v6, v7, v8, v9, v10, a11] t (0, 0)) := heap_setCell (j := 10) h9 v10
  have h11 : ((((((((((((w.setCell ⟨b, 0, none⟩ v0).setCell ⟨b, 1, none⟩ v1).setCell ⟨b, 2, none⟩ v2).setCell ⟨b, 3, none⟩ v3).setCell ⟨b, 4, none⟩ v4).setCell ⟨b, 5, none⟩ v5).setCell ⟨b, 6, none⟩ v6).setCell ⟨b, 7, none⟩ v7).setCell ⟨b, 8, none⟩ v8).setCell ⟨b, 9, none⟩ v9).setCell ⟨b, 10, none⟩ v10).setCell ⟨b, 11, none⟩ v11).heap[b]? = some (.cells #[v0, v1, v2, v3, v4, v5, v6, v7, v8, v9, v10, v11] t (0, 0)) := heap_setCell (j := 11) h10 v11
  exact h11
theorem cutW_size (l : ByteArray) : (cutW l).size ≤ l.size := by
  show (Lib.cut l.data.toList [32]).1.toArray.size ≤ l.data.size
  rw [List.size_toArray]
  refine Nat.le_trans (?_ : _ ≤ l.data.toList.length) (by rw [Array.length_toList]; exact Nat.le_refl _)
  unfold Lib.cut
  split
  · rw [List.length_take]; omega
  · exact Nat.le_refl _
theorem opFind_mem {s : ByteArray} {x : In} (h : opFind s = some x) : (s, x) ∈ opsL ∧ ∀ y, (s, y) ∈ opsL → y = x := by
  have huni : ∀ p ∈ opsL, ∀ q ∈ opsL, p.1 = q.1 → p.2.op = q.2.op ∧ p.2.bin = q.2.bin := by decide +kernel
  have hsh : ∀ p ∈ opsL, p.2 = bareI p.2.op p.2.bin := by
    intro p hp
    rcases List.mem_append.1 hp with hp | hp
    · obtain ⟨i, _, rfl⟩ := List.mem_map.1 hp; rfl
    · obtain ⟨i, _, rfl⟩ := List.mem_map.1 hp; rfl
  unfold opFind at h
  obtain ⟨p, hp, rfl⟩ := Option.map_eq_some_iff.1 h
  have h1 := List.mem_of_find?_eq_some hp
  have h2 := List.find?_some hp
  simp only [decide_eq_true_eq] at h2
  subst h2
  refine ⟨h1, fun y hy => ?_⟩
  obtain ⟨e1, e2⟩ := huni p h1 _ hy rfl
  have ey : y = bareI y.op y.bin := hsh _ hy
  have ep := hsh p h1
  simp only at e1 e2
  exact ey.trans ((by rw [e1, e2] : bareI y.op y.bin = bareI p.2.op p.2.bin).trans ep.symm)
theorem opFind_none {s : ByteArray} (h : opFind s = none) : ∀ p ∈ opsL, p.1 ≠ s := by
  intro p hp e
  unfold opFind at h
  rw [Option.map_eq_none_iff, List.find?_eq_none] at h
  exact h p hp (by simpa using e)
theorem opsL_op : ∀ p ∈ opsL, ∃ k : Nat, p.2.op = k ∧ 1 ≤ k ∧ k ≤ 14 := by
  have : ∀ p ∈ opsL, p.2.op = (p.2.op.toNat : Int) ∧ 1 ≤ p.2.op.toNat ∧ p.2.op.toNat ≤ 14 := by decide +kernel
  intro p hp
  exact ⟨_, this p hp⟩
section
variable {w : World} {rb mb : Nat} {ls ws : List ByteArray}
set_option maxHeartbeats 8000000 in
theorem functionR_c (hX : Tabs w) (hF : FormsIn w) (hM : MaxIn w) (hrb : 10 ≤ rb) {nm p1 t1 : ByteArray} {rest : List ByteArray} (hR : RdT w rb mb ls (nm :: p1 :: t1 :: rest)) {pr tp : Int} {gv : Bool} (hp : num64 p1 = some pr) (ht : num64 t1 = some tp) (hg : rest = if gv then [givesW] else [])
    (hns : ((firstW ls).toList == slotWd.toList) = false) {cs : List In} {ls2 : List ByteArray} (hc : codeR ls = some (cs, ls2)) (hcl : cs.length ≤ 1000000) (h8 : ∀ y ∈ cs, ∀ c ∈ fieldTab.getD y.op.toNat [], c ∈ letters8) :
    Calls Tryz.prog 102 #[.pointer (some ⟨rb, 0, none⟩)] w fun e w' => ∃ v, e = .returned (.agg #[.string nm, .int .i64 pr, .int .i64 tp, .bool gv, .slice none 0 0, v]) ∧ w'.ownsRow w.heap.size TIn 12 v cs.length (insC cs) ∧ RdT w' rb mb ls2 [] ∧ Turned w w' (fun k => k = rb) := by
  have hrl : rb < w.heap.size := by obtain ⟨⟨_, _, _, _, hg, _⟩, _⟩ := hR; exact lt_of_heap hg
  have b1 := below1 w (.cells zFn TFn)
  have HN1 : Hid ((w.alloc (.cells zFn TFn)).heap[w.heap.size]? = some (.cells zFn TFn (0, 0))) := heap_r0 w _
  have HB1 : Hid (Below w.heap.size w (w.alloc (.cells zFn TFn))) := b1
  have cW := word_c (hR.below b1)
  have HCN1 : Hid (∀ Y ls r, Tabs Y → RdT Y rb mb ls (p1 :: r) → Calls Tryz.prog 103 #[.pointer (some ⟨rb, 0, none⟩)] Y fun e w' => e = .returned (.int .i64 pr) ∧ RdT w' rb mb ls r ∧ Turned Y w' (fun k => k = rb)) := fun Y ls r hY hR => number_c hY hrb hR (num64_ok hp).1 (num64_ok hp).2.1 (num64_ok hp).2.2
  have HCN2 : Hid (∀ Y ls r, Tabs Y → RdT Y rb mb ls (t1 :: r) → Calls Tryz.prog 103 #[.pointer (some ⟨rb, 0, none⟩)] Y fun e w' => e = .returned (.int .i64 tp) ∧ RdT w' rb mb ls r ∧ Turned Y w' (fun k => k = rb)) := fun Y ls r hY hR => number_c hY hrb hR (num64_ok ht).1 (num64_ok ht).2.1 (num64_ok ht).2.2
  have HCF : Hid (∀ Y ls, RdT Y rb mb ls rest → Calls Tryz.prog 121 #[.pointer (some ⟨rb, 0, none⟩), .string ⟨#[103, 105, 118, 101, 115]⟩] Y fun e w' => e = .returned (.bool gv) ∧ RdT w' rb mb ls [] ∧ Turned Y w' (fun k => k = rb)) := fun Y ls hR => by
    cases gv with
    | true =>
      simp only [if_true] at hg
      rw [hg] at hR
      exact flag_yes hR rfl
    | false =>
      simp only [Bool.false_eq_true, if_false] at hg
      rw [hg] at hR
      refine (flag_none hR _).mono ?_
      rintro e w' ⟨rfl, rfl⟩
      exact ⟨rfl, hR, Turned.refl _ _⟩
  have HX : Hid (∀ Y, Turned w Y (fun k => k = rb) → Tabs Y) := fun Y hY => hX.turned hY hrb
  have HFO : Hid (∀ Y, Turned w Y (fun k => k = rb) → FormsIn Y) := fun Y hY => hF.turned hY hrb
  have HM : Hid (∀ Y, Turned w Y (fun k => k = rb) → MaxIn Y) := fun Y hY => hM.turned hY (by omega)
  have HC : Hid (codeR ls = some (cs, ls2)) := hc
  have H8 : Hid (∀ y ∈ cs, ∀ c ∈ fieldTab.getD y.op.toNat [], c ∈ letters8) := h8
  have HNS : Hid (((firstW ls).toList == slotWd.toList) = false) := hns
  clear hX hF hM hR hp ht hg hc h8 hns b1
  go_enter Tryz.func102, Tryz.ntmps102
  go_upto_region 1 with (fail)
  refine (?_ : Code.wp _ _ _ _ (w.alloc (.cells zFn TFn)))
  generalize w.alloc (.cells zFn TFn) = W1 at *
  go_upto_region 2 with (first
    | (go_at_call 119; refine cW.mono ?_; rintro e w1 ⟨rfl, hR1, hT1⟩; have HT1 : Hid (Turned w w1 (fun k => k = rb)) := (Turned.of_below HB1.out _).trans hT1 (fun _ _ h => h); have cN1 := HCN1.out w1 _ _ (HX.out _ HT1.out) hR1; have HZ1 : Hid (w1.heap[w.heap.size]? = some (.cells zFn TFn (0, 0))) := blk_t HN1.out hT1 (by omega); clear hR1 hT1 cW)
    | (go_at_call 103; refine cN1.mono ?_; rintro e w2 ⟨rfl, hR2, hT2⟩; have HT2 : Hid (Turned w w2 (fun k => k = rb)) := HT1.out.trans hT2 (fun _ _ h => h); have cN2 := HCN2.out w2 _ _ (HX.out _ HT2.out) hR2; have HZ2 : Hid (w2.heap[w.heap.size]? = some (.cells zFn TFn (0, 0))) := blk_t HZ1.out hT2 (by omega); clear hR2 hT2 cN1)
    | (go_at_call 103; refine cN2.mono ?_; rintro e w3 ⟨rfl, hR3, hT3⟩; have HT3 : Hid (Turned w w3 (fun k => k = rb)) := HT2.out.trans hT3 (fun _ _ h => h); have cFl := HCF.out w3 _ hR3; have HZ3 : Hid (w3.heap[w.heap.size]? = some (.cells zFn TFn (0, 0))) := blk_t HZ2.out hT3 (by omega); clear hR3 hT3 cN2)
    | (go_at_call 121; refine cFl.mono ?_; rintro e w4 ⟨rfl, hR4, hT4⟩; have HR4 : Hid (RdT w4 rb mb ls []) := hR4; have HT4 : Hid (Turned w w4 (fun k => k = rb)) := HT3.out.trans hT4 (fun _ _ h => h); have HZ4 : Hid (w4.heap[w.heap.size]? = some (.cells zFn TFn (0, 0))) := blk_t HZ3.out hT4 (by omega); have hold := heap_r0 w4 (.cells zFn TFn); clear hR4 hT4 cFl)
    | ((with_reducible apply step_store hold); rfl; rfl; kernel_rfl; rfl; kernel_rfl; rw [World.setRow_alloc_new])
    | fail)
  have b5 := below1 w4 (.cells #[.string nm, .int .i64 pr, .int .i64 tp, .bool gv, .slice none 0 0, .slice none 0 0] TFn)
  have HF5 : Hid ((w4.alloc (.cells #[.string nm, .int .i64 pr, .int .i64 tp, .bool gv, .slice none 0 0, .slice none 0 0] TFn)).heap[w4.heap.size]? = some (.cells #[.string nm, .int .i64 pr, .int .i64 tp, .bool gv, .slice none 0 0, .slice none 0 0] TFn (0, 0))) := heap_r0 w4 _
  have HZ5 : Hid ((w4.alloc (.cells #[.string nm, .int .i64 pr, .int .i64 tp, .bool gv, .slice none 0 0, .slice none 0 0] TFn)).heap[w.heap.size]? = some (.cells zFn TFn (0, 0))) := blk_b HZ4.out b5
  have HR5 : Hid (RdT (w4.alloc (.cells #[.string nm, .int .i64 pr, .int .i64 tp, .bool gv, .slice none 0 0, .slice none 0 0] TFn)) rb mb ls []) := HR4.out.below b5
  have HT5 : Hid (Turned w (w4.alloc (.cells #[.string nm, .int .i64 pr, .int .i64 tp, .bool gv, .slice none 0 0, .slice none 0 0] TFn)) (fun k => k = rb)) := HT4.out.bel b5
  have hfb : w.heap.size < w4.heap.size := lt_of_heap HZ4.out
  generalize w4.alloc (.cells #[.string nm, .int .i64 pr, .int .i64 tp, .bool gv, .slice none 0 0, .slice none 0 0] TFn) = W5 at *
  generalize w4.heap.size = fb at *
  clear HT1 HZ1 HT2 HZ2 HT3 HZ3 HR4 HT4 HZ4 b5 hold HCN1 HCN2 HCF HN1 HB1
  have cD := done_c HR5.out
  go_wp2_with (first | (go_at_call 104; refine cD.mono ?_; rintro e w' ⟨rfl, hw⟩; rw [hw]; clear hw w' cD) | fail)
  go_loopw [18] (fun s3 wr => Hid (wr = W5)) (fun _ _ => 0)
  case atStart => exact rfl
  case round =>
    obtain rfl : wr = W5 := hrel
    have cB := begins_no HR5.out (HM.out _ HT5.out) HNS.out
    unfold slotWd at cB
    go_wp2_with (first | (go_at_call 100; refine cB.mono ?_; rintro e w6 ⟨rfl, hb6⟩; have HR6 : Hid (RdT w6 rb mb ls []) := HR5.out.below hb6; have HT6 : Hid (Turned w w6 (fun k => k = rb)) := HT5.out.bel hb6; have HF6 : Hid (w6.heap[fb]? = some (.cells #[.string nm, .int .i64 pr, .int .i64 tp, .bool gv, .slice none 0 0, .slice none 0 0] TFn (0, 0))) := blk_b HF5.out hb6; have HZ6 : Hid (w6.heap[w.heap.size]? = some (.cells zFn TFn (0, 0))) := blk_b HZ5.out hb6; clear hb6 cB) | fail)
    clear HF5 HZ5 HR5 HT5 HNS
    go_loopw [5] (fun s5 wr => ∃ (ls' : List ByteArray) (cd cr : List In) (v : Value), Hid (codeR ls' = some (cr, ls2)) ∧ Hid (cs = cd ++ cr) ∧ Hid (wr.heap[fb]? = some (.cells #[.string nm, .int .i64 pr, .int .i64 tp, .bool gv, .slice none 0 0, v] TFn (0, 0))) ∧ Hid (wr.ownsRow w.heap.size TIn 12 v cd.length (insC cd)) ∧ Hid (wr.heap[w.heap.size]? = some (.cells zFn TFn (0, 0))) ∧ Hid (RdT wr rb mb ls' []) ∧ Hid (Turned w wr (fun k => k = rb))) (fun _ wr => lenAt wr rb)
    case atStart => exact ⟨ls, [], cs, .slice none 0 0, HC, rfl, HF6, ⟨rfl, Or.inl ⟨rfl, rfl⟩⟩, HZ6, HR6, HT6⟩
    case round =>
      rename World => wr
      obtain ⟨ls', cd, cr, v, HCR, HCS, HFB, HOW, HZB, HRR, HTR⟩ := hrel
      obtain ⟨vp, vc, rfl⟩ := slice_of_own HOW.out
      have HTW : Hid (w.heap.size ≤ wr.heap.size) := HTR.out.size
      have hCF : ∀ Y, SH wr Y → Calls Tryz.prog 118 #[.pointer (some ⟨rb, 0, none⟩)] Y fun e w' => e = .returned (.string (firstW ls')) ∧ Below Y.heap.size Y w' := fun Y h => first_c (HRR.out.below h) ((HM.out _ HTR.out).below h)
      have HCF : Hid (∀ Y, SH wr Y → Calls Tryz.prog 118 #[.pointer (some ⟨rb, 0, none⟩)] Y fun e w' => e = .returned (.string (firstW ls')) ∧ Below Y.heap.size Y w') := hCF
      obtain ⟨rlp, rlc, rwp, rwc, hrg, _, _⟩ := HRR.out.ex
      have L2 : ∀ Y, SH wr Y → Y.cell? ⟨rb, 2, none⟩ = some (.map (some mb)) := fun Y h => h.cell hrg (Lib.cell_of_heap hrg 2)
      have hfs : (firstW ls').size ≤ maxLen := by
        cases ls' with
        | nil => show (0 : Nat) ≤ maxLen; omega
        | cons l r =>
          have h1 := HRR.out.ll.2 l List.mem_cons_self
          have h2 := cutW_size l
          show (cutW l).size ≤ maxLen
          unfold maxLen
          omega
      clear hCF
      cases hof : opFind (firstW ls') with
      | none =>
        have LK : ∀ Y, SH wr Y → (Instr.lookup TMi (.map (some mb)) (.string (firstW ls')) true).run Tryz.prog Y = .ok (.tuple #[inV (⟨0, 0, 0, ⟨0, 0⟩, ⟨0, 0⟩, 0, 0, 0, false, []⟩ : In), .bool false]) Y := fun Y h => (HRR.out.mp.below h).none hfs (opFind_none hof)
        simp only [inV, inCells] at LK
        go_upto_region 6 with (fail)
        go_cut [4, 5] from 31 to 40 (fun s4 s5 wx => ∃ g4, s4 = .pointer (some ⟨g4, 0, none⟩) ∧ s5 = .bool false ∧ Hid (SH wr wx))
        case first =>
          have HSH : SH wr wr := SH.refl wr
          generalize firstW ls' = fw at *
          have HSD : SH wr wr.drew := SH.drew HSH
          have HSA : SH wr (wr.alloc (.cells #[.int .i64 0, .int .i64 0, .int .i64 0, .int .i64 0, .int .u32 0, .int .i64 0, .int .u32 0, .int .i64 0, .int .i64 0, .int .i64 0, .bool false, .slice none 0 0] TIn)).drew := SH.drew (SH.alloc HSH _)
          have HNA : Hid ((wr.alloc (.cells #[.int .i64 0, .int .i64 0, .int .i64 0, .int .i64 0, .int .u32 0, .int .i64 0, .int .u32 0, .int .i64 0, .int .i64 0, .int .i64 0, .bool false, .slice none 0 0] TIn)).drew.heap[wr.heap.size]? = some (.cells #[.int .i64 0, .int .i64 0, .int .i64 0, .int .i64 0, .int .u32 0, .int .i64 0, .int .u32 0, .int .i64 0, .int .i64 0, .int .i64 0, .bool false, .slice none 0 0] TIn (0, 0))) := heap_r0 wr _
          go_region_held3 (fun Y => SH wr Y) (with_reducible first | assumption | (refine SH.drew ?_; assumption) | (refine SH.alloc ?_ _; assumption) | (refine SH.drew ?_; refine SH.alloc ?_ _; assumption) | ((iterate 12 refine SH.set1 ?_); assumption)) (first
            | (go_at_call 118; (with_reducible refine (HCF.out wr.drew HSD).mono ?_); rintro e y1 ⟨rfl, hy1⟩; have HY1 : SH wr y1 := SH.below HSD hy1; clear hy1)
            | (go_at_call 118; (with_reducible refine (HCF.out (wr.alloc (.cells #[.int .i64 0, .int .i64 0, .int .i64 0, .int .i64 0, .int .u32 0, .int .i64 0, .int .u32 0, .int .i64 0, .int .i64 0, .int .i64 0, .bool false, .slice none 0 0] TIn)).drew HSA).mono ?_); rintro e y1 ⟨rfl, hy1⟩; have HY1 : SH wr y1 := SH.below HSA hy1; have hn1 := blk_b HNA.out hy1; obtain ⟨z0, z1, z2, z3, z4, z5, z6, z7, z8, z9, z10, z11⟩ := cells12 hn1; have fz := frozen_of hn1; have HN1 : Hid (y1.heap[wr.heap.size]? = some (.cells #[.int .i64 0, .int .i64 0, .int .i64 0, .int .i64 0, .int .u32 0, .int .i64 0, .int .u32 0, .int .i64 0, .int .i64 0, .int .i64 0, .bool false, .slice none 0 0] TIn (0, 0))) := hn1; clear hy1 hn1))
          all_goals go_wp2_with fail
          all_goals go_meet
          all_goals exact ⟨_, rfl, rfl, show SH wr _ by with_reducible assumption⟩
        case rest =>
          obtain ⟨g4, rfl, rfl, HSC⟩ := hcut
          rename World => wc
          obtain ⟨hcr, hl2⟩ := codeR_stop hof HCR.out
          have hcs := HCS.out
          rw [hcr, List.append_nil] at hcs
          subst hcs hl2
          have hfb2 := blk_b HFB.out HSC.out
          have hzb2 := blk_b HZB.out HSC.out
          have q0 := (Lib.cell_of_heap hfb2 0).trans rfl
          have q1 := (Lib.cell_of_heap hfb2 1).trans rfl
          have q2 := (Lib.cell_of_heap hfb2 2).trans rfl
          have q3 := (Lib.cell_of_heap hfb2 3).trans rfl
          have q4 := (Lib.cell_of_heap hfb2 4).trans rfl
          have q5 := (Lib.cell_of_heap hfb2 5).trans rfl
          have nf := not_f
          have HRc : Hid (RdT wc rb mb ls2 []) := HRR.out.below HSC.out
          have HTc : Hid (Turned w wc (fun k => k = rb)) := HTR.out.bel HSC.out
          have HOc : Hid (wc.ownsRow w.heap.size TIn 12 (.slice vp cs.length vc) cs.length (insC cs)) := ownsRow_turned HOW.out (Turned.of_below HSC.out (fun _ => False)) (fun _ _ h => h)
          clear LK L2 hof hcr
          go_wp2_with (first | ((with_reducible apply step_store hzb2); rfl; rfl; kernel_rfl; rfl; kernel_rfl) | fail)
          have g9 : (wc.setRow w.heap.size #[.string nm, .int .i64 pr, .int .i64 tp, .bool gv, .slice none 0 0, .slice vp cs.length vc]).heap[w.heap.size]? = some (.cells #[.string nm, .int .i64 pr, .int .i64 tp, .bool gv, .slice none 0 0, .slice vp cs.length vc] TFn (0, 0)) := setRow_heap _ _ _ _ _ _ hzb2
          have t9 : Turned wc (wc.setRow w.heap.size #[.string nm, .int .i64 pr, .int .i64 tp, .bool gv, .slice none 0 0, .slice vp cs.length vc]) (fun k => k = w.heap.size) := Turned.setRow wc _ _ rfl
          have p0 := (Lib.cell_of_heap g9 0).trans rfl
          have p1 := (Lib.cell_of_heap g9 1).trans rfl
          have p2 := (Lib.cell_of_heap g9 2).trans rfl
          have p3 := (Lib.cell_of_heap g9 3).trans rfl
          have p4 := (Lib.cell_of_heap g9 4).trans rfl
          have p5 := (Lib.cell_of_heap g9 5).trans rfl
          refine bodyPost_ret (v := .agg #[.string nm, .int .i64 pr, .int .i64 tp, .bool gv, .slice none 0 0, .slice vp cs.length vc]) (by simp [results, Tryz.results102, go_sem, p0, p1, p2, p3, p4, p5]) rfl ⟨_, rfl, ?_, HRc.out.off t9 hzb2 (by decide) (by decide), HTc.out.trans t9 (fun i hi e => by omega)⟩
          exact ownsRow_turned HOc.out t9 (fun k hk e => by
            obtain ⟨_, cur, hcur⟩ := ownsRow_at HOc.out hk
            rw [e, hzb2] at hcur
            injection hcur with h1
            injection h1 with _ h2
            exact absurd h2 (by decide))
      | some x =>
        obtain ⟨l, r, rfl⟩ : ∃ l r, ls' = l :: r := by
          cases ls' with
          | nil => exact absurd hof (by have : opFind (firstW []) = none := by decide +kernel
                                        rw [this]; simp)
          | cons l r => exact ⟨l, r, rfl⟩
        have hof2 : opFind (cutW l) = some x := hof
        obtain ⟨hmem, huniq⟩ := opFind_mem hof
        obtain ⟨y, cr', hly, hcr2, hcre⟩ := codeR_cons l r hof2 HCR.out
        obtain ⟨ko, hko, hko1, hko2⟩ := opsL_op _ hmem
        simp only at hko
        obtain ⟨lf, hlf⟩ : ∃ lf, fieldTab[ko]? = some lf := ⟨_, List.getElem?_eq_getElem (show ko < fieldTab.length by show ko < 15; omega)⟩
        have hlfd : fieldTab.getD x.op.toNat [] = lf := by rw [hko]; simp [List.getD, hlf]
        have hflds : fldsR lf x (splitL l 32).tail = some (y, []) := by
          unfold lineR at hly
          rw [hlfd] at hly
          split at hly
          · rename_i z hz; injection hly with hly; subst hly; exact hz
          · cases hly
        have hyop : y.op = x.op := by
          have : ∀ (l : List Nat) (x : In) (ws : List ByteArray) (p : In × List ByteArray), fldsR l x ws = some p → p.1.op = x.op := by
            intro l
            induction l with
            | nil => intro x ws p h; injection h with h; subst h; rfl
            | cons c l ih =>
              intro x ws p h
              cases e : fldR c x ws with
              | none => rw [fldsR, e] at h; cases h
              | some q => rw [fldsR, e] at h; rw [ih _ _ _ h]; exact (fldR_args (x' := q.1) (ws' := q.2) e).2
          exact this lf x _ _ hflds
        have hl8 : ∀ c ∈ lf, c ∈ letters8 := by
          have := H8.out y (by rw [HCS.out, hcre]; simp)
          rw [hyop, hlfd] at this
          exact this
        have LK : ∀ Y, SH wr Y → (Instr.lookup TMi (.map (some mb)) (.string (firstW (l :: r))) true).run Tryz.prog Y = .ok (.tuple #[inV x, .bool true]) Y := fun Y h => (HRR.out.mp.below h).some hfs hmem huniq
        simp only [inV, inCells] at LK
        have HXARGS : Hid (∀ Y, Tabs Y → FormsIn Y → RdT Y rb mb r (splitL l 32).tail → Calls Tryz.prog 122 #[.pointer (some ⟨rb, 0, none⟩), .agg #[.int .i64 x.op, .int .i64 x.bin, .int .i64 x.d, .int .i64 x.a.kind, .int .u32 x.a.n, .int .i64 x.b.kind, .int .u32 x.b.n, .int .i64 x.n, .int .i64 x.off, .int .i64 x.width, .bool x.sg, .slice none 0 0]] Y fun e w' => e = .returned (.agg #[.int .i64 y.op, .int .i64 y.bin, .int .i64 y.d, .int .i64 y.a.kind, .int .u32 y.a.n, .int .i64 y.b.kind, .int .u32 y.b.n, .int .i64 y.n, .int .i64 y.off, .int .i64 y.width, .bool y.sg, .slice none 0 0]) ∧ RdT w' rb mb r [] ∧ Turned Y w' (fun k => k = rb)) :=
          fun Y h1 h2 h3 => instruction_c h1 h2 hrb h3 hko hlf hl8 hflds
        have HCR2 : Hid (codeR r = some (cr', ls2)) := hcr2
        have HCS2 : Hid (cs = (cd ++ [y]) ++ cr') := by show _ = _; rw [HCS.out, hcre]; simp
        have HLN : Hid (lenAt wr rb = r.length + 1) := lenAt_eq HRR.out
        have hcdl : Hid (cd.length ≤ 1000000) := by
          have h1 := congrArg List.length HCS.out
          rw [List.length_append] at h1
          show cd.length ≤ _
          omega
        clear hmem huniq hly hcr2 hcre hko hko1 hko2 hlf hlfd hflds hyop hl8 hof2 HCR
        go_upto_region 6 with (fail)
        go_cut [4, 5] from 31 to 40 (fun s4 s5 wx => ∃ g4, s4 = .pointer (some ⟨g4, 0, none⟩) ∧ s5 = .bool true ∧ Hid (wx.heap[g4]? = some (.cells #[.int .i64 x.op, .int .i64 x.bin, .int .i64 x.d, .int .i64 x.a.kind, .int .u32 x.a.n, .int .i64 x.b.kind, .int .u32 x.b.n, .int .i64 x.n, .int .i64 x.off, .int .i64 x.width, .bool x.sg, .slice none 0 0] TIn (0, 0))) ∧ Hid (wr.heap.size ≤ g4) ∧ Hid (SH wr wx))
        case first =>
          have HSH : SH wr wr := SH.refl wr
          generalize firstW (l :: r) = fw at *
          have HSD : SH wr wr.drew := SH.drew HSH
          have HSA : SH wr (wr.alloc (.cells #[.int .i64 0, .int .i64 0, .int .i64 0, .int .i64 0, .int .u32 0, .int .i64 0, .int .u32 0, .int .i64 0, .int .i64 0, .int .i64 0, .bool false, .slice none 0 0] TIn)).drew := SH.drew (SH.alloc HSH _)
          have HNA : Hid ((wr.alloc (.cells #[.int .i64 0, .int .i64 0, .int .i64 0, .int .i64 0, .int .u32 0, .int .i64 0, .int .u32 0, .int .i64 0, .int .i64 0, .int .i64 0, .bool false, .slice none 0 0] TIn)).drew.heap[wr.heap.size]? = some (.cells #[.int .i64 0, .int .i64 0, .int .i64 0, .int .i64 0, .int .u32 0, .int .i64 0, .int .u32 0, .int .i64 0, .int .i64 0, .int .i64 0, .bool false, .slice none 0 0] TIn (0, 0))) := heap_r0 wr _
          go_region_held3 (fun Y => SH wr Y) (with_reducible first | assumption | (refine SH.drew ?_; assumption) | (refine SH.alloc ?_ _; assumption) | (refine SH.drew ?_; refine SH.alloc ?_ _; assumption) | ((iterate 12 refine SH.set1 ?_); assumption)) (first
            | (go_at_call 118; (with_reducible refine (HCF.out wr.drew HSD).mono ?_); rintro e y1 ⟨rfl, hy1⟩; have HY1 : SH wr y1 := SH.below HSD hy1; have HYS : wr.heap.size ≤ y1.heap.size := Below.size HY1; clear hy1)
            | (go_at_call 118; (with_reducible refine (HCF.out (wr.alloc (.cells #[.int .i64 0, .int .i64 0, .int .i64 0, .int .i64 0, .int .u32 0, .int .i64 0, .int .u32 0, .int .i64 0, .int .i64 0, .int .i64 0, .bool false, .slice none 0 0] TIn)).drew HSA).mono ?_); rintro e y1 ⟨rfl, hy1⟩; have HY1 : SH wr y1 := SH.below HSA hy1; have hn1 := blk_b HNA.out hy1; obtain ⟨z0, z1, z2, z3, z4, z5, z6, z7, z8, z9, z10, z11⟩ := cells12 hn1; have fz := frozen_of hn1; have HN1 : Hid (y1.heap[wr.heap.size]? = some (.cells #[.int .i64 0, .int .i64 0, .int .i64 0, .int .i64 0, .int .u32 0, .int .i64 0, .int .u32 0, .int .i64 0, .int .i64 0, .int .i64 0, .bool false, .slice none 0 0] TIn (0, 0))) := hn1; clear hy1 hn1))
          all_goals go_wp2_with fail
          all_goals go_meet
          all_goals refine ⟨_, rfl, rfl, Lib.hid ?_, Lib.hid ?_, show SH wr _ by with_reducible assumption⟩
          all_goals first
            | (with_reducible exact HYS)
            | (with_reducible exact Nat.le_refl _)
            | (with_reducible exact set12 HN1.out _ _ _ _ _ _ _ _ _ _ _ _)
            | exact heap_r0 y1 _
        case rest =>
          obtain ⟨g4, rfl, rfl, HG4, HGE, HSC⟩ := hcut
          rename World => wc
          have nt := not_t
          have HRc : Hid (RdT wc rb mb (l :: r) []) := HRR.out.below HSC.out
          have HTc : Hid (Turned w wc (fun k => k = rb)) := HTR.out.bel HSC.out
          have HFc : Hid (wc.heap[fb]? = some (.cells #[.string nm, .int .i64 pr, .int .i64 tp, .bool gv, .slice none 0 0, .slice vp cd.length vc] TFn (0, 0))) := blk_b HFB.out HSC.out
          have HZc : Hid (wc.heap[w.heap.size]? = some (.cells zFn TFn (0, 0))) := blk_b HZB.out HSC.out
          have HOc : Hid (wc.ownsRow w.heap.size TIn 12 (.slice vp cd.length vc) cd.length (insC cd)) := ownsRow_turned HOW.out (Turned.of_below HSC.out (fun _ => False)) (fun _ _ h => h)
          have cF1 := first_c HRc.out (HM.out _ HTc.out)
          have e1 : firstW (l :: r) = cutW l := rfl
          rw [e1] at cF1
          clear LK L2 hof hrg HFB HZB HOW HRR HTR HCF hfs e1
          go_upto_region 10 with (first
            | (go_at_call 118; refine cF1.mono ?_; rintro e w7 ⟨rfl, hb7⟩; have HT7 : Hid (Turned w w7 (fun k => k = rb)) := HTc.out.bel hb7; have cB := begins_yes (HRc.out.below hb7) (HM.out _ HT7.out) (rfl : cutW l = cutW l); have HF7 : Hid (w7.heap[fb]? = some (.cells #[.string nm, .int .i64 pr, .int .i64 tp, .bool gv, .slice none 0 0, .slice vp cd.length vc] TFn (0, 0))) := blk_b HFc.out hb7; have HZ7 : Hid (w7.heap[w.heap.size]? = some (.cells zFn TFn (0, 0))) := blk_b HZc.out hb7; have HO7 : Hid (w7.ownsRow w.heap.size TIn 12 (.slice vp cd.length vc) cd.length (insC cd)) := ownsRow_turned HOc.out (Turned.of_below hb7 (fun _ => False)) (fun _ _ h => h); have HG7 : Hid (w7.heap[g4]? = some (.cells #[.int .i64 x.op, .int .i64 x.bin, .int .i64 x.d, .int .i64 x.a.kind, .int .u32 x.a.n, .int .i64 x.b.kind, .int .u32 x.b.n, .int .i64 x.n, .int .i64 x.off, .int .i64 x.width, .bool x.sg, .slice none 0 0] TIn (0, 0))) := blk_b HG4.out hb7; clear hb7 cF1)
            | (go_at_call 100; refine cB.mono ?_; rintro e w8 ⟨rfl, hR8, hT8⟩; have HR8 : Hid (RdT w8 rb mb r (splitL l 32).tail) := hR8; have HT8 : Hid (Turned w w8 (fun k => k = rb)) := HT7.out.trans hT8 (fun _ _ h => h); have HF8 : Hid (w8.heap[fb]? = some (.cells #[.string nm, .int .i64 pr, .int .i64 tp, .bool gv, .slice none 0 0, .slice vp cd.length vc] TFn (0, 0))) := blk_t HF7.out hT8 (by omega); have HZ8 : Hid (w8.heap[w.heap.size]? = some (.cells zFn TFn (0, 0))) := blk_t HZ7.out hT8 (by omega); have HG8 : Hid (w8.heap[g4]? = some (.cells #[.int .i64 x.op, .int .i64 x.bin, .int .i64 x.d, .int .i64 x.a.kind, .int .u32 x.a.n, .int .i64 x.b.kind, .int .u32 x.b.n, .int .i64 x.n, .int .i64 x.off, .int .i64 x.width, .bool x.sg, .slice none 0 0] TIn (0, 0))) := blk_t HG7.out hT8 (by have := HGE.out; have := HTW.out; omega); have HO8 : Hid (w8.ownsRow w.heap.size TIn 12 (.slice vp cd.length vc) cd.length (insC cd)) := ownsRow_turned HO7.out hT8 (fun k hk e => by have := (ownsRow_at HO7.out hk).1; omega); clear hR8 hT8 cB)
            | fail)
          obtain ⟨i0, hi, hz0, hz1, hz2⟩ := info_parts infoIn
          have m5 := (Lib.cell_of_heap HF8.out 5).trans rfl
          obtain ⟨x0, x1, x2, x3, x4, x5, x6, x7, x8, x9, x10, x11⟩ := cells12 HG8.out
          have bd : Below w8.heap.size w8 w8.drew := (Below.refl _ _).drew
          have HTd : Hid (Turned w w8.drew (fun k => k = rb)) := HT8.out.bel bd
          have HCI : Hid (Calls Tryz.prog 122 #[.pointer (some ⟨rb, 0, none⟩), .agg #[.int .i64 x.op, .int .i64 x.bin, .int .i64 x.d, .int .i64 x.a.kind, .int .u32 x.a.n, .int .i64 x.b.kind, .int .u32 x.b.n, .int .i64 x.n, .int .i64 x.off, .int .i64 x.width, .bool x.sg, .slice none 0 0]] w8.drew fun e w' => e = .returned (.agg #[.int .i64 y.op, .int .i64 y.bin, .int .i64 y.d, .int .i64 y.a.kind, .int .u32 y.a.n, .int .i64 y.b.kind, .int .u32 y.b.n, .int .i64 y.n, .int .i64 y.off, .int .i64 y.width, .bool y.sg, .slice none 0 0]) ∧ RdT w' rb mb r [] ∧ Turned w8.drew w' (fun k => k = rb)) := HXARGS.out _ (HX.out _ HTd.out) (HFO.out _ HTd.out) (HR8.out.below bd)
          clear bd HXARGS
          go_region_law (first
            | (refine step_call_fn rfl 122 #[.pointer (some ⟨rb, 0, none⟩), .agg #[.int .i64 x.op, .int .i64 x.bin, .int .i64 x.d, .int .i64 x.a.kind, .int .u32 x.a.n, .int .i64 x.b.kind, .int .u32 x.b.n, .int .i64 x.n, .int .i64 x.off, .int .i64 x.width, .bool x.sg, .slice none 0 0]] (by kernel_rfl) HCI.out ?_; rintro e w9 ⟨rfl, hR9, hT9⟩; have hT9' : Turned w8 w9 (fun k => k = rb) := (Turned.of_below (Below.refl _ w8).drew _).trans hT9 (fun _ _ h => h); have b9 := below1 w9 (.cells #[.int .i64 y.op, .int .i64 y.bin, .int .i64 y.d, .int .i64 y.a.kind, .int .u32 y.a.n, .int .i64 y.b.kind, .int .u32 y.b.n, .int .i64 y.n, .int .i64 y.off, .int .i64 y.width, .bool y.sg, .slice none 0 0] TIn); have hF9 := blk_t HF8.out hT9' (by omega); have c9 := (Lib.cell_of_heap hF9 5).trans rfl; have hF10 := blk_b hF9 b9; have c10 := (Lib.cell_of_heap hF10 5).trans rfl; have HF10 : Hid ((w9.alloc (.cells #[.int .i64 y.op, .int .i64 y.bin, .int .i64 y.d, .int .i64 y.a.kind, .int .u32 y.a.n, .int .i64 y.b.kind, .int .u32 y.b.n, .int .i64 y.n, .int .i64 y.off, .int .i64 y.width, .bool y.sg, .slice none 0 0] TIn)).heap[fb]? = some (.cells #[.string nm, .int .i64 pr, .int .i64 tp, .bool gv, .slice none 0 0, .slice vp cd.length vc] TFn (0, 0))) := hF10; have HZ10 : Hid ((w9.alloc (.cells #[.int .i64 y.op, .int .i64 y.bin, .int .i64 y.d, .int .i64 y.a.kind, .int .u32 y.a.n, .int .i64 y.b.kind, .int .u32 y.b.n, .int .i64 y.n, .int .i64 y.off, .int .i64 y.width, .bool y.sg, .slice none 0 0] TIn)).heap[w.heap.size]? = some (.cells zFn TFn (0, 0))) := blk_b (blk_t HZ8.out hT9' (by omega)) b9; have HR10 : Hid (RdT (w9.alloc (.cells #[.int .i64 y.op, .int .i64 y.bin, .int .i64 y.d, .int .i64 y.a.kind, .int .u32 y.a.n, .int .i64 y.b.kind, .int .u32 y.b.n, .int .i64 y.n, .int .i64 y.off, .int .i64 y.width, .bool y.sg, .slice none 0 0] TIn)) rb mb r []) := hR9.below b9; have HT10 : Hid (Turned w (w9.alloc (.cells #[.int .i64 y.op, .int .i64 y.bin, .int .i64 y.d, .int .i64 y.a.kind, .int .u32 y.a.n, .int .i64 y.b.kind, .int .u32 y.b.n, .int .i64 y.n, .int .i64 y.off, .int .i64 y.width, .bool y.sg, .slice none 0 0] TIn)) (fun k => k = rb)) := (HT8.out.trans hT9' (fun _ _ h => h)).bel b9; have HO10 : Hid ((w9.alloc (.cells #[.int .i64 y.op, .int .i64 y.bin, .int .i64 y.d, .int .i64 y.a.kind, .int .u32 y.a.n, .int .i64 y.b.kind, .int .u32 y.b.n, .int .i64 y.n, .int .i64 y.off, .int .i64 y.width, .bool y.sg, .slice none 0 0] TIn)).ownsRow w.heap.size TIn 12 (.slice vp cd.length vc) cd.length (insC cd)) := ownsRow_turned (ownsRow_turned HO8.out hT9' (fun k hk e => by have := (ownsRow_at HO8.out hk).1; omega)) (Turned.of_below b9 (fun _ => False)) (fun _ _ h => h); clear hR9 hT9 hT9' b9 hF9 hF10; refine ⟨_, rfl, ?_⟩)
            | (refine step_append_own_at rfl (.tmp 49) (.tmp 53) 30 rfl w.heap.size TIn i0 _ 12 112 Tryz.underlying30 hi hz0 hz1 hz2 rfl (by decide) _ cd.length _ rfl HO10.out ⟨w9.heap.size, 0, none⟩ 1 1 (#[.int .i64 y.op, .int .i64 y.bin, .int .i64 y.d, .int .i64 y.a.kind, .int .u32 y.a.n, .int .i64 y.b.kind, .int .u32 y.b.n, .int .i64 y.n, .int .i64 y.off, .int .i64 y.width, .bool y.sg, .slice none 0 0]).toList rfl rfl (cells_new _ _ _) (by simp [Value.oneCell']) (by have := hcdl.out; unfold maxLen; omega) (by have := hcdl.out; omega) (HT10.out.size) ?_; intro v' w11 hown hgrow hnil hat; obtain ⟨p', cap', rfl⟩ := slice_of_own hown; have hF11 : w11.heap[fb]? = some (.cells #[.string nm, .int .i64 pr, .int .i64 tp, .bool gv, .slice none 0 0, .slice vp cd.length vc] TFn (0, 0)) := (hgrow.block fb (lt_of_heap HF10.out) (fun e => by obtain ⟨_, cur, hcur⟩ := ownsRow_at HO10.out e.symm; rw [HF10.out] at hcur; injection hcur with q1; injection q1 with _ q2; exact absurd q2 (by decide))).trans HF10.out; have c11 := (Lib.cell_of_heap hF11 5).trans rfl; have f11 := frozen_of hF11 5; have HF11 : Hid (w11.heap[fb]? = some (.cells #[.string nm, .int .i64 pr, .int .i64 tp, .bool gv, .slice none 0 0, .slice vp cd.length vc] TFn (0, 0))) := hF11; have HOW : Hid (World.ownsRow _ _ _ _ _ _ _) := hown; have HGR : Hid (World.grownBy _ _ _) := hgrow; clear hown hgrow hnil hat hF11))
          all_goals go_wp2
          all_goals
            have t12 : Turned w11 (w11.setCell ⟨fb, 5, none⟩ (.slice p' (cd.length + 1) cap')) (fun k => k = fb) := Turned.setCell w11 fb 5 _ rfl
            have tg : Turned (w9.alloc (.cells #[.int .i64 y.op, .int .i64 y.bin, .int .i64 y.d, .int .i64 y.a.kind, .int .u32 y.a.n, .int .i64 y.b.kind, .int .u32 y.b.n, .int .i64 y.n, .int .i64 y.off, .int .i64 y.width, .bool y.sg, .slice none 0 0] TIn)) w11 (fun k => (Value.slice vp cd.length vc).ownBlock = some k) := Turned.of_grown HGR.out (fun k e => e)
            have hR11 : RdT w11 rb mb r [] := HR10.out.offS (ty := TIn) tg (fun k hk => by obtain ⟨_, cur, hcur⟩ := ownsRow_at HO10.out hk; exact ⟨cur, hcur⟩) (by decide) (by decide)
            have hR12 := hR11.off t12 HF11.out (by decide) (by decide)
            have hZ11 : w11.heap[w.heap.size]? = some (.cells zFn TFn (0, 0)) := blk_t HZ10.out tg (fun hk => by
              obtain ⟨_, cur, hcur⟩ := ownsRow_at HO10.out hk
              rw [HZ10.out] at hcur; injection hcur with q1; injection q1 with _ q2; exact absurd q2 (by decide))
            have hT11 : Turned w w11 (fun k => k = rb) := HT10.out.trans tg (fun i hi hk => by have := (ownsRow_at HO10.out hk).1; omega)
            refine ⟨⟨r, cd ++ [y], cr', _, HCR2, HCS2, Lib.hid (heap_setCell (j := 5) HF11.out _), Lib.hid ?_, Lib.hid (blk_t hZ11 t12 (by omega)), Lib.hid hR12, Lib.hid (hT11.trans t12 (fun i hi e => by omega))⟩, ?_⟩
            · rw [insC_snoc, List.length_append]
              refine ownsRow_turned HOW.out t12 (fun k hk e => ?_)
              obtain ⟨_, cur, hcur⟩ := ownsRow_at HOW.out hk
              rw [e, HF11.out] at hcur
              injection hcur with q1
              injection q1 with _ q2
              exact absurd q2 (by decide)
            · rw [HLN.out, lenAt_eq hR12]; omega
end
end Go.Proofs.YtaaphipbkpjkjaaGreatDoor
