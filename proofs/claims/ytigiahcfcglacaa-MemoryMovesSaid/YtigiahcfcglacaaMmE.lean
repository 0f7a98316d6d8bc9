/-
  A cell is put into a block.
-/
import Derived.Test.YtigiahcfcglacaaMmD
import Derived.Deep.CutRange
namespace Go.Proofs.Ytigiahcfcglacaa
open Go.RowKit Go.Maps
set_option linter.unusedVariables false
set_option maxRecDepth 100000

theorem min_run (n j : Nat) (hj : j < np n) (W : World) : (Builtin.min_ #[3, 3] 3 #[.int .i64 128, .int .i64 ((n : Int) - (j : Int) * 128)]).run Try.prog W = .ok (.int .i64 (plen n j : Int)) W := by
  have h : (Builtin.min_ #[3, 3] 3 #[.int .i64 128, .int .i64 ((n : Int) - (j : Int) * 128)]).run Try.prog W = .ok (.int .i64 (if (n : Int) - (j : Int) * 128 < 128 then (n : Int) - (j : Int) * 128 else 128)) W := by
    simp [Builtin.min_, Builtin.min2]
  rw [h]
  congr 2
  unfold plen
  unfold np at hj
  split <;> omega
theorem MemX.c012 {w : World} {b : Nat} {xs : List (Option Bx)} {P : Nat → Prop} (h : MemX w b xs P) : w.cell? ⟨b, 0, none⟩ = some (.pointer (some ⟨b, 0, none⟩)) ∧ w.cell? ⟨b, 2, none⟩ = some (.int .i64 xs.length) := by
  obtain ⟨mb, es, ck, h1, _⟩ := h.head
  constructor <;> rw [Lib.cell_of_heap h1] <;> rfl
set_option maxHeartbeats 4000000 in
theorem put_old {w : World} {b : Nat} {xs : List (Option Bx)} {P : Nat → Prop} (h : MemX w b xs P) {i : Nat} {x : Bx} (hx : xs[i]? = some (some x)) (k : Nat) (hk : k < x.bk.size) (g : Nat) (hg : x.pg (k / 128) = some g) (c : Cl) :
    Calls Try.prog 34 #[.pointer (some ⟨x.bb, 0, none⟩), .int .i64 k, .agg #[.int .i64 c.kind, .int .u32 c.v, .int .i64 c.block, .int .i64 c.part]] w fun e w' => e = .returned (.tuple #[]) ∧
      MemX w' b (xs.set i (some (x.put k c))) P ∧ Turned w w' P := by
  have e1 := eqs_nil
  have e2 := eqs_some
  have hB : Below w.heap.size w (w.alloc (.cells #[.int .i64 c.kind, .int .u32 c.v, .int .i64 c.block, .int .i64 c.part] TC)) := (Below.refl _ w).alloc (Nat.le_refl _) _
  have h' := h.keptB hB
  have hb := h'.at_ hx
  have c2 := hb.c2
  have hj := np_lt hk
  have hm := plen_lt hk
  have hmx := plen_max x.bk.size (k / 128)
  have hnx := np_max hb.max
  have hp := hb.pc hj
  have hx1 := hb.max
  have hA := hb.apg _ g hj hg
  have hkk : k = k / 128 * 128 + k % 128 := by omega
  have hp1 : (k : Int) / 128 = ((k / 128 : Nat) : Int) := by omega
  have hp2 : (k : Int) % 128 = ((k % 128 : Nat) : Int) := by omega
  have g1 := hb.lt1
  have g2 := hb.lt2
  simp only [pgV, hg] at hp
  obtain ⟨q0, q1, q2, q3⟩ := hA.cell hm
  have f0 := hA.frozen
  have gb : g ≠ w.heap.size := fun e => by
    obtain ⟨ow, ho⟩ := h.own
    have := h.lt g ((ho i x hx).2.pg _ g hj hg).1
    omega
  have HP : Hid (MemX (set4 (w.alloc (.cells #[.int .i64 c.kind, .int .u32 c.v, .int .i64 c.block, .int .i64 c.part] TC)) g (k % 128 * 4) c) b (xs.set i (some (x.put k c))) P ∧ Turned (w.alloc (.cells #[.int .i64 c.kind, .int .u32 c.v, .int .i64 c.block, .int .i64 c.part] TC)) (set4 (w.alloc (.cells #[.int .i64 c.kind, .int .u32 c.v, .int .i64 c.block, .int .i64 c.part] TC)) g (k % 128 * 4) c) P) := h'.putCell hx hk hg c
  have HB : Hid (Below w.heap.size w (w.alloc (.cells #[.int .i64 c.kind, .int .u32 c.v, .int .i64 c.block, .int .i64 c.part] TC))) := hB
  have eB := heap_r0 w (.cells #[.int .i64 c.kind, .int .u32 c.v, .int .i64 c.block, .int .i64 c.part] TC)
  have a0 : (w.alloc (.cells #[.int .i64 c.kind, .int .u32 c.v, .int .i64 c.block, .int .i64 c.part] TC)).cell? ⟨w.heap.size, 0, none⟩ = some (.int .i64 c.kind) := by rw [Lib.cell_of_heap eB]; rfl
  have a1 : (w.alloc (.cells #[.int .i64 c.kind, .int .u32 c.v, .int .i64 c.block, .int .i64 c.part] TC)).cell? ⟨w.heap.size, 1, none⟩ = some (.int .u32 c.v) := by rw [Lib.cell_of_heap eB]; rfl
  have a2 : (w.alloc (.cells #[.int .i64 c.kind, .int .u32 c.v, .int .i64 c.block, .int .i64 c.part] TC)).cell? ⟨w.heap.size, 2, none⟩ = some (.int .i64 c.block) := by rw [Lib.cell_of_heap eB]; rfl
  have a3 : (w.alloc (.cells #[.int .i64 c.kind, .int .u32 c.v, .int .i64 c.block, .int .i64 c.part] TC)).cell? ⟨w.heap.size, 3, none⟩ = some (.int .i64 c.part) := by rw [Lib.cell_of_heap eB]; rfl
  clear eB hB h h' hb hA hx hk hkk hg
  unfold set4 at HP
  obtain ⟨W, hW⟩ : ∃ W, W = w.alloc (.cells #[.int .i64 c.kind, .int .u32 c.v, .int .i64 c.block, .int .i64 c.part] TC) := ⟨_, rfl⟩
  go_enter Try.func34, Try.ntmps34
  go_upto_region 1 with (fail)
  refine (?_ : Code.wp _ _ _ _ (w.alloc (.cells #[.int .i64 c.kind, .int .u32 c.v, .int .i64 c.block, .int .i64 c.part] TC)))
  rw [← hW] at c2 hp q0 q1 q2 q3 f0 HP HB a0 a1 a2 a3 ⊢
  clear hW
  generalize k / 128 = j at *
  generalize k % 128 = m at *
  go_wp2
  go_region
  go_wp2
  go_end0
  obtain ⟨q, r⟩ := HP.out
  have r2 := (Turned.of_below HB.out P).trans r (fun _ _ h => h)
  exact ⟨rfl, q.keptB (Below.refl _ _).drew, ⟨r2.os, r2.tape, r2.output, r2.size, r2.block⟩⟩
set_option maxHeartbeats 4000000 in
theorem put_new {w : World} {b : Nat} {xs : List (Option Bx)} {P : Nat → Prop} (h : MemX w b xs P) {i : Nat} {x : Bx} (hx : xs[i]? = some (some x)) (k : Nat) (hk : k < x.bk.size) (hg : x.pg (k / 128) = none) (c : Cl) :
    Calls Try.prog 34 #[.pointer (some ⟨x.bb, 0, none⟩), .int .i64 k, .agg #[.int .i64 c.kind, .int .u32 c.v, .int .i64 c.block, .int .i64 c.part]] w fun e w' => e = .returned (.tuple #[]) ∧
      ∃ (g : Nat) (x' : Bx), w.heap.size ≤ g ∧ x'.bk = x.bk.put k c ∧ x'.bb = x.bb ∧ MemX w' b (xs.set i (some x')) (fun m => P m ∨ m = g) ∧ Turned w w' P := by
  have e1 := eqs_nil
  have e2 := eqs_some
  have hB : Below w.heap.size w (w.alloc (.cells #[.int .i64 c.kind, .int .u32 c.v, .int .i64 c.block, .int .i64 c.part] TC)) := (Below.refl _ w).alloc (Nat.le_refl _) _
  have h' := h.keptB hB
  have hb := h'.at_ hx
  have c2 := hb.c2
  have hj := np_lt hk
  have hm := plen_lt hk
  have hmx := plen_max x.bk.size (k / 128)
  have hnx := np_max hb.max
  have hp := hb.pc hj
  have hx1 := hb.max
  have hkk : k = k / 128 * 128 + k % 128 := by omega
  have hp1 : (k : Int) / 128 = ((k / 128 : Nat) : Int) := by omega
  have hp2 : (k : Int) % 128 = ((k % 128 : Nat) : Int) := by omega
  have g1 := hb.lt1
  have g2 := hb.lt2
  simp only [pgV, hg] at hp
  have hpl : plen x.bk.size (k / 128) ≤ 1000000 := by omega
  have mk := make_cells (plen x.bk.size (k / 128)) hpl
  have mn := min_run x.bk.size (k / 128) hj
  obtain ⟨fcs, fc1, _⟩ := hb.pages
  have f0 := frozen_of fc1
  have c0 := hb.c0
  have HB : Hid (Below w.heap.size w (w.alloc (.cells #[.int .i64 c.kind, .int .u32 c.v, .int .i64 c.block, .int .i64 c.part] TC))) := hB
  have eB := heap_r0 w (.cells #[.int .i64 c.kind, .int .u32 c.v, .int .i64 c.block, .int .i64 c.part] TC)
  have a0 : (w.alloc (.cells #[.int .i64 c.kind, .int .u32 c.v, .int .i64 c.block, .int .i64 c.part] TC)).cell? ⟨w.heap.size, 0, none⟩ = some (.int .i64 c.kind) := by rw [Lib.cell_of_heap eB]; rfl
  have a1 : (w.alloc (.cells #[.int .i64 c.kind, .int .u32 c.v, .int .i64 c.block, .int .i64 c.part] TC)).cell? ⟨w.heap.size, 1, none⟩ = some (.int .u32 c.v) := by rw [Lib.cell_of_heap eB]; rfl
  have a2 : (w.alloc (.cells #[.int .i64 c.kind, .int .u32 c.v, .int .i64 c.block, .int .i64 c.part] TC)).cell? ⟨w.heap.size, 2, none⟩ = some (.int .i64 c.block) := by rw [Lib.cell_of_heap eB]; rfl
  have a3 : (w.alloc (.cells #[.int .i64 c.kind, .int .u32 c.v, .int .i64 c.block, .int .i64 c.part] TC)).cell? ⟨w.heap.size, 3, none⟩ = some (.int .i64 c.part) := by rw [Lib.cell_of_heap eB]; rfl
  clear eB hB h' hb hkk fc1
  obtain ⟨W, hW⟩ : ∃ W, W = w.alloc (.cells #[.int .i64 c.kind, .int .u32 c.v, .int .i64 c.block, .int .i64 c.part] TC) := ⟨_, rfl⟩
  have HM : Hid (MemX w b xs P) := h
  have HX : Hid (xs[i]? = some (some x)) := hx
  have HK : Hid (k < x.bk.size) := hk
  have HG : Hid (x.pg (k / 128) = none) := hg
  clear h hx hk hg
  go_enter Try.func34, Try.ntmps34
  go_upto_region 1 with (fail)
  refine (?_ : Code.wp _ _ _ _ (w.alloc (.cells #[.int .i64 c.kind, .int .u32 c.v, .int .i64 c.block, .int .i64 c.part] TC)))
  rw [← hW] at c2 c0 hp f0 HB a0 a1 a2 a3 g1 g2 ⊢
  have hsz : W.heap.size = w.heap.size + 1 := by rw [hW]; simp
  clear hW
  have hB2 : Below W.heap.size W (W.alloc (.cells (zeroC (plen x.bk.size (k / 128))) TC)).drew := ((Below.refl _ W).alloc (Nat.le_refl _) _).drew
  have d0 := (hB2.cell (p := ⟨x.bb, 0, none⟩) g1).trans c0
  have d2 := (hB2.cell (p := ⟨x.bb, 2, none⟩) g1).trans c2
  have dp := (hB2.cell (p := ⟨x.pb, k / 128, none⟩) g2).trans hp
  have df := (hB2.frozen (p := ⟨x.pb, k / 128, none⟩) g2).trans (f0 _)
  clear hB2
  generalize hJ : k / 128 = j at *
  have HJ : Hid (k / 128 = j) := hJ
  clear hJ
  generalize hMD : k % 128 = m at *
  have HMD : Hid (k % 128 = m) := hMD
  clear hMD
  go_wp2
  go_region
  have hW2 : W.heap.size = w.heap.size + 1 := hsz
  have hN := (HM.out.keptB HB.out).newPage HX.out hj HG.out (w1 := W.alloc (.cells (zeroC (plen x.bk.size j)) TC)) ((Below.refl _ W).alloc (Nat.le_refl _) _) (by simp) (g := W.heap.size) (Nat.le_refl _) (zero_cells W _)
  rw [hW2] at hN
  have hN1 := hN.1.keptB (Below.refl _ _).drew
  have HT : Hid (Turned w _ P) := (Turned.of_below HB.out P).trans (hN.2.trans (Turned.of_below (Below.refl _ _).drew P) (fun _ _ h => h)) (fun _ _ h => h)
  have hB3 : ∀ t, ((W.alloc (.cells (zeroC (plen x.bk.size j)) TC)).setCell ⟨x.pb, j, none⟩ (.slice (some ⟨w.heap.size + 1, 0, none⟩) (plen x.bk.size j) (plen x.bk.size j))).drew.cell? ⟨w.heap.size, t, none⟩ = W.cell? ⟨w.heap.size, t, none⟩ := by
    intro t
    refine World.cell?_of_block ?_
    have t1 : Turned W ((W.alloc (.cells (zeroC (plen x.bk.size j)) TC)).setCell ⟨x.pb, j, none⟩ (.slice (some ⟨w.heap.size + 1, 0, none⟩) (plen x.bk.size j) (plen x.bk.size j))).drew P := hN.2.trans (Turned.of_below (Below.refl _ _).drew P) (fun _ _ h => h)
    exact t1.block w.heap.size (by omega) (fun hp => absurd (HM.out.lt _ hp) (by omega))
  have b0 := (hB3 0).trans a0
  have b1 := (hB3 1).trans a1
  have b2 := (hB3 2).trans a2
  have b3 := (hB3 3).trans a3
  have hgl : w.heap.size + 1 < ((W.alloc (.cells (zeroC (plen x.bk.size j)) TC)).setCell ⟨x.pb, j, none⟩ (.slice (some ⟨w.heap.size + 1, 0, none⟩) (plen x.bk.size j) (plen x.bk.size j))).drew.heap.size := by simp; omega
  clear hB3 hN a0 a1 a2 a3 c2 c0 hp f0 d0 d2 dp df mk mn
  generalize ((W.alloc (.cells (zeroC (plen x.bk.size j)) TC)).setCell ⟨x.pb, j, none⟩ (.slice (some ⟨w.heap.size + 1, 0, none⟩) (plen x.bk.size j) (plen x.bk.size j))).drew = W1 at *
  have hil : i < xs.length := (List.getElem?_eq_some_iff.1 HX.out).1
  have hx' : (xs.set i (some { x with pg := setF x.pg j (some (w.heap.size + 1)) }))[i]? = some (some { x with pg := setF x.pg j (some (w.heap.size + 1)) }) := List.getElem?_set_self hil
  have hb := hN1.at_ hx'
  have c2 : W1.cell? ⟨x.bb, 2, none⟩ = some (.slice (some ⟨x.pb, 0, none⟩) (np x.bk.size) (np x.bk.size)) := hb.c2
  have hpg : ({ x with pg := setF x.pg j (some (w.heap.size + 1)) } : Bx).pg j = some (w.heap.size + 1) := by simp [setF]
  have hp : W1.cell? ⟨x.pb, j, none⟩ = some (.slice (some ⟨w.heap.size + 1, 0, none⟩) (plen x.bk.size j) (plen x.bk.size j)) := by
    have := hb.pc (j := j) hj
    have e : setF x.pg j (some (w.heap.size + 1)) j = some (w.heap.size + 1) := by simp [setF]
    simp only [pgV, e] at this; exact this
  have hA : CellsAt W1 (w.heap.size + 1) (plen x.bk.size j) (fun i => x.bk.cell (j * 128 + i)) := hb.apg j _ hj hpg
  obtain ⟨q0, q1, q2, q3⟩ := hA.cell hm
  have f0 := hA.frozen
  have HP : Hid _ := hN1.putCell hx' (k := k) (g := w.heap.size + 1) HK.out (by rw [HJ.out]; exact hpg) c
  rw [HMD.out] at HP
  unfold set4 at HP
  clear hA hb hpg hx' hN1 hil
  go_wp2
  go_region
  go_wp2
  go_end0
  obtain ⟨q, r⟩ := HP.out
  have r2 := HT.out.trans r (fun z hz hh => by rcases hh with hh | hh; exact hh; exact absurd hh (by omega))
  refine ⟨rfl, w.heap.size + 1, Bx.put { x with pg := setF x.pg j (some (w.heap.size + 1)) } k c, by omega, rfl, rfl, ?_, ⟨r2.os, r2.tape, r2.output, r2.size, r2.block⟩⟩
  have q2 := q.keptB (Below.refl _ _).drew
  rw [List.set_set] at q2
  exact q2
/-- A cell is put, be its page there or not. -/
theorem put_c {w : World} {b : Nat} {xs : List (Option Bx)} {P : Nat → Prop} (h : MemX w b xs P) {i : Nat} {x : Bx} (hx : xs[i]? = some (some x)) (k : Nat) (hk : k < x.bk.size) (c : Cl) :
    Calls Try.prog 34 #[.pointer (some ⟨x.bb, 0, none⟩), .int .i64 k, .agg #[.int .i64 c.kind, .int .u32 c.v, .int .i64 c.block, .int .i64 c.part]] w fun e w' => e = .returned (.tuple #[]) ∧
      ∃ (x' : Bx) (P' : Nat → Prop), x'.bk = x.bk.put k c ∧ x'.bb = x.bb ∧ MemX w' b (xs.set i (some x')) P' ∧ Turned w w' P ∧ ∀ m, P' m → P m ∨ w.heap.size ≤ m := by
  cases hg : x.pg (k / 128) with
  | none =>
    refine (put_new h hx k hk hg c).mono ?_
    rintro e w' ⟨rfl, g, x', hg', h1, h2, h3, h4⟩
    exact ⟨rfl, x', _, h1, h2, h3, h4, fun m hm => hm.imp id (fun e => by omega)⟩
  | some g =>
    refine (put_old h hx k hk g hg c).mono ?_
    rintro e w' ⟨rfl, h3, h4⟩
    exact ⟨rfl, x.put k c, P, rfl, rfl, h3, h4, fun m hm => Or.inl hm⟩
end Go.Proofs.Ytigiahcfcglacaa
