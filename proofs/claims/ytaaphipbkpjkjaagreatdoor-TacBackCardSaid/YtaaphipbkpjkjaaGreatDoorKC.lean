/-
  slices.Concat of two rows of operands; Reads of package tac and of the given answer.
  Rows of operands put together: slices.Grow and slices.Concat of operands; append of operands.
-/
import Derived.Test.YtaaphipbkpjkjaaGreatDoorTaH
import Derived.Lib.AppendZeros
import Derived.Laws.AppendOwnNone
namespace Go.Proofs.YtaaphipbkpjkjaaGreatDoor
open Go.RowKit Go.Maps
set_option linter.unusedVariables false
set_option maxRecDepth 100000
theorem infoAr : (Tryz.prog.info? TAr).map (fun i => (i.zero, i.size, i.bytes)) = some (some (.agg #[.int .i64 0, .int .u32 0]), 2, 16) := by kernel_rfl
theorem argsC_length (l : List Ar) : (argsC l).length = l.length * 2 := by
  induction l with
  | nil => rfl
  | cons a l ih => simp only [argsC, List.flatMap_cons, List.length_append, List.length_cons] at ih ⊢; rw [ih]; simp [arCells]; omega
theorem argsC_at : ∀ (l : List Ar) (i : Nat) (a : Ar), l[i]? = some a → ∀ k, k < 2 → (argsC l)[i * 2 + k]? = (arCells a)[k]?
  | [], i, a, h, _, _ => by simp at h
  | x :: l, 0, a, h, k, hk => by
    simp only [List.getElem?_cons_zero, Option.some.injEq] at h
    subst h
    simp only [argsC, List.flatMap_cons, Nat.zero_mul, Nat.zero_add]
    rw [List.getElem?_append_left (by simp [arCells]; omega)]
  | x :: l, i + 1, a, h, k, hk => by
    simp only [List.getElem?_cons_succ] at h
    have := argsC_at l i a h k hk
    simp only [argsC, List.flatMap_cons] at this ⊢
    rw [List.getElem?_append_right (by simp [arCells]; omega), show (i + 1) * 2 + k - (arCells x).length = i * 2 + k by simp [arCells]; omega]
    exact this
theorem argsC_one (l : List Ar) : ∀ u ∈ argsC l, u.oneCell' = true := by
  intro u hu
  obtain ⟨a, _, ha⟩ := List.mem_flatMap.1 hu
  simp only [arCells, List.mem_cons, List.not_mem_nil, or_false] at ha
  rcases ha with rfl | rfl <;> rfl
theorem argsC_append (f s : List Ar) : argsC f ++ argsC s = argsC (f ++ s) := by simp [argsC]
theorem ArgV.of_own {w : World} {B : Nat} {v : Value} {l : List Ar} (h : w.ownsRow B TAr 2 v l.length (argsC l)) : ArgV w v l := by
  obtain ⟨p, cap, rfl⟩ := slice_of_own h
  by_cases hl : l.length = 0
  · obtain ⟨_, ⟨he, _⟩ | ⟨g, c, cur, he, _, _, hc, _⟩⟩ := h
    · injection he with e1 e2 e3
      exact ⟨p, cap, rfl, ⟨by omega, fun _ => e3⟩, fun i a ha => by rw [List.eq_nil_of_length_eq_zero hl] at ha; simp at ha⟩
    · injection he with e1 e2 e3
      exact ⟨p, cap, rfl, ⟨by omega, fun e => by rw [e1] at e; cases e⟩, fun i a ha => by rw [List.eq_nil_of_length_eq_zero hl] at ha; simp at ha⟩
  · obtain ⟨g, c, he, q1, q2, q3, q4, q5⟩ := own_cell h (by omega)
    injection he with e1 e2 e3
    subst e1 e3
    refine ⟨_, _, rfl, ⟨q3, fun e => by cases e⟩, fun i a ha => ⟨g, 0, rfl, q2, fun j hj => ?_⟩⟩
    have h1 := argsC_at l i a ha j hj
    rw [Nat.zero_add]
    cases hu : (arCells a)[j]? with
    | none => simp [arCells] at hu; omega
    | some u => exact q4 _ u (by rw [h1, hu])
section
variable {w : World}
/-- append of operands, wherever they lie. -/
theorem append_args {ops : Array Oper} {rest : List Oper} {o : Oper} {a : Act} {Q : Exit → Act → World → Prop} {w : World} (hgd : o.guard = none) (s x : Operand)
    (ho : o.op = .call { callee := .builtin .append, args := #[s, x], argTypes := #[TArs, TArs] }) (base : Nat) (v : Value) (n : Nat) (xs : List Value) (hs : a.eval s = v) (hown : w.ownsRow base TAr 2 v n xs)
    {xv : Value} {l : List Ar} (hx : a.eval x = xv) (hin : ArgV w xv l) (hb : (n + l.length) * 16 ≤ 140737488355328) (hbase : base ≤ w.heap.size)
    (h : ∀ v' w', w'.ownsRow base TAr 2 v' (n + l.length) (xs ++ argsC l) → w.grownBy w' v.ownBlock → wpList Tryz.prog ops Q rest (a.put o.dst v') w') : wpList Tryz.prog ops Q (o :: rest) a w := by
  obtain ⟨i0, hi, hz0, hz1, hz2⟩ := info_parts infoAr
  obtain ⟨p, cap, rfl, ⟨hc, hcn⟩, hcell⟩ := hin
  cases p with
  | none =>
    have hl : l = [] := by
      cases l with
      | nil => rfl
      | cons b l => obtain ⟨_, _, e, _⟩ := hcell 0 b rfl; cases e
    subst hl
    have := hcn rfl
    subst this
    refine wpList_append_own_none hgd s x TArs ho base TAr i0 2 Tryz.underlying41 hi v n xs hs hown hx ?_
    exact h v w (by simpa [argsC] using hown) ⟨rfl, rfl, rfl, Nat.le_refl _, fun _ _ _ => rfl⟩
  | some ad =>
    refine wpList_append_own _ hgd s x TArs ho base TAr i0 _ 2 16 Tryz.underlying41 hi hz0 hz1 hz2 rfl (by decide) v n xs hs hown ad l.length cap (argsC l) hx (argsC_length l) ?_ (argsC_one l) (by unfold maxLen; omega) hb hbase (fun v' w' h1 h2 _ => h v' w' h1 h2)
    intro j u hj
    have hjl := (List.getElem?_eq_some_iff.1 hj).1
    rw [argsC_length] at hjl
    obtain ⟨m, hm⟩ : ∃ m, l[j / 2]? = some m := ⟨_, List.getElem?_eq_getElem (by omega)⟩
    obtain ⟨g, of, hp, hg, hcc⟩ := hcell (j / 2) m hm
    injection hp with hp
    subst hp
    have e := argsC_at l (j / 2) m hm (j % 2) (Nat.mod_lt _ (by decide))
    have c := hcc (j % 2) (Nat.mod_lt _ (by decide))
    rw [show j / 2 * 2 + j % 2 = j by omega, hj] at e
    rw [← e, show of + j / 2 * 2 + j % 2 = of + j by omega] at c
    rw [Addr.add_lit]
    exact c
theorem zeroAr (n : Nat) : (Builtin.zeroCells (Value.agg #[.int .i64 0, .int .u32 0]).cells n).size = n * 2 := by
  simp [Builtin.zeroCells, Value.cells]
set_option maxHeartbeats 4000000 in
theorem grow_c (n : Nat) (h0 : 0 < n) (hn : n * 16 ≤ 140737488355328) (w : World) :
    Calls Tryz.prog 55 #[.slice none 0 0, .int .i64 (n : Int)] w fun e w' => ∃ g c, e = .returned (.slice (some ⟨g, 0, none⟩) 0 c) ∧ w'.ownsRow w.heap.size TAr 2 (.slice (some ⟨g, 0, none⟩) 0 c) 0 [] ∧ Below w.heap.size w w' := by
  obtain ⟨i0, hi, hz0, hz1, hz2⟩ := info_parts infoAr
  have hr := Lib.run_append_nil_zeros (P := Tryz.prog) w TArs 3 TArs TAr i0 _ .i64 .i64 Tryz.underlying41 Tryz.underlying3 hi hz0 n h0 (by omega) (by omega) (by rw [hz2]; omega)
  have hcap := grownCap_ge w n 0 TAr
  have hcm := grownCap_le_maxLen w n 0 TAr (by unfold maxLen; omega)
  have HO : Hid ((w.drew.alloc (.cells (Builtin.zeroCells (Value.agg #[.int .i64 0, .int .u32 0]).cells n ++ Builtin.zeroCells (Value.agg #[.int .i64 0, .int .u32 0]).cells (grownCap w n 0 TAr - n)) TAr)).ownsRow w.heap.size TAr 2 (.slice (some ⟨w.heap.size, 0, none⟩) 0 (grownCap w n 0 TAr)) 0 []) :=
    ⟨rfl, Or.inr ⟨w.heap.size, grownCap w n 0 TAr, _, rfl, Nat.le_refl _, heap_r0 w.drew _, Nat.zero_le _, hcm, by rw [Array.size_append, zeroAr, zeroAr]; omega, by simp⟩⟩
  have HB : Hid (Below w.heap.size w (w.drew.alloc (.cells (Builtin.zeroCells (Value.agg #[.int .i64 0, .int .u32 0]).cells n ++ Builtin.zeroCells (Value.agg #[.int .i64 0, .int .u32 0]).cells (grownCap w n 0 TAr - n)) TAr))) := (Below.refl _ w).drew.trans (below1 w.drew _)
  generalize w.drew.alloc (.cells (Builtin.zeroCells (Value.agg #[.int .i64 0, .int .u32 0]).cells n ++ Builtin.zeroCells (Value.agg #[.int .i64 0, .int .u32 0]).cells (grownCap w n 0 TAr - n)) TAr) = W at *
  generalize grownCap w n 0 TAr = C at *
  have hw : IntKind.i64.wrap ((n : Int) - 0) = (n : Int) := by rw [Int.sub_zero]; exact wrap_idI (by omega) (by omega)
  have hnb : n ≤ 140737488355328 := by omega
  clear hi hz0 hz1 hz2 hn
  go_enter Tryz.func55, Tryz.ntmps55
  go_wp2_with (at_builtin; refine Lib.wpList_append_run _ rfl (.tmp 20) (.tmp 21) _ _ rfl _ _ rfl rfl _ _ hr ?_)
  go_ret
  exact ⟨_, _, rfl, HO.out, HB.out⟩
end
end Go.Proofs.YtaaphipbkpjkjaaGreatDoor
namespace Go.Proofs.YtaaphipbkpjkjaaGreatDoor
open Go.RowKit Go.Maps
set_option linter.unusedVariables false
set_option maxRecDepth 100000
section
variable {w : World}
set_option maxHeartbeats 8000000 in
theorem concat2_c {gb : Nat} {s1 s2 : Value} {l1 l2 : List Ar} (h1 : w.cell? ⟨gb, 0, none⟩ = some s1) (h2 : w.cell? ⟨gb, 1, none⟩ = some s2) (hA1 : ArgV w s1 l1) (hA2 : ArgV w s2 l2) (h0 : 0 < l1.length) (hb : (l1.length + l2.length) * 16 ≤ 140737488355328) :
    Calls Tryz.prog 32 #[.slice (some ⟨gb, 0, none⟩) 2 2] w fun e w' => ∃ v, e = .returned v ∧ w'.ownsRow w.heap.size TAr 2 v (l1 ++ l2).length (argsC (l1 ++ l2)) ∧ Below w.heap.size w w' := by
  have HA1 : Hid (ArgV w s1 l1) := hA1
  have HA2 : Hid (ArgV w s2 l2) := hA2
  obtain ⟨p1, c1, rfl, x1, x2⟩ := hA1
  obtain ⟨p2, c2, rfl, x3, x4⟩ := hA2
  clear x1 x2 x3 x4
  obtain ⟨n, hn⟩ : ∃ n, n = l1.length + l2.length := ⟨_, rfl⟩
  have cG := grow_c n (by omega) (by omega) w
  have hw1 : IntKind.i64.wrap (0 + (l1.length : Int)) = (l1.length : Int) := by rw [Int.zero_add]; exact wrap_idI (by omega) (by omega)
  have hw2 : IntKind.i64.wrap ((l1.length : Int) + (l2.length : Int)) = (n : Int) := by rw [wrap_idI (by omega) (by omega)]; omega
  have d1 : decide ((l1.length : Int) < 0) = false := by simp
  have d2 : decide ((n : Int) < 0) = false := by simp
  have HN : Hid (n = l1.length + l2.length) := hn
  have HBB : Hid ((l1.length + l2.length) * 16 ≤ 140737488355328) := hb
  have hbl1 : l1.length ≤ 140737488355328 := by omega
  have hbl2 : l2.length ≤ 140737488355328 := by omega
  have hbn : n ≤ 140737488355328 := by omega
  have hb1 := World.block_lt_of_cell? w _ h1
  clear hn hb
  go_enter Tryz.func32, Tryz.ntmps32
  go_wp2
  refine wp_loop_rounds 3 ?_
  rw [rounds_succ]
  go_wp2
  rw [rounds_succ]
  go_wp2
  rw [rounds_succ]
  go_wp2_with (first | (go_at_call 55; refine cG.mono ?_; rintro e w2 ⟨g2, c2', rfl, hO2, hB2⟩; have HO2 : Hid (w2.ownsRow w.heap.size TAr 2 (.slice (some ⟨g2, 0, none⟩) 0 c2') 0 []) := hO2; have HB2 : Hid (Below w.heap.size w w2) := hB2; clear hO2 hB2 cG) | fail)
  have k1 := (HB2.out.cell (p := ⟨gb, 0, none⟩) hb1).trans h1
  have HI1 : Hid (ArgV w2 (.slice p1 l1.length c1) l1) := HA1.out.below HB2.out
  have HI2 : Hid (∀ Y, Below w.heap.size w Y → ArgV Y (.slice p2 l2.length c2) l2) := fun Y hY => HA2.out.below hY
  have HK2 : Hid (∀ Y, Below w.heap.size w Y → Y.cell? ⟨gb, 1, none⟩ = some (.slice p2 l2.length c2)) := fun Y hY => (hY.cell (p := ⟨gb, 1, none⟩) hb1).trans h2
  clear h1 h2 HA1 HA2 hw1 hw2 d1 d2 HN
  refine wp_loop_rounds 3 ?_
  rw [rounds_succ]
  go_wp2_with (at_builtin; refine append_args rfl (.tmp 31) (.tmp 32) rfl w.heap.size (.slice (some ⟨g2, 0, none⟩) 0 c2') 0 [] rfl HO2.out (xv := .slice p1 l1.length c1) (l := l1) rfl HI1.out (by have := HBB.out; omega) HB2.out.size ?_; intro v3 w3 ho3 hg3; obtain ⟨vp3, vc3, rfl⟩ := slice_of_own ho3; rw [Nat.zero_add, List.nil_append] at ho3; rw [Nat.zero_add]; have HO3 : Hid (w3.ownsRow w.heap.size TAr 2 (.slice vp3 l1.length vc3) l1.length (argsC l1)) := ho3; have HB3 : Hid (Below w.heap.size w w3) := below_grown HB2.out HB2.out.size hg3 (fun k e => (ownsRow_at HO2.out e).1); clear ho3 hg3)
  have k2 := HK2.out w3 HB3.out
  have HI3 : Hid (ArgV w3 (.slice p2 l2.length c2) l2) := HI2.out w3 HB3.out
  clear k1 HO2 HI1 HI2 HK2
  rw [rounds_succ]
  go_wp2_with (at_builtin; refine append_args rfl (.tmp 31) (.tmp 32) rfl w.heap.size (.slice vp3 l1.length vc3) l1.length (argsC l1) rfl HO3.out (xv := .slice p2 l2.length c2) (l := l2) rfl HI3.out (by have := HBB.out; omega) HB3.out.size ?_; intro v4 w4 ho4 hg4; obtain ⟨vp4, vc4, rfl⟩ := slice_of_own ho4; rw [argsC_append] at ho4; have HO4 : Hid (w4.ownsRow w.heap.size TAr 2 (.slice vp4 (l1.length + l2.length) vc4) (l1.length + l2.length) (argsC (l1 ++ l2))) := ho4; have HB4 : Hid (Below w.heap.size w w4) := below_grown HB3.out HB3.out.size hg4 (fun k e => (ownsRow_at HO3.out e).1); clear ho4 hg4)
  rw [rounds_succ]
  go_wp2
  go_ret
  refine ⟨_, rfl, ?_, HB4.out⟩
  rw [List.length_append]
  exact HO4.out
def ArOK (a : Ar) : Prop := 0 ≤ a.n ∧ a.n < 4294967296
def rdF (l : List Ar) : List Int := (l.filter fun a => a.kind == 1).map (·.n)
def readsP (x : In) : List Int := rdF (x.a :: x.b :: x.args)
theorem rdF_take {l : List Ar} {k : Nat} {a : Ar} (h : l[k]? = some a) : rdF (l.take (k + 1)) = rdF (l.take k) ++ (if a.kind == 1 then [a.n] else []) := by
  unfold rdF
  rw [List.take_add_one, h, Option.toList_some, List.filter_append, List.map_append]
  congr 1
  cases hk : (a.kind == 1) <;> simp [hk]
theorem rdF_len (l : List Ar) : (rdF l).length ≤ l.length := by
  unfold rdF
  rw [List.length_map]
  exact List.length_filter_le _ _
set_option maxHeartbeats 8000000 in
theorem reads_c {x : In} {s : Value} (hA : ArgV w s x.args) (hok : ∀ a ∈ x.a :: x.b :: x.args, ArOK a) (hb : (2 + x.args.length) * 16 ≤ 140737488355328) :
    Calls Tryz.prog 13 #[.agg (inCells x s).toArray] w fun e w' => ∃ v, e = .returned v ∧ IntSl w' v (readsP x) ∧ Below w.heap.size w w' := by
  obtain ⟨i0, hi0, hz0, hz1, hz2⟩ := info_parts infoI
  have HA : Hid (ArgV w s x.args) := hA
  obtain ⟨ap, acap, rfl, x1, x2⟩ := hA
  clear x1 x2
  have HOK : Hid (∀ a ∈ x.a :: x.b :: x.args, ArOK a) := hok
  obtain ⟨LL, hLL⟩ : ∃ LL, LL = x.a :: x.b :: x.args := ⟨_, rfl⟩
  have HRD : Hid (readsP x = rdF LL) := by show readsP x = _; rw [hLL]; rfl
  rw [HRD.out]
  have HLL : Hid (LL = [x.a, x.b] ++ x.args) := hLL
  have hl2 : LL.length = 2 + x.args.length := by rw [hLL]; simp; omega
  rw [← hLL] at HOK
  have N1 := heap_r0 w (.cells (inCells x (.slice ap x.args.length acap)).toArray TIn)
  have b1 := below1 w (.cells (inCells x (.slice ap x.args.length acap)).toArray TIn)
  obtain ⟨op, bin, d, ⟨ak, an⟩, ⟨bk, bn⟩, n, off, width, sg, args⟩ := x
  simp only [inCells] at N1 b1 HA HLL hl2 hb ⊢
  have r3 := Lib.cell_of_heap N1 3
  have r4 := Lib.cell_of_heap N1 4
  have r5 := Lib.cell_of_heap N1 5
  have r6 := Lib.cell_of_heap N1 6
  have r11 := Lib.cell_of_heap N1 11
  simp only [List.getElem?_toArray, List.getElem?_cons_zero, List.getElem?_cons_succ] at r3 r4 r5 r6 r11
  have HB1 : Hid (Below w.heap.size w (w.alloc (.cells #[.int .i64 op, .int .i64 bin, .int .i64 d, .int .i64 ak, .int .u32 an, .int .i64 bk, .int .u32 bn, .int .i64 n, .int .i64 off, .int .i64 width, .bool sg, .slice ap args.length acap] TIn))) := b1
  clear hok hLL b1 N1 HRD
  go_enter Tryz.func13, Tryz.ntmps13
  go_upto_region 2 with (fail)
  refine (?_ : Code.wp _ _ _ _ (w.alloc (.cells #[.int .i64 op, .int .i64 bin, .int .i64 d, .int .i64 ak, .int .u32 an, .int .i64 bk, .int .u32 bn, .int .i64 n, .int .i64 off, .int .i64 width, .bool sg, .slice ap args.length acap] TIn)))
  generalize w.alloc (.cells #[.int .i64 op, .int .i64 bin, .int .i64 d, .int .i64 ak, .int .u32 an, .int .i64 bk, .int .u32 bn, .int .i64 n, .int .i64 off, .int .i64 width, .bool sg, .slice ap args.length acap] TIn) = W1 at *
  have HC : Hid (Calls Tryz.prog 32 #[.slice (some ⟨W1.heap.size + 1, 0, none⟩) 2 2] ((W1.alloc (.cells #[.int .i64 ak, .int .u32 an, .int .i64 bk, .int .u32 bn] TAr)).alloc (.cells #[.slice (some ⟨W1.heap.size, 0, none⟩) 2 2, .slice ap args.length acap] TArs)) fun e w' => ∃ vp vc, e = .returned (.slice vp LL.length vc) ∧ w'.ownsRow W1.heap.size TAr 2 (.slice vp LL.length vc) LL.length (argsC LL) ∧ Below w.heap.size w w') := by
    have bA := below1 W1 (.cells #[.int .i64 ak, .int .u32 an, .int .i64 bk, .int .u32 bn] TAr)
    have NA := heap_r0 W1 (.cells #[.int .i64 ak, .int .u32 an, .int .i64 bk, .int .u32 bn] TAr)
    have hzA : (W1.alloc (.cells #[.int .i64 ak, .int .u32 an, .int .i64 bk, .int .u32 bn] TAr)).heap.size = W1.heap.size + 1 := by simp
    generalize W1.alloc (.cells #[.int .i64 ak, .int .u32 an, .int .i64 bk, .int .u32 bn] TAr) = WA at *
    have bB := below1 WA (.cells #[.slice (some ⟨W1.heap.size, 0, none⟩) 2 2, .slice ap args.length acap] TArs)
    have NB := heap_r0 WA (.cells #[.slice (some ⟨W1.heap.size, 0, none⟩) 2 2, .slice ap args.length acap] TArs)
    rw [← hzA]
    generalize WA.alloc (.cells #[.slice (some ⟨W1.heap.size, 0, none⟩) 2 2, .slice ap args.length acap] TArs) = WB at *
    have bAB := bA.trans (bB.mono bA.size)
    have hall := HB1.out.trans (bAB.mono HB1.out.size)
    have g := blk_b NA bB
    have a1 : ArgV WB (.slice (some ⟨W1.heap.size, 0, none⟩) 2 2) [⟨ak, an⟩, ⟨bk, bn⟩] := by
      refine ⟨_, _, rfl, ⟨Nat.le_refl _, fun e => by cases e⟩, fun i a ha => ⟨W1.heap.size, 0, rfl, lt_of_heap g, fun j hj => ?_⟩⟩
      rw [Lib.cell_of_heap g]
      rcases i with _ | _ | i
      · simp at ha; subst ha
        rcases j with _ | _ | j
        · rfl
        · rfl
        · omega
      · simp at ha; subst ha
        rcases j with _ | _ | j
        · rfl
        · rfl
        · omega
      · simp at ha
    refine (concat2_c (l1 := [⟨ak, an⟩, ⟨bk, bn⟩]) (l2 := args) ((Lib.cell_of_heap NB 0).trans rfl) ((Lib.cell_of_heap NB 1).trans rfl) a1 (HA.out.below hall) (by simp) (by simpa using hb)).mono ?_
    rintro e w' ⟨v, rfl, ho, hbb⟩
    rw [← HLL.out] at ho
    obtain ⟨vp, vc, rfl⟩ := slice_of_own ho
    exact ⟨vp, vc, rfl, ownsRow_base ho bAB.size, hall.trans (hbb.mono hall.size)⟩
  have r11b := ((below1 W1 (.cells #[.int .i64 ak, .int .u32 an, .int .i64 bk, .int .u32 bn] TAr)).cell (p := ⟨w.heap.size, 11, none⟩) (World.block_lt_of_cell? W1 _ r11)).trans r11
  go_wp2_with (first | (go_at_call 32; refine HC.out.mono ?_; rintro e w3 ⟨vp, vc, rfl, ho, hbb⟩; have HO : Hid (w3.ownsRow W1.heap.size TAr 2 (.slice vp LL.length vc) LL.length (argsC LL)) := ho; have HB3 : Hid (Below w.heap.size w w3) := hbb; clear ho hbb HC) | fail)
  clear r3 r4 r5 r6 r11 r11b HB1 HA
  have hll : LL.length ≤ 140737488355328 := by omega
  go_loopw [3, 16] (fun ov iv wr => ∃ k : Nat, iv = .int .i64 k ∧ k ≤ LL.length ∧ Hid (Below w3.heap.size w3 wr) ∧ Hid (wr.ownsRow w3.heap.size 3 1 ov (rdF (LL.take k)).length (intsC (rdF (LL.take k))))) (fun _ iv _ => LL.length - (intOf iv).toNat)
  case atStart => exact ⟨0, rfl, Nat.zero_le _, Below.refl _ _, ⟨rfl, Or.inl ⟨rfl, rfl⟩⟩⟩
  case round =>
    obtain ⟨k, rfl, hk, HR, HOo⟩ := hrel
    obtain ⟨op', oc', rfl⟩ := slice_of_own HOo.out
    by_cases hlt : k < LL.length
    · obtain ⟨a, ha⟩ : ∃ a, LL[k]? = some a := ⟨_, List.getElem?_eq_getElem hlt⟩
      obtain ⟨gv, cv, hv, v1, v2, v3, v4, v5⟩ := own_cell (ownsRow_turned HO.out (Turned.of_below HR.out (fun _ => False)) (fun _ _ h => h.elim)) (by omega)
      injection hv with e1 e2 e3
      subst e1 e3
      obtain ⟨hn0, hn1⟩ := HOK.out a (List.mem_of_getElem? ha)
      have a0 := v4 (k * 2 + 0) (.int .i64 a.kind) (argsC_at LL k a ha 0 (by omega))
      have a1 := v4 (k * 2 + 1) (.int .u32 a.n) (argsC_at LL k a ha 1 (by omega))
      have HT := rdF_take ha
      have hol := rdF_len (LL.take k)
      rw [List.length_take, Nat.min_eq_left (by omega)] at hol
      obtain ⟨kd, m⟩ := a
      simp only [Nat.add_zero] at a0 a1 hn0 hn1 HT
      have HTT : Hid (rdF (LL.take (k + 1)) = rdF (LL.take k) ++ (if kd == 1 then [m] else [])) := HT
      have hold := heap_r0 wr (.cells #[.int .i64 0, .int .u32 0] TAr)
      have NP := heap_r0 wr (.cells #[.int .i64 kd, .int .u32 m] TAr)
      have bP := below1 wr (.cells #[.int .i64 kd, .int .u32 m] TAr)
      have z0 := Lib.cell_of_heap NP 0
      have z1 := Lib.cell_of_heap NP 1
      simp only [List.getElem?_toArray, List.getElem?_cons_zero, List.getElem?_cons_succ] at z0 z1
      have HRP : Hid (Below w3.heap.size w3 (wr.alloc (.cells #[.int .i64 kd, .int .u32 m] TAr))) := HR.out.trans (bP.mono HR.out.size)
      have HOP : Hid ((wr.alloc (.cells #[.int .i64 kd, .int .u32 m] TAr)).ownsRow w3.heap.size 3 1 (.slice op' (rdF (LL.take k)).length oc') (rdF (LL.take k)).length (intsC (rdF (LL.take k)))) := ownsRow_turned HOo.out (Turned.of_below bP (fun _ => False)) (fun _ _ h => h.elim)
      clear v4 v5 v1 v2 ha e2 NP bP HT HR HOo
      go_upto_region 5 with (first | ((with_reducible apply step_store hold); rfl; rfl; kernel_rfl; rfl; kernel_rfl; rw [World.setRow_alloc_new]) | fail)
      generalize wr.alloc (.cells #[.int .i64 kd, .int .u32 m] TAr) = W5 at *
      clear hold a0 a1
      by_cases hk1 : kd = 1
      · subst hk1
        have hwm : IntKind.i64.wrap m = m := wrap_idI (by omega) (by omega)
        have bI := below1 W5 (.cells #[.int .i64 m] 3)
        have HR2 : Hid (Below w3.heap.size w3 (W5.alloc (.cells #[.int .i64 m] 3))) := HRP.out.trans (bI.mono HRP.out.size)
        have HO2 : Hid ((W5.alloc (.cells #[.int .i64 m] 3)).ownsRow w3.heap.size 3 1 (.slice op' (rdF (LL.take k)).length oc') (rdF (LL.take k)).length (intsC (rdF (LL.take k)))) := ownsRow_turned HOP.out (Turned.of_below bI (fun _ => False)) (fun _ _ h => h.elim)
        clear bI
        go_wp2_with (at_builtin; go_must (refine wpList_append_own_at _ rfl (.tmp 23) (.tmp 27) TIs rfl w3.heap.size 3 i0 _ 1 8 Tryz.underlying33 hi0 hz0 hz1 hz2 rfl (by decide) (.slice op' (rdF (LL.take k)).length oc') (rdF (LL.take k)).length _ rfl HO2.out ⟨W5.heap.size, 0, none⟩ 1 1 [.int .i64 m] rfl rfl (cells_new _ _ _) (by simp [Value.oneCell']) (by unfold maxLen; omega) (by omega) HR2.out.size ?_); intro v' w' hown hgrow hnil hat; have HOW : Hid (w'.ownsRow w3.heap.size 3 1 v' ((rdF (LL.take k)).length + 1) (intsC (rdF (LL.take k)) ++ [.int .i64 m])) := hown; have HGR : Hid (Below w3.heap.size w3 w') := below_grown HR2.out HR2.out.size hgrow (fun k e => (ownsRow_at HO2.out e).1); clear hown hgrow hnil hat)
        refine ⟨⟨k + 1, by go_num, by omega, HGR, ?_⟩, by simp [intOf]; omega⟩
        have hx := HOW.out
        rw [HTT.out]
        simp only [intsC, beq_self_eq_true, if_true, List.map_append, List.length_append] at hx ⊢
        exact hx
      · have hk2 : (kd == 1) = false := by simpa using hk1
        clear hk1
        go_wp2
        refine ⟨⟨k + 1, by go_num, by omega, HRP, ?_⟩, by simp [intOf]; omega⟩
        rw [HTT.out, hk2]
        simp only [Bool.false_eq_true, if_false, List.append_nil]
        exact HOP
    · obtain rfl : k = LL.length := by omega
      go_wp2
      go_ret
      have e := congrArg rdF (List.take_length (l := LL))
      exact ⟨_, rfl, e ▸ IntSl.of_own HOo.out, HB3.out.trans (HR.out.mono HB3.out.size)⟩
set_option maxHeartbeats 8000000 in
theorem rReads_c {x : In} {s : Value} (hA : ArgV w s x.args) (hok : ∀ a ∈ x.a :: x.b :: x.args, ArOK a) (hb : (2 + x.args.length) * 16 ≤ 140737488355328) :
    Calls Tryz.prog 18 #[.agg (inCells x s).toArray] w fun e w' => ∃ v, e = .returned v ∧ IntSl w' v (readsP x) ∧ Below w.heap.size w w' := by
  obtain ⟨i0, hi0, hz0, hz1, hz2⟩ := info_parts infoI
  have HA : Hid (ArgV w s x.args) := hA
  obtain ⟨ap, acap, rfl, x1, x2⟩ := hA
  clear x1 x2
  have HOK : Hid (∀ a ∈ x.a :: x.b :: x.args, ArOK a) := hok
  obtain ⟨LL, hLL⟩ : ∃ LL, LL = x.a :: x.b :: x.args := ⟨_, rfl⟩
  have HRD : Hid (readsP x = rdF LL) := by show readsP x = _; rw [hLL]; rfl
  rw [HRD.out]
  have HLL : Hid (LL = [x.a, x.b] ++ x.args) := hLL
  have hl2 : LL.length = 2 + x.args.length := by rw [hLL]; simp; omega
  rw [← hLL] at HOK
  have N1 := heap_r0 w (.cells (inCells x (.slice ap x.args.length acap)).toArray TIn)
  have b1 := below1 w (.cells (inCells x (.slice ap x.args.length acap)).toArray TIn)
  obtain ⟨op, bin, d, ⟨ak, an⟩, ⟨bk, bn⟩, n, off, width, sg, args⟩ := x
  simp only [inCells] at N1 b1 HA HLL hl2 hb ⊢
  have r3 := Lib.cell_of_heap N1 3
  have r4 := Lib.cell_of_heap N1 4
  have r5 := Lib.cell_of_heap N1 5
  have r6 := Lib.cell_of_heap N1 6
  have r11 := Lib.cell_of_heap N1 11
  simp only [List.getElem?_toArray, List.getElem?_cons_zero, List.getElem?_cons_succ] at r3 r4 r5 r6 r11
  have HB1 : Hid (Below w.heap.size w (w.alloc (.cells #[.int .i64 op, .int .i64 bin, .int .i64 d, .int .i64 ak, .int .u32 an, .int .i64 bk, .int .u32 bn, .int .i64 n, .int .i64 off, .int .i64 width, .bool sg, .slice ap args.length acap] TIn))) := b1
  clear hok hLL b1 N1 HRD
  go_enter Tryz.func18, Tryz.ntmps18
  go_upto_region 1 with (fail)
  refine (?_ : Code.wp _ _ _ _ (w.alloc (.cells #[.int .i64 op, .int .i64 bin, .int .i64 d, .int .i64 ak, .int .u32 an, .int .i64 bk, .int .u32 bn, .int .i64 n, .int .i64 off, .int .i64 width, .bool sg, .slice ap args.length acap] TIn)))
  generalize w.alloc (.cells #[.int .i64 op, .int .i64 bin, .int .i64 d, .int .i64 ak, .int .u32 an, .int .i64 bk, .int .u32 bn, .int .i64 n, .int .i64 off, .int .i64 width, .bool sg, .slice ap args.length acap] TIn) = W1 at *
  have bA := below1 W1 (.cells #[.int .i64 ak, .int .u32 an, .int .i64 bk, .int .u32 bn] TAr)
  have NA := heap_r0 W1 (.cells #[.int .i64 ak, .int .u32 an, .int .i64 bk, .int .u32 bn] TAr)
  have r11b := (bA.cell (p := ⟨w.heap.size, 11, none⟩) (World.block_lt_of_cell? W1 _ r11)).trans r11
  have hallA := HB1.out.trans (bA.mono HB1.out.size)
  have HO1 : Hid ((W1.alloc (.cells #[.int .i64 ak, .int .u32 an, .int .i64 bk, .int .u32 bn] TAr)).ownsRow W1.heap.size TAr 2 (.slice (some ⟨W1.heap.size, 0, none⟩) 2 2) 2 (argsC [⟨ak, an⟩, ⟨bk, bn⟩])) := ⟨rfl, Or.inr ⟨W1.heap.size, 2, _, rfl, Nat.le_refl _, NA, Nat.le_refl _, by unfold maxLen; omega, rfl, rfl⟩⟩
  have HI1 : Hid (ArgV (W1.alloc (.cells #[.int .i64 ak, .int .u32 an, .int .i64 bk, .int .u32 bn] TAr)) (.slice ap args.length acap) args) := HA.out.below hallA
  have HBA : Hid (Below w.heap.size w (W1.alloc (.cells #[.int .i64 ak, .int .u32 an, .int .i64 bk, .int .u32 bn] TAr))) := hallA
  have HSZ : Hid (W1.heap.size ≤ (W1.alloc (.cells #[.int .i64 ak, .int .u32 an, .int .i64 bk, .int .u32 bn] TAr)).heap.size) := bA.size
  have hsz1 : w.heap.size ≤ W1.heap.size := HB1.out.size
  clear bA NA hallA
  go_wp2_with (at_builtin; refine append_args rfl (.tmp 11) (.tmp 13) rfl W1.heap.size (.slice (some ⟨W1.heap.size, 0, none⟩) 2 2) 2 (argsC [⟨ak, an⟩, ⟨bk, bn⟩]) rfl HO1.out (xv := .slice ap args.length acap) (l := args) rfl HI1.out (by omega) HSZ.out ?_; intro v3 w3 ho3 hg3; obtain ⟨vp, vc, rfl⟩ := slice_of_own ho3; rw [argsC_append, ← HLL.out, ← hl2] at ho3; rw [← hl2]; have HO : Hid (w3.ownsRow W1.heap.size TAr 2 (.slice vp LL.length vc) LL.length (argsC LL)) := ho3; have HB3 : Hid (Below w.heap.size w w3) := below_grown HBA.out HBA.out.size hg3 (fun k e => by cases e; exact hsz1); clear ho3 hg3)
  clear r3 r4 r5 r6 r11 r11b HB1 HA
  have hll : LL.length ≤ 140737488355328 := by omega
  go_loopw [4, 5] (fun ov iv wr => ∃ k : Nat, iv = .int .i64 k ∧ k ≤ LL.length ∧ Hid (Below w3.heap.size w3 wr) ∧ Hid (wr.ownsRow w3.heap.size 3 1 ov (rdF (LL.take k)).length (intsC (rdF (LL.take k))))) (fun _ iv _ => LL.length - (intOf iv).toNat)
  case atStart => exact ⟨0, rfl, Nat.zero_le _, Below.refl _ _, ⟨rfl, Or.inl ⟨rfl, rfl⟩⟩⟩
  case round =>
    obtain ⟨k, rfl, hk, HR, HOo⟩ := hrel
    obtain ⟨op', oc', rfl⟩ := slice_of_own HOo.out
    by_cases hlt : k < LL.length
    · obtain ⟨a, ha⟩ : ∃ a, LL[k]? = some a := ⟨_, List.getElem?_eq_getElem hlt⟩
      obtain ⟨gv, cv, hv, v1, v2, v3, v4, v5⟩ := own_cell (ownsRow_turned HO.out (Turned.of_below HR.out (fun _ => False)) (fun _ _ h => h.elim)) (by omega)
      injection hv with e1 e2 e3
      subst e1 e3
      obtain ⟨hn0, hn1⟩ := HOK.out a (List.mem_of_getElem? ha)
      have a0 := v4 (k * 2 + 0) (.int .i64 a.kind) (argsC_at LL k a ha 0 (by omega))
      have a1 := v4 (k * 2 + 1) (.int .u32 a.n) (argsC_at LL k a ha 1 (by omega))
      have HT := rdF_take ha
      have hol := rdF_len (LL.take k)
      rw [List.length_take, Nat.min_eq_left (by omega)] at hol
      obtain ⟨kd, m⟩ := a
      simp only [Nat.add_zero] at a0 a1 hn0 hn1 HT
      have HTT : Hid (rdF (LL.take (k + 1)) = rdF (LL.take k) ++ (if kd == 1 then [m] else [])) := HT
      have HRP : Hid (Below w3.heap.size w3 wr) := HR
      have HOP : Hid (wr.ownsRow w3.heap.size 3 1 (.slice op' (rdF (LL.take k)).length oc') (rdF (LL.take k)).length (intsC (rdF (LL.take k)))) := HOo
      clear v4 v5 v1 v2 ha e2 HT HR HOo
      by_cases hk1 : kd = 1
      · subst hk1
        have hwm : IntKind.i64.wrap m = m := wrap_idI (by omega) (by omega)
        have bI := below1 wr (.cells #[.int .i64 m] 3)
        have HR2 : Hid (Below w3.heap.size w3 (wr.alloc (.cells #[.int .i64 m] 3))) := HRP.out.trans (bI.mono HRP.out.size)
        have HO2 : Hid ((wr.alloc (.cells #[.int .i64 m] 3)).ownsRow w3.heap.size 3 1 (.slice op' (rdF (LL.take k)).length oc') (rdF (LL.take k)).length (intsC (rdF (LL.take k)))) := ownsRow_turned HOP.out (Turned.of_below bI (fun _ => False)) (fun _ _ h => h.elim)
        clear bI
        go_wp2_with (at_builtin; go_must (refine wpList_append_own_at _ rfl (.tmp 27) (.tmp 34) TIs rfl w3.heap.size 3 i0 _ 1 8 Tryz.underlying33 hi0 hz0 hz1 hz2 rfl (by decide) (.slice op' (rdF (LL.take k)).length oc') (rdF (LL.take k)).length _ rfl HO2.out ⟨wr.heap.size, 0, none⟩ 1 1 [.int .i64 m] rfl rfl (cells_new _ _ _) (by simp [Value.oneCell']) (by unfold maxLen; omega) (by omega) HR2.out.size ?_); intro v' w' hown hgrow hnil hat; have HOW : Hid (w'.ownsRow w3.heap.size 3 1 v' ((rdF (LL.take k)).length + 1) (intsC (rdF (LL.take k)) ++ [.int .i64 m])) := hown; have HGR : Hid (Below w3.heap.size w3 w') := below_grown HR2.out HR2.out.size hgrow (fun k e => (ownsRow_at HO2.out e).1); clear hown hgrow hnil hat)
        refine ⟨⟨k + 1, by go_num, by omega, HGR, ?_⟩, by simp [intOf]; omega⟩
        have hx := HOW.out
        rw [HTT.out]
        simp only [intsC, beq_self_eq_true, if_true, List.map_append, List.length_append] at hx ⊢
        exact hx
      · have hk2 : (kd == 1) = false := by simpa using hk1
        clear hk1
        go_wp2
        refine ⟨⟨k + 1, by go_num, by omega, HRP, ?_⟩, by simp [intOf]; omega⟩
        rw [HTT.out, hk2]
        simp only [Bool.false_eq_true, if_false, List.append_nil]
        exact HOP
    · obtain rfl : k = LL.length := by omega
      go_wp2
      go_ret
      have e := congrArg rdF (List.take_length (l := LL))
      exact ⟨_, rfl, e ▸ IntSl.of_own HOo.out, HB3.out.trans (HR.out.mono HB3.out.size)⟩
end
end Go.Proofs.YtaaphipbkpjkjaaGreatDoor
