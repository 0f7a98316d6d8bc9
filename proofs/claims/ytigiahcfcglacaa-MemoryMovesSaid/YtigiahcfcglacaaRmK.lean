/-
  The given answer: a block more.
-/
import Derived.Test.YtigiahcfcglacaaRmJ
namespace Go.Proofs.Ytigiahcfcglacaa
open Go.RowKit Go.Maps
set_option linter.unusedVariables false
set_option maxRecDepth 100000
/-- append to a slice of the call's own, as one step of a region that draws its order. -/
theorem step_append_own_at {P : Program} {ops : Array Oper} {o : Oper} {a : Act} {w : World} {K : Act → World → Prop} {Q : Exit → Act → World → Prop} {E : Prop} (hgd : o.guard = none) (s x : Operand) (t : TypeId)
    (ho : o.op = .call { callee := .builtin .append, args := #[s, x], argTypes := #[t, t] })
    (base : Nat) (e : TypeId) (i : TypeInfo) (z : Value) (size bytes : Nat) (ht : P.underlying t = some (.slice e)) (hi : P.info? e = some i) (hz : i.zero = some z)
    (hsize : i.size = size) (hby : i.bytes = bytes) (hzs : z.cells.size = size) (hsz : 0 < size)
    (v : Value) (n : Nat) (xs : List Value) (hs : a.eval s = v) (hown : w.ownsRow base e size v n xs)
    (ad : Addr) (m c : Nat) (news : List Value) (hx : a.eval x = .slice (some ad) m c) (hl : news.length = m * size) (hnews : ∀ j u, news[j]? = some u → w.cell? (ad.add j) = some u) (h1 : ∀ u ∈ news, u.oneCell' = true)
    (h63 : n + m ≤ maxLen) (hbytes : (n + m) * bytes ≤ 140737488355328) (hbase : base ≤ w.heap.size)
    (h : ∀ v' w', w'.ownsRow base e size v' (n + m) (xs ++ news) → w.grownBy w' v.ownBlock → (v' = .slice none 0 0 ↔ v = .slice none 0 0 ∧ m = 0) → (v'.ownBlock = v.ownBlock ∨ v'.ownBlock = some w.heap.size) → K (a.put o.dst v') w') :
    if Region.wanted o (yielded ops a.tmps) = true then Oper.wp P o a w K Q else E := by
  have hw : Region.wanted o (yielded ops a.tmps) = true := by simp [Region.wanted, hgd]
  rw [if_pos hw]
  obtain ⟨v', w', hr, h2, h3, h4, h5⟩ := run_append_own_at (P := P) w base t o.type e i z size bytes ht hi hz hsize hby hzs hsz v n xs hown ad m c news hl hnews h1 h63 hbytes hbase
  unfold Oper.wp execOp
  simp only [ho, resolve, invoke, builtin, Sem.run_bind, Sem.run_pure, Result.andThen_ok, List.map_toArray, List.map_cons, List.map_nil, hs, hx, hr]
  exact h v' w' h2 h3 h4 h5

theorem infoRB : (Try.prog.info? TRB).map (fun i => (i.zero, i.size, i.bytes)) = some (some (.agg #[.int .i64 0, .bool false, .slice none 0 0]), 3, 40) := by kernel_rfl
section
variable {w : World} {rb : Nat} {ys : List Ry} {R : Nat → Prop}
set_option maxHeartbeats 4000000 in
theorem makeR_ok (h : RX w rb ys R) (n : Nat) (al : Int) (hok : okMake n al = true) (hf : alive (stR ys) < 4096) (hlen : ys.length + 1 < 3518437208883) :
    Calls Try.prog 36 #[.pointer (some ⟨rb, 0, none⟩), .int .i64 n, .int .i64 al] w fun e w' => e = .returned (.tuple #[.int .i64 ((ys.length : Int) + 1), .int .i64 0]) ∧
      ∃ y R', y.bk = some ⟨n, al, fun _ => clZ⟩ ∧ RX w' rb (ys ++ [y]) R' ∧ Turned w w' R ∧ ∀ m, R' m → R m ∨ w.heap.size ≤ m := by
  have n2 := not_t
  obtain ⟨h1, h2, h3⟩ := okMake_t hok
  have hal : al = 1 ∨ al = 2 ∨ al = 4 := by simpa [isW] using h3
  have hW := power_c al w
  rw [h3] at hW
  obtain ⟨i0, hi, hz0, hz1, hz2⟩ := info_parts infoRB
  obtain ⟨v, q1, q2, q3⟩ := h.head
  obtain ⟨vp, vc, rfl⟩ := slice_of_own q2
  have c0 : w.cell? ⟨rb, 0, none⟩ = some (.slice vp ys.length vc) := by rw [Lib.cell_of_heap q1]; rfl
  have c1 : w.cell? ⟨rb, 1, none⟩ = some (.int .i64 (alive (stR ys))) := by rw [Lib.cell_of_heap q1]; rfl
  have hd : decide (4096 ≤ (alive (stR ys) : Int)) = false := by simp; omega
  have mk := make_cells n (by omega)
  have hbb : ∀ (Y : World) (g : Nat), (Instr.build TRB #[(0, .int .i64 al), (2, .slice (some ⟨g, 0, none⟩) n n)]).run Try.prog Y = .ok (.agg #[.int .i64 al, .bool false, .slice (some ⟨g, 0, none⟩) n n]) Y := fun Y g => by kernel_rfl
  have H : Hid (RX w rb ys R) := h
  have Q1 : Hid (w.heap[rb]? = some (.cells #[.slice vp ys.length vc, .int .i64 (alive (stR ys))] TRM (0, 0))) := q1
  have Q2 : Hid (w.ownsRow 0 TRB 3 (.slice vp ys.length vc) ys.length (ryL ys)) := q2
  have fr := frozen_of q1
  have hrb : rb < w.heap.size := lt_of_heap q1
  have hal4 : alive (stR ys) < 4096 := hf
  generalize hA : alive (stR ys) = A at *
  have HAL : Hid (alive (stR ys) = A) := hA
  clear hok h3 h hf q1 q2 q3 hA
  go_enter Try.func36, Try.ntmps36
  go_wp2_with (go_at_call 60; refine hW.mono ?_; rintro e w' ⟨rfl, hw⟩; rw [hw]; clear hw w')
  have hB2 : Below w.heap.size w ((w.alloc (.cells (zeroC n) TC)).alloc (.cells #[.int .i64 al, .bool false, .slice (some ⟨w.heap.size, 0, none⟩) n n] TRB)).drew := (((Below.refl _ w).alloc (Nat.le_refl _) _).alloc (by simp) _).drew
  have HB2 : Hid (Below w.heap.size w ((w.alloc (.cells (zeroC n) TC)).alloc (.cells #[.int .i64 al, .bool false, .slice (some ⟨w.heap.size, 0, none⟩) n n] TRB)).drew) := hB2
  have H2 : Hid (World.ownsRow ((w.alloc (.cells (zeroC n) TC)).alloc (.cells #[.int .i64 al, .bool false, .slice (some ⟨w.heap.size, 0, none⟩) n n] TRB)).drew 0 TRB 3 (.slice vp ys.length vc) ys.length (ryL ys)) := ownsRow_below Q2.out hB2
  have k0 : ((w.alloc (.cells (zeroC n) TC)).alloc (.cells #[.int .i64 al, .bool false, .slice (some ⟨w.heap.size, 0, none⟩) n n] TRB)).drew.cell? ⟨rb, 0, none⟩ = some (.slice vp ys.length vc) := (hB2.cell (p := ⟨rb, 0, none⟩) hrb).trans c0
  have HN : Hid (∀ j u, [.int .i64 al, .bool false, .slice (some ⟨w.heap.size, 0, none⟩) n n][j]? = some u → ((w.alloc (.cells (zeroC n) TC)).alloc (.cells #[.int .i64 al, .bool false, .slice (some ⟨w.heap.size, 0, none⟩) n n] TRB)).drew.cell? ((⟨w.heap.size + 1, 0, none⟩ : Addr).add j) = some u) := by
    intro j u hu
    have := cells_new (w.alloc (.cells (zeroC n) TC)) #[.int .i64 al, .bool false, .slice (some ⟨w.heap.size, 0, none⟩) n n] TRB j u hu
    rw [show (w.alloc (.cells (zeroC n) TC)).heap.size = w.heap.size + 1 by simp] at this
    exact this
  have HQ : Hid (((w.alloc (.cells (zeroC n) TC)).alloc (.cells #[.int .i64 al, .bool false, .slice (some ⟨w.heap.size, 0, none⟩) n n] TRB)).drew.heap[rb]? = some (.cells #[.slice vp ys.length vc, .int .i64 A] TRM (0, 0))) := (hB2.block rb hrb).trans Q1.out
  have HZ : Hid (CellsAt ((w.alloc (.cells (zeroC n) TC)).alloc (.cells #[.int .i64 al, .bool false, .slice (some ⟨w.heap.size, 0, none⟩) n n] TRB)).drew w.heap.size n (fun _ => clZ)) := ((zero_cells w n).kept (Turned.alloc _ (.cells #[.int .i64 al, .bool false, .slice (some ⟨w.heap.size, 0, none⟩) n n] TRB) (fun _ => False)) (fun h => h)).kept (Turned.of_below (Below.refl _ _).drew (fun _ => False)) (fun h => h)
  have hsz2 : ((w.alloc (.cells (zeroC n) TC)).alloc (.cells #[.int .i64 al, .bool false, .slice (some ⟨w.heap.size, 0, none⟩) n n] TRB)).drew.heap.size = w.heap.size + 2 := by simp
  clear hB2
  go_region_law (refine step_append_own_at rfl (.tmp 28) (.tmp 33) 47 rfl 0 TRB i0 _ 3 40 Try.underlying47 hi hz0 hz1 hz2 rfl (by decide) (.slice vp ys.length vc) ys.length _ rfl H2.out ⟨w.heap.size + 1, 0, none⟩ 1 1 [.int .i64 al, .bool false, .slice (some ⟨w.heap.size, 0, none⟩) n n] rfl rfl HN.out (by simp [Value.oneCell']) (by unfold maxLen; omega) (by omega) (Nat.zero_le _) ?_; intro v' w' hown hgrow hnil hat; obtain ⟨p', cap', rfl⟩ := slice_of_own hown; have hrbv : ∀ m, Value.ownBlock (.slice vp ys.length vc) = some m → m ≠ rb := (fun m hm e => by subst e; obtain ⟨_, cur, hc⟩ := ownsRow_at Q2.out hm; rw [Q1.out] at hc; injection hc with hc; injection hc with _ hc; exact absurd hc (by decide)); have HT3 : Hid (w'.heap[rb]? = some (.cells #[.slice vp ys.length vc, .int .i64 A] TRM (0, 0))) := (hgrow.block rb (lt_of_heap HQ.out) (fun e => hrbv rb e.symm rfl)).trans HQ.out; have hc' : w'.cell? ⟨rb, 0, none⟩ = some (.slice vp ys.length vc) := (Lib.cell_of_heap HT3.out 0).trans rfl; have hc1' : w'.cell? ⟨rb, 1, none⟩ = some (.int .i64 A) := (Lib.cell_of_heap HT3.out 1).trans rfl; have hf' := frozen_of HT3.out; have HO : Hid (World.ownsRow _ _ _ _ _ _ _) := hown; have HG : Hid (World.grownBy _ _ _) := hgrow; have HA : Hid (_ ∨ _) := hat; clear hown hgrow hnil hat hrbv)
  all_goals
    go_wp2
    go_ret2
    have hr3 : World.ownsRow w' 0 TRB 3 (.slice p' (ys.length + 1) cap') (ys.length + 1) (ryL ys ++ [.int .i64 al, .bool false, .slice (some ⟨w.heap.size, 0, none⟩) n n]) := HO.out
    have hne : ∀ m, Value.ownBlock (.slice p' (ys.length + 1) cap') = some m → ¬ m = rb := by
      rintro m hm rfl
      obtain ⟨_, cur, hc⟩ := ownsRow_at hr3 hm
      rw [HT3.out] at hc; injection hc with hc; injection hc with _ hc; exact absurd hc (by decide)
    have t1 : Turned w w' (fun m => m = rb ∨ Value.ownBlock (.slice vp ys.length vc) = some m) := (Turned.of_below HB2.out _).trans (Turned.of_grown HG.out (S := fun m => m = rb ∨ Value.ownBlock (.slice vp ys.length vc) = some m) (fun m hm => Or.inr hm)) (fun _ _ h => h)
    have t2 : Turned w' ((w'.setCell ⟨rb, 0, none⟩ (.slice p' (ys.length + 1) cap')).setCell ⟨rb, 1, none⟩ (.int .i64 ((A : Int) + 1))) (fun m => m = rb) := (Turned.setCell (S := fun m => m = rb) _ rb _ _ rfl).trans (Turned.setCell (S := fun m => m = rb) _ rb _ _ rfl) (fun _ _ h => h)
    have hcl : CellsAt w' w.heap.size n (fun _ => clZ) := by
      refine HZ.out.kept (Turned.of_grown HG.out (S := fun m => Value.ownBlock (.slice vp ys.length vc) = some m) (fun m hm => hm)) (fun e => ?_)
      have := (Q2.out.lt _ e).2
      omega
    have hp := H.out.push (y := ⟨al, some ⟨n, al, fun _ => clZ⟩, w.heap.size⟩) (k := ⟨n, al, fun _ => clZ⟩) (v := .slice vp ys.length vc) (v' := .slice p' (ys.length + 1) cap') (w2 := (w'.setCell ⟨rb, 0, none⟩ (.slice p' (ys.length + 1) cap')).setCell ⟨rb, 1, none⟩ (.int .i64 ((A : Int) + 1))) (by rw [HAL.out]; exact Q1.out) Q2.out (t1.trans t2 (fun _ _ h => Or.inl h)) (by rw [HAL.out, heap_setCell (heap_setCell HT3.out _) _]; rfl) (ownsRow_turned hr3 t2 hne) (HA.out.imp id (fun e => ⟨_, e, by rw [hsz2]; omega⟩)) rfl (Nat.le_refl _) (hcl.kept t2 (fun e => by omega)) rfl (by show 1 ≤ n; omega) (by show n ≤ 16384; omega) hal hlen
    obtain ⟨R', r1, r2, r3⟩ := hp
    exact ⟨rfl, _, R', rfl, r1, r2, r3⟩
end
end Go.Proofs.Ytigiahcfcglacaa
