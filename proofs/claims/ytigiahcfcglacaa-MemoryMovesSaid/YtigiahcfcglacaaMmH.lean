/-
  A block is made; a block is ended.
-/
import Derived.Test.YtigiahcfcglacaaMmG
namespace Go.Proofs.Ytigiahcfcglacaa
open Go.RowKit Go.Maps
set_option linter.unusedVariables false
set_option maxRecDepth 100000
section
variable {w : World} {b : Nat} {xs : List (Option Bx)} {P : Nat → Prop}
def okMake (n al : Int) : Bool := decide (1 ≤ n) && decide (n ≤ 16384) && isW al
set_option maxHeartbeats 1000000 in
theorem make_bad (h : MemX w b xs P) (n al : Int) (hbad : okMake n al = false) :
    Calls Try.prog 28 #[.pointer (some ⟨b, 0, none⟩), .int .i64 n, .int .i64 al] w fun e w' => e = .returned (.tuple #[.int .i64 0, .int .i64 2]) ∧ w' = w := by
  have c := given_c h.c012.1
  have n2 := not_t
  have n3 := not_f
  by_cases h1 : n < 1
  · clear hbad
    go_enter Try.func28, Try.ntmps28
    go_wp2_with (go_at_call 30; refine c.mono ?_; rintro e w' ⟨rfl, rfl⟩)
    go_ret2
    exact ⟨rfl, rfl⟩
  · by_cases h2 : 16384 < n
    · clear hbad
      go_enter Try.func28, Try.ntmps28
      go_wp2_with (go_at_call 30; refine c.mono ?_; rintro e w' ⟨rfl, rfl⟩)
      go_ret2
      exact ⟨rfl, rfl⟩
    · have hw : isW al = false := by
        unfold okMake at hbad
        have e1 : decide (1 ≤ n) = true := by simp; omega
        have e2 : decide (n ≤ 16384) = true := by simp; omega
        rw [e1, e2] at hbad; simpa using hbad
      have hW := isWidth_c al w
      rw [hw] at hW
      clear hbad hw
      go_enter Try.func28, Try.ntmps28
      go_wp2_with (first | (go_at_call 30; refine c.mono ?_; rintro e w' ⟨rfl, rfl⟩) | (go_at_call 58; refine hW.mono ?_; rintro e w' ⟨rfl, rfl⟩))
      go_ret2
      exact ⟨rfl, rfl⟩
theorem okMake_t {n al : Int} (h : okMake n al = true) : 1 ≤ n ∧ n ≤ 16384 ∧ isW al = true := by
  unfold okMake at h; simp at h; exact ⟨h.1.1, h.1.2, h.2⟩
theorem MemX.map_at (h : MemX w b xs P) : ∃ mb es ck, w.heap[b]? = some (.cells #[.pointer (some ⟨b, 0, none⟩), .map (some mb), .int .i64 xs.length] TMm (0, 0)) ∧ w.heap[mb]? = some (.map es ck) ∧ Ents es xs ∧ P mb ∧ w.cell? ⟨b, 0, none⟩ = some (.pointer (some ⟨b, 0, none⟩)) ∧ w.cell? ⟨b, 1, none⟩ = some (.map (some mb)) ∧ w.cell? ⟨b, 2, none⟩ = some (.int .i64 xs.length) := by
  obtain ⟨mb, es, ck, q1, q2, q3, q4⟩ := h.head
  exact ⟨mb, es, ck, q1, q2, q4, q3, by rw [Lib.cell_of_heap q1]; rfl, by rw [Lib.cell_of_heap q1]; rfl, by rw [Lib.cell_of_heap q1]; rfl⟩
set_option maxHeartbeats 1000000 in
theorem make_full (h : MemX w b xs P) (n al : Int) (hok : okMake n al = true) (hf : alive xs = 4096) :
    Calls Try.prog 28 #[.pointer (some ⟨b, 0, none⟩), .int .i64 n, .int .i64 al] w fun e w' => e = .returned (.tuple #[.int .i64 0, .int .i64 32]) ∧ w' = w := by
  have c := given_c h.c012.1
  have n2 := not_t
  obtain ⟨h1, h2, h3⟩ := okMake_t hok
  have hW := isWidth_c al w
  rw [h3] at hW
  obtain ⟨mb, es, ck, q1, q2, q3, q4, k0, k1, k2⟩ := h.map_at
  have hl := len_run q2
  rw [q3.num, hf] at hl
  clear hok h3 h q1 q2 q3 q4 hf
  go_enter Try.func28, Try.ntmps28
  go_wp2_with (first | (go_at_call 30; refine c.mono ?_; rintro e w' ⟨rfl, rfl⟩) | (go_at_call 58; refine hW.mono ?_; rintro e w' ⟨rfl, rfl⟩))
  go_ret2
  exact ⟨rfl, rfl⟩
theorem setBlock_turned (w : World) (mb : Nat) {es es' : Array MapEntry} {ck ck' : Nat} (hm : w.heap[mb]? = some (.map es ck)) : Turned w (ChangeMaps.setBlock w mb (.map es' ck')) (fun k => k = mb) :=
  ⟨rfl, rfl, rfl, by simp [ChangeMaps.setBlock], fun i _ hi => ChangeMaps.heap_setBlock_other hm _ hi⟩
set_option maxHeartbeats 4000000 in
theorem make_ok (h : MemX w b xs P) (n : Nat) (al : Int) (hok : okMake n al = true) (hf : alive xs < 4096) (hlen : xs.length + 1 < 140737488355328) :
    Calls Try.prog 28 #[.pointer (some ⟨b, 0, none⟩), .int .i64 n, .int .i64 al] w fun e w' => e = .returned (.tuple #[.int .i64 ((xs.length : Int) + 1), .int .i64 0]) ∧
      ∃ x P', x.bk = ⟨n, al, fun _ => clZ⟩ ∧ MemX w' b (xs ++ [some x]) P' ∧ Turned w w' P ∧ ∀ m, P' m → P m ∨ w.heap.size ≤ m := by
  have c := given_c h.c012.1
  have n2 := not_t
  obtain ⟨h1, h2, h3⟩ := okMake_t hok
  have hW := isWidth_c al w
  have hal : al = 1 ∨ al = 2 ∨ al = 4 := by simpa [isW] using h3
  rw [h3] at hW
  have hl2 := h.len
  obtain ⟨mb, es, ck, q1, q2, q3, q4, k0, k1, k2⟩ := h.map_at
  have hl := len_run q2
  have hn4 : ((es.size : Int) == 4096) = false := by rw [q3.num]; simp; omega
  have es4 : es.size < 4096 := by rw [q3.num]; exact hf
  have fr : w.frozen? ⟨b, 2, none⟩ = false := frozen_of q1 2
  have hbm : b ≠ mb := by rintro rfl; rw [q1] at q2; cases q2
  have hb' : (w.setCell ⟨b, 2, none⟩ (.int .i64 ((xs.length : Int) + 1))).heap[b]? = some (.cells #[.pointer (some ⟨b, 0, none⟩), .map (some mb), .int .i64 ((xs.length : Int) + 1)] TMm (0, 0)) := (heap_setCell q1 _).trans (by rfl)
  have hm' : (w.setCell ⟨b, 2, none⟩ (.int .i64 ((xs.length : Int) + 1))).heap[mb]? = some (.map es ck) := by rw [heap_setCell_other _ _ _ _ (fun e => hbm (by simpa using e.symm))]; exact q2
  have j1 : (w.setCell ⟨b, 2, none⟩ (.int .i64 ((xs.length : Int) + 1))).cell? ⟨b, 1, none⟩ = some (.map (some mb)) := by rw [Lib.cell_of_heap hb']; rfl
  have j2 : (w.setCell ⟨b, 2, none⟩ (.int .i64 ((xs.length : Int) + 1))).cell? ⟨b, 2, none⟩ = some (.int .i64 ((xs.length : Int) + 1)) := by rw [Lib.cell_of_heap hb']; rfl
  have HT : Hid (Turned w (w.setCell ⟨b, 2, none⟩ (.int .i64 ((xs.length : Int) + 1))) (fun k => k = b)) := Turned.setCell _ _ _ _ rfl
  have H : Hid (MemX w b xs P) := h
  have Q1 : Hid _ := q1
  have Q2 : Hid _ := q2
  have Q3 : Hid (Ents es xs) := q3
  have HBm : Hid (b ≠ mb) := hbm
  have hsz : (w.setCell ⟨b, 2, none⟩ (.int .i64 ((xs.length : Int) + 1))).heap.size = w.heap.size := by simp
  have HB' : Hid _ := hb'
  have HM' : Hid _ := hm'
  have cN := fun Y => newBlock_c n al Y (by omega) (by omega) hal
  clear hok h3 h q1 q2 q3 hf hbm hb' hm' hal q4
  go_enter Try.func28, Try.ntmps28
  go_wp2_with (first | (go_at_call 30; refine c.mono ?_; rintro e w' ⟨rfl, hw⟩; rw [hw]; clear hw w') | (go_at_call 58; refine hW.mono ?_; rintro e w' ⟨rfl, hw⟩; rw [hw]; clear hw w'))
  generalize hW1 : w.setCell ⟨b, 2, none⟩ (.int .i64 ((xs.length : Int) + 1)) = W1 at *
  go_region_with (go_at_call 59; refine (cN _).mono ?_; rintro e W2 ⟨x, rfl, hbx, hbk, hx1, hx2, hx3, hB2⟩; have hB3 : Below W1.heap.size W1 W2 := (⟨rfl, rfl, rfl, Nat.le_refl _, fun _ _ => rfl⟩ : Below W1.heap.size W1 W1.drew).trans hB2; have g1 := (hB3.cell (p := ⟨b, 1, none⟩) (lt_of_heap HB'.out)).trans j1; have g2 := (hB3.cell (p := ⟨b, 2, none⟩) (lt_of_heap HB'.out)).trans j2; have gm : W2.heap[mb]? = some (.map es ck) := (hB3.block mb (lt_of_heap HM'.out)).trans HM'.out; have gb : W2.heap[b]? = _ := (hB3.block b (lt_of_heap HB'.out)).trans HB'.out; have GM : Hid (W2.heap[mb]? = some (.map es ck)) := gm; have GB : Hid (W2.heap[b]? = _) := gb; have st := store_run gm Q3.out hl2 (.pointer (some ⟨x.bb, 0, none⟩)); have HBX : Hid (BlkAt W2 x) := hbx; have HBK : Hid (x.bk = ⟨n, al, fun _ => clZ⟩) := hbk; have HX1 : Hid (W1.heap.size ≤ x.bb) := hx1; have HX2 : Hid (W1.heap.size ≤ x.pb) := hx2; have HX3 : Hid (∀ j, x.pg j = none) := hx3; have HB3 : Hid (Below W1.heap.size W1 W2) := hB3; clear hbx hbk hx1 hx2 hx3 hB2 hB3 gm gb)
  all_goals
    have e1 : (ChangeMaps.setBlock W2 mb (.map (es.push ⟨.int .i64 ((xs.length : Int) + 1), .pointer (some ⟨x.bb, 0, none⟩), ck⟩) (ck + 1))).heap[b]? = some (.cells #[.pointer (some ⟨b, 0, none⟩), .map (some mb), .int .i64 ((xs.length : Int) + 1)] TMm (0, 0)) := (ChangeMaps.heap_setBlock_other GM.out _ HBm.out).trans GB.out
    have e2 : (ChangeMaps.setBlock W2 mb (.map (es.push ⟨.int .i64 ((xs.length : Int) + 1), .pointer (some ⟨x.bb, 0, none⟩), ck⟩) (ck + 1))).heap[mb]? = some (.map (es.push ⟨.int .i64 ((xs.length : Int) + 1), .pointer (some ⟨x.bb, 0, none⟩), ck⟩) (ck + 1)) := ChangeMaps.heap_setBlock_same GM.out _
    have t3 : Turned W2 (ChangeMaps.setBlock W2 mb (.map (es.push ⟨.int .i64 ((xs.length : Int) + 1), .pointer (some ⟨x.bb, 0, none⟩), ck⟩) (ck + 1))) (fun k => k = mb) := setBlock_turned W2 mb GM.out
    have c3 : (ChangeMaps.setBlock W2 mb (.map (es.push ⟨.int .i64 ((xs.length : Int) + 1), .pointer (some ⟨x.bb, 0, none⟩), ck⟩) (ck + 1))).cell? ⟨b, 2, none⟩ = some (.int .i64 ((xs.length : Int) + 1)) := by rw [Lib.cell_of_heap e1]; rfl
    have E1 : Hid _ := e1
    have E2 : Hid _ := e2
    have T3 : Hid (Turned _ _ _) := t3
    clear e1 e2 t3 st
    generalize ChangeMaps.setBlock W2 mb (.map (es.push ⟨.int .i64 ((xs.length : Int) + 1), .pointer (some ⟨x.bb, 0, none⟩), ck⟩) (ck + 1)) = W3 at *
    go_wp2
    go_ret2
    have hm2 : ∀ {k : Nat} {o : Obj}, W2.heap[k]? = some o → (∀ a b, o ≠ .map a b) → ¬ (k = mb) := by
      rintro k o hk hne rfl
      rw [GM.out] at hk; cases hk; exact hne _ _ rfl
    have hbx := HBX.out.kept T3.out (hm2 HBX.out.blk (by intro _ _ e; cases e)) (hm2 HBX.out.pages.choose_spec.1 (by intro _ _ e; cases e)) (fun j g hj hg => by rw [HX3.out j] at hg; cases hg)
    have hT : Turned w W3 (fun k => k = b ∨ k = mb) := by
      refine ((HT.out.mono (S' := fun k => k = b ∨ k = mb) (fun k hk => Or.inl hk)).trans (Turned.of_below HB3.out (fun k => k = b ∨ k = mb)) (fun _ _ h => h)).trans T3.out (fun _ _ h => Or.inr h)
    have hpush := H.out.push Q1.out Q2.out hT E1.out E2.out hbx (by have := HX1.out; omega) (by have := HX2.out; omega) HX3.out hlen
    refine ⟨rfl, x, _, HBK.out, hpush, hT.mono (fun k hk => ?_), fun m hm => ?_⟩
    · rcases hk with rfl | rfl
      · exact H.out.pb
      · obtain ⟨mb', es', ck', g1, g2, g3, g4⟩ := H.out.head
        have g0 := Q1.out
        rw [g1] at g0
        simp at g0
        rw [← g0]; exact g3
    · rcases hm with hm | rfl | rfl
      · exact Or.inl hm
      · exact Or.inr (by have := HX1.out; omega)
      · exact Or.inr (by have := HX2.out; omega)
set_option maxHeartbeats 1000000 in
theorem end_bad (h : MemX w b xs P) (n : Int) (n0 : -9223372036854775808 ≤ n) (n1 : n < 9223372036854775808) (hl : look xs n = none) :
    Calls Try.prog 37 #[.pointer (some ⟨b, 0, none⟩), .int .i64 n] w fun e w' => e = .returned (.int .i64 2) ∧ w' = w := by
  have c := given_c h.c012.1
  have n2 := not_t
  have e1 := eq_nil
  obtain ⟨mb, es, ck, q1, q2, q3, q4, k0, k1, k2⟩ := h.map_at
  have lk := look_run q2 q3 h.len n n0 n1
  rw [hl] at lk
  simp only [ptrX, Option.map_none] at lk
  clear h q1 q2 q3 hl q4
  go_enter Try.func37, Try.ntmps37
  go_wp2_with (go_at_call 30; refine c.mono ?_; rintro e w' ⟨rfl, hw⟩; rw [hw]; clear hw w')
  go_ret
  exact ⟨rfl, rfl⟩
set_option maxHeartbeats 1000000 in
theorem end_ok (h : MemX w b xs P) {i : Nat} {x : Bx} (hx : xs[i]? = some (some x)) :
    Calls Try.prog 37 #[.pointer (some ⟨b, 0, none⟩), .int .i64 ((i : Int) + 1)] w fun e w' => e = .returned (.int .i64 0) ∧ MemX w' b (xs.set i none) P ∧ Turned w w' P := by
  have c := given_c h.c012.1
  have n2 := not_t
  have e2 := eq_some
  have hil : i < xs.length := (List.getElem?_eq_some_iff.1 hx).1
  have hlen := h.len
  obtain ⟨mb, es, ck, q1, q2, q3, q4, k0, k1, k2⟩ := h.map_at
  have lk := look_run q2 q3 h.len ((i : Int) + 1) (by omega) (by omega)
  rw [look_at hx] at lk
  simp only [ptrX, Option.map_some] at lk
  obtain ⟨j, e0, es2, d1, d2, d3, d4⟩ := del_run q2 q3 h.len hx 3
  have d5 : ∀ ty, (Builtin.delete_ #[TMap, 3] ty #[.map (some mb), .int .i64 ((i : Int) + 1)]).run Try.prog w = .ok (.tuple #[]) (ChangeMaps.setBlock w mb (.map es2 ck)) := fun ty => d4
  have HM : Hid (MemX (ChangeMaps.setBlock w mb (.map es2 ck)) b (xs.set i none) P ∧ Turned w (ChangeMaps.setBlock w mb (.map es2 ck)) P) := h.drop q1 q2 hx (setBlock_turned w mb q2) d1 d2 d3 (ChangeMaps.heap_setBlock_same q2 _)
  clear h q1 q2 q3 hx d1 d2 d3 d4 q4
  go_enter Try.func37, Try.ntmps37
  go_wp2_with (go_at_call 30; refine c.mono ?_; rintro e w' ⟨rfl, hw⟩; rw [hw]; clear hw w')
  go_ret
  exact ⟨rfl, HM.out⟩
end
end Go.Proofs.Ytigiahcfcglacaa
