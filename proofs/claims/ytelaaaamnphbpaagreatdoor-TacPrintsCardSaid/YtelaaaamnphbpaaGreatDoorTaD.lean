/- Where code goes on. -/
import Derived.Test.YtelaaaamnphbpaaGreatDoorKA
import Derived.Lib.SliceRun
namespace Go.Proofs.YtelaaaamnphbpaaGreatDoor
open Go.RowKit Go.Maps
set_option linter.unusedVariables false
set_option maxRecDepth 100000
def IntSl (w : World) (v : Value) (l : List Int) : Prop :=
 (v = .slice none 0 0 ∧ l = []) ∨ ∃ g o cap, v = .slice (some ⟨g, o, none⟩) l.length cap ∧ l.length ≤ cap ∧ g < w.heap.size ∧ ∀ i n, l[i]? = some n → w.cell? ⟨g, o + i, none⟩ = some (.int .i64 n)
theorem IntSl.below {w w' : World} {v : Value} {l : List Int} (h : IntSl w v l) (hb : Below w.heap.size w w') : IntSl w' v l := by
 rcases h with h | ⟨g, o, cap, h1, h2, h3, h4⟩
 ·exact Or.inl h
 ·exact Or.inr ⟨g, o, cap, h1, h2, Nat.lt_of_lt_of_le h3 hb.size, fun i n hn => by rw [hb.cell (p := ⟨g, o + i, none⟩) h3]; exact h4 i n hn⟩
theorem next1_c {w : World} {cb n len cap : Nat} {cp : Option Addr} (hc : w.cell? ⟨cb, 0, none⟩ = some (.slice cp len cap)) (hl : len ≤ 9223372036854775807) (x : Int) :
  Calls Tryz.prog 31 #[.int .i64 x, .pointer (some ⟨cb, 0, none⟩)] w fun e w' => e = .returned (.bool (!withinP x 0 ((len : Int) - 1))) ∧ w' = w := by
 have c1 := isNumber_c x (len : Int) (by omega) (by omega) w
 generalize withinP x 0 ((len : Int) - 1) = b at *
 have nt := not_t
 have nf := not_f
 go_enter Tryz.func31, Tryz.ntmps31
 go_wp2_with fail
 refine c1.mono ?_
 rintro e w' ⟨rfl, hw⟩
 rw [hw]
 clear hw w'
 cases b
 all_goals
  go_wp2
  go_ret
  exact ⟨rfl, rfl⟩
section
variable {w : World} {cb len cap : Nat} {cp : Option Addr}
abbrev nextFn (cb : Nat) : Value := .func (.func 31) #[] #[.pointer (some ⟨cb, 0, none⟩)]
theorem index0 (hc : w.cell? ⟨cb, 0, none⟩ = some (.slice cp len cap)) (hl : len ≤ 9223372036854775807) (s : Option Addr) (c : Nat) :
  Calls Tryz.prog 53 #[.slice s 0 c, nextFn cb] w fun e w' => e = .returned (.int .i64 (-1)) ∧ w' = w := by
 go_enter Tryz.func53, Tryz.ntmps53
 go_wp2
 refine wp_loop_rounds 1 ?_
 rw [rounds_succ]
 go_wp2
 go_ret
 exact ⟨rfl, rfl⟩
theorem index1 (hc : w.cell? ⟨cb, 0, none⟩ = some (.slice cp len cap)) (hl : len ≤ 9223372036854775807) {g c : Nat} {a : Int} (h0 : w.cell? ⟨g, 0, none⟩ = some (.int .i64 a)) :
  Calls Tryz.prog 53 #[.slice (some ⟨g, 0, none⟩) 1 c, nextFn cb] w fun e w' => e = .returned (.int .i64 (if withinP a 0 ((len : Int) - 1) then -1 else 0)) ∧ w' = w := by
 have c1 := next1_c (n := 0) hc hl a
 generalize withinP a 0 ((len : Int) - 1) = b at *
 cases b
 ·go_enter Tryz.func53, Tryz.ntmps53
  go_wp2
  refine wp_loop_rounds 1 ?_
  rw [rounds_succ]
  go_wp2_with (first | (go_at_call 31; refine c1.mono ?_; rintro e w' ⟨rfl, hw⟩; rw [hw]; clear hw w') | fail)
  go_ret
  exact ⟨rfl, rfl⟩
 ·go_enter Tryz.func53, Tryz.ntmps53
  go_wp2
  refine wp_loop_rounds 2 ?_
  rw [rounds_succ]
  go_wp2_with (first | (go_at_call 31; refine c1.mono ?_; rintro e w' ⟨rfl, hw⟩; rw [hw]; clear hw w') | fail)
  rw [rounds_succ]
  go_wp2
  go_ret
  exact ⟨rfl, rfl⟩
theorem index2 (hc : w.cell? ⟨cb, 0, none⟩ = some (.slice cp len cap)) (hl : len ≤ 9223372036854775807) {g c : Nat} {a b : Int} (h0 : w.cell? ⟨g, 0, none⟩ = some (.int .i64 a)) (h1 : w.cell? ⟨g, 1, none⟩ = some (.int .i64 b)) :
  Calls Tryz.prog 53 #[.slice (some ⟨g, 0, none⟩) 2 c, nextFn cb] w fun e w' => e = .returned (.int .i64 (if withinP a 0 ((len : Int) - 1) then (if withinP b 0 ((len : Int) - 1) then -1 else 1) else 0)) ∧ w' = w := by
 have c1 := next1_c (n := 0) hc hl a
 have c2 := next1_c (n := 0) hc hl b
 generalize withinP a 0 ((len : Int) - 1) = x at *
 generalize withinP b 0 ((len : Int) - 1) = y at *
 cases x
 ·clear c2
  go_enter Tryz.func53, Tryz.ntmps53
  go_wp2
  refine wp_loop_rounds 1 ?_
  rw [rounds_succ]
  go_wp2_with (first | (go_at_call 31; refine c1.mono ?_; rintro e w' ⟨rfl, hw⟩; rw [hw]; clear hw w') | fail)
  go_ret
  exact ⟨rfl, rfl⟩
 ·cases y
  ·go_enter Tryz.func53, Tryz.ntmps53
   go_wp2
   refine wp_loop_rounds 2 ?_
   rw [rounds_succ]
   go_wp2_with (first | (go_at_call 31; refine c1.mono ?_; rintro e w' ⟨rfl, hw⟩; rw [hw]; clear hw w') | fail)
   clear c1
   rw [rounds_succ]
   go_wp2_with (first | (go_at_call 31; refine c2.mono ?_; rintro e w' ⟨rfl, hw⟩; rw [hw]; clear hw w') | fail)
   go_ret
   exact ⟨rfl, rfl⟩
  ·go_enter Tryz.func53, Tryz.ntmps53
   go_wp2
   refine wp_loop_rounds 3 ?_
   rw [rounds_succ]
   go_wp2_with (first | (go_at_call 31; refine c1.mono ?_; rintro e w' ⟨rfl, hw⟩; rw [hw]; clear hw w') | fail)
   clear c1
   rw [rounds_succ]
   go_wp2_with (first | (go_at_call 31; refine c2.mono ?_; rintro e w' ⟨rfl, hw⟩; rw [hw]; clear hw w') | fail)
   rw [rounds_succ]
   go_wp2
   go_ret
   exact ⟨rfl, rfl⟩
theorem Turned.setCells (g : Nat) : ∀ (vs : List Value) (o : Nat) (w : World) {S : Nat → Prop}, S g → Turned w (w.setCells g o vs) S
 | [], o, w, S, hS => Turned.refl _ _
 | v :: r, o, w, S, hS => (Turned.setCell w g o v hS).trans (Turned.setCells g r (o + 1) _ hS) (fun _ _ x => x)
theorem clearI (w : World) (g o n c : Nat) {cs : Array Value} (hg : w.heap[g]? = some (.cells cs 3 (0, 0))) (hn : 0 < n) (hs : o + n ≤ cs.size) :
  (Builtin.clear_ #[TIs] 0 #[.slice (some ⟨g, o, none⟩) n c]).run Tryz.prog w = .ok (.tuple #[]) (w.setCells g o (List.replicate n (.int .i64 0))) :=
 Lib.run_clear_slice w TIs 3 0 (.int .i64 0) Tryz.underlying33 (fun w => by kernel_rfl) rfl rfl g o n c hn (fun j hj => by rw [Lib.cell_of_heap hg]; simp; omega) (fun j _ => frozen_of hg _)
theorem del0 (hc : w.cell? ⟨cb, 0, none⟩ = some (.slice cp len cap)) (hl : len ≤ 9223372036854775807) (s : Option Addr) (c : Nat) :
  Calls Tryz.prog 29 #[.slice s 0 c, nextFn cb] w fun e w' => e = .returned (.slice s 0 c) ∧ w' = w := by
 have c1 := index0 hc hl s c
 go_enter Tryz.func29, Tryz.ntmps29
 go_wp2_with (first | (go_at_call 53; refine c1.mono ?_; rintro e w' ⟨rfl, hw⟩; rw [hw]; clear hw w') | fail)
 go_ret
 exact ⟨rfl, rfl⟩
theorem del1 (hc : w.cell? ⟨cb, 0, none⟩ = some (.slice cp len cap)) (hl : len ≤ 9223372036854775807) {g c : Nat} (hc1 : 1 ≤ c) {a : Int} {cs : Array Value} (hg : w.heap[g]? = some (.cells cs 3 (0, 0))) (hz : 1 ≤ cs.size) (h0 : w.cell? ⟨g, 0, none⟩ = some (.int .i64 a)) :
  Calls Tryz.prog 29 #[.slice (some ⟨g, 0, none⟩) 1 c, nextFn cb] w fun e w' => ∃ v, e = .returned v ∧ IntSl w' v ([a].filter fun x => withinP x 0 ((len : Int) - 1)) ∧ Turned w w' (fun k => k = g) := by
 have hgl := lt_of_heap hg
 have c1 := index1 hc hl h0 (c := c)
 cases hp : withinP a 0 ((len : Int) - 1) with
 | true =>
  rw [hp] at c1
  simp only [if_true] at c1
  have HF : Hid ([a].filter (fun x => withinP x 0 ((len : Int) - 1)) = [a]) := by show _ = _; simp [hp]
  clear hp
  go_enter Tryz.func29, Tryz.ntmps29
  go_wp2_with (first | (go_at_call 53; refine c1.mono ?_; rintro e w' ⟨rfl, hw⟩; rw [hw]; clear hw w') | fail)
  go_ret
  refine ⟨_, rfl, ?_, Turned.refl _ _⟩
  rw [HF.out]
  exact Or.inr ⟨g, 0, c, rfl, hc1, hgl, fun i n hn => by
   rcases i with _ | i
   ·simp at hn; subst hn; exact h0
   ·simp at hn⟩
 | false =>
  rw [hp] at c1
  simp only [Bool.false_eq_true, if_false] at c1
  have HF : Hid ([a].filter (fun x => withinP x 0 ((len : Int) - 1)) = []) := by show _ = _; simp [hp]
  have hclr := clearI w g 0 1 c hg (by omega) (by omega)
  have HT : Hid (Turned w (w.setCells g 0 (List.replicate 1 (.int .i64 0))) (fun k => k = g)) := Turned.setCells g _ 0 w rfl
  generalize w.setCells g 0 (List.replicate 1 (.int .i64 0)) = w2 at *
  clear hp
  go_enter Tryz.func29, Tryz.ntmps29
  go_wp2_with (first | (go_at_call 53; refine c1.mono ?_; rintro e w' ⟨rfl, hw⟩; rw [hw]; clear hw w') | fail)
  refine wp_loop_rounds 1 ?_
  rw [rounds_succ]
  go_wp2
  go_ret
  refine ⟨_, rfl, ?_, HT.out⟩
  rw [HF.out]
  exact Or.inr ⟨g, 0, c, rfl, Nat.zero_le _, Nat.lt_of_lt_of_le hgl HT.out.size, fun i n hn => by simp at hn⟩
end
end Go.Proofs.YtelaaaamnphbpaaGreatDoor
