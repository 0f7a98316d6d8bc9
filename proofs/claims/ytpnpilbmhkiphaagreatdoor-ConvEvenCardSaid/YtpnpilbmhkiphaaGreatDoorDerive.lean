/-
  The table's pointers and arrays: derived.
-/
import Derived.Test.YtpnpilbmhkiphaaGreatDoorAdd
namespace Go.Proofs.YtpnpilbmhkiphaaGreatDoor
open Go.RowKit Go.Maps
set_option linter.unusedVariables false
set_option maxRecDepth 100000

abbrev TK : TypeId := 102
theorem keyLaw : Keyed Tryz.prog TK := Keyed.of_law (deep_law_gate (by kernel_rfl) (of_decide_eq_true (by kernel_rfl)) (of_decide_eq_true (by kernel_rfl)) (by kernel_rfl) (by kernel_rfl))
theorem keyOf_gen {P : Program} {K ta tb : TypeId} {f0 f1 f2 : Field} (hu : P.underlying K = some (.struct #[f0, f1, f2])) (o0 : f0.offset = 0) (o1 : f1.offset = 1) (o2 : f2.offset = 2) (t0 : f0.type = ta) (t1 : f1.type = tb) (t2 : f2.type = tb)
    (nm : (#[f0, f1, f2]).all (·.name != "_") = true) (ua : P.underlying ta = some (.int .i64)) (ub : P.underlying tb = some (.int .i64)) (ca : P.cellsOf ta = 1) (cb : P.cellsOf tb = 1) (ck : P.cellsOf K = 3) (kt : P.keyType K = true)
    (hd : ∃ d, P.types.size = d + 1) {k e n : Int} (hk : wf64 k) (he : wf64 e) (hn : wf64 n) : ∃ l, keyOf P K (keyV k e n) = some l := by
  obtain ⟨d, hd⟩ := hd
  unfold wf64 at hk he hn
  unfold keyOf keyV
  simp only [hu]
  rw [if_pos (by simp [kt, Value.formed, hu, ck]), hd]
  unfold Program.keyLits
  simp only [hu, Value.cells]
  rw [if_pos ⟨by rw [ck]; rfl, nm⟩]
  simp [o0, o1, o2, t0, t1, t2, ca, cb, Program.keyLits, ua, ub, hk, he, hn]
theorem keyOf_V {k e n : Int} (hk : wf64 k) (he : wf64 e) (hn : wf64 n) : ∃ l, keyOf Tryz.prog TK (keyV k e n) = some l :=
  keyOf_gen Tryz.underlying102 rfl rfl rfl rfl rfl rfl (by kernel_rfl) Tryz.underlying47 Tryz.underlying3 (by kernel_rfl) (by kernel_rfl) (by kernel_rfl) (by kernel_rfl)
    (Nat.exists_eq_succ_of_ne_zero (of_decide_eq_true (by kernel_rfl))) hk he hn
theorem below_drewN (B : Nat) (w : World) (q : Nat) : Below B w (w.drewN q) := ⟨rfl, rfl, rfl, Nat.le_refl _, fun _ _ => rfl⟩
theorem zeroI (w : World) : (zeroValue 3).run Tryz.prog w = .ok (.int .i64 0) w := by kernel_rfl

section
variable {B : Nat} {w : World} {b mb : Nat} {v : Value} {rs : List (Rw × Value)} {ps : List (Value × Value)}

theorem Tab.keys (h : Tab B w b mb v rs ps) {es : Array MapEntry} (hes : es.toList.map (fun e => (e.key, e.val)) = ps) : ∀ x ∈ es.toList, ∃ l, keyOf Tryz.prog TK x.key = some l := by
  intro x hx
  obtain ⟨k, e, n, he, h1, h2, h3⟩ := h.wf (x.key, x.val) (by rw [← hes]; exact List.mem_map.2 ⟨x, hx, rfl⟩)
  simp only at he
  rw [he]; exact keyOf_V h1 h2 h3

/-- The look-up in the table's map. -/
theorem Tab.look_none (h : Tab B w b mb v rs ps) {k e n : Int} (hk : wf64 k) (he : wf64 e) (hn : wf64 n) (hno : ∀ kv ∈ ps, kv.1 ≠ keyV k e n) :
    (Instr.lookup 96 (.map (some mb)) (keyV k e n) true).run Tryz.prog w = .ok (.tuple #[.int .i64 0, .bool false]) w := by
  obtain ⟨es, ck, hm, hes⟩ := h.map
  obtain ⟨l, hl⟩ := keyOf_V hk he hn
  refine run_look_none keyLaw Tryz.underlying96 (zeroI w) hm hl (h.keys hes) (fun x hx e0 => hno (x.key, x.val) (by rw [← hes]; exact List.mem_map.2 ⟨x, hx, rfl⟩) e0)
theorem Tab.look_some (h : Tab B w b mb v rs ps) {k e n : Int} (hk : wf64 k) (he : wf64 e) (hn : wf64 n) {val : Value} (hyes : (keyV k e n, val) ∈ ps) (huni : ∀ val', (keyV k e n, val') ∈ ps → val' = val) :
    (Instr.lookup 96 (.map (some mb)) (keyV k e n) true).run Tryz.prog w = .ok (.tuple #[val, .bool true]) w := by
  obtain ⟨es, ck, hm, hes⟩ := h.map
  obtain ⟨l, hl⟩ := keyOf_V hk he hn
  obtain ⟨x, hx, e1, hr⟩ := run_look_some keyLaw Tryz.underlying96 hm hl (h.keys hes) (by
    rw [← hes] at hyes
    obtain ⟨x, hx, e1⟩ := List.mem_map.1 hyes
    exact ⟨x, hx, congrArg Prod.fst e1⟩)
  rw [huni x.val (by rw [← hes]; exact List.mem_map.2 ⟨x, hx, by rw [e1]⟩)] at hr
  exact hr
theorem Tab.drewN (h : Tab B w b mb v rs ps) (q : Nat) : Tab B (w.drewN q) b mb v rs ps := h.keptB ⟨rfl, rfl, rfl, Nat.le_refl _, fun _ _ => rfl⟩
theorem Tab.put_new (h : Tab B w b mb v rs ps) {k e n : Int} (hk : wf64 k) (he : wf64 e) (hn : wf64 n) (hno : ∀ kv ∈ ps, kv.1 ≠ keyV k e n) (val : Value) :
    ∃ w', (Instr.mapUpdate 96 (.map (some mb)) (keyV k e n) val).run Tryz.prog w = .ok () w' ∧ Tab B w' b mb v rs (ps ++ [(keyV k e n, val)]) ∧ Turned w w' (own b mb v) := by
  obtain ⟨es, ck, hm, hes⟩ := h.map
  obtain ⟨l, hl⟩ := keyOf_V hk he hn
  exact ⟨_, run_store_new keyLaw Tryz.underlying96 hm hl (h.keys hes) (fun x hx e0 => hno (x.key, x.val) (by rw [← hes]; exact List.mem_map.2 ⟨x, hx, rfl⟩) e0), h.store hk he hn hm hes⟩

/-- There is one already. -/
theorem derived_old (h : Tab B w b mb v rs ps) {k e n : Int} (hk : wf64 k) (he : wf64 e) (hn : wf64 n) {i : Int} (hyes : (keyV k e n, .int .i64 i) ∈ ps) (huni : ∀ val', (keyV k e n, val') ∈ ps → val' = .int .i64 i) :
    Calls Tryz.prog 70 #[.pointer (some ⟨b, 0, none⟩), keyV k e n] w fun x w' => x = .returned (.tuple #[.int .i64 i, .int .i64 0]) ∧ Below w.heap.size w w' := by
  have h2 := h.alloc (.cells #[.int .i64 k, .int .i64 e, .int .i64 n] TK)
  have hrun := fun q => (h2.drewN q).look_some hk he hn hyes huni
  have hc := h2.c1
  unfold keyV at hrun ⊢
  go_enter Tryz.func70, Tryz.ntmps70
  go_wp2
  have HB : Hid (Below w.heap.size w (w.alloc (.cells #[.int .i64 k, .int .i64 e, .int .i64 n] TK))) := (Below.refl _ w).alloc (Nat.le_refl _) _
  have e1 := heap_r0 w (.cells #[.int .i64 k, .int .i64 e, .int .i64 n] TK)
  generalize w.alloc (.cells #[.int .i64 k, .int .i64 e, .int .i64 n] TK) = W at *
  have a0 : W.cell? ⟨w.heap.size, 0, none⟩ = some (.int .i64 k) := by rw [Lib.cell_of_heap e1]; rfl
  have a1 : W.cell? ⟨w.heap.size, 1, none⟩ = some (.int .i64 e) := by rw [Lib.cell_of_heap e1]; rfl
  have a2 : W.cell? ⟨w.heap.size, 2, none⟩ = some (.int .i64 n) := by rw [Lib.cell_of_heap e1]; rfl
  clear e1
  go_quiet (fail)
  go_wp2
  go_ret2
  exact ⟨rfl, HB.out.trans ⟨rfl, rfl, rfl, Nat.le_refl _, fun _ _ => rfl⟩⟩

/-- There is none: a row more, and it is found. -/
theorem derived_new (h : Tab B w b mb v rs ps) {k e n : Int} (hk : wf64 k) (he : wf64 e) (hn : wf64 n) (hno : ∀ kv ∈ ps, kv.1 ≠ keyV k e n) (hl : rs.length < 512) :
    Calls Tryz.prog 70 #[.pointer (some ⟨b, 0, none⟩), keyV k e n] w fun x w' => x = .returned (.tuple #[.int .i64 rs.length, .int .i64 0]) ∧
      ∃ v', Tab B w' b mb v' (rs ++ [(⟨k, e, n, ⟨#[]⟩, [], false⟩, .slice none 0 0)]) (ps ++ [(keyV k e n, .int .i64 rs.length)]) ∧ Turned w w' (own b mb v) ∧ (v'.ownBlock = v.ownBlock ∨ ∃ g, v'.ownBlock = some g ∧ w.heap.size ≤ g) := by
  have h2 := h.alloc (.cells #[.int .i64 k, .int .i64 e, .int .i64 n] TK)
  have hrun := fun q => (h2.drewN q).look_none hk he hn hno
  have hc := h2.c1
  have hbz : ∀ W : World, (Instr.build TR #[(0, .int .i64 k), (1, .int .i64 e), (2, .int .i64 n)]).run Tryz.prog W = .ok (.agg #[.int .i64 k, .int .i64 e, .int .i64 n, .string ⟨#[]⟩, .slice none 0 0, .bool false]) W := fun W => by kernel_rfl
  have cA := fun q => add_c (h2.drewN q) ⟨k, e, n, ⟨#[]⟩, [], false⟩ (.slice none 0 0) (World.ownsRow_nil _ _ _ _) hl
  simp only [rwCells] at cA
  unfold keyV at hrun ⊢
  go_enter Tryz.func70, Tryz.ntmps70
  go_wp2
  have HB : Hid (Below w.heap.size w (w.alloc (.cells #[.int .i64 k, .int .i64 e, .int .i64 n] TK))) := (Below.refl _ w).alloc (Nat.le_refl _) _
  have e1 := heap_r0 w (.cells #[.int .i64 k, .int .i64 e, .int .i64 n] TK)
  generalize w.alloc (.cells #[.int .i64 k, .int .i64 e, .int .i64 n] TK) = W at *
  have a0 : W.cell? ⟨w.heap.size, 0, none⟩ = some (.int .i64 k) := by rw [Lib.cell_of_heap e1]; rfl
  have a1 : W.cell? ⟨w.heap.size, 1, none⟩ = some (.int .i64 e) := by rw [Lib.cell_of_heap e1]; rfl
  have a2 : W.cell? ⟨w.heap.size, 2, none⟩ = some (.int .i64 n) := by rw [Lib.cell_of_heap e1]; rfl
  go_quiet (fail)
  go_wp2_with (go_at_call 105; refine (cA _).mono ?_; rintro x w3 ⟨rfl, v', h3, ht3, hv3⟩)
  have hnb : ¬ own b mb v w.heap.size := by
    rintro (hh | hh | hh)
    · exact absurd (lt_of_heap h.tab) (by omega)
    · obtain ⟨es, ck, hm, _⟩ := h.map
      exact absurd (lt_of_heap hm) (by omega)
    · obtain ⟨_, cur, hcur⟩ := ownsRow_at h.rows hh
      exact absurd (lt_of_heap hcur) (by omega)
  have e3 := (ht3.block w.heap.size (lt_of_heap e1) hnb).trans e1
  have c0 : w3.cell? ⟨w.heap.size, 0, none⟩ = some (.int .i64 k) := by rw [Lib.cell_of_heap e3]; rfl
  have c1 : w3.cell? ⟨w.heap.size, 1, none⟩ = some (.int .i64 e) := by rw [Lib.cell_of_heap e3]; rfl
  have c2 : w3.cell? ⟨w.heap.size, 2, none⟩ = some (.int .i64 n) := by rw [Lib.cell_of_heap e3]; rfl
  have hc3 := h3.c1
  obtain ⟨w4, hput, h4, ht4⟩ := h3.drew.put_new hk he hn hno (.int .i64 rs.length)
  unfold keyV at hput
  have HN : Hid _ := hno
  clear e1 e3 a0 a1 a2 hnb hno hc hrun cA
  go_region
  all_goals go_wp2
  all_goals go_ret2
  all_goals
    have t1 : Turned w (W.drewN nq) (own b mb v) := Turned.of_below (HB.out.trans (below_drewN _ W nq)) _
    refine ⟨rfl, _, h4, (t1.trans ht3 (fun _ _ x => x)).trans ((Turned.of_below (w := w3) (w' := w3.drew) ⟨rfl, rfl, rfl, Nat.le_refl _, fun _ _ => rfl⟩ (own b mb v')).trans ht4 (fun _ _ x => x)) ?_, hv3.imp id (fun ⟨g, e0, h0⟩ => ⟨g, e0, Nat.le_trans HB.out.size h0⟩)⟩
    intro i hi hs
    rcases hs with hs | hs | hs
    · exact Or.inl hs
    · exact Or.inr (Or.inl hs)
    · rcases hv3 with e0 | ⟨g, e0, h0⟩
      · exact Or.inr (Or.inr (e0 ▸ hs))
      · rw [e0] at hs; cases hs; exact absurd (Nat.le_trans HB.out.size h0) (by omega)
end
end Go.Proofs.YtpnpilbmhkiphaaGreatDoor
