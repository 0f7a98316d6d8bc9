/-
  The table's pointers and arrays: derived.
  The table's own parts: made, has, kind, add.
-/
import Derived.Test.YtlcghlfmaohfeaaGreatHTab
import Derived.Lib.Builder
import Derived.Deep.RegionLaw
namespace Go.Proofs.YtlcghlfmaohfeaaGreat
open Go.RowKit Go.Maps
set_option linter.unusedVariables false
set_option maxRecDepth 100000

/-- append to a slice of the call's own, as one step of a region that draws its order. -/
theorem step_append_own_at {P : Program} {ops : Array Oper} {o : Oper} {a : Act} {w : World} {K : Act → World → Prop} {Q : Exit → Act → World → Prop} {E : Prop} (hgd : o.guard = none) (s x : Operand) (t : TypeId)
    (ho : o.op = .call { callee := .builtin .append, args := #[s, x], argTypes := #[t, t] })
    (base : Nat) (e : TypeId) (i : TypeInfo) (z : Value) (size bytes : Nat) (ht : P.underlying t = some (.slice e)) (hi : P.info? e = some i) (hz : i.zero = some z)
    (hsize : i.size = size) (hby : i.bytes = bytes) (hzs : z.cells.size = size) (hsz : 0 < size)
    (v : Value) (n : Nat) (xs : List Value) (hs : a.eval s = v) (hown : w.ownsRow base e size v n xs)
    (ad : Addr) (m c : Nat) (news : List Value) (hx : a.eval x = .slice (some ad) m c) (hl : news.length = m * size) (hnews : ∀ j u, news[j]? = some u → w.cell? (ad.add j) = some u) (h1 : ∀ u ∈ news, u.oneCell' = true)
    (h63 : n + m ≤ maxLen) (hbytes : (n + m) * bytes ≤ 140737488355328) (hbase : base ≤ w.heap.size)
    (h : ∀ v' w', w'.ownsRow base e size v' (n + m) (xs ++ news) → w.grownBy w' v.ownBlock → (v' = .slice none 0 0 ↔ v = .slice none 0 0 ∧ m = 0) → (v'.ownBlock = v.ownBlock ∨ v'.ownBlock = some w.heap.size) → K (a.put o.dst v') w') :
    if Region.wanted o (yielded ops a.tmps) = true then Oper.wp P o a w K Q else E := by
  have hw : Region.wanted o (yielded ops a.tmps) = true := by simp [Region.wanted, hgd]
  rw [if_pos hw]
  obtain ⟨v', w', hr, h2, h3, h4, h5⟩ := run_append_own_at (P := P) w base t o.type e i z size bytes ht hi hz hsize hby hzs hsz v n xs hown ad m c news hl hnews h1 h63 hbytes hbase
  unfold Oper.wp execOp
  simp only [ho, resolve, invoke, builtin, Sem.run_bind, Sem.run_pure, Result.andThen_ok, List.map_toArray, List.map_cons, List.map_nil, hs, hx, hr]
  exact h v' w' h2 h3 h4 h5

section
variable {B : Nat} {w : World} {b mb : Nat} {v : Value} {rs : List (Rw × Value)} {ps : List (Value × Value)}
theorem Tab.c0 (h : Tab B w b mb v rs ps) : w.cell? ⟨b, 0, none⟩ = some v := by rw [Lib.cell_of_heap h.tab]; rfl
theorem Tab.c1 (h : Tab B w b mb v rs ps) : w.cell? ⟨b, 1, none⟩ = some (.map (some mb)) := by rw [Lib.cell_of_heap h.tab]; rfl
/-- The slice of rows, written out. -/
theorem Tab.sl (h : Tab B w b mb v rs ps) : ∃ (p : Option Addr) (cap : Nat), v = .slice p rs.length cap ∧ rs.length ≤ cap := by
  obtain ⟨_, ⟨rfl, h0⟩ | ⟨g, cap, cur, rfl, _, _, hc, _⟩⟩ := h.rows
  · exact ⟨none, 0, by rw [h0], by omega⟩
  · exact ⟨_, cap, rfl, hc⟩

theorem made_c (h : Tab B w b mb v rs ps) (h0 : 0 < rs.length) :
    Calls Tryz.prog 50 #[.pointer (some ⟨b, 0, none⟩)] w fun e w' => e = .returned (.bool true) ∧ w' = w := by
  have h1 := neq_some
  have hc := h.c0
  have hl := h.len
  obtain ⟨p, cap, rfl, hcap⟩ := h.sl
  go_enter Tryz.func50, Tryz.ntmps50
  go_wp2
  go_ret
  exact ⟨rfl, rfl⟩

def hasP (n : Nat) (id : Int) : Bool := decide (0 ≤ id) && decide (id < n)

theorem has_c (h : Tab B w b mb v rs ps) (h0 : 0 < rs.length) (id : Int) :
    Calls Tryz.prog 83 #[.pointer (some ⟨b, 0, none⟩), .int .i64 id] w fun e w' => e = .returned (.bool (hasP rs.length id)) ∧ w' = w := by
  have c := made_c h h0
  have hc := h.c0
  have hl := h.len
  obtain ⟨p, cap, rfl, hcap⟩ := h.sl
  go_enter Tryz.func83, Tryz.ntmps83
  go_wp2_with (go_at_call 50; refine c.mono ?_; rintro e w' ⟨rfl, rfl⟩)
  all_goals go_ret
  all_goals refine ⟨bool_ret ?_, rfl⟩
  all_goals (rw [Bool.eq_iff_iff]; simp [hasP]; omega)

theorem kind_none (h : Tab B w b mb v rs ps) (h0 : 0 < rs.length) (id : Int) (hid : hasP rs.length id = false) :
    Calls Tryz.prog 52 #[.pointer (some ⟨b, 0, none⟩), .int .i64 id] w fun e w' => e = .returned (.int .i64 0) ∧ w' = w := by
  have c := has_c h h0 id
  rw [hid] at c
  have h1 := not_f
  go_enter Tryz.func52, Tryz.ntmps52
  go_wp2_with (go_at_call 83; refine c.mono ?_; rintro e w' ⟨rfl, rfl⟩)
  go_ret
  exact ⟨rfl, rfl⟩

theorem hasP_nat {n i : Nat} (h : i < n) : hasP n (i : Int) = true := by simp [hasP]; omega

theorem kind_some (h : Tab B w b mb v rs ps) (i : Nat) (p : Rw × Value) (hp : rs[i]? = some p) :
    Calls Tryz.prog 52 #[.pointer (some ⟨b, 0, none⟩), .int .i64 i] w fun e w' => e = .returned (.int .i64 p.1.kind) ∧ w' = w := by
  have hlt : i < rs.length := (List.getElem?_eq_some_iff.1 hp).1
  have c := has_c h (by omega) i
  rw [hasP_nat hlt] at c
  have h1 := not_t
  have hc := h.c0
  have hl := h.len
  obtain ⟨g, cap, rfl, hcap, hcell⟩ := h.cell hp
  have a0 := hcell 0 (by omega)
  simp only [rwCells, Nat.add_zero, List.getElem?_cons_zero] at a0
  clear hcell
  go_enter Tryz.func52, Tryz.ntmps52
  go_wp2_with (go_at_call 83; refine c.mono ?_; rintro e w' ⟨rfl, rfl⟩)
  go_ret
  exact ⟨rfl, rfl⟩

/-- A full table takes no more. -/
theorem add_full (h : Tab B w b mb v rs ps) (r : Rw) (s : Value) (hl : rs.length = 512) :
    Calls Tryz.prog 82 #[.pointer (some ⟨b, 0, none⟩), .agg (rwCells r s).toArray] w fun e w' => e = .returned (.tuple #[.int .i64 0, .int .i64 32]) ∧ Below w.heap.size w w' := by
  unfold rwCells
  have hc := (h.alloc (.cells #[.int .i64 r.kind, .int .i64 r.elem, .int .i64 r.len, .string r.tag, s, .bool r.done] TR)).c0
  obtain ⟨p, cap, rfl, hcap⟩ := h.sl
  rw [hl] at hc hcap
  go_enter Tryz.func82, Tryz.ntmps82
  go_wp2
  go_ret2
  exact ⟨rfl, (Below.refl _ _).alloc (Nat.le_refl _) _⟩

theorem infoTR : (Tryz.prog.info? TR).map (fun i => (i.zero, i.size, i.bytes)) = some (some zeroRow, 6, 72) := by kernel_rfl
theorem cells_new (w : World) (cs : Array Value) (t : TypeId) : ∀ j u, cs.toList[j]? = some u → (w.alloc (.cells cs t)).cell? ((⟨w.heap.size, 0, none⟩ : Addr).add j) = some u := by
  intro j u hj
  have e : ((⟨w.heap.size, 0, none⟩ : Addr).add j) = ⟨w.heap.size, j, none⟩ := by
    simp [Addr.add]; rintro rfl; rfl
  rw [e, Lib.cell_of_heap (heap_r0 w _)]
  simpa using hj
theorem Tab.drew (h : Tab B w b mb v rs ps) : Tab B w.drew b mb v rs ps := h.keptB ⟨rfl, rfl, rfl, Nat.le_refl _, fun _ _ => rfl⟩
theorem frozen_of {w : World} {g : Nat} {cs : Array Value} {t : TypeId} (h : w.heap[g]? = some (.cells cs t (0, 0))) (j : Nat) : w.frozen? ⟨g, j, none⟩ = false := by simp [World.frozen?, h]
theorem slice_of_own {w : World} {base : Nat} {e : TypeId} {size n : Nat} {v : Value} {xs : List Value} (h : w.ownsRow base e size v n xs) : ∃ p cap, v = .slice p n cap := by
  obtain ⟨_, ⟨rfl, rfl⟩ | ⟨g, cap, cur, rfl, _⟩⟩ := h
  · exact ⟨_, _, rfl⟩
  · exact ⟨_, _, rfl⟩
theorem heap_setCell {w : World} {g j : Nat} {cs : Array Value} {t : TypeId} {fr : Nat × Nat} (h : w.heap[g]? = some (.cells cs t fr)) (x : Value) : (w.setCell ⟨g, j, none⟩ x).heap[g]? = some (.cells (cs.setIfInBounds j x) t fr) := by
  rw [setCell_eq_setRow w g j cs t fr x h]; exact setRow_heap _ _ _ _ _ _ h
theorem Turned.setCell (w : World) (g j : Nat) (x : Value) {S : Nat → Prop} (hS : S g) : Turned w (w.setCell ⟨g, j, none⟩ x) S :=
  ⟨rfl, rfl, rfl, by simp, fun k _ hn => heap_setCell_other w ⟨g, j, none⟩ k x (fun e => hn (e ▸ hS))⟩

/-- A row more. -/
theorem add_c (h : Tab B w b mb v rs ps) (r : Rw) (s : Value) (hs : w.ownsRow B TM 3 s r.mem.length (memCells r.mem)) (hl : rs.length < 512) :
    Calls Tryz.prog 82 #[.pointer (some ⟨b, 0, none⟩), .agg (rwCells r s).toArray] w fun e w' => e = .returned (.tuple #[.int .i64 rs.length, .int .i64 0]) ∧
      ∃ v', Tab B w' b mb v' (rs ++ [(r, s)]) ps ∧ Turned w w' (own b mb v) ∧ (v'.ownBlock = v.ownBlock ∨ ∃ g, v'.ownBlock = some g ∧ w.heap.size ≤ g) := by
  obtain ⟨sp, sc, rfl⟩ := slice_of_own hs
  generalize hsn : r.mem.length = sn at *
  unfold rwCells
  have h2 := h.alloc (.cells #[.int .i64 r.kind, .int .i64 r.elem, .int .i64 r.len, .string r.tag, .slice sp sn sc, .bool r.done] TR)
  have hc := h2.c0
  obtain ⟨i0, hi, hz0, hz1, hz2⟩ := info_parts infoTR
  go_enter Tryz.func82, Tryz.ntmps82
  obtain ⟨p, cap, hv, hcap⟩ := h.sl
  rw [hv] at hc
  go_wp2
  have HB : Hid (Below w.heap.size w (w.alloc (.cells #[.int .i64 r.kind, .int .i64 r.elem, .int .i64 r.len, .string r.tag, .slice sp sn sc, .bool r.done] TR))) := (Below.refl _ w).alloc (Nat.le_refl _) _
  have e1 := heap_r0 w (.cells #[.int .i64 r.kind, .int .i64 r.elem, .int .i64 r.len, .string r.tag, .slice sp sn sc, .bool r.done] TR)
  generalize (w.alloc (.cells #[.int .i64 r.kind, .int .i64 r.elem, .int .i64 r.len, .string r.tag, .slice sp sn sc, .bool r.done] TR)) = W at *
  have a0 : W.cell? ⟨w.heap.size, 0, none⟩ = some (.int .i64 r.kind) := by rw [Lib.cell_of_heap e1]; rfl
  have a1 : W.cell? ⟨w.heap.size, 1, none⟩ = some (.int .i64 r.elem) := by rw [Lib.cell_of_heap e1]; rfl
  have a2 : W.cell? ⟨w.heap.size, 2, none⟩ = some (.int .i64 r.len) := by rw [Lib.cell_of_heap e1]; rfl
  have a3 : W.cell? ⟨w.heap.size, 3, none⟩ = some (.string r.tag) := by rw [Lib.cell_of_heap e1]; rfl
  have a4 : W.cell? ⟨w.heap.size, 4, none⟩ = some (.slice sp sn sc) := by rw [Lib.cell_of_heap e1]; rfl
  have a5 : W.cell? ⟨w.heap.size, 5, none⟩ = some (.bool r.done) := by rw [Lib.cell_of_heap e1]; rfl
  clear e1
  have H3 : Hid (Tab B (W.drew.alloc (.cells #[.int .i64 r.kind, .int .i64 r.elem, .int .i64 r.len, .string r.tag, .slice sp sn sc, .bool r.done] TR)) b mb v rs ps) := h2.drew.alloc _
  have hc2 : World.cell? { heap := W.drew.heap.push (Obj.cells #[.int .i64 r.kind, .int .i64 r.elem, .int .i64 r.len, .string r.tag, .slice sp sn sc, .bool r.done] TR), tape := W.tape, drawn := W.drawn + 1, os := W.drew.os, output := W.drew.output } ⟨b, 0, none⟩ = some (.slice p rs.length cap) := by rw [← hv]; exact H3.out.c0
  go_region_law (refine step_append_own_at rfl (.tmp 18) (.tmp 20) 22 rfl B TR i0 zeroRow 6 72 Tryz.underlying22 hi hz0 hz1 hz2 rfl (by decide) v rs.length _ hv.symm H3.out.rows ⟨W.heap.size, 0, none⟩ 1 1 _ rfl rfl (cells_new _ _ _) (by simp [Value.oneCell']) (by unfold maxLen; omega) (by omega) (by have := H3.out.lt; exact this) ?_; intro v' w' hown hgrow hnil hat; obtain ⟨p', cap', rfl⟩ := slice_of_own hown; have HT : Hid (w'.heap[b]? = some (.cells #[v, .map (some mb)] 111 (0, 0))) := (hgrow.block b (lt_of_heap H3.out.tab) (fun e => (H3.out.v_b e.symm).1 rfl)).trans H3.out.tab; have hc' : w'.cell? ⟨b, 0, none⟩ = some v := (Lib.cell_of_heap HT.out 0).trans rfl; have hf' : w'.frozen? ⟨b, 0, none⟩ = false := frozen_of HT.out 0; have HO : Hid (World.ownsRow _ _ _ _ _ _ _) := hown; have HG : Hid (World.grownBy _ _ _) := hgrow; have HA : Hid (_ ∨ _) := hat; clear hown hgrow hnil hat)
  all_goals go_wp2
  all_goals go_ret2
  all_goals
    subst hv
    have hB2 : Below w.heap.size w (W.drew.alloc (.cells #[.int .i64 r.kind, .int .i64 r.elem, .int .i64 r.len, .string r.tag, .slice sp sn sc, .bool r.done] TR)) :=
      (HB.out.trans (⟨rfl, rfl, rfl, Nat.le_refl _, fun _ _ => rfl⟩ : Below w.heap.size W W.drew)).alloc HB.out.size _
    have t := H3.out.snoc (r := r) (s := .slice sp sn sc) HG.out HO.out HA.out (Turned.setCell _ b 0 _ rfl) (heap_setCell HT.out _) (by rw [hsn]; exact ownsRow_turned hs (Turned.of_below hB2 (fun _ => False)) (fun _ _ hf => hf)) hl
    refine ⟨rfl, _, t.1, (Turned.of_below hB2 _).trans t.2 (fun _ _ h => h), HA.out.imp id (fun e => ⟨_, e, hB2.size⟩)⟩
end
end Go.Proofs.YtlcghlfmaohfeaaGreat
namespace Go.Proofs.YtlcghlfmaohfeaaGreat
open Go.RowKit Go.Maps
set_option linter.unusedVariables false
set_option maxRecDepth 100000

abbrev TK : TypeId := 157
theorem keyLaw : Keyed Tryz.prog TK := Keyed.of_law (deep_law_gate (by kernel_rfl) (of_decide_eq_true (by kernel_rfl)) (of_decide_eq_true (by kernel_rfl)) (by kernel_rfl) (by kernel_rfl))
theorem keyOf_gen {P : Program} {K ta tb : TypeId} {f0 f1 f2 : Field} (hu : P.underlying K = some (.struct #[f0, f1, f2])) (o0 : f0.offset = 0) (o1 : f1.offset = 1) (o2 : f2.offset = 2) (t0 : f0.type = ta) (t1 : f1.type = tb) (t2 : f2.type = tb)
    (nm : (#[f0, f1, f2]).all (·.name != "_") = true) (ua : P.underlying ta = some (.int .i64)) (ub : P.underlying tb = some (.int .i64)) (ca : P.cellsOf ta = 1) (cb : P.cellsOf tb = 1) (ck : P.cellsOf K = 3) (kt : P.keyType K = true)
    (hd : ∃ d, P.types.size = d + 1) {k e n : Int} (hk : wf64 k) (he : wf64 e) (hn : wf64 n) : ∃ l, keyOf P K (keyV k e n) = some l := by
  obtain ⟨d, hd⟩ := hd
  unfold wf64 at hk he hn
  unfold keyOf keyV
  simp only [hu]
  rw [if_pos (by simp [kt, Value.formed, hu, ck]), hd]
  unfold Program.keyLits
  simp only [hu, Value.cells]
  rw [if_pos ⟨by rw [ck]; rfl, nm⟩]
  simp [o0, o1, o2, t0, t1, t2, ca, cb, Program.keyLits, ua, ub, hk, he, hn]
theorem keyOf_V {k e n : Int} (hk : wf64 k) (he : wf64 e) (hn : wf64 n) : ∃ l, keyOf Tryz.prog TK (keyV k e n) = some l :=
  keyOf_gen Tryz.underlying157 rfl rfl rfl rfl rfl rfl (by kernel_rfl) Tryz.underlying85 Tryz.underlying3 (by kernel_rfl) (by kernel_rfl) (by kernel_rfl) (by kernel_rfl)
    (Nat.exists_eq_succ_of_ne_zero (of_decide_eq_true (by kernel_rfl))) hk he hn
theorem below_drewN (B : Nat) (w : World) (q : Nat) : Below B w (w.drewN q) := ⟨rfl, rfl, rfl, Nat.le_refl _, fun _ _ => rfl⟩
theorem zeroI (w : World) : (zeroValue 3).run Tryz.prog w = .ok (.int .i64 0) w := by kernel_rfl

section
variable {B : Nat} {w : World} {b mb : Nat} {v : Value} {rs : List (Rw × Value)} {ps : List (Value × Value)}

theorem Tab.keys (h : Tab B w b mb v rs ps) {es : Array MapEntry} (hes : es.toList.map (fun e => (e.key, e.val)) = ps) : ∀ x ∈ es.toList, ∃ l, keyOf Tryz.prog TK x.key = some l := by
  intro x hx
  obtain ⟨k, e, n, he, h1, h2, h3⟩ := h.wf (x.key, x.val) (by rw [← hes]; exact List.mem_map.2 ⟨x, hx, rfl⟩)
  simp only at he
  rw [he]; exact keyOf_V h1 h2 h3

/-- The look-up in the table's map. -/
theorem Tab.look_none (h : Tab B w b mb v rs ps) {k e n : Int} (hk : wf64 k) (he : wf64 e) (hn : wf64 n) (hno : ∀ kv ∈ ps, kv.1 ≠ keyV k e n) :
    (Instr.lookup 109 (.map (some mb)) (keyV k e n) true).run Tryz.prog w = .ok (.tuple #[.int .i64 0, .bool false]) w := by
  obtain ⟨es, ck, hm, hes⟩ := h.map
  obtain ⟨l, hl⟩ := keyOf_V hk he hn
  refine run_look_none keyLaw Tryz.underlying109 (zeroI w) hm hl (h.keys hes) (fun x hx e0 => hno (x.key, x.val) (by rw [← hes]; exact List.mem_map.2 ⟨x, hx, rfl⟩) e0)
theorem Tab.look_some (h : Tab B w b mb v rs ps) {k e n : Int} (hk : wf64 k) (he : wf64 e) (hn : wf64 n) {val : Value} (hyes : (keyV k e n, val) ∈ ps) (huni : ∀ val', (keyV k e n, val') ∈ ps → val' = val) :
    (Instr.lookup 109 (.map (some mb)) (keyV k e n) true).run Tryz.prog w = .ok (.tuple #[val, .bool true]) w := by
  obtain ⟨es, ck, hm, hes⟩ := h.map
  obtain ⟨l, hl⟩ := keyOf_V hk he hn
  obtain ⟨x, hx, e1, hr⟩ := run_look_some keyLaw Tryz.underlying109 hm hl (h.keys hes) (by
    rw [← hes] at hyes
    obtain ⟨x, hx, e1⟩ := List.mem_map.1 hyes
    exact ⟨x, hx, congrArg Prod.fst e1⟩)
  rw [huni x.val (by rw [← hes]; exact List.mem_map.2 ⟨x, hx, by rw [e1]⟩)] at hr
  exact hr
theorem Tab.drewN (h : Tab B w b mb v rs ps) (q : Nat) : Tab B (w.drewN q) b mb v rs ps := h.keptB ⟨rfl, rfl, rfl, Nat.le_refl _, fun _ _ => rfl⟩
theorem Tab.put_new (h : Tab B w b mb v rs ps) {k e n : Int} (hk : wf64 k) (he : wf64 e) (hn : wf64 n) (hno : ∀ kv ∈ ps, kv.1 ≠ keyV k e n) (val : Value) :
    ∃ w', (Instr.mapUpdate 109 (.map (some mb)) (keyV k e n) val).run Tryz.prog w = .ok () w' ∧ Tab B w' b mb v rs (ps ++ [(keyV k e n, val)]) ∧ Turned w w' (own b mb v) := by
  obtain ⟨es, ck, hm, hes⟩ := h.map
  obtain ⟨l, hl⟩ := keyOf_V hk he hn
  exact ⟨_, run_store_new keyLaw Tryz.underlying109 hm hl (h.keys hes) (fun x hx e0 => hno (x.key, x.val) (by rw [← hes]; exact List.mem_map.2 ⟨x, hx, rfl⟩) e0), h.store hk he hn hm hes⟩

end
end Go.Proofs.YtlcghlfmaohfeaaGreat
