/-
  The given answer's Next.
-/
import Derived.Test.YtaaphipbkpjkjaaGreatDoorKB
import Derived.Deep.DeepMust
namespace Go.Proofs.YtaaphipbkpjkjaaGreatDoor
open Go.RowKit Go.Maps
set_option linter.unusedVariables false
set_option maxRecDepth 100000
def rawP (op n i : Int) : List Int := if op = 9 ∨ op = 14 then [] else if op = 10 then [n] else if op = 11 then [min (i + 1) n, max (i + 1) n] else [i + 1]
theorem rawP_len (op n i : Int) : (rawP op n i).length ≤ 2 := by
  unfold rawP
  repeat' split
  all_goals simp
/-- What is kept of the first k numbers. -/
def keepB (L : List Int) (hi : Int) (k : Nat) : Bool := match L[k]? with | some a => withinP a 0 hi && (k == 0 || (match L[k - 1]? with | some b => a != b | none => false)) | none => false
def outF (L : List Int) (hi : Int) : Nat → List Int
  | 0 => []
  | k + 1 => outF L hi k ++ (if keepB L hi k then (L[k]?).toList else [])
theorem outF_len (L : List Int) (hi : Int) : ∀ k, (outF L hi k).length ≤ k
  | 0 => Nat.le_refl _
  | k + 1 => by
    have := outF_len L hi k
    simp only [outF, List.length_append]
    split
    · cases L[k]? <;> simp <;> omega
    · simp; omega
theorem outF_ways (op n i hi : Int) : outF (rawP op n i) hi (rawP op n i).length = (waysP op n i).filter (fun x => withinP x 0 hi) := by
  unfold rawP waysP
  split
  · rfl
  split
  · cases h : withinP n 0 hi <;> simp [outF, keepB, h]
  split
  · by_cases e : i + 1 = n
    · rw [if_pos e, show min (i + 1) n = n by omega, show max (i + 1) n = n by omega]
      cases h : withinP n 0 hi <;> simp [outF, keepB, h]
    · rw [if_neg e]
      have hne : (max (i + 1) n != min (i + 1) n) = true := by simp; omega
      generalize min (i + 1) n = a at *
      generalize max (i + 1) n = b at *
      cases h : withinP a 0 hi <;> cases h2 : withinP b 0 hi <;> simp [outF, keepB, h, h2, hne]
  · cases h : withinP (i + 1) 0 hi <;> simp [outF, keepB, h]
def intsC (l : List Int) : List Value := l.map fun n => .int .i64 n
theorem intsC_one (l : List Int) : ∀ u ∈ intsC l, u.oneCell' = true := by
  intro u hu
  obtain ⟨n, _, rfl⟩ := List.mem_map.1 hu
  rfl
theorem IntSl.of_own {w : World} {B : Nat} {v : Value} {l : List Int} (h : w.ownsRow B 3 1 v l.length (intsC l)) : IntSl w v l := by
  by_cases hl : l = []
  · subst hl
    obtain ⟨h1, ⟨rfl, _⟩ | ⟨g, cap, cur, rfl, hb, hg, _⟩⟩ := h
    · exact Or.inl ⟨rfl, rfl⟩
    · exact Or.inr ⟨g, 0, cap, rfl, Nat.zero_le _, lt_of_heap hg, fun i n hn => by simp at hn⟩
  · have hp : 0 < l.length := List.length_pos_iff.2 hl
    obtain ⟨g, cap, rfl, q1, q2, q3, q4, q5⟩ := own_cell h hp
    exact Or.inr ⟨g, 0, cap, rfl, q3, q2, fun i n hn => by rw [Nat.zero_add]; exact q4 i _ (by simp [intsC, hn])⟩
theorem infoI : (Tryz.prog.info? 3).map (fun i => (i.zero, i.size, i.bytes)) = some (some (.int .i64 0), 1, 8) := by kernel_rfl
theorem below_drewN (B : Nat) (w : World) (q : Nat) : Below B w (w.drewN q) := ⟨rfl, rfl, rfl, Nat.le_refl _, fun _ _ => rfl⟩
section
variable {w : World}
theorem newI_two (w1 : World) (hb : Below w.heap.size w w1) (a b : Int) : NewI w (w1.alloc (.cells #[.int .i64 a, .int .i64 b] 3)) (.slice (some ⟨w1.heap.size, 0, none⟩) 2 2) [a, b] :=
  ⟨hb.trans ((below1 w1 _).mono hb.size), Or.inr ⟨w1.heap.size, 2, _, hb.size, rfl, Nat.le_refl _, heap_r0 w1 _, Nat.le_refl _, fun k n hn => by
    rcases k with _ | _ | k
    · simp at hn; subst hn; exact (Lib.cell_of_heap (heap_r0 w1 _) 0).trans rfl
    · simp at hn; subst hn; exact (Lib.cell_of_heap (heap_r0 w1 _) 1).trans rfl
    · simp at hn⟩⟩
set_option maxHeartbeats 8000000 in
theorem rNext_c {v : Value} {xs : List (In × Value)} (hV : InV w v xs) (hlen : xs.length ≤ 9223372036854775806) (i : Int) :
    Calls Tryz.prog 20 #[v, .int .i64 i] w fun e w' => ∃ u, e = .returned u ∧ IntSl w' u (nextP xs i) ∧ Below w.heap.size w w' := by
  obtain ⟨p, cap, rfl, hcap, hq⟩ := hV
  obtain ⟨i0, hi0, hz0, hz1, hz2⟩ := info_parts infoI
  have hwl : IntKind.i64.wrap ((xs.length : Int) - 1) = (xs.length : Int) - 1 := wrap_idI (by omega) (by omega)
  have HCW : Hid (∀ (x : Int) (Y : World), Calls Tryz.prog 33 #[.int .i64 x, .int .i64 0, .int .i64 ((xs.length : Int) - 1)] Y fun e w' => e = .returned (.bool (withinP x 0 ((xs.length : Int) - 1))) ∧ w' = Y) := fun x Y => rwithin_c x 0 _ Y
  have c1 := HCW.out i w
  have nt := not_t
  have nf := not_f
  cases hin : withinP i 0 ((xs.length : Int) - 1) with
  | false =>
    rw [hin] at c1
    have HR : Hid (nextP xs i = []) := by show nextP xs i = []; unfold nextP; rw [hin]; rfl
    rw [HR.out]
    clear hin hq
    go_enter Tryz.func20, Tryz.ntmps20
    go_wp2_with (first | (go_at_call 33; refine c1.mono ?_; rintro e w' ⟨rfl, hw⟩; rw [hw]; clear hw w') | fail)
    go_ret
    exact ⟨_, rfl, Or.inl ⟨rfl, rfl⟩, Below.refl _ _⟩
  | true =>
    rw [hin] at c1
    have hin2 : 0 ≤ i ∧ i ≤ (xs.length : Int) - 1 := by unfold withinP at hin; simpa using hin
    obtain ⟨k, rfl⟩ : ∃ k : Nat, i = k := ⟨i.toNat, by omega⟩
    have hk : k < xs.length := by omega
    obtain ⟨q, hqk⟩ : ∃ q, xs[k]? = some q := ⟨_, List.getElem?_eq_getElem hk⟩
    obtain ⟨⟨g, o, rfl, hgl, hcell⟩, hA⟩ := hq k q hqk
    obtain ⟨ap, acap, hqa, _, _⟩ := hA
    have HR : Hid (nextP xs (k : Int) = outF (rawP q.1.op q.1.n (k : Int)) ((xs.length : Int) - 1) (rawP q.1.op q.1.n (k : Int)).length) := by
      show _ = _
      rw [outF_ways]
      unfold nextP
      rw [hin, if_pos rfl, Int.toNat_natCast, hqk]
    have HL2 := rawP_len q.1.op q.1.n (k : Int)
    have HRaw : Hid (rawP q.1.op q.1.n (k : Int) = _) := rfl
    rw [HR.out]
    obtain ⟨⟨op, bin, d, ⟨ak, an⟩, ⟨bk, bn⟩, n, off, width, sg, args⟩, qv⟩ := q
    simp only at hqa HL2 HRaw ⊢
    subst hqa
    simp only [inCells] at hcell
    have r0 := hcell 0 (by omega)
    have r1 := hcell 1 (by omega)
    have r2 := hcell 2 (by omega)
    have r3 := hcell 3 (by omega)
    have r4 := hcell 4 (by omega)
    have r5 := hcell 5 (by omega)
    have r6 := hcell 6 (by omega)
    have r7 := hcell 7 (by omega)
    have r8 := hcell 8 (by omega)
    have r9 := hcell 9 (by omega)
    have r10 := hcell 10 (by omega)
    have r11 := hcell 11 (by omega)
    simp only [Nat.add_zero, List.getElem?_cons_zero, List.getElem?_cons_succ] at r0 r1 r2 r3 r4 r5 r6 r7 r8 r9 r10 r11
    have hold := heap_r0 w (.cells #[.int .i64 0, .int .i64 0, .int .i64 0, .int .i64 0, .int .u32 0, .int .i64 0, .int .u32 0, .int .i64 0, .int .i64 0, .int .i64 0, .bool false, .slice none 0 0] TIn)
    have b1 := below1 w (.cells #[.int .i64 op, .int .i64 bin, .int .i64 d, .int .i64 ak, .int .u32 an, .int .i64 bk, .int .u32 bn, .int .i64 n, .int .i64 off, .int .i64 width, .bool sg, .slice ap args.length acap] TIn)
    have N1 := heap_r0 w (.cells #[.int .i64 op, .int .i64 bin, .int .i64 d, .int .i64 ak, .int .u32 an, .int .i64 bk, .int .u32 bn, .int .i64 n, .int .i64 off, .int .i64 width, .bool sg, .slice ap args.length acap] TIn)
    have k0 := (Lib.cell_of_heap N1 0)
    have k7 := (Lib.cell_of_heap N1 7)
    simp only [List.getElem?_toArray, List.getElem?_cons_zero, List.getElem?_cons_succ] at k0 k7
    have HB1 : Hid (Below w.heap.size w (w.alloc (.cells #[.int .i64 op, .int .i64 bin, .int .i64 d, .int .i64 ak, .int .u32 an, .int .i64 bk, .int .u32 bn, .int .i64 n, .int .i64 off, .int .i64 width, .bool sg, .slice ap args.length acap] TIn))) := b1
    have hwi : IntKind.i64.wrap ((k : Int) + 1) = (k : Int) + 1 := wrap_idI (by omega) (by omega)
    obtain ⟨L, hL⟩ : ∃ L, L = rawP op n (k : Int) := ⟨_, rfl⟩
    rw [← hL] at HL2 ⊢
    have HL : Hid (L = if op = 9 ∨ op = 14 then [] else if op = 10 then [n] else if op = 11 then [min ((k : Int) + 1) n, max ((k : Int) + 1) n] else [(k : Int) + 1]) := hL
    clear hin hq b1 N1 hcell hin2 HR hqk HRaw hL
    go_enter Tryz.func20, Tryz.ntmps20
    go_upto_region 4 with (first | (go_at_call 33; refine c1.mono ?_; rintro e w' ⟨rfl, hw⟩; rw [hw]; clear hw w') | ((with_reducible apply step_store hold); rfl; rfl; kernel_rfl; rfl; kernel_rfl; rw [World.setRow_alloc_new]) | fail)
    generalize w.alloc (.cells #[.int .i64 op, .int .i64 bin, .int .i64 d, .int .i64 ak, .int .u32 an, .int .i64 bk, .int .u32 bn, .int .i64 n, .int .i64 off, .int .i64 width, .bool sg, .slice ap args.length acap] TIn) = W1 at *
    clear r0 r1 r2 r3 r4 r5 r6 r7 r8 r9 r10 r11 hold c1
    iterate 8 go_step
    go_cut [6] from 19 to 44 (fun lv wx => ∃ lp lc, lv = .slice lp L.length lc ∧ Hid (NewI w wx (.slice lp L.length lc) L))
    case first =>
      have HN1 : Hid (∀ a, NewI w (W1.alloc (.cells #[.int .i64 a] 3)) (.slice (some ⟨W1.heap.size, 0, none⟩) 1 1) [a]) := fun a => newI_one W1 HB1.out a
      have HN2 : Hid (∀ a b, NewI w (W1.alloc (.cells #[.int .i64 a, .int .i64 b] 3)) (.slice (some ⟨W1.heap.size, 0, none⟩) 2 2) [a, b]) := fun a b => newI_two W1 HB1.out a b
      by_cases h9 : op = 9 ∨ op = 14
      · have HR2 : Hid (L = []) := HL.out.trans (if_pos h9)
        rcases h9 with rfl | rfl
        all_goals
          go_wp2
          go_meet
          rw [HR2.out]
          exact ⟨none, 0, rfl, HB1.out, Or.inl ⟨rfl, rfl⟩⟩
      have q9 : (op == 9) = false := by simp; omega
      have q14 : (op == 14) = false := by simp; omega
      by_cases h10 : op = 10
      · have HR2 : Hid (L = [n]) := (HL.out.trans (if_neg h9)).trans (if_pos h10)
        subst h10
        clear h9 q9 q14
        go_wp2
        go_meet
        rw [HR2.out]
        exact ⟨_, _, rfl, HN1.out n⟩
      have q10 : (op == 10) = false := by simpa using h10
      by_cases h11 : op = 11
      · have HR4 : Hid (L = [min ((k : Int) + 1) n, max ((k : Int) + 1) n]) := ((HL.out.trans (if_neg h9)).trans (if_neg h10)).trans (if_pos h11)
        subst h11
        clear h9 q9 q14 q10 h10
        go_wp2
        all_goals
          go_meet
          have hl2 : L.length = 2 := by rw [HR4.out]; rfl
          rw [hl2]
          refine ⟨_, _, rfl, NewI.of (HN2.out _ _) ?_⟩
          rw [HR4.out]
          congr 1
          · omega
          · congr 1; omega
      · have HR4 : Hid (L = [(k : Int) + 1]) := ((HL.out.trans (if_neg h9)).trans (if_neg h10)).trans (if_neg h11)
        have q11 : (op == 11) = false := by simpa using h11
        clear h9
        go_wp2
        go_meet
        rw [HR4.out]
        exact ⟨_, _, rfl, HN1.out _⟩
    case rest =>
      obtain ⟨lp, lc, rfl, HN⟩ := hcut
      obtain ⟨hbx, hLc⟩ := HN.out
      have HBX : Hid (Below w.heap.size w wc) := hbx
      have HLC : Hid (∀ Y, Below wc.heap.size wc Y → ∀ j a, L[j]? = some a → ∃ g, lp = some ⟨g, 0, none⟩ ∧ L.length ≤ lc ∧ Y.cell? ⟨g, j, none⟩ = some (.int .i64 a)) := fun Y hY j a ha => by
        rcases hLc with ⟨_, hnil⟩ | ⟨gl, c, cs, _, he, hc, hg, _, hcell⟩
        · rw [hnil] at ha; simp at ha
        · injection he with e1 e2 e3
          subst e1 e3
          exact ⟨gl, rfl, hc, (hY.cell (p := ⟨gl, j, none⟩) (lt_of_heap hg)).trans (hcell j a ha)⟩
      clear hbx hLc HN HL k0 k7 HB1 hwi hcap hk
      go_wp2
      go_loopw [7, 8] (fun ov iv wr => ∃ j : Nat, iv = .int .i64 j ∧ j ≤ L.length ∧ Hid (Below wc.heap.size wc wr) ∧ Hid (wr.ownsRow wc.heap.size 3 1 ov (outF L ((xs.length : Int) - 1) j).length (intsC (outF L ((xs.length : Int) - 1) j)))) (fun _ iv _ => L.length - (intOf iv).toNat)
      case atStart => exact ⟨0, rfl, Nat.zero_le _, Below.refl _ _, ⟨rfl, Or.inl ⟨rfl, rfl⟩⟩⟩
      case round =>
        obtain ⟨j, rfl, hj, HR, HO⟩ := hrel
        obtain ⟨op', oc', rfl⟩ := slice_of_own HO.out
        by_cases hlt : j < L.length
        · obtain ⟨a, ha⟩ : ∃ a, L[j]? = some a := ⟨_, List.getElem?_eq_getElem hlt⟩
          obtain ⟨gl, rfl, hlc, hca⟩ := HLC.out wr HR.out j a ha
          have cW := HCW.out a
          have HN0 : Hid (keepB L ((xs.length : Int) - 1) j = false → outF L ((xs.length : Int) - 1) (j + 1) = outF L ((xs.length : Int) - 1) j) := fun h => by show outF L _ j ++ (if keepB L _ j then _ else _) = _; rw [h]; simp
          have HN1 : Hid (keepB L ((xs.length : Int) - 1) j = true → outF L ((xs.length : Int) - 1) (j + 1) = outF L ((xs.length : Int) - 1) j ++ [a]) := fun h => by show outF L _ j ++ (if keepB L _ j then _ else _) = _; rw [h, ha]; rfl
          have HKB : Hid (keepB L ((xs.length : Int) - 1) j = (withinP a 0 ((xs.length : Int) - 1) && (j == 0 || (match L[j - 1]? with | some b => a != b | none => false)))) := by show keepB L _ j = _; unfold keepB; rw [ha]
          have hol := outF_len L ((xs.length : Int) - 1) j
          have HAP : Hid (∀ Y a', Below wc.heap.size wc Y → Y.ownsRow wc.heap.size 3 1 (.slice op' (outF L ((xs.length : Int) - 1) j).length oc') (outF L ((xs.length : Int) - 1) j).length (intsC (outF L ((xs.length : Int) - 1) j)) → Below wc.heap.size wc (Y.alloc (.cells #[.int .i64 a'] 3)) ∧ (Y.alloc (.cells #[.int .i64 a'] 3)).ownsRow wc.heap.size 3 1 (.slice op' (outF L ((xs.length : Int) - 1) j).length oc') (outF L ((xs.length : Int) - 1) j).length (intsC (outF L ((xs.length : Int) - 1) j))) := fun Y a' hY hO => ⟨hY.trans ((below1 Y _).mono hY.size), ownsRow_turned hO (Turned.of_below (below1 Y _) (fun _ => False)) (fun _ _ h => h.elim)⟩
          cases hwa : withinP a 0 ((xs.length : Int) - 1) with
          | false =>
            rw [hwa] at cW
            have HE : Hid (outF L ((xs.length : Int) - 1) (j + 1) = outF L ((xs.length : Int) - 1) j) := HN0.out (by rw [HKB.out, hwa]; rfl)
            clear hwa HN0 HN1 HKB HAP
            go_upto_region 17 with (fail)
            go_quiet ((go_at_call 33; refine Calls.quiet_of_same (cW _)))
            go_wp2
            refine ⟨⟨j + 1, by go_num, by omega, ?_, ?_⟩, by simp [intOf]; omega⟩
            · exact HR.out.trans (below_drewN _ wr nq)
            · rw [HE.out]
              exact ownsRow_turned HO.out (Turned.of_below (below_drewN _ wr nq) (fun _ => False)) (fun _ _ h => h.elim)
          | true =>
            rw [hwa] at cW
            have KEEP : Hid (keepB L ((xs.length : Int) - 1) j = (j == 0 || (match L[j - 1]? with | some b => a != b | none => false))) := by show keepB L _ j = _; rw [HKB.out, hwa, Bool.true_and]
            clear hwa HKB
            by_cases hj0 : j = 0
            · subst hj0
              have HE : Hid (outF L ((xs.length : Int) - 1) (0 + 1) = outF L ((xs.length : Int) - 1) 0 ++ [a]) := HN1.out (by rw [KEEP.out]; rfl)
              clear HN0 HN1 KEEP
              go_upto_region 17 with (fail)
              go_quiet ((go_at_call 33; refine Calls.quiet_of_same (cW _)))
              have hR2 : Below wc.heap.size wc (wr.drewN nq) := HR.out.trans (below_drewN _ wr nq)
              have hca2 := ((below_drewN wr.heap.size wr nq).cell (p := ⟨gl, 0, none⟩) (World.block_lt_of_cell? wr _ hca)).trans hca
              have hO2 := ownsRow_turned HO.out (Turned.of_below (below_drewN _ wr nq) (fun _ => False)) (fun _ _ h => h.elim)
              obtain ⟨hR3, hO3⟩ := HAP.out _ a hR2 hO2
              have HR2 : Hid (Below wc.heap.size wc ((wr.drewN nq).alloc (.cells #[.int .i64 a] 3))) := hR3
              have HO2 : Hid (((wr.drewN nq).alloc (.cells #[.int .i64 a] 3)).ownsRow wc.heap.size 3 1 (.slice op' (outF L ((xs.length : Int) - 1) (0)).length oc') (outF L ((xs.length : Int) - 1) (0)).length (intsC (outF L ((xs.length : Int) - 1) (0)))) := hO3
              generalize wr.drewN nq = W7 at *
              clear hR2 hO2 hR3 hO3 HAP HR HO hca
              go_wp2_with (at_builtin; go_must (refine wpList_append_own_at _ rfl (.tmp 75) (.tmp 80) TIs rfl wc.heap.size 3 i0 _ 1 8 Tryz.underlying33 hi0 hz0 hz1 hz2 rfl (by decide) (.slice op' (outF L ((xs.length : Int) - 1) (0)).length oc') (outF L ((xs.length : Int) - 1) (0)).length _ rfl HO2.out ⟨W7.heap.size, 0, none⟩ 1 1 [.int .i64 a] rfl rfl (cells_new _ _ _) (by simp [Value.oneCell']) (by unfold maxLen; omega) (by omega) HR2.out.size ?_); intro v' w' hown hgrow hnil hat; have HOW : Hid (w'.ownsRow wc.heap.size 3 1 v' ((outF L ((xs.length : Int) - 1) (0)).length + 1) (intsC (outF L ((xs.length : Int) - 1) (0)) ++ [.int .i64 a])) := hown; have HGR : Hid (Below wc.heap.size wc w') := below_grown HR2.out HR2.out.size hgrow (fun k e => (ownsRow_at HO2.out e).1); clear hown hgrow hnil hat)
              refine ⟨⟨0 + 1, by go_num, by omega, HGR, ?_⟩, by simp [intOf]; omega⟩
              rw [HE.out]
              have hx := HOW.out
              unfold intsC at hx ⊢
              rw [List.map_append, List.length_append]
              exact hx
            · obtain ⟨t, ht⟩ : ∃ t, j = t + 1 := ⟨j - 1, by omega⟩
              have htl : t < L.length := by omega
              have htb : t ≤ 2 := by omega
              obtain ⟨b, hbb⟩ : ∃ b, L[t]? = some b := ⟨_, List.getElem?_eq_getElem htl⟩
              obtain ⟨gl2, hgl2, _, hcb⟩ := HLC.out wr HR.out t b hbb
              injection hgl2 with hgl3
              injection hgl3 with hgl4
              subst hgl4
              have hjw : IntKind.i64.wrap ((j : Int) - 1) = (t : Int) := by rw [wrap_id (by omega) (by omega)]; omega
              have hj1 : ((j : Int) == 0) = false := by simp; omega
              have HK2 : Hid (keepB L ((xs.length : Int) - 1) j = (a != b)) := by show keepB L _ j = _; rw [KEEP.out, ht]; simp [hbb]
              clear ht hj0
              cases hab : (a != b) with
              | true =>
                have HE : Hid (outF L ((xs.length : Int) - 1) (j + 1) = outF L ((xs.length : Int) - 1) j ++ [a]) := HN1.out (by rw [HK2.out, hab])
                clear HN0 HN1 KEEP HK2 hbb
                go_upto_region 17 with (fail)
                go_quiet ((go_at_call 33; refine Calls.quiet_of_same (cW _)))
                have hR2 : Below wc.heap.size wc (wr.drewN nq) := HR.out.trans (below_drewN _ wr nq)
                have hca2 := ((below_drewN wr.heap.size wr nq).cell (p := ⟨gl, j, none⟩) (World.block_lt_of_cell? wr _ hca)).trans hca
                have hO2 := ownsRow_turned HO.out (Turned.of_below (below_drewN _ wr nq) (fun _ => False)) (fun _ _ h => h.elim)
                obtain ⟨hR3, hO3⟩ := HAP.out _ a hR2 hO2
                have HR2 : Hid (Below wc.heap.size wc ((wr.drewN nq).alloc (.cells #[.int .i64 a] 3))) := hR3
                have HO2 : Hid (((wr.drewN nq).alloc (.cells #[.int .i64 a] 3)).ownsRow wc.heap.size 3 1 (.slice op' (outF L ((xs.length : Int) - 1) j).length oc') (outF L ((xs.length : Int) - 1) j).length (intsC (outF L ((xs.length : Int) - 1) j))) := hO3
                generalize wr.drewN nq = W7 at *
                clear hR2 hO2 hR3 hO3 HAP HR HO hca
                go_wp2_with (at_builtin; go_must (refine wpList_append_own_at _ rfl (.tmp 75) (.tmp 80) TIs rfl wc.heap.size 3 i0 _ 1 8 Tryz.underlying33 hi0 hz0 hz1 hz2 rfl (by decide) (.slice op' (outF L ((xs.length : Int) - 1) j).length oc') (outF L ((xs.length : Int) - 1) j).length _ rfl HO2.out ⟨W7.heap.size, 0, none⟩ 1 1 [.int .i64 a] rfl rfl (cells_new _ _ _) (by simp [Value.oneCell']) (by unfold maxLen; omega) (by omega) HR2.out.size ?_); intro v' w' hown hgrow hnil hat; have HOW : Hid (w'.ownsRow wc.heap.size 3 1 v' ((outF L ((xs.length : Int) - 1) j).length + 1) (intsC (outF L ((xs.length : Int) - 1) j) ++ [.int .i64 a])) := hown; have HGR : Hid (Below wc.heap.size wc w') := below_grown HR2.out HR2.out.size hgrow (fun k e => (ownsRow_at HO2.out e).1); clear hown hgrow hnil hat)
                refine ⟨⟨j + 1, by go_num, by omega, HGR, ?_⟩, by simp [intOf]; omega⟩
                rw [HE.out]
                have hx := HOW.out
                unfold intsC at hx ⊢
                rw [List.map_append, List.length_append]
                exact hx
              | false =>
                have HE : Hid (outF L ((xs.length : Int) - 1) (j + 1) = outF L ((xs.length : Int) - 1) j) := HN0.out (by rw [HK2.out, hab])
                clear HN0 HN1 KEEP HK2 hbb HAP
                go_upto_region 17 with (fail)
                go_quiet ((go_at_call 33; refine Calls.quiet_of_same (cW _)))
                go_wp2
                refine ⟨⟨j + 1, by go_num, by omega, ?_, ?_⟩, by simp [intOf]; omega⟩
                · exact HR.out.trans (below_drewN _ wr nq)
                · rw [HE.out]
                  exact ownsRow_turned HO.out (Turned.of_below (below_drewN _ wr nq) (fun _ => False)) (fun _ _ h => h.elim)
        · obtain rfl : j = L.length := by omega
          go_wp2
          go_ret
          exact ⟨_, rfl, IntSl.of_own HO.out, HBX.out.trans (HR.out.mono HBX.out.size)⟩
end
end Go.Proofs.YtaaphipbkpjkjaaGreatDoor
