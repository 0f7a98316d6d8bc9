/-
  The functions of a program: functionsHold of package tac.
  The objects of a program: objectsHold of package tac.
  The function that a program begins with: mainHolds of package tac.
-/
import Derived.Test.YtaaphipbkpjkjaaGreatDoorKH
import Derived.Test.YtaaphipbkpjkjaaGreatDoorKI
import Derived.Maps.OwnSet
namespace Go.Proofs.YtaaphipbkpjkjaaGreatDoor
open Go.RowKit Go.Maps
set_option linter.unusedVariables false
set_option maxRecDepth 100000
/-- An object with what its two rows hold. -/
structure Og where
  o : Ob
  bs : List UInt8
  rls : List Rl
def ogC (q : Og) : List Value := obC q.o
structure OgOK (w : World) (q : Og) : Prop where
  nm : q.o.nm.size ≤ 9223372036854775807
  bn : q.o.bn = q.bs.length
  rn : q.o.rn = q.rls.length
  bm : q.bs.length ≤ 9223372036854775806
  rm : q.rls.length ≤ 9223372036854775806
  br : RowV byC 1 w q.o.bp q.o.bc q.bs
  rr : RowV rlC 3 w q.o.rp q.o.rc q.rls
theorem OgOK.below {w w' : World} {q : Og} (h : OgOK w q) (hb : Below w.heap.size w w') : OgOK w' q := ⟨h.nm, h.bn, h.rn, h.bm, h.rm, h.br.below hb, h.rr.below hb⟩
theorem RowV.map {α β : Type} {C : β → List Value} {f : α → β} {sz : Nat} {w : World} {p : Option Addr} {cap : Nat} {l : List α} (h : RowV (fun a => C (f a)) sz w p cap l) : RowV C sz w p cap (l.map f) := by
  obtain ⟨⟨h1, h2⟩, h3⟩ := h
  refine ⟨⟨by simpa using h1, fun e => by simpa using h2 e⟩, fun j a ha => ?_⟩
  rw [List.getElem?_map] at ha
  obtain ⟨b, hb, rfl⟩ := Option.map_eq_some_iff.1 ha
  exact h3 j b hb
def obj1 (obs : List Ob) (q : Og) : Bool := tagP q.o.nm.data.toList && (roomB q.o.size q.o.align && ((q.bs.length : Int) == q.o.size && relB q.o.align q.o.size obs q.bs 0 q.rls))
def objB (l : List Og) : Bool := decide (l.length ≤ 256) && l.all (obj1 (l.map Og.o))
section
variable {w : World}
set_option maxHeartbeats 8000000 in
theorem objects_c {ap : Option Addr} {ac : Nat} {l : List Og} (hr : RowV ogC 5 w ap ac l) (hl : l.length ≤ 9223372036854775806) (hi : ∀ q ∈ l, OgOK w q) :
    Calls Tryz.prog 25 #[.slice ap l.length ac] w fun e w' => e = .returned (.bool (objB l)) ∧ Below w.heap.size w w' := by
  have HROW : Hid (∀ Y, Below w.heap.size w Y → RowV ogC 5 Y ap ac l) := fun Y hY => hr.below hY
  have HOB : Hid (∀ Y, Below w.heap.size w Y → RowV obC 5 Y ap ac (l.map Og.o)) := fun Y hY => RowV.map (C := obC) (f := Og.o) (hr.below hY)
  have HI : Hid (∀ Y, Below w.heap.size w Y → ∀ q ∈ l, OgOK Y q) := fun Y hY q hq => (hi q hq).below hY
  obtain ⟨R, hR⟩ : ∃ R, R = objB l := ⟨_, rfl⟩
  rw [← hR]
  have HR : Hid (R = _) := hR
  have nt := not_t
  have nf := not_f
  clear hR hr hi
  go_enter Tryz.func25, Tryz.ntmps25
  by_cases h256 : l.length ≤ 256
  · have d1 : decide (256 < (l.length : Int)) = false := by simp; omega
    have HR1 : Hid (R = l.all (obj1 (l.map Og.o))) := by show R = _; rw [HR.out]; unfold objB; simp [h256]
    clear HR
    go_wp2
    clear d1
    go_loopw [10] (fun iv wr => ∃ k : Nat, iv = .int .i64 k ∧ k ≤ l.length ∧ Hid ((l.take k).all (obj1 (l.map Og.o)) = true) ∧ Hid (Below w.heap.size w wr)) (fun iv _ => l.length - (intOf iv).toNat)
    case atStart => exact ⟨0, rfl, Nat.zero_le _, rfl, Below.refl _ _⟩
    case round =>
      obtain ⟨k, rfl, hk, HAL, HRW⟩ := hrel
      by_cases hlt : k < l.length
      · obtain ⟨q, hs⟩ : ∃ s, l[k]? = some s := ⟨_, List.getElem?_eq_getElem hlt⟩
        obtain ⟨g, o, rfl, hg, hc⟩ := (HROW.out wr HRW.out).2 k q hs
        have hcap := (HROW.out w (Below.refl _ _)).1.1
        have a0 := hc 0 (by omega)
        have a1 := hc 1 (by omega)
        have a2 := hc 2 (by omega)
        have a3 := hc 3 (by omega)
        have a4 := hc 4 (by omega)
        simp only [ogC, obC, List.getElem?_cons_zero, List.getElem?_cons_succ, Nat.add_zero] at a0 a1 a2 a3 a4
        have HAT := all_take (p := obj1 (l.map Og.o)) hs
        have HATH : Hid ((l.take (k + 1)).all (obj1 (l.map Og.o)) = obj1 (l.map Og.o) q) := by show _ = _; rw [HAT, HAL.out, Bool.true_and]
        have HMEM : Hid (obj1 (l.map Og.o) q = false → R = false) := fun hf => by
          rw [HR1.out, List.all_eq_false]; exact ⟨q, List.mem_of_getElem? hs, by simp [hf]⟩
        have hold := heap_r0 wr (.cells #[.string ⟨#[]⟩, .int .i64 0, .int .i64 0, .slice none 0 0, .slice none 0 0] TOb)
        have b5 := below1 wr (.cells #[.string q.o.nm, .int .i64 q.o.size, .int .i64 q.o.align, .slice q.o.bp q.o.bn q.o.bc, .slice q.o.rp q.o.rn q.o.rc] TOb)
        have N5 := heap_r0 wr (.cells #[.string q.o.nm, .int .i64 q.o.size, .int .i64 q.o.align, .slice q.o.bp q.o.bn q.o.bc, .slice q.o.rp q.o.rn q.o.rc] TOb)
        have p0 := (Lib.cell_of_heap N5 0).trans rfl
        have p1 := (Lib.cell_of_heap N5 1).trans rfl
        have p2 := (Lib.cell_of_heap N5 2).trans rfl
        have p3 := (Lib.cell_of_heap N5 3).trans rfl
        have p4 := (Lib.cell_of_heap N5 4).trans rfl
        have HB5 : Hid (Below w.heap.size w (wr.alloc (.cells #[.string q.o.nm, .int .i64 q.o.size, .int .i64 q.o.align, .slice q.o.bp q.o.bn q.o.bc, .slice q.o.rp q.o.rn q.o.rc] TOb))) := HRW.out.trans (b5.mono HRW.out.size)
        have HQ : Hid (OgOK (wr.alloc (.cells #[.string q.o.nm, .int .i64 q.o.size, .int .i64 q.o.align, .slice q.o.bp q.o.bn q.o.bc, .slice q.o.rp q.o.rn q.o.rc] TOb)) q) := HI.out _ HB5.out q (List.mem_of_getElem? hs)
        clear hs hg hc HAT N5 b5
        go_upto_region 6 with (first | ((with_reducible apply step_store hold); rfl; rfl; kernel_rfl; rfl; kernel_rfl; rw [World.setRow_alloc_new]) | fail)
        generalize wr.alloc (.cells #[.string q.o.nm, .int .i64 q.o.size, .int .i64 q.o.align, .slice q.o.bp q.o.bn q.o.bc, .slice q.o.rp q.o.rn q.o.rc] TOb) = W5 at *
        clear a0 a1 a2 a3 a4 hold
        have cT := tag_c q.o.nm W5 HQ.out.nm
        have cR := roomHolds_c q.o.size q.o.align W5
        have e1 := HQ.out.bn
        have e2 := HQ.out.rn
        rw [e1] at p3
        rw [e2] at p4
        have hbm := HQ.out.bm
        have hrm := HQ.out.rm
        cases hq1 : tagP q.o.nm.data.toList with
        | false =>
          rw [hq1] at cT
          have HV : Hid (R = false) := HMEM.out (by unfold obj1; rw [hq1]; rfl)
          clear hq1 HMEM HATH
          go_wp2_with (first | (go_at_call 47; refine cT.mono ?_; rintro e w' ⟨rfl, hw⟩; rw [hw]; clear hw w') | fail)
          go_ret
          exact ⟨by rw [HV.out]; rfl, HB5.out⟩
        | true =>
          rw [hq1] at cT
          cases hq2 : roomB q.o.size q.o.align with
          | false =>
            rw [hq2] at cR
            have HV : Hid (R = false) := HMEM.out (by unfold obj1; rw [hq1, hq2]; rfl)
            clear hq1 hq2 HMEM HATH
            go_wp2_with (first | (go_at_call 47; refine cT.mono ?_; rintro e w' ⟨rfl, hw⟩; rw [hw]; clear hw w') | (go_at_call 48; refine cR.mono ?_; rintro e w' ⟨rfl, hw⟩; rw [hw]; clear hw w') | fail)
            go_ret
            exact ⟨by rw [HV.out]; rfl, HB5.out⟩
          | true =>
            rw [hq2] at cR
            have hsz : 1 ≤ q.o.size ∧ q.o.size ≤ 16384 := by
              unfold roomB withinP at hq2
              simp at hq2
              exact hq2.1
            cases hq3 : ((q.bs.length : Int) == q.o.size) with
            | false =>
              have hne : ((q.bs.length : Int) != q.o.size) = true := by simpa using hq3
              have HV : Hid (R = false) := HMEM.out (by unfold obj1; rw [hq1, hq2, hq3]; rfl)
              clear hq1 hq2 hq3 HMEM HATH
              go_wp2_with (first | (go_at_call 47; refine cT.mono ?_; rintro e w' ⟨rfl, hw⟩; rw [hw]; clear hw w') | (go_at_call 48; refine cR.mono ?_; rintro e w' ⟨rfl, hw⟩; rw [hw]; clear hw w') | fail)
              go_ret
              exact ⟨by rw [HV.out]; rfl, HB5.out⟩
            | true =>
              have hne : ((q.bs.length : Int) != q.o.size) = false := by simpa using hq3
              have cL := relocs_c (nm := q.o.nm) (HOB.out W5 HB5.out) (by rw [List.length_map]; omega) (align := q.o.align) (size := q.o.size) HQ.out.br (by simpa using hq3) hsz.1 hsz.2 HQ.out.rr HQ.out.rm
              rw [List.length_map] at cL
              have HO : Hid (obj1 (l.map Og.o) q = relB q.o.align q.o.size (l.map Og.o) q.bs 0 q.rls) := by show _ = _; unfold obj1; rw [hq1, hq2, hq3]; rfl
              clear hq1 hq2 hq3
              rw [HO.out] at HATH HMEM
              clear HO
              generalize relB q.o.align q.o.size (l.map Og.o) q.bs 0 q.rls = ob at *
              cases ob with
              | false =>
                have HV : Hid (R = false) := HMEM.out rfl
                clear HMEM HATH
                go_wp2_with (first | (go_at_call 47; refine cT.mono ?_; rintro e w' ⟨rfl, hw⟩; rw [hw]; clear hw w') | (go_at_call 48; refine cR.mono ?_; rintro e w' ⟨rfl, hw⟩; rw [hw]; clear hw w') | (go_at_call 49; refine cL.mono ?_; rintro e w6 ⟨rfl, hb6⟩; have HB6 : Hid (Below w.heap.size w w6) := HB5.out.trans (hb6.mono HB5.out.size); clear hb6) | fail)
                go_ret
                exact ⟨by rw [HV.out]; rfl, HB6.out⟩
              | true =>
                go_wp2_with (first | (go_at_call 47; refine cT.mono ?_; rintro e w' ⟨rfl, hw⟩; rw [hw]; clear hw w') | (go_at_call 48; refine cR.mono ?_; rintro e w' ⟨rfl, hw⟩; rw [hw]; clear hw w') | (go_at_call 49; refine cL.mono ?_; rintro e w6 ⟨rfl, hb6⟩; have HB6 : Hid (Below w.heap.size w w6) := HB5.out.trans (hb6.mono HB5.out.size); clear hb6) | fail)
                exact ⟨⟨k + 1, by go_num, by omega, HATH, HB6⟩, by simp [intOf]; omega⟩
      · obtain rfl : k = l.length := by omega
        have HV : Hid (R = true) := by
          have := HAL.out
          rw [List.take_length] at this
          show R = _
          rw [HR1.out, this]
        go_wp2
        go_ret
        exact ⟨by rw [HV.out]; rfl, HRW.out⟩
  · have d1 : decide (256 < (l.length : Int)) = true := by simp; omega
    have HV : Hid (R = false) := by show R = _; rw [HR.out]; unfold objB; simp [h256]
    clear HR
    go_wp2
    go_ret
    exact ⟨by rw [HV.out]; rfl, Below.refl _ _⟩
end
end Go.Proofs.YtaaphipbkpjkjaaGreatDoor
namespace Go.Proofs.YtaaphipbkpjkjaaGreatDoor
open Go.RowKit Go.Maps
set_option linter.unusedVariables false
set_option maxRecDepth 100000
def prF (fns : List Fn) (n : Int) : Int := match fns[n.toNat]? with | some f => f.pr | none => 0
def mainB (fns : List Fn) (m : Int) : Bool := withinP m 0 ((fns.length : Int) - 1) && prF fns m == 0
section
variable {w : World}
set_option maxHeartbeats 4000000 in
theorem main_c {ap : Option Addr} {an ac : Nat} {fp : Option Addr} {fc : Nat} {fns : List Fn} (hr : RowV fnC 6 w fp fc fns) (hl : fns.length ≤ 9223372036854775806) (m : Int) :
    Calls Tryz.prog 27 #[.agg #[.slice ap an ac, .slice fp fns.length fc, .int .i64 m]] w fun e w' => e = .returned (.bool (mainB fns m)) ∧ Below w.heap.size w w' := by
  have b1 := below1 w (.cells #[.slice ap an ac, .slice fp fns.length fc, .int .i64 m] TPg)
  have N1 := heap_r0 w (.cells #[.slice ap an ac, .slice fp fns.length fc, .int .i64 m] TPg)
  have HB : Hid (Below w.heap.size w (w.alloc (.cells #[.slice ap an ac, .slice fp fns.length fc, .int .i64 m] TPg))) := b1
  have c1 := (Lib.cell_of_heap N1 1).trans rfl
  have c2 := (Lib.cell_of_heap N1 2).trans rfl
  have hrb := hr.below b1
  have cN := isNumber_c m (fns.length : Int) (by omega) (by omega) (w.alloc (.cells #[.slice ap an ac, .slice fp fns.length fc, .int .i64 m] TPg))
  unfold mainB
  have nt := not_t
  have nf := not_f
  clear b1 N1 hr
  cases hq : withinP m 0 ((fns.length : Int) - 1) with
  | false =>
    rw [hq] at cN
    clear hrb hq
    go_enter Tryz.func27, Tryz.ntmps27
    go_upto_region 1 with (fail)
    refine (?_ : Code.wp _ _ _ _ (w.alloc (.cells #[.slice ap an ac, .slice fp fns.length fc, .int .i64 m] TPg)))
    generalize w.alloc (.cells #[.slice ap an ac, .slice fp fns.length fc, .int .i64 m] TPg) = W1 at *
    go_wp2_with (first | (go_at_call 28; refine cN.mono ?_; rintro e w' ⟨rfl, hw⟩; rw [hw]; clear hw w') | fail)
    go_ret
    exact ⟨rfl, HB.out⟩
  | true =>
    rw [hq] at cN
    have hm : 0 ≤ m ∧ m ≤ (fns.length : Int) - 1 := by unfold withinP at hq; simpa using hq
    obtain ⟨n, rfl⟩ : ∃ n : Nat, m = n := ⟨m.toNat, by omega⟩
    have hn : n < fns.length := by omega
    obtain ⟨f, hf⟩ : ∃ f, fns[n]? = some f := ⟨_, List.getElem?_eq_getElem hn⟩
    obtain ⟨g, o, rfl, hg, hc⟩ := hrb.2 n f hf
    have hcap := hrb.1.1
    have a1 := hc 1 (by omega)
    simp only [fnC, List.getElem?_cons_zero, List.getElem?_cons_succ] at a1
    have HP : Hid (prF fns (n : Int) = f.pr) := by show _ = _; unfold prF; rw [Int.toNat_natCast, hf]
    rw [HP.out, Bool.true_and]
    clear hrb hq hc hf HP hm hg
    go_enter Tryz.func27, Tryz.ntmps27
    go_upto_region 1 with (fail)
    refine (?_ : Code.wp _ _ _ _ (w.alloc (.cells #[.slice ap an ac, .slice (some ⟨g, o, none⟩) fns.length fc, .int .i64 n] TPg)))
    generalize w.alloc (.cells #[.slice ap an ac, .slice (some ⟨g, o, none⟩) fns.length fc, .int .i64 n] TPg) = W1 at *
    go_wp2_with (first | (go_at_call 28; refine cN.mono ?_; rintro e w' ⟨rfl, hw⟩; rw [hw]; clear hw w') | fail)
    go_ret
    exact ⟨rfl, HB.out⟩
end
end Go.Proofs.YtaaphipbkpjkjaaGreatDoor
namespace Go.Proofs.YtaaphipbkpjkjaaGreatDoor
open Go.RowKit Go.Maps
set_option linter.unusedVariables false
set_option maxRecDepth 100000
abbrev TMo : TypeId := 97
theorem keyed_str : Keyed Tryz.prog 9 := string_keyed Tryz.underlying9
theorem zero_int (Y : World) : (zeroValue 3).run Tryz.prog Y = .ok (.int .i64 0) Y := rfl
/-- A function with what its two rows hold. -/
structure Fg where
  f : Fn
  sls : List Slt
  code : List Iw
def fgC (q : Fg) : List Value := fnC q.f
structure FgOK (w : World) (q : Fg) : Prop where
  nm : q.f.nm.size ≤ maxLen
  sl : RowV slC 2 w q.f.sp q.f.sc q.sls
  sn : q.f.sn = q.sls.length
  sm : q.sls.length ≤ 9223372036854775806
  cr : RowV iwC 12 w q.f.cp q.f.cc q.code
  cn : q.f.cn = q.code.length
  cm : q.code.length ≤ 9223372036854775806
  ci : ∀ i ∈ q.code, InOK w i.x i.xp i.xc
theorem FgOK.below {w w' : World} {q : Fg} (h : FgOK w q) (hb : Below w.heap.size w w') : FgOK w' q := ⟨h.nm, h.sl.below hb, h.sn, h.sm, h.cr.below hb, h.cn, h.cm, fun i hi => (h.ci i hi).below hb⟩
def fun1 (obs : List Ob) (fns : List Fn) (q : Fg) : Bool := tagP q.f.nm.data.toList && (frameB q.f.pr q.f.tp q.sls && codeB q.f.tp q.f.gv q.sls obs fns q.code)
def funL (obs : List Ob) (fns : List Fn) : List (List UInt8) → List Fg → Bool
  | _, [] => true
  | seen, q :: r => !seen.contains q.f.nm.data.toList && (fun1 obs fns q && funL obs fns (q.f.nm.data.toList :: seen) r)
def funsB (obs : List Ob) (l : List Fg) : Bool := withinP (l.length : Int) 1 64 && funL obs (l.map Fg.f) [] l
/-- The map of owners: its keys are the names that were seen. -/
def Own (w : World) (b n : Nat) (seen : List (List UInt8)) : Prop := ∃ D : DataW Unit, w.ownsMap Tryz.prog 9 (plainElem Tryz.prog 3) b n D ∧ IsMap D ∧ ∀ s, Maps.has D (.string s) = seen.contains s
theorem Own.below {w w' : World} {b n : Nat} {seen : List (List UInt8)} (h : Own w b n seen) (hb : Below w.heap.size w w') : Own w' b n seen := by
  obtain ⟨D, ⟨es, ck, h1, h2, h3, h4⟩, hm, hs⟩ := h
  exact ⟨D, ⟨es, ck, blk_b h1 hb, h2, h3, h4⟩, hm, hs⟩
theorem Own.made (w : World) : Own (w.alloc (.map #[] 0)) w.heap.size 0 [] := ⟨.map [], World.ownsMap_made _ _ _ _, isMap_empty, fun s => rfl⟩
theorem own_put {D : DataW Unit} (hm : IsMap D) {seen : List (List UInt8)} (hs : ∀ s, Maps.has D (.string s) = seen.contains s) (n : List UInt8) (d : DataW Unit) (hk : WideAt.IsKeyLit (.string n)) : ∀ s, Maps.has (D.put (.string n) d) (.string s) = (n :: seen).contains s := fun s => by
  by_cases h : s = n
  · subst h
    rw [has_put_same hm hk]
    simp
  · rw [has_put_other (fun e => h (by injection e)), hs]
    simp [h]
end Go.Proofs.YtaaphipbkpjkjaaGreatDoor
