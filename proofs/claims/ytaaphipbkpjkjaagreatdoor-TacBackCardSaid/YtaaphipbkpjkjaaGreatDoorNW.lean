/-
  holds of package tac: calls.
  holds of package tac: addresses of slots and of objects.
-/
import Derived.Test.YtaaphipbkpjkjaaGreatDoorKE
import Derived.BigQuiet
namespace Go.Proofs.YtaaphipbkpjkjaaGreatDoor
open Go.RowKit Go.Maps
set_option linter.unusedVariables false
set_option maxRecDepth 100000
/-- A slot. -/
structure Slt where
  size : Int
  align : Int
def slC (s : Slt) : List Value := [.int .i64 s.size, .int .i64 s.align]
/-- An object, as its row has it. -/
structure Ob where
  nm : ByteArray
  size : Int
  align : Int
  bp : Option Addr
  bn : Nat
  bc : Nat
  rp : Option Addr
  rn : Nat
  rc : Nat
def obC (o : Ob) : List Value := [.string o.nm, .int .i64 o.size, .int .i64 o.align, .slice o.bp o.bn o.bc, .slice o.rp o.rn o.rc]
def SH (W0 : World) (Y : World) : Prop := Below W0.heap.size W0 Y
theorem SH.drew {W0 Y : World} (h : SH W0 Y) : SH W0 Y.drew := Below.drew h
theorem SH.below {W0 Y Z : World} (h : SH W0 Y) (hb : Below Y.heap.size Y Z) : SH W0 Z := Below.trans h (hb.mono (Below.size h))
theorem SH.cell {W0 Y : World} {g j : Nat} {v : Value} {o : Obj} (h : SH W0 Y) (hg : W0.heap[g]? = some o) (hc : W0.cell? ⟨g, j, none⟩ = some v) : Y.cell? ⟨g, j, none⟩ = some v := (Below.cell h (p := ⟨g, j, none⟩) (lt_of_heap hg)).trans hc
/-- The worlds behind W. -/
structure SAT (W : World) where
  val : World
  ok : SH W val
instance (W : World) : Nonempty (SAT W) := ⟨⟨W, Below.refl _ _⟩⟩
/-- A region that draws its order, whose operations only read and whose calls leave what was there: one walk, in the text's order, in every world behind W. -/
theorem wp_region_sub {P : Program} {id : Nat} {Q : Exit → Act → World → Prop} {a : Act} {w W : World} {l : List Oper} (hm : P.follows .mixedOrders = true) (hB : Region.lexB .any l.toArray = true) (hC : SH W { w with drawn := w.drawn + 1 })
    (h : wpQuiet P l.toArray (fun w' => ∃ Z : SAT W, w' = Z.val) (fun a' => ∀ w', (∃ Z : SAT W, w' = Z.val) → Q .normal a' w') l a) : (Code.region id l.toArray true).wp P Q a w :=
  wp_region_quiet (C := fun w' => ∃ Z : SAT W, w' = Z.val) hm hB ⟨⟨_, hC⟩, rfl⟩ (by simpa using h)
theorem sat9 {W : World} {g : Nat} {t : TypeId} {v0 v1 v2 v3 v4 v5 v6 v7 v8 : Value} (h : W.heap[g]? = some (.cells #[v0, v1, v2, v3, v4, v5, v6, v7, v8] t (0, 0))) :
    (∀ Z : SAT W, Z.val.cell? ⟨g, 0, none⟩ = some v0) ∧ (∀ Z : SAT W, Z.val.cell? ⟨g, 1, none⟩ = some v1) ∧ (∀ Z : SAT W, Z.val.cell? ⟨g, 2, none⟩ = some v2) ∧ (∀ Z : SAT W, Z.val.cell? ⟨g, 3, none⟩ = some v3) ∧ (∀ Z : SAT W, Z.val.cell? ⟨g, 4, none⟩ = some v4) ∧ (∀ Z : SAT W, Z.val.cell? ⟨g, 5, none⟩ = some v5) ∧ (∀ Z : SAT W, Z.val.cell? ⟨g, 6, none⟩ = some v6) ∧ (∀ Z : SAT W, Z.val.cell? ⟨g, 7, none⟩ = some v7) ∧ (∀ Z : SAT W, Z.val.cell? ⟨g, 8, none⟩ = some v8) := by
  obtain ⟨c0, c1, c2, c3, c4, c5, c6, c7, c8⟩ := cells9 h
  exact ⟨fun Z => Z.ok.cell h c0, fun Z => Z.ok.cell h c1, fun Z => Z.ok.cell h c2, fun Z => Z.ok.cell h c3, fun Z => Z.ok.cell h c4, fun Z => Z.ok.cell h c5, fun Z => Z.ok.cell h c6, fun Z => Z.ok.cell h c7, fun Z => Z.ok.cell h c8⟩
theorem sat278 {W : World} {g : Nat} {t : TypeId} {v0 v1 v2 v3 v4 v5 v6 v7 v8 v9 v10 v11 : Value} (h : W.heap[g]? = some (.cells #[v0, v1, v2, v3, v4, v5, v6, v7, v8, v9, v10, v11] t (0, 0))) :
    (∀ Z : SAT W, Z.val.cell? ⟨g, 2, none⟩ = some v2) ∧ (∀ Z : SAT W, Z.val.cell? ⟨g, 7, none⟩ = some v7) ∧ (∀ Z : SAT W, Z.val.cell? ⟨g, 8, none⟩ = some v8) := by
  obtain ⟨c0, c1, c2, c3, c4, c5, c6, c7, c8, c9, c10, c11⟩ := cells12 h
  exact ⟨fun Z => Z.ok.cell h c2, fun Z => Z.ok.cell h c7, fun Z => Z.ok.cell h c8⟩
section
variable {w : World}
set_option maxHeartbeats 16000000 in
theorem holds_3 (h : Hm) (h0 : 0 ≤ h.tp) (h1 : h.tp ≤ 9223372036854775807) {bin d ak an bk bn n off wd : Int} {sg : Bool} {args : List Ar} {xp : Option Addr} {xc : Nat} {rows : List Slt} (hr : RowV slC 2 w h.sp h.sc rows) (hn : h.sn = rows.length) (hl : rows.length ≤ 9223372036854775806) :
    Calls Tryz.prog 109 #[hmV h, .agg #[.int .i64 3, .int .i64 bin, .int .i64 d, .int .i64 ak, .int .u32 an, .int .i64 bk, .int .u32 bn, .int .i64 n, .int .i64 off, .int .i64 wd, .bool sg, .slice xp args.length xc]] w fun e w' => e = .returned (.bool (tempB h.tp d && (withinP n 0 ((rows.length : Int) - 1) && withinP off 0 (match rows[n.toNat]? with | some s => s.size | none => 0)))) ∧ Below w.heap.size w w' := by
  obtain ⟨hop, hon, hoc, hfp, hfn, hfc, hmn, hnm, hpr, htp, hgv, hsp, hsn, hsc, hcp, hcn, hcc⟩ := h
  unfold hmV
  simp only at h0 h1 hr hn ⊢
  obtain ⟨W1, hW1, hNH, hNX, hHB⟩ := duo_ex w (.cells #[.slice hop hon hoc, .slice hfp hfn hfc, .int .i64 hmn, .string hnm, .int .i64 hpr, .int .i64 htp, .bool hgv, .slice hsp hsn hsc, .slice hcp hcn hcc] THm) (.cells #[.int .i64 3, .int .i64 bin, .int .i64 d, .int .i64 ak, .int .u32 an, .int .i64 bk, .int .u32 bn, .int .i64 n, .int .i64 off, .int .i64 wd, .bool sg, .slice xp args.length xc] TIn)
  have NH : Hid (_ = _) := hNH
  have NX : Hid (_ = _) := hNX
  have HB : Hid (Below w.heap.size w _) := hHB
  obtain ⟨c0, c1, c2, c3, c4, c5, c6, c7, c8⟩ := cells9 NH.out
  obtain ⟨x0, x1, x2, x3, x4, x5, x6, x7, x8, x9, x10, x11⟩ := cells12 NX.out
  have CT : Hid (∀ w, Calls Tryz.prog 124 #[.agg #[.slice hop hon hoc, .slice hfp hfn hfc, .int .i64 hmn, .string hnm, .int .i64 hpr, .int .i64 htp, .bool hgv, .slice hsp hsn hsc, .slice hcp hcn hcc], .int .i64 d] w fun e w' => e = .returned (.bool (tempB htp d)) ∧ Below w.heap.size w w') := temp_c ⟨hop, hon, hoc, hfp, hfn, hfc, hmn, hnm, hpr, htp, hgv, hsp, hsn, hsc, hcp, hcn, hcc⟩ (show -1000 ≤ htp by omega) h1 d
  have CN : Hid (∀ w, Calls Tryz.prog 28 #[.int .i64 n, .int .i64 (hsn : Int)] w fun e w' => e = .returned (.bool (withinP n 0 ((rows.length : Int) - 1))) ∧ w' = w) := fun w => by rw [hn]; exact isNumber_c n (rows.length : Int) (by omega) (by omega) w
  have HROW : Hid (∀ Y, Below w.heap.size w Y → RowV slC 2 Y hsp hsc rows) := fun Y hY => hr.below hY
  have CW : Hid (∀ x w, Calls Tryz.prog 50 #[.int .i64 off, .int .i64 0, .int .i64 x] w fun e w' => e = .returned (.bool (withinP off 0 x)) ∧ w' = w) := fun x w => within_c off 0 x w
  have HCNT : Hid (hsn = rows.length) := hn
  obtain ⟨q0, hq0⟩ : ∃ q, q = tempB htp d := ⟨_, rfl⟩
  rw [← hq0] at CT ⊢
  clear hq0
  have nt := not_t
  have nf := not_f
  clear hNH hNX hHB h0 h1 hr hn
  cases hq1 : withinP n 0 ((rows.length : Int) - 1) with
  | false =>
    rw [hq1] at CN
    have e : (q0 && (false && withinP off 0 (match rows[n.toNat]? with | some s => s.size | none => 0))) = false := by cases q0 <;> rfl
    rw [e]
    clear e hq1 CW HROW
    cases q0 with
    | false =>
      go_enter Tryz.func109, Tryz.ntmps109
      go_upto_region 1 with (fail)
      refine wp_at hW1 ?_
      clear hW1
      go_upto_region 7 with (fail)
      have HSH : SH W1 W1 := Below.refl _ _
      obtain ⟨F0, F1, F2, F3, F4, F5, F6, F7, F8⟩ := sat9 NH.out
      obtain ⟨G2, G7, G8⟩ := sat278 NX.out
      have cTq : ∀ Z : SAT W1, Calls Tryz.prog 124 #[.agg #[.slice hop hon hoc, .slice hfp hfn hfc, .int .i64 hmn, .string hnm, .int .i64 hpr, .int .i64 htp, .bool hgv, .slice hsp hsn hsc, .slice hcp hcn hcc], .int .i64 d] Z.val fun e w' => e = .returned (.bool false) ∧ ∃ Z' : SAT W1, w' = Z'.val := fun Z => (CT.out Z.val).mono fun e w' ⟨he, hb⟩ => ⟨he, ⟨w', SH.below Z.ok hb⟩, rfl⟩
      have cNq : ∀ Z : SAT W1, Calls Tryz.prog 28 #[.int .i64 n, .int .i64 (hsn : Int)] Z.val fun e w' => e = .returned (.bool false) ∧ ∃ Z' : SAT W1, w' = Z'.val := fun Z => (CN.out Z.val).mono fun e w' ⟨he, hw⟩ => ⟨he, Z, hw⟩
      have HS0 : Hid (SH W1 W1.drew) := SH.drew HSH
      refine wp_region_sub (W := W1) (by kernel_rfl) (by kernel_rfl) HS0.out ?_
      repeat (go_big_quiet_step (first | exact cTq _ | exact cNq _))
      refine wpQuiet_nil ?_
      intro wq hq
      obtain ⟨⟨Zq, hZ⟩, hq2⟩ := hq
      have HB2 : Hid (Below w.heap.size w wq) := by rw [hq2]; exact HB.out.trans (hZ.mono HB.out.size)
      clear hq2
      go_wp2
      go_ret
      exact ⟨rfl, HB2.out⟩
    | true =>
      go_enter Tryz.func109, Tryz.ntmps109
      go_upto_region 1 with (fail)
      refine wp_at hW1 ?_
      clear hW1
      go_upto_region 7 with (fail)
      have HSH : SH W1 W1 := Below.refl _ _
      obtain ⟨F0, F1, F2, F3, F4, F5, F6, F7, F8⟩ := sat9 NH.out
      obtain ⟨G2, G7, G8⟩ := sat278 NX.out
      have cTq : ∀ Z : SAT W1, Calls Tryz.prog 124 #[.agg #[.slice hop hon hoc, .slice hfp hfn hfc, .int .i64 hmn, .string hnm, .int .i64 hpr, .int .i64 htp, .bool hgv, .slice hsp hsn hsc, .slice hcp hcn hcc], .int .i64 d] Z.val fun e w' => e = .returned (.bool true) ∧ ∃ Z' : SAT W1, w' = Z'.val := fun Z => (CT.out Z.val).mono fun e w' ⟨he, hb⟩ => ⟨he, ⟨w', SH.below Z.ok hb⟩, rfl⟩
      have cNq : ∀ Z : SAT W1, Calls Tryz.prog 28 #[.int .i64 n, .int .i64 (hsn : Int)] Z.val fun e w' => e = .returned (.bool false) ∧ ∃ Z' : SAT W1, w' = Z'.val := fun Z => (CN.out Z.val).mono fun e w' ⟨he, hw⟩ => ⟨he, Z, hw⟩
      have HS0 : Hid (SH W1 W1.drew) := SH.drew HSH
      refine wp_region_sub (W := W1) (by kernel_rfl) (by kernel_rfl) HS0.out ?_
      repeat (go_big_quiet_step (first | exact cTq _ | exact cNq _))
      refine wpQuiet_nil ?_
      intro wq hq
      obtain ⟨⟨Zq, hZ⟩, hq2⟩ := hq
      have HB2 : Hid (Below w.heap.size w wq) := by rw [hq2]; exact HB.out.trans (hZ.mono HB.out.size)
      clear hq2
      go_wp2
      go_ret
      exact ⟨rfl, HB2.out⟩
  | true =>
    rw [hq1] at CN
    have hin : 0 ≤ n ∧ n ≤ (rows.length : Int) - 1 := by unfold withinP at hq1; simpa using hq1
    obtain ⟨k, rfl⟩ : ∃ k : Nat, n = k := ⟨n.toNat, by omega⟩
    have hk : k < rows.length := by omega
    obtain ⟨s, hs⟩ : ∃ s, rows[k]? = some s := ⟨_, List.getElem?_eq_getElem hk⟩
    rw [Int.toNat_natCast, hs]
    simp only [Bool.true_and]
    have hk2 : k < hsn := by rw [HCNT.out]; exact hk
    have hcap := (HROW.out w (Below.refl _ _)).1
    obtain ⟨g, ro, hp, hg, hcell⟩ := (HROW.out W1 HB.out).2 k s hs
    subst hp
    have sz := (hcell 0 (by omega)).trans rfl
    have HSZ : Hid (∃ obj, W1.heap[g]? = some obj) := ⟨_, Array.getElem?_eq_getElem hg⟩
    have cW := CW.out s.size
    generalize withinP off 0 s.size = q2 at *
    clear hq1 hin CW HROW hcell hs
    cases q0 with
    | false =>
      rw [Bool.false_and]
      go_enter Tryz.func109, Tryz.ntmps109
      go_upto_region 1 with (fail)
      refine wp_at hW1 ?_
      clear hW1
      go_upto_region 7 with (fail)
      have HSH : SH W1 W1 := Below.refl _ _
      obtain ⟨F0, F1, F2, F3, F4, F5, F6, F7, F8⟩ := sat9 NH.out
      obtain ⟨G2, G7, G8⟩ := sat278 NX.out
      have cTq : ∀ Z : SAT W1, Calls Tryz.prog 124 #[.agg #[.slice hop hon hoc, .slice hfp hfn hfc, .int .i64 hmn, .string hnm, .int .i64 hpr, .int .i64 htp, .bool hgv, .slice (some ⟨g, ro, none⟩) hsn hsc, .slice hcp hcn hcc], .int .i64 d] Z.val fun e w' => e = .returned (.bool false) ∧ ∃ Z' : SAT W1, w' = Z'.val := fun Z => (CT.out Z.val).mono fun e w' ⟨he, hb⟩ => ⟨he, ⟨w', SH.below Z.ok hb⟩, rfl⟩
      have cNq : ∀ Z : SAT W1, Calls Tryz.prog 28 #[.int .i64 (k : Int), .int .i64 (hsn : Int)] Z.val fun e w' => e = .returned (.bool true) ∧ ∃ Z' : SAT W1, w' = Z'.val := fun Z => (CN.out Z.val).mono fun e w' ⟨he, hw⟩ => ⟨he, Z, hw⟩
      have HS0 : Hid (SH W1 W1.drew) := SH.drew HSH
      refine wp_region_sub (W := W1) (by kernel_rfl) (by kernel_rfl) HS0.out ?_
      repeat (go_big_quiet_step (first | exact cTq _ | exact cNq _))
      refine wpQuiet_nil ?_
      intro wq hq
      obtain ⟨⟨Zq, hZ⟩, hq2⟩ := hq
      have HB2 : Hid (Below w.heap.size w wq) := by rw [hq2]; exact HB.out.trans (hZ.mono HB.out.size)
      clear hq2
      go_wp2
      go_ret
      exact ⟨rfl, HB2.out⟩
    | true =>
      rw [Bool.true_and]
      go_enter Tryz.func109, Tryz.ntmps109
      go_upto_region 1 with (fail)
      refine wp_at hW1 ?_
      clear hW1
      go_upto_region 7 with (fail)
      have HSH : SH W1 W1 := Below.refl _ _
      obtain ⟨F0, F1, F2, F3, F4, F5, F6, F7, F8⟩ := sat9 NH.out
      obtain ⟨G2, G7, G8⟩ := sat278 NX.out
      have cTq : ∀ Z : SAT W1, Calls Tryz.prog 124 #[.agg #[.slice hop hon hoc, .slice hfp hfn hfc, .int .i64 hmn, .string hnm, .int .i64 hpr, .int .i64 htp, .bool hgv, .slice (some ⟨g, ro, none⟩) hsn hsc, .slice hcp hcn hcc], .int .i64 d] Z.val fun e w' => e = .returned (.bool true) ∧ ∃ Z' : SAT W1, w' = Z'.val := fun Z => (CT.out Z.val).mono fun e w' ⟨he, hb⟩ => ⟨he, ⟨w', SH.below Z.ok hb⟩, rfl⟩
      have cNq : ∀ Z : SAT W1, Calls Tryz.prog 28 #[.int .i64 (k : Int), .int .i64 (hsn : Int)] Z.val fun e w' => e = .returned (.bool true) ∧ ∃ Z' : SAT W1, w' = Z'.val := fun Z => (CN.out Z.val).mono fun e w' ⟨he, hw⟩ => ⟨he, Z, hw⟩
      have HS0 : Hid (SH W1 W1.drew) := SH.drew HSH
      obtain ⟨obj, hobj⟩ := HSZ.out
      have FS : ∀ Z : SAT W1, Z.val.cell? ⟨g, ro + k * 2, none⟩ = some (.int .i64 s.size) := fun Z => Z.ok.cell hobj sz
      have hcap2 : hsn ≤ hsc := by rw [HCNT.out]; exact hcap.1
      have cWq : ∀ Z : SAT W1, Calls Tryz.prog 50 #[.int .i64 off, .int .i64 0, .int .i64 s.size] Z.val fun e w' => e = .returned (.bool q2) ∧ ∃ Z' : SAT W1, w' = Z'.val := fun Z => (cW Z.val).mono fun e w' ⟨he, hw⟩ => ⟨he, Z, hw⟩
      refine wp_region_sub (W := W1) (by kernel_rfl) (by kernel_rfl) HS0.out ?_
      repeat (go_big_quiet_step (first | exact cTq _ | exact cNq _ | exact cWq _))
      refine wpQuiet_nil ?_
      intro wq hq
      obtain ⟨⟨Zq, hZ⟩, hq2⟩ := hq
      have HB2 : Hid (Below w.heap.size w wq) := by rw [hq2]; exact HB.out.trans (hZ.mono HB.out.size)
      clear hq2
      go_wp2
      go_ret
      exact ⟨rfl, HB2.out⟩
set_option maxHeartbeats 16000000 in
theorem holds_4 (h : Hm) (h0 : 0 ≤ h.tp) (h1 : h.tp ≤ 9223372036854775807) {bin d ak an bk bn n off wd : Int} {sg : Bool} {args : List Ar} {xp : Option Addr} {xc : Nat} {rows : List Ob} (hr : RowV obC 5 w h.op h.oc rows) (hn : h.on = rows.length) (hl : rows.length ≤ 9223372036854775806) :
    Calls Tryz.prog 109 #[hmV h, .agg #[.int .i64 4, .int .i64 bin, .int .i64 d, .int .i64 ak, .int .u32 an, .int .i64 bk, .int .u32 bn, .int .i64 n, .int .i64 off, .int .i64 wd, .bool sg, .slice xp args.length xc]] w fun e w' => e = .returned (.bool (tempB h.tp d && (withinP n 0 ((rows.length : Int) - 1) && withinP off 0 (match rows[n.toNat]? with | some s => s.size | none => 0)))) ∧ Below w.heap.size w w' := by
  obtain ⟨hop, hon, hoc, hfp, hfn, hfc, hmn, hnm, hpr, htp, hgv, hsp, hsn, hsc, hcp, hcn, hcc⟩ := h
  unfold hmV
  simp only at h0 h1 hr hn ⊢
  obtain ⟨W1, hW1, hNH, hNX, hHB⟩ := duo_ex w (.cells #[.slice hop hon hoc, .slice hfp hfn hfc, .int .i64 hmn, .string hnm, .int .i64 hpr, .int .i64 htp, .bool hgv, .slice hsp hsn hsc, .slice hcp hcn hcc] THm) (.cells #[.int .i64 4, .int .i64 bin, .int .i64 d, .int .i64 ak, .int .u32 an, .int .i64 bk, .int .u32 bn, .int .i64 n, .int .i64 off, .int .i64 wd, .bool sg, .slice xp args.length xc] TIn)
  have NH : Hid (_ = _) := hNH
  have NX : Hid (_ = _) := hNX
  have HB : Hid (Below w.heap.size w _) := hHB
  obtain ⟨c0, c1, c2, c3, c4, c5, c6, c7, c8⟩ := cells9 NH.out
  obtain ⟨x0, x1, x2, x3, x4, x5, x6, x7, x8, x9, x10, x11⟩ := cells12 NX.out
  have CT : Hid (∀ w, Calls Tryz.prog 124 #[.agg #[.slice hop hon hoc, .slice hfp hfn hfc, .int .i64 hmn, .string hnm, .int .i64 hpr, .int .i64 htp, .bool hgv, .slice hsp hsn hsc, .slice hcp hcn hcc], .int .i64 d] w fun e w' => e = .returned (.bool (tempB htp d)) ∧ Below w.heap.size w w') := temp_c ⟨hop, hon, hoc, hfp, hfn, hfc, hmn, hnm, hpr, htp, hgv, hsp, hsn, hsc, hcp, hcn, hcc⟩ (show -1000 ≤ htp by omega) h1 d
  have CN : Hid (∀ w, Calls Tryz.prog 28 #[.int .i64 n, .int .i64 (hon : Int)] w fun e w' => e = .returned (.bool (withinP n 0 ((rows.length : Int) - 1))) ∧ w' = w) := fun w => by rw [hn]; exact isNumber_c n (rows.length : Int) (by omega) (by omega) w
  have HROW : Hid (∀ Y, Below w.heap.size w Y → RowV obC 5 Y hop hoc rows) := fun Y hY => hr.below hY
  have CW : Hid (∀ x w, Calls Tryz.prog 50 #[.int .i64 off, .int .i64 0, .int .i64 x] w fun e w' => e = .returned (.bool (withinP off 0 x)) ∧ w' = w) := fun x w => within_c off 0 x w
  have HCNT : Hid (hon = rows.length) := hn
  obtain ⟨q0, hq0⟩ : ∃ q, q = tempB htp d := ⟨_, rfl⟩
  rw [← hq0] at CT ⊢
  clear hq0
  have nt := not_t
  have nf := not_f
  clear hNH hNX hHB h0 h1 hr hn
  cases hq1 : withinP n 0 ((rows.length : Int) - 1) with
  | false =>
    rw [hq1] at CN
    have e : (q0 && (false && withinP off 0 (match rows[n.toNat]? with | some s => s.size | none => 0))) = false := by cases q0 <;> rfl
    rw [e]
    clear e hq1 CW HROW
    cases q0 with
    | false =>
      go_enter Tryz.func109, Tryz.ntmps109
      go_upto_region 1 with (fail)
      refine wp_at hW1 ?_
      clear hW1
      go_upto_region 9 with (fail)
      have HSH : SH W1 W1 := Below.refl _ _
      obtain ⟨F0, F1, F2, F3, F4, F5, F6, F7, F8⟩ := sat9 NH.out
      obtain ⟨G2, G7, G8⟩ := sat278 NX.out
      have cTq : ∀ Z : SAT W1, Calls Tryz.prog 124 #[.agg #[.slice hop hon hoc, .slice hfp hfn hfc, .int .i64 hmn, .string hnm, .int .i64 hpr, .int .i64 htp, .bool hgv, .slice hsp hsn hsc, .slice hcp hcn hcc], .int .i64 d] Z.val fun e w' => e = .returned (.bool false) ∧ ∃ Z' : SAT W1, w' = Z'.val := fun Z => (CT.out Z.val).mono fun e w' ⟨he, hb⟩ => ⟨he, ⟨w', SH.below Z.ok hb⟩, rfl⟩
      have cNq : ∀ Z : SAT W1, Calls Tryz.prog 28 #[.int .i64 n, .int .i64 (hon : Int)] Z.val fun e w' => e = .returned (.bool false) ∧ ∃ Z' : SAT W1, w' = Z'.val := fun Z => (CN.out Z.val).mono fun e w' ⟨he, hw⟩ => ⟨he, Z, hw⟩
      have HS0 : Hid (SH W1 W1.drew) := SH.drew HSH
      refine wp_region_sub (W := W1) (by kernel_rfl) (by kernel_rfl) HS0.out ?_
      repeat (go_big_quiet_step (first | exact cTq _ | exact cNq _))
      refine wpQuiet_nil ?_
      intro wq hq
      obtain ⟨⟨Zq, hZ⟩, hq2⟩ := hq
      have HB2 : Hid (Below w.heap.size w wq) := by rw [hq2]; exact HB.out.trans (hZ.mono HB.out.size)
      clear hq2
      go_wp2
      go_ret
      exact ⟨rfl, HB2.out⟩
    | true =>
      go_enter Tryz.func109, Tryz.ntmps109
      go_upto_region 1 with (fail)
      refine wp_at hW1 ?_
      clear hW1
      go_upto_region 9 with (fail)
      have HSH : SH W1 W1 := Below.refl _ _
      obtain ⟨F0, F1, F2, F3, F4, F5, F6, F7, F8⟩ := sat9 NH.out
      obtain ⟨G2, G7, G8⟩ := sat278 NX.out
      have cTq : ∀ Z : SAT W1, Calls Tryz.prog 124 #[.agg #[.slice hop hon hoc, .slice hfp hfn hfc, .int .i64 hmn, .string hnm, .int .i64 hpr, .int .i64 htp, .bool hgv, .slice hsp hsn hsc, .slice hcp hcn hcc], .int .i64 d] Z.val fun e w' => e = .returned (.bool true) ∧ ∃ Z' : SAT W1, w' = Z'.val := fun Z => (CT.out Z.val).mono fun e w' ⟨he, hb⟩ => ⟨he, ⟨w', SH.below Z.ok hb⟩, rfl⟩
      have cNq : ∀ Z : SAT W1, Calls Tryz.prog 28 #[.int .i64 n, .int .i64 (hon : Int)] Z.val fun e w' => e = .returned (.bool false) ∧ ∃ Z' : SAT W1, w' = Z'.val := fun Z => (CN.out Z.val).mono fun e w' ⟨he, hw⟩ => ⟨he, Z, hw⟩
      have HS0 : Hid (SH W1 W1.drew) := SH.drew HSH
      refine wp_region_sub (W := W1) (by kernel_rfl) (by kernel_rfl) HS0.out ?_
      repeat (go_big_quiet_step (first | exact cTq _ | exact cNq _))
      refine wpQuiet_nil ?_
      intro wq hq
      obtain ⟨⟨Zq, hZ⟩, hq2⟩ := hq
      have HB2 : Hid (Below w.heap.size w wq) := by rw [hq2]; exact HB.out.trans (hZ.mono HB.out.size)
      clear hq2
      go_wp2
      go_ret
      exact ⟨rfl, HB2.out⟩
  | true =>
    rw [hq1] at CN
    have hin : 0 ≤ n ∧ n ≤ (rows.length : Int) - 1 := by unfold withinP at hq1; simpa using hq1
    obtain ⟨k, rfl⟩ : ∃ k : Nat, n = k := ⟨n.toNat, by omega⟩
    have hk : k < rows.length := by omega
    obtain ⟨s, hs⟩ : ∃ s, rows[k]? = some s := ⟨_, List.getElem?_eq_getElem hk⟩
    rw [Int.toNat_natCast, hs]
    simp only [Bool.true_and]
    have hk2 : k < hon := by rw [HCNT.out]; exact hk
    have hcap := (HROW.out w (Below.refl _ _)).1
    obtain ⟨g, ro, hp, hg, hcell⟩ := (HROW.out W1 HB.out).2 k s hs
    subst hp
    have sz := (hcell 1 (by omega)).trans rfl
    have HSZ : Hid (∃ obj, W1.heap[g]? = some obj) := ⟨_, Array.getElem?_eq_getElem hg⟩
    have cW := CW.out s.size
    generalize withinP off 0 s.size = q2 at *
    clear hq1 hin CW HROW hcell hs
    cases q0 with
    | false =>
      rw [Bool.false_and]
      go_enter Tryz.func109, Tryz.ntmps109
      go_upto_region 1 with (fail)
      refine wp_at hW1 ?_
      clear hW1
      go_upto_region 9 with (fail)
      have HSH : SH W1 W1 := Below.refl _ _
      obtain ⟨F0, F1, F2, F3, F4, F5, F6, F7, F8⟩ := sat9 NH.out
      obtain ⟨G2, G7, G8⟩ := sat278 NX.out
      have cTq : ∀ Z : SAT W1, Calls Tryz.prog 124 #[.agg #[.slice (some ⟨g, ro, none⟩) hon hoc, .slice hfp hfn hfc, .int .i64 hmn, .string hnm, .int .i64 hpr, .int .i64 htp, .bool hgv, .slice hsp hsn hsc, .slice hcp hcn hcc], .int .i64 d] Z.val fun e w' => e = .returned (.bool false) ∧ ∃ Z' : SAT W1, w' = Z'.val := fun Z => (CT.out Z.val).mono fun e w' ⟨he, hb⟩ => ⟨he, ⟨w', SH.below Z.ok hb⟩, rfl⟩
      have cNq : ∀ Z : SAT W1, Calls Tryz.prog 28 #[.int .i64 (k : Int), .int .i64 (hon : Int)] Z.val fun e w' => e = .returned (.bool true) ∧ ∃ Z' : SAT W1, w' = Z'.val := fun Z => (CN.out Z.val).mono fun e w' ⟨he, hw⟩ => ⟨he, Z, hw⟩
      have HS0 : Hid (SH W1 W1.drew) := SH.drew HSH
      refine wp_region_sub (W := W1) (by kernel_rfl) (by kernel_rfl) HS0.out ?_
      repeat (go_big_quiet_step (first | exact cTq _ | exact cNq _))
      refine wpQuiet_nil ?_
      intro wq hq
      obtain ⟨⟨Zq, hZ⟩, hq2⟩ := hq
      have HB2 : Hid (Below w.heap.size w wq) := by rw [hq2]; exact HB.out.trans (hZ.mono HB.out.size)
      clear hq2
      go_wp2
      go_ret
      exact ⟨rfl, HB2.out⟩
    | true =>
      rw [Bool.true_and]
      go_enter Tryz.func109, Tryz.ntmps109
      go_upto_region 1 with (fail)
      refine wp_at hW1 ?_
      clear hW1
      go_upto_region 9 with (fail)
      have HSH : SH W1 W1 := Below.refl _ _
      obtain ⟨F0, F1, F2, F3, F4, F5, F6, F7, F8⟩ := sat9 NH.out
      obtain ⟨G2, G7, G8⟩ := sat278 NX.out
      have cTq : ∀ Z : SAT W1, Calls Tryz.prog 124 #[.agg #[.slice (some ⟨g, ro, none⟩) hon hoc, .slice hfp hfn hfc, .int .i64 hmn, .string hnm, .int .i64 hpr, .int .i64 htp, .bool hgv, .slice hsp hsn hsc, .slice hcp hcn hcc], .int .i64 d] Z.val fun e w' => e = .returned (.bool true) ∧ ∃ Z' : SAT W1, w' = Z'.val := fun Z => (CT.out Z.val).mono fun e w' ⟨he, hb⟩ => ⟨he, ⟨w', SH.below Z.ok hb⟩, rfl⟩
      have cNq : ∀ Z : SAT W1, Calls Tryz.prog 28 #[.int .i64 (k : Int), .int .i64 (hon : Int)] Z.val fun e w' => e = .returned (.bool true) ∧ ∃ Z' : SAT W1, w' = Z'.val := fun Z => (CN.out Z.val).mono fun e w' ⟨he, hw⟩ => ⟨he, Z, hw⟩
      have HS0 : Hid (SH W1 W1.drew) := SH.drew HSH
      obtain ⟨obj, hobj⟩ := HSZ.out
      have FS : ∀ Z : SAT W1, Z.val.cell? ⟨g, ro + k * 5 + 1, none⟩ = some (.int .i64 s.size) := fun Z => Z.ok.cell hobj sz
      have hcap2 : hon ≤ hoc := by rw [HCNT.out]; exact hcap.1
      have cWq : ∀ Z : SAT W1, Calls Tryz.prog 50 #[.int .i64 off, .int .i64 0, .int .i64 s.size] Z.val fun e w' => e = .returned (.bool q2) ∧ ∃ Z' : SAT W1, w' = Z'.val := fun Z => (cW Z.val).mono fun e w' ⟨he, hw⟩ => ⟨he, Z, hw⟩
      refine wp_region_sub (W := W1) (by kernel_rfl) (by kernel_rfl) HS0.out ?_
      repeat (go_big_quiet_step (first | exact cTq _ | exact cNq _ | exact cWq _))
      refine wpQuiet_nil ?_
      intro wq hq
      obtain ⟨⟨Zq, hZ⟩, hq2⟩ := hq
      have HB2 : Hid (Below w.heap.size w wq) := by rw [hq2]; exact HB.out.trans (hZ.mono HB.out.size)
      clear hq2
      go_wp2
      go_ret
      exact ⟨rfl, HB2.out⟩
end
end Go.Proofs.YtaaphipbkpjkjaaGreatDoor
namespace Go.Proofs.YtaaphipbkpjkjaaGreatDoor
open Go.RowKit Go.Maps
set_option linter.unusedVariables false
set_option maxRecDepth 100000
section
variable {w : World}
set_option maxHeartbeats 16000000 in
theorem holds_8 (h : Hm) (h0 : 0 ≤ h.tp) (h1 : h.tp ≤ 9223372036854775807) {bin d ak an bk bn n off wd : Int} {sg : Bool} {args : List Ar} {xp : Option Addr} {xc : Nat} {rows : List Fn} (hr : RowV fnC 6 w h.fp h.fc rows) (hn : h.fn = rows.length) (hl : rows.length ≤ 9223372036854775806)
    (hA : ArgV w (.slice xp args.length xc) args) (hok : ∀ a ∈ args, ArOK a) (hal : args.length ≤ 9223372036854775806) :
    Calls Tryz.prog 109 #[hmV h, .agg #[.int .i64 8, .int .i64 bin, .int .i64 d, .int .i64 ak, .int .u32 an, .int .i64 bk, .int .u32 bn, .int .i64 n, .int .i64 off, .int .i64 wd, .bool sg, .slice xp args.length xc]] w fun e w' => e = .returned (.bool (withinP n 0 ((rows.length : Int) - 1) && (match rows[n.toNat]? with | some f => callB h.tp f.pr f.gv ⟨8, bin, d, ⟨ak, an⟩, ⟨bk, bn⟩, n, off, wd, sg, args⟩ | none => false))) ∧ Below w.heap.size w w' := by
  obtain ⟨hop, hon, hoc, hfp, hfn, hfc, hmn, hnm, hpr, htp, hgv, hsp, hsn, hsc, hcp, hcn, hcc⟩ := h
  unfold hmV
  simp only at h0 h1 hr hn ⊢
  have b1 := below1 w (.cells #[.slice hop hon hoc, .slice hfp hfn hfc, .int .i64 hmn, .string hnm, .int .i64 hpr, .int .i64 htp, .bool hgv, .slice hsp hsn hsc, .slice hcp hcn hcc] THm)
  have b2 := below1 (w.alloc (.cells #[.slice hop hon hoc, .slice hfp hfn hfc, .int .i64 hmn, .string hnm, .int .i64 hpr, .int .i64 htp, .bool hgv, .slice hsp hsn hsc, .slice hcp hcn hcc] THm)) (.cells #[.int .i64 8, .int .i64 bin, .int .i64 d, .int .i64 ak, .int .u32 an, .int .i64 bk, .int .u32 bn, .int .i64 n, .int .i64 off, .int .i64 wd, .bool sg, .slice xp args.length xc] TIn)
  have hzA : (w.alloc (.cells #[.slice hop hon hoc, .slice hfp hfn hfc, .int .i64 hmn, .string hnm, .int .i64 hpr, .int .i64 htp, .bool hgv, .slice hsp hsn hsc, .slice hcp hcn hcc] THm)).heap.size = w.heap.size + 1 := by simp
  have NH : Hid (((w.alloc (.cells #[.slice hop hon hoc, .slice hfp hfn hfc, .int .i64 hmn, .string hnm, .int .i64 hpr, .int .i64 htp, .bool hgv, .slice hsp hsn hsc, .slice hcp hcn hcc] THm)).alloc (.cells #[.int .i64 8, .int .i64 bin, .int .i64 d, .int .i64 ak, .int .u32 an, .int .i64 bk, .int .u32 bn, .int .i64 n, .int .i64 off, .int .i64 wd, .bool sg, .slice xp args.length xc] TIn)).heap[w.heap.size]? = some (.cells #[.slice hop hon hoc, .slice hfp hfn hfc, .int .i64 hmn, .string hnm, .int .i64 hpr, .int .i64 htp, .bool hgv, .slice hsp hsn hsc, .slice hcp hcn hcc] THm (0, 0))) := blk_b (heap_r0 w _) b2
  have NX : Hid (((w.alloc (.cells #[.slice hop hon hoc, .slice hfp hfn hfc, .int .i64 hmn, .string hnm, .int .i64 hpr, .int .i64 htp, .bool hgv, .slice hsp hsn hsc, .slice hcp hcn hcc] THm)).alloc (.cells #[.int .i64 8, .int .i64 bin, .int .i64 d, .int .i64 ak, .int .u32 an, .int .i64 bk, .int .u32 bn, .int .i64 n, .int .i64 off, .int .i64 wd, .bool sg, .slice xp args.length xc] TIn)).heap[w.heap.size + 1]? = some (.cells #[.int .i64 8, .int .i64 bin, .int .i64 d, .int .i64 ak, .int .u32 an, .int .i64 bk, .int .u32 bn, .int .i64 n, .int .i64 off, .int .i64 wd, .bool sg, .slice xp args.length xc] TIn (0, 0))) := by have := heap_r0 (w.alloc (.cells #[.slice hop hon hoc, .slice hfp hfn hfc, .int .i64 hmn, .string hnm, .int .i64 hpr, .int .i64 htp, .bool hgv, .slice hsp hsn hsc, .slice hcp hcn hcc] THm)) (.cells #[.int .i64 8, .int .i64 bin, .int .i64 d, .int .i64 ak, .int .u32 an, .int .i64 bk, .int .u32 bn, .int .i64 n, .int .i64 off, .int .i64 wd, .bool sg, .slice xp args.length xc] TIn); rw [hzA] at this; exact this
  have HB : Hid (Below w.heap.size w ((w.alloc (.cells #[.slice hop hon hoc, .slice hfp hfn hfc, .int .i64 hmn, .string hnm, .int .i64 hpr, .int .i64 htp, .bool hgv, .slice hsp hsn hsc, .slice hcp hcn hcc] THm)).alloc (.cells #[.int .i64 8, .int .i64 bin, .int .i64 d, .int .i64 ak, .int .u32 an, .int .i64 bk, .int .u32 bn, .int .i64 n, .int .i64 off, .int .i64 wd, .bool sg, .slice xp args.length xc] TIn))) := b1.trans (b2.mono b1.size)
  obtain ⟨c0, c1, c2, c3, c4, c5, c6, c7, c8⟩ := cells9 NH.out
  obtain ⟨x0, x1, x2, x3, x4, x5, x6, x7, x8, x9, x10, x11⟩ := cells12 NX.out
  have CN : Hid (∀ w, Calls Tryz.prog 28 #[.int .i64 n, .int .i64 (hfn : Int)] w fun e w' => e = .returned (.bool (withinP n 0 ((rows.length : Int) - 1))) ∧ w' = w) := fun w => by rw [hn]; exact isNumber_c n (rows.length : Int) (by omega) (by omega) w
  have HROW : Hid (∀ Y, Below w.heap.size w Y → RowV fnC 6 Y hfp hfc rows) := fun Y hY => hr.below hY
  have CC : Hid (∀ (f : Fn) Y, Below w.heap.size w Y → Calls Tryz.prog 127 #[.agg #[.slice hop hon hoc, .slice hfp hfn hfc, .int .i64 hmn, .string hnm, .int .i64 hpr, .int .i64 htp, .bool hgv, .slice hsp hsn hsc, .slice hcp hcn hcc], .agg #[.int .i64 8, .int .i64 bin, .int .i64 d, .int .i64 ak, .int .u32 an, .int .i64 bk, .int .u32 bn, .int .i64 n, .int .i64 off, .int .i64 wd, .bool sg, .slice xp args.length xc], .agg #[.string f.nm, .int .i64 f.pr, .int .i64 f.tp, .bool f.gv, .slice f.sp f.sn f.sc, .slice f.cp f.cn f.cc]] Y fun e w' => e = .returned (.bool (callB htp f.pr f.gv ⟨8, bin, d, ⟨ak, an⟩, ⟨bk, bn⟩, n, off, wd, sg, args⟩)) ∧ Below Y.heap.size Y w') := fun f Y hY => calls_c ⟨hop, hon, hoc, hfp, hfn, hfc, hmn, hnm, hpr, htp, hgv, hsp, hsn, hsc, hcp, hcn, hcc⟩ h0 h1 ⟨8, bin, d, ⟨ak, an⟩, ⟨bk, bn⟩, n, off, wd, sg, args⟩ xp xc (hA.below hY) hok hal f
  have HCNT : Hid (hfn = rows.length) := hn
  have nt := not_t
  have nf := not_f
  clear b1 b2 hzA h0 h1 hr hn hA hok hal
  cases hq1 : withinP n 0 ((rows.length : Int) - 1) with
  | false =>
    rw [hq1] at CN
    rw [Bool.false_and]
    clear hq1 CC HROW
    go_enter Tryz.func109, Tryz.ntmps109
    go_upto_region 1 with (fail)
    refine (?_ : Code.wp _ _ _ _ ((w.alloc (.cells #[.slice hop hon hoc, .slice hfp hfn hfc, .int .i64 hmn, .string hnm, .int .i64 hpr, .int .i64 htp, .bool hgv, .slice hsp hsn hsc, .slice hcp hcn hcc] THm)).alloc (.cells #[.int .i64 8, .int .i64 bin, .int .i64 d, .int .i64 ak, .int .u32 an, .int .i64 bk, .int .u32 bn, .int .i64 n, .int .i64 off, .int .i64 wd, .bool sg, .slice xp args.length xc] TIn)))
    generalize ((w.alloc (.cells #[.slice hop hon hoc, .slice hfp hfn hfc, .int .i64 hmn, .string hnm, .int .i64 hpr, .int .i64 htp, .bool hgv, .slice hsp hsn hsc, .slice hcp hcn hcc] THm)).alloc (.cells #[.int .i64 8, .int .i64 bin, .int .i64 d, .int .i64 ak, .int .u32 an, .int .i64 bk, .int .u32 bn, .int .i64 n, .int .i64 off, .int .i64 wd, .bool sg, .slice xp args.length xc] TIn)) = W1 at *
    go_upto_region 17 with (fail)
    have HSH : SH W1 W1 := Below.refl _ _
    have F0 : ∀ Z : SAT W1, Z.val.cell? ⟨w.heap.size, 0, none⟩ = some _ := fun Z => Z.ok.cell NH.out c0
    have F1 : ∀ Z : SAT W1, Z.val.cell? ⟨w.heap.size, 1, none⟩ = some _ := fun Z => Z.ok.cell NH.out c1
    have F2 : ∀ Z : SAT W1, Z.val.cell? ⟨w.heap.size, 2, none⟩ = some _ := fun Z => Z.ok.cell NH.out c2
    have F3 : ∀ Z : SAT W1, Z.val.cell? ⟨w.heap.size, 3, none⟩ = some _ := fun Z => Z.ok.cell NH.out c3
    have F4 : ∀ Z : SAT W1, Z.val.cell? ⟨w.heap.size, 4, none⟩ = some _ := fun Z => Z.ok.cell NH.out c4
    have F5 : ∀ Z : SAT W1, Z.val.cell? ⟨w.heap.size, 5, none⟩ = some _ := fun Z => Z.ok.cell NH.out c5
    have F6 : ∀ Z : SAT W1, Z.val.cell? ⟨w.heap.size, 6, none⟩ = some _ := fun Z => Z.ok.cell NH.out c6
    have F7 : ∀ Z : SAT W1, Z.val.cell? ⟨w.heap.size, 7, none⟩ = some _ := fun Z => Z.ok.cell NH.out c7
    have F8 : ∀ Z : SAT W1, Z.val.cell? ⟨w.heap.size, 8, none⟩ = some _ := fun Z => Z.ok.cell NH.out c8
    have G0 : ∀ Z : SAT W1, Z.val.cell? ⟨w.heap.size + 1, 0, none⟩ = some _ := fun Z => Z.ok.cell NX.out x0
    have G1 : ∀ Z : SAT W1, Z.val.cell? ⟨w.heap.size + 1, 1, none⟩ = some _ := fun Z => Z.ok.cell NX.out x1
    have G2 : ∀ Z : SAT W1, Z.val.cell? ⟨w.heap.size + 1, 2, none⟩ = some _ := fun Z => Z.ok.cell NX.out x2
    have G3 : ∀ Z : SAT W1, Z.val.cell? ⟨w.heap.size + 1, 3, none⟩ = some _ := fun Z => Z.ok.cell NX.out x3
    have G4 : ∀ Z : SAT W1, Z.val.cell? ⟨w.heap.size + 1, 4, none⟩ = some _ := fun Z => Z.ok.cell NX.out x4
    have G5 : ∀ Z : SAT W1, Z.val.cell? ⟨w.heap.size + 1, 5, none⟩ = some _ := fun Z => Z.ok.cell NX.out x5
    have G6 : ∀ Z : SAT W1, Z.val.cell? ⟨w.heap.size + 1, 6, none⟩ = some _ := fun Z => Z.ok.cell NX.out x6
    have G7 : ∀ Z : SAT W1, Z.val.cell? ⟨w.heap.size + 1, 7, none⟩ = some _ := fun Z => Z.ok.cell NX.out x7
    have G8 : ∀ Z : SAT W1, Z.val.cell? ⟨w.heap.size + 1, 8, none⟩ = some _ := fun Z => Z.ok.cell NX.out x8
    have G9 : ∀ Z : SAT W1, Z.val.cell? ⟨w.heap.size + 1, 9, none⟩ = some _ := fun Z => Z.ok.cell NX.out x9
    have G10 : ∀ Z : SAT W1, Z.val.cell? ⟨w.heap.size + 1, 10, none⟩ = some _ := fun Z => Z.ok.cell NX.out x10
    have G11 : ∀ Z : SAT W1, Z.val.cell? ⟨w.heap.size + 1, 11, none⟩ = some _ := fun Z => Z.ok.cell NX.out x11
    have cNq : ∀ Z : SAT W1, Calls Tryz.prog 28 #[.int .i64 n, .int .i64 (hfn : Int)] Z.val fun e w' => e = .returned (.bool false) ∧ ∃ Z' : SAT W1, w' = Z'.val := fun Z => (CN.out Z.val).mono fun e w' ⟨he, hw⟩ => ⟨he, Z, hw⟩
    have HS0 : Hid (SH W1 W1.drew) := SH.drew HSH
    refine wp_region_sub (W := W1) (by kernel_rfl) (by kernel_rfl) HS0.out ?_
    repeat (go_big_quiet_step (first | exact cNq _))
    refine wpQuiet_nil ?_
    intro wq hq
    obtain ⟨⟨Zq, hZ⟩, hq2⟩ := hq
    have HB2 : Hid (Below w.heap.size w wq) := by rw [hq2]; exact HB.out.trans (hZ.mono HB.out.size)
    clear hq2
    go_wp2
    go_ret
    exact ⟨rfl, HB2.out⟩
  | true =>
    rw [hq1] at CN
    have hin : 0 ≤ n ∧ n ≤ (rows.length : Int) - 1 := by unfold withinP at hq1; simpa using hq1
    obtain ⟨k, rfl⟩ : ∃ k : Nat, n = k := ⟨n.toNat, by omega⟩
    have hk : k < rows.length := by omega
    obtain ⟨f, hs⟩ : ∃ s, rows[k]? = some s := ⟨_, List.getElem?_eq_getElem hk⟩
    rw [Int.toNat_natCast, hs]
    simp only [Bool.true_and]
    have hk2 : k < hfn := by rw [HCNT.out]; exact hk
    have hcap := (HROW.out w (Below.refl _ _)).1
    obtain ⟨g, ro, hp, hg, hcell⟩ := (HROW.out ((w.alloc (.cells #[.slice hop hon hoc, .slice hfp hfn hfc, .int .i64 hmn, .string hnm, .int .i64 hpr, .int .i64 htp, .bool hgv, .slice hsp hsn hsc, .slice hcp hcn hcc] THm)).alloc (.cells #[.int .i64 8, .int .i64 bin, .int .i64 d, .int .i64 ak, .int .u32 an, .int .i64 bk, .int .u32 bn, .int .i64 (k : Int), .int .i64 off, .int .i64 wd, .bool sg, .slice xp args.length xc] TIn)) HB.out).2 k f hs
    subst hp
    have cC := CC.out f
    have HSZ : Hid (∃ obj, ((w.alloc (.cells #[.slice hop hon hoc, .slice (some ⟨g, ro, none⟩) hfn hfc, .int .i64 hmn, .string hnm, .int .i64 hpr, .int .i64 htp, .bool hgv, .slice hsp hsn hsc, .slice hcp hcn hcc] THm)).alloc (.cells #[.int .i64 8, .int .i64 bin, .int .i64 d, .int .i64 ak, .int .u32 an, .int .i64 bk, .int .u32 bn, .int .i64 (k : Int), .int .i64 off, .int .i64 wd, .bool sg, .slice xp args.length xc] TIn)).heap[g]? = some obj) := ⟨_, Array.getElem?_eq_getElem hg⟩
    have e0 := (hcell 0 (by omega)).trans rfl
    have e1 := (hcell 1 (by omega)).trans rfl
    have e2 := (hcell 2 (by omega)).trans rfl
    have e3 := (hcell 3 (by omega)).trans rfl
    have e4 := (hcell 4 (by omega)).trans rfl
    have e5 := (hcell 5 (by omega)).trans rfl
    generalize callB htp f.pr f.gv ⟨8, bin, d, ⟨ak, an⟩, ⟨bk, bn⟩, (k : Int), off, wd, sg, args⟩ = q2 at *
    clear hq1 hin CC HROW hcell hs
    go_enter Tryz.func109, Tryz.ntmps109
    go_upto_region 1 with (fail)
    refine (?_ : Code.wp _ _ _ _ ((w.alloc (.cells #[.slice hop hon hoc, .slice (some ⟨g, ro, none⟩) hfn hfc, .int .i64 hmn, .string hnm, .int .i64 hpr, .int .i64 htp, .bool hgv, .slice hsp hsn hsc, .slice hcp hcn hcc] THm)).alloc (.cells #[.int .i64 8, .int .i64 bin, .int .i64 d, .int .i64 ak, .int .u32 an, .int .i64 bk, .int .u32 bn, .int .i64 (k : Int), .int .i64 off, .int .i64 wd, .bool sg, .slice xp args.length xc] TIn)))
    generalize ((w.alloc (.cells #[.slice hop hon hoc, .slice (some ⟨g, ro, none⟩) hfn hfc, .int .i64 hmn, .string hnm, .int .i64 hpr, .int .i64 htp, .bool hgv, .slice hsp hsn hsc, .slice hcp hcn hcc] THm)).alloc (.cells #[.int .i64 8, .int .i64 bin, .int .i64 d, .int .i64 ak, .int .u32 an, .int .i64 bk, .int .u32 bn, .int .i64 (k : Int), .int .i64 off, .int .i64 wd, .bool sg, .slice xp args.length xc] TIn)) = W1 at *
    go_upto_region 17 with (fail)
    have HSH : SH W1 W1 := Below.refl _ _
    have F0 : ∀ Z : SAT W1, Z.val.cell? ⟨w.heap.size, 0, none⟩ = some _ := fun Z => Z.ok.cell NH.out c0
    have F1 : ∀ Z : SAT W1, Z.val.cell? ⟨w.heap.size, 1, none⟩ = some _ := fun Z => Z.ok.cell NH.out c1
    have F2 : ∀ Z : SAT W1, Z.val.cell? ⟨w.heap.size, 2, none⟩ = some _ := fun Z => Z.ok.cell NH.out c2
    have F3 : ∀ Z : SAT W1, Z.val.cell? ⟨w.heap.size, 3, none⟩ = some _ := fun Z => Z.ok.cell NH.out c3
    have F4 : ∀ Z : SAT W1, Z.val.cell? ⟨w.heap.size, 4, none⟩ = some _ := fun Z => Z.ok.cell NH.out c4
    have F5 : ∀ Z : SAT W1, Z.val.cell? ⟨w.heap.size, 5, none⟩ = some _ := fun Z => Z.ok.cell NH.out c5
    have F6 : ∀ Z : SAT W1, Z.val.cell? ⟨w.heap.size, 6, none⟩ = some _ := fun Z => Z.ok.cell NH.out c6
    have F7 : ∀ Z : SAT W1, Z.val.cell? ⟨w.heap.size, 7, none⟩ = some _ := fun Z => Z.ok.cell NH.out c7
    have F8 : ∀ Z : SAT W1, Z.val.cell? ⟨w.heap.size, 8, none⟩ = some _ := fun Z => Z.ok.cell NH.out c8
    have G0 : ∀ Z : SAT W1, Z.val.cell? ⟨w.heap.size + 1, 0, none⟩ = some _ := fun Z => Z.ok.cell NX.out x0
    have G1 : ∀ Z : SAT W1, Z.val.cell? ⟨w.heap.size + 1, 1, none⟩ = some _ := fun Z => Z.ok.cell NX.out x1
    have G2 : ∀ Z : SAT W1, Z.val.cell? ⟨w.heap.size + 1, 2, none⟩ = some _ := fun Z => Z.ok.cell NX.out x2
    have G3 : ∀ Z : SAT W1, Z.val.cell? ⟨w.heap.size + 1, 3, none⟩ = some _ := fun Z => Z.ok.cell NX.out x3
    have G4 : ∀ Z : SAT W1, Z.val.cell? ⟨w.heap.size + 1, 4, none⟩ = some _ := fun Z => Z.ok.cell NX.out x4
    have G5 : ∀ Z : SAT W1, Z.val.cell? ⟨w.heap.size + 1, 5, none⟩ = some _ := fun Z => Z.ok.cell NX.out x5
    have G6 : ∀ Z : SAT W1, Z.val.cell? ⟨w.heap.size + 1, 6, none⟩ = some _ := fun Z => Z.ok.cell NX.out x6
    have G7 : ∀ Z : SAT W1, Z.val.cell? ⟨w.heap.size + 1, 7, none⟩ = some _ := fun Z => Z.ok.cell NX.out x7
    have G8 : ∀ Z : SAT W1, Z.val.cell? ⟨w.heap.size + 1, 8, none⟩ = some _ := fun Z => Z.ok.cell NX.out x8
    have G9 : ∀ Z : SAT W1, Z.val.cell? ⟨w.heap.size + 1, 9, none⟩ = some _ := fun Z => Z.ok.cell NX.out x9
    have G10 : ∀ Z : SAT W1, Z.val.cell? ⟨w.heap.size + 1, 10, none⟩ = some _ := fun Z => Z.ok.cell NX.out x10
    have G11 : ∀ Z : SAT W1, Z.val.cell? ⟨w.heap.size + 1, 11, none⟩ = some _ := fun Z => Z.ok.cell NX.out x11
    have cNq : ∀ Z : SAT W1, Calls Tryz.prog 28 #[.int .i64 (k : Int), .int .i64 (hfn : Int)] Z.val fun e w' => e = .returned (.bool true) ∧ ∃ Z' : SAT W1, w' = Z'.val := fun Z => (CN.out Z.val).mono fun e w' ⟨he, hw⟩ => ⟨he, Z, hw⟩
    have HS0 : Hid (SH W1 W1.drew) := SH.drew HSH
    obtain ⟨obj, hobj⟩ := HSZ.out
    have E0 : ∀ Z : SAT W1, Z.val.cell? ⟨g, ro + k * 6, none⟩ = some _ := fun Z => Z.ok.cell hobj e0
    have E1 : ∀ Z : SAT W1, Z.val.cell? ⟨g, ro + k * 6 + 1, none⟩ = some _ := fun Z => Z.ok.cell hobj e1
    have E2 : ∀ Z : SAT W1, Z.val.cell? ⟨g, ro + k * 6 + 2, none⟩ = some _ := fun Z => Z.ok.cell hobj e2
    have E3 : ∀ Z : SAT W1, Z.val.cell? ⟨g, ro + k * 6 + 3, none⟩ = some _ := fun Z => Z.ok.cell hobj e3
    have E4 : ∀ Z : SAT W1, Z.val.cell? ⟨g, ro + k * 6 + 4, none⟩ = some _ := fun Z => Z.ok.cell hobj e4
    have E5 : ∀ Z : SAT W1, Z.val.cell? ⟨g, ro + k * 6 + 5, none⟩ = some _ := fun Z => Z.ok.cell hobj e5
    have hcap2 : hfn ≤ hfc := by rw [HCNT.out]; exact hcap.1
    have cCq : ∀ Z : SAT W1, Calls Tryz.prog 127 #[.agg #[.slice hop hon hoc, .slice (some ⟨g, ro, none⟩) hfn hfc, .int .i64 hmn, .string hnm, .int .i64 hpr, .int .i64 htp, .bool hgv, .slice hsp hsn hsc, .slice hcp hcn hcc], .agg #[.int .i64 8, .int .i64 bin, .int .i64 d, .int .i64 ak, .int .u32 an, .int .i64 bk, .int .u32 bn, .int .i64 (k : Int), .int .i64 off, .int .i64 wd, .bool sg, .slice xp args.length xc], .agg #[.string f.nm, .int .i64 f.pr, .int .i64 f.tp, .bool f.gv, .slice f.sp f.sn f.sc, .slice f.cp f.cn f.cc]] Z.val fun e w' => e = .returned (.bool q2) ∧ ∃ Z' : SAT W1, w' = Z'.val := fun Z => (cC Z.val (HB.out.trans (Z.ok.mono HB.out.size))).mono fun e w' ⟨he, hb⟩ => ⟨he, ⟨w', SH.below Z.ok hb⟩, rfl⟩
    refine wp_region_sub (W := W1) (by kernel_rfl) (by kernel_rfl) HS0.out ?_
    repeat (go_big_quiet_step (first | exact cNq _ | exact cCq _))
    refine wpQuiet_nil ?_
    intro wq hq
    obtain ⟨⟨Zq, hZ⟩, hq2⟩ := hq
    have HB2 : Hid (Below w.heap.size w wq) := by rw [hq2]; exact HB.out.trans (hZ.mono HB.out.size)
    clear hq2
    go_wp2
    go_ret
    exact ⟨rfl, HB2.out⟩
end
end Go.Proofs.YtaaphipbkpjkjaaGreatDoor
