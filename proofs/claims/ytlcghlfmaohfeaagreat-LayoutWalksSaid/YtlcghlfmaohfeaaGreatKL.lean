/-
  A walk into an object and the gaps of a type are told as the document says (mortiselaw05.LayoutWalks): for every row of rows, every id and row of hops the law answers true, and each argument reads afterwards as before. No condition beyond the given statement's own.
  The law LayoutWalks' own walk.
  Rows and members that came in as arguments of a plain row.
-/
import Derived.Test.YtlcghlfmaohfeaaGreatKZ
import Derived.Test.YtlcghlfmaohfeaaGreatKX
import Derived.Test.YtlcghlfmaohfeaaGreatKG
import Derived.Test.YtlcghlfmaohfeaaGreatLike
import Derived.Test.YtlcghlfmaohfeaaGreatHRowOpen
import Derived.ProofKit
import Derived.OpenShut
import Derived.Stop.Joined
import Derived.SizedLaws
import Derived.Test.YtlcghlfmaohfeaaGreatRows
import Derived.ChangeMaps5
namespace Go.Proofs.YtlcghlfmaohfeaaGreat
open Go.RowKit Go.Maps
set_option linter.unusedVariables false
set_option maxRecDepth 100000
theorem neHop (s : ByteArray) (n : Int) (Y : World) : (binOp .neq THop (.agg #[.string s, .int .i64 n]) (.agg #[.string s, .int .i64 n])).run Tryz.prog Y = .ok (.bool false) Y := by
  have hT : Tryz.prog.underlying THop = some (.struct (Tryz.prog.fieldsOf THop)) := by kernel_rfl
  have hp : Tryz.prog.stoodInHeld THop = false := by kernel_rfl
  have h3 := Tryz.underlying3
  have h9 := Tryz.underlying9
  rw [run_neq_struct, run_equalIn_agg _ 9999 _ _ _ hT hp]
  simp only [Program.fieldsOf, Tryz.underlying58]
  go_simp
theorem pl_cellsW {W : World} {g : Nat} {a b c d e : Value} (h : W.heap[g]? = some (.cells #[a, b, c, d, e] TPl (0, 0))) : W.cell? ⟨g, 0, none⟩ = some a ∧ W.cell? ⟨g, 1, none⟩ = some b ∧ W.cell? ⟨g, 2, none⟩ = some c ∧ W.cell? ⟨g, 3, none⟩ = some d ∧ W.cell? ⟨g, 4, none⟩ = some e :=
  ⟨(Lib.cell_of_heap h 0).trans rfl, (Lib.cell_of_heap h 1).trans rfl, (Lib.cell_of_heap h 2).trans rfl, (Lib.cell_of_heap h 3).trans rfl, (Lib.cell_of_heap h 4).trans rfl⟩
theorem grown_belowW {B : Nat} {W w w' : World} {row : Option Nat} (hb : Below B W w) (hB : B ≤ w.heap.size) (hg : w.grownBy w' row) (hr : ∀ k, row = some k → B ≤ k) : Below B W w' :=
  ⟨hg.os.trans hb.os, hg.tape.trans hb.tape, hg.output.trans hb.output, Nat.le_trans hb.size hg.size, fun k hk => (hg.block k (by omega) (fun e => by have := hr k e.symm; omega)).trans (hb.block k hk)⟩
theorem gapL_le {trs : List (Rw × Value)} {M : Int → Ex} {H : Int → Nat → Bool} {id : Int} (hf : FromOK trs) (hM : IsMeas (rowsOf trs) M) : (gapL trs M H id).length ≤ 200000 := by
  unfold gapL
  by_cases he : openE trs M id = 0
  · rw [if_pos he]
    obtain ⟨i, p, rfl, hp, hwh, hgt⟩ := openE_at he
    have := (gapF_len (H i) (8 * (M i).size).toNat).1
    omega
  · rw [if_neg he]; simp
section
variable {w : World}
set_option maxHeartbeats 16000000 in
theorem walks_c {v x : Value} {rs : List (Rw × Value)} {l : List Hp} (h : RowIn w v rs) (hl : rs.length * 72 ≤ 140737488355328) (hO : ∀ p ∈ rs, Okay p.1) (id : Int) (hx : HopIn w x l) (hl24 : l.length * 24 ≤ 140737488355328) :
    Calls Tryz.prog 4 #[v, .int .i64 id, x] w fun e w' => e = .returned (.bool true) ∧ Below w.heap.size w w' := by
  have cB := both_c h hl hO
  have HH : Hid (∀ Y, Below w.heap.size w Y → Calls Tryz.prog 6 #[] Y fun e w' => e = .returned (.bool true) ∧ Below w.heap.size w w') := fun Y hY => (heads_c Y).mono fun e w' ⟨he, hb⟩ => ⟨he, hY.trans (hb.mono hY.size)⟩
  have HX : Hid (HopIn w x l) := hx
  have nt := not_t
  have nf := not_f
  clear h hl hO hx
  go_enter Tryz.func4, Tryz.ntmps4
  go_wp2_with fail
  refine cB.mono ?_
  rintro e w1 ⟨rfl | ⟨b, mb, tv, trs, rb, rv, rrs, rfl, hD⟩, hb1⟩
  · have H1 : Hid (Below w.heap.size w w1) := hb1
    clear hb1 cB
    go_wp2_with fail
    refine (HH.out _ H1.out).mono ?_
    rintro e wz ⟨rfl, hbz⟩
    have HZ : Hid (Below w.heap.size w wz) := hbz
    clear hbz
    go_wp2
    go_ret
    exact ⟨rfl, HZ.out⟩
  have HW1 : Hid (Below w.heap.size w w1) := hb1
  obtain ⟨M, hM⟩ := meas_exists hD.ok
  obtain ⟨H, hH⟩ := had_exists (M := M) hD.ok
  have h0 : 0 < trs.length := by have := hD.len; omega
  have rt := fun W (hW : Below w1.heap.size w1 W) => (hD.below hW).rt
  obtain ⟨X, xe, hXe⟩ : ∃ X xe, walkR trs M id l = (X, xe) := ⟨_, _, rfl⟩
  have C1 : Hid (∀ (W : World) (y : Value), Below w1.heap.size w1 W → HopIn W y l → Calls Tryz.prog 17 #[.pointer (some ⟨b, 0, none⟩), .int .i64 id, y] W fun e w' => e = .returned (.tuple #[.agg #[.int .i64 X.mem, .int .i64 X.type, .int .i64 X.off, .int .i64 X.bit, .int .i64 X.bits], .int .i64 xe]) ∧ Below W.heap.size W w') := fun W y hW hy => by
    have := walk_any (hD.below hW).tab h0 hD.small hD.ok hM id hy (by omega)
    rw [hXe] at this
    exact this
  have C2 : Hid (∀ (W : World) (y : Value), Below w1.heap.size w1 W → HopIn W y l → Calls Tryz.prog 18 #[.pointer (some ⟨rb, 0, none⟩), .int .i64 id, y] W fun e w' => e = .returned (.tuple #[.agg #[.int .i64 X.mem, .int .i64 X.type, .int .i64 X.off, .int .i64 X.bit, .int .i64 X.bits], .int .i64 xe]) ∧ Below W.heap.size W w') := fun W y hW hy => by
    have := rWalk_c (rt W hW) hD.same hD.ok hM hD.sane h0 id hy (by omega)
    rw [hXe] at this
    exact this
  have C3 : Hid (∀ W, Below w1.heap.size w1 W → Calls Tryz.prog 19 #[.pointer (some ⟨b, 0, none⟩), .int .i64 id] W fun e w' => ∃ p c, e = .returned (.tuple #[.slice p (gapL trs M H id).length c, .int .i64 (openE trs M id)]) ∧ GpsP (gapL trs M H id) W w' p c) := fun W hW => pGaps (hD.below hW).tab h0 hD.small hD.ok hM hH id
  have C4 : Hid (∀ W, Below w1.heap.size w1 W → Calls Tryz.prog 20 #[.pointer (some ⟨rb, 0, none⟩), .int .i64 id] W fun e w' => ∃ p c, e = .returned (.tuple #[.slice p (gapL trs M H id).length c, .int .i64 (openE trs M id)]) ∧ GpsP (gapL trs M H id) W w' p c) := fun W hW => rGaps (rt W hW) hD.same hD.ok hM hH hD.sane h0 id
  have CL : Hid (∀ W, Below w1.heap.size w1 W → Calls Tryz.prog 16 #[.pointer (some ⟨b, 0, none⟩), .pointer (some ⟨rb, 0, none⟩)] W fun e w' => e = .returned (.bool true) ∧ Below W.heap.size W w') := fun W hW => like_c (hD.below hW).tab h0 hD.small (rt W hW) hD.same
  have hgl : (gapL trs M H id).length ≤ 200000 := gapL_le hD.ok hM
  generalize openE trs M id = oe at *
  generalize gapL trs M H id = GL at *
  have CS : Hid (∀ {w7 W : World} {b1 b2 q6 q7 : Nat} {p6 p7 : Option Addr}, Below w7.heap.size w7 W → w7.ownsRow b2 TG 2 (.slice p7 GL.length q7) GL.length (gpCells GL) → w7.ownsRow b1 TG 2 (.slice p6 GL.length q6) GL.length (gpCells GL) → Calls Tryz.prog 21 #[.slice p6 GL.length q6, .slice p7 GL.length q7] W fun e w' => e = .returned (.bool true) ∧ Below W.heap.size W w') := fun hW ho2 ho1 => rSameG_c hgl (ownsRow_turned ho1 (Turned.of_below hW (fun _ => False)) (fun _ _ h => h.elim)) (ownsRow_turned ho2 (Turned.of_below hW (fun _ => False)) (fun _ _ h => h.elim))
  have eX := eqPl X
  have q1 : (xe == xe) = true := by simp
  have q3 : (oe == oe) = true := by simp
  have HO0 : Hid ((w1.alloc (.cells #[] THop)).ownsRow w1.heap.size THop 2 (.slice (some ⟨w1.heap.size, 0, none⟩) 0 0) 0 []) := ⟨rfl, .inr ⟨w1.heap.size, 0, #[], rfl, Nat.le_refl _, heap_r0 w1 _, Nat.le_refl _, by unfold maxLen; omega, rfl, rfl⟩⟩
  have HB0 : Hid (Below w1.heap.size w1 (w1.alloc (.cells #[] THop))) := below1 w1 _
  have HI1 : Hid (HopIn (w1.alloc (.cells #[] THop)) x l) := (HX.out.below HW1.out).below HB0.out
  have HZ6 : Hid (w1.heap.size ≤ (w1.alloc (.cells #[] THop)).heap.size) := HB0.out.size
  clear cB hD hb1 rt hM hXe h0 hH hgl
  go_wp2_with (first
    | (at_builtin; refine append_hops rfl (.tmp 29) (.tmp 30) rfl w1.heap.size (.slice (some ⟨w1.heap.size, 0, none⟩) 0 0) 0 [] rfl HO0.out (xv := x) (l := l) rfl HI1.out (by omega) HZ6.out ?_; intro v1 w2 ho1 hg1; obtain ⟨vp, vc, rfl⟩ := slice_of_own ho1; rw [Nat.zero_add, List.nil_append] at ho1; rw [Nat.zero_add]; have HO2 : Hid (w2.ownsRow w1.heap.size THop 2 (.slice vp l.length vc) l.length (hopsC l)) := ho1; have H2 : Hid (Below w1.heap.size w1 w2) := grown_belowW HB0.out HZ6.out hg1 (fun k e => by cases e; exact Nat.le_refl _); have c1 := C1.out w2 _ H2.out (.inl (HopSl.of_own HO2.out)); clear ho1 hg1)
    | (go_at_call 17; refine c1.mono ?_; rintro e w3 ⟨rfl, hb3⟩; have H3 : Hid (Below w1.heap.size w1 (w3.alloc (.cells #[.int .i64 X.mem, .int .i64 X.type, .int .i64 X.off, .int .i64 X.bit, .int .i64 X.bits] TPl))) := (H2.out.trans (hb3.mono H2.out.size)).trans ((below1 w3 _).mono (Nat.le_trans H2.out.size hb3.size)); have K3 : Hid (Below w2.heap.size w2 (w3.alloc (.cells #[.int .i64 X.mem, .int .i64 X.type, .int .i64 X.off, .int .i64 X.bit, .int .i64 X.bits] TPl))) := hb3.trans ((below1 w3 _).mono hb3.size); have N3 : Hid ((w3.alloc (.cells #[.int .i64 X.mem, .int .i64 X.type, .int .i64 X.off, .int .i64 X.bit, .int .i64 X.bits] TPl)).heap[w3.heap.size]? = some (.cells #[.int .i64 X.mem, .int .i64 X.type, .int .i64 X.off, .int .i64 X.bit, .int .i64 X.bits] TPl (0, 0))) := heap_r0 w3 _; have hold3 := heap_r0 w3 PZ; have c2 := C2.out (w3.alloc (.cells #[.int .i64 X.mem, .int .i64 X.type, .int .i64 X.off, .int .i64 X.bit, .int .i64 X.bits] TPl)) x H3.out (HX.out.below (HW1.out.trans (H3.out.mono HW1.out.size))); clear hb3 c1)
    | (go_at_call 18; refine c2.mono ?_; rintro e w4 ⟨rfl, hb4⟩; have H4 : Hid (Below w1.heap.size w1 (w4.alloc (.cells #[.int .i64 X.mem, .int .i64 X.type, .int .i64 X.off, .int .i64 X.bit, .int .i64 X.bits] TPl))) := (H3.out.trans (hb4.mono H3.out.size)).trans ((below1 w4 _).mono (Nat.le_trans H3.out.size hb4.size)); have K4 : Hid (Below w2.heap.size w2 (w4.alloc (.cells #[.int .i64 X.mem, .int .i64 X.type, .int .i64 X.off, .int .i64 X.bit, .int .i64 X.bits] TPl))) := (K3.out.trans (hb4.mono K3.out.size)).trans ((below1 w4 _).mono (Nat.le_trans K3.out.size hb4.size)); have N4 : Hid ((w4.alloc (.cells #[.int .i64 X.mem, .int .i64 X.type, .int .i64 X.off, .int .i64 X.bit, .int .i64 X.bits] TPl)).heap[w4.heap.size]? = some (.cells #[.int .i64 X.mem, .int .i64 X.type, .int .i64 X.off, .int .i64 X.bit, .int .i64 X.bits] TPl (0, 0))) := heap_r0 w4 _; have M4 : Hid ((w4.alloc (.cells #[.int .i64 X.mem, .int .i64 X.type, .int .i64 X.off, .int .i64 X.bit, .int .i64 X.bits] TPl)).heap[w3.heap.size]? = some (.cells #[.int .i64 X.mem, .int .i64 X.type, .int .i64 X.off, .int .i64 X.bit, .int .i64 X.bits] TPl (0, 0))) := blk_b (blk_b N3.out hb4) (below1 w4 _); have hold4 := heap_r0 w4 PZ; have c3 := C3.out (w4.alloc (.cells #[.int .i64 X.mem, .int .i64 X.type, .int .i64 X.off, .int .i64 X.bit, .int .i64 X.bits] TPl)) H4.out; clear hb4 c2)
    | ((with_reducible apply step_store hold3); rfl; rfl; kernel_rfl; rfl; kernel_rfl; rw [World.setRow_alloc_new])
    | ((with_reducible apply step_store hold4); rfl; rfl; kernel_rfl; rfl; kernel_rfl; rw [World.setRow_alloc_new])
    | (go_at_call 19; refine c3.mono ?_; rintro e w5 ⟨p5, q5, rfl, ho5, hb5⟩; have H5 : Hid (Below w1.heap.size w1 w5) := H4.out.trans (hb5.mono H4.out.size); have K5 : Hid (Below w2.heap.size w2 w5) := K4.out.trans (hb5.mono K4.out.size); have HB45 : Hid (Below (w4.alloc (.cells #[.int .i64 X.mem, .int .i64 X.type, .int .i64 X.off, .int .i64 X.bit, .int .i64 X.bits] TPl)).heap.size (w4.alloc (.cells #[.int .i64 X.mem, .int .i64 X.type, .int .i64 X.off, .int .i64 X.bit, .int .i64 X.bits] TPl)) w5) := hb5; have O5 : Hid (w5.ownsRow (w4.alloc (.cells #[.int .i64 X.mem, .int .i64 X.type, .int .i64 X.off, .int .i64 X.bit, .int .i64 X.bits] TPl)).heap.size TG 2 (.slice p5 GL.length q5) GL.length (gpCells GL)) := ho5; have c4 := C4.out w5 H5.out; clear hb5 ho5 c3)
    | (go_at_call 20; refine c4.mono ?_; rintro e w6 ⟨p6, q6, rfl, ho6, hb6⟩; have H6 : Hid (Below w1.heap.size w1 w6) := H5.out.trans (hb6.mono H5.out.size); have K6 : Hid (Below w2.heap.size w2 w6) := K5.out.trans (hb6.mono K5.out.size); have HB46 : Hid (Below (w4.alloc (.cells #[.int .i64 X.mem, .int .i64 X.type, .int .i64 X.off, .int .i64 X.bit, .int .i64 X.bits] TPl)).heap.size (w4.alloc (.cells #[.int .i64 X.mem, .int .i64 X.type, .int .i64 X.off, .int .i64 X.bit, .int .i64 X.bits] TPl)) w6) := HB45.out.trans (hb6.mono HB45.out.size); have O6 : Hid (w6.ownsRow w5.heap.size TG 2 (.slice p6 GL.length q6) GL.length (gpCells GL)) := ho6; have O56 : Hid (w6.ownsRow (w4.alloc (.cells #[.int .i64 X.mem, .int .i64 X.type, .int .i64 X.off, .int .i64 X.bit, .int .i64 X.bits] TPl)).heap.size TG 2 (.slice p5 GL.length q5) GL.length (gpCells GL)) := ownsRow_turned O5.out (Turned.of_below hb6 (fun _ => False)) (fun _ _ h => h.elim); clear hb6 ho6 c4)
    | fail)
  have HP3 : Hid (w6.heap[w3.heap.size]? = some (.cells #[.int .i64 X.mem, .int .i64 X.type, .int .i64 X.off, .int .i64 X.bit, .int .i64 X.bits] TPl (0, 0))) := blk_b M4.out HB46.out
  have HP4 : Hid (w6.heap[w4.heap.size]? = some (.cells #[.int .i64 X.mem, .int .i64 X.type, .int .i64 X.off, .int .i64 X.bit, .int .i64 X.bits] TPl (0, 0))) := blk_b N4.out HB46.out
  have HOW : Hid (w6.ownsRow w1.heap.size THop 2 (.slice vp l.length vc) l.length (hopsC l)) := ownsRow_turned HO2.out (Turned.of_below K6.out (fun _ => False)) (fun _ _ h => h.elim)
  have HI6 : Hid (HopIn w6 x l) := HX.out.below (HW1.out.trans (H6.out.mono HW1.out.size))
  clear HB45 HB46 O5 H5 K5 K6 N3 N4 M4 H3 H4 K3 K4 hold3 hold4 HO2 H2 HO0 HB0 HI1 HZ6 C1 C2 C3 C4
  go_loopw [19] (fun iv wr => ∃ j : Nat, iv = .int .i64 j ∧ j ≤ l.length ∧ Hid (Below w6.heap.size w6 wr)) (fun iv _ => l.length - (intOf iv).toNat)
  case atStart => exact ⟨0, rfl, Nat.zero_le _, Below.refl _ _⟩
  case round =>
    obtain ⟨j, rfl, hj, HR⟩ := hrel
    by_cases hlt : j < l.length
    · obtain ⟨m, hm⟩ : ∃ m, l[j]? = some m := ⟨_, List.getElem?_eq_getElem hlt⟩
      obtain ⟨gv, cv, hv, v1, v2, v3, v4, v5⟩ := own_cell (ownsRow_turned HOW.out (Turned.of_below HR.out (fun _ => False)) (fun _ _ h => h.elim)) (by omega)
      injection hv with e1 e2 e3
      subst e1 e3
      have a0 := v4 (j * 2 + 0) (.string m.1) (hopsC_at l j m hm 0 (by omega))
      have a1 := v4 (j * 2 + 1) (.int .i64 m.2) (hopsC_at l j m hm 1 (by omega))
      rcases HI6.out.below HR.out with (⟨_, hnil⟩ | ⟨g, o, cap, hxv, hc, hg, hcell⟩) | ⟨_, _, _, hnil⟩
      · rw [hnil] at hlt; simp at hlt
      · subst hxv
        have b0 := hcell j m hm 0 (by omega)
        have b1 := hcell j m hm 1 (by omega)
        simp only [hpCells, List.getElem?_cons_zero, List.getElem?_cons_succ, Nat.add_zero] at a0 a1 b0 b1
        have hne := neHop m.1 m.2
        have HR2 : Hid (Below w6.heap.size w6 wr.drew) := HR.out.drew
        clear v4 v5 v1 v2 hcell hm e2 hg
        go_upto_region 12 with (fail)
        go_region
        go_wp2
        exact ⟨⟨j + 1, by go_num, by omega, HR2⟩, by simp [intOf]; omega⟩
      · rw [hnil] at hlt; simp at hlt
    · obtain rfl : j = l.length := by omega
      have P3 := blk_b HP3.out HR.out
      have P4 := blk_b HP4.out HR.out
      obtain ⟨s0, s1, s2, s3, s4⟩ := pl_cellsW P3
      obtain ⟨u0_, u1_, u2_, u3_, u4_⟩ := pl_cellsW P4
      have cS := CS.out HR.out O6.out O56.out
      have H7 : Hid (Below w1.heap.size w1 wr) := H6.out.trans (HR.out.mono H6.out.size)
      clear P3 P4
      go_wp2_with (first
        | (go_at_call 21; refine cS.mono ?_; rintro e w10 ⟨rfl, hb10⟩; have H10 : Hid (Below w1.heap.size w1 w10) := H7.out.trans (hb10.mono H7.out.size); have cL := CL.out w10 H10.out; clear hb10 cS)
        | (go_at_call 16; refine cL.mono ?_; rintro e w11 ⟨rfl, hb11⟩; have H11 : Hid (Below w.heap.size w w11) := HW1.out.trans ((H10.out.trans (hb11.mono H10.out.size)).mono HW1.out.size); have cH := HH.out w11 H11.out; clear hb11 cL)
        | (go_at_call 6; refine cH.mono ?_; rintro e w12 ⟨rfl, hb12⟩; have HZ : Hid (Below w.heap.size w w12) := hb12; clear hb12 cH)
        | fail)
      go_ret
      exact ⟨rfl, HZ.out⟩
end
end Go.Proofs.YtlcghlfmaohfeaaGreat
namespace Go.Proofs.YtlcghlfmaohfeaaGreat
open Go.ChangeShapes Go.WideShapes Go.ChangeAt Go.RowKit
set_option linter.unusedVariables false
theorem ownK : ownKnob Tryz.prog.godebug = none := by kernel_rfl
theorem laidOut : laidOutB Tryz.prog = true := by kernel_rfl
section
variable {H : Type} {enc : TypeId × Value → H} {W : World} {base : Nat} {spare : Nat → Bool} {held : Bool}
theorem rows_arg {a0 : Option Addr} {len0 cap0 : Nat} {d : DataW H} {p : List MemPlace} (h0 : DataW.Trod enc Tryz.prog W base spare held 22 (.slice a0 len0 cap0) d p)
    (hw : (d.weights Tryz.prog 22).all (· ≤ reachBytes) = true) : ∃ rs : List (Rw × Value), RowIn W (.slice a0 len0 cap0) rs ∧ rs.length * 72 ≤ 140737488355328 ∧ ∀ p ∈ rs, Okay p.1 := by
  obtain ⟨fuel, hf⟩ := h0
  obtain ⟨v, rs, hcs, hin, hd⟩ := open_rows hf
  simp [Value.cells] at hcs
  subst hcs
  refine ⟨rs, hin, ?_⟩
  rcases hd with ⟨_, rfl⟩ | ⟨ds, rest, hx, hlen, hfit⟩
  · exact ⟨by simp, fun p hp => (by cases hp)⟩
  · simp only at hx
    subst hx
    obtain ⟨z1, z2⟩ := rows_sized hw
    refine ⟨by rw [← hlen]; simp [reachBytes] at z1; omega, fun p hp => ?_⟩
    obtain ⟨i, hi⟩ := List.mem_iff_getElem?.1 hp
    obtain ⟨d, hd1, hd2⟩ := hfit i p hi
    exact okay_of hd2 (z2 d (List.mem_of_getElem? hd1) _ hd2.data)
theorem mems_arg {a0 : Option Addr} {len0 cap0 : Nat} {d : DataW H} {p : List MemPlace} (h0 : DataW.Trod enc Tryz.prog W base spare held 73 (.slice a0 len0 cap0) d p)
    (hw : (d.weights Tryz.prog 73).all (· ≤ reachBytes) = true) : ∃ l : List Mb, MemIn W (.slice a0 len0 cap0) l ∧ (∀ m ∈ l, m.name.size ≤ 9223372036854775807) ∧ l.length ≤ 9223372036854775807 := by
  obtain ⟨fuel, hf⟩ := h0
  obtain ⟨s, l, hcs, hin, hn, hd⟩ := open_mems hf
  simp [Value.cells] at hcs
  subst hcs
  refine ⟨l, hin, fun m hm => by have := hn m hm; unfold maxLen at this; omega, ?_⟩
  rcases hd with ⟨_, rfl⟩ | ⟨rest, hx⟩
  · simp
  · simp only at hx
    subst hx
    rw [List.all_eq_true] at hw
    have hu := Tryz.underlying73
    simp only [DataW.weights, hu, bytes_mem] at hw
    have := hw _ (List.mem_cons_self ..)
    simp [reachBytes] at this
    omega
theorem weights_at {ts : List TypeId} {ds : List (DataW H)} (h : (DataW.weightsEach Tryz.prog ts ds).all (· ≤ reachBytes) = true) : ∀ (j : Nat) t d, ts[j]? = some t → ds[j]? = some d → (d.weights Tryz.prog t).all (· ≤ reachBytes) = true := by
  induction ts generalizing ds with
  | nil => intro j t d ht; simp at ht
  | cons a ts ih =>
    cases ds with
    | nil => intro j t d _ hd; simp at hd
    | cons b ds =>
      simp only [DataW.weightsEach, List.all_append, Bool.and_eq_true] at h
      intro j t d ht hd
      cases j with
      | zero => simp only [List.getElem?_cons_zero, Option.some.injEq] at ht hd; subst ht hd; exact h.1
      | succ j => exact ih h.2 j t d (by simpa using ht) (by simpa using hd)
end
end Go.Proofs.YtlcghlfmaohfeaaGreat
namespace Go.Proofs.YtlcghlfmaohfeaaGreat
open Go.ChangeShapes Go.WideShapes Go.ChangeAt Go.RowKit Go.ChangeMaps
set_option linter.unusedVariables false
set_option maxRecDepth 100000 in
theorem walks_lifted (os : Os) (started : os.Started) (H : Type) (enc : TypeId × Value → H) :
    ReturnsInHanded {} Tryz.checked os 4 .any (Rows.layoutWalksSpec.pre6 enc Tryz.prog Tryz.f4 Rows.layoutWalksRow.domain false) (Rows.layoutWalksSpec.post enc Tryz.prog Tryz.f4 false true false false) := by
  refine returnsInHanded_of_change_sized (C := Tryz.checked) ownK started (by kernel_rfl) Tryz.func4
    (ChangeSpec.witness6 (enc := enc) (C := Tryz.checked) false ⟨#[], #[.slice none 0 0, .int .i64 0, .slice none 0 0], []⟩ 8 (by kernel_rfl) (by kernel_rfl) (by kernel_rfl) (by kernel_rfl)) ?_
  intro W base args ds gs before hval0 hW hcnd hsz0 _
  have hsz : (DataW.weightsEach Tryz.prog (Tryz.f4.params.toList ++ Rows.layoutWalksSpec.plain.varTypes Tryz.prog) (ds ++ gs)).all (· ≤ reachBytes) = true := hsz0
  clear hsz0
  have hval : ∀ (j : Nat) t v, Tryz.f4.params[j]? = some t → args[j]? = some v → Value.okWide Tryz.prog W .any base t v := hval0
  have hW' := hW
  obtain ⟨p, q, hA0, hV, rfl, hfz, hnd⟩ := hW
  have hA : DataW.TrodAll enc Tryz.prog W 0 (fun _ => true) true Tryz.f4.params.toList args.toList ds p := hA0
  rw [Tryz.params4] at hA hval hsz
  obtain ⟨v0, v1, v2, d0, d1, d2, p0, p1, p2, rfl, rfl, rfl, h0, h1, h2⟩ := trodAll_three hA
  obtain ⟨rfl, rfl⟩ := trodVars_none hV
  obtain ⟨a0, len0, cap0, rfl⟩ := okWide_slice Tryz.underlying22 (hval 0 22 v0 rfl rfl)
  have lt0 : ∀ x ∈ p0, x.block < W.heap.size := by obtain ⟨n, hn⟩ := h0; exact DataW.trod_lt n _ _ _ hn
  obtain ⟨x, rfl, rfl, rfl, wx⟩ := open_int Tryz.underlying3 (hval 1 3 v1 rfl rfl) h1
  obtain ⟨a2, len2, cap2, rfl⟩ := okWide_slice Tryz.underlying47 (hval 2 47 v2 rfl rfl)
  have lt2 : ∀ x ∈ p2, x.block < W.heap.size := by obtain ⟨n, hn⟩ := h2; exact DataW.trod_lt n _ _ _ hn
  clear hA0 hval0
  obtain ⟨rs, hin, hl72, hok⟩ := rows_arg h0 (weights_at hsz 0 _ _ rfl rfl)
  obtain ⟨l, hl, _, hl24, _⟩ := hops_arg h2 (weights_at hsz 2 _ _ rfl rfl)
  refine (walks_c hin hl72 hok x hl hl24).mono fun e W' ⟨he, bel⟩ => ?_
  subst he
  exact ⟨_, rfl, _, _, _, [], _, [], hW', trodAll_mk1 (shut_bool Tryz.underlying4 _), trodAll_mk3 (Below.trod laidOut (by kernel_rfl) (of_decide_eq_true (by kernel_rfl)) h0 bel lt0) (shut_int Tryz.underlying3 wx) (Below.trod laidOut (by kernel_rfl) (of_decide_eq_true (by kernel_rfl)) h2 bel lt2), rfl, bel.frame _, fun h => by cases h⟩
theorem layoutWalks_holds : Rows.LayoutWalksSaid :=
  OpenClaim.holds_of_wide 4 Tryz.f4 rfl rfl rfl rfl rfl rfl rfl ⟨rfl, rfl, rfl, rfl, rfl⟩ rfl rfl rfl rfl rfl (by kernel_rfl) Tryz.func4 (by kernel_rfl)
    (of_decide_eq_true (by kernel_rfl)) (by unfold Func.isWrapper; first | (rw [if_pos (by decide +kernel)]; kernel_rfl) | (rw [if_neg (by decide +kernel)]; exact ⟨rfl, rfl⟩))
    (fun os started H enc _ => walks_lifted os started H enc)
#print axioms layoutWalks_holds
end Go.Proofs.YtlcghlfmaohfeaaGreat
