/-
  Size, alignment, places and the place of a name are told as the document says (mortiselaw05.LayoutTells): for every row of rows, every id and name the law answers true, and each argument reads afterwards as before. No condition beyond the given statement's own.
  The law LayoutTells' own walk.
-/
import Derived.Test.YtcjbijcnhjnckaaGreatKG
import Derived.Test.YtcjbijcnhjnckaaGreatLike
import Derived.Test.YtcjbijcnhjnckaaGreatRows
import Derived.Test.YtcjbijcnhjnckaaGreatLyFr
import Derived.ChangeMaps5
namespace Go.Proofs.YtcjbijcnhjnckaaGreat
open Go.RowKit Go.Maps
set_option linter.unusedVariables false
set_option maxRecDepth 100000
theorem pl_cells {W : World} {g : Nat} {a b c d e : Value} (h : W.heap[g]? = some (.cells #[a, b, c, d, e] TPl (0, 0))) : W.cell? ⟨g, 0, none⟩ = some a ∧ W.cell? ⟨g, 1, none⟩ = some b ∧ W.cell? ⟨g, 2, none⟩ = some c ∧ W.cell? ⟨g, 3, none⟩ = some d ∧ W.cell? ⟨g, 4, none⟩ = some e :=
  ⟨(Lib.cell_of_heap h 0).trans rfl, (Lib.cell_of_heap h 1).trans rfl, (Lib.cell_of_heap h 2).trans rfl, (Lib.cell_of_heap h 3).trans rfl, (Lib.cell_of_heap h 4).trans rfl⟩
theorem pl_keep {W W' : World} {g : Nat} {a b c d e : Value} (hb : Below W.heap.size W W') (h0 : W.cell? ⟨g, 0, none⟩ = some a) (h1 : W.cell? ⟨g, 1, none⟩ = some b) (h2 : W.cell? ⟨g, 2, none⟩ = some c) (h3 : W.cell? ⟨g, 3, none⟩ = some d) (h4 : W.cell? ⟨g, 4, none⟩ = some e) : W'.cell? ⟨g, 0, none⟩ = some a ∧ W'.cell? ⟨g, 1, none⟩ = some b ∧ W'.cell? ⟨g, 2, none⟩ = some c ∧ W'.cell? ⟨g, 3, none⟩ = some d ∧ W'.cell? ⟨g, 4, none⟩ = some e :=
  ⟨blk_cell h0 hb, blk_cell h1 hb, blk_cell h2 hb, blk_cell h3 hb, blk_cell h4 hb⟩
theorem pl_64 {trs : List (Rw × Value)} {M : Int → Ex} {id : Int} (hf : FromOK trs) : (plL trs M id).length ≤ 64 := by
  by_cases he : openE trs M id = 0
  · obtain ⟨i, p, rfl, hp, hwh, hgt⟩ := openE_at he
    cases hk : recK p.1.kind with
    | false => rw [(plE_not he hp hk).2]; simp
    | true =>
      rw [(plE_ok he hp hk).2]
      have hlt : i < trs.length := (List.getElem?_eq_some_iff.1 hp).1
      have := (enter_parts (hf.1 i p hlt hp) hlt).2
      exact Nat.le_trans (pl_len _ _ _) (by omega)
  · rw [(openE_ne he).2]; simp
section
variable {w : World}
set_option maxHeartbeats 16000000 in
theorem tells_c {v : Value} {rs : List (Rw × Value)} (h : RowIn w v rs) (hl : rs.length * 72 ≤ 140737488355328) (hO : ∀ p ∈ rs, Okay p.1) (id : Int) (nm : ByteArray) :
    Calls Tryz.prog 3 #[v, .int .i64 id, .string nm] w fun e w' => e = .returned (.bool true) ∧ Below w.heap.size w w' := by
  have cB := both_c h hl hO
  have HH : Hid (∀ Y, Below w.heap.size w Y → Calls Tryz.prog 6 #[] Y fun e w' => e = .returned (.bool true) ∧ Below w.heap.size w w') := fun Y hY => (heads_c Y).mono fun e w' ⟨he, hb⟩ => ⟨he, hY.trans (hb.mono hY.size)⟩
  have nt := not_t
  have nf := not_f
  clear h hl hO
  go_enter Tryz.func3, Tryz.ntmps3
  go_wp2_with fail
  refine cB.mono ?_
  rintro e w1 ⟨rfl | ⟨b, mb, tv, trs, rb, rv, rrs, rfl, hD⟩, hb1⟩
  · have H1 : Hid (Below w.heap.size w w1) := hb1
    clear hb1 cB
    go_wp2_with fail
    refine (HH.out _ H1.out).mono ?_
    rintro e wz ⟨rfl, hbz⟩
    have HZ : Hid (Below w.heap.size w wz) := hbz
    clear hbz
    go_wp2
    go_ret
    exact ⟨rfl, HZ.out⟩
  have HW1 : Hid (Below w.heap.size w w1) := hb1
  obtain ⟨M, hM⟩ := meas_exists hD.ok
  have h0 : 0 < trs.length := by have := hD.len; omega
  have rt := fun W (hW : Below w1.heap.size w1 W) => (hD.below hW).rt
  have c1 := size_c (M := M) hD.tab h0 hD.small hD.ok hM id
  have C2 : Hid (∀ W, Below w1.heap.size w1 W → Calls Tryz.prog 8 #[.pointer (some ⟨rb, 0, none⟩), .int .i64 id] W fun e w' => e = .returned (.tuple #[.int .i64 (openX trs M id).size, .int .i64 (openE trs M id)]) ∧ Below W.heap.size W w') := fun W hW => rSize_c (rt W hW) hD.same hD.ok hM hD.sane h0 id
  have C3 : Hid (∀ W, Below w1.heap.size w1 W → Calls Tryz.prog 9 #[.pointer (some ⟨b, 0, none⟩), .int .i64 id] W fun e w' => e = .returned (.tuple #[.int .i64 (openX trs M id).align, .int .i64 (openE trs M id)]) ∧ Below W.heap.size W w') := fun W hW => align_c (hD.below hW).tab h0 hD.small hD.ok hM id
  have C4 : Hid (∀ W, Below w1.heap.size w1 W → Calls Tryz.prog 10 #[.pointer (some ⟨rb, 0, none⟩), .int .i64 id] W fun e w' => e = .returned (.tuple #[.int .i64 (openX trs M id).align, .int .i64 (openE trs M id)]) ∧ Below W.heap.size W w') := fun W hW => rAlign_c (rt W hW) hD.same hD.ok hM hD.sane h0 id
  have C5 : Hid (∀ W, Below w1.heap.size w1 W → Calls Tryz.prog 11 #[.pointer (some ⟨b, 0, none⟩), .int .i64 id] W fun e w' => ∃ p c, e = .returned (.tuple #[.slice p (plL trs M id).length c, .int .i64 (plE trs M id)]) ∧ PlsP trs M id W w' p c) := fun W hW => pPlaces (hD.below hW).tab h0 hD.small hD.ok hM id
  have C6 : Hid (∀ W, Below w1.heap.size w1 W → Calls Tryz.prog 12 #[.pointer (some ⟨rb, 0, none⟩), .int .i64 id] W fun e w' => ∃ p c, e = .returned (.tuple #[.slice p (plL trs M id).length c, .int .i64 (plE trs M id)]) ∧ PlsP trs M id W w' p c) := fun W hW => rPlaces_c (rt W hW) hD.same hD.ok hM hD.sane h0 id
  obtain ⟨X, xb, hX⟩ : ∃ X xb, fnS trs M id nm = (X, xb) := ⟨_, _, rfl⟩
  have C7 : Hid (∀ W, Below w1.heap.size w1 W → Calls Tryz.prog 13 #[.pointer (some ⟨b, 0, none⟩), .int .i64 id, .string nm] W fun e w' => e = .returned (.tuple #[.agg #[.int .i64 X.mem, .int .i64 X.type, .int .i64 X.off, .int .i64 X.bit, .int .i64 X.bits], .bool xb, .int .i64 (plE trs M id)]) ∧ Below W.heap.size W w') := fun W hW => by
    have := pFind (hD.below hW).tab h0 hD.small hD.ok hM id nm
    rw [hX] at this
    exact this
  have C8 : Hid (∀ W, Below w1.heap.size w1 W → Calls Tryz.prog 14 #[.pointer (some ⟨rb, 0, none⟩), .int .i64 id, .string nm] W fun e w' => e = .returned (.tuple #[.agg #[.int .i64 X.mem, .int .i64 X.type, .int .i64 X.off, .int .i64 X.bit, .int .i64 X.bits], .bool xb, .int .i64 (plE trs M id)]) ∧ Below W.heap.size W w') := fun W hW => by
    have := rFind_c (rt W hW) hD.same hD.ok hM hD.sane h0 id nm
    rw [hX] at this
    exact this
  have CL : Hid (∀ W, Below w1.heap.size w1 W → Calls Tryz.prog 16 #[.pointer (some ⟨b, 0, none⟩), .pointer (some ⟨rb, 0, none⟩)] W fun e w' => e = .returned (.bool true) ∧ Below W.heap.size W w') := fun W hW => like_c (hD.below hW).tab h0 hD.small (rt W hW) hD.same
  have hpl : (plL trs M id).length ≤ 64 := pl_64 hD.ok
  have CS : Hid (∀ {w7 W : World} {b1 b2 q6 q7 : Nat} {p6 p7 : Option Addr}, Below w7.heap.size w7 W → w7.ownsRow b2 TPl 5 (.slice p7 (plL trs M id).length q7) (plL trs M id).length (plCells (plL trs M id)) → w7.ownsRow b1 TPl 5 (.slice p6 (plL trs M id).length q6) (plL trs M id).length (plCells (plL trs M id)) → Calls Tryz.prog 15 #[.slice p6 (plL trs M id).length q6, .slice p7 (plL trs M id).length q7] W fun e w' => e = .returned (.bool true) ∧ Below W.heap.size W w') := fun hW ho2 ho1 => rSame_c hpl (ownsRow_turned ho1 (Turned.of_below hW (fun _ => False)) (fun _ _ h => h.elim)) (ownsRow_turned ho2 (Turned.of_below hW (fun _ => False)) (fun _ _ h => h.elim))
  have eX := eqPl X
  have ee : ∀ Y : World, (binOp BinOp.eql 4 (.bool xb) (.bool xb)).run Tryz.prog Y = .ok (.bool true) Y := fun Y => by cases xb <;> kernel_rfl
  have q1 : ((openX trs M id).size == (openX trs M id).size) = true := by simp
  have q2 : ((openX trs M id).align == (openX trs M id).align) = true := by simp
  have q3 : (openE trs M id == openE trs M id) = true := by simp
  have q4 : (plE trs M id == plE trs M id) = true := by simp
  clear cB hD hb1 rt hM hX hpl h0
  generalize (openX trs M id).size = xs at *
  generalize (openX trs M id).align = xa at *
  generalize openE trs M id = oe at *
  generalize plE trs M id = pe at *
  go_wp2_with (first
    | (go_at_call 7; refine c1.mono ?_; rintro e w2 ⟨rfl, hb2⟩; have H2 : Hid (Below w1.heap.size w1 w2) := hb2; have c2 := C2.out w2 H2.out; clear hb2 c1)
    | (go_at_call 8; refine c2.mono ?_; rintro e w3 ⟨rfl, hb3⟩; have H3 : Hid (Below w1.heap.size w1 w3) := H2.out.trans (hb3.mono H2.out.size); have c3 := C3.out w3 H3.out; clear hb3 c2)
    | (go_at_call 9; refine c3.mono ?_; rintro e w4 ⟨rfl, hb4⟩; have H4 : Hid (Below w1.heap.size w1 w4) := H3.out.trans (hb4.mono H3.out.size); have c4 := C4.out w4 H4.out; clear hb4 c3)
    | (go_at_call 10; refine c4.mono ?_; rintro e w5 ⟨rfl, hb5⟩; have H5 : Hid (Below w1.heap.size w1 w5) := H4.out.trans (hb5.mono H4.out.size); have c5 := C5.out w5 H5.out; clear hb5 c4)
    | (go_at_call 11; refine c5.mono ?_; rintro e w6 ⟨p6, q6, rfl, ho6, hb6⟩; have H6 : Hid (Below w1.heap.size w1 w6) := H5.out.trans (hb6.mono H5.out.size); have O6 : Hid (w6.ownsRow w5.heap.size TPl 5 (.slice p6 (plL trs M id).length q6) (plL trs M id).length (plCells (plL trs M id))) := ho6; have c6 := C6.out w6 H6.out; clear hb6 ho6 c5)
    | (go_at_call 12; refine c6.mono ?_; rintro e w7 ⟨p7, q7, rfl, ho7, hb7⟩; have H7 : Hid (Below w1.heap.size w1 w7) := H6.out.trans (hb7.mono H6.out.size); have O7 : Hid (w7.ownsRow w6.heap.size TPl 5 (.slice p7 (plL trs M id).length q7) (plL trs M id).length (plCells (plL trs M id))) := ho7; have O67 : Hid (w7.ownsRow w5.heap.size TPl 5 (.slice p6 (plL trs M id).length q6) (plL trs M id).length (plCells (plL trs M id))) := ownsRow_turned O6.out (Turned.of_below hb7 (fun _ => False)) (fun _ _ h => h.elim); have c7 := C7.out w7 H7.out; clear hb7 ho7 c6)
    | (go_at_call 13; refine c7.mono ?_; rintro e w8 ⟨rfl, hb8⟩; have H8 : Hid (Below w1.heap.size w1 (w8.alloc (.cells #[.int .i64 X.mem, .int .i64 X.type, .int .i64 X.off, .int .i64 X.bit, .int .i64 X.bits] TPl))) := (H7.out.trans (hb8.mono H7.out.size)).trans ((below1 w8 _).mono (Nat.le_trans H7.out.size hb8.size)); have K8 : Hid (Below w7.heap.size w7 (w8.alloc (.cells #[.int .i64 X.mem, .int .i64 X.type, .int .i64 X.off, .int .i64 X.bit, .int .i64 X.bits] TPl))) := hb8.trans ((below1 w8 _).mono hb8.size); have N8 : Hid ((w8.alloc (.cells #[.int .i64 X.mem, .int .i64 X.type, .int .i64 X.off, .int .i64 X.bit, .int .i64 X.bits] TPl)).heap[w8.heap.size]? = some (.cells #[.int .i64 X.mem, .int .i64 X.type, .int .i64 X.off, .int .i64 X.bit, .int .i64 X.bits] TPl (0, 0))) := heap_r0 w8 _; have hold8 := heap_r0 w8 PZ; have c8 := C8.out (w8.alloc (.cells #[.int .i64 X.mem, .int .i64 X.type, .int .i64 X.off, .int .i64 X.bit, .int .i64 X.bits] TPl)) H8.out; clear hb8 c7)
    | (go_at_call 14; refine c8.mono ?_; rintro e w9 ⟨rfl, hb9⟩; have K9 : Hid (Below w7.heap.size w7 (w9.alloc (.cells #[.int .i64 X.mem, .int .i64 X.type, .int .i64 X.off, .int .i64 X.bit, .int .i64 X.bits] TPl))) := (K8.out.trans (hb9.mono K8.out.size)).trans ((below1 w9 _).mono (Nat.le_trans K8.out.size hb9.size)); have N9 := heap_r0 w9 (.cells #[.int .i64 X.mem, .int .i64 X.type, .int .i64 X.off, .int .i64 X.bit, .int .i64 X.bits] TPl); have M9 := blk_b (blk_b N8.out hb9) (below1 w9 (.cells #[.int .i64 X.mem, .int .i64 X.type, .int .i64 X.off, .int .i64 X.bit, .int .i64 X.bits] TPl)); obtain ⟨s0, s1, s2, s3, s4⟩ := pl_cells N9; obtain ⟨u0_, u1_, u2_, u3_, u4_⟩ := pl_cells M9; have H9 : Hid (Below w1.heap.size w1 (w9.alloc (.cells #[.int .i64 X.mem, .int .i64 X.type, .int .i64 X.off, .int .i64 X.bit, .int .i64 X.bits] TPl))) := H7.out.trans (K9.out.mono H7.out.size); have cS := CS.out K9.out O7.out O67.out; have hold9 := heap_r0 w9 PZ; clear hb9 c8 N9 M9)
    | ((with_reducible apply step_store hold8); rfl; rfl; kernel_rfl; rfl; kernel_rfl; rw [World.setRow_alloc_new])
    | ((with_reducible apply step_store hold9); rfl; rfl; kernel_rfl; rfl; kernel_rfl; rw [World.setRow_alloc_new])
    | (go_at_call 15; refine cS.mono ?_; rintro e w10 ⟨rfl, hb10⟩; have H10 : Hid (Below w1.heap.size w1 w10) := H9.out.trans (hb10.mono H9.out.size); obtain ⟨s0', s1', s2', s3', s4'⟩ := pl_keep hb10 s0 s1 s2 s3 s4; obtain ⟨u0', u1', u2', u3', u4'⟩ := pl_keep hb10 u0_ u1_ u2_ u3_ u4_; have cL := CL.out w10 H10.out; clear hb10 cS s0 s1 s2 s3 s4 u0_ u1_ u2_ u3_ u4_)
    | (go_at_call 16; refine cL.mono ?_; rintro e w11 ⟨rfl, hb11⟩; have H11 : Hid (Below w.heap.size w w11) := HW1.out.trans ((H10.out.trans (hb11.mono H10.out.size)).mono HW1.out.size); have cH := HH.out w11 H11.out; clear hb11 cL)
    | (go_at_call 6; refine cH.mono ?_; rintro e w12 ⟨rfl, hb12⟩; have HZ : Hid (Below w.heap.size w w12) := hb12; clear hb12 cH)
    | fail)
  go_ret
  exact ⟨rfl, HZ.out⟩
end
end Go.Proofs.YtcjbijcnhjnckaaGreat
namespace Go.Proofs.YtcjbijcnhjnckaaGreat
open Go.ChangeShapes Go.WideShapes Go.ChangeAt Go.RowKit Go.ChangeMaps
set_option linter.unusedVariables false
set_option maxRecDepth 100000 in
theorem tells_lifted (os : Os) (started : os.Started) (H : Type) (enc : TypeId × Value → H) :
    ReturnsInHanded {} Tryz.checked os 3 .any (Rows.layoutTellsSpec.pre6 enc Tryz.prog Tryz.f3 Rows.layoutTellsRow.domain false) (Rows.layoutTellsSpec.post enc Tryz.prog Tryz.f3 false true false false) := by
  refine returnsInHanded_of_change_sized (C := Tryz.checked) ownK started (by kernel_rfl) Tryz.func3
    (ChangeSpec.witness6 (enc := enc) (C := Tryz.checked) false ⟨#[], #[.slice none 0 0, .int .i64 0, .string ⟨#[]⟩], []⟩ 8 (by kernel_rfl) (by kernel_rfl) (by kernel_rfl) (by kernel_rfl)) ?_
  intro W base args ds gs before hval0 hW hcnd hsz0 _
  have hsz : (DataW.weightsEach Tryz.prog (Tryz.f3.params.toList ++ Rows.layoutTellsSpec.plain.varTypes Tryz.prog) (ds ++ gs)).all (· ≤ reachBytes) = true := hsz0
  clear hsz0
  have hval : ∀ (j : Nat) t v, Tryz.f3.params[j]? = some t → args[j]? = some v → Value.okWide Tryz.prog W .any base t v := hval0
  have hW' := hW
  obtain ⟨p, q, hA0, hV, rfl, hfz, hnd⟩ := hW
  have hA : DataW.TrodAll enc Tryz.prog W 0 (fun _ => true) true Tryz.f3.params.toList args.toList ds p := hA0
  rw [Tryz.params3] at hA hval hsz
  obtain ⟨v0, v1, v2, d0, d1, d2, p0, p1, p2, rfl, rfl, rfl, h0, h1, h2⟩ := trodAll_three hA
  obtain ⟨rfl, rfl⟩ := trodVars_none hV
  obtain ⟨a0, len0, cap0, rfl⟩ := okWide_slice Tryz.underlying22 (hval 0 22 v0 rfl rfl)
  have lt0 : ∀ x ∈ p0, x.block < W.heap.size := by obtain ⟨n, hn⟩ := h0; exact DataW.trod_lt n _ _ _ hn
  obtain ⟨x, rfl, rfl, rfl, wx⟩ := open_int Tryz.underlying3 (hval 1 3 v1 rfl rfl) h1
  obtain ⟨nm, rfl, rfl, rfl, ws⟩ := open_string Tryz.underlying9 (hval 2 9 v2 rfl rfl) h2
  clear hA0 hval0
  obtain ⟨rs, hin, hl72, hok⟩ := rows_arg h0 (weights_at hsz 0 _ _ rfl rfl)
  refine (tells_c hin hl72 hok x nm).mono fun e W' ⟨he, bel⟩ => ?_
  subst he
  exact ⟨_, rfl, _, _, _, [], _, [], hW', trodAll_mk1 (shut_bool Tryz.underlying4 _), trodAll_mk3 (Below.trod laidOut (by kernel_rfl) (of_decide_eq_true (by kernel_rfl)) h0 bel lt0) (shut_int Tryz.underlying3 wx) (shut_string Tryz.underlying9 ws), rfl, bel.frame _, fun h => by cases h⟩
theorem layoutTells_holds : Rows.LayoutTellsSaid :=
  OpenClaim.holds_of_wide 3 Tryz.f3 rfl rfl rfl rfl rfl rfl rfl ⟨rfl, rfl, rfl, rfl, rfl⟩ rfl rfl rfl rfl rfl (by kernel_rfl) Tryz.func3 (by kernel_rfl)
    (of_decide_eq_true (by kernel_rfl)) (by unfold Func.isWrapper; first | (rw [if_pos (by decide +kernel)]; kernel_rfl) | (rw [if_neg (by decide +kernel)]; exact ⟨rfl, rfl⟩))
    (fun os started H enc _ => tells_lifted os started H enc)
#print axioms layoutTells_holds
end Go.Proofs.YtcjbijcnhjnckaaGreat
