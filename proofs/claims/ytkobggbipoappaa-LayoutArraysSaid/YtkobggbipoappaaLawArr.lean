/-
  The law LayoutArrays' own walk.
-/
import Derived.Test.YtkobggbipoappaaLyArr
import Derived.Test.YtkobggbipoappaaHRowOpen
import Derived.BigQuiet
import Derived.Laws.StructEq
import Derived.WalkKit
namespace Go.Proofs.Ytkobggbipoappaa
open Go.RowKit Go.Maps
set_option linter.unusedVariables false
set_option maxRecDepth 100000
theorem eqP (P : Pl) (Y : World) : (binOp .eql TPl (.agg #[.int .i64 P.mem, .int .i64 P.type, .int .i64 P.off, .int .i64 P.bit, .int .i64 P.bits]) (.agg #[.int .i64 P.mem, .int .i64 P.type, .int .i64 P.off, .int .i64 P.bit, .int .i64 P.bits])).run Try.prog Y = .ok (.bool true) Y := by
  have hT : Try.prog.underlying TPl = some (.struct (Try.prog.fieldsOf TPl)) := by kernel_rfl
  have hp : Try.prog.stoodInHeld TPl = false := by kernel_rfl
  have h3 := Try.underlying3
  rw [run_eql_struct, run_equalIn_agg _ 9999 _ _ _ hT hp]
  simp only [Program.fieldsOf, Try.underlying34]
  go_simp
section
variable {rs : List (Rw × Value)} {M : Int → Ex}
/-- An array is its elements: its size and alignment, or why it has none. -/
theorem arr_facts (hf : FromOK rs) (hM : IsMeas (rowsOf rs) M) {i : Nat} {p : Rw × Value} (hp : rs[i]? = some p) (hk : p.1.kind = 14) (hn : 1 ≤ p.1.len) :
    (openE rs M p.1.elem = 51 ∧ openE rs M i = 51) ∨
    (openE rs M p.1.elem = 0 ∧ openX rs M p.1.elem = M p.1.elem ∧ 1 ≤ (M p.1.elem).size ∧ (M p.1.elem).size ≤ 16384 ∧ p.1.len ≤ 16384 ∧
      ((openE rs M i = 51 ∧ 16384 < p.1.len * (M p.1.elem).size) ∨ (openE rs M i = 0 ∧ (openX rs M i).size = p.1.len * (M p.1.elem).size ∧ (openX rs M i).align = (M p.1.elem).align ∧ wholeR p.1 = true ∧ p.1.len * (M p.1.elem).size ≤ 16384))) := by
  have hlt : i < rs.length := (List.getElem?_eq_some_iff.1 hp).1
  obtain ⟨x0, x1, hwe, hln, _⟩ := ok_arr hf hp hk
  obtain ⟨q, hq, hwq, _, xl⟩ := whole_at hwe
  have hwh : wholeR p.1 = true := by unfold wholeR; rw [if_pos hk]; simp; omega
  have hxe : p.1.elem = (p.1.elem.toNat : Int) := by omega
  have hE : ExOK (M p.1.elem) := by rw [hxe]; exact meas_ok hf hM _ q hq hwq
  have hlo := hE.lo
  have hln2 : p.1.len ≤ 16384 := by simp [lenK] at hln; omega
  have hhe : hasP rs.length p.1.elem = true := by simp [hasP]; omega
  have hhi : hasP rs.length (i : Int) = true := by simp [hasP]; omega
  have hwi : wholeP rs (i : Int) = true := by rw [wholeP_at hp]; exact hwh
  have hMi := hM i p.1 (rows_at hp)
  unfold roomP clampE at hMi
  rw [if_pos hk] at hMi
  have hsz : (M i).size = min (p.1.len * (M p.1.elem).size) 16385 := by rw [hMi]
  have hal : (M i).align = (M p.1.elem).align := by rw [hMi]
  have hmul : (M p.1.elem).size ≤ p.1.len * (M p.1.elem).size := by
    have := Int.mul_le_mul_of_nonneg_right hn (show 0 ≤ (M p.1.elem).size by omega)
    rwa [Int.one_mul] at this
  by_cases hg : 16384 < (M p.1.elem).size
  · left
    exact ⟨(openE_large hhe hwe hg).1, (openE_large hhi hwi (by omega)).1⟩
  · right
    obtain ⟨e1, e2⟩ := openE_ok hhe hwe (by omega : (M p.1.elem).size ≤ 16384)
    refine ⟨e1, e2, hlo, by omega, hln2, ?_⟩
    by_cases hg2 : 16384 < (M i).size
    · exact .inl ⟨(openE_large hhi hwi hg2).1, by omega⟩
    · obtain ⟨e3, e4⟩ := openE_ok hhi hwi (by omega : (M i).size ≤ 16384)
      exact .inr ⟨e3, by rw [e4]; omega, by rw [e4]; exact hal, hwh, by omega⟩
/-- The walk to an element. -/
theorem walk_elem (hM : IsMeas (rowsOf rs) M) {i : Nat} {p : Rw × Value} (hp : rs[i]? = some p) (hk : p.1.kind = 14) (he : openE rs M i = 0) {k : Int} (h0 : 0 ≤ k) (h1 : k < p.1.len) :
    walkR rs M i [(⟨#[]⟩, k)] = (⟨0, p.1.elem, k * (M p.1.elem).size, 0, 0⟩, 0) := by
  have hh : hopP M p.1 ⟨0, i, 0, 0, 0⟩ ⟨#[]⟩ k = (⟨0, p.1.elem, 0 + k * (M p.1.elem).size, 0, 0⟩, true) := by
    unfold hopP
    rw [if_neg (by simp [ByteArray.toList, ByteArray.toList.loop, ByteArray.size]), if_pos ⟨hk, h0, h1⟩]
  have hw : walkP rs M ⟨0, i, 0, 0, 0⟩ [(⟨#[]⟩, k)] = some ⟨0, p.1.elem, 0 + k * (M p.1.elem).size, 0, 0⟩ := by
    unfold walkP
    simp only [Int.toNat_natCast, hp, hh]
    rfl
  unfold walkR
  rw [if_pos he, hw, Int.zero_add]
  rfl
end
/-- A slice of one hop. -/
theorem hop_new (w : World) (nm : ByteArray) (k : Int) : HopIn (w.alloc (.cells #[.string nm, .int .i64 k] THop)) (.slice (some ⟨w.heap.size, 0, none⟩) 1 1) [(nm, k)] := by
  refine .inl (.inr ⟨w.heap.size, 0, 1, rfl, Nat.le_refl _, by simp, fun i m hm j hj => ?_⟩)
  have hi : i = 0 := by have := (List.getElem?_eq_some_iff.1 hm).1; simp at this; omega
  subst hi
  simp only [List.getElem?_cons_zero, Option.some.injEq] at hm
  subst hm
  rw [Lib.cell_of_heap (heap_r0 w (.cells #[.string nm, .int .i64 k] THop))]
  have : j = 0 ∨ j = 1 := by omega
  rcases this with rfl | rfl <;> rfl
section
variable {w : World}
set_option maxHeartbeats 16000000 in
theorem arrays_c {v : Value} {rs : List (Rw × Value)} (h : RowIn w v rs) (hl : rs.length * 72 ≤ 140737488355328) (hO : ∀ p ∈ rs, Okay p.1) (id n i : Int) (wid : wf64 id) (wn : wf64 n) (wi : wf64 i) :
    Calls Try.prog 3 #[v, .int .i64 id, .int .i64 n, .int .i64 i] w fun e w' => e = .returned (.bool true) ∧ Below w.heap.size w w' := by
  have cB := both_c h hl hO
  have HH : Hid (∀ Y, Below w.heap.size w Y → Calls Try.prog 8 #[] Y fun e w' => e = .returned (.bool true) ∧ Below w.heap.size w w') := fun Y hY => (heads_c Y).mono fun e w' ⟨he, hb⟩ => ⟨he, hY.trans (hb.mono hY.size)⟩
  have nt := not_t
  have nf := not_f
  clear h hl hO
  go_enter Try.func3, Try.ntmps3
  go_wp2_with fail
  refine cB.mono ?_
  rintro e w1 ⟨rfl | ⟨b, mb, tv, trs, rb, rv, rrs, rfl, hD⟩, hb1⟩
  · have H1 : Hid (Below w.heap.size w w1) := hb1
    clear hb1 cB
    go_wp2_with fail
    refine (HH.out _ H1.out).mono ?_
    rintro e wz ⟨rfl, hbz⟩
    have HZ : Hid (Below w.heap.size w wz) := hbz
    clear hbz
    go_wp2
    go_ret
    exact ⟨rfl, HZ.out⟩
  have H1 : Hid (Below w.heap.size w w1) := hb1
  have cA := array_any hD.tab hD.len hD.small hD.uniq hD.ok id n wid wn
  clear cB hD hb1
  go_wp2_with fail
  refine cA.mono ?_
  rintro e w2 ⟨x, y, rfl, hb2, hy | ⟨rfl, v2, rs2, a, p, rfl, T2, F2, S2, L2, hp, hk, hpe, hpn⟩⟩
  · have H2 : Hid (Below w.heap.size w w2) := H1.out.trans hb2
    have hne : (y != 0) = true := by simpa using hy
    clear hb2 cA hy
    go_wp2_with fail
    refine (HH.out _ H2.out).mono ?_
    rintro e wz ⟨rfl, hbz⟩
    have HZ : Hid (Below w.heap.size w wz) := hbz
    clear hbz
    go_wp2
    go_ret
    exact ⟨rfl, HZ.out⟩
  have H2 : Hid (Below w.heap.size w w2) := H1.out.trans hb2
  clear cA hb2
  by_cases hn1 : n < 1
  · have hd1 : decide (n < 1) = true := by simpa using hn1
    clear T2 F2 S2 hp hk hpe hpn
    go_wp2_with fail
    refine (HH.out _ H2.out).mono ?_
    rintro e wz ⟨rfl, hbz⟩
    have HZ : Hid (Below w.heap.size w wz) := hbz
    clear hbz
    go_wp2
    go_ret
    exact ⟨rfl, HZ.out⟩
  have hd1 : decide (n < 1) = false := by simp; omega
  obtain ⟨M, hM⟩ := meas_exists F2
  have hfacts := arr_facts F2 hM hp hk (by omega)
  have HWE : Hid (∀ k : Int, openE rs2 M a = 0 → 0 ≤ k → k < p.1.len → walkR rs2 M a [(⟨#[]⟩, k)] = (⟨0, p.1.elem, k * (M p.1.elem).size, 0, 0⟩, 0)) := fun k he h0 h1 => walk_elem hM hp hk he h0 h1
  rw [hpe, hpn] at hfacts HWE
  have c1 := size_c T2 L2 S2 F2 hM id
  have HT : Hid (Tab w.heap.size w2 b mb v2 rs2 (pairs (rowsOf rs2))) := T2
  have HC : Hid (∀ W, Below w2.heap.size w2 W → Calls Try.prog 10 #[.pointer (some ⟨b, 0, none⟩), .int .i64 (a : Int)] W fun e w' => e = .returned (.tuple #[.int .i64 (openX rs2 M a).size, .int .i64 (openE rs2 M a)]) ∧ Below W.heap.size W w') := fun W hW => size_c (T2.keptB hW) L2 S2 F2 hM a
  have HD : Hid (∀ W, Below w2.heap.size w2 W → Calls Try.prog 11 #[.pointer (some ⟨b, 0, none⟩), .int .i64 id] W fun e w' => e = .returned (.tuple #[.int .i64 (openX rs2 M id).align, .int .i64 (openE rs2 M id)]) ∧ Below W.heap.size W w') := fun W hW => align_c (T2.keptB hW) L2 S2 F2 hM id
  have HE : Hid (∀ W, Below w2.heap.size w2 W → Calls Try.prog 11 #[.pointer (some ⟨b, 0, none⟩), .int .i64 (a : Int)] W fun e w' => e = .returned (.tuple #[.int .i64 (openX rs2 M a).align, .int .i64 (openE rs2 M a)]) ∧ Below W.heap.size W w') := fun W hW => align_c (T2.keptB hW) L2 S2 F2 hM a
  have HF : Hid (∀ (W : World) (x : Value) (l : List Hp), Below w2.heap.size w2 W → HopIn W x l → l.length ≤ 9223372036854775807 → Calls Try.prog 12 #[.pointer (some ⟨b, 0, none⟩), .int .i64 (a : Int), x] W fun e w' => e = .returned (.tuple #[.agg (plV (walkR rs2 M a l).1), .int .i64 (walkR rs2 M a l).2]) ∧ Below W.heap.size W w') := fun W x l hW hx hll => walk_any (T2.keptB hW) L2 S2 F2 hM a hx hll
  clear T2 F2 S2 hp hk hpe hpn
  generalize hg1 : openE rs2 M id = e1 at *
  generalize hg2 : openX rs2 M id = X1 at *
  generalize hg3 : openE rs2 M a = e2 at *
  generalize hg4 : openX rs2 M a = X2 at *
  generalize hg5 : M id = E at *
  clear hg1 hg2 hg3 hg4 hg5 hM
  go_wp2_with fail
  refine c1.mono ?_
  rintro e w3 ⟨rfl, hb3⟩
  have B3 : Hid (Below w2.heap.size w2 w3) := hb3
  clear c1 hb3
  go_wp2_with fail
  refine (HC.out _ B3.out).mono ?_
  rintro e w4 ⟨rfl, hb4⟩
  have B4 : Hid (Below w2.heap.size w2 w4) := B3.out.trans (hb4.mono B3.out.size)
  clear hb4 HC B3
  go_wp2_with fail
  refine (HD.out _ B4.out).mono ?_
  rintro e w5 ⟨rfl, hb5⟩
  have B5 : Hid (Below w2.heap.size w2 w5) := B4.out.trans (hb5.mono B4.out.size)
  clear hb5 HD B4
  go_wp2_with fail
  refine (HE.out _ B5.out).mono ?_
  rintro e w6 ⟨rfl, hb6⟩
  have B6 : Hid (Below w2.heap.size w2 w6) := B5.out.trans (hb6.mono B5.out.size)
  have H6 : Hid (Below w.heap.size w w6) := H2.out.trans (B6.out.mono H2.out.size)
  clear hb6 HE B5
  rcases hfacts with ⟨rfl, rfl⟩ | ⟨rfl, rfl, s1, s2, s3, ⟨rfl, hbig⟩ | ⟨rfl, hx1, hx2, hwh, hsm⟩⟩
  · clear HF HWE
    go_wp2_with fail
    refine (HH.out _ H6.out).mono ?_
    rintro e wz ⟨rfl, hbz⟩
    have HZ : Hid (Below w.heap.size w wz) := hbz
    clear hbz
    go_wp2
    go_ret
    exact ⟨rfl, HZ.out⟩
  · have hm0 : 0 ≤ X1.size * n := Int.mul_nonneg (by omega) (by omega)
    have hm1 : X1.size * n ≤ 16384 * 16384 := Int.mul_le_mul s2 s3 (by omega) (by omega)
    rw [Int.mul_comm] at hbig
    have hw1 : IntKind.i64.wrap (X1.size * n) = X1.size * n := wrap_id hm0 (by omega)
    have hd2 : decide (16384 < X1.size * n) = true := by simpa using hbig
    clear HF HWE hm0 hm1
    go_wp2_with fail
    refine (HH.out _ H6.out).mono ?_
    rintro e wz ⟨rfl, hbz⟩
    have HZ : Hid (Below w.heap.size w wz) := hbz
    clear hbz
    go_wp2
    go_ret
    exact ⟨rfl, HZ.out⟩
  · have hu0 : 0 ≤ IntKind.u64.wrap i := by
      unfold IntKind.wrap
      simp only [IntKind.signed]
      exact Int.emod_nonneg _ (by decide)
    have hbv : ∀ (x y : Int) (Y : World), (Instr.build TPl #[(1, .int .i64 x), (2, .int .i64 y)]).run Try.prog Y = .ok (.agg #[.int .i64 0, .int .i64 x, .int .i64 y, .int .i64 0, .int .i64 0]) Y := fun x y Y => by kernel_rfl
    go_wp2_with fail
    have hk0 : 0 ≤ IntKind.u64.wrap i % n := Int.emod_nonneg _ (by omega)
    have hk1 : IntKind.u64.wrap i % n < n := Int.emod_lt_of_pos _ (by omega)
    have hkw : wrap64 (IntKind.u64.wrap i % n) = IntKind.u64.wrap i % n := by unfold wrap64; omega
    rw [hkw]
    generalize IntKind.u64.wrap i % n = K at *
    have hW := HWE.out K (by trivial) hk0 hk1
    have cW := HF.out (w6.alloc (.cells #[.string ⟨#[]⟩, .int .i64 K] THop)) _ [(⟨#[]⟩, K)] (B6.out.trans ((below1 w6 _).mono B6.out.size)) (hop_new w6 ⟨#[]⟩ K) (by simp)
    rw [hW] at cW
    refine cW.mono ?_
    rintro e w7 ⟨rfl, hb7⟩
    have hm0 : 0 ≤ n * X1.size := Int.mul_nonneg (by omega) (by omega)
    have hw1 : IntKind.i64.wrap (n * X1.size) = n * X1.size := wrap_id hm0 (by omega)
    have hm2 : 0 ≤ K * X1.size := Int.mul_nonneg (by omega) (by omega)
    have hm3 : K * X1.size ≤ 16384 * 16384 := Int.mul_le_mul (by omega) s2 (by omega) (by omega)
    have hw2 : IntKind.i64.wrap (K * X1.size) = K * X1.size := wrap_id hm2 (by omega)
    have hold := heap_r0 w7 (.cells #[.int .i64 0, .int .i64 0, .int .i64 0, .int .i64 0, .int .i64 0] TPl)
    have N8 := heap_r0 w7 (.cells #[.int .i64 0, .int .i64 id, .int .i64 (K * X1.size), .int .i64 0, .int .i64 0] TPl)
    have H7 : Hid (Below w.heap.size w w7) := (H6.out.trans ((below1 w6 (.cells #[.string ⟨#[]⟩, .int .i64 K] THop)).mono H6.out.size)).trans (hb7.mono (Nat.le_trans H6.out.size (below1 w6 (.cells #[.string ⟨#[]⟩, .int .i64 K] THop)).size))
    have H8 : Hid (Below w.heap.size w (w7.alloc (.cells #[.int .i64 0, .int .i64 id, .int .i64 (K * X1.size), .int .i64 0, .int .i64 0] TPl))) := H7.out.trans ((below1 w7 _).mono H7.out.size)
    have z0 := Lib.cell_of_heap N8 0
    have z1 := Lib.cell_of_heap N8 1
    have z2 := Lib.cell_of_heap N8 2
    have z3 := Lib.cell_of_heap N8 3
    have z4 := Lib.cell_of_heap N8 4
    simp only [List.getElem?_toArray, List.getElem?_cons_zero, List.getElem?_cons_succ] at z0 z1 z2 z3 z4
    have heq := eqP ⟨0, id, K * X1.size, 0, 0⟩
    simp only at heq
    clear cW hW HWE HF hb7 N8 hm0 hm2 hm3 hkw hu0
    go_wp2_with (first | ((with_reducible apply step_store hold); rfl; rfl; kernel_rfl; rfl; kernel_rfl; rw [World.setRow_alloc_new]) | fail)
    refine (HH.out _ H8.out).mono ?_
    rintro e wz ⟨rfl, hbz⟩
    have HZ : Hid (Below w.heap.size w wz) := hbz
    clear hbz
    go_wp2
    go_ret
    exact ⟨rfl, HZ.out⟩
end
end Go.Proofs.Ytkobggbipoappaa
