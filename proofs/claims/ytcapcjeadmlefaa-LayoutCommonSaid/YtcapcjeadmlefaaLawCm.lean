/-
  The law LayoutCommon's own walk.
-/
import Derived.Test.YtcapcjeadmlefaaLyCm
import Derived.Test.YtcapcjeadmlefaaHRowOpen
import Derived.BigQuiet
import Derived.Deep.CutBlock
import Derived.Deep.CutRange
import Derived.Deep.DeepCutAuto
import Derived.Laws.StructEq
import Derived.WalkKit
import Derived.Deep.RegionHeld3
namespace Go.Proofs.Ytcapcjeadmlefaa
open Go.RowKit Go.Maps
set_option linter.unusedVariables false
set_option maxRecDepth 100000
theorem eqM (x y : Mb) (Y : World) : (binOp .eql TM (.agg #[.string x.name, .int .i64 x.type, .int .i64 x.bits]) (.agg #[.string y.name, .int .i64 y.type, .int .i64 y.bits])).run Try.prog Y = .ok (.bool (sameM x y)) Y := by
  have hT : Try.prog.underlying TM = some (.struct (Try.prog.fieldsOf TM)) := by kernel_rfl
  have hp : Try.prog.stoodInHeld TM = false := by kernel_rfl
  have h9 := Try.underlying9
  have h3 := Try.underlying3
  obtain ⟨xn, xt, xb⟩ := x
  obtain ⟨yn, yt, yb⟩ := y
  rw [run_eql_struct, run_equalIn_agg _ 9999 _ _ _ hT hp]
  unfold sameM
  rcases hn : (xn.toList == yn.toList) with _ | _ <;> rcases ht : (xt == yt) with _ | _ <;> rcases hb : (xb == yb) with _ | _
  all_goals simp only [Program.fieldsOf, Try.underlying49]
  all_goals go_simp
theorem neP (P : Pl) (Y : World) : (binOp .neq TPl (.agg #[.int .i64 P.mem, .int .i64 P.type, .int .i64 P.off, .int .i64 P.bit, .int .i64 P.bits]) (.agg #[.int .i64 P.mem, .int .i64 P.type, .int .i64 P.off, .int .i64 P.bit, .int .i64 P.bits])).run Try.prog Y = .ok (.bool false) Y := by
  have hT : Try.prog.underlying TPl = some (.struct (Try.prog.fieldsOf TPl)) := by kernel_rfl
  have hp : Try.prog.stoodInHeld TPl = false := by kernel_rfl
  have h3 := Try.underlying3
  rw [run_neq_struct, run_equalIn_agg _ 9999 _ _ _ hT hp]
  simp only [Program.fieldsOf, Try.underlying34]
  go_simp
theorem places_len {un : Bool} {M : Int → Ex} : ∀ (l : List Mb) (s : Ls) (i : Nat), (placesS un M s i l).length ≤ l.length
  | [], _, _ => by simp [placesS]
  | m :: l, s, i => by
    have := places_len (un := un) (M := M) l (stepP un M s m) (i + 1)
    simp only [placesS, List.length_append, List.length_cons]
    split <;> simp <;> omega
theorem below_drN {B : Nat} {w w' : World} (h : Below B w w') (n : Nat) : Below B w (w'.drewN n) := ⟨h.os, h.tape, h.output, h.size, h.block⟩
section
variable {w : World}
/-- Places of a struct of a table: its places, or an error. -/
theorem places_any {B : Nat} {w : World} {b mb : Nat} {v : Value} {rs : List (Rw × Value)} {ps : List (Value × Value)} {M : Int → Ex} (h : Tab B w b mb v rs ps) (hs : Small rs) (hf : FromOK rs) (hM : IsMeas (rowsOf rs) M) {i : Nat} {p : Rw × Value} (hp : rs[i]? = some p) (hwh : wholeR p.1 = true) (hk : recK p.1.kind = true) :
    Calls Try.prog 15 #[.pointer (some ⟨b, 0, none⟩), .int .i64 i] w fun e w' => ∃ s er, e = .returned (.tuple #[s, .int .i64 er]) ∧ Below w.heap.size w w' ∧ ((er != 0) = true ∨ (er = 0 ∧ w'.ownsRow w.heap.size TPl 5 s (placesS (p.1.kind == 16) M ls0 0 p.1.mem).length (plCells (placesS (p.1.kind == 16) M ls0 0 p.1.mem)))) := by
  have hlt : i < rs.length := (List.getElem?_eq_some_iff.1 hp).1
  by_cases hg : (M i).size ≤ 16384
  · refine (places_ok h hs hf hM hp hwh hg hk).mono ?_
    rintro e w' ⟨s, rfl, ho, hb⟩
    exact ⟨s, 0, rfl, hb, .inr ⟨rfl, ho⟩⟩
  · have hh : hasP rs.length (i : Int) = true := by simp [hasP]; omega
    have e1 := openE_large (rs := rs) (M := M) (id := i) hh (by rw [wholeP_at hp]; exact hwh) (by omega)
    refine (places_err i (openE rs M i) (by rw [e1.1]; decide) (openR_err h (by omega) hs hf hM i (by rw [e1.1]; decide))).mono ?_
    rintro e w' ⟨rfl, hb⟩
    exact ⟨_, _, rfl, hb, .inl (by rw [e1.1]; decide)⟩
/-- A slice of members that came in, in every later world. -/
theorem memIn_cells {w : World} {x : Value} {l : List Mb} (h : MemIn w x l) : ∃ p c, x = .slice p l.length c ∧ ∀ j m, l[j]? = some m → ∃ g o, p = some ⟨g, o, none⟩ ∧ l.length ≤ c ∧ ∀ Y, Below w.heap.size w Y → ∀ k, k < 3 → Y.cell? ⟨g, o + j * 3 + k, none⟩ = (mbCells m)[k]? := by
  rcases h with (⟨rfl, rfl⟩ | ⟨g, o, c, rfl, hc, hg, hcell⟩) | ⟨a, c, rfl, rfl⟩
  · exact ⟨none, 0, rfl, fun j m hm => by simp at hm⟩
  · exact ⟨_, c, rfl, fun j m hm => ⟨g, o, rfl, hc, fun Y hY k hk => (hY.cell (p := ⟨g, o + j * 3 + k, none⟩) hg).trans (hcell j m hm k hk)⟩⟩
  · exact ⟨_, c, rfl, fun j m hm => by simp at hm⟩
theorem plCells_at : ∀ (l : List Pl) (i : Nat) (P : Pl), l[i]? = some P → ∀ k, k < 5 → (plCells l)[i * 5 + k]? = (plV P).toList[k]?
  | [], i, P, h, _, _ => by simp at h
  | a :: l, 0, P, h, k, hk => by
    simp only [List.getElem?_cons_zero, Option.some.injEq] at h
    subst h
    simp only [plCells, List.flatMap_cons, Nat.zero_mul, Nat.zero_add]
    rw [List.getElem?_append_left (by simpa using hk)]
  | a :: l, i + 1, P, h, k, hk => by
    simp only [List.getElem?_cons_succ] at h
    have := plCells_at l i P h k hk
    simp only [plCells, List.flatMap_cons]
    rw [List.getElem?_append_right (by simp; omega), show (i + 1) * 5 + k - (plV a).toList.length = i * 5 + k by simp; omega]
    exact this
set_option maxHeartbeats 16000000 in
theorem common_c {v x1 x2 : Value} {rs : List (Rw × Value)} {f s : List Mb} (h : RowIn w v rs) (hl : rs.length * 72 ≤ 140737488355328) (hO : ∀ p ∈ rs, Okay p.1) (h1 : MemIn w x1 f) (h2 : MemIn w x2 s)
    (n1 : ∀ m ∈ f, m.name.size ≤ 9223372036854775807) (n2 : ∀ m ∈ s, m.name.size ≤ 9223372036854775807) (l1 : f.length ≤ 9223372036854775807) (l2 : s.length ≤ 9223372036854775807) :
    Calls Try.prog 5 #[v, x1, x2] w fun e w' => e = .returned (.bool true) ∧ Below w.heap.size w w' := by
  have cB := both_c h hl hO
  have HM1 : Hid (MemIn w x1 f) := h1
  have HM2 : Hid (MemIn w x2 s) := h2
  have HN1 : Hid (∀ m ∈ f, m.name.size ≤ 9223372036854775807) := n1
  have HN2 : Hid (∀ m ∈ s, m.name.size ≤ 9223372036854775807) := n2
  obtain ⟨q1, c1, rfl, hc1⟩ := memIn_cells h1
  obtain ⟨q2, c2, rfl, hc2⟩ := memIn_cells h2
  have HC1 : Hid (∀ j m, f[j]? = some m → ∃ g o, q1 = some ⟨g, o, none⟩ ∧ f.length ≤ c1 ∧ ∀ Y, Below w.heap.size w Y → ∀ k, k < 3 → Y.cell? ⟨g, o + j * 3 + k, none⟩ = (mbCells m)[k]?) := hc1
  have HC2 : Hid (∀ j m, s[j]? = some m → ∃ g o, q2 = some ⟨g, o, none⟩ ∧ s.length ≤ c2 ∧ ∀ Y, Below w.heap.size w Y → ∀ k, k < 3 → Y.cell? ⟨g, o + j * 3 + k, none⟩ = (mbCells m)[k]?) := hc2
  have HH : Hid (∀ Y, Below w.heap.size w Y → Calls Try.prog 8 #[] Y fun e w' => e = .returned (.bool true) ∧ Below w.heap.size w w') := fun Y hY => (heads_c Y).mono fun e w' ⟨he, hb⟩ => ⟨he, hY.trans (hb.mono hY.size)⟩
  have nt := not_t
  have nf := not_f
  clear h hl hO h1 h2 n1 n2 hc1 hc2
  go_enter Try.func5, Try.ntmps5
  go_wp2_with fail
  refine cB.mono ?_
  rintro e w1 ⟨rfl | ⟨b, mb, tv, trs, rb, rv, rrs, rfl, hD⟩, hb1⟩
  · have H1 : Hid (Below w.heap.size w w1) := hb1
    clear hb1 cB
    go_wp2_with fail
    refine (HH.out _ H1.out).mono ?_
    rintro e w2 ⟨rfl, hb2⟩
    have H2 : Hid (Below w.heap.size w w2) := hb2
    clear hb2
    go_wp2
    go_ret
    exact ⟨rfl, H2.out⟩
  have H1 : Hid (Below w.heap.size w w1) := hb1
  have HT : Hid (Tab w.heap.size w1 b mb tv trs (pairs (rowsOf trs))) := hD.tab
  have HOK : Hid (FromOK trs) := hD.ok
  have HSM : Hid (Small trs) := hD.small
  have hlen := hD.len
  have hl512 := hD.tab.len
  clear cB hD hb1
  -- two structs
  by_cases hf1 : trs.length = 512
  · have cA := struct_full HT.out ⟨#[65]⟩ (by omega) (by decide) (by decide) hf1
    go_wp2_with fail
    refine cA.mono ?_
    rintro e w2 ⟨rfl, hb2⟩
    have H2 : Hid (Below w.heap.size w w2) := H1.out.trans (hb2.mono H1.out.size)
    have cB2 := struct_full (HT.out.keptB hb2) ⟨#[66]⟩ (by omega) (by decide) (by decide) hf1
    clear cA hb2
    go_wp2_with fail
    refine cB2.mono ?_
    rintro e w3 ⟨rfl, hb3⟩
    have H3 : Hid (Below w.heap.size w w3) := H2.out.trans (hb3.mono H2.out.size)
    clear cB2 hb3
    go_wp2_with fail
    refine (HH.out _ H3.out).mono ?_
    rintro e wz ⟨rfl, hbz⟩
    have HZ : Hid (Below w.heap.size w wz) := hbz
    clear hbz
    go_wp2
    go_ret
    exact ⟨rfl, HZ.out⟩
  have cA := struct_t HT.out ⟨#[65]⟩ (by omega) (by decide) (by decide) (by omega) rfl
  go_wp2_with fail
  refine cA.mono ?_
  rintro e w2 ⟨rfl, v2, h2, ht2⟩
  have H2 : Hid (Below w.heap.size w w2) := H1.out.trans (HT.out.below ht2)
  have OK2 : FromOK (trs ++ [(⟨15, 0, 0, ⟨#[65]⟩, [], false⟩, .slice none 0 0)]) := HOK.out.more (enter_tag (.inr (.inl rfl)) (by decide) (by omega) _) _
  have hl2 : (trs ++ [((⟨15, 0, 0, ⟨#[65]⟩, [], false⟩ : Rw), (.slice none 0 0 : Value))]).length = trs.length + 1 := by simp
  by_cases hf2 : trs.length + 1 = 512
  · have cB2 := struct_full h2 ⟨#[66]⟩ (by simp) (by decide) (by decide) (by rw [hl2]; exact hf2)
    clear cA ht2
    go_wp2_with fail
    refine cB2.mono ?_
    rintro e w3 ⟨rfl, hb3⟩
    have H3 : Hid (Below w.heap.size w w3) := H2.out.trans (hb3.mono H2.out.size)
    clear cB2 hb3
    go_wp2_with fail
    refine (HH.out _ H3.out).mono ?_
    rintro e wz ⟨rfl, hbz⟩
    have HZ : Hid (Below w.heap.size w wz) := hbz
    clear hbz
    go_wp2
    go_ret
    exact ⟨rfl, HZ.out⟩
  have cB2 := struct_t h2 ⟨#[66]⟩ (by simp) (by decide) (by decide) (by rw [hl2]; omega) (n := (trs.length : Int) + 1) (by rw [hl2]; omega)
  clear cA ht2
  go_wp2_with fail
  refine cB2.mono ?_
  rintro e w3 ⟨rfl, v3, h3, ht3⟩
  have H3 : Hid (Below w.heap.size w w3) := H2.out.trans (h2.below ht3)
  have OK3 : FromOK ((trs ++ [((⟨15, 0, 0, ⟨#[65]⟩, [], false⟩ : Rw), (.slice none 0 0 : Value))]) ++ [(⟨15, 0, 0, ⟨#[66]⟩, [], false⟩, .slice none 0 0)]) := OK2.more (enter_tag (.inr (.inl rfl)) (by decide) (by rw [hl2]; omega) _) _
  clear cB2 ht3 h2 OK2
  obtain ⟨rs3, hr3⟩ : ∃ rs3, rs3 = (trs ++ [((⟨15, 0, 0, ⟨#[65]⟩, [], false⟩ : Rw), (.slice none 0 0 : Value))]) ++ [(⟨15, 0, 0, ⟨#[66]⟩, [], false⟩, .slice none 0 0)] := ⟨_, rfl⟩
  rw [← hr3] at h3 OK3
  have hl3 : rs3.length = trs.length + 2 := by rw [hr3]; simp
  have hA3 : rs3[trs.length]? = some (⟨15, 0, 0, ⟨#[65]⟩, [], false⟩, .slice none 0 0) := by rw [hr3]; simp
  have hB3 : rs3[trs.length + 1]? = some (⟨15, 0, 0, ⟨#[66]⟩, [], false⟩, .slice none 0 0) := by rw [hr3, List.getElem?_append_right (by simp)]; simp
  have SM3 : Small rs3 := by
    intro p hp
    rw [hr3] at hp
    simp only [List.mem_append, List.mem_singleton] at hp
    rcases hp with (hp | rfl) | rfl
    · exact HSM.out p hp
    · exact Nat.zero_le _
    · exact Nat.zero_le _
  have cC := complete_any h3 (by omega) (HM1.out.below H3.out) HN1.out l1 hA3 (by decide) rfl
  have HT3 : Hid (Tab w.heap.size w3 b mb v3 rs3 _) := h3
  clear h3 hr3
  go_wp2_with fail
  refine cC.mono ?_
  rintro e w4 ⟨y, rfl, ⟨hy, hb4⟩ | ⟨rfl, hrf, s4, h4, ht4⟩⟩
  · have H4 : Hid (Below w.heap.size w w4) := H3.out.trans (hb4.mono H3.out.size)
    clear cC hb4
    go_wp2_with fail
    refine (HH.out _ H4.out).mono ?_
    rintro e wz ⟨rfl, hbz⟩
    have HZ : Hid (Below w.heap.size w wz) := hbz
    clear hbz
    go_wp2
    go_ret
    exact ⟨rfl, HZ.out⟩
  have H4 : Hid (Below w.heap.size w w4) := H3.out.trans (HT3.out.below ht4)
  have OK4 := OK3.set (r := ⟨15, 0, 0, ⟨#[65]⟩, [], false⟩) hA3 (by decide) rfl hrf s4
  have hl64 : f.length ≤ 64 := (refus_len hrf).2.1
  obtain ⟨rs4, hr4⟩ : ∃ rs4, rs4 = rs3.set trs.length (⟨15, 0, 0, ⟨#[65]⟩, f, true⟩, s4) := ⟨_, rfl⟩
  rw [← hr4] at h4
  have OK4' : FromOK rs4 := by rw [hr4]; exact OK4
  have hl4 : rs4.length = trs.length + 2 := by rw [hr4]; simp [hl3]
  have hA4 : rs4[trs.length]? = some (⟨15, 0, 0, ⟨#[65]⟩, f, true⟩, s4) := by rw [hr4, List.getElem?_set]; simp; omega
  have hB4 : rs4[trs.length + 1]? = some (⟨15, 0, 0, ⟨#[66]⟩, [], false⟩, .slice none 0 0) := by rw [hr4, List.getElem?_set]; simp [hB3]
  have SM4 : Small rs4 := by
    intro p hp
    rw [hr4] at hp
    rcases List.mem_or_eq_of_mem_set hp with hp | rfl
    · exact SM3 p hp
    · exact hl64
  have cC2 := complete_any h4 (by omega) (HM2.out.below H4.out) HN2.out l2 hB4 (by decide) rfl
  have HT4 : Hid (Tab w.heap.size w4 b mb v3 rs4 _) := h4
  clear cC ht4 h4 hr4 OK4 hrf HT3 H3 SM3 OK3 hA3 hB3
  rw [show ((trs.length + 1 : Nat) : Int) = (trs.length : Int) + 1 by omega] at cC2
  go_wp2_with fail
  refine cC2.mono ?_
  rintro e w5 ⟨y, rfl, ⟨hy, hb5⟩ | ⟨rfl, hrf, s5, h5, ht5⟩⟩
  · have H5 : Hid (Below w.heap.size w w5) := H4.out.trans (hb5.mono H4.out.size)
    clear cC2 hb5
    go_wp2_with fail
    refine (HH.out _ H5.out).mono ?_
    rintro e wz ⟨rfl, hbz⟩
    have HZ : Hid (Below w.heap.size w wz) := hbz
    clear hbz
    go_wp2
    go_ret
    exact ⟨rfl, HZ.out⟩
  have H5 : Hid (Below w.heap.size w w5) := H4.out.trans (HT4.out.below ht5)
  have OK5 := OK4'.set (r := ⟨15, 0, 0, ⟨#[66]⟩, [], false⟩) hB4 (by decide) rfl hrf s5
  have hs64 : s.length ≤ 64 := (refus_len hrf).2.1
  obtain ⟨rs5, hr5⟩ : ∃ rs5, rs5 = rs4.set (trs.length + 1) (⟨15, 0, 0, ⟨#[66]⟩, s, true⟩, s5) := ⟨_, rfl⟩
  rw [← hr5] at h5
  have OK5' : FromOK rs5 := by rw [hr5]; exact OK5
  have hA5 : rs5[trs.length]? = some (⟨15, 0, 0, ⟨#[65]⟩, f, true⟩, s4) := by rw [hr5, List.getElem?_set]; simp [hA4]
  have hB5 : rs5[trs.length + 1]? = some (⟨15, 0, 0, ⟨#[66]⟩, s, true⟩, s5) := by rw [hr5, List.getElem?_set]; simp; omega
  have SM5 : Small rs5 := by
    intro p hp
    rw [hr5] at hp
    rcases List.mem_or_eq_of_mem_set hp with hp | rfl
    · exact SM4 p hp
    · exact hs64
  obtain ⟨M, hM⟩ := meas_exists OK5'
  have cP := places_any h5 SM5 OK5' hM hA5 rfl (show recK 15 = true by decide)
  have HT5 : Hid (Tab w.heap.size w5 b mb v3 rs5 _) := h5
  simp only at cP
  clear cC2 ht5 h5 hr5 OK5 hrf HT4 H4 SM4 OK4' hA4 hB4
  go_wp2_with fail
  refine cP.mono ?_
  rintro e w6 ⟨sl1, er1, rfl, hb6, ho1⟩
  have H6 : Hid (Below w.heap.size w w6) := H5.out.trans (hb6.mono H5.out.size)
  have cP2 := places_any (HT5.out.keptB hb6) SM5 OK5' hM hB5 rfl (show recK 15 = true by decide)
  simp only at cP2
  rw [show ((trs.length + 1 : Nat) : Int) = (trs.length : Int) + 1 by omega] at cP2
  have HO1 : Hid ((er1 != 0) = true ∨ (er1 = 0 ∧ w6.ownsRow w5.heap.size TPl 5 sl1 (placesS ((15 : Int) == 16) M ls0 0 f).length (plCells (placesS ((15 : Int) == 16) M ls0 0 f)))) := ho1
  clear cP hb6 ho1
  go_wp2_with fail
  refine cP2.mono ?_
  rintro e w7 ⟨sl2, er2, rfl, hb7, ho2⟩
  have H7 : Hid (Below w.heap.size w w7) := H6.out.trans (hb7.mono H6.out.size)
  rcases HO1.out with he1 | ⟨rfl, ho1⟩
  · clear cP2 hb7 ho2 HO1
    go_wp2_with fail
    refine (HH.out _ H7.out).mono ?_
    rintro e wz ⟨rfl, hbz⟩
    have HZ : Hid (Below w.heap.size w wz) := hbz
    clear hbz
    go_wp2
    go_ret
    exact ⟨rfl, HZ.out⟩
  rcases ho2 with he2 | ⟨rfl, ho2⟩
  · clear cP2 hb7 HO1 ho1
    go_wp2_with fail
    refine (HH.out _ H7.out).mono ?_
    rintro e wz ⟨rfl, hbz⟩
    have HZ : Hid (Below w.heap.size w wz) := hbz
    clear hbz
    go_wp2
    go_ret
    exact ⟨rfl, HZ.out⟩
  have O1 : Hid (w7.ownsRow w5.heap.size TPl 5 sl1 (placesS ((15 : Int) == 16) M ls0 0 f).length (plCells (placesS ((15 : Int) == 16) M ls0 0 f))) := ownsRow_turned ho1 (Turned.of_below hb7 (fun _ => False)) (fun _ _ h => h.elim)
  have O2 : Hid (w7.ownsRow w6.heap.size TPl 5 sl2 (placesS ((15 : Int) == 16) M ls0 0 s).length (plCells (placesS ((15 : Int) == 16) M ls0 0 s))) := ho2
  have HPC : Hid (∀ (j i : Nat) (P : Pl), f.take j = s.take j → (placesS ((15 : Int) == 16) M ls0 0 f)[i]? = some P → P.mem < (j : Int) → (placesS ((15 : Int) == 16) M ls0 0 s)[i]? = some P) := fun j i P h hi hP => places_common h hi hP
  clear cP2 hb7 ho1 ho2 HO1 SM5 OK5' hM hA5 hB5 HT5 H6 H5
  have hPF : (placesS ((15 : Int) == 16) M ls0 0 f).length ≤ 64 := Nat.le_trans (places_len f ls0 0) hl64
  have hPS : (placesS ((15 : Int) == 16) M ls0 0 s).length ≤ 64 := Nat.le_trans (places_len s ls0 0) hs64
  generalize placesS ((15 : Int) == 16) M ls0 0 f = PF at *
  generalize placesS ((15 : Int) == 16) M ls0 0 s = PS at *
  have E1 : Hid (∀ x y : Mb, ∀ Y : World, _) := eqM
  have E2 : Hid (∀ P : Pl, ∀ Y : World, _) := neP
  go_upto_block 0 with fail
  go_cut [18] from 79 to 101 (fun lv wx => ∃ j : Nat, lv = .int .i64 j ∧ j ≤ f.length ∧ Hid (f.take j = s.take j) ∧ Hid (Below w7.heap.size w7 wx))
  case first =>
    go_wp2_with fail
    go_loopw [18] (fun lv wr => ∃ j : Nat, j ≤ f.length ∧ j ≤ s.length ∧ lv = .int .i64 j ∧ Hid (f.take j = s.take j) ∧ Hid (Below w7.heap.size w7 wr)) (fun lv _ => f.length - (intOf lv).toNat)
    case atStart => exact ⟨0, Nat.zero_le _, Nat.zero_le _, rfl, by simp; trivial, Below.refl _ _⟩
    case round =>
      obtain ⟨j, hj1, hj2, rfl, HTK, HW⟩ := hrel
      by_cases hlt1 : j < f.length
      · by_cases hlt2 : j < s.length
        · obtain ⟨x, hx⟩ : ∃ x, f[j]? = some x := ⟨_, List.getElem?_eq_getElem hlt1⟩
          obtain ⟨y, hy⟩ : ∃ y, s[j]? = some y := ⟨_, List.getElem?_eq_getElem hlt2⟩
          obtain ⟨g1, o1, rfl, hcp1, hcl1⟩ := HC1.out j x hx
          obtain ⟨g2, o2, rfl, hcp2, hcl2⟩ := HC2.out j y hy
          have HWW : Hid (Below w.heap.size w wr) := H7.out.trans (HW.out.mono H7.out.size)
          have a0 := hcl1 wr HWW.out 0 (by omega)
          have a1 := hcl1 wr HWW.out 1 (by omega)
          have a2 := hcl1 wr HWW.out 2 (by omega)
          have d0 := hcl2 wr HWW.out 0 (by omega)
          have d1 := hcl2 wr HWW.out 1 (by omega)
          have d2 := hcl2 wr HWW.out 2 (by omega)
          simp only [mbCells, Nat.add_zero, List.getElem?_cons_zero, List.getElem?_cons_succ] at a0 a1 a2 d0 d1 d2
          have he := E1.out x y
          have HX : Hid (f[j]? = some x) := hx
          have HY : Hid (s[j]? = some y) := hy
          clear hcl1 hcl2 hx hy
          cases hsm : sameM x y with
          | true =>
            rw [hsm] at he
            have HXY : Hid (x = y) := sameM_eq hsm
            clear hsm
            go_wp2
            go_quiet (fail)
            go_wp2
            refine ⟨⟨j + 1, by omega, by omega, by go_num, ?_, below_drN HW.out _⟩, by simp [intOf]; omega⟩
            show f.take (j + 1) = s.take (j + 1)
            rw [take_snoc HX.out, take_snoc HY.out, HTK.out, HXY.out]
          | false =>
            rw [hsm] at he
            clear hsm
            go_wp2
            go_quiet (fail)
            go_wp2
            go_meet
            exact ⟨j, rfl, hj1, HTK, below_drN HW.out _⟩
        · go_wp2
          go_quiet (fail)
          go_wp2
          go_meet
          exact ⟨j, rfl, hj1, HTK, below_drN HW.out _⟩
      · go_wp2
        go_quiet (fail)
        go_wp2
        go_meet
        exact ⟨j, rfl, hj1, HTK, below_drN HW.out _⟩
  case rest =>
    obtain ⟨j, rfl, hjf, HTK, HW⟩ := hcut
    obtain ⟨p1, k1, rfl⟩ := slice_of_own O1.out
    obtain ⟨p2, k2, rfl⟩ := slice_of_own O2.out
    go_wp2
    go_loopw [19] (fun iv wr => ∃ i : Nat, i ≤ PF.length ∧ iv = .int .i64 i ∧ Hid (Below w7.heap.size w7 wr)) (fun iv _ => PF.length - (intOf iv).toNat)
    case atStart => exact ⟨0, Nat.zero_le _, rfl, HW⟩
    case round =>
      obtain ⟨i, hi, rfl, HW2⟩ := hrel
      by_cases hlt : i < PF.length
      · obtain ⟨P, hP⟩ : ∃ P, PF[i]? = some P := ⟨_, List.getElem?_eq_getElem hlt⟩
        obtain ⟨g1, k1', hs1, hg1, hgl1, hk1, hcl1, _⟩ := own_cell (ownsRow_turned O1.out (Turned.of_below HW2.out (fun _ => False)) (fun _ _ h => h.elim)) (by omega)
        cases hs1
        have a0 := hcl1 (i * 5 + 0) _ ((plCells_at PF i P hP 0 (by omega)).trans rfl)
        have a1 := hcl1 (i * 5 + 1) _ ((plCells_at PF i P hP 1 (by omega)).trans rfl)
        have a2 := hcl1 (i * 5 + 2) _ ((plCells_at PF i P hP 2 (by omega)).trans rfl)
        have a3 := hcl1 (i * 5 + 3) _ ((plCells_at PF i P hP 3 (by omega)).trans rfl)
        have a4 := hcl1 (i * 5 + 4) _ ((plCells_at PF i P hP 4 (by omega)).trans rfl)
        simp only [Nat.add_zero] at a0
        clear hcl1
        by_cases hm : P.mem < (j : Int)
        · have hP2 := HPC.out j i P HTK.out hP hm
          have hlt2 : i < PS.length := (List.getElem?_eq_some_iff.1 hP2).1
          obtain ⟨g2, k2', hs2, hg2, hgl2, hk2, hcl2, _⟩ := own_cell (ownsRow_turned O2.out (Turned.of_below HW2.out (fun _ => False)) (fun _ _ h => h.elim)) (by omega)
          cases hs2
          have d0 := hcl2 (i * 5 + 0) _ ((plCells_at PS i P hP2 0 (by omega)).trans rfl)
          have d1 := hcl2 (i * 5 + 1) _ ((plCells_at PS i P hP2 1 (by omega)).trans rfl)
          have d2 := hcl2 (i * 5 + 2) _ ((plCells_at PS i P hP2 2 (by omega)).trans rfl)
          have d3 := hcl2 (i * 5 + 3) _ ((plCells_at PS i P hP2 3 (by omega)).trans rfl)
          have d4 := hcl2 (i * 5 + 4) _ ((plCells_at PS i P hP2 4 (by omega)).trans rfl)
          simp only [Nat.add_zero] at d0
          have he := E2.out P
          clear hcl2 hP hP2
          go_wp2
          go_quiet (fail)
          go_wp2
          exact ⟨⟨i + 1, by omega, by go_num, below_drN HW2.out _⟩, by simp [intOf]; omega⟩
        · clear hP
          go_wp2_with fail
          have HZ0 : Hid (Below w.heap.size w wr) := H7.out.trans ((HW2.out).mono H7.out.size)
          refine (HH.out _ HZ0.out).mono ?_
          rintro e wz ⟨rfl, hbz⟩
          have HZ : Hid (Below w.heap.size w wz) := hbz
          clear hbz
          go_wp2
          go_ret
          exact ⟨rfl, HZ.out⟩
      · go_wp2_with fail
        have HZ0 : Hid (Below w.heap.size w wr) := H7.out.trans ((HW2.out).mono H7.out.size)
        refine (HH.out _ HZ0.out).mono ?_
        rintro e wz ⟨rfl, hbz⟩
        have HZ : Hid (Below w.heap.size w wz) := hbz
        clear hbz
        go_wp2
        go_ret
        exact ⟨rfl, HZ.out⟩
end
end Go.Proofs.Ytcapcjeadmlefaa
