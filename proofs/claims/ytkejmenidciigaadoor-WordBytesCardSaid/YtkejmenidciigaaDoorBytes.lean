/-
  The law WordBytes returns true at every number of 32 bits, every int, every slice of bytes and both truths, and each argument reads afterwards as before. No condition beyond the given statement's own (the table of names holds what the program's text lays into it; a slice that comes in takes at most 2 to the power of 47 less 4096 bytes, as every statement of this form has it).
-/
import Derived.Test.YtkejmenidciigaaDoorFrame
import Derived.Test.YtkejmenidciigaaDoorRefBytes
import Derived.Test.YtkejmenidciigaaDoorTie
import Derived.Test.YtkejmenidciigaaDoorCards
import Derived.Laws.AppendOwnNone
import Derived.SizedLaws
import Derived.SevenTiedAt
namespace Go.Proofs.YtkejmenidciigaaDoor
open Go.ChangeShapes Go.WideShapes Go.ChangeAt Go.RowKit
set_option linter.unusedVariables false

theorem below_chain {w w1 w2 w3 w4 : World} (h1 : Below w.heap.size w w1) (h2 : Below w1.heap.size w1 w2) (h3 : Below w2.heap.size w2 w3) (n1 n2 : Nat) (h4 : Below w3.heap.size (w3.drewN (n1 + n2)) w4) : Below w.heap.size w w4 := by
  have s1 := h1.size
  have s2 := h2.size
  have s3 := h3.size
  refine h1.trans ((h2.mono s1).trans ((h3.mono (by omega)).trans ?_))
  exact (below_drewN (Below.refl _ _) (n1 + n2)).trans (h4.mono (by omega))
theorem src_cells {w : World} {ad : Addr} {zs : List Int} (h : Row w (some ad) zs) (o : Obj) : ∀ j u, (zs.map (Value.int .u8))[j]? = some u → (w.alloc o).cell? (ad.add j) = some u := by
  intro j u hj
  obtain ⟨_, _, h | ⟨b, off, e, hc⟩⟩ := h
  · subst h; simp at hj
  · obtain rfl := Option.some.inj e
    have hjl : j < zs.length := by
      have := (List.getElem?_eq_some_iff.1 hj).1
      simpa using this
    have hcj := hc j hjl
    have hu : u = .int .u8 (zs.getD j 0) := by
      rw [List.getElem?_map, List.getElem?_eq_getElem hjl] at hj
      rw [List.getD_eq_getElem?_getD, List.getElem?_eq_getElem hjl]
      simpa using hj.symm
    subst hu
    rw [Addr.add_lit]
    exact (World.cell?_alloc_lt w o _ (World.block_lt_of_cell? w _ hcj)).trans hcj
theorem one_cells (zs : List Int) : ∀ u ∈ zs.map (Value.int .u8), u.oneCell' = true := by
  intro x hx
  simp only [List.mem_map] at hx
  obtain ⟨z, _, rfl⟩ := hx
  rfl

set_option maxRecDepth 100000 in
set_option maxHeartbeats 2000000 in
theorem bytes_none (v width : Int) (s : Bool) (w : World) (v0 : 0 ≤ v) (v1 : v < 4294967296) (hn : w.cell? ⟨0, 18, none⟩ = some (.string ⟨#[108, 101, 117]⟩)) (hh : 0 < w.heap.size) :
    Calls Tryd.prog 7 #[.int .u32 v, .int .i64 width, .slice none 0 0, .bool s] w fun e w' => e = .returned (.bool true) ∧ Below w.heap.size w w' := by
  obtain ⟨u, e, V10, V20⟩ := value_both [] s
  simp only [List.length_nil] at V10 V20
  obtain ⟨ys, Y10, Y20⟩ := both_bytes v width v0 v1
  have V1 : Hid _ := V10; have V2 : Hid _ := V20; have Y1 : Hid _ := Y10; have Y2 : Hid _ := Y20
  clear V10 V20 Y10 Y20
  obtain ⟨i0, hi, hz0, hz1, hz2⟩ := info_parts info_u8
  have hrow : Row w none [] := ⟨by simp, by simp, .inl rfl⟩
  have hm : True := trivial
  have hz : True := trivial
  have hr1' : ∀ w' a, Row w' a [] := fun w' a => ⟨by simp, by simp, .inl rfl⟩
  have HR : Hid _ := hr1'
  clear hr1'
  go_enter Tryd.func7, Tryd.ntmps7
  go_wp2_with (at_builtin; go_must (refine wpList_append_own_none rfl (.tmp 14) (.tmp 15) 38 rfl w.heap.size 5 i0 1 Tryd.underlying38 hi _ 0 [] rfl (World.ownsRow_made (base := w.heap.size) w #[] 0 (Nat.le_refl _) (Nat.zero_le _) rfl) rfl ?_); generalize hw1 : w.alloc (.cells #[] 5) = w1)
  · have hb1 : Below w.heap.size w w1 := by rw [← hw1]; exact (Below.refl w.heap.size w).alloc (Nat.le_refl _) _
    clear hw1
    have hr1 := HR.out w1 (some ⟨w.heap.size, 0, none⟩)
    have hr0 := hrow.later hb1
    have hn1 : w1.cell? ⟨0, 18, none⟩ = some (.string ⟨#[108, 101, 117]⟩) := (hb1.cell (p := ⟨0, 18, none⟩) hh).trans hn
    have R0 : Hid (Row _ _ _) := hr0; have R1 : Hid (Row _ _ _) := hr1; have B1 : Hid (Below _ _ _) := hb1; have N1 : Hid _ := hn1; have HM : Hid _ := hm
    clear hr0 hr1 hb1 hn1 hrow hn hm
    have HZ : Hid _ := hz; clear hz
    go_wp2_with fail
    refine (V1.out _ _ _ R1.out).mono ?_; rintro e w' ⟨rfl, h⟩; rw [h]; clear h w'
    go_wp2_with fail
    refine (V2.out _ _ _ R0.out).mono ?_; rintro e w' ⟨rfl, h⟩; rw [h]; clear h w'
    go_wp2_with fail
    refine (Y1.out _).mono ?_; rintro e w2 ⟨ab, capb, rfl, hrb, hb2⟩
    have RB : Hid (Row _ _ _) := hrb; have B2 : Hid (Below _ _ _) := hb2; clear hrb hb2
    go_wp2_with fail
    refine (Y2.out _).mono ?_; rintro e w3 ⟨ac, capc, rfl, hrc, hb3⟩
    have RC : Hid (Row _ _ _) := hrc; have B3 : Hid (Below _ _ _) := hb3; clear hrc hb3
    go_wp2_with fail
    refine (same_any _ _ _ _ _ _ (RB.out.later B3.out) RC.out).mono ?_; rintro e w' ⟨rfl, n1, rfl⟩
    have RD : Hid (Row _ _ _) := ((R0.out.later B2.out).later B3.out).later (below_drewN (Below.refl _ _) n1)
    have RE : Hid (Row _ _ _) := ((R1.out.later B2.out).later B3.out).later (below_drewN (Below.refl _ _) n1)
    go_wp2_with fail
    refine (same_any _ _ _ _ [] _ RE.out RD.out).mono ?_; rintro e w' ⟨rfl, n2, rfl⟩
    have hlt1 : 0 < w1.heap.size := Nat.lt_of_lt_of_le hh B1.out.size
    have hlt2 : 0 < w2.heap.size := Nat.lt_of_lt_of_le hlt1 B2.out.size
    have hn3 : w3.cell? ⟨0, 18, none⟩ = some (.string ⟨#[108, 101, 117]⟩) := (B3.out.cell (p := ⟨0, 18, none⟩) hlt2).trans ((B2.out.cell (p := ⟨0, 18, none⟩) hlt1).trans N1.out)
    have hlt3 : 0 < w3.heap.size := Nat.lt_of_lt_of_le hlt2 B3.out.size
    go_wp2_with fail
    refine (heads_any (w3.drewN (n1 + n2)) hn3 hlt3).mono ?_; rintro e w4 ⟨rfl, hb4⟩
    have BB : Hid (Below _ _ _) := hb4; clear hb4
    go_wp2_with fail
    go_ret
    exact ⟨rfl, below_chain B1.out B2.out B3.out n1 n2 BB.out⟩

set_option maxRecDepth 100000 in
set_option maxHeartbeats 2000000 in
theorem bytes_some (v width : Int) (ad : Addr) (cap0 : Nat) (s : Bool) (zs : List Int) (w : World) (v0 : 0 ≤ v) (v1 : v < 4294967296) (hrow : Row w (some ad) zs) (hn : w.cell? ⟨0, 18, none⟩ = some (.string ⟨#[108, 101, 117]⟩)) (hh : 0 < w.heap.size) :
    Calls Tryd.prog 7 #[.int .u32 v, .int .i64 width, .slice (some ad) zs.length cap0, .bool s] w fun e w' => e = .returned (.bool true) ∧ Below w.heap.size w w' := by
  obtain ⟨u, e, V10, V20⟩ := value_both zs s
  obtain ⟨ys, Y10, Y20⟩ := both_bytes v width v0 v1
  have V1 : Hid _ := V10; have V2 : Hid _ := V20; have Y1 : Hid _ := Y10; have Y2 : Hid _ := Y20
  clear V10 V20 Y10 Y20
  obtain ⟨i0, hi, hz0, hz1, hz2⟩ := info_parts info_u8
  have hm := hrow.1
  have hz := hrow.2.1
  have S : Hid _ := src_cells hrow (.cells #[] 5)
  go_enter Tryd.func7, Tryd.ntmps7
  go_wp2_with (at_builtin; go_must (refine wpList_append_own _ rfl (.tmp 14) (.tmp 15) 38 rfl w.heap.size 5 i0 (.int .u8 0) 1 1 Tryd.underlying38 hi hz0 hz1 hz2 rfl (by decide) _ 0 [] rfl (World.ownsRow_made (base := w.heap.size) w #[] 0 (Nat.le_refl _) (Nat.zero_le _) rfl) ad zs.length cap0 (zs.map (Value.int .u8)) rfl (by simp) S.out (one_cells zs) ?d3 ?d4 ?d5 ?_))
  case d3 => unfold maxLen; omega
  case d4 => omega
  case d5 => simp
  · intro v' w1 hown' hgrow _
    have hb1 : Below w.heap.size w w1 := ((Below.refl w.heap.size w).alloc (Nat.le_refl _) _).grown hgrow (by simp) (fun k hk => by simp [Value.ownBlock] at hk; omega)
    obtain ⟨a1, cap1, rfl, hr1⟩ := row_of_owned rfl hm hz hown'
    clear hown' hgrow S
    have hr0 := hrow.later hb1
    have hn1 : w1.cell? ⟨0, 18, none⟩ = some (.string ⟨#[108, 101, 117]⟩) := (hb1.cell (p := ⟨0, 18, none⟩) hh).trans hn
    have R0 : Hid (Row _ _ _) := hr0; have R1 : Hid (Row _ _ _) := hr1; have B1 : Hid (Below _ _ _) := hb1; have N1 : Hid _ := hn1; have HM : Hid _ := hm
    clear hr0 hr1 hb1 hn1 hrow hn hm
    have HZ : Hid _ := hz; clear hz
    go_wp2_with fail
    refine (V1.out _ _ _ R1.out).mono ?_; rintro e w' ⟨rfl, h⟩; rw [h]; clear h w'
    go_wp2_with fail
    refine (V2.out _ _ _ R0.out).mono ?_; rintro e w' ⟨rfl, h⟩; rw [h]; clear h w'
    go_wp2_with fail
    refine (Y1.out _).mono ?_; rintro e w2 ⟨ab, capb, rfl, hrb, hb2⟩
    have RB : Hid (Row _ _ _) := hrb; have B2 : Hid (Below _ _ _) := hb2; clear hrb hb2
    go_wp2_with fail
    refine (Y2.out _).mono ?_; rintro e w3 ⟨ac, capc, rfl, hrc, hb3⟩
    have RC : Hid (Row _ _ _) := hrc; have B3 : Hid (Below _ _ _) := hb3; clear hrc hb3
    go_wp2_with fail
    refine (same_any _ _ _ _ _ _ (RB.out.later B3.out) RC.out).mono ?_; rintro e w' ⟨rfl, n1, rfl⟩
    have RD : Hid (Row _ _ _) := ((R0.out.later B2.out).later B3.out).later (below_drewN (Below.refl _ _) n1)
    have RE : Hid (Row _ _ _) := ((R1.out.later B2.out).later B3.out).later (below_drewN (Below.refl _ _) n1)
    go_wp2_with fail
    refine (same_any _ _ _ _ zs _ RE.out RD.out).mono ?_; rintro e w' ⟨rfl, n2, rfl⟩
    have hlt1 : 0 < w1.heap.size := Nat.lt_of_lt_of_le hh B1.out.size
    have hlt2 : 0 < w2.heap.size := Nat.lt_of_lt_of_le hlt1 B2.out.size
    have hn3 : w3.cell? ⟨0, 18, none⟩ = some (.string ⟨#[108, 101, 117]⟩) := (B3.out.cell (p := ⟨0, 18, none⟩) hlt2).trans ((B2.out.cell (p := ⟨0, 18, none⟩) hlt1).trans N1.out)
    have hlt3 : 0 < w3.heap.size := Nat.lt_of_lt_of_le hlt2 B3.out.size
    go_wp2_with fail
    refine (heads_any (w3.drewN (n1 + n2)) hn3 hlt3).mono ?_; rintro e w4 ⟨rfl, hb4⟩
    have BB : Hid (Below _ _ _) := hb4; clear hb4
    go_wp2_with fail
    go_ret
    exact ⟨rfl, below_chain B1.out B2.out B3.out n1 n2 BB.out⟩

theorem laidOut : laidOutB Tryd.prog = true := by kernel_rfl
theorem bytes_u8 : Tryd.prog.bytesOf 5 = 1 := by kernel_rfl
theorem u8_bounds {a : Int} (h : (Lit.int .u8 a).wf = true) : 0 ≤ a ∧ a < 256 := by
  have := bounds_u8 h
  omega

set_option maxRecDepth 100000 in
theorem bytes_lifted (os : Os) (started : os.Started) (H : Type) (enc : TypeId × Value → H) :
    ReturnsInHanded {} Tryd.checked os 7 .any (fun w args => (Rows.wordBytesSpec.pre enc Tryd.prog Tryd.f7 [] false w args ∧ laidMetH Tryd.prog Rows.wordBytesRow.laid w) ∧ sizedMet enc Tryd.prog Tryd.f7 (OpenSpec.ofChange Rows.wordBytesSpec) false w args)
      (Rows.wordBytesSpec.post enc Tryd.prog Tryd.f7 false true false false) := by
  refine returnsInHanded_of_change_and (C := Tryd.checked) (X := fun w _ => laidMetH Tryd.prog Rows.wordBytesRow.laid w) (fun _ _ _ hh h => h.of_heap hh) own started (by kernel_rfl) Tryd.func7
    (ChangeSpec.witness_shaped (enc := enc) (C := Tryd.checked) (os := os) (X := fun w _ => laidMetH Tryd.prog Rows.wordBytesRow.laid w) false (World.doorLaid Tryd.prog 400 os) #[.int .u32 0, .int .i64 0, .slice none 0 0, .bool false] 8 rfl (World.shaped_of_RefB (by kernel_rfl) (by kernel_rfl)) (by kernel_rfl) (by kernel_rfl) (by kernel_rfl) (door_met os _)) ?_
  intro W base args ds gs before hval0 hW _ hsz0 hL _
  have hsz : (DataW.weightsEach Tryd.prog (Tryd.f7.params.toList ++ Rows.wordBytesSpec.plain.varTypes Tryd.prog) (ds ++ gs)).all (· ≤ reachBytes) = true := hsz0
  clear hsz0
  have hval : ∀ (j : Nat) t v, Tryd.f7.params[j]? = some t → args[j]? = some v → Value.okWide Tryd.prog W .any base t v := hval0
  have hW' := hW
  obtain ⟨p, q, hA0, hV, rfl, hfz, hnd⟩ := hW
  have hA : DataW.TrodAll enc Tryd.prog W 0 (fun _ => true) true Tryd.f7.params.toList args.toList ds p := hA0
  rw [Tryd.params7] at hA hval hsz
  obtain ⟨v0, vs0, d0, ds0, p0, q0, hargs, rfl, rfl, h0, r0⟩ := trodAll_cons hA
  obtain ⟨v1, vs1, d1, ds1, p1, q1, rfl, rfl, rfl, h1, r1⟩ := trodAll_cons r0
  obtain ⟨v2, vs2, d2, ds2, p2, q2, rfl, rfl, rfl, h2, r2⟩ := trodAll_cons r1
  obtain ⟨v3, vs3, d3, ds3, p3, q3, rfl, rfl, rfl, h3, r3⟩ := trodAll_cons r2
  obtain ⟨rfl, rfl, rfl⟩ := trodAll_nil r3
  obtain rfl : args = #[v0, v1, v2, v3] := by cases args; simp_all
  obtain ⟨rfl, rfl⟩ := trodVars_none hV
  obtain ⟨a0, rfl, rfl, rfl, w0⟩ := open_int Tryd.underlying22 (hval 0 22 v0 rfl rfl) h0
  obtain ⟨a1, rfl, rfl, rfl, w1⟩ := open_int Tryd.underlying3 (hval 1 3 v1 rfl rfl) h1
  obtain ⟨a2, len2, cap2, rfl⟩ := okWide_slice Tryd.underlying38 (hval 2 38 v2 rfl rfl)
  obtain ⟨a3, rfl, rfl, rfl⟩ := open_bool Tryd.underlying4 (hval 3 4 v3 rfl rfl) h3
  have k2 := h2
  have lt2 : ∀ x ∈ p2, x.block < W.heap.size := by obtain ⟨m, hm⟩ := k2; exact DataW.trod_lt m _ _ _ hm
  clear hA0 hval0
  obtain ⟨hn, hz⟩ := of_laid hL
  have fin : Calls Tryd.prog 7 #[.int .u32 a0, .int .i64 a1, .slice a2 len2 cap2, .bool a3] W fun e w' => e = .returned (.bool true) ∧ Below W.heap.size W w' := by
    obtain ⟨fuel, hf⟩ := h2
    rcases open_ints Tryd.underlying38 Tryd.underlying5 (by kernel_rfl) hf with ⟨hcs, _⟩ | ⟨x, l, c, zs, hcs, _, hl, hm, hlen, hx, hcell, hwz⟩
    · simp [Value.cells] at hcs
      obtain ⟨rfl, rfl, rfl⟩ := hcs
      exact bytes_none a0 a1 a3 W (u32_bounds w0).1 (u32_bounds w0).2 (hn 18 (by decide)) hz
    · simp [Value.cells] at hcs
      obtain ⟨rfl, rfl, rfl⟩ := hcs
      simp only [Prod.mk.injEq] at hx
      have hlen2 : zs.length = cap2 := by simpa using hlen
      have hd := hx.1
      rw [hd] at hsz
      have hs := sized_slice hsz (j := 2) (t := 38) (e := 5) rfl rfl Tryd.underlying38
      rw [bytes_u8] at hs
      simp only [lits, List.length_map, List.length_take, List.length_drop, reachBytes] at hs
      have hlz : (zs.take len2).length = len2 := by rw [List.length_take]; omega
      have hrow : Row W (some x) (zs.take len2) := by
        refine ⟨by rw [hlz]; omega, fun z hz => u8_bounds (hwz z (List.mem_of_mem_take hz)), ?_⟩
        by_cases h0 : len2 = 0
        · exact .inl (by rw [h0]; rfl)
        · obtain ⟨b, off, spot⟩ := x
          have hc := hcell 0 (by omega)
          have hspot : spot = none := by simpa [Addr.add] using World.cell?_spot hc
          subst hspot
          refine .inr ⟨b, off, rfl, fun i hi => ?_⟩
          have hci := hcell i (by rw [hlz] at hi; omega)
          rw [Addr.add_lit] at hci
          rw [hci]
          congr 2
          rw [List.getD_eq_getElem?_getD, List.getD_eq_getElem?_getD, List.getElem?_take, if_pos (by rw [hlz] at hi; exact hi)]
      have h := bytes_some a0 a1 x cap2 a3 (zs.take len2) W (u32_bounds w0).1 (u32_bounds w0).2 hrow (hn 18 (by decide)) hz
      rw [hlz] at h
      exact h
  refine fin.mono fun e W' ⟨he, bel⟩ => ?_
  subst he
  exact ⟨_, rfl, _, _, _, [], _, [], hW', trodAll_mk1 (shut_bool Tryd.underlying4 _), trodAll_cons_mk (shut_int Tryd.underlying22 w0) (trodAll_cons_mk (shut_int Tryd.underlying3 w1) (trodAll_cons_mk (Below.trod laidOut (by kernel_rfl) (of_decide_eq_true (by kernel_rfl)) k2 bel lt2) (trodAll_cons_mk (shut_bool Tryd.underlying4 _) trodAll_mk0))), rfl, bel.frame _, fun h => by cases h⟩

theorem bytes_row : Rows.WordBytesSaid :=
  OpenClaim.holds_of_wide 7 Tryd.f7 rfl rfl rfl rfl rfl rfl rfl ⟨rfl, rfl, rfl, rfl, rfl⟩ rfl rfl rfl rfl rfl (by kernel_rfl) Tryd.func7 (by kernel_rfl)
    (of_decide_eq_true (by kernel_rfl)) (by unfold Func.isWrapper; first | (rw [if_pos (by decide +kernel)]; kernel_rfl) | (rw [if_neg (by decide +kernel)]; exact ⟨rfl, rfl⟩))
    (fun os started H enc _ => bytes_lifted os started H enc)

theorem bytes_holds : Rows.WordBytesCardSaid :=
  Claim7.holds_tied_plain_at .later [] [.data] true Rows.wordBytesCard.stood.harness false
    bytes_row (fun _ h => by cases h) (by kernel_rfl) (fun _ h => by cases h) wordBytes_row_tie rfl ⟨rfl, rfl⟩ (by kernel_rfl) rfl
    (fun f fn hf hfn => by
      obtain rfl : f = 7 := Option.some.inj ((show Tryd.prog.funcNamed Rows.wordBytesRow.func = some 7 by kernel_rfl).symm.trans hf) |>.symm
      obtain rfl : fn = Tryd.f7 := (Option.some.inj (Tryd.func7.symm.trans hfn)).symm
      exact ⟨by kernel_rfl, fun j t ht => by
        rw [Tryd.params7] at ht
        have hm : t ∈ [22, 3, 38, 4] := by simpa using Array.mem_of_getElem? ht
        have hall : ([22, 3, 38, 4].all fun u => !Tryd.prog.wantsStandIn u) = true := by kernel_rfl
        exact (show Tryd.prog.wantsStandIn t = false by simpa using List.all_eq_true.1 hall t hm)⟩)
    (by kernel_rfl)
#print axioms bytes_holds
end Go.Proofs.YtkejmenidciigaaDoor
