/-
  Tokens are written and joined as the document has them (mortiselaw02.TokenWrites): for every token and every row of tokens that hold together, with their spare places, at most 1048576 values and letters, the law answers true, and what is handed in stays. Beside that bound no condition but the row's own (the listed library tables are as their text lays them).
-/
import Derived.Test.YtjbmpdcgmphhoaaGreatDoorFrame
import Derived.Test.YtjbmpdcgmphhoaaGreatDoorLawWrites
import Derived.Test.YtjbmpdcgmphhoaaGreatDoorTokOpen
import Derived.Carry
import Derived.Stop.LaidErr
namespace Go.Proofs.YtjbmpdcgmphhoaaGreatDoor
open Go.ChangeShapes Go.WideShapes Go.ChangeAt Go.RowKit Go.ChangeMaps
set_option linter.unusedVariables false

theorem laidOut : laidOutB Tryz.prog = true := by kernel_rfl

theorem tabs_of {W : World} (h : laidMetH Tryz.prog Rows.tokenWritesUptoRow.laid W) : Tabs W := by
  rw [MakeChecks.laidMetH_plain _ _ _ (by kernel_rfl)] at h
  have h2 := h.tail.tail
  exact Lib.tabIs_of_head (P := Tryz.prog) (name := "internal/strconv.uint64pow10") (k := .u64) (zs := Lib.pow10Tab) (g := (Tryz.prog.globalNamed "internal/strconv.uint64pow10").getD 0) (t := 123) (e := 112) (n := 20) (by kernel_rfl) (by kernel_rfl) (by kernel_rfl) (by kernel_rfl) (by kernel_rfl) (by kernel_rfl) h2

def wArgs : Array Value := #[.agg #[.int .i64 0, .string ⟨#[]⟩, .int .i64 0, .int .i64 0, .int .i64 0, .int .i64 0], .slice none 0 0]
theorem reads (os : Os) {H : Type} (enc : TypeId × Value → H) : ∃ places, DataW.whole enc Tryz.prog ((World.laidAll Tryz.prog os Rows.tokenWritesUptoRow.laid).forCall (fun _ _ => 0) ⟨#[], wArgs, []⟩).memory Tryz.f4.params.toList Rows.tokenWritesSpec.vars false wArgs.toList 8 = some ([RTok.data ⟨0, ⟨#[]⟩, 0, 0, 0, 0⟩, .nil], [], places) :=
  ⟨[], by kernel_rfl⟩

theorem bulk_member {H : Type} {t : RTok} {l : List (DataW H)} (hk : Rows.uptoSmall H l = true) (hm : (RTok.data t : DataW H) ∈ l) : t.s.size ≤ 1048576 := by
  have hb : Rows.uptoBulkAll l ≤ 1048576 := of_decide_eq_true hk
  have hp : ∀ (l : List (DataW H)) (d : DataW H), d ∈ l → Rows.uptoBulk d ≤ Rows.uptoBulkAll l := by
    intro l
    induction l with
    | nil => intro d hd; cases hd
    | cons x r ih =>
      intro d hd
      simp only [Rows.uptoBulkAll]
      rcases List.mem_cons.1 hd with rfl | hd
      · omega
      · have := ih d hd; omega
  have h1 := hp l _ hm
  have h2 : t.s.size ≤ Rows.uptoBulk (H := H) t.data := by
    simp only [RTok.data, Rows.uptoBulk, Rows.uptoBulkAll]
    have : t.s.data.toList.length = t.s.size := by simp
    omega
  omega

set_option maxRecDepth 100000 in
theorem writes_lifted (os : Os) (started : os.Started) (H : Type) (enc : TypeId × Value → H) (F : Stop.Interp) :
    ReturnsInHanded {} Tryz.checked os 4 .any ((Rows.OpenSpec.upto Rows.tokenWritesSpec).preRow enc Tryz.prog Tryz.f4 Rows.tokenWritesUptoRow.domain false Rows.tokenWritesUptoRow.laid) (((Rows.OpenSpec.upto Rows.tokenWritesSpec).at F).post enc Tryz.prog Tryz.f4 false true false false) := by
  obtain ⟨places, hx⟩ := reads os enc
  refine returnsInHanded_of_row (C := Tryz.checked) (s := Rows.OpenSpec.upto Rows.tokenWritesSpec) own started (by kernel_rfl) Tryz.func4
    (witness_row_shaped (enc := enc) (C := Tryz.checked) false (World.laidAll Tryz.prog os Rows.tokenWritesUptoRow.laid) wArgs (World.laidAll_os _ _ _) (World.shaped_of_ZipB (by kernel_rfl) (by kernel_rfl)) (by kernel_rfl)
      (OpenSpec.preRow_of_cond 8 hx (by kernel_rfl) (fun k hk => by cases hk; kernel_rfl) (by kernel_rfl) (by rw [MakeChecks.laidMetH_plain _ _ _ (by kernel_rfl)]; exact laidMet_laidAll _ (by kernel_rfl) (by kernel_rfl)))) ?_
  intro W base args ds gs before hval0 hW _ hcond _ hL hsh _
  have hval : ∀ (j : Nat) t v, Tryz.f4.params[j]? = some t → args[j]? = some v → Value.okWide Tryz.prog W .any base t v := hval0
  have hW' := hW
  obtain ⟨p, q, hA0, hV, rfl, hfz, hnd⟩ := hW
  have hA : DataW.TrodAll enc Tryz.prog W 0 (fun _ => true) true Tryz.f4.params.toList args.toList ds p := hA0
  rw [Tryz.params4] at hA hval
  clear hA0 hval0
  obtain ⟨m, hm⟩ := maxLen_cell W hsh
  obtain ⟨v0, v1, d0, d1, p0, p1, rfl, rfl, rfl, h0, h1⟩ := trodAll_two hA
  obtain ⟨rfl, rfl⟩ := trodVars_none hV
  obtain ⟨cs0, rfl, hcs0⟩ := okWide_struct Tryz.underlying35 (hval 0 35 v0 rfl rfl)
  obtain ⟨a0, len0, cap0, rfl⟩ := okWide_slice Tryz.underlying22 (hval 1 22 v1 rfl rfl)
  have k0 := h0
  have k1 := h1
  have lt0 : ∀ x ∈ p0, x.block < W.heap.size := by obtain ⟨n, hn⟩ := k0; exact DataW.trod_lt n _ _ _ hn
  have lt1 : ∀ x ∈ p1, x.block < W.heap.size := by obtain ⟨n, hn⟩ := k1; exact DataW.trod_lt n _ _ _ hn
  have hT := tabs_of hL
  obtain ⟨t, ht0, ht1, ht2, ht3⟩ : ∃ t : RTok, cs0 = #[.int .i64 t.k, .string t.s, .int .i64 t.n, .int .i64 t.a, .int .i64 t.b, .int .i64 t.c] ∧ d0 = t.data ∧ t.s.size ≤ 1048576 ∧ (-9223372036854775808 ≤ t.n ∧ t.n ≤ 9223372036854775807) := by
    obtain ⟨fuel, hf⟩ := h0
    obtain ⟨t, hc, hd, _, _, hn⟩ := open_tok hf
    have hc' : cs0.toList = t.cells := by simpa [Value.cells] using hc
    refine ⟨t, ?_, hd, ?_, hn⟩
    · have : cs0 = t.cells.toArray := by rw [← hc']
      rw [this]; rfl
    · refine bulk_member (t := t) (hcond _ rfl) ?_
      simp only at hd
      rw [← hd]; simp
  subst ht0
  have hI : ∃ xs : List RTok, TokIn W (.slice a0 len0 cap0) xs ∧ SrcIn W (.slice a0 len0 cap0) xs ∧ xs.length ≤ 1048576 ∧ (∀ t ∈ xs, t.s.size ≤ 1048576) ∧ ∀ t ∈ xs, -9223372036854775808 ≤ t.n ∧ t.n ≤ 9223372036854775807 := by
    obtain ⟨fuel, hf⟩ := h1
    rcases open_toks hf with ⟨hcs, _⟩ | ⟨a, cap, xs, rest, hcs, hl, hmm, hx1, hxs⟩
    · simp [Value.cells] at hcs
      obtain ⟨rfl, rfl, rfl⟩ := hcs
      exact ⟨[], .inl ⟨_, _, rfl, rfl⟩, .inl ⟨rfl, rfl⟩, Nat.zero_le _, (fun t ht => by cases ht), (fun t ht => by cases ht)⟩
    · simp [Value.cells] at hcs
      obtain ⟨rfl, rfl, rfl⟩ := hcs
      simp only at hx1
      have hb := bulk_slice (xs := xs) (rest := rest) (hcond _ rfl) (by rw [← hx1]; simp)
      refine ⟨xs, tokIn_of hl (fun j t hj => (hxs j t hj).2.2.2), .inr ⟨a, cap0, rfl, hl, src_adds (fun j t hj => (hxs j t hj).2.2.2)⟩, hb.1, hb.2, fun t ht => ?_⟩
      obtain ⟨j, hj⟩ := List.getElem?_of_mem ht
      exact (hxs j t hj).2.2.1
  obtain ⟨xs, hin, hsrc, hN, hs, hn⟩ := hI
  refine (tokenWrites_c t _ xs W m hin hsrc hT hN hs hn ht2 ht3 hm).mono fun e W' ⟨he, bel⟩ => ?_
  subst he
  exact ⟨_, rfl, _, _, _, [], _, [], hW', trodAll_mk1 (shut_bool Tryz.underlying4 _), trodAll_cons_mk (Below.trod laidOut (by kernel_rfl) (of_decide_eq_true (by kernel_rfl)) k0 bel lt0) (trodAll_cons_mk (Below.trod laidOut (by kernel_rfl) (of_decide_eq_true (by kernel_rfl)) k1 bel lt1) trodAll_mk0), rfl, bel.frame _, fun h => by cases h⟩

theorem writes_row : Rows.TokenWritesUptoSaid :=
  OpenClaim.holds_of_cond 4 Tryz.f4 rfl rfl rfl rfl rfl rfl rfl ⟨rfl, rfl, rfl, rfl, rfl⟩ rfl rfl rfl rfl rfl (by kernel_rfl) Tryz.func4 (by kernel_rfl)
    (of_decide_eq_true (by kernel_rfl)) (by unfold Func.isWrapper; first | (rw [if_pos (by decide +kernel)]; kernel_rfl) | (rw [if_neg (by decide +kernel)]; exact ⟨rfl, rfl⟩))
    (fun os started H enc _ F => by rw [OpenClaim.pre_eq_preRow]; exact writes_lifted os started H enc F)

theorem writes_holds : Rows.TokenWritesUptoCardSaid :=
  Claim7.holds_tied_plain_at .later [] _ _ _ _
    writes_row (fun _ h => by cases h) (by kernel_rfl) (fun _ h => by cases h) tokenWritesUpto_row_tie rfl ⟨rfl, rfl⟩ (by kernel_rfl) rfl
    (fun f fn hf hfn => by
      obtain rfl : f = 4 := Option.some.inj ((show Tryz.prog.funcNamed Rows.tokenWritesUptoRow.func = some 4 by kernel_rfl).symm.trans hf) |>.symm
      obtain rfl : fn = Tryz.f4 := (Option.some.inj (Tryz.func4.symm.trans hfn)).symm
      exact ⟨by kernel_rfl, fun j t ht => by
        rw [Tryz.params4] at ht
        have hm : t ∈ [35, 22] := by simpa using Array.mem_of_getElem? ht
        have hall : ([35, 22].all fun u => !Tryz.prog.wantsStandIn u) = true := by kernel_rfl
        exact (show Tryz.prog.wantsStandIn t = false by simpa using List.all_eq_true.1 hall t hm)⟩)
    (by kernel_rfl)
#print axioms writes_holds
end Go.Proofs.YtjbmpdcgmphhoaaGreatDoor
