/-
  Array of every table, type and length.
-/
import Derived.Test.YtkobggbipoappaaLyWl
import Derived.Test.YtkobggbipoappaaHRNew
namespace Go.Proofs.Ytkobggbipoappaa
open Go.RowKit Go.Maps
set_option linter.unusedVariables false
set_option maxRecDepth 100000
section
variable {B : Nat} {w : World} {b mb : Nat} {v : Value} {rs : List (Rw × Value)} {ps : List (Value × Value)}
/-- There is none, and no room for one. -/
theorem derived_full (h : Tab B w b mb v rs ps) {k e n : Int} (hk : wf64 k) (he : wf64 e) (hn : wf64 n) (hno : ∀ kv ∈ ps, kv.1 ≠ keyV k e n) (hl : rs.length = 512) :
    Calls Try.prog 28 #[.pointer (some ⟨b, 0, none⟩), keyV k e n] w fun x w' => x = .returned (.tuple #[.int .i64 0, .int .i64 32]) ∧ Below w.heap.size w w' := by
  have h2 := h.alloc (.cells #[.int .i64 k, .int .i64 e, .int .i64 n] TK)
  have hrun := fun q => (h2.drewN q).look_none hk he hn hno
  have hc := h2.c1
  have hbz : ∀ W : World, (Instr.build TR #[(0, .int .i64 k), (1, .int .i64 e), (2, .int .i64 n)]).run Try.prog W = .ok (.agg #[.int .i64 k, .int .i64 e, .int .i64 n, .string ⟨#[]⟩, .slice none 0 0, .bool false]) W := fun W => by kernel_rfl
  have cA := fun q => add_full (h2.drewN q) ⟨k, e, n, ⟨#[]⟩, [], false⟩ (.slice none 0 0) hl
  simp only [rwCells] at cA
  unfold keyV at hrun ⊢
  go_enter Try.func28, Try.ntmps28
  go_wp2
  have HB : Hid (Below w.heap.size w (w.alloc (.cells #[.int .i64 k, .int .i64 e, .int .i64 n] TK))) := (Below.refl _ w).alloc (Nat.le_refl _) _
  have e1 := heap_r0 w (.cells #[.int .i64 k, .int .i64 e, .int .i64 n] TK)
  generalize w.alloc (.cells #[.int .i64 k, .int .i64 e, .int .i64 n] TK) = W at *
  have a0 : W.cell? ⟨w.heap.size, 0, none⟩ = some (.int .i64 k) := by rw [Lib.cell_of_heap e1]; rfl
  have a1 : W.cell? ⟨w.heap.size, 1, none⟩ = some (.int .i64 e) := by rw [Lib.cell_of_heap e1]; rfl
  have a2 : W.cell? ⟨w.heap.size, 2, none⟩ = some (.int .i64 n) := by rw [Lib.cell_of_heap e1]; rfl
  clear e1
  go_quiet (fail)
  go_wp2_with (go_at_call 52; refine (cA _).mono ?_; rintro x w3 ⟨rfl, hb3⟩)
  go_ret2
  exact ⟨rfl, (HB.out.trans (below_drewN _ W nq)).trans (hb3.mono HB.out.size)⟩


/-- An array's type, or an error. -/
theorem array_any (h : Tab B w b mb v rs (pairs (rowsOf rs))) (hl : 11 ≤ rs.length) (hs : Small rs) (hu : Uniq (pairs (rowsOf rs))) (hf : FromOK rs) (id n : Int) (wid : wf64 id) (wn : wf64 n) :
    Calls Try.prog 9 #[.pointer (some ⟨b, 0, none⟩), .int .i64 id, .int .i64 n] w fun e w' => ∃ x y : Int, e = .returned (.tuple #[.int .i64 x, .int .i64 y]) ∧ Below B w w' ∧
      (y ≠ 0 ∨ y = 0 ∧ ∃ (v' : Value) (rs' : List (Rw × Value)) (i : Nat) (p : Rw × Value), x = i ∧ Tab B w' b mb v' rs' (pairs (rowsOf rs')) ∧ FromOK rs' ∧ Small rs' ∧ 0 < rs'.length ∧ rs'[i]? = some p ∧ p.1.kind = 14 ∧ p.1.elem = id ∧ p.1.len = n) := by
  have bB : ∀ w', Below w.heap.size w w' → Below B w w' := fun w' hb => hb.mono (Nat.le_of_lt (Nat.lt_of_le_of_lt h.bB (lt_of_heap h.tab)))
  have same : ∀ w', w' = w → Below B w w' := fun w' e => by subst e; exact Below.refl _ _
  cases hh : hasP rs.length id with
  | false =>
    refine (array_type h (by omega) id n hh).mono ?_
    rintro e w' ⟨rfl, hw⟩
    exact ⟨0, 30, rfl, same _ hw, .inl (by decide)⟩
  | true =>
    cases hw : wholeP rs id with
    | false =>
      refine (array_inc h (by omega) id n hh hw).mono ?_
      rintro e w' ⟨rfl, hw⟩
      exact ⟨0, 50, rfl, same _ hw, .inl (by decide)⟩
    | true =>
      cases hn : lenK n with
      | false =>
        refine (array_arg h (by omega) id n hh hw hn).mono ?_
        rintro e w' ⟨rfl, hw⟩
        exact ⟨0, 2, rfl, same _ hw, .inl (by decide)⟩
      | true =>
        have w14 : wf64 14 := by unfold wf64; decide
        by_cases hy : ∃ kv ∈ pairs (rowsOf rs), kv.1 = keyV 14 id n
        · obtain ⟨i, p, hp, hlk⟩ := key_row (.inr rfl) hy
          have hin := (pair_row (.inr rfl)).2 ⟨p, hp, hlk⟩
          have hlk2 : (p.1.kind = 14 ∧ p.1.elem = id) ∧ p.1.len = n := by simpa [likeK] using hlk
          refine (array_of (R := fun e w' => Below w.heap.size w w') h (by omega) id n hh hw hn (derived_old h w14 wid wn hin (fun val' hv => hu _ _ _ hin hv))).mono ?_
          rintro e w' ⟨rfl, hb⟩
          exact ⟨i, 0, rfl, bB _ hb, .inr ⟨rfl, v, rs, i, p, rfl, h.keptB hb, hf, hs, by omega, hp, hlk2.1.1, hlk2.1.2, hlk2.2⟩⟩
        · have hno : ∀ kv ∈ pairs (rowsOf rs), kv.1 ≠ keyV 14 id n := fun kv hkv he => hy ⟨kv, hkv, he⟩
          by_cases hfull : rs.length = 512
          · refine (array_of (R := fun e w' => Below w.heap.size w w') h (by omega) id n hh hw hn (derived_full h w14 wid wn hno hfull)).mono ?_
            rintro e w' ⟨rfl, hb⟩
            exact ⟨0, 32, rfl, bB _ hb, .inl (by decide)⟩
          · have hl5 := h.len
            have hE : 0 ≤ id ∧ id < rs.length := by simpa [hasP] using hh
            refine (array_of (x := rs.length) (y := 0) (R := fun e w' => ∃ v', Tab B w' b mb v' (rs ++ [(⟨14, id, n, ⟨#[]⟩, [], false⟩, .slice none 0 0)]) (pairs (rowsOf rs) ++ [(keyV 14 id n, .int .i64 rs.length)]) ∧ Turned w w' (own b mb v)) h (by omega) id n hh hw hn
              ((derived_new h w14 wid wn hno (by omega)).mono fun x w' ⟨hx, v', h1, h2, _⟩ => ⟨hx, v', h1, h2⟩)).mono ?_
            rintro e w' ⟨rfl, v', hT, ht⟩
            have hps := pairs_deriv (rs := rs) (r := ⟨14, id, n, ⟨#[]⟩, [], false⟩) (s := .slice none 0 0) (by simp [derivd])
            rw [← hps] at hT
            refine ⟨_, 0, rfl, h.below ht, .inr ⟨rfl, v', _, rs.length, (⟨14, id, n, ⟨#[]⟩, [], false⟩, .slice none 0 0), rfl, hT, hf.more (enter_der (.inr rfl) hE (fun e => by cases e) (fun _ => hw) (fun _ => hn) hl hno) _, ?_, by simp, by simp, rfl, rfl, rfl⟩⟩
            intro q hq
            simp only [List.mem_append, List.mem_singleton] at hq
            rcases hq with hq | rfl
            · exact hs q hq
            · exact Nat.zero_le _
end
end Go.Proofs.Ytkobggbipoappaa
