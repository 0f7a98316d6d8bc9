/-
  The first two tables: by New, and by rows.
  The given answer's From.
-/
import Derived.Test.YtlcghlfmaohfeaaGreatHRefSh
import Derived.Test.YtlcghlfmaohfeaaGreatHRefGr
import Derived.Test.YtlcghlfmaohfeaaGreatHRNew
import Derived.Test.YtlcghlfmaohfeaaGreatHRefCopy
import Derived.Test.YtlcghlfmaohfeaaGreatHFrom
namespace Go.Proofs.YtlcghlfmaohfeaaGreat
open Go.RowKit Go.Maps
set_option linter.unusedVariables false
set_option maxRecDepth 100000

def RFromPost (rs : List (Rw × Value)) (w w' : World) (e : Ending) : Prop :=
  (¬ RefOK rs ∧ e = .returned (.tuple #[.pointer none, .int .i64 30])) ∨
  (RefOK rs ∧ ∃ b v' rs', e = .returned (.tuple #[.pointer (some ⟨b, 0, none⟩), .int .i64 0]) ∧ rs'.map (·.1) = rs.map (·.1) ∧ RTab w.heap.size w' b v' rs')
theorem RTab.rt {B : Nat} {w : World} {b : Nat} {v : Value} {rs : List (Rw × Value)} (h : RTab B w b v rs) (hl : rs.length ≤ 512) : RT w b v rs := ⟨h.c0, h.rowSl, hl⟩

section
variable {w : World}
theorem rFrom_len {v : Value} {p : Option Addr} {n cap : Nat} (hv : v = .slice p n cap) (hn : n < 11 ∨ 512 < n) (hb : n ≤ 9223372036854775807) :
    Calls Tryz.prog 22 #[v] w fun e w' => e = .returned (.tuple #[.pointer none, .int .i64 30]) ∧ w' = w := by
  subst hv
  rcases hn with hn | hn
  all_goals go_enter Tryz.func22, Tryz.ntmps22
  all_goals go_wp2
  all_goals go_ret2
  all_goals exact ⟨rfl, rfl⟩

set_option maxHeartbeats 4000000 in
theorem rFrom_c {v : Value} {rs : List (Rw × Value)} (h : RowIn w v rs) (hl1 : 11 ≤ rs.length) (hl2 : rs.length ≤ 512) (hO : ∀ p ∈ rs, Okay p.1) :
    Calls Tryz.prog 22 #[v] w fun e w' => RFromPost rs w w' e ∧ Below w.heap.size w w' := by
  have h1 := not_f
  have h2 := not_t
  obtain ⟨sp, sc, hv, hsc⟩ : ∃ sp sc, v = .slice sp rs.length sc ∧ rs.length ≤ sc := by
    rcases h.1 with ⟨_, hh⟩ | ⟨_, _, _, hh⟩ | ⟨g, o, cap, hv, hc, _⟩
    · rw [hh] at hl1; simp at hl1
    · rw [hh] at hl1; simp at hl1
    · exact ⟨_, _, hv, hc⟩
  have hB0 : Below w.heap.size w (w.alloc (.cells #[v] TT)) := (Below.refl _ w).alloc (Nat.le_refl _) _
  have cC := refCopy_c (w := w.alloc (.cells #[v] TT)) (b0 := w.heap.size) (v := v) (by rw [Lib.cell_of_heap (heap_r0 w _)]; rfl) (h.below hB0) (by omega) (fun p hp => (hO p hp).mem)
  have hbt : ∀ (W : World), (Instr.build TT #[(0, v)]).run Tryz.prog W = .ok (.agg #[v]) W := fun W => by rw [hv]; kernel_rfl
  rw [hv] at hbt
  have HB0 : Hid (Below _ _ _) := hB0
  have HO : Hid (∀ p ∈ rs, Okay p.1) := hO
  rw [hv] at cC HB0 ⊢
  clear h hO hB0
  go_enter Tryz.func22, Tryz.ntmps22
  go_wp2_with (first | (go_at_call 24; fail) | fail)
  generalize w.alloc (.cells #[.slice sp rs.length sc] TT) = W0 at *
  refine cC.mono ?_
  rintro e w1 ⟨b, v', rs', rfl, hfst, hR, hb1⟩
  have hlen : rs'.length = rs.length := fst_len hfst
  have HB1 : Hid (Below w.heap.size w w1) := HB0.out.trans (hb1.mono HB0.out.size)
  have HR : Hid (RTab w.heap.size w1 b v' rs') := by
    refine ⟨Nat.le_trans HB0.out.size hR.bB, hR.tab, ownsRow_base hR.rows HB0.out.size, fun p hp => ownsRow_base (hR.mems p hp) HB0.out.size⟩
  have HFST : Hid (rs'.map (·.1) = rs.map (·.1)) := hfst
  have HLEN : Hid (rs'.length = rs.length) := hlen
  have hl3 : rs'.length ≤ 512 := by omega
  clear hR hb1 cC hfst hlen hbt HB0
  obtain ⟨vp, vc, hvv⟩ := slice_of_own HR.out.rows
  go_wp2
  go_loopw [5] (fun j wr => ∃ (k : Nat), j = .int .i64 k ∧ k ≤ rs'.length ∧ Hid (AllSh rs' k) ∧ Hid (RTab w.heap.size wr b v' rs') ∧ Hid (Below w.heap.size w wr)) (fun j _ => rs'.length - (intOf j).toNat)
  case atStart => exact ⟨0, rfl, Nat.zero_le _, fun i p hi _ => by omega, HR, HB1⟩
  case round =>
    obtain ⟨k, rfl, hk, HA, HRw, HW⟩ := hrel
    have hcb := HRw.out.c0
    rw [hvv] at hcb
    by_cases hlt : k < rs'.length
    · obtain ⟨p, hp⟩ : ∃ p, rs'[k]? = some p := ⟨_, List.getElem?_eq_getElem hlt⟩
      have hOp : Okay p.1 := by
        have e := fst_at HFST.out k
        rw [hp] at e
        cases h2 : rs[k]? with
        | none => rw [h2] at e; cases e
        | some q =>
          rw [h2] at e
          have e2 : p.1 = q.1 := by simpa using e
          rw [e2]; exact HO.out q (List.mem_of_getElem? h2)
      have cS := rShaped_c (HRw.out.rt hl3) hp hOp
      have cT := fun X (hX : Below wr.heap.size wr X) => rTwice_c ((HRw.out.rt hl3).below hX) hp
      obtain ⟨X, hX⟩ : ∃ X, X = shapedB rs' k p.1 := ⟨_, rfl⟩
      obtain ⟨Y, hY⟩ : ∃ Y, Y = rTwiceB rs' k p.1 := ⟨_, rfl⟩
      rw [← hX] at cS
      simp only [← hY] at cT
      have HX : Hid (X = _) := hX
      have HY : Hid (Y = _) := hY
      have HP : Hid (_ = _) := hp
      clear hX hY hp hOp
      cases X <;> cases Y
      all_goals go_wp2_with (first | (go_at_call 42; refine cS.mono ?_; rintro e w2 ⟨rfl, hb2⟩; have HB2 : Hid (Below _ _ w2) := hb2; clear hb2) | (go_at_call 43; refine (cT _ HB2.out).mono ?_; rintro e w3 ⟨rfl, hb3⟩; have HB3 : Hid (Below wr.heap.size wr w3) := HB2.out.trans (hb3.mono HB2.out.size); clear hb3))
      · go_ret2
        refine ⟨Or.inl ⟨fun hok => ?_, rfl⟩, HW.out.trans (HB2.out.mono HW.out.size)⟩
        have := ((RefOK_fst HFST.out hok).1 k p hlt HP.out).1
        rw [← HX.out] at this; cases this
      · go_ret2
        refine ⟨Or.inl ⟨fun hok => ?_, rfl⟩, HW.out.trans (HB2.out.mono HW.out.size)⟩
        have := ((RefOK_fst HFST.out hok).1 k p hlt HP.out).1
        rw [← HX.out] at this; cases this
      · refine ⟨⟨k + 1, by go_num, by omega, ?_, HRw.out.keptB HB3.out, HW.out.trans (HB3.out.mono HW.out.size)⟩, by simp [intOf]; omega⟩
        intro i q hi hq
        by_cases hik : i = k
        · subst hik
          rw [HP.out] at hq; cases hq
          exact ⟨HX.out.symm, HY.out.symm⟩
        · exact HA.out i q (by omega) hq
      · go_ret2
        refine ⟨Or.inl ⟨fun hok => ?_, rfl⟩, HW.out.trans (HB3.out.mono HW.out.size)⟩
        have := ((RefOK_fst HFST.out hok).1 k p hlt HP.out).2
        rw [← HY.out] at this; cases this
    · obtain rfl : k = rs'.length := by omega
      have hin := AllSh_parts HA.out
      have cG := grounded_c (HRw.out.rt hl3) hin.1 hin.2
      have HIN : Hid _ := hin
      clear hin
      go_wp2_with (go_at_call 44; refine cG.mono ?_; rintro e w2 ⟨ga, ok, rfl, hg1, hg2, hg3, hg4, hb2⟩; have HB2 : Hid (Below _ _ w2) := hb2; have HG1 : Hid (_ = _) := hg1; have HG3 : Hid (∃ m, Ground (partsAt rs') ok m) := hg3; have HG4 : Hid (Stuck (partsAt rs') ok rs'.length) := hg4; clear hb2 hg1 hg3 hg4)
      have HBA : Hid (Below w.heap.size w w2) := HW.out.trans (HB2.out.mono HW.out.size)
      have HRA : Hid (RTab w.heap.size w2 b v' rs') := HRw.out.keptB HB2.out
      have HPIN : Hid (∀ i, i < rs'.length → ∀ j ∈ partsAt rs' i, j < rs'.length) := partsAt_in (fun i p hp => (HIN.out.1 i p hp).1)
      have HQ : Hid (∀ i, i < rs'.length → w2.cell? ⟨ga, i, none⟩ = some (.bool (ok i))) := fun i hi => by rw [Lib.cell_of_heap HG1.out, okCells_at ok hi]
      have hnd : ∀ (y : Bool) (W : World), (Op.unary UnOp.not (.bool y)).run Tryz.prog W = .ok (.bool (!y)) W := fun y W => by cases y <;> rfl
      clear hcb cG HG1 HRw HW HB2 HIN
      go_loop [7] (fun j => ∃ (k : Nat), j = .int .i64 k ∧ k ≤ rs'.length ∧ Hid (∀ i, i < k → ok i = true)) (fun j => rs'.length - (intOf j).toNat)
      case atStart => exact ⟨0, rfl, Nat.zero_le _, fun i hi => by omega⟩
      case round =>
        obtain ⟨k, rfl, hk2, HK⟩ := hrel
        by_cases hlt2 : k < rs'.length
        · have q := HQ.out k hlt2
          obtain ⟨T, hT⟩ : ∃ T, T = ok k := ⟨_, rfl⟩
          rw [← hT] at q
          have HTT : Hid (T = ok k) := hT
          clear hT
          cases T
          · go_wp2
            go_ret2
            refine ⟨Or.inl ⟨fun hok => ?_, rfl⟩, HBA.out⟩
            have := acyc_ground HPIN.out (RefOK_fst HFST.out hok).2 HG4.out k hlt2
            rw [← HTT.out] at this; cases this
          · go_wp2
            refine ⟨⟨k + 1, by go_num, by omega, fun i hi => ?_⟩, by simp [intOf]; omega⟩
            by_cases hik : i = k
            · rw [hik]; exact HTT.out.symm
            · exact HK.out i (by omega)
        · obtain rfl : k = rs'.length := by omega
          go_wp2
          go_ret2
          obtain ⟨m, hm⟩ := HG3.out
          refine ⟨Or.inr ⟨RefOK_fst HFST.out.symm ⟨HA.out, ground_acyc hm HK.out⟩, b, v', rs', rfl, HFST.out, HRA.out⟩, HBA.out⟩
end
end Go.Proofs.YtlcghlfmaohfeaaGreat
namespace Go.Proofs.YtlcghlfmaohfeaaGreat
open Go.RowKit Go.Maps
set_option linter.unusedVariables false
set_option maxRecDepth 100000

section
variable {B : Nat} {w w1 w2 w3 : World} {b mb rb : Nat} {v rv : Value} {rs rs2 : List (Rw × Value)}
theorem tab_base {B' : Nat} {ps : List (Value × Value)} (h : Tab B' w b mb v rs ps) (hle : B ≤ B') : Tab B w b mb v rs ps :=
  ⟨Nat.le_trans hle h.bB, Nat.le_trans hle h.mB, h.tab, ownsRow_base h.rows hle, fun p hp => ownsRow_base (h.mems p hp) hle, h.map, h.wf, h.len⟩
theorem rtab_base {B' : Nat} (h : RTab B' w b v rs) (hle : B ≤ B') : RTab B w b v rs :=
  ⟨Nat.le_trans hle h.bB, h.tab, ownsRow_base h.rows hle, fun p hp => ownsRow_base (h.mems p hp) hle⟩
theorem allIn_uniq (h : AllIn rs rs.length) : Uniq (pairs (rowsOf rs)) := by
  have hk : ∀ k, k ≤ rs.length → Uniq (pairs ((rowsOf rs).take k)) := by
    intro k
    induction k with
    | zero => intro _ K a a' ha; simp [pairs] at ha
    | succ k ih =>
      intro hk
      obtain ⟨p, hp⟩ : ∃ p, rs[k]? = some p := ⟨_, List.getElem?_eq_getElem (by omega)⟩
      rw [pairs_take hp]
      exact enter_uniq (h k p (by omega) hp) (ih (by omega))
  have := hk rs.length (Nat.le_refl _)
  rwa [show (rowsOf rs).take rs.length = rowsOf rs by rw [List.take_of_length_le]; simp [rowsOf]] at this

/-- The program's first, the given answer's behind it. -/
theorem duo_of1 (hT : Tab B w1 b mb v rs (pairs (rowsOf rs))) (hb : Below w1.heap.size w1 w2) (hR : RTab w1.heap.size w2 rb rv rs2) (hf : rs2.map (·.1) = rs.map (·.1)) (hl : 11 ≤ rs.length) (hs : Small rs) (hu : Uniq (pairs (rowsOf rs))) (hsa : ∀ p ∈ rs, Sane p.1) (hok : FromOK rs) : Duo B w2 b mb v rs rb rv rs2 := by
  refine ⟨hT.keptB hb, rtab_base hR hT.lt, hf, ?_, hl, hs, hu, hsa, hok⟩
  intro k hk hk2
  obtain ⟨_, _, e⟩ := ownsRow_at hT.rows hk
  have h1 := lt_of_heap e
  have := (ownsRow_at hR.rows hk2).1
  omega
/-- The given answer's first, the program's behind it. -/
theorem duo_of2 (hR : RTab B w1 rb rv rs2) (hb : Below w1.heap.size w1 w2) (hT : Tab w1.heap.size w2 b mb v rs (pairs (rowsOf rs))) (hf : rs2.map (·.1) = rs.map (·.1)) (hl : 11 ≤ rs.length) (hs : Small rs) (hu : Uniq (pairs (rowsOf rs))) (hsa : ∀ p ∈ rs, Sane p.1) (hok : FromOK rs) : Duo B w2 b mb v rs rb rv rs2 := by
  have hB : B ≤ w1.heap.size := hR.lt
  refine ⟨tab_base hT hB, hR.keptB hb, hf, ?_, hl, hs, hu, hsa, hok⟩
  intro k hk hk2
  obtain ⟨_, _, e⟩ := ownsRow_at hR.rows hk2
  have h1 := lt_of_heap e
  have := (ownsRow_at hT.rows hk).1
  omega
theorem duo_new (hT : Tab B w1 b mb v (basicRows 11) []) (hb : Below w1.heap.size w1 w2) (hR : RTab w1.heap.size w2 rb rv (basicRows 11)) : Duo B w2 b mb v (basicRows 11) rb rv (basicRows 11) := by
  have hp : pairs (rowsOf (basicRows 11)) = [] := by decide
  refine duo_of1 (by rw [hp]; exact hT) hb hR rfl (by decide) ?_ (by rw [hp]; intro K a a' ha; cases ha) ?_ fromOK_new
  · intro p hpm
    simp only [basicRows, List.mem_map, List.mem_range] at hpm
    obtain ⟨n, hn, rfl⟩ := hpm
    simp [basic]
  · intro p hpm
    simp only [basicRows, List.mem_map, List.mem_range] at hpm
    obtain ⟨n, hn, rfl⟩ := hpm
    refine ⟨?_, ?_, ?_⟩ <;> simp [basic] <;> omega
theorem duo_from (hR : RTab B w1 rb rv rs2) (hb : Below w1.heap.size w1 w2) (hT : Tab w1.heap.size w2 b mb v rs (pairs (rowsOf rs))) (hf : rs2.map (·.1) = rs.map (·.1)) (hl : 11 ≤ rs.length) (hok : FromOK rs) : Duo B w2 b mb v rs rb rv rs2 :=
  duo_of2 hR hb hT hf hl (AllIn_parts hok.1).2 (allIn_uniq hok.1) (allIn_sane hok.1) hok
end
end Go.Proofs.YtlcghlfmaohfeaaGreat
