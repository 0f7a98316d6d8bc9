/-
  The law CtypeFrom's own walk.
-/
import Derived.Test.YtfdjghfgbibedaaDoorOwnSh
import Derived.Test.YtfdjghfgbibedaaDoorLike
import Derived.Test.YtfdjghfgbibedaaDoorRefFrom
import Derived.Test.YtfdjghfgbibedaaDoorHeads
namespace Go.Proofs.YtfdjghfgbibedaaDoor
open Go.RowKit Go.Maps
set_option linter.unusedVariables false
set_option maxRecDepth 100000

/-- What comes behind the two answers: the code's table, if there is one, lies above hi; so does the given one. -/
structure After (hi : Nat) (w : World) (t r : Value) : Prop where
  both : (t = .pointer none ∧ r = .pointer none) ∨ ∃ b mb v rs ps rb rv rs2, t = .pointer (some ⟨b, 0, none⟩) ∧ r = .pointer (some ⟨rb, 0, none⟩) ∧ Tab hi w b mb v rs ps ∧ RTab hi w rb rv rs2 ∧ 0 < rs.length ∧ Small rs ∧ rs2.map (·.1) = rs.map (·.1)
theorem After.kept {hi lo : Nat} {w w' : World} {t r : Value} (h : After hi w t r) (ht : Turned w w' (fun z => lo ≤ z ∧ z < hi)) : After hi w' t r := by
  rcases h.both with h1 | ⟨b, mb, v, rs, ps, rb, rv, rs2, e1, e2, h1, h2, h3⟩
  · exact ⟨Or.inl h1⟩
  · refine ⟨Or.inr ⟨b, mb, v, rs, ps, rb, rv, rs2, e1, e2, h1.kept ht ?_ ?_, h2.kept ht ?_ ?_, h3⟩⟩
    · rintro z (rfl | rfl | hz) ⟨_, hlt⟩
      · have := h1.bB; omega
      · have := h1.mB; omega
      · have := (ownsRow_at h1.rows hz).1; omega
    · intro p hp z hz hlt
      have := (ownsRow_at (h1.mems p hp) hz).1; omega
    · rintro z (rfl | hz) ⟨_, hlt⟩
      · have := h2.bB; omega
      · have := (ownsRow_at h2.rows hz).1; omega
    · intro p hp z hz hlt
      have := (ownsRow_at (h2.mems p hp) hz).1; omega

def AfT (hi : Nat) (rs : List (Rw × Value)) (z : Bool) (t : Value) (w : World) : Prop :=
  (z = true ∧ t = .pointer none) ∨ (z = false ∧ ∃ b mb v rs1 ps, t = .pointer (some ⟨b, 0, none⟩) ∧ Tab hi w b mb v rs1 ps ∧ 0 < rs1.length ∧ Small rs1 ∧ rs1.map (·.1) = rs.map (·.1))
def AfR (hi : Nat) (rs : List (Rw × Value)) (z : Bool) (r : Value) (w : World) : Prop :=
  (z = true ∧ r = .pointer none) ∨ (z = false ∧ ∃ rb rv rs2, r = .pointer (some ⟨rb, 0, none⟩) ∧ RTab hi w rb rv rs2 ∧ rs2.map (·.1) = rs.map (·.1))
theorem after_of {hi hi2 : Nat} {rs : List (Rw × Value)} {z : Bool} {t r : Value} {w2 w3 : World} (h1 : AfT hi rs z t w2) (h2 : AfR hi2 rs z r w3) (hb : Below w2.heap.size w2 w3) (hh : hi ≤ hi2) : After hi w3 t r := by
  rcases h1 with ⟨rfl, rfl⟩ | ⟨rfl, b, mb, v, rs1, ps, rfl, hT, h0, hs, hf⟩
  · rcases h2 with ⟨_, rfl⟩ | ⟨hz, _⟩
    · exact ⟨Or.inl ⟨rfl, rfl⟩⟩
    · cases hz
  · rcases h2 with ⟨hz, _⟩ | ⟨_, rb, rv, rs2, rfl, hR, hf2⟩
    · cases hz
    · exact ⟨Or.inr ⟨b, mb, v, rs1, ps, rb, rv, rs2, rfl, rfl, hT.keptB hb, ⟨Nat.le_trans hh hR.bB, hR.tab, ownsRow_base hR.rows hh, fun p hp => ownsRow_base (hR.mems p hp) hh⟩, h0, hs, hf2.trans hf.symm⟩⟩
theorem eqT_nil (W : World) : (binOp BinOp.eql 24 (.pointer none) (.pointer none)).run Tryd.prog W = .ok (.bool true) W := by kernel_rfl
theorem eqT_some (a : Addr) (W : World) : (binOp BinOp.eql 24 (.pointer (some a)) (.pointer none)).run Tryd.prog W = .ok (.bool false) W := by kernel_rfl
theorem eqR_nil (W : World) : (binOp BinOp.eql 25 (.pointer none) (.pointer none)).run Tryd.prog W = .ok (.bool true) W := by kernel_rfl
theorem eqR_some (a : Addr) (W : World) : (binOp BinOp.eql 25 (.pointer (some a)) (.pointer none)).run Tryd.prog W = .ok (.bool false) W := by kernel_rfl

/-- Both answers, at rows and at a copy of them. -/
theorem bothFrom {w w1 : World} {v v' : Value} {rs rs' : List (Rw × Value)} (h : RowIn w v rs) (hl : rs.length * 72 ≤ 140737488355328) (hO : ∀ p ∈ rs, Okay p.1) (h1 : RowSl w1 v' rs') (hf : rs'.map (·.1) = rs.map (·.1)) (hb : Below w.heap.size w w1) :
    ∃ (z : Bool) (er : Int),
      Calls Tryd.prog 16 #[v'] w1 (fun e w2 => ∃ t, e = .returned (.tuple #[.pointer t, .int .i64 er]) ∧ (∀ W, (binOp BinOp.eql 24 (.pointer t) (.pointer none)).run Tryd.prog W = .ok (.bool z) W) ∧ AfT w1.heap.size rs z (.pointer t) w2 ∧ Below w1.heap.size w1 w2) ∧
      ∀ X, Below w.heap.size w X → Calls Tryd.prog 17 #[v] X fun e w3 => ∃ r, e = .returned (.tuple #[.pointer r, .int .i64 er]) ∧ (∀ W, (binOp BinOp.eql 25 (.pointer r) (.pointer none)).run Tryd.prog W = .ok (.bool z) W) ∧ AfR X.heap.size rs z (.pointer r) w3 ∧ Below X.heap.size X w3 := by
  have hlen := fst_len hf
  have hO' : ∀ p ∈ rs', Okay p.1 := by
    intro p hp
    have hm : p.1 ∈ rs'.map (·.1) := List.mem_map.2 ⟨p, hp, rfl⟩
    rw [hf] at hm
    obtain ⟨q, hq, hq2⟩ := List.mem_map.1 hm
    rw [← hq2]; exact hO q hq
  by_cases hn : 11 ≤ rs.length ∧ rs.length ≤ 512
  · have c1 := from_c h1 (by omega) (by omega) hO'
    have c2 := fun X (hX : Below w.heap.size w X) => rFrom_c (h.below hX) hn.1 hn.2 hO
    by_cases hok : RefOK rs
    · refine ⟨false, 0, c1.mono ?_, fun X hX => (c2 X hX).mono ?_⟩
      · rintro e w2 ⟨⟨hno, _⟩ | ⟨hyes, b, mb, v2, rs2, rfl, hf2, hT⟩, hb2⟩
        · exact absurd (ok_same.2 (RefOK_fst hf hok)) hno
        · refine ⟨_, rfl, eqT_some _, Or.inr ⟨rfl, b, mb, v2, rs2, _, rfl, hT, by have := fst_len hf2; omega, ?_, hf2.trans hf⟩, hb2⟩
          exact (AllIn_parts (FromOK_fst hf2 hyes).1).2
      · rintro e w3 ⟨⟨hno, _⟩ | ⟨hyes, rb, rv, rs2, rfl, hf2, hR⟩, hb3⟩
        · exact absurd hok hno
        · exact ⟨_, rfl, eqR_some _, Or.inr ⟨rfl, rb, rv, rs2, rfl, hR, hf2⟩, hb3⟩
    · refine ⟨true, 30, c1.mono ?_, fun X hX => (c2 X hX).mono ?_⟩
      · rintro e w2 ⟨⟨_, rfl⟩ | ⟨hyes, _⟩, hb2⟩
        · exact ⟨_, rfl, eqT_nil, Or.inl ⟨rfl, rfl⟩, hb2⟩
        · exact absurd (RefOK_fst hf.symm (ok_same.1 hyes)) hok
      · rintro e w3 ⟨⟨_, rfl⟩ | ⟨hyes, _⟩, hb3⟩
        · exact ⟨_, rfl, eqR_nil, Or.inl ⟨rfl, rfl⟩, hb3⟩
        · exact absurd hyes hok
  · obtain ⟨sp, sc, hv⟩ : ∃ sp sc, v = .slice sp rs.length sc := by
      rcases h.1 with ⟨e, hh⟩ | ⟨a, c, e, hh⟩ | ⟨g, o, cap, hv, hc, _⟩
      · rw [hh]; exact ⟨none, 0, e⟩
      · rw [hh]; exact ⟨_, _, e⟩
      · exact ⟨_, _, hv⟩
    obtain ⟨sp', sc', hv'⟩ : ∃ sp sc, v' = .slice sp rs'.length sc := by
      rcases h1.1 with ⟨e, hh⟩ | ⟨g, o, cap, hv, hc, _⟩
      · rw [hh]; exact ⟨none, 0, e⟩
      · exact ⟨_, _, hv⟩
    have hsm : rs.length < 11 ∨ 512 < rs.length := by omega
    refine ⟨true, 30, (from_len hv' (by omega) (by omega)).mono ?_, fun X hX => (rFrom_len hv hsm (by omega)).mono ?_⟩
    · rintro e w2 ⟨rfl, rfl⟩
      exact ⟨_, rfl, eqT_nil, Or.inl ⟨rfl, rfl⟩, Below.refl _ _⟩
    · rintro e w3 ⟨rfl, rfl⟩
      exact ⟨_, rfl, eqR_nil, Or.inl ⟨rfl, rfl⟩, Below.refl _ _⟩

section
variable {w : World}
set_option maxHeartbeats 8000000 in
theorem ctypeFrom_c {v : Value} {rs : List (Rw × Value)} (h : RowIn w v rs) (hl : rs.length * 72 ≤ 140737488355328) (hO : ∀ p ∈ rs, Okay p.1) (hT : Tabs w) (hN : Names w) :
    Calls Tryd.prog 4 #[v] w fun e w' => e = .returned (.bool true) ∧ Below w.heap.size w w' := by
  obtain ⟨sp, sc, hv, hsc⟩ : ∃ sp sc, v = .slice sp rs.length sc ∧ rs.length ≤ sc := by
    rcases h.1 with ⟨e, hh⟩ | ⟨a, c, e, hh⟩ | ⟨g, o, cap, hv, hc, _⟩
    · rw [hh]; exact ⟨none, 0, e, Nat.le_refl _⟩
    · rw [hh]; exact ⟨_, _, e, Nat.zero_le _⟩
    · exact ⟨_, _, hv, hc⟩
  have hB0 : Below w.heap.size w (w.alloc (.cells #[v] TT)) := (Below.refl _ w).alloc (Nat.le_refl _) _
  have cC := refCopy_c (w := w.alloc (.cells #[v] TT)) (b0 := w.heap.size) (v := v) (by rw [Lib.cell_of_heap (heap_r0 w _)]; rfl) (h.below hB0) hl (fun p hp => (hO p hp).mem)
  have hbt : ∀ (W : World), (Instr.build TT #[(0, v)]).run Tryd.prog W = .ok (.agg #[v]) W := fun W => by rw [hv]; kernel_rfl
  have HB0 : Hid (Below _ _ _) := hB0
  have HO : Hid (∀ p ∈ rs, Okay p.1) := hO
  have HIN : Hid (RowIn w v rs) := h
  have HT : Hid (Tabs w) := hT
  have HN : Hid (Names w) := hN
  rw [hv] at hbt
  rw [hv] at cC HB0 ⊢
  have HLL : Hid (rs.length * 72 ≤ 140737488355328) := hl
  clear h hO hB0 hT hN
  go_enter Tryd.func4, Tryd.ntmps4
  go_wp2_with (first | (go_at_call 13; fail) | fail)
  generalize w.alloc (.cells #[.slice sp rs.length sc] TT) = W0 at *
  refine cC.mono ?_
  rintro e w1 ⟨b, v', rs', rfl, hfst, hR, hb1⟩
  have hlen : rs'.length = rs.length := fst_len hfst
  have HB1 : Hid (Below w.heap.size w w1) := HB0.out.trans (hb1.mono HB0.out.size)
  have HR : Hid (RTab w.heap.size w1 b v' rs') := ⟨Nat.le_trans HB0.out.size hR.bB, hR.tab, ownsRow_base hR.rows HB0.out.size, fun p hp => ownsRow_base (hR.mems p hp) HB0.out.size⟩
  have HFST : Hid (rs'.map (·.1) = rs.map (·.1)) := hfst
  have HLEN : Hid (rs'.length = rs.length) := hlen
  clear hR hb1 cC hfst hlen hbt HB0
  have hc1 := HR.out.c0
  obtain ⟨vp, vc, hvv⟩ := slice_of_own HR.out.rows
  rw [hvv] at hc1
  obtain ⟨z, er, cF, cG⟩ := bothFrom HIN.out HLL.out HO.out HR.out.rowSl HFST.out HB1.out
  rw [hvv] at cF
  rw [hv] at cG
  go_wp2_with (first
    | (go_at_call 16; refine cF.mono ?_; rintro e w2 ⟨t, rfl, hte, hAT, hb2⟩; have HB2 : Hid (Below w1.heap.size w1 w2) := hb2; have HAT : Hid (AfT _ _ _ _ _) := hAT; clear hb2 hAT)
    | (go_at_call 17; refine (cG _ (HB1.out.trans (HB2.out.mono HB1.out.size))).mono ?_; rintro e w3 ⟨r, rfl, hre, hAR, hb3⟩; have HB3 : Hid (Below w2.heap.size w2 w3) := hb3; have HAR : Hid (AfR _ _ _ _ _) := hAR; clear hb3 hAR))
  have HAF : Hid (After w1.heap.size w3 (.pointer t) (.pointer r)) := after_of HAT.out HAR.out HB3.out HB2.out.size
  have HBW : Hid (Below w.heap.size w w3) := (HB1.out.trans (HB2.out.mono HB1.out.size)).trans (HB3.out.mono (Nat.le_trans HB1.out.size HB2.out.size))
  have hsz13 : w1.heap.size ≤ w3.heap.size := Nat.le_trans HB2.out.size HB3.out.size
  obtain ⟨g, cap, hgc⟩ : ∃ g cap, 0 < rs'.length → vp = some ⟨g, 0, none⟩ ∧ vc = cap ∧ OwnSh w.heap.size w1.heap.size w1 g cap rs' 0 := by
    by_cases h0 : 0 < rs'.length
    · obtain ⟨g, cap, e, ho⟩ := OwnSh.of_rtab HR.out h0
      rw [hvv] at e
      injection e with e1 _ e3
      exact ⟨g, cap, fun _ => ⟨e1, e3, ho⟩⟩
    · exact ⟨0, 0, fun h => absurd h h0⟩
  have HGC : Hid (0 < rs'.length → vp = some ⟨g, 0, none⟩ ∧ vc = cap ∧ OwnSh w.heap.size w1.heap.size w1 g cap rs' 0) := hgc
  have HOS : Hid (0 < rs'.length → OwnSh w.heap.size w1.heap.size w3 g cap rs' 0) := fun h0 => (hgc h0).2.2.kept (Nat.le_refl _) (HB2.out.trans (HB3.out.mono HB2.out.size))
  have hw1 : w.heap.size ≤ w1.heap.size := HB1.out.size
  clear hgc hc1 cF cG HAT HAR
  have hlen63 : rs'.length ≤ 9223372036854775807 := by have h1 := HLEN.out; have h2 := HLL.out; omega
  go_loopw [8] (fun j wr => ∃ (k : Nat), j = .int .i64 k ∧ k ≤ rs'.length ∧ Hid (0 < rs'.length → OwnSh w.heap.size w1.heap.size wr g cap rs' k) ∧ Hid (After w1.heap.size wr (.pointer t) (.pointer r)) ∧ Hid (Below w.heap.size w wr) ∧ Hid (w1.heap.size ≤ wr.heap.size)) (fun j _ => rs'.length - (intOf j).toNat)
  case atStart => exact ⟨0, rfl, Nat.zero_le _, HOS, HAF, HBW, hsz13⟩
  case round =>
    obtain ⟨k, rfl, hk, HK, HA, HW, HZ⟩ := hrel
    by_cases hlt : k < rs'.length
    · obtain ⟨e1, e2, _⟩ := HGC.out (by omega)
      subst e1 e2
      have hOW := HK.out (by omega)
      have hcapn := hOW.capn
      obtain ⟨p, hp⟩ : ∃ p, rs'[k]? = some p := ⟨_, List.getElem?_eq_getElem hlt⟩
      obtain ⟨w4, hw4⟩ : ∃ x, x = wr := ⟨_, rfl⟩
      subst hw4
      have HOW : Hid (OwnSh w.heap.size w1.heap.size w4 g vc rs' k) := hOW
      have HPM : Hid (p ∈ rs') := List.mem_of_getElem? hp
      have HP : Hid (rs'[k]? = some p) := hp
      clear hOW HK hp
      go_wp2
      go_loopw [9] (fun j wr => ∃ (m : Nat), j = .int .i64 m ∧ m ≤ p.1.mem.length ∧ Hid (OwnSh w.heap.size w1.heap.size wr g vc rs' k) ∧ Hid (After w1.heap.size wr (.pointer t) (.pointer r)) ∧ Hid (Below w.heap.size w wr) ∧ Hid (w1.heap.size ≤ wr.heap.size)) (fun j _ => p.1.mem.length - (intOf j).toNat)
      case atStart => exact ⟨0, rfl, Nat.zero_le _, HOW, HA, HW, HZ⟩
      case round =>
        obtain ⟨m, rfl, hm, HO2, HA2, HW2, HZ2⟩ := hrel
        obtain ⟨cur, r1, r2, r3⟩ := HO2.out.rows
        have q4 : wr.cell? ⟨g, k * 6 + 4, none⟩ = some p.2 := by rw [Lib.cell_of_heap r1]; exact r3 k p (Nat.le_refl _) HP.out
        have hth : wr.there g (k * 6) 6 := there_of r1 (by omega)
        have hbz : ∀ W : World, (Instr.build TR #[]).run Tryd.prog W = .ok (.agg #[.int .i64 0, .int .i64 0, .int .i64 0, .string ⟨#[]⟩, .slice none 0 0, .bool false]) W := fun W => by kernel_rfl
        have hov := HO2.out.over hlt [.int .i64 0, .int .i64 0, .int .i64 0, .string ⟨#[]⟩, .slice none 0 0, .bool false] rfl
        have HOV : Hid (OwnSh w.heap.size w1.heap.size (wr.setCells g (k * 6) [.int .i64 0, .int .i64 0, .int .i64 0, .string ⟨#[]⟩, .slice none 0 0, .bool false]) g vc rs' (k + 1)) := hov.1
        have HTV : Hid (Turned wr (wr.setCells g (k * 6) [.int .i64 0, .int .i64 0, .int .i64 0, .string ⟨#[]⟩, .slice none 0 0, .bool false]) (fun z => w.heap.size ≤ z ∧ z < w1.heap.size)) := hov.2
        have hme := HO2.out.mems p HPM.out
        have hplen : p.1.mem.length ≤ 9223372036854775807 := by
          have e := fst_at HFST.out k
          rw [HP.out] at e
          cases h2 : rs[k]? with
          | none => rw [h2] at e; cases e
          | some q =>
            rw [h2] at e
            have e2 : p.1 = q.1 := by simpa using e
            have := (HO.out q (List.mem_of_getElem? h2)).mem
            rw [e2]; omega
        have hbel : Hid (∀ W, Turned wr W (fun z => w.heap.size ≤ z ∧ z < w1.heap.size) → Below w.heap.size w W ∧ w1.heap.size ≤ W.heap.size) := by
          intro W ht
          exact ⟨⟨ht.os.trans HW2.out.os, ht.tape.trans HW2.out.tape, ht.output.trans HW2.out.output, Nat.le_trans HW2.out.size ht.size, fun j hj => (ht.block j (Nat.lt_of_lt_of_le hj HW2.out.size) (by omega)).trans (HW2.out.block j hj)⟩, Nat.le_trans HZ2.out ht.size⟩
        clear r1 r3 hov
        rcases hme with ⟨hm0, hm1⟩ | ⟨h, hc, cur', hm0, hm1, hm2, hm3, hm4, hm5⟩
        · rw [hm0] at q4
          obtain rfl : m = 0 := by omega
          go_wp2_with ((with_reducible apply step_store_mid hth); rfl; rfl; rfl; kernel_rfl; kernel_rfl)
          refine ⟨⟨k + 1, by go_num, by omega, fun _ => HOV.out, HA2.out.kept HTV.out, (hbel.out _ HTV.out).1, (hbel.out _ HTV.out).2⟩, by simp [intOf]; omega⟩
        · rw [hm0] at q4
          by_cases hmlt : m < p.1.mem.length
          · have f0 : (wr.cell? ⟨h, m * 3, none⟩).isSome = true := (there_of (o := m * 3) (n := 1) hm2 (by omega) 0 (by omega)).1
            obtain ⟨x0, hx0⟩ := Option.isSome_iff_exists.1 f0
            have hfz : wr.frozen? ⟨h, m * 3, none⟩ = false := frozen_of hm2 _
            have hst := HO2.out.set hm2 hm4 hm5 (m * 3) (.string ⟨#[63]⟩)
            have HST : Hid (OwnSh w.heap.size w1.heap.size (wr.setCell ⟨h, m * 3, none⟩ (.string ⟨#[63]⟩)) g vc rs' k) := hst.1
            have HTS : Hid (Turned wr (wr.setCell ⟨h, m * 3, none⟩ (.string ⟨#[63]⟩)) (fun z => w.heap.size ≤ z ∧ z < w1.heap.size)) := hst.2
            clear hst f0 hm2
            go_wp2
            refine ⟨⟨m + 1, by go_num, by omega, HST, HA2.out.kept HTS.out, (hbel.out _ HTS.out).1, (hbel.out _ HTS.out).2⟩, by simp [intOf]; omega⟩
          · obtain rfl : m = p.1.mem.length := by omega
            go_wp2_with ((with_reducible apply step_store_mid hth); rfl; rfl; rfl; kernel_rfl; kernel_rfl)
            refine ⟨⟨k + 1, by go_num, by omega, fun _ => HOV.out, HA2.out.kept HTV.out, (hbel.out _ HTV.out).1, (hbel.out _ HTV.out).2⟩, by simp [intOf]; omega⟩
    · obtain rfl : k = rs'.length := by omega
      have cH := fun X (hX : Below w.heap.size w X) => heads_c X (Tabs.below HT.out hX) (Names.below HN.out hX)
      rcases HA.out.both with ⟨e1, e2⟩ | ⟨tb, mb, tv, trs, tps, rb, rv, rrs, e1, e2, hTab, hRT, h0, hsm, hff⟩
      · injection e1 with e1
        injection e2 with e2
        subst e1 e2
        obtain rfl : z = true := by have := hte w; rw [eqT_nil] at this; injection this with h _; injection h with h; exact h.symm
        have cH := cH wr HW.out
        clear HK HA
        go_wp2_with (go_at_call 15; refine cH.mono ?_; rintro e w5 ⟨rfl, hb5⟩)
        go_ret
        exact ⟨rfl, HW.out.trans (hb5.mono HW.out.size)⟩
      · injection e1 with e1
        injection e2 with e2
        subst e1 e2
        obtain rfl : z = false := by have := hte w; rw [eqT_some] at this; injection this with h _; injection h with h; exact h.symm
        have hl5 : rrs.length ≤ 512 := by have h1 := fst_len hff; have h2 := hTab.len; omega
        have cL := like_c hTab h0 hsm (hRT.rt hl5) hff
        clear HK HA hTab hRT
        go_wp2_with (first
          | (go_at_call 18; refine cL.mono ?_; rintro e w5 ⟨rfl, hb5⟩; have HB5 : Hid (Below w.heap.size w w5) := HW.out.trans (hb5.mono HW.out.size); clear hb5)
          | (go_at_call 15; refine (cH _ HB5.out).mono ?_; rintro e w6 ⟨rfl, hb6⟩))
        go_ret
        exact ⟨rfl, HB5.out.trans (hb6.mono HB5.out.size)⟩
end
end Go.Proofs.YtfdjghfgbibedaaDoor
