/-
  A memory as a script makes it; MemoryPlays' own walk.
-/
import Derived.Test.YtigiahcfcglacaaPl
import Derived.Test.YtigiahcfcglacaaHiW
import Derived.Test.YtigiahcfcglacaaMmX
namespace Go.Proofs.Ytigiahcfcglacaa
open Go.RowKit Go.Maps
set_option linter.unusedVariables false
set_option maxRecDepth 100000
section
variable {w : World}
/-- The blocks that were there. -/
def Old (w : World) : Nat → Prop := fun k => k < w.heap.size
theorem Kept.old {w w' w2 : World} (h : Kept (Old w) w' w2) (hs : w.heap.size ≤ w'.heap.size) : Below w.heap.size w' w2 := ⟨h.os, h.tape, h.output, h.size, fun k hk => h.block k (by omega) (fun c => c hk)⟩
theorem RX_new {w : World} : RX (w.alloc (.cells #[.slice none 0 0, .int .i64 0] TRM)) w.heap.size [] (fun k => k = w.heap.size) := by
  refine ⟨⟨.slice none 0 0, heap_r0 w _, World.ownsRow_nil _ _ _ _, fun k hk => (by cases hk)⟩, ⟨fun _ => 0, fun i y k hy => (by simp at hy)⟩, rfl, fun k hk => (by subst hk; simp), (by decide)⟩
/-- Behind New and an empty given answer. -/
theorem duo_new {w w1 : World} {b : Nat} {P : Nat → Prop} (h : MemX w1 b [] P) (hP : ∀ k, P k → w.heap.size ≤ k) (hb : Below w.heap.size w w1) :
    D (Old w) b w1.heap.size [] [] (w1.alloc (.cells #[.slice none 0 0, .int .i64 0] TRM)) := by
  refine ⟨⟨[], P, [], _, h.alloc _, RX_new, rfl, rfl, fun k hk c => ?_, fun k hk c => ?_, fun k hk c => ?_⟩, by decide, fun k hk => ?_⟩
  · have := hP k hk; unfold Old at c; omega
  · have hs := hb.size; unfold Old at c; omega
  · have := h.lt k hk; omega
  · have hs := hb.size; unfold Old at hk; simp; omega
theorem acts_cells {v : Value} {l : List Ac} (h : ActIn w v l) {j : Nat} {a : Ac} (ha : l[j]? = some a) : ∃ g o cap, v = .slice (some ⟨g, o, none⟩) l.length cap ∧ g < w.heap.size ∧ l.length ≤ cap ∧ ∀ Y, Below w.heap.size w Y → Y.cell? ⟨g, o + j * 10, none⟩ = some (.int .i64 a.kind) ∧ Y.cell? ⟨g, o + j * 10 + 1, none⟩ = some (.int .i64 a.p.kind) ∧ Y.cell? ⟨g, o + j * 10 + 2, none⟩ = some (.int .u32 a.p.v) ∧ Y.cell? ⟨g, o + j * 10 + 3, none⟩ = some (.int .i64 a.p.block) ∧ Y.cell? ⟨g, o + j * 10 + 4, none⟩ = some (.int .i64 a.q.kind) ∧ Y.cell? ⟨g, o + j * 10 + 5, none⟩ = some (.int .u32 a.q.v) ∧ Y.cell? ⟨g, o + j * 10 + 6, none⟩ = some (.int .i64 a.q.block) ∧ Y.cell? ⟨g, o + j * 10 + 7, none⟩ = some (.int .i64 a.n) ∧ Y.cell? ⟨g, o + j * 10 + 8, none⟩ = some (.int .i64 a.w) ∧ Y.cell? ⟨g, o + j * 10 + 9, none⟩ = some (.bool a.sg) := by
  rcases h with (⟨rfl, rfl⟩ | ⟨g, o, cap, rfl, h1, h2, h3⟩) | ⟨_, _, _, rfl⟩
  · simp at ha
  · refine ⟨g, o, cap, rfl, h2, h1, fun Y hY => ?_⟩
    have h4 := h3 j a ha
    refine ⟨?_, ?_, ?_, ?_, ?_, ?_, ?_, ?_, ?_, ?_⟩ <;> rw [hY.cell (p := ⟨g, _, none⟩) h2]
    · exact h4 0 (by omega)
    · exact h4 1 (by omega)
    · exact h4 2 (by omega)
    · exact h4 3 (by omega)
    · exact h4 4 (by omega)
    · exact h4 5 (by omega)
    · exact h4 6 (by omega)
    · exact h4 7 (by omega)
    · exact h4 8 (by omega)
    · exact h4 9 (by omega)
  · simp at ha
theorem acts_len {v : Value} {l : List Ac} (h : ActIn w v l) : ∃ a cap, v = .slice a l.length cap := by
  rcases h with (⟨rfl, rfl⟩ | ⟨g, o, cap, rfl, _⟩) | ⟨a, c, rfl, rfl⟩
  · exact ⟨none, 0, rfl⟩
  · exact ⟨_, cap, rfl⟩
  · exact ⟨_, c, rfl⟩
set_option maxHeartbeats 4000000 in
theorem made_c {v : Value} {l : List Ac} (hin : ActIn w v l) (hok : ∀ a ∈ l, AcOK a) (hlen : l.length * 80 ≤ 140737488355328) :
    Calls Try.prog 9 #[v] w fun e w' => ∃ b rb s, e = .returned (.pointer (some ⟨b, 0, none⟩)) ∧ D (Old w) b rb s s w' ∧ Below w.heap.size w w' := by
  obtain ⟨va, vc, rfl⟩ := acts_len hin
  have HIN : Hid (ActIn w (.slice va l.length vc) l) := hin
  have HOK : Hid (∀ a ∈ l, AcOK a) := hok
  have cN := new_c w
  have hbM : ∀ W : World, (Instr.build TRM #[]).run Try.prog W = .ok (.agg #[.slice none 0 0, .int .i64 0]) W := fun W => by kernel_rfl
  clear hin hok
  go_enter Try.func9, Try.ntmps9
  go_wp2_with (go_at_call 16; refine cN.mono ?_; rintro e w1 ⟨b, P, rfl, hm, hP, hb1⟩; have HD1 : Hid (D (Old w) b w1.heap.size [] [] (w1.alloc (.cells #[.slice none 0 0, .int .i64 0] TRM))) := duo_new hm hP hb1; have HB1 : Hid (Below w.heap.size w (w1.alloc (.cells #[.slice none 0 0, .int .i64 0] TRM))) := hb1.alloc hb1.size _; clear hm hP hb1 cN)
  go_loopw [5] (fun i_ wr => ∃ (j : Nat), i_ = .int .i64 j ∧ j ≤ l.length ∧ Hid (∃ s : St, s.length ≤ j ∧ D (Old w) b w1.heap.size s s wr) ∧ Hid (Below w.heap.size w wr)) (fun i_ _ => l.length - (intOf i_).toNat)
  case atStart => exact ⟨0, rfl, Nat.zero_le _, ⟨[], Nat.le_refl _, HD1.out⟩, HB1⟩
  case round =>
    obtain ⟨j, rfl, hj, HS, HB⟩ := hrel
    by_cases hlt : j < l.length
    · obtain ⟨s, hsl, hd⟩ := HS.out
      have ha : l[j]? = some l[j] := List.getElem?_eq_getElem hlt
      have hak := HOK.out l[j] (List.getElem_mem hlt)
      obtain ⟨g, o, cap, hv, hg, hcap, hc⟩ := acts_cells HIN.out ha
      generalize l[j] = a at *
      obtain ⟨a0, a1, a2, a3, a4, a5, a6, a7, a8, a9⟩ := hc wr HB.out
      injection hv with hv1 hv2 hv3
      subst hv1 hv3
      have c := play_c hd a hak (fun _ => by omega)
      have HSL : Hid (s.length ≤ j) := hsl
      clear hc ha hak hd hsl
      go_wp2_with (go_at_call 17; refine c.mono ?_; rintro e w2 ⟨rfl, hd2, hk2⟩; have HS2 : Hid (∃ s : St, s.length ≤ j + 1 ∧ D (Old w) b w1.heap.size s s w2) := ⟨nx s a, Nat.le_trans (nx_len s a) (by have := HSL.out; omega), hd2⟩; have HB2 : Hid (Below w.heap.size w w2) := HB.out.trans (hk2.old HB.out.size); clear hd2 hk2 c)
      exact ⟨⟨j + 1, by go_num, by omega, HS2, HB2⟩, by simp [intOf]; omega⟩
    · obtain rfl : j = l.length := by omega
      go_wp2
      go_ret
      obtain ⟨s, _, hd⟩ := HS.out
      exact ⟨b, _, s, rfl, hd, HB.out⟩
theorem D.sl {N : Nat → Prop} {b rb : Nat} {s1 s2 : St} {w : World} (h : D N b rb s1 s2 w) : ∃ q cap, w.cell? ⟨rb, 0, none⟩ = some (.slice q s2.length cap) := by
  obtain ⟨xs, P, ys, R, h1, h2, rfl, rfl, _⟩ := h.ex
  obtain ⟨q, cap, hq, _⟩ := h2.sl
  have : (stR ys).length = ys.length := by simp [stR]
  rw [this]
  exact ⟨q, cap, hq⟩
set_option maxHeartbeats 4000000 in
theorem plays_c {v : Value} {l : List Ac} (hin : ActIn w v l) (hok : ∀ a ∈ l, AcOK a) (hlen : l.length * 80 ≤ 140737488355328) :
    Calls Try.prog 5 #[v] w fun e w' => e = .returned (.bool true) ∧ Below w.heap.size w w' := by
  obtain ⟨va, vc, rfl⟩ := acts_len hin
  have HIN : Hid (ActIn w (.slice va l.length vc) l) := hin
  have HOK : Hid (∀ a ∈ l, AcOK a) := hok
  have cN := new_c w
  have n3 := not_t
  have hbM : ∀ W : World, (Instr.build TRM #[]).run Try.prog W = .ok (.agg #[.slice none 0 0, .int .i64 0]) W := fun W => by kernel_rfl
  have hbA : ∀ (x : Int) (W : World), (Instr.build TA #[(0, .int .i64 8), (3, .int .i64 x)]).run Try.prog W = .ok (.agg #[.int .i64 8, .int .i64 0, .int .u32 0, .int .i64 0, .int .i64 0, .int .u32 0, .int .i64 0, .int .i64 x, .int .i64 0, .bool false]) W := fun x W => by kernel_rfl
  clear hin hok
  go_enter Try.func5, Try.ntmps5
  go_wp2_with (go_at_call 16; refine cN.mono ?_; rintro e w1 ⟨b, P, rfl, hm, hP, hb1⟩; have HD1 : Hid (D (Old w) b w1.heap.size [] [] (w1.alloc (.cells #[.slice none 0 0, .int .i64 0] TRM))) := duo_new hm hP hb1; have HB1 : Hid (Below w.heap.size w (w1.alloc (.cells #[.slice none 0 0, .int .i64 0] TRM))) := hb1.alloc hb1.size _; clear hm hP hb1 cN)
  go_loopw [5] (fun i_ wr => ∃ (j : Nat), i_ = .int .i64 j ∧ j ≤ l.length ∧ Hid (∃ s : St, s.length ≤ j ∧ D (Old w) b w1.heap.size s s wr) ∧ Hid (Below w.heap.size w wr)) (fun i_ _ => l.length - (intOf i_).toNat)
  case atStart => exact ⟨0, rfl, Nat.zero_le _, ⟨[], Nat.le_refl _, HD1.out⟩, HB1⟩
  case round =>
    obtain ⟨j, rfl, hj, HS, HB⟩ := hrel
    by_cases hlt : j < l.length
    · obtain ⟨s, hsl, hd⟩ := HS.out
      have ha : l[j]? = some l[j] := List.getElem?_eq_getElem hlt
      have hak := HOK.out l[j] (List.getElem_mem hlt)
      obtain ⟨g, o, cap, hv, hg, hcap, hc⟩ := acts_cells HIN.out ha
      generalize l[j] = a at *
      obtain ⟨a0, a1, a2, a3, a4, a5, a6, a7, a8, a9⟩ := hc wr HB.out
      injection hv with hv1 hv2 hv3
      subst hv1 hv3
      have c := play_c hd a hak (fun _ => by omega)
      have HSL : Hid (s.length ≤ j) := hsl
      clear hc ha hak hd hsl
      go_wp2_with (go_at_call 17; refine c.mono ?_; rintro e w2 ⟨rfl, hd2, hk2⟩; have HS2 : Hid (∃ s : St, s.length ≤ j + 1 ∧ D (Old w) b w1.heap.size s s w2) := ⟨nx s a, Nat.le_trans (nx_len s a) (by have := HSL.out; omega), hd2⟩; have HB2 : Hid (Below w.heap.size w w2) := HB.out.trans (hk2.old HB.out.size); clear hd2 hk2 c)
      exact ⟨⟨j + 1, by go_num, by omega, HS2, HB2⟩, by simp [intOf]; omega⟩
    · obtain rfl : j = l.length := by omega
      obtain ⟨s, hsl, hd⟩ := HS.out
      have HD0 : Hid (D (Old w) b w1.heap.size s s wr) := hd
      have HSL : Hid (s.length ≤ l.length) := hsl
      clear hd hsl HS
      go_wp2
      go_loopw [6] (fun i_ wr2 => ∃ (j : Nat), i_ = .int .i64 j ∧ j ≤ 40 ∧ Hid (D (Old w) b w1.heap.size s s wr2) ∧ Hid (Below w.heap.size w wr2)) (fun i_ _ => 40 - (intOf i_).toNat)
      case atStart => exact ⟨0, rfl, Nat.zero_le _, HD0, HB⟩
      case round =>
        skip
        obtain ⟨j, rfl, hj40, HD2, HB2⟩ := hrel
        obtain ⟨q, qc, hq⟩ := HD2.out.sl
        have hsl := HSL.out
        by_cases hc : j ≤ s.length + 1 ∧ j < 40
        · obtain ⟨hc1, hc2⟩ := hc
          have c := play_8 HD2.out ⟨8, ⟨0, 0, 0⟩, ⟨0, 0, 0⟩, j, 0, false⟩ (by show _ ≤ (j : Int); omega) (by show (j : Int) < _; omega) rfl
          rw [nx_same (Or.inr (Or.inl (by show (5 : Int) < 8; decide)))] at c
          simp only at c
          go_wp2_with (go_at_call 17; refine c.mono ?_; rintro e w2 ⟨rfl, hd2, hk2⟩; have HD3 : Hid (D (Old w) b w1.heap.size s s w2) := hd2; have HB3 : Hid (Below w.heap.size w w2) := HB2.out.trans (hk2.old HB2.out.size); clear hd2 hk2 c)
          exact ⟨⟨j + 1, by go_num, by omega, HD3, HB3⟩, by simp [intOf]; omega⟩
        · have cH := heads_c wr
          by_cases hc1 : j ≤ s.length + 1
          · have hc2 : ¬ j < 40 := fun h => hc ⟨hc1, h⟩
            clear hc
            go_wp2_with (go_at_call 11; refine cH.mono ?_; rintro e w2 ⟨rfl, hb2⟩; have HB3 : Hid (Below w.heap.size w w2) := HB2.out.trans (hb2.mono HB2.out.size); clear hb2 cH)
            go_ret
            exact ⟨rfl, HB3.out⟩
          · clear hc
            go_wp2_with (go_at_call 11; refine cH.mono ?_; rintro e w2 ⟨rfl, hb2⟩; have HB3 : Hid (Below w.heap.size w w2) := HB2.out.trans (hb2.mono HB2.out.size); clear hb2 cH)
            go_ret
            exact ⟨rfl, HB3.out⟩
end
end Go.Proofs.Ytigiahcfcglacaa
