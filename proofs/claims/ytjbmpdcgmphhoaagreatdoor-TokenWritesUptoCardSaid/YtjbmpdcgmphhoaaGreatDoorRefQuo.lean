/-
  What mortiseref02's quoted answers: the same characters and strings as package token's.
-/
import Derived.Test.YtjbmpdcgmphhoaaGreatDoorRefEsc
import Derived.Test.YtjbmpdcgmphhoaaGreatDoorUnqw
import Derived.Test.YtjbmpdcgmphhoaaGreatDoorQuoted
import Derived.Test.YtjbmpdcgmphhoaaGreatDoorRead
namespace Go.Proofs.YtjbmpdcgmphhoaaGreatDoor
open Go.RowKit
set_option linter.unusedVariables false

set_option maxRecDepth 100000 in
theorem escape_nl (s : ByteArray) (i q : Nat) (w : World) (hs : s.size ≤ 140737488355327) (hi : i < s.size) (h10 : (s[i]).toNat = 10) :
    Calls Tryz.prog 69 #[.string s, .int .i64 i, .int .u8 q] w fun e w' => e = .returned (.tuple #[.int .u8 0, .int .i64 i, .bool false]) ∧ w' = w := by
  have g0 : decide ((s.size : Int) ≤ i) = false := by simp; omega
  have g0' : decide (s.size ≤ i) = false := by simpa using hi
  have g1 : (((s[i]).toNat : Int) == 10) = true := by rw [beq_iff_eq]; omega
  clear h10
  go_enter Tryz.func69, Tryz.ntmps69
  go_wp2
  go_ret3
  exact ⟨rfl, rfl⟩
set_option maxRecDepth 100000 in
theorem escape_byte (s : ByteArray) (i q : Nat) (w : World) (hs : s.size ≤ 140737488355327) (hi : i < s.size) (h10 : (s[i]).toNat ≠ 10) (h92 : (s[i]).toNat ≠ 92) (hq : (s[i]).toNat ≠ q) :
    Calls Tryz.prog 69 #[.string s, .int .i64 i, .int .u8 q] w fun e w' => e = .returned (.tuple #[.int .u8 (s[i]).toNat, .int .i64 ((i : Int) + 1), .bool true]) ∧ w' = w := by
  have g0 : decide ((s.size : Int) ≤ i) = false := by simp; omega
  have g0' : decide (s.size ≤ i) = false := by simpa using hi
  have g1 : (((s[i]).toNat : Int) == 10) = false := by rw [beq_eq_false_iff_ne]; omega
  have g2 : (((s[i]).toNat : Int) == q) = false := by rw [beq_eq_false_iff_ne]; omega
  have g3 : (((s[i]).toNat : Int) != 92) = true := by simp; omega
  clear h10 h92 hq
  go_enter Tryz.func69, Tryz.ntmps69
  go_wp2
  go_ret3
  exact ⟨rfl, rfl⟩

def UQ (R : Option (List UInt8 × Nat)) (q : Nat) (L : List UInt8) (i : Nat) (t : List UInt8) (k : Nat) : Prop := R.map (fun x => (x.1, i + 1 + x.2)) = unqFrom q L t k
theorem UQ.start (q : Nat) (L : List UInt8) (i : Nat) : UQ (unq q (L.drop (i + 1))) q L i [] (i + 1) := by unfold UQ unqFrom; simp
theorem UQ.none {R : Option (List UInt8 × Nat)} {q : Nat} {L t : List UInt8} {i k : Nat} (h : UQ R q L i t k) (hu : unq q (L.drop k) = none) : R = none := by
  unfold UQ unqFrom at h; rw [hu] at h; cases R with | none => rfl | some x => cases h
theorem UQ.done {R : Option (List UInt8 × Nat)} {q : Nat} {L t : List UInt8} {i k : Nat} (h : UQ R q L i t k) (hik : i < k) (hu : unq q (L.drop k) = some ([], 1)) : R = some (t, k - i) := by
  unfold UQ unqFrom at h; rw [hu] at h
  cases R with
  | none => cases h
  | some x => simp at h; obtain ⟨x1, x2⟩ := x; simp at h ⊢; exact ⟨h.1, by omega⟩
theorem UQ.next {R : Option (List UInt8 × Nat)} {q : Nat} {L t : List UInt8} {i k j : Nat} {c : UInt8} (h : UQ R q L i t k) (hu : unq q (L.drop k) = (unq q (L.drop (k + j))).map fun x => (c :: x.1, j + x.2)) : UQ R q L i (t ++ [c]) (k + j) := by
  unfold UQ unqFrom at h ⊢; rw [h, hu]
  cases unq q (L.drop (k + j)) with
  | none => rfl
  | some x => simp; omega

/-- What stands between quotes as a token, and where it ends behind the first quote. -/
def quoteR (q : Nat) (R : Option (List UInt8 × Nat)) : Option (Tk × Nat) := match R with
  | none => none
  | some (t, m) => if q = 34 then some (⟨5, t, 0⟩, m) else match t with
    | [c] => some (⟨4, [], sbyte c⟩, m)
    | _ => none
def QPost (i : Nat) (X : Option (Tk × Nat)) (e : Ending) : Prop := match X with
  | none => ∃ k : Int, e = .returned (.tuple #[noTok, .int .i64 k, .bool false])
  | some (t, m) => e = .returned (.tuple #[tokV t.kind ⟨t.text.toArray⟩ t.num, .int .i64 (i + 1 + m : Nat), .bool true])

theorem ret_tokc {fn : Func} {R : Ending → World → Prop} {tmps : Array Value} {w : World} {g p q r : Nat} {cs : Array Value}
    (hres : fn.results = #[.cell p 35, .tmp q, .tmp r]) (hp : tmps.getD p undef = .pointer (some ⟨g, 0, none⟩)) (hg : w.heap[g]? = some (.cells cs 35 (0, 0))) (hcs : cs.size = 6)
    (hR : R (.returned (.tuple #[.agg cs, tmps.getD q undef, tmps.getD r undef])) w) : bodyPost Tryz.prog fn R .ret ⟨tmps, []⟩ w := by
  refine bodyPost_ret ?_ rfl hR
  have hl := run_loadVar_row (P := Tryz.prog) w g 35 35 cs (0, 0) _ hg Tryz.underlying35 rfl (by rw [hcs]; kernel_rfl)
  rw [results_cell3 hres]
  simp only [hp]
  simp [asAddr, Result.andThen, hl]

set_option maxRecDepth 100000 in
set_option maxHeartbeats 4000000 in
theorem quoted_r (s : ByteArray) (i : Nat) (w : World) (hs : s.size ≤ 140737488355327) (hi : i < s.size) :
    Calls Tryz.prog 48 #[.string s, .int .i64 i] w fun e w' => QPost i (quoteR (s[i]).toNat (unq (s[i]).toNat (s.data.toList.drop (i + 1)))) e ∧ Below w.heap.size w w' := by
  obtain ⟨i0, hi0, hz0, hz1, hz2⟩ := info_parts info_u8
  have hStart := UQ.start (s[i]).toNat s.data.toList i
  have hq256 : (s[i]).toNat < 256 := (s[i]).toNat_lt
  obtain ⟨q, hqe⟩ : ∃ q, q = (s[i]).toNat := ⟨_, rfl⟩
  rw [← hqe] at hStart hq256 ⊢
  have hqi : ((s[i]).toNat : Int) = q := by omega
  generalize unq q (s.data.toList.drop (i + 1)) = R at *
  have HS : Hid (UQ _ _ _ _ _ _) := hStart
  have hbz : ∀ W : World, (Instr.build 35 #[]).run Tryz.prog W = .ok (.agg #[.int .i64 0, .string ⟨#[]⟩, .int .i64 0, .int .i64 0, .int .i64 0, .int .i64 0]) W := fun W => by kernel_rfl
  have HT : Hid ((w.alloc (.cells #[.int .i64 0, .string ⟨#[]⟩, .int .i64 0, .int .i64 0, .int .i64 0, .int .i64 0] 35)).heap[w.heap.size]? = some (.cells #[.int .i64 0, .string ⟨#[]⟩, .int .i64 0, .int .i64 0, .int .i64 0, .int .i64 0] 35 (0, 0))) := heap_r0 w _
  have HB0 : Hid (Below w.heap.size w (w.alloc (.cells #[.int .i64 0, .string ⟨#[]⟩, .int .i64 0, .int .i64 0, .int .i64 0, .int .i64 0] 35))) := (Below.refl _ _).alloc (Nat.le_refl _) _
  have hsz0 : w.heap.size + 1 = (w.alloc (.cells #[.int .i64 0, .string ⟨#[]⟩, .int .i64 0, .int .i64 0, .int .i64 0, .int .i64 0] 35)).heap.size := by simp
  have HQE : Hid _ := hqe
  clear hStart hqe
  go_enter Tryz.func48, Tryz.ntmps48
  go_wp2
  generalize w.alloc (.cells #[.int .i64 0, .string ⟨#[]⟩, .int .i64 0, .int .i64 0, .int .i64 0, .int .i64 0] 35) = w0 at *
  generalize hB : w0.heap.size = B at *
  have HBB : Hid (w0.heap.size = B) := hB
  clear hB
  go_loopw [1, 8] (fun iv v wr => ∃ (k : Nat) (t : List UInt8), k ≤ s.size ∧ i + 1 ≤ k ∧ t.length < k ∧ iv = .int .i64 k ∧ Hid (wr.ownsRow B 5 1 v t.length (byteVals t)) ∧ Hid (Below B w0 wr) ∧ B ≤ wr.heap.size ∧ Hid (UQ R q s.data.toList i t k)) (fun iv _ _ => s.size - (intOf iv).toNat)
  case atStart => exact ⟨i + 1, [], hi, Nat.le_refl _, by simp, by go_num, World.ownsRow_nil _ _ _ _, Below.refl _ _, Nat.le_of_eq HBB.out.symm, HS⟩
  case round =>
    obtain ⟨k, t, hk, hk1, htk, rfl, HOWN, HBEL, hsz, HR⟩ := hrel
    clear HS
    have hold : wr.heap[w.heap.size]? = some (.cells #[.int .i64 0, .string ⟨#[]⟩, .int .i64 0, .int .i64 0, .int .i64 0, .int .i64 0] 35 (0, 0)) := (HBEL.out.block w.heap.size (by omega)).trans HT.out
    have HBW : Hid (Below w.heap.size w wr) := HB0.out.trans (HBEL.out.mono (by omega))
    have hn0 : ∀ W : World, (Op.unary UnOp.not (.bool false)).run Tryz.prog W = .ok (.bool true) W := fun _ => rfl
    have hn1 : ∀ W : World, (Op.unary UnOp.not (.bool true)).run Tryz.prog W = .ok (.bool false) W := fun _ => rfl
    by_cases hlt : k < s.size
    · have hd := drop_get s k hlt
      have hu := unq_cons q s[k] (s.data.toList.drop (k + 1))
      rw [← hd] at hu
      have gA : decide ((k : Int) < s.size) = true := by simp; omega
      have gA' : decide (k < s.size) = true := by simpa using hlt
      by_cases hqk : (s[k]).toNat = q
      · rw [if_pos hqk] at hu
        have hRR := HR.out.done (by omega) hu
        subst hRR
        have gq : (((s[k]).toNat : Int) != q) = false := by simp; omega
        clear hu hd HR hqk
        by_cases h34 : q = 34
        · subst h34
          have hconv := convert_own HOWN.out
          go_wp2_with ((with_reducible apply step_store hold); rfl; rfl; kernel_rfl; rfl; kernel_rfl)
          refine ret_tokc (p := 4) (q := 5) (r := 6) ?_ ?_ (setRow_heap _ _ _ _ _ _ hold) ?_ ?_
          all_goals first | rfl | (exact ⟨by show _ = _; rw [show ((i + 1 + (k - i) : Nat) : Int) = (k : Int) + 1 by omega]; rfl, below_setRow HBW.out (Nat.le_refl _) _⟩)
        · have g34 : ¬ ((q : Int) = 34) := by omega
          by_cases hone : ∃ c, t = [c]
          · obtain ⟨c, rfl⟩ := hone
            obtain ⟨gv, capv, hgv, rfl, hcv⟩ := own_cell HOWN.out (by simp)
            have hc0 := hcv 0 (by simp)
            simp only [List.getElem_cons_zero] at hc0
            have hsb := sbyte_wrap c.toNat c.toNat_lt
            by_cases h128 : c.toNat < 128
            · rw [if_pos h128] at hsb
              have HX : Hid (quoteR q (some ([c], k - i)) = some (⟨4, [], (c.toNat : Int)⟩, k - i)) := by show quoteR _ _ = _; unfold quoteR; simp [h34, sbyte, h128]
              clear hcv h128
              go_wp2_with ((with_reducible apply step_store hold); rfl; rfl; kernel_rfl; rfl; kernel_rfl)
              refine ret_tokc (p := 4) (q := 5) (r := 6) ?_ ?_ (setRow_heap _ _ _ _ _ _ hold) ?_ ?_
              all_goals first | rfl | (exact ⟨by rw [HX.out]; show _ = _; rw [show ((i + 1 + (k - i) : Nat) : Int) = (k : Int) + 1 by omega]; rfl, below_setRow HBW.out (Nat.le_refl _) _⟩)
            · rw [if_neg h128] at hsb
              have HX : Hid (quoteR q (some ([c], k - i)) = some (⟨4, [], (c.toNat : Int) - 256⟩, k - i)) := by show quoteR _ _ = _; unfold quoteR; simp [h34, sbyte, h128]
              clear hcv h128
              go_wp2_with ((with_reducible apply step_store hold); rfl; rfl; kernel_rfl; rfl; kernel_rfl)
              refine ret_tokc (p := 4) (q := 5) (r := 6) ?_ ?_ (setRow_heap _ _ _ _ _ _ hold) ?_ ?_
              all_goals first | rfl | (exact ⟨by rw [HX.out]; show _ = _; rw [show ((i + 1 + (k - i) : Nat) : Int) = (k : Int) + 1 by omega]; rfl, below_setRow HBW.out (Nat.le_refl _) _⟩)
          · have hlen : ¬ ((t.length : Int) = 1) := by
              intro h
              apply hone
              rcases t with _ | ⟨c, _ | ⟨d, r⟩⟩
              · cases h
              · exact ⟨c, rfl⟩
              · simp at h; omega
            have HX : Hid (quoteR q (some (t, k - i)) = none) := by
              show quoteR _ _ = _
              unfold quoteR
              rcases t with _ | ⟨c, _ | ⟨d, r⟩⟩
              · simp [h34]
              · exact absurd ⟨c, rfl⟩ hone
              · simp [h34]
            obtain ⟨av, capv, rfl⟩ := own_slice HOWN.out
            clear hone
            go_wp2_with ((with_reducible apply step_store hold); rfl; rfl; kernel_rfl; rfl; kernel_rfl)
            refine ret_tokc (p := 4) (q := 5) (r := 6) ?_ ?_ (setRow_heap _ _ _ _ _ _ hold) ?_ ?_
            all_goals first | rfl | (exact ⟨by rw [HX.out]; exact ⟨_, rfl⟩, below_setRow HBW.out (Nat.le_refl _) _⟩)
      rw [if_neg hqk] at hu
      have gq : (((s[k]).toNat : Int) != q) = true := by simp; omega
      by_cases h10 : (s[k]).toNat = 10
      · rw [if_pos h10] at hu
        have hRR := HR.out.none hu
        subst hRR
        have cE := fun W => escape_nl s k q W hs hlt h10
        clear hu hd HR h10 hqk
        go_wp2_with (first | (go_at_call 69; refine (cE _).mono ?_; rintro e w1 ⟨rfl, rfl⟩) | ((with_reducible apply step_store hold); rfl; rfl; kernel_rfl; rfl; kernel_rfl))
        refine ret_tokc (p := 4) (q := 5) (r := 6) ?_ ?_ (setRow_heap _ _ _ _ _ _ hold) ?_ ?_
        all_goals first | rfl | (exact ⟨⟨_, rfl⟩, below_setRow HBW.out (Nat.le_refl _) _⟩)
      rw [if_neg h10] at hu
      by_cases h92 : (s[k]).toNat = 92
      · rw [if_pos h92] at hu
        have cE := fun W => escape_r s k q W hs hlt hq256 hqk h92
        rcases hE : escOf (s.data.toList.drop (k + 1)) with _ | ⟨b, j⟩
        · rw [hE] at hu
          have hRR := HR.out.none hu
          subst hRR
          have hX : escR s.data.toList k = none := by unfold escR; rw [hE]; rfl
          rw [hX] at cE
          clear hu hd HR hE h10 h92 hqk hX
          go_wp2_with (first | (go_at_call 69; refine (cE _).mono ?_; rintro e w1 ⟨⟨b, kk, rfl⟩, hb1⟩; have HB1 : Hid (Below w.heap.size w w1) := HBW.out.trans (hb1.mono HBW.out.size); have hold1 := (hb1.block w.heap.size (by omega)).trans hold; clear hb1) | ((with_reducible apply step_store hold1); rfl; rfl; kernel_rfl; rfl; kernel_rfl))
          refine ret_tokc (p := 4) (q := 5) (r := 6) ?_ ?_ (setRow_heap _ _ _ _ _ _ hold1) ?_ ?_
          all_goals first | rfl | (exact ⟨⟨_, rfl⟩, below_setRow HB1.out (Nat.le_refl _) _⟩)
        · rw [hE] at hu
          have hle := escOf_le hE
          have hb8 : b.toUInt8.toNat = b := by simp; omega
          have hj : j ≤ s.size - (k + 1) := by have := hle.2; simpa using this
          simp only [List.drop_drop] at hu
          rw [show k + 1 + j = k + (1 + j) by omega] at hu
          have HR2 : Hid (UQ R q s.data.toList i (t ++ [b.toUInt8]) (k + (1 + j))) := HR.out.next hu
          have hX : escR s.data.toList k = some (b, k + (1 + j)) := by unfold escR; rw [hE]; simp; omega
          rw [hX] at cE
          unfold EscPost at cE
          simp only at cE
          clear hu hd HR hE h10 h92 hqk hX
          clear hold HBW
          go_wp2_with (first | (go_at_call 69; refine (cE _).mono ?_; rintro e w1 ⟨rfl, hb1⟩; have HO1 : Hid (World.ownsRow _ _ _ _ _ _ _) := own_below HOWN.out hb1; have HB1 : Hid (Below B w0 w1) := HBEL.out.trans (hb1.mono hsz); have hsz1 : B ≤ w1.heap.size := Nat.le_trans hsz hb1.size; clear hb1) | (at_builtin; go_must (refine wpList_append_own _ rfl (.tmp 40) (.tmp 42) 58 rfl B 5 i0 (.int .u8 0) 1 1 Tryz.underlying58 hi0 hz0 hz1 hz2 rfl (by decide) _ _ _ rfl (HO1.out.alloc _) ⟨_, 0, none⟩ 1 1 [.int .u8 _] rfl rfl (cell_one_new _ _ _) ?c2 ?c3 ?c4 ?c5 ?_)))
          case c2 => intro u hu; simp at hu; subst hu; rfl
          case c3 => unfold maxLen; omega
          case c4 => omega
          case c5 => simp; omega
          intro v' w2 hown' hgrow _
          have RR : Hid (w2.ownsRow B 5 1 v' (t ++ [b.toUInt8]).length (byteVals (t ++ [b.toUInt8])) ∧ Below B w0 w2 ∧ B ≤ w2.heap.size) := by
            refine ⟨?_, (HB1.out.alloc hsz1 _).grown hgrow (by simp; omega) (fun j hj => (HO1.out.lt j hj).1), ?_⟩
            · rw [byteVals_append, List.length_append, hb8]; exact hown'
            · have := hgrow.size; simp at this; omega
          clear hown' hgrow
          go_wp2
          go_roundw
          case rel => exact ⟨k + (1 + j), t ++ [b.toUInt8], by omega, by omega, by simp; omega, by go_num, RR.out.1, RR.out.2.1, RR.out.2.2, HR2⟩
          case measure => simp [intOf]; omega
      · rw [if_neg h92] at hu
        have HR2 : Hid (UQ R q s.data.toList i (t ++ [s[k]]) (k + 1)) := HR.out.next hu
        have cE := fun W => escape_byte s k q W hs hlt h10 h92 hqk
        clear hu hd HR h10 h92 hqk hold HBW
        go_wp2_with (first | (go_at_call 69; refine (cE _).mono ?_; rintro e w1 ⟨rfl, rfl⟩) | (at_builtin; go_must (refine wpList_append_own _ rfl (.tmp 40) (.tmp 42) 58 rfl B 5 i0 (.int .u8 0) 1 1 Tryz.underlying58 hi0 hz0 hz1 hz2 rfl (by decide) _ _ _ rfl (HOWN.out.alloc _) ⟨_, 0, none⟩ 1 1 [.int .u8 _] rfl rfl (cell_one_new _ _ _) ?c2 ?c3 ?c4 ?c5 ?_)))
        case c2 => intro u hu; simp at hu; subst hu; rfl
        case c3 => unfold maxLen; omega
        case c4 => omega
        case c5 => simp; omega
        intro v' w2 hown' hgrow _
        have RR : Hid (w2.ownsRow B 5 1 v' (t ++ [s[k]]).length (byteVals (t ++ [s[k]])) ∧ Below B w0 w2 ∧ B ≤ w2.heap.size) := by
          refine ⟨?_, (HBEL.out.alloc hsz _).grown hgrow (by simp; omega) (fun j hj => (HOWN.out.lt j hj).1), ?_⟩
          · rw [byteVals_append, List.length_append]; exact hown'
          · have := hgrow.size; simp at this; omega
        clear hown' hgrow
        go_wp2
        go_roundw
        case rel => exact ⟨k + 1, t ++ [s[k]], by omega, by omega, by simp; omega, by go_num, RR.out.1, RR.out.2.1, RR.out.2.2, HR2⟩
        case measure => simp [intOf]; omega
    · have hRR := HR.out.none (by rw [List.drop_eq_nil_of_le (by simp; omega)]; rfl)
      subst hRR
      have gA : decide ((k : Int) < s.size) = false := by simp; omega
      have gA' : decide (k < s.size) = false := by simpa using hlt
      have gB : (s.size : Int) ≤ k := by omega
      clear HR
      go_wp2_with ((with_reducible apply step_store hold); rfl; rfl; kernel_rfl; rfl; kernel_rfl)
      refine ret_tokc (p := 4) (q := 5) (r := 6) ?_ ?_ (setRow_heap _ _ _ _ _ _ hold) ?_ ?_
      all_goals first | rfl | (exact ⟨⟨_, rfl⟩, below_setRow HBW.out (Nat.le_refl _) _⟩)
end Go.Proofs.YtjbmpdcgmphhoaaGreatDoor
