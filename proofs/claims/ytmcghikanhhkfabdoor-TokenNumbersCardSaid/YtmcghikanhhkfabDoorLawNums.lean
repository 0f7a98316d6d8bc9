/-
  What the statement TokenNumbers answers: true, at every number of 32 bits.
-/
import Derived.Test.YtmcghikanhhkfabDoorHeads
import Derived.Test.YtmcghikanhhkfabDoorDigs
namespace Go.Proofs.YtmcghikanhhkfabDoor
open Go.RowKit
set_option linter.unusedVariables false

theorem enc16 : ∀ (d : Nat) (h : d < 16), Utf8.encode (((ByteArray.mk #[48, 49, 50, 51, 52, 53, 54, 55, 56, 57, 97, 98, 99, 100, 101, 102])[d]'h).toNat : Int) = ⟨[sym d].toArray⟩
  | 0, _ => by kernel_rfl
  | 1, _ => by kernel_rfl
  | 2, _ => by kernel_rfl
  | 3, _ => by kernel_rfl
  | 4, _ => by kernel_rfl
  | 5, _ => by kernel_rfl
  | 6, _ => by kernel_rfl
  | 7, _ => by kernel_rfl
  | 8, _ => by kernel_rfl
  | 9, _ => by kernel_rfl
  | 10, _ => by kernel_rfl
  | 11, _ => by kernel_rfl
  | 12, _ => by kernel_rfl
  | 13, _ => by kernel_rfl
  | 14, _ => by kernel_rfl
  | 15, _ => by kernel_rfl
  | n + 16, h => by omega
theorem enc8 : ∀ (d : Nat) (h : d < 8), Utf8.encode (((ByteArray.mk #[48, 49, 50, 51, 52, 53, 54, 55])[d]'h).toNat : Int) = ⟨[sym d].toArray⟩
  | 0, _ => by kernel_rfl
  | 1, _ => by kernel_rfl
  | 2, _ => by kernel_rfl
  | 3, _ => by kernel_rfl
  | 4, _ => by kernel_rfl
  | 5, _ => by kernel_rfl
  | 6, _ => by kernel_rfl
  | 7, _ => by kernel_rfl
  | n + 8, h => by omega
theorem enc10 : ∀ (d : Nat) (h : d < 10), Utf8.encode (((ByteArray.mk #[48, 49, 50, 51, 52, 53, 54, 55, 56, 57])[d]'h).toNat : Int) = ⟨[sym d].toArray⟩
  | 0, _ => by kernel_rfl
  | 1, _ => by kernel_rfl
  | 2, _ => by kernel_rfl
  | 3, _ => by kernel_rfl
  | 4, _ => by kernel_rfl
  | 5, _ => by kernel_rfl
  | 6, _ => by kernel_rfl
  | 7, _ => by kernel_rfl
  | 8, _ => by kernel_rfl
  | 9, _ => by kernel_rfl
  | n + 10, h => by omega

/-- The digits that are still to be written, and those that stand already, are all. -/
def DigAt (b v n : Nat) (l : List UInt8) : Prop := digs b v = digs b n ++ l
theorem DigAt.next {b v n : Nat} {l : List UInt8} (h : DigAt b v n l) (hb : 2 ≤ b) (hn : 0 < n) : DigAt b v (n / b) (sym (n % b) :: l) := by
  unfold DigAt at h ⊢
  rw [h, digs_pos hn hb]; simp
theorem DigAt.done {b v : Nat} {l : List UInt8} (h : DigAt b v 0 l) : l = digs b v := by
  unfold DigAt at h
  rw [digs_zero] at h; exact h.symm
theorem DigAt.len {b v n : Nat} {l : List UInt8} (h : DigAt b v n l) (hb : 2 ≤ b) (hv : v < 4294967296) : l.length ≤ 32 := by
  have h1 := digs_len hb 32 v hv
  unfold DigAt at h
  rw [h, List.length_append] at h1; omega

theorem numsText_len (v : Nat) (hv : v < 4294967296) : (numsText v).length ≤ 200 := by
  have h1 := digs_len (b := 16) (by omega) 32 v hv
  have h2 := digs_len (b := 8) (by omega) 32 v hv
  have h3 := digs_len (b := 10) (by omega) 32 v hv
  unfold numsText hexText octText decText
  simp only [List.length_append, List.length_cons, List.length_nil]
  split
  · simp only [List.length_cons, List.length_nil]; omega
  · omega

/-- What is needed of the tokens that Scan gives of the three texts. -/
theorem nums_cells {w : World} {B : Nat} {x : Value} {r : List Tok} {v : Nat} {K U : List UInt8} (hr : r.map (·.tk) = [⟨3, K, v⟩, ⟨3, K, v⟩, ⟨3, U, v⟩, Tk.no]) (hown : w.ownsRow B 37 6 x r.length (r.flatMap tokCells)) :
    ∃ g cap, x = .slice (some ⟨g, 0, none⟩) 4 cap ∧ 4 ≤ cap ∧ g < w.heap.size ∧ w.cell? ⟨g, 1, none⟩ = some (.string ⟨(K).toArray⟩) ∧ w.cell? ⟨g, 2, none⟩ = some (.int .i64 v) ∧ w.cell? ⟨g, 7, none⟩ = some (.string ⟨(K).toArray⟩) ∧ w.cell? ⟨g, 8, none⟩ = some (.int .i64 v) ∧ w.cell? ⟨g, 13, none⟩ = some (.string ⟨U.toArray⟩) ∧ w.cell? ⟨g, 14, none⟩ = some (.int .i64 v) := by
  have hlen : r.length = 4 := by have := congrArg List.length hr; simpa using this
  have key : ∀ j i tk y, r.map (·.tk) = [⟨3, K, v⟩, ⟨3, K, v⟩, ⟨3, U, v⟩, Tk.no] → i < 3 → ([⟨3, K, v⟩, ⟨3, K, v⟩, ⟨3, U, v⟩, Tk.no] : List Tk)[j]? = some tk → [Value.int .i64 tk.kind, .string ⟨tk.text.toArray⟩, .int .i64 tk.num][i]? = some y → (r.flatMap tokCells)[j * 6 + i]? = some y := by
    intro j i tk y h hi hj hy
    rw [← h, List.getElem?_map, Option.map_eq_some_iff] at hj
    obtain ⟨t, ht, rfl⟩ := hj
    rw [flat_get r j i (by omega), ht]
    rcases (by omega : i = 0 ∨ i = 1 ∨ i = 2) with rfl | rfl | rfl <;> exact hy
  rcases hown.2 with ⟨_, h⟩ | ⟨g, cap, cur, rfl, hg, hcur, hcap, _, hsz, htake⟩
  · omega
  · have cell : ∀ j y, (r.flatMap tokCells)[j]? = some y → w.cell? ⟨g, j, none⟩ = some y := by
      intro j y hj
      have hjl : j < (r.flatMap tokCells).length := (List.getElem?_eq_some_iff.1 hj).1
      rw [hown.1] at hjl
      rw [← htake, List.getElem?_take_of_lt hjl] at hj
      simp only [World.cell?, hcur]
      simpa using hj
    rw [hlen] at hcap
    refine ⟨g, cap, by rw [hlen], hcap, ?_, cell 1 _ (key 0 1 _ _ hr (by omega) rfl rfl), cell 2 _ (key 0 2 _ _ hr (by omega) rfl rfl), cell 7 _ (key 1 1 _ _ hr (by omega) rfl rfl), cell 8 _ (key 1 2 _ _ hr (by omega) rfl rfl), cell 13 _ (key 2 1 _ _ hr (by omega) rfl rfl), cell 14 _ (key 2 2 _ _ hr (by omega) rfl rfl)⟩
    rcases Nat.lt_or_ge g w.heap.size with h' | h'
    · exact h'
    · simp [Array.getElem?_eq_none h'] at hcur

theorem cat7 (a b c : List UInt8) : ByteArray.mk #[48, 120] ++ ByteArray.mk a.toArray ++ ByteArray.mk #[32, 48] ++ ByteArray.mk b.toArray ++ ByteArray.mk #[32] ++ ByteArray.mk c.toArray ++ ByteArray.mk #[117] = ⟨(48 :: 120 :: (a ++ 32 :: 48 :: (b ++ 32 :: (c ++ [117])))).toArray⟩ := by
  apply ByteArray.ext
  simp

theorem numsText_eq (v : Nat) : numsText v = 48 :: 120 :: ((if v = 0 then [48] else digs 16 v) ++ 32 :: 48 :: (digs 8 v ++ 32 :: ((if v = 0 then [48] else digs 10 v) ++ [117]))) := by
  simp [numsText, hexText, octText, decText]

set_option maxRecDepth 100000 in
set_option maxHeartbeats 4000000 in
theorem tokenNums_c (v : Nat) (w : World) (mx : Int) (hv : v < 4294967296) (hm : w.cell? ⟨0, 0, none⟩ = some (.int .i64 mx)) :
    Calls Tryd.prog 4 #[.int .u32 v] w fun e w' => e = .returned (.bool true) ∧ Below w.heap.size w w' := by
  have hmb : 0 < w.heap.size := World.block_lt_of_cell? w _ hm
  have cH : ∀ W : World, Below w.heap.size w W → Calls Tryd.prog 6 #[] W fun e w' => e = .returned (.bool true) ∧ Below W.heap.size W w' := fun W hW => heads_c W mx ((hW.cell (p := ⟨0, 0, none⟩) hmb).trans hm)
  go_enter Tryd.func4, Tryd.ntmps4
  go_wp2
  go_loopw [3, 6] (fun sv nv wr => ∃ (n : Nat) (l : List UInt8), n ≤ v ∧ nv = .int .u32 n ∧ sv = .string ⟨l.toArray⟩ ∧ l.length ≤ 32 ∧ w = wr ∧ DigAt 16 v n l) (fun _ nv _ => (intOf nv).toNat)
  case atStart => exact ⟨v, [], Nat.le_refl _, rfl, rfl, by simp, rfl, by unfold DigAt; simp⟩
  case round =>
    obtain ⟨n, lh, hn, rfl, rfl, hl16, hwr, hD⟩ := hrel
    subst hwr
    by_cases h0 : 0 < n
    · have h0' : (0 : Int) < n := by omega
      go_wp2
      case isTrue =>
        rename_i h
        rw [enc16 (n % 16) (by omega), show (ByteArray.mk [sym (n % 16)].toArray).size = 1 from rfl] at h
        omega
      have hD' := hD.next (by omega) h0
      refine ⟨⟨n / 16, sym (n % 16) :: lh, Nat.le_trans (Nat.div_le_self _ _) hn, rfl, ?_, hD'.len (by omega) hv, trivial, hD'⟩, ?_⟩
      · rw [enc16 (n % 16) (by omega), str_app]; rfl
      · simp only [intOf]; omega
    · have hn0 : n = 0 := by omega
      subst hn0
      have HS16 : Hid (lh = digs 16 v) := hD.done
      clear hD h0 hn
      go_wp2
      go_loopw [4, 7] (fun sv nv wr => ∃ (n : Nat) (l : List UInt8), n ≤ v ∧ nv = .int .u32 n ∧ sv = .string ⟨l.toArray⟩ ∧ l.length ≤ 32 ∧ w = wr ∧ DigAt 8 v n l) (fun _ nv _ => (intOf nv).toNat)
      case atStart => exact ⟨v, [], Nat.le_refl _, rfl, rfl, by simp, rfl, by unfold DigAt; simp⟩
      case round =>
        obtain ⟨n, lo, hn, rfl, rfl, hl8, hwr, hD⟩ := hrel
        subst hwr
        by_cases h0 : 0 < n
        · have h0' : (0 : Int) < n := by omega
          go_wp2
          case isTrue =>
            rename_i h
            rw [enc8 (n % 8) (by omega), show (ByteArray.mk [sym (n % 8)].toArray).size = 1 from rfl] at h
            omega
          have hD' := hD.next (by omega) h0
          go_roundw
          case rel =>
            refine ⟨_, _, _, _, _, _, _, _, _, _, _, _, ?h, rfl⟩
            refine ⟨n / 8, sym (n % 8) :: lo, Nat.le_trans (Nat.div_le_self _ _) hn, rfl, ?_, hD'.len (by omega) hv, trivial, hD'⟩
            rw [enc8 (n % 8) (by omega), str_app]; rfl
          case measure => simp [intOf]; omega
        · have hn0 : n = 0 := by omega
          subst hn0
          have HS8 : Hid (lo = digs 8 v) := hD.done
          clear hD h0 hn
          go_wp2
          go_loopw [5, 8] (fun sv nv wr => ∃ (n : Nat) (l : List UInt8), n ≤ v ∧ nv = .int .u32 n ∧ sv = .string ⟨l.toArray⟩ ∧ l.length ≤ 32 ∧ w = wr ∧ DigAt 10 v n l) (fun _ nv _ => (intOf nv).toNat)
          case atStart => exact ⟨v, [], Nat.le_refl _, rfl, rfl, by simp, rfl, by unfold DigAt; simp⟩
          case round =>
            obtain ⟨n, ld, hn, rfl, rfl, hl10, hwr, hD⟩ := hrel
            subst hwr
            by_cases h0 : 0 < n
            · have h0' : (0 : Int) < n := by omega
              go_wp2
              case isTrue =>
                rename_i h
                rw [enc10 (n % 10) (by omega), show (ByteArray.mk [sym (n % 10)].toArray).size = 1 from rfl] at h
                omega
              have hD' := hD.next (by omega) h0
              go_roundw
              case rel =>
                refine ⟨_, _, _, _, _, _, _, _, _, _, _, _, ?h, rfl⟩
                refine ⟨n / 10, sym (n % 10) :: ld, Nat.le_trans (Nat.div_le_self _ _) hn, rfl, ?_, hD'.len (by omega) hv, trivial, hD'⟩
                rw [enc10 (n % 10) (by omega), str_app]; rfl
              case measure => simp [intOf]; omega
            · have hn0 : n = 0 := by omega
              subst hn0
              have HS10 : Hid (ld = digs 10 v) := hD.done
              clear hD h0 hn
              obtain ⟨r, hr1, hr2⟩ := scan_nums v hv
              by_cases hv0 : v = 0
              · have cS : Calls Tryd.prog 5 #[.string (ByteArray.mk #[48, 120] ++ ByteArray.mk #[48] ++ ByteArray.mk #[32, 48] ++ ByteArray.mk lo.toArray ++ ByteArray.mk #[32] ++ ByteArray.mk #[48] ++ ByteArray.mk #[117])] w (ScanPost w (.ok r)) := by
                  have ht : ByteArray.mk #[48, 120] ++ ByteArray.mk #[48] ++ ByteArray.mk #[32, 48] ++ ByteArray.mk lo.toArray ++ ByteArray.mk #[32] ++ ByteArray.mk #[48] ++ ByteArray.mk #[117] = ⟨(numsText v).toArray⟩ := by
                    rw [HS8.out, numsText_eq, if_pos hv0, if_pos hv0]; exact cat7 [48] (digs 8 v) [48]
                  have := scan_c ⟨(numsText v).toArray⟩ w mx (by show (numsText v).toArray.size ≤ _; have := numsText_len v hv; simp; omega) hm
                  rw [show (ByteArray.mk (numsText v).toArray).data.toList = numsText v from rfl, hr1] at this
                  rw [ht]; exact this
                unfold ScanPost at cS
                simp only [fltV] at cS
                clear HS16 HS8 HS10
                by_cases h31 : 2147483647 < v
                · exfalso; omega
                · have h31' : ¬ ((2147483647 : Int) < v) := by omega
                  have hk : kindOf32 v = [105, 110, 116] := by unfold kindOf32; rw [if_neg h31]; rfl
                  rw [hk, show uintText = [117, 110, 115, 105, 103, 110, 101, 100, 32, 105, 110, 116] from rfl] at hr2
                  have HR2 : Hid _ := hr2
                  clear hr2 hr1 hk
                  go_wp2_with (first | (go_at_call 5; refine cS.mono ?_; rintro e w1 ⟨hb1, x, rfl, hown⟩; obtain ⟨g, cap, rfl, hcap, hgl, c1, c2, c7, c8, c13, c14⟩ := nums_cells HR2.out hown; have HB1 : Hid (Below w.heap.size w w1) := hb1; have HB2 : Hid (Below w.heap.size w (w1.alloc (.cells #[.int .i64 0, .int .i64 0, .int .i64 0, .int .i64 0] 27))) := hb1.alloc hb1.size _; clear cS hown hb1; have d1 := (World.cell?_alloc_lt w1 (.cells #[.int .i64 0, .int .i64 0, .int .i64 0, .int .i64 0] 27) ⟨g, 1, none⟩ hgl).trans c1) | (go_at_call 6; refine (cH _ HB2.out).mono ?_; rintro e w2 ⟨rfl, hb2⟩))
                  go_ret
                  exact ⟨rfl, HB2.out.trans (hb2.mono HB2.out.size)⟩
              · have hv0' : ¬ ((v : Int) = 0) := by omega
                have cS : Calls Tryd.prog 5 #[.string (ByteArray.mk #[48, 120] ++ ByteArray.mk lh.toArray ++ ByteArray.mk #[32, 48] ++ ByteArray.mk lo.toArray ++ ByteArray.mk #[32] ++ ByteArray.mk ld.toArray ++ ByteArray.mk #[117])] w (ScanPost w (.ok r)) := by
                  have ht : ByteArray.mk #[48, 120] ++ ByteArray.mk lh.toArray ++ ByteArray.mk #[32, 48] ++ ByteArray.mk lo.toArray ++ ByteArray.mk #[32] ++ ByteArray.mk ld.toArray ++ ByteArray.mk #[117] = ⟨(numsText v).toArray⟩ := by
                    rw [HS16.out, HS8.out, HS10.out, numsText_eq, if_neg hv0, if_neg hv0]; exact cat7 (digs 16 v) (digs 8 v) (digs 10 v)
                  have := scan_c ⟨(numsText v).toArray⟩ w mx (by show (numsText v).toArray.size ≤ _; have := numsText_len v hv; simp; omega) hm
                  rw [show (ByteArray.mk (numsText v).toArray).data.toList = numsText v from rfl, hr1] at this
                  rw [ht]; exact this
                unfold ScanPost at cS
                simp only [fltV] at cS
                clear HS16 HS8 HS10
                by_cases h31 : 2147483647 < v
                · have h31' : (2147483647 : Int) < v := by omega
                  have hk : kindOf32 v = [117, 110, 115, 105, 103, 110, 101, 100, 32, 105, 110, 116] := by unfold kindOf32; rw [if_pos h31]; rfl
                  rw [hk, show uintText = [117, 110, 115, 105, 103, 110, 101, 100, 32, 105, 110, 116] from rfl] at hr2
                  have HR2 : Hid _ := hr2
                  clear hr2 hr1 hk
                  go_wp2_with (first | (go_at_call 5; refine cS.mono ?_; rintro e w1 ⟨hb1, x, rfl, hown⟩; obtain ⟨g, cap, rfl, hcap, hgl, c1, c2, c7, c8, c13, c14⟩ := nums_cells HR2.out hown; have HB1 : Hid (Below w.heap.size w w1) := hb1; have HB2 : Hid (Below w.heap.size w (w1.alloc (.cells #[.int .i64 0, .int .i64 0, .int .i64 0, .int .i64 0] 27))) := hb1.alloc hb1.size _; clear cS hown hb1; have d1 := (World.cell?_alloc_lt w1 (.cells #[.int .i64 0, .int .i64 0, .int .i64 0, .int .i64 0] 27) ⟨g, 1, none⟩ hgl).trans c1) | (go_at_call 6; refine (cH _ HB2.out).mono ?_; rintro e w2 ⟨rfl, hb2⟩))
                  go_ret
                  exact ⟨rfl, HB2.out.trans (hb2.mono HB2.out.size)⟩
                · have h31' : ¬ ((2147483647 : Int) < v) := by omega
                  have hk : kindOf32 v = [105, 110, 116] := by unfold kindOf32; rw [if_neg h31]; rfl
                  rw [hk, show uintText = [117, 110, 115, 105, 103, 110, 101, 100, 32, 105, 110, 116] from rfl] at hr2
                  have HR2 : Hid _ := hr2
                  clear hr2 hr1 hk
                  go_wp2_with (first | (go_at_call 5; refine cS.mono ?_; rintro e w1 ⟨hb1, x, rfl, hown⟩; obtain ⟨g, cap, rfl, hcap, hgl, c1, c2, c7, c8, c13, c14⟩ := nums_cells HR2.out hown; have HB1 : Hid (Below w.heap.size w w1) := hb1; have HB2 : Hid (Below w.heap.size w (w1.alloc (.cells #[.int .i64 0, .int .i64 0, .int .i64 0, .int .i64 0] 27))) := hb1.alloc hb1.size _; clear cS hown hb1; have d1 := (World.cell?_alloc_lt w1 (.cells #[.int .i64 0, .int .i64 0, .int .i64 0, .int .i64 0] 27) ⟨g, 1, none⟩ hgl).trans c1) | (go_at_call 6; refine (cH _ HB2.out).mono ?_; rintro e w2 ⟨rfl, hb2⟩))
                  go_ret
                  exact ⟨rfl, HB2.out.trans (hb2.mono HB2.out.size)⟩
end Go.Proofs.YtmcghikanhhkfabDoor
