/-
  What the statements' heads answers: true.
-/
import Derived.Test.YtjbmpdcgmphhoaaGreatDoorJoin
import Derived.Test.YtjbmpdcgmphhoaaGreatDoorScan
import Derived.Test.YtjbmpdcgmphhoaaGreatDoorName
namespace Go.Proofs.YtjbmpdcgmphhoaaGreatDoor
open Go.RowKit
set_option linter.unusedVariables false

theorem flat_get : ∀ (l : List Tok) (j i : Nat), i < 6 → (l.flatMap tokCells)[j * 6 + i]? = (l[j]?).bind fun t => (tokCells t)[i]?
  | [], j, i, _ => by simp
  | t :: r, 0, i, h => by
    rw [List.flatMap_cons, Nat.zero_mul, Nat.zero_add, List.getElem?_append_left (by simpa [tokCells] using h)]; rfl
  | t :: r, j + 1, i, h => by
    rw [List.flatMap_cons, List.getElem?_append_right (by simp [tokCells]; omega), List.getElem?_cons_succ, ← flat_get r j i h]
    congr 1
    simp [tokCells]; omega

theorem head_row : ∃ l, scan headText = .ok l ∧ l.length = 13 ∧ (l.flatMap tokCells)[0]? = some (.int .i64 2) ∧ (l.flatMap tokCells)[44]? = some (.int .i64 31) ∧ (l.flatMap tokCells)[56]? = some (.int .i64 10) ∧ (l.flatMap tokCells)[54]? = some (.int .i64 4) ∧ (l.flatMap tokCells)[72]? = some (.int .i64 0) := by
  have h := head_scan
  rcases hs : scan headText with f | l
  · rw [hs] at h; cases h
  · rw [hs] at h
    simp only [Bool.and_eq_true, beq_iff_eq] at h
    obtain ⟨⟨h1, h2⟩, h3⟩ := h
    have kd : ∀ j x, ([2, 1, 6, 3, 6, 6, 6, 3, 6, 4, 6, 6, 0] : List Int)[j]? = some x → (l.flatMap tokCells)[j * 6 + 0]? = some (.int .i64 x) := by
      intro j x hx
      rw [← h2, List.getElem?_map, Option.map_eq_some_iff] at hx
      obtain ⟨t, ht, rfl⟩ := hx
      rw [flat_get l j 0 (by omega), ht]; rfl
    have nm : ∀ j x, ([0, 0, 0, 2, 0, 0, 0, 31, 0, 10, 0, 0, 0] : List Int)[j]? = some x → (l.flatMap tokCells)[j * 6 + 2]? = some (.int .i64 x) := by
      intro j x hx
      rw [← h3, List.getElem?_map, Option.map_eq_some_iff] at hx
      obtain ⟨t, ht, rfl⟩ := hx
      rw [flat_get l j 2 (by omega), ht]; rfl
    exact ⟨l, rfl, h1, kd 0 2 rfl, nm 7 31 rfl, nm 9 10 rfl, kd 9 4 rfl, kd 12 0 rfl⟩
theorem head_row2 : scan headText2 = .error ⟨21, 2, 2, 3⟩ := by
  have h := head_scan2
  rcases hs : scan headText2 with f | l
  · rw [hs] at h
    simp only [Bool.and_eq_true, beq_iff_eq] at h
    obtain ⟨⟨⟨h1, h2⟩, h3⟩, h4⟩ := h
    obtain ⟨a, b, c, d⟩ := f
    simp only at h1 h2 h3 h4
    subst h1 h2 h3 h4
    rfl
  · rw [hs] at h; cases h

def headToks : List RTok := [⟨1, ⟨#[97]⟩, 0, 0, 0, 0⟩, ⟨6, ⟨#[45, 62]⟩, 0, 0, 0, 0⟩, ⟨3, ⟨#[117, 110, 115, 105, 103, 110, 101, 100, 32, 105, 110, 116]⟩, 7, 0, 0, 0⟩, ⟨4, ⟨#[]⟩, -1, 0, 0, 0⟩, ⟨5, ⟨#[120, 10]⟩, 0, 0, 0, 0⟩]
theorem head_join : joinable (headToks.map RTok.tk) = true ∧ joinText (headToks.map RTok.tk) = [97, 32, 45, 62, 32, 55, 85, 32, 39, 92, 51, 55, 55, 39, 32, 34, 120, 92, 110, 34] := by
  refine ⟨by decide +kernel, ?_⟩
  have h7 : tkText ⟨3, [117, 110, 115, 105, 103, 110, 101, 100, 32, 105, 110, 116], 7⟩ = [55, 85] := by
    show writeP 3 7 _ = _
    unfold writeP
    rw [if_pos rfl]
    unfold writeNumP Lib.itoa
    rw [if_neg (by omega), Lib.decDigits, dif_pos (by decide)]
    decide +kernel
  have h4 : tkText ⟨4, [], -1⟩ = [39, 92, 51, 55, 55, 39] := by decide +kernel
  have h5 : tkText ⟨5, [120, 10], 0⟩ = [34, 120, 92, 110, 34] := by decide +kernel
  have h1 : tkText ⟨1, [97], 0⟩ = [97] := by decide +kernel
  have h6 : tkText ⟨6, [45, 62], 0⟩ = [45, 62] := by decide +kernel
  show [32].intercalate [tkText ⟨1, [97], 0⟩, tkText ⟨6, [45, 62], 0⟩, tkText ⟨3, [117, 110, 115, 105, 103, 110, 101, 100, 32, 105, 110, 116], 7⟩, tkText ⟨4, [], -1⟩, tkText ⟨5, [120, 10], 0⟩] = _
  rw [h7, h4, h5, h1, h6]
  rfl

theorem num_c (n : Int) (w : World) : Calls Tryz.prog 13 #[.int .i64 n] w fun e w' => e = .returned (.int .i64 n) ∧ w' = w := by
  go_enter Tryz.func13, Tryz.ntmps13
  go_wp2
  go_ret
  exact ⟨rfl, rfl⟩
theorem itoa7 (W : World) : ItoaAt 7 W := by
  unfold ItoaAt
  refine (Tryz.strconv_Itoa_small 7 (by decide) W).mono ?_
  rintro e w' ⟨rfl, rfl⟩
  refine ⟨?_, Below.refl _ _⟩
  unfold Lib.itoa
  rw [if_neg (by omega)]; rfl
def headCells : List Value := [.int .i64 1, .string ⟨#[97]⟩, .int .i64 0, .int .i64 0, .int .i64 0, .int .i64 0, .int .i64 6, .string ⟨#[45, 62]⟩, .int .i64 0, .int .i64 0, .int .i64 0, .int .i64 0, .int .i64 3, .string ⟨#[117, 110, 115, 105, 103, 110, 101, 100, 32, 105, 110, 116]⟩, .int .i64 7, .int .i64 0, .int .i64 0, .int .i64 0, .int .i64 4, .string ⟨#[]⟩, .int .i64 (-1), .int .i64 0, .int .i64 0, .int .i64 0, .int .i64 5, .string ⟨#[120, 10]⟩, .int .i64 0, .int .i64 0, .int .i64 0, .int .i64 0]
theorem head_rows (w : World) : rowsAt (w.alloc (.cells headCells.toArray 35)) w.heap.size headToks := by
  intro j x hj i v hv
  rw [World.cell?_alloc_mark]
  have hj5 : j < 5 := (List.getElem?_eq_some_iff.1 hj).1
  have hi6 : i < 6 := by
    have := (List.getElem?_eq_some_iff.1 hv).1
    simpa [RTok.cells] using this
  have key : headCells[j * 6 + i]? = (headToks[j]?).bind fun x => x.cells[i]? := by
    rcases (by omega : j = 0 ∨ j = 1 ∨ j = 2 ∨ j = 3 ∨ j = 4) with rfl | rfl | rfl | rfl | rfl <;> rcases (by omega : i = 0 ∨ i = 1 ∨ i = 2 ∨ i = 3 ∨ i = 4 ∨ i = 5) with rfl | rfl | rfl | rfl | rfl | rfl <;> rfl
  rw [hj] at key
  simp only [Option.bind_some] at key
  rw [hv] at key
  simpa using key
theorem headJoin_c (w : World) : Calls Tryz.prog 11 #[.slice (some ⟨w.heap.size, 0, none⟩) 5 5] (w.alloc (.cells headCells.toArray 35)) fun e w' => e = .returned (.tuple #[.string ⟨#[97, 32, 45, 62, 32, 55, 85, 32, 39, 92, 51, 55, 55, 39, 32, 34, 120, 92, 110, 34]⟩, .int .i64 0]) ∧ Below (w.heap.size + 1) (w.alloc (.cells headCells.toArray 35)) w' := by
  have h := join_c headToks w.heap.size 5 (w.alloc (.cells headCells.toArray 35)) (head_rows w) (by simp) (by decide) (by decide) (by decide) (by decide) ?_ (fun _ => by rw [head_join.2]; decide)
  · have hv : joinVal (headToks.map RTok.tk) = .tuple #[.string ⟨#[97, 32, 45, 62, 32, 55, 85, 32, 39, 92, 51, 55, 55, 39, 32, 34, 120, 92, 110, 34]⟩, .int .i64 0] := by
      unfold joinVal; rw [head_join.1, head_join.2]; rfl
    rw [hv, show headToks.length = 5 from rfl] at h
    simpa using h
  · intro x hx hk W _ _ _
    simp only [headToks, List.mem_cons, List.not_mem_nil, or_false] at hx
    rcases hx with rfl | rfl | rfl | rfl | rfl
    · cases hk
    · cases hk
    · exact itoa7 W
    · cases hk
    · cases hk

set_option maxRecDepth 100000 in
set_option maxHeartbeats 4000000 in
theorem heads_c (w : World) (mx : Int) (hm : w.cell? ⟨0, 0, none⟩ = some (.int .i64 mx)) :
    Calls Tryz.prog 8 #[] w fun e w' => e = .returned (.bool true) ∧ Below w.heap.size w w' := by
  have hmb : 0 < w.heap.size := World.block_lt_of_cell? w _ hm
  obtain ⟨l, hl, hlen, hc0, hc44, hc56, hc54, hc72⟩ := head_row
  have cS : Calls Tryz.prog 5 #[.string ⟨#[105, 110, 116, 32, 97, 91, 50, 93, 61, 123, 48, 120, 49, 102, 44, 39, 92, 110, 39, 125, 59, 32, 47, 47, 32, 120]⟩] w (ScanPost w (.ok l)) := by
    have := scan_c ⟨#[105, 110, 116, 32, 97, 91, 50, 93, 61, 123, 48, 120, 49, 102, 44, 39, 92, 110, 39, 125, 59, 32, 47, 47, 32, 120]⟩ w mx (by decide) hm
    rw [show (ByteArray.mk #[105, 110, 116, 32, 97, 91, 50, 93, 61, 123, 48, 120, 49, 102, 44, 39, 92, 110, 39, 125, 59, 32, 47, 47, 32, 120]).data.toList = headText from rfl, hl] at this
    exact this
  have cS2 : ∀ W : World, W.cell? ⟨0, 0, none⟩ = some (.int .i64 mx) → Calls Tryz.prog 5 #[.string ⟨#[97, 10, 32, 48, 56]⟩] W (ScanPost W (.error ⟨21, 2, 2, 3⟩)) := fun W hW => by
    have := scan_c ⟨#[97, 10, 32, 48, 56]⟩ W mx (by decide) hW
    rw [show (ByteArray.mk #[97, 10, 32, 48, 56]).data.toList = headText2 from rfl, head_row2] at this
    exact this
  unfold ScanPost at cS cS2
  simp only [fltV] at cS cS2
  go_enter Tryz.func8, Tryz.ntmps8
  go_wp2_with (go_at_call 5; refine cS.mono ?_)
  rintro e w1 ⟨hb1, v, rfl, hown⟩
  clear cS
  have hcell : ∀ j x, (l.flatMap tokCells)[j]? = some x → ∃ g cap, v = .slice (some ⟨g, 0, none⟩) 13 cap ∧ 13 ≤ cap ∧ w1.cell? ⟨g, j, none⟩ = some x := by
    intro j x hj
    have h13 := hown.1
    rcases hown.2 with ⟨_, h⟩ | ⟨g, cap, cur, rfl, hg, hcur, hcap, _, hsz, htake⟩
    · omega
    · rw [hlen] at hcap
      refine ⟨g, cap, by rw [hlen], hcap, ?_⟩
      have hjl : j < (l.flatMap tokCells).length := (List.getElem?_eq_some_iff.1 hj).1
      rw [← htake] at hj
      rw [List.getElem?_take_of_lt (by omega)] at hj
      simp only [World.cell?, hcur]
      simpa using hj
  obtain ⟨g, cap, rfl, hcap, p0⟩ := hcell 0 _ hc0
  have hcell' : ∀ j x, (l.flatMap tokCells)[j]? = some x → w1.cell? ⟨g, j, none⟩ = some x := by
    intro j x hj
    obtain ⟨g', cap', h1, _, h2⟩ := hcell j x hj
    cases h1; exact h2
  have p44 := hcell' 44 _ hc44
  have p56 := hcell' 56 _ hc56
  have p54 := hcell' 54 _ hc54
  have p72 := hcell' 72 _ hc72
  have hgl : g < w1.heap.size := World.block_lt_of_cell? w1 _ p0
  have hm1 : w1.cell? ⟨0, 0, none⟩ = some (.int .i64 mx) := (hb1.cell (p := ⟨0, 0, none⟩) hmb).trans hm
  clear hcell hcell' hc0 hc44 hc56 hc54 hc72 hown hl hlen
  have HP : Hid (w1.cell? ⟨g, 0, none⟩ = some (.int .i64 2) ∧ w1.cell? ⟨g, 44, none⟩ = some (.int .i64 31) ∧ w1.cell? ⟨g, 56, none⟩ = some (.int .i64 10) ∧ w1.cell? ⟨g, 54, none⟩ = some (.int .i64 4) ∧ w1.cell? ⟨g, 72, none⟩ = some (.int .i64 0)) := ⟨p0, p44, p56, p54, p72⟩
  clear p0 p44 p56 p54 p72
  have cS3 := cS2 (w1.alloc (.cells #[.int .i64 0, .int .i64 0, .int .i64 0, .int .i64 0] 27)) ((World.cell?_alloc_lt _ _ _ (by have := hb1.size; show 0 < _; omega)).trans hm1)
  clear cS2
  go_wp2_with (go_at_call 5; refine cS3.mono ?_)
  rintro e w2 ⟨hb2, rfl⟩
  clear cS3
  have cJ := headJoin_c (w2.alloc (.cells #[.int .i64 21, .int .i64 2, .int .i64 2, .int .i64 3] 27))
  unfold headCells at cJ
  simp only [World.size_alloc] at cJ
  go_wp2_with (go_at_call 11; refine cJ.mono ?_)
  rintro e w3 ⟨rfl, hb3⟩
  clear cJ
  have hs2 := hb2.size
  simp only [World.size_alloc] at hs2
  have keep : ∀ b j, b < w1.heap.size + 1 → w3.cell? ⟨b, j, none⟩ = (w1.alloc (.cells #[.int .i64 0, .int .i64 0, .int .i64 0, .int .i64 0] 27)).cell? ⟨b, j, none⟩ := by
    intro b j hb
    rw [hb3.cell (p := ⟨b, j, none⟩) (by show b < _; omega), World.cell?_alloc_lt _ _ _ (by show b < _; simp; omega), World.cell?_alloc_lt _ _ _ (by show b < _; omega)]
    exact hb2.cell (p := ⟨b, j, none⟩) (by simpa using hb)
  have keep1 : ∀ j x, w1.cell? ⟨g, j, none⟩ = some x → w3.cell? ⟨g, j, none⟩ = some x := by
    intro j x h
    rw [keep g j (by omega), World.cell?_alloc_lt _ _ _ (by show g < _; omega)]; exact h
  have keep2 : ∀ j, w3.cell? ⟨w2.heap.size, j, none⟩ = (w2.alloc (.cells #[.int .i64 21, .int .i64 2, .int .i64 2, .int .i64 3] 27)).cell? ⟨w2.heap.size, j, none⟩ := by
    intro j
    rw [hb3.cell (p := ⟨w2.heap.size, j, none⟩) (by show w2.heap.size < _; omega), World.cell?_alloc_lt _ _ _ (by show w2.heap.size < _; simp)]
  have p0 := keep1 _ _ HP.out.1
  have p44 := keep1 _ _ HP.out.2.1
  have p56 := keep1 _ _ HP.out.2.2.1
  have p54 := keep1 _ _ HP.out.2.2.2.1
  have p72 := keep1 _ _ HP.out.2.2.2.2
  have q0 : w3.cell? ⟨w1.heap.size, 0, none⟩ = some (.int .i64 0) := (keep _ 0 (by omega)).trans (by rw [World.cell?_alloc_mark]; rfl)
  have q1 : w3.cell? ⟨w1.heap.size, 1, none⟩ = some (.int .i64 0) := (keep _ 1 (by omega)).trans (by rw [World.cell?_alloc_mark]; rfl)
  have q2 : w3.cell? ⟨w1.heap.size, 2, none⟩ = some (.int .i64 0) := (keep _ 2 (by omega)).trans (by rw [World.cell?_alloc_mark]; rfl)
  have q3 : w3.cell? ⟨w1.heap.size, 3, none⟩ = some (.int .i64 0) := (keep _ 3 (by omega)).trans (by rw [World.cell?_alloc_mark]; rfl)
  have r0 : w3.cell? ⟨w2.heap.size, 0, none⟩ = some (.int .i64 21) := (keep2 0).trans (by rw [World.cell?_alloc_mark]; rfl)
  have r1 : w3.cell? ⟨w2.heap.size, 1, none⟩ = some (.int .i64 2) := (keep2 1).trans (by rw [World.cell?_alloc_mark]; rfl)
  have r2 : w3.cell? ⟨w2.heap.size, 2, none⟩ = some (.int .i64 2) := (keep2 2).trans (by rw [World.cell?_alloc_mark]; rfl)
  have r3 : w3.cell? ⟨w2.heap.size, 3, none⟩ = some (.int .i64 3) := (keep2 3).trans (by rw [World.cell?_alloc_mark]; rfl)
  have HB : Hid (Below w.heap.size w w3) := by
    have h1 : Below w.heap.size w (w1.alloc (.cells #[.int .i64 0, .int .i64 0, .int .i64 0, .int .i64 0] 27)) := hb1.alloc hb1.size _
    have h2 := h1.trans (hb2.mono (by simp; have := hb1.size; omega))
    have h3 := (h2.alloc h2.size (.cells #[.int .i64 21, .int .i64 2, .int .i64 2, .int .i64 3] 27))
    have h4 := h3.alloc h3.size (.cells headCells.toArray 35)
    exact h4.trans (hb3.mono (by have := h2.size; omega))
  have cN1 := fun W => name_c ⟨#[113, 95, 49]⟩ W (by decide)
  have cN2 := fun W => name_c ⟨#[49, 113]⟩ W (by decide)
  have cN3 := fun W => name_c ⟨#[105, 110, 116]⟩ W (by decide)
  have cW := fun W => word_c ⟨#[105, 110, 116]⟩ W
  have cA := fun W => at_c ⟨#[97, 98, 10, 98]⟩ 4 W (by decide) (by decide) (by decide)
  rw [show isName (ByteArray.mk #[113, 95, 49]).data.toList = true by decide +kernel] at cN1
  rw [show isName (ByteArray.mk #[49, 113]).data.toList = false by decide +kernel] at cN2
  rw [show isName (ByteArray.mk #[105, 110, 116]).data.toList = false by decide +kernel] at cN3
  rw [show isWord (ByteArray.mk #[105, 110, 116]).data.toList = true by decide +kernel] at cW
  rw [show spotV (onLine 1 ((ByteArray.mk #[97, 98, 10, 98]).extract 0 (atOff (ByteArray.mk #[97, 98, 10, 98]).size 4))) (onCol 1 ((ByteArray.mk #[97, 98, 10, 98]).extract 0 (atOff (ByteArray.mk #[97, 98, 10, 98]).size 4))) (atOff (ByteArray.mk #[97, 98, 10, 98]).size 4) = .agg #[.int .i64 2, .int .i64 2, .int .i64 4] by rfl] at cA
  clear keep keep1 keep2 HP hb1 hb2 hb3 hs2 hm hm1 hmb
  have cM := fun W => num_c 0 W
  go_wp2_with (first | (go_at_call 13; refine (cM _).mono ?_; rintro e w' ⟨rfl, rfl⟩) | (go_at_call 21; refine (cN1 _).mono ?_; rintro e w' ⟨rfl, rfl⟩; clear cN1) | (go_at_call 21; refine (cN2 _).mono ?_; rintro e w' ⟨rfl, rfl⟩; clear cN2) | (go_at_call 21; refine (cN3 _).mono ?_; rintro e w' ⟨rfl, rfl⟩; clear cN3) | (go_at_call 22; refine (cW _).mono ?_; rintro e w' ⟨rfl, rfl⟩) | (go_at_call 23; refine (cA _).mono ?_; rintro e w4 ⟨rfl, hb4⟩))
  go_ret
  exact ⟨rfl, HB.out.trans (hb4.mono HB.out.size)⟩
end Go.Proofs.YtjbmpdcgmphhoaaGreatDoor
