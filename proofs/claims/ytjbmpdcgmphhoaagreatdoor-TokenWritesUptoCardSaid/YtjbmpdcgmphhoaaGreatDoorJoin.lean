/-
  What package token's Join answers.
-/
import Derived.Test.YtjbmpdcgmphhoaaGreatDoorWrite
import Derived.Test.YtjbmpdcgmphhoaaGreatDoorText
import Derived.Deep.MidRow
namespace Go.Proofs.YtjbmpdcgmphhoaaGreatDoor
open Go.RowKit
set_option linter.unusedVariables false

/-- A token as a program's value. -/
structure RTok where
  k : Int
  s : ByteArray
  n : Int
  a : Int
  b : Int
  c : Int
def RTok.cells (t : RTok) : List Value := [.int .i64 t.k, .string t.s, .int .i64 t.n, .int .i64 t.a, .int .i64 t.b, .int .i64 t.c]
def RTok.tk (t : RTok) : Tk := ⟨t.k, t.s.data.toList, t.n⟩
def RTok.text (t : RTok) : List UInt8 := tkText t.tk
def rowsAt (w : World) (g : Nat) (xs : List RTok) : Prop := ∀ j x, xs[j]? = some x → w.rangeAt g (j * 6) x.cells
theorem rowsAt.below {w w' : World} {g B : Nat} {xs : List RTok} (h : rowsAt w g xs) (hb : Below B w w') (hg : g < B) : rowsAt w' g xs :=
  fun j x hj i v hv => by rw [hb.cell (p := ⟨g, j * 6 + i, none⟩) hg]; exact h j x hj i v hv

def rowsAtO (w : World) (g o : Nat) (xs : List RTok) : Prop := ∀ j x, xs[j]? = some x → w.rangeAt g (o + j * 6) x.cells
theorem rowsAtO.below {w w' : World} {g o B : Nat} {xs : List RTok} (h : rowsAtO w g o xs) (hb : Below B w w') (hg : g < B) : rowsAtO w' g o xs :=
  fun j x hj i v hv => by rw [hb.cell (p := ⟨g, o + j * 6 + i, none⟩) hg]; exact h j x hj i v hv
theorem rowsAt.at0 {w : World} {g : Nat} {xs : List RTok} (h : rowsAt w g xs) : rowsAtO w g 0 xs := fun j x hj => by rw [Nat.zero_add]; exact h j x hj

def joinVal (l : List Tk) : Value := if joinable l then .tuple #[.string ⟨(joinText l).toArray⟩, .int .i64 0] else .tuple #[.string ⟨#[]⟩, .int .i64 2]

theorem info_str : (Tryz.prog.info? 9).map (fun i => (i.zero, i.size, i.bytes)) = some (some (.string ⟨#[]⟩), 1, 16) := by kernel_rfl

theorem frozen_row {w : World} {b : Nat} {cs : Array Value} {t : TypeId} (h : w.heap[b]? = some (.cells cs t (0, 0))) (j : Nat) : w.frozen? ⟨b, j, none⟩ = false := by
  simp [World.frozen?, h]

theorem row_cell {w : World} {b : Nat} {cs : Array Value} {t : TypeId} (h : w.heap[b]? = some (.cells cs t (0, 0))) (k : Nat) (hk : k < cs.size) : w.cell? ⟨b, k, none⟩ = some cs[k] := by
  simp [World.cell?, h, hk]
theorem heap_setCell_one {W : World} {F j : Nat} {cs : Array Value} {t : TypeId} {fr : Nat × Nat} (h : W.heap[F]? = some (.cells cs t fr)) (v : Value) : (W.setCell ⟨F, j, none⟩ v).heap[F]? = some (.cells (cs.set! j v) t fr) := by
  simp only [World.setCell, Array.getElem?_modify]
  simp [h]

set_option maxRecDepth 100000 in
set_option maxHeartbeats 4000000 in
theorem join_o (xs : List RTok) (g o cap : Nat) (w : World) (hrow : rowsAtO w g o xs) (hg : g < w.heap.size) (hN : xs.length ≤ 1000000000000) (hN0 : 0 < xs.length) (hcap : xs.length ≤ cap)
    (hs : ∀ x ∈ xs, 4 * x.s.size + 2 ≤ 140737488355328) (hI : ∀ x ∈ xs, x.k = 3 → ∀ W, Below w.heap.size w W → 0 ≤ x.n → x.n ≤ mostOf x.s.data.toList → ItoaAt x.n W)
    (hJ : joinable (xs.map RTok.tk) = true → (joinText (xs.map RTok.tk)).length ≤ 140737488355328) :
    Calls Tryz.prog 11 #[.slice (some ⟨g, o, none⟩) xs.length cap] w fun e w' => e = .returned (joinVal (xs.map RTok.tk)) ∧ Below w.heap.size w w' := by
  have HR : Hid (rowsAtO w g o xs) := hrow
  clear hrow
  obtain ⟨i0, hi, hz0, hz1, hz2⟩ := info_parts info_str
  have hmk := run_make (P := Tryz.prog) w 61 9 i0 (.string ⟨#[]⟩) Tryz.underlying61 hi hz0 .i64 .i64 (xs.length : Int) (xs.length : Int) (by omega) (Int.le_refl _) (by rw [hz2]; omega) (by omega)
  rw [hz1] at hmk
  simp only [Int.toNat_natCast] at hmk
  have hMs : (madeCells (Value.string ⟨#[]⟩).cells (xs.length * 1)).size = xs.length := by rw [size_madeCells, Nat.mul_one]
  generalize madeCells (Value.string ⟨#[]⟩).cells (xs.length * 1) = M at hmk hMs
  have HA0 : Hid ((w.alloc (.cells M 9)).heap[w.heap.size]? = some (.cells M 9 (0, 0))) := heap_in0 w _
  have HB0 : Hid (Below w.heap.size w (w.alloc (.cells M 9))) := (Below.refl _ w).alloc (Nat.le_refl _) _
  have hsz0 : w.heap.size < (w.alloc (.cells M 9)).heap.size := by simp
  clear hi hz0 hz1 hz2
  go_enter Tryz.func11, Tryz.ntmps11
  go_wp2
  generalize w.alloc (.cells M 9) = w0 at *
  clear hmk
  go_loopw [14] (fun i wr => ∃ (k : Nat) (cur : Array Value), k ≤ xs.length ∧ i = .int .i64 k ∧ cur.size = xs.length ∧ Hid (wr.heap[w.heap.size]? = some (.cells cur 9 (0, 0))) ∧ Hid (∀ j x, j < k → xs[j]? = some x → cur[j]? = some (.string ⟨x.text.toArray⟩)) ∧ Hid (Below w.heap.size w wr) ∧ w.heap.size < wr.heap.size ∧ Hid (joinable (xs.map RTok.tk) = joinable ((xs.drop k).map RTok.tk))) (fun i _ => xs.length - (intOf i).toNat)
  case atStart => exact ⟨0, M, Nat.zero_le _, rfl, hMs, HA0, fun j x hj _ => absurd hj (Nat.not_lt_zero _), HB0, hsz0, rfl⟩
  case round =>
    obtain ⟨k, cur, hk, rfl, hcs, HC, HT, HB, hsz, HJ⟩ := hrel
    clear HA0 HB0
    by_cases hlt : k < xs.length
    · obtain ⟨x, hx⟩ : ∃ x, xs[k]? = some x := ⟨xs[k], List.getElem?_eq_getElem hlt⟩
      have hmem : x ∈ xs := List.mem_of_getElem? hx
      have hrg : wr.rangeAt g (o + k * 6) x.cells := (HR.out.below HB.out hg) k x hx
      have hsx := hs x hmem
      have hIx := hI x hmem
      have htx : x.text = tkText x.tk := rfl
      obtain ⟨xk, xs', xn, xa, xb, xc⟩ := x
      have c0 : wr.cell? ⟨g, o + k * 6, none⟩ = some (.int .i64 xk) := hrg 0 _ rfl
      have c1 : wr.cell? ⟨g, o + k * 6 + 1, none⟩ = some (.string xs') := hrg 1 _ rfl
      have c2 : wr.cell? ⟨g, o + k * 6 + 2, none⟩ = some (.int .i64 xn) := hrg 2 _ rfl
      have c3 : wr.cell? ⟨g, o + k * 6 + 3, none⟩ = some (.int .i64 xa) := hrg 3 _ rfl
      have c4 : wr.cell? ⟨g, o + k * 6 + 4, none⟩ = some (.int .i64 xb) := hrg 4 _ rfl
      have c5 : wr.cell? ⟨g, o + k * 6 + 5, none⟩ = some (.int .i64 xc) := hrg 5 _ rfl
      simp only at hsx hIx
      have HBA : Hid (Below w.heap.size w (wr.alloc (.cells #[.int .i64 xk, .string xs', .int .i64 xn, .int .i64 xa, .int .i64 xb, .int .i64 xc] 35))) := HB.out.alloc (Nat.le_of_lt hsz) _
      have cW := tWrite_c xk xn xa xb xc xs' (wr.alloc (.cells #[.int .i64 xk, .string xs', .int .i64 xn, .int .i64 xa, .int .i64 xb, .int .i64 xc] 35)) hsx (fun h W hW => hIx h W (HBA.out.trans (hW.mono HBA.out.size)))
      have HN : Hid ((wr.alloc (.cells #[.int .i64 xk, .string xs', .int .i64 xn, .int .i64 xa, .int .i64 xb, .int .i64 xc] 35)).heap[wr.heap.size]? = some (.cells #[.int .i64 xk, .string xs', .int .i64 xn, .int .i64 xa, .int .i64 xb, .int .i64 xc] 35 (0, 0))) := heap_in0 wr _
      have HC1 : Hid ((wr.alloc (.cells #[.int .i64 xk, .string xs', .int .i64 xn, .int .i64 xa, .int .i64 xb, .int .i64 xc] 35)).heap[w.heap.size]? = some (.cells cur 9 (0, 0))) := (Below.heap_alloc wr _ _ hsz).trans HC.out
      have hszA : w.heap.size < (wr.alloc (.cells #[.int .i64 xk, .string xs', .int .i64 xn, .int .i64 xa, .int .i64 xb, .int .i64 xc] 35)).heap.size := by simp; omega
      have hdk : xs.drop k = ⟨xk, xs', xn, xa, xb, xc⟩ :: xs.drop (k + 1) := by
        rw [List.drop_eq_getElem_cons hlt]
        congr 1
        have := List.getElem?_eq_getElem hlt
        rw [hx] at this; exact (Option.some.inj this).symm
      have hJ' := HJ.out
      rw [hdk, List.map_cons] at hJ'
      clear HJ hrg
      rcases hcb : canBeP xk xn xs'.data.toList with _ | _
      · have hv : writeVal xk xn xs'.data.toList = .tuple #[.string ⟨#[]⟩, .int .i64 2] := by unfold writeVal; rw [hcb]; rfl
        rw [hv] at cW
        have hjf : joinable (xs.map RTok.tk) = false := by
          rw [hJ']
          have hc : tkCan (RTok.tk ⟨xk, xs', xn, xa, xb, xc⟩) = false := hcb
          rcases (xs.drop (k + 1)).map RTok.tk with _ | ⟨u, r⟩
          · simp [joinable, hc]
          · simp [joinable, hc]
        have hjv : joinVal (xs.map RTok.tk) = .tuple #[.string ⟨#[]⟩, .int .i64 2] := by unfold joinVal; rw [hjf]; rfl
        have HV : Hid _ := hjv
        clear hv hjf hJ' hdk HN hjv hcb hI hs hIx hJ
        go_wp2_with (go_at_call 9; refine cW.mono ?_; rintro e w1 ⟨rfl, hb1⟩)
        go_ret2
        exact ⟨(congrArg Ending.returned HV.out).symm, HBA.out.trans (hb1.mono HBA.out.size)⟩
      · have hv : writeVal xk xn xs'.data.toList = .tuple #[.string ⟨(writeP xk xn xs'.data.toList).toArray⟩, .int .i64 0] := by unfold writeVal; rw [hcb]; rfl
        rw [hv] at cW
        have hc : tkCan (RTok.tk ⟨xk, xs', xn, xa, xb, xc⟩) = true := hcb
        by_cases hbad : xk = 0 ∧ k < xs.length - 1
        · obtain ⟨hk0, hkl⟩ := hbad
          have hjf : joinable (xs.map RTok.tk) = false := by
            rw [hJ']
            rcases hr : (xs.drop (k + 1)).map RTok.tk with _ | ⟨u, r⟩
            · have := congrArg List.length hr
              simp at this; omega
            · simp [joinable, RTok.tk, hk0]
          have hjv : joinVal (xs.map RTok.tk) = .tuple #[.string ⟨#[]⟩, .int .i64 2] := by unfold joinVal; rw [hjf]; rfl
          have HV : Hid _ := hjv
          have hkl' : (k : Int) < (xs.length : Int) - 1 := by omega
          subst hk0
          clear hv hjf hJ' hdk hjv hcb hI hs hIx hJ hc
          go_wp2_with (go_at_call 9; refine cW.mono ?_; rintro e w1 ⟨rfl, hb1⟩; obtain ⟨d0, d1, d2⟩ := tok_cells HN.out hb1)
          go_ret2
          exact ⟨(congrArg Ending.returned HV.out).symm, HBA.out.trans (hb1.mono HBA.out.size)⟩
        · have hjn : joinable (xs.map RTok.tk) = joinable ((xs.drop (k + 1)).map RTok.tk) := by
            rw [hJ']
            rcases hr : (xs.drop (k + 1)).map RTok.tk with _ | ⟨u, r⟩
            · simp [joinable, hc]
            · have hl := congrArg List.length hr
              simp at hl
              have : xk ≠ 0 := fun e => hbad ⟨e, by omega⟩
              have hc' : tkCan { kind := xk, text := xs'.data.toList, num := xn } = true := hc
              simp [joinable, hc', RTok.tk, this]
          have HJN : Hid _ := hjn
          have htxt : (⟨xk, xs', xn, xa, xb, xc⟩ : RTok).text = writeP xk xn xs'.data.toList := rfl
          generalize hT : writeP xk xn xs'.data.toList = T at *
          have HX : Hid _ := hx
          have HTX : Hid _ := htxt
          have hcur : cur[k]? = some cur[k] := Array.getElem?_eq_getElem (by omega)
          clear hv hjn hJ' hdk hcb hI hs hIx hJ hc hT htxt hx htx
          by_cases hk0 : xk = 0
          · have hkl : k = xs.length - 1 := by
              rcases Nat.lt_or_ge k (xs.length - 1) with h | h
              · exact absurd ⟨hk0, h⟩ hbad
              · omega
            have hkl' : ¬ ((k : Int) < (xs.length : Int) - 1) := by omega
            clear hkl hbad
            subst hk0
            go_wp2_with (go_at_call 9; refine cW.mono ?_; rintro e w1 ⟨rfl, hb1⟩; obtain ⟨d0, d1, d2⟩ := tok_cells HN.out hb1; have HC2 : Hid (w1.heap[w.heap.size]? = some (.cells cur 9 (0, 0))) := (hb1.block w.heap.size hszA).trans HC1.out; have e1 := row_cell HC2.out k (by omega); have e2 := frozen_row HC2.out k)
            have RR : Hid ((w1.setCell ⟨w.heap.size, k, none⟩ (.string ⟨T.toArray⟩)).heap[w.heap.size]? = some (.cells (cur.set! k (.string ⟨T.toArray⟩)) 9 (0, 0)) ∧ Below w.heap.size w (w1.setCell ⟨w.heap.size, k, none⟩ (.string ⟨T.toArray⟩)) ∧ w.heap.size < (w1.setCell ⟨w.heap.size, k, none⟩ (.string ⟨T.toArray⟩)).heap.size) := by
              have hB1 : Below w.heap.size w w1 := HBA.out.trans (hb1.mono HBA.out.size)
              refine ⟨heap_setCell_one HC2.out _, hB1.setCell (p := ⟨w.heap.size, k, none⟩) (Nat.le_refl _) _, ?_⟩
              have := hb1.size
              simp only [World.setCell, Array.size_modify]; omega
            go_roundw
            case rel =>
              refine ⟨k + 1, cur.set! k (.string ⟨T.toArray⟩), by omega, by go_num, by simpa using hcs, RR.out.1, ?_, RR.out.2.1, RR.out.2.2, HJN.out⟩
              intro j x hj hxj
              by_cases hjk : j = k
              · subst hjk
                rw [HX.out] at hxj
                have := Option.some.inj hxj
                subst this
                rw [HTX.out]
                have hjc : j < cur.size := by omega
                rw [Array.set!_eq_setIfInBounds, Array.getElem?_setIfInBounds_self_of_lt hjc]
              · rw [Array.set!_eq_setIfInBounds, Array.getElem?_setIfInBounds_ne (by omega)]
                exact HT.out j x (by omega) hxj
            case measure => simp [intOf]; omega
          · have hk0' : (xk == 0) = false := by simpa using hk0
            clear hbad
            go_wp2_with (go_at_call 9; refine cW.mono ?_; rintro e w1 ⟨rfl, hb1⟩; obtain ⟨d0, d1, d2⟩ := tok_cells HN.out hb1; have HC2 : Hid (w1.heap[w.heap.size]? = some (.cells cur 9 (0, 0))) := (hb1.block w.heap.size hszA).trans HC1.out; have e1 := row_cell HC2.out k (by omega); have e2 := frozen_row HC2.out k)
            have RR : Hid ((w1.setCell ⟨w.heap.size, k, none⟩ (.string ⟨T.toArray⟩)).heap[w.heap.size]? = some (.cells (cur.set! k (.string ⟨T.toArray⟩)) 9 (0, 0)) ∧ Below w.heap.size w (w1.setCell ⟨w.heap.size, k, none⟩ (.string ⟨T.toArray⟩)) ∧ w.heap.size < (w1.setCell ⟨w.heap.size, k, none⟩ (.string ⟨T.toArray⟩)).heap.size) := by
              have hB1 : Below w.heap.size w w1 := HBA.out.trans (hb1.mono HBA.out.size)
              refine ⟨heap_setCell_one HC2.out _, hB1.setCell (p := ⟨w.heap.size, k, none⟩) (Nat.le_refl _) _, ?_⟩
              have := hb1.size
              simp only [World.setCell, Array.size_modify]; omega
            go_roundw
            case rel =>
              refine ⟨k + 1, cur.set! k (.string ⟨T.toArray⟩), by omega, by go_num, by simpa using hcs, RR.out.1, ?_, RR.out.2.1, RR.out.2.2, HJN.out⟩
              intro j x hj hxj
              by_cases hjk : j = k
              · subst hjk
                rw [HX.out] at hxj
                have := Option.some.inj hxj
                subst this
                rw [HTX.out]
                have hjc : j < cur.size := by omega
                rw [Array.set!_eq_setIfInBounds, Array.getElem?_setIfInBounds_self_of_lt hjc]
              · rw [Array.set!_eq_setIfInBounds, Array.getElem?_setIfInBounds_ne (by omega)]
                exact HT.out j x (by omega) hxj
            case measure => simp [intOf]; omega
    · have hke : k = xs.length := by omega
      subst hke
      have hjt : joinable (xs.map RTok.tk) = true := by rw [HJ.out, List.drop_length]; rfl
      have hjv : joinVal (xs.map RTok.tk) = .tuple #[.string ⟨(joinText (xs.map RTok.tk)).toArray⟩, .int .i64 0] := by unfold joinVal; rw [hjt]; rfl
      have HV : Hid _ := hjv
      have hJl := hJ hjt
      have hmapt : (xs.map fun x => (⟨x.text.toArray⟩ : ByteArray)).map (·.data.toList) = (xs.map RTok.tk).map tkText := by
        simp only [List.map_map]; rfl
      have hjoin : Lib.join ((xs.map fun x => (⟨x.text.toArray⟩ : ByteArray)).map (·.data.toList)) (ByteArray.mk #[32]).data.toList = joinText (xs.map RTok.tk) := by rw [hmapt]; rfl
      have cJ := Tryz.strings_Join w.heap.size 0 xs.length (xs.map fun x => (⟨x.text.toArray⟩ : ByteArray)) ⟨#[32]⟩ wr (by
        intro j x hj
        simp only [List.getElem?_map, Option.map_eq_some_iff] at hj
        obtain ⟨y, hy, rfl⟩ := hj
        have hjl : j < xs.length := (List.getElem?_eq_some_iff.1 hy).1
        have h1 := HT.out j y hjl hy
        rw [Nat.zero_add, row_cell HC.out j (by omega)]
        rw [Array.getElem?_eq_getElem (by omega)] at h1; exact h1) hsz (by simp; omega) (by simp) (by rw [hjoin]; exact hJl)
      rw [hjoin, List.length_map] at cJ
      clear hjt hjv hJl hmapt hjoin hJ hI hs
      go_wp2_with (go_at_call 29; refine cJ.mono ?_; rintro e w1 ⟨rfl, hb1⟩)
      go_ret2
      exact ⟨(congrArg Ending.returned HV.out).symm, HB.out.trans (hb1.mono HB.out.size)⟩
theorem join_c (xs : List RTok) (g cap : Nat) (w : World) (hrow : rowsAt w g xs) (hg : g < w.heap.size) (hN : xs.length ≤ 1000000000000) (hN0 : 0 < xs.length) (hcap : xs.length ≤ cap)
    (hs : ∀ x ∈ xs, 4 * x.s.size + 2 ≤ 140737488355328) (hI : ∀ x ∈ xs, x.k = 3 → ∀ W, Below w.heap.size w W → 0 ≤ x.n → x.n ≤ mostOf x.s.data.toList → ItoaAt x.n W)
    (hJ : joinable (xs.map RTok.tk) = true → (joinText (xs.map RTok.tk)).length ≤ 140737488355328) :
    Calls Tryz.prog 11 #[.slice (some ⟨g, 0, none⟩) xs.length cap] w fun e w' => e = .returned (joinVal (xs.map RTok.tk)) ∧ Below w.heap.size w w' :=
  join_o xs g 0 cap w hrow.at0 hg hN hN0 hcap hs hI hJ

end Go.Proofs.YtjbmpdcgmphhoaaGreatDoor
