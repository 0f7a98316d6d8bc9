/-
  The given answer's Find and Same: their walks.
  The given answer's Asked, Size, Align, Places.
  The given answer's Size, Align, Places; Places on both sides.
  Places, gaps and the given answer's rows, cell by cell.
  The given answer's Find and Same.
-/
import Derived.Test.YtlcghlfmaohfeaaGreatKE
import Derived.Test.YtlcghlfmaohfeaaGreatLyWp
import Derived.Test.YtlcghlfmaohfeaaGreatHRowOpen
import Derived.BigQuiet
namespace Go.Proofs.YtlcghlfmaohfeaaGreat
open Go.RowKit Go.Maps
set_option linter.unusedVariables false
set_option maxRecDepth 100000
theorem ret_l2 {fn : Func} {R : Ending → World → Prop} {tmps : Array Value} {w : World} {g p q : Nat} {cs : Array Value}
    (hres : fn.results = #[.cell p TLy, .tmp q]) (hp : tmps.getD p undef = .pointer (some ⟨g, 0, none⟩)) (hg : w.heap[g]? = some (.cells cs TLy (0, 0))) (hcs : cs.size = 4)
    (hR : R (.returned (.tuple #[.agg cs, tmps.getD q undef])) w) : bodyPost Tryz.prog fn R .ret ⟨tmps, []⟩ w := by
  refine bodyPost_ret ?_ rfl hR
  rw [results_c2 hres]
  simp only [hp]
  simp [asAddr, Result.andThen, load_Ly hg hcs]
/-- What Asked answers. -/
def AskP (rs : List (Rw × Value)) (M : Int → Ex) (id : Int) (w w' : World) (sz al : Int) (lp : Option Addr) (lc : Nat) (pl : List Pl) : Prop :=
  Below w.heap.size w w' ∧ w'.ownsRow w.heap.size TPl 5 (.slice lp pl.length lc) pl.length (plCells pl) ∧ sz = (openX rs M id).size ∧ al = (openX rs M id).align ∧
  (openE rs M id = 0 → ∀ (i : Nat) (p : Rw × Value), id = i → rs[i]? = some p → recK p.1.kind = true → pl = placesS (p.1.kind == 16) M ls0 0 p.1.mem)
section
variable {w : World} {M : Int → Ex} {rb : Nat} {rv : Value} {rs rs2 : List (Rw × Value)}
set_option maxHeartbeats 8000000 in
theorem asked_c (h : RT w rb rv rs2) (hrows : rs2.map (·.1) = rs.map (·.1)) (hf : FromOK rs) (hM : IsMeas (rowsOf rs) M) (hs : ∀ p ∈ rs, Sane p.1) (h1 : 0 < rs.length) (id : Int) :
    Calls Tryz.prog 29 #[.pointer (some ⟨rb, 0, none⟩), .int .i64 id] w fun e w' => ∃ (sz al : Int) (lp : Option Addr) (lc : Nat) (pl : List Pl) (f : Bool), e = .returned (.tuple #[.agg #[.int .i64 sz, .int .i64 al, .slice lp pl.length lc, .bool f], .int .i64 (openE rs M id)]) ∧ AskP rs M id w w' sz al lp lc pl := by
  have hlen : rs2.length = rs.length := fst_len hrows
  have hz : ∀ Y : World, (Instr.build TLy #[]).run Tryz.prog Y = .ok (.agg #[.int .i64 0, .int .i64 0, .slice none 0 0, .bool false]) Y := fun Y => by kernel_rfl
  have hb0 := below1 w (.cells #[.int .i64 0, .int .i64 0, .slice none 0 0, .bool false] TLy)
  have E0 := heap_r0 w (.cells #[.int .i64 0, .int .i64 0, .slice none 0 0, .bool false] TLy)
  have HRT : Hid (RT w rb rv rs2) := h
  have HROWS : Hid (rs2.map (·.1) = rs.map (·.1)) := hrows
  have HF : Hid (FromOK rs) := hf
  have HMM : Hid (IsMeas (rowsOf rs) M) := hM
  have HSN : Hid (∀ p ∈ rs, Sane p.1) := hs
  have nt := not_t
  have nf := not_f
  have hh0 := h.below hb0
  have cH := rHas_c hh0 id
  have cW := rWhole_c hh0 id
  have cA := all_c hh0 hrows hf hM hs h1
  rw [hlen] at cH
  have HB0 : Hid (Below w.heap.size w (w.alloc (.cells #[.int .i64 0, .int .i64 0, .slice none 0 0, .bool false] TLy))) := hb0
  have HE0 : Hid ((w.alloc (.cells #[.int .i64 0, .int .i64 0, .slice none 0 0, .bool false] TLy)).heap[w.heap.size]? = some (.cells #[.int .i64 0, .int .i64 0, .slice none 0 0, .bool false] TLy (0, 0))) := E0
  have hsz : (w.alloc (.cells #[.int .i64 0, .int .i64 0, .slice none 0 0, .bool false] TLy)).heap.size = w.heap.size + 1 := by simp
  have HSZ : Hid ((w.alloc (.cells #[.int .i64 0, .int .i64 0, .slice none 0 0, .bool false] TLy)).heap.size = w.heap.size + 1) := hsz
  have HLEN : Hid (rs2.length = rs.length) := hlen
  clear h hrows hf hM hs hb0 hh0 hsz hlen
  go_enter Tryz.func29, Tryz.ntmps29
  go_upto_region 1 with fail
  generalize w.alloc (.cells #[.int .i64 0, .int .i64 0, .slice none 0 0, .bool false] TLy) = W0 at *
  cases hhs : hasP rs.length id with
  | false =>
    rw [hhs] at cH
    have HO : Hid (openE rs M id = 30) := by show openE rs M id = 30; unfold openE; rw [if_pos hhs]
    have HX : Hid (openX rs M id = ⟨0, 0⟩) := by show openX rs M id = ⟨0, 0⟩; unfold openX; rw [if_neg (by rw [HO.out]; decide)]
    clear hhs cW cA
    go_wp2_with (first | (go_at_call 58; refine cH.mono ?_; rintro e w' ⟨rfl, hw⟩; rw [hw]; clear hw w') | ((with_reducible apply step_store E0); rfl; rfl; kernel_rfl; rfl; kernel_rfl) | fail)
    refine (?_ : bodyPost _ _ _ _ _ _)
    refine ret_l2 (p := 4) (q := 5) (cs := #[.int .i64 0, .int .i64 0, .slice none 0 0, .bool false]) rfl rfl (setRow_heap _ _ _ _ _ _ HE0.out) rfl ?_
    exact ⟨0, 0, none, 0, [], false, by rw [HO.out]; rfl, below_setRow HB0.out (Nat.le_refl _) _, World.ownsRow_nil _ _ _ _, by rw [HX.out], by rw [HX.out], fun h => by rw [HO.out] at h; cases h⟩
  | true =>
    rw [hhs] at cH
    obtain ⟨i, p, hid, hp⟩ := has_at hhs
    have hwq : rWholeP rs2 id = wholeR p.1 := by
      obtain ⟨q, hq, hqp⟩ := same_at HROWS.out.symm hp
      rw [hid, rWholeP_some hq, hqp, ← whole_same (HSN.out p (List.mem_of_getElem? hp))]
    rw [hwq] at cW
    have hwp : wholeP rs id = wholeR p.1 := by rw [hid]; exact wholeP_at hp
    cases hwh : wholeR p.1 with
    | false =>
      rw [hwh] at cW
      have HO : Hid (openE rs M id = 50) := by show openE rs M id = 50; unfold openE; rw [if_neg (by rw [hhs]; decide), if_pos (by rw [hwp, hwh])]
      have HX : Hid (openX rs M id = ⟨0, 0⟩) := by show openX rs M id = ⟨0, 0⟩; unfold openX; rw [if_neg (by rw [HO.out]; decide)]
      clear hhs cA hwq hwp hwh hid
      go_wp2_with (first | (go_at_call 58; refine cH.mono ?_; rintro e w' ⟨rfl, hw⟩; rw [hw]; clear hw w') | (go_at_call 59; refine cW.mono ?_; rintro e w' ⟨rfl, hw⟩; rw [hw]; clear hw w') | ((with_reducible apply step_store E0); rfl; rfl; kernel_rfl; rfl; kernel_rfl) | fail)
      refine (?_ : bodyPost _ _ _ _ _ _)
      refine ret_l2 (p := 4) (q := 5) (cs := #[.int .i64 0, .int .i64 0, .slice none 0 0, .bool false]) rfl rfl (setRow_heap _ _ _ _ _ _ HE0.out) rfl ?_
      exact ⟨0, 0, none, 0, [], false, by rw [HO.out]; rfl, below_setRow HB0.out (Nat.le_refl _) _, World.ownsRow_nil _ _ _ _, by rw [HX.out], by rw [HX.out], fun h => by rw [HO.out] at h; cases h⟩
    | true =>
      rw [hwh] at cW
      have HWH : Hid (wholeR p.1 = true) := hwh
      have HHS : Hid (hasP rs.length id = true) := hhs
      have HWP : Hid (wholeP rs id = true) := by show wholeP rs id = true; rw [hwp, hwh]
      have HP : Hid (rs[i]? = some p) := hp
      have HID : Hid (id = i) := hid
      have hlt : i < rs.length := (List.getElem?_eq_some_iff.1 hp).1
      have hold : ∀ Y : World, (Y.alloc (.cells #[.int .i64 0, .int .i64 0, .slice none 0 0, .bool false] TLy)).heap[Y.heap.size]? = some (.cells #[.int .i64 0, .int .i64 0, .slice none 0 0, .bool false] TLy (0, 0)) := fun Y => heap_r0 Y _
      clear hhs hwq hwp hwh hid hp E0
      obtain rfl : id = i := HID.out
      go_upto_region 5 with (first | (go_at_call 58; refine cH.mono ?_; rintro e w' ⟨rfl, hw⟩; rw [hw]; clear hw w') | (go_at_call 59; refine cW.mono ?_; rintro e w' ⟨rfl, hw⟩; rw [hw]; clear hw w') | fail)
      clear cH cW
      go_upto_region 6 with (first | (go_at_call 60; refine cA.mono ?_; rintro e w5 ⟨rfl, ys, hb5, hly, hyl, hyt⟩; obtain ⟨⟨ysz, yal, yL, ypl, yf⟩, hyi, htl⟩ := hyt i p HP.out HWH.out; obtain ⟨yp, yc, hyL⟩ := slice_of_own (hly.own _ (List.mem_of_getElem? hyi)); simp only at hyL; subst hyL; have HOW : Hid (w5.ownsRow w.heap.size TPl 5 (.slice yp ypl.length yc) ypl.length (plCells ypl)) := ownsRow_base (hly.own _ (List.mem_of_getElem? hyi)) (by rw [HSZ.out]; omega); have HTL : Hid (Tells M i p.1 ⟨ysz, yal, .slice yp ypl.length yc, ypl, yf⟩) := htl; have HB5 : Hid (Below w.heap.size w w5) := HB0.out.trans (hb5.mono HB0.out.size); have HE5 : Hid (w5.heap[w.heap.size]? = some (.cells #[.int .i64 0, .int .i64 0, .slice none 0 0, .bool false] TLy (0, 0))) := (hb5.block _ (lt_of_heap HE0.out)).trans HE0.out; have g0 := hly.cell hyi (k := 0) (by omega); have g1 := hly.cell hyi (k := 1) (by omega); have g2 := hly.cell hyi (k := 2) (by omega); have g3 := hly.cell hyi (k := 3) (by omega); simp only [lyC, Nat.add_zero, List.getElem?_cons_zero, List.getElem?_cons_succ] at g0 g1 g2 g3; have hold5 := hold w5; clear hb5 hly hyl hyt htl hyi cA) | ((with_reducible apply step_store hold5); rfl; rfl; kernel_rfl; rfl; kernel_rfl; rw [World.setRow_alloc_new]) | fail)
      refine (?_ : Code.wp _ _ _ _ (w5.alloc (.cells #[.int .i64 ysz, .int .i64 yal, .slice yp ypl.length yc, .bool yf] TLy)))
      have hb7 := below1 w5 (.cells #[.int .i64 ysz, .int .i64 yal, .slice yp ypl.length yc, .bool yf] TLy)
      have HN7 : Hid ((w5.alloc (.cells #[.int .i64 ysz, .int .i64 yal, .slice yp ypl.length yc, .bool yf] TLy)).heap[w5.heap.size]? = some (.cells #[.int .i64 ysz, .int .i64 yal, .slice yp ypl.length yc, .bool yf] TLy (0, 0))) := heap_r0 w5 _
      have HB7 : Hid (Below w.heap.size w (w5.alloc (.cells #[.int .i64 ysz, .int .i64 yal, .slice yp ypl.length yc, .bool yf] TLy))) := HB5.out.trans (hb7.mono HB5.out.size)
      have hE7 := blk_b HE5.out hb7
      have HE7 : Hid ((w5.alloc (.cells #[.int .i64 ysz, .int .i64 yal, .slice yp ypl.length yc, .bool yf] TLy)).heap[w.heap.size]? = some (.cells #[.int .i64 0, .int .i64 0, .slice none 0 0, .bool false] TLy (0, 0))) := hE7
      have HO7 : Hid (OwnP w (w5.alloc (.cells #[.int .i64 ysz, .int .i64 yal, .slice yp ypl.length yc, .bool yf] TLy)) (.slice yp ypl.length yc) ypl) := ownsRow_turned HOW.out (Turned.of_below hb7 (fun _ => False)) (fun _ _ h => h.elim)
      generalize w5.alloc (.cells #[.int .i64 ysz, .int .i64 yal, .slice yp ypl.length yc, .bool yf] TLy) = W7 at *
      generalize w5.heap.size = m7 at *
      obtain ⟨n0, n1, n2, n3⟩ := ly_cells HN7.out
      clear g0 g1 g2 g3 hold5 hb7 hold
      obtain ⟨hfi, hva⟩ := HTL.out
      cases yf with
      | false =>
        have HO : Hid (openE rs M (i : Int) = 51) := by
          show openE rs M (i : Int) = 51
          simp only at hfi
          have hgt : ¬ (M (i : Int)).size ≤ 16384 := by simpa using hfi.symm
          unfold openE
          rw [if_neg (by rw [HHS.out]; decide), if_neg (by rw [HWP.out]; decide), if_pos (by omega)]
        have HX : Hid (openX rs M (i : Int) = ⟨0, 0⟩) := by show openX rs M (i : Int) = ⟨0, 0⟩; unfold openX; rw [if_neg (by rw [HO.out]; decide)]
        clear hfi hva
        go_wp2_with (first | ((with_reducible apply step_store hE7); rfl; rfl; kernel_rfl; rfl; kernel_rfl) | fail)
        refine (?_ : bodyPost _ _ _ _ _ _)
        refine ret_l2 (p := 4) (q := 5) (cs := #[.int .i64 0, .int .i64 0, .slice none 0 0, .bool false]) rfl rfl (setRow_heap _ _ _ _ _ _ HE7.out) rfl ?_
        exact ⟨0, 0, none, 0, [], false, by rw [HO.out]; rfl, below_setRow HB7.out (Nat.le_refl _) _, World.ownsRow_nil _ _ _ _, by rw [HX.out], by rw [HX.out], fun h => by rw [HO.out] at h; cases h⟩
      | true =>
        simp only at hfi
        have hle : (M (i : Int)).size ≤ 16384 := by simpa using hfi.symm
        have HO : Hid (openE rs M (i : Int) = 0) := by
          show openE rs M (i : Int) = 0
          unfold openE
          rw [if_neg (by rw [HHS.out]; decide), if_neg (by rw [HWP.out]; decide), if_neg (by omega)]
        have HX : Hid (openX rs M (i : Int) = M (i : Int)) := by show openX rs M (i : Int) = M (i : Int); unfold openX; rw [if_pos HO.out]
        have HVA : Hid (ysz = (M (i : Int)).size ∧ yal = (M (i : Int)).align ∧ (recK p.1.kind = true → ypl = placesS (p.1.kind == 16) M ls0 0 p.1.mem)) := hva rfl
        clear hfi hva hle
        go_wp2_with (first | ((with_reducible apply step_store hE7); rfl; rfl; kernel_rfl; rfl; kernel_rfl) | fail)
        refine (?_ : bodyPost _ _ _ _ _ _)
        refine ret_l2 (p := 4) (q := 5) (cs := #[.int .i64 ysz, .int .i64 yal, .slice yp ypl.length yc, .bool true]) rfl rfl (setRow_heap _ _ _ _ _ _ HE7.out) rfl ?_
        refine ⟨ysz, yal, yp, yc, ypl, true, by rw [HO.out]; rfl, below_setRow HB7.out (Nat.le_refl _) _, HO7.out.setR HE7.out, by rw [HX.out]; exact HVA.out.1, by rw [HX.out]; exact HVA.out.2.1, fun _ j q hj hq hk => ?_⟩
        obtain rfl : i = j := by omega
        rw [HP.out] at hq
        injection hq with hq
        subst hq
        exact HVA.out.2.2 hk
end
end Go.Proofs.YtlcghlfmaohfeaaGreat
namespace Go.Proofs.YtlcghlfmaohfeaaGreat
open Go.RowKit Go.Maps
set_option linter.unusedVariables false
set_option maxRecDepth 100000
/-- The error and the places of a type. -/
def plE (rs : List (Rw × Value)) (M : Int → Ex) (id : Int) : Int := if openE rs M id = 0 then (if recK (kindP rs id) then 0 else 30) else openE rs M id
def plL (rs : List (Rw × Value)) (M : Int → Ex) (id : Int) : List Pl := if plE rs M id = 0 then (match rs[id.toNat]? with | some p => placesS (p.1.kind == 16) M ls0 0 p.1.mem | none => []) else []
theorem openE_at {rs : List (Rw × Value)} {M : Int → Ex} {id : Int} (h : openE rs M id = 0) : ∃ (i : Nat) (p : Rw × Value), id = i ∧ rs[i]? = some p ∧ wholeR p.1 = true ∧ (M i).size ≤ 16384 := by
  unfold openE at h
  split at h
  · cases h
  · rename_i h1
    split at h
    · cases h
    · rename_i h2
      split at h
      · cases h
      · rename_i h3
        obtain ⟨i, p, hid, hp⟩ := has_at (by simpa using h1)
        subst hid
        rw [wholeP_at hp] at h2
        exact ⟨i, p, rfl, hp, by simpa using h2, by omega⟩
theorem openE_ne {rs : List (Rw × Value)} {M : Int → Ex} {id : Int} (h : ¬ openE rs M id = 0) : plE rs M id = openE rs M id ∧ plL rs M id = [] := by
  have e : plE rs M id = openE rs M id := by unfold plE; rw [if_neg h]
  exact ⟨e, by unfold plL; rw [if_neg (by rw [e]; exact h)]⟩
theorem plE_not {rs : List (Rw × Value)} {M : Int → Ex} {i : Nat} {p : Rw × Value} (h : openE rs M i = 0) (hp : rs[i]? = some p) (hk : recK p.1.kind = false) : plE rs M i = 30 ∧ plL rs M i = [] := by
  have e : plE rs M i = 30 := by unfold plE; rw [if_pos h, kindP_some hp, hk]; rfl
  exact ⟨e, by unfold plL; rw [if_neg (by rw [e]; decide)]⟩
theorem plE_ok {rs : List (Rw × Value)} {M : Int → Ex} {i : Nat} {p : Rw × Value} (h : openE rs M i = 0) (hp : rs[i]? = some p) (hk : recK p.1.kind = true) : plE rs M i = 0 ∧ plL rs M i = placesS (p.1.kind == 16) M ls0 0 p.1.mem := by
  have e : plE rs M i = 0 := by unfold plE; rw [if_pos h, kindP_some hp, hk]; rfl
  exact ⟨e, by unfold plL; rw [if_pos e, Int.toNat_natCast, hp]⟩
/-- What both Places answer. -/
def PlsP (rs : List (Rw × Value)) (M : Int → Ex) (id : Int) (w w' : World) (p : Option Addr) (c : Nat) : Prop := w'.ownsRow w.heap.size TPl 5 (.slice p (plL rs M id).length c) (plL rs M id).length (plCells (plL rs M id)) ∧ Below w.heap.size w w'
section
variable {B : Nat} {w : World} {b mb : Nat} {v : Value} {ps : List (Value × Value)} {M : Int → Ex} {rb : Nat} {rv : Value} {rs rs2 : List (Rw × Value)}
theorem pPlaces (h : Tab B w b mb v rs ps) (h0 : 0 < rs.length) (hs : Small rs) (hf : FromOK rs) (hM : IsMeas (rowsOf rs) M) (id : Int) :
    Calls Tryz.prog 11 #[.pointer (some ⟨b, 0, none⟩), .int .i64 id] w fun e w' => ∃ p c, e = .returned (.tuple #[.slice p (plL rs M id).length c, .int .i64 (plE rs M id)]) ∧ PlsP rs M id w w' p c := by
  by_cases he : openE rs M id = 0
  · obtain ⟨i, p, rfl, hp, hwh, hgt⟩ := openE_at he
    cases hk : recK p.1.kind with
    | false =>
      obtain ⟨e1, e2⟩ := plE_not he hp hk
      refine (places_err (i : Int) 30 (by decide) (openR_not h hs hf hM hp hwh hgt hk)).mono fun e w' ⟨h1, h2⟩ => ⟨none, 0, ?_, ?_⟩
      · rw [h1, e1, e2]; rfl
      · unfold PlsP; rw [e2]; exact ⟨World.ownsRow_nil _ _ _ _, h2⟩
    | true =>
      obtain ⟨e1, e2⟩ := plE_ok he hp hk
      refine (places_ok h hs hf hM hp hwh hgt hk).mono fun e w' ⟨s, h1, h2, h3⟩ => ?_
      obtain ⟨q, c, rfl⟩ := slice_of_own h2
      refine ⟨q, c, by rw [h1, e1, e2], ?_⟩
      unfold PlsP
      rw [e2]
      exact ⟨h2, h3⟩
  · obtain ⟨e1, e2⟩ := openE_ne he
    refine (places_err id (openE rs M id) (by simpa using he) (openR_err h h0 hs hf hM id he)).mono fun e w' ⟨h1, h2⟩ => ⟨none, 0, ?_, ?_⟩
    · rw [h1, e1, e2]; rfl
    · unfold PlsP; rw [e2]; exact ⟨World.ownsRow_nil _ _ _ _, h2⟩
set_option maxHeartbeats 4000000 in
theorem rSize_c (h : RT w rb rv rs2) (hrows : rs2.map (·.1) = rs.map (·.1)) (hf : FromOK rs) (hM : IsMeas (rowsOf rs) M) (hs : ∀ p ∈ rs, Sane p.1) (h1 : 0 < rs.length) (id : Int) :
    Calls Tryz.prog 8 #[.pointer (some ⟨rb, 0, none⟩), .int .i64 id] w fun e w' => e = .returned (.tuple #[.int .i64 (openX rs M id).size, .int .i64 (openE rs M id)]) ∧ Below w.heap.size w w' := by
  have c := asked_c h hrows hf hM hs h1 id
  clear h hrows hf hM hs
  go_enter Tryz.func8, Tryz.ntmps8
  go_wp2_with (first | (go_at_call 29; refine c.mono ?_; rintro e w5 ⟨sz, al, lp, lc, pl, f, rfl, hb5, how, hsz, hal, hpl⟩; have HB5 : Hid (Below w.heap.size w (w5.alloc (.cells #[.int .i64 sz, .int .i64 al, .slice lp pl.length lc, .bool f] TLy))) := hb5.trans ((below1 w5 _).mono hb5.size); have HS : Hid (sz = (openX rs M id).size) := hsz; have hold5 := heap_r0 w5 (.cells #[.int .i64 0, .int .i64 0, .slice none 0 0, .bool false] TLy); obtain ⟨n0, n1, n2, n3⟩ := ly_cells (heap_r0 w5 (.cells #[.int .i64 sz, .int .i64 al, .slice lp pl.length lc, .bool f] TLy)); clear hb5 how hsz hal hpl c) | ((with_reducible apply step_store hold5); rfl; rfl; kernel_rfl; rfl; kernel_rfl; rw [World.setRow_alloc_new]) | fail)
  go_ret2
  exact ⟨by rw [← HS.out]; rfl, HB5.out⟩
set_option maxHeartbeats 4000000 in
theorem rAlign_c (h : RT w rb rv rs2) (hrows : rs2.map (·.1) = rs.map (·.1)) (hf : FromOK rs) (hM : IsMeas (rowsOf rs) M) (hs : ∀ p ∈ rs, Sane p.1) (h1 : 0 < rs.length) (id : Int) :
    Calls Tryz.prog 10 #[.pointer (some ⟨rb, 0, none⟩), .int .i64 id] w fun e w' => e = .returned (.tuple #[.int .i64 (openX rs M id).align, .int .i64 (openE rs M id)]) ∧ Below w.heap.size w w' := by
  have c := asked_c h hrows hf hM hs h1 id
  clear h hrows hf hM hs
  go_enter Tryz.func10, Tryz.ntmps10
  go_wp2_with (first | (go_at_call 29; refine c.mono ?_; rintro e w5 ⟨sz, al, lp, lc, pl, f, rfl, hb5, how, hsz, hal, hpl⟩; have HB5 : Hid (Below w.heap.size w (w5.alloc (.cells #[.int .i64 sz, .int .i64 al, .slice lp pl.length lc, .bool f] TLy))) := hb5.trans ((below1 w5 _).mono hb5.size); have HS : Hid (al = (openX rs M id).align) := hal; have hold5 := heap_r0 w5 (.cells #[.int .i64 0, .int .i64 0, .slice none 0 0, .bool false] TLy); obtain ⟨n0, n1, n2, n3⟩ := ly_cells (heap_r0 w5 (.cells #[.int .i64 sz, .int .i64 al, .slice lp pl.length lc, .bool f] TLy)); clear hb5 how hsz hal hpl c) | ((with_reducible apply step_store hold5); rfl; rfl; kernel_rfl; rfl; kernel_rfl; rw [World.setRow_alloc_new]) | fail)
  go_ret2
  exact ⟨by rw [← HS.out]; rfl, HB5.out⟩
set_option maxHeartbeats 4000000 in
theorem rPlaces_c (h : RT w rb rv rs2) (hrows : rs2.map (·.1) = rs.map (·.1)) (hf : FromOK rs) (hM : IsMeas (rowsOf rs) M) (hs : ∀ p ∈ rs, Sane p.1) (h1 : 0 < rs.length) (id : Int) :
    Calls Tryz.prog 12 #[.pointer (some ⟨rb, 0, none⟩), .int .i64 id] w fun e w' => ∃ p c, e = .returned (.tuple #[.slice p (plL rs M id).length c, .int .i64 (plE rs M id)]) ∧ PlsP rs M id w w' p c := by
  have c := asked_c h hrows hf hM hs h1 id
  have HRT : Hid (RT w rb rv rs2) := h
  have HROWS : Hid (rs2.map (·.1) = rs.map (·.1)) := hrows
  have nt := not_t
  have nf := not_f
  clear h hrows hf hM hs
  by_cases he : openE rs M id = 0
  · have e0 : (openE rs M id != 0) = false := by simpa using he
    have HE : Hid (openE rs M id = 0) := he
    obtain ⟨i, p, hid, hp, hwh, hgt⟩ := openE_at he
    have HP : Hid (rs[i]? = some p) := hp
    have HID : Hid (id = i) := hid
    have HKK : Hid (kindP rs2 id = p.1.kind) := by
      show kindP rs2 id = p.1.kind
      obtain ⟨q, hq, hqp⟩ := same_at HROWS.out.symm hp
      rw [hid, kindP_some hq, hqp]
    have HR : Hid (∀ Y, Below w.heap.size w Y → Calls Tryz.prog 33 #[.pointer (some ⟨rb, 0, none⟩), .int .i64 id] Y fun e w' => e = .returned (.bool (recK p.1.kind)) ∧ w' = Y) := fun Y hY => by
      have := rRecord_c (HRT.out.below hY) id
      rw [HKK.out] at this
      exact this
    clear he hid hp hwh hgt
    cases hk : recK p.1.kind with
    | false =>
      rw [hk] at HR
      have HPE : Hid (plE rs M id = 30 ∧ plL rs M id = []) := by show _ ∧ _; rw [HID.out]; exact plE_not (by rw [← HID.out]; exact HE.out) HP.out hk
      clear hk
      go_enter Tryz.func12, Tryz.ntmps12
      go_wp2_with (first | (go_at_call 29; refine c.mono ?_; rintro e w5 ⟨sz, al, lp, lc, pl, f, rfl, hb5, how, hsz, hal, hpl⟩; have hbb : Below w.heap.size w (w5.alloc (.cells #[.int .i64 sz, .int .i64 al, .slice lp pl.length lc, .bool f] TLy)) := hb5.trans ((below1 w5 _).mono hb5.size); have HB5 : Hid (Below w.heap.size w (w5.alloc (.cells #[.int .i64 sz, .int .i64 al, .slice lp pl.length lc, .bool f] TLy))) := hbb; have cR := HR.out _ hbb; have hold5 := heap_r0 w5 (.cells #[.int .i64 0, .int .i64 0, .slice none 0 0, .bool false] TLy); clear hb5 how hsz hal hpl c hbb) | (go_at_call 33; refine cR.mono ?_; rintro e w' ⟨rfl, hw⟩; rw [hw]; clear hw w' cR) | ((with_reducible apply step_store hold5); rfl; rfl; kernel_rfl; rfl; kernel_rfl; rw [World.setRow_alloc_new]) | fail)
      go_ret2
      refine ⟨none, 0, by rw [HPE.out.1, HPE.out.2]; rfl, ?_⟩
      unfold PlsP
      rw [HPE.out.2]
      exact ⟨World.ownsRow_nil _ _ _ _, HB5.out⟩
    | true =>
      rw [hk] at HR
      have HPE : Hid (plE rs M id = 0 ∧ plL rs M id = placesS (p.1.kind == 16) M ls0 0 p.1.mem) := by show _ ∧ _; rw [HID.out]; exact plE_ok (by rw [← HID.out]; exact HE.out) HP.out hk
      have HKT : Hid (recK p.1.kind = true) := hk
      clear hk
      go_enter Tryz.func12, Tryz.ntmps12
      go_wp2_with (first | (go_at_call 29; refine c.mono ?_; rintro e w5 ⟨sz, al, lp, lc, pl, f, rfl, hb5, how, hsz, hal, hpl⟩; have hbb : Below w.heap.size w (w5.alloc (.cells #[.int .i64 sz, .int .i64 al, .slice lp pl.length lc, .bool f] TLy)) := hb5.trans ((below1 w5 _).mono hb5.size); have HB5 : Hid (Below w.heap.size w (w5.alloc (.cells #[.int .i64 sz, .int .i64 al, .slice lp pl.length lc, .bool f] TLy))) := hbb; have HPL : Hid (pl = plL rs M id) := (hpl HE.out i p HID.out HP.out HKT.out).trans HPE.out.2.symm; have HOW : Hid ((w5.alloc (.cells #[.int .i64 sz, .int .i64 al, .slice lp pl.length lc, .bool f] TLy)).ownsRow w.heap.size TPl 5 (.slice lp pl.length lc) pl.length (plCells pl)) := ownsRow_turned how (Turned.of_below (below1 w5 _) (fun _ => False)) (fun _ _ h => h.elim); have cR := HR.out _ hbb; have hold5 := heap_r0 w5 (.cells #[.int .i64 0, .int .i64 0, .slice none 0 0, .bool false] TLy); obtain ⟨n0, n1, n2, n3⟩ := ly_cells (heap_r0 w5 (.cells #[.int .i64 sz, .int .i64 al, .slice lp pl.length lc, .bool f] TLy)); clear hb5 how hsz hal hpl c hbb) | (go_at_call 33; refine cR.mono ?_; rintro e w' ⟨rfl, hw⟩; rw [hw]; clear hw w' cR) | ((with_reducible apply step_store hold5); rfl; rfl; kernel_rfl; rfl; kernel_rfl; rw [World.setRow_alloc_new]) | fail)
      go_ret2
      refine ⟨lp, lc, by rw [HPE.out.1, ← HPL.out]; rfl, ?_⟩
      unfold PlsP
      rw [← HPL.out]
      exact ⟨HOW.out, HB5.out⟩
  · have e0 : (openE rs M id != 0) = true := by simpa using he
    have HPE : Hid (plE rs M id = openE rs M id ∧ plL rs M id = []) := openE_ne he
    clear he
    go_enter Tryz.func12, Tryz.ntmps12
    go_wp2_with (first | (go_at_call 29; refine c.mono ?_; rintro e w5 ⟨sz, al, lp, lc, pl, f, rfl, hb5, how, hsz, hal, hpl⟩; have HB5 : Hid (Below w.heap.size w (w5.alloc (.cells #[.int .i64 sz, .int .i64 al, .slice lp pl.length lc, .bool f] TLy))) := hb5.trans ((below1 w5 _).mono hb5.size); have hold5 := heap_r0 w5 (.cells #[.int .i64 0, .int .i64 0, .slice none 0 0, .bool false] TLy); clear hb5 how hsz hal hpl c) | ((with_reducible apply step_store hold5); rfl; rfl; kernel_rfl; rfl; kernel_rfl; rw [World.setRow_alloc_new]) | fail)
    go_ret2
    refine ⟨none, 0, by rw [HPE.out.1, HPE.out.2]; rfl, ?_⟩
    unfold PlsP
    rw [HPE.out.2]
    exact ⟨World.ownsRow_nil _ _ _ _, HB5.out⟩
end
end Go.Proofs.YtlcghlfmaohfeaaGreat
namespace Go.Proofs.YtlcghlfmaohfeaaGreat
open Go.RowKit Go.Maps
set_option linter.unusedVariables false
set_option maxRecDepth 100000
theorem pl_at : ∀ (l : List Pl) (i : Nat) (P : Pl), l[i]? = some P → ∀ k, k < 5 → (plCells l)[i * 5 + k]? = (plV P).toList[k]?
  | [], i, P, h, _, _ => by simp at h
  | a :: l, 0, P, h, k, hk => by
    simp only [List.getElem?_cons_zero, Option.some.injEq] at h
    subst h
    simp only [plCells, List.flatMap_cons, Nat.zero_mul, Nat.zero_add]
    rw [List.getElem?_append_left (by simpa using hk)]
  | a :: l, i + 1, P, h, k, hk => by
    simp only [List.getElem?_cons_succ] at h
    have := pl_at l i P h k hk
    simp only [plCells, List.flatMap_cons]
    rw [List.getElem?_append_right (by simp; omega), show (i + 1) * 5 + k - (plV a).toList.length = i * 5 + k by simp; omega]
    exact this
theorem pl_len {un : Bool} {M : Int → Ex} : ∀ (l : List Mb) (s : Ls) (i : Nat), (placesS un M s i l).length ≤ l.length
  | [], _, _ => by simp [placesS]
  | m :: l, s, i => by
    have := pl_len (un := un) (M := M) l (stepP un M s m) (i + 1)
    simp only [placesS, List.length_append, List.length_cons]
    split <;> simp <;> omega
theorem ref_at {B : Nat} {w1 : World} {b mb : Nat} {tv : Value} {trs rrs : List (Rw × Value)} {rb : Nat} {rv : Value} {i : Nat} {p : Rw × Value} (hD : Duo B w1 b mb tv trs rb rv rrs) (hp : trs[i]? = some p) :
    ∃ (gr or' cr : Nat) (sp : Option Addr) (mc : Nat), rv = .slice (some ⟨gr, or', none⟩) trs.length cr ∧ trs.length ≤ cr ∧
      (∀ Y, Below w1.heap.size w1 Y → Y.cell? ⟨rb, 0, none⟩ = some (.slice (some ⟨gr, or', none⟩) trs.length cr) ∧ Y.cell? ⟨gr, or' + i * 6, none⟩ = some (.int .i64 p.1.kind) ∧ Y.cell? ⟨gr, or' + i * 6 + 4, none⟩ = some (.slice sp p.1.mem.length mc)) ∧
      (∀ (j : Nat) (m : Mb), p.1.mem[j]? = some m → ∃ gm om, sp = some ⟨gm, om, none⟩ ∧ p.1.mem.length ≤ mc ∧ ∀ Y, Below w1.heap.size w1 Y → ∀ k, k < 3 → Y.cell? ⟨gm, om + j * 3 + k, none⟩ = (mbCells m)[k]?) := by
  have hlen : rrs.length = trs.length := by have := congrArg List.length hD.same; simpa using this
  obtain ⟨q, hq, hqp⟩ : ∃ q, rrs[i]? = some q ∧ q.1 = p.1 := by
    have hlt : i < rrs.length := by rw [hlen]; exact (List.getElem?_eq_some_iff.1 hp).1
    refine ⟨rrs[i], List.getElem?_eq_getElem hlt, ?_⟩
    have := congrArg (fun l => l[i]?) hD.same
    simp only [List.getElem?_map, hp, List.getElem?_eq_getElem hlt, Option.map_some, Option.some.injEq] at this
    exact this
  have hs := hD.ref.rowSl
  rcases hs.1 with ⟨_, h0⟩ | ⟨g, o, cap, h1, h2, h3, h4⟩
  · rw [h0] at hq; simp at hq
  · have hc := h4 i q hq
    have hm := hs.2 q (List.mem_of_getElem? hq)
    obtain ⟨sp, mc, hsp⟩ : ∃ sp mc, q.2 = .slice sp p.1.mem.length mc := by
      rcases hm with ⟨e1, e2⟩ | ⟨gm, om, mc, e1, _⟩
      · exact ⟨none, 0, by rw [e1, ← hqp, e2]; rfl⟩
      · exact ⟨_, _, by rw [e1, hqp]⟩
    rw [hlen] at h1 h2
    refine ⟨g, o, cap, sp, mc, h1, h2, fun Y hY => ⟨?_, ?_, ?_⟩, fun j m hj => ?_⟩
    · rw [← h1]; exact (hD.ref.keptB hY).c0
    · rw [hY.cell (p := ⟨g, o + i * 6, none⟩) h3]
      have := hc 0 (by omega)
      simp only [Nat.add_zero, rwCells, List.getElem?_cons_zero] at this
      rw [this, hqp]
    · rw [hY.cell (p := ⟨g, o + i * 6 + 4, none⟩) h3]
      have := hc 4 (by omega)
      simp only [rwCells, List.getElem?_cons_zero, List.getElem?_cons_succ] at this
      rw [this, hsp]
    · rcases hm with ⟨e1, e2⟩ | ⟨gm, om, mc', e1, e2, e3, e4⟩
      · rw [← hqp, e2] at hj; simp at hj
      · rw [hsp] at e1
        injection e1 with e5 e6 e7
        refine ⟨gm, om, e5, by rw [e7, ← hqp]; exact e2, fun Y hY k hk => ?_⟩
        rw [hY.cell (p := ⟨gm, om + j * 3 + k, none⟩) e3]
        exact e4 j m (by rw [hqp]; exact hj) k hk
theorem gp_at : ∀ (l : List Gp) (i : Nat) (g : Gp), l[i]? = some g → (gpCells l)[i * 2]? = some (.int .i64 (g.from_ : Int)) ∧ (gpCells l)[i * 2 + 1]? = some (.int .i64 (g.bits : Int))
  | [], i, g, h => by simp at h
  | a :: l, 0, g, h => by
    simp only [List.getElem?_cons_zero, Option.some.injEq] at h
    subst h
    exact ⟨rfl, rfl⟩
  | a :: l, i + 1, g, h => by
    simp only [List.getElem?_cons_succ] at h
    have := gp_at l i g h
    simp only [gpCells, List.flatMap_cons] at this ⊢
    rw [List.getElem?_append_right (by simp; omega), List.getElem?_append_right (by simp; omega)]
    rw [show (i + 1) * 2 - [Value.int .i64 (a.from_ : Int), .int .i64 (a.bits : Int)].length = i * 2 by simp; omega, show (i + 1) * 2 + 1 - [Value.int .i64 (a.from_ : Int), .int .i64 (a.bits : Int)].length = i * 2 + 1 by simp; omega]
    exact this
/-- A row that a call made, in every world in which its block has not turned. -/
theorem own_kept {w w' : World} {S : Nat → Prop} {base : Nat} {e : TypeId} {size n : Nat} {v : Value} {xs : List Value} (h : w.ownsRow base e size v n xs) (ht : Turned w w' S) (hS : ∀ k, k < w.heap.size → S k → ¬ v.ownBlock = some k) : w'.ownsRow base e size v n xs :=
  ownsRow_turned h ht (fun k hk hs => hS k (by obtain ⟨_, cur, hc⟩ := ownsRow_at h hk; exact lt_of_heap hc) hs hk)
/-- Where the last gap ended, as the law keeps it. -/
def lastG (l : List Gp) : Nat → Int
  | 0 => -1
  | t + 1 => match l[t]? with | some g => (g.from_ : Int) + g.bits | none => 0
theorem lastG_at {l : List Gp} {t : Nat} {g : Gp} (h : l[t]? = some g) : lastG l (t + 1) = (g.from_ : Int) + g.bits := by
  show (match l[t]? with | some g => (g.from_ : Int) + g.bits | none => 0) = _
  rw [h]
theorem last_lt {f : Nat → Bool} {n : Nat} {s : Gs} (h : GapInv f n s) {t : Nat} {g : Gp} (hg : s.l[t]? = some g) : lastG s.l t < g.from_ := by
  cases t with
  | zero => show (-1 : Int) < _; omega
  | succ t =>
    have hlt : t < s.l.length := by have := (List.getElem?_eq_some_iff.1 hg).1; omega
    have ha : s.l[t]? = some s.l[t] := List.getElem?_eq_getElem hlt
    have := gap_next (f := f) (n := n) h.sorted ha hg
    rw [lastG_at ha]
    omega
theorem onF_step (l : List Gp) {t : Nat} {g : Gp} (hg : l[t]? = some g) (k : Nat) : onF (l.take (t + 1)) k = (onF (l.take t) k || (decide (g.from_ ≤ k) && decide (k < g.from_ + g.bits))) := by
  rw [take_snoc1 hg, onF_snoc]
  rfl
end Go.Proofs.YtlcghlfmaohfeaaGreat
namespace Go.Proofs.YtlcghlfmaohfeaaGreat
open Go.RowKit Go.Maps
set_option linter.unusedVariables false
set_option maxRecDepth 100000
theorem places_mem {un : Bool} {M : Int → Ex} : ∀ (l : List Mb) (s : Ls) (i : Nat), ∀ P ∈ placesS un M s i l, ∃ (j : Nat) (m : Mb), l[j]? = some m ∧ P.mem = ((i + j : Nat) : Int)
  | [], _, _, P, h => by simp [placesS] at h
  | m :: l, s, i, P, h => by
    unfold placesS at h
    rcases List.mem_append.1 h with c | c
    · split at c
      · cases c
      · obtain rfl := List.mem_singleton.1 c
        exact ⟨0, m, rfl, by rw [spot_mem']; simp⟩
    · obtain ⟨j, x, h1, h2⟩ := places_mem l _ (i + 1) P c
      exact ⟨j + 1, x, h1, by rw [h2]; congr 1; omega⟩
theorem places_rise {un : Bool} {M : Int → Ex} : ∀ (l : List Mb) (s : Ls) (i : Nat), (placesS un M s i l).Pairwise fun P Q => P.mem < Q.mem
  | [], _, _ => by simp [placesS]
  | m :: l, s, i => by
    unfold placesS
    rw [List.pairwise_append]
    refine ⟨?_, places_rise l _ (i + 1), fun P hP Q hQ => ?_⟩
    · split
      · exact List.Pairwise.nil
      · exact List.pairwise_singleton _ _
    · split at hP
      · cases hP
      · obtain rfl := List.mem_singleton.1 hP
        obtain ⟨j, x, _, h2⟩ := places_mem l _ (i + 1) Q hQ
        rw [spot_mem', h2]
        omega
/-- The first place of a name. -/
def firstS (mem : List Mb) (nm : ByteArray) (l : List Pl) : Pl × Bool := match l.find? (hitP mem nm) with
  | some P => (P, true)
  | none => (pl0, false)
theorem found_none (mem : List Mb) (nm : ByteArray) : ∀ (l : List Pl) (s : Pl × Bool), (∀ P ∈ l, hitP mem nm P = false) → foundS mem nm s l = s
  | [], _, _ => rfl
  | P :: l, s, h => by
    show foundS mem nm (if hitP mem nm P then (P, true) else s) l = s
    rw [h P (List.mem_cons_self ..)]
    exact found_none mem nm l s (fun Q hQ => h Q (List.mem_cons_of_mem _ hQ))
theorem found_first (mem : List Mb) (nm : ByteArray) : ∀ (l : List Pl), (l.Pairwise fun P Q => hitP mem nm P = true → hitP mem nm Q = false) → foundS mem nm (pl0, false) l = firstS mem nm l
  | [], _ => rfl
  | P :: l, h => by
    rw [List.pairwise_cons] at h
    show foundS mem nm (if hitP mem nm P then (P, true) else (pl0, false)) l = _
    unfold firstS
    cases hp : hitP mem nm P with
    | true =>
      rw [List.find?_cons_of_pos hp]
      exact found_none mem nm l _ (fun Q hQ => h.1 Q hQ hp)
    | false =>
      rw [List.find?_cons_of_neg (by rw [hp]; decide)]
      exact found_first mem nm l h.2
section
variable {rs : List (Rw × Value)} {M : Int → Ex}
theorem refus_all {l : List Mb} (h : refusFrom rs [] l = 0) : ∀ k, k ≤ l.length → refusFrom rs (l.take k) (l.drop k) = 0 := by
  intro k
  induction k with
  | zero => intro _; simpa using h
  | succ k ih =>
    intro hk
    have i0 := ih (by omega)
    obtain ⟨m, hm⟩ : ∃ m, l[k]? = some m := ⟨_, List.getElem?_eq_getElem (by omega)⟩
    rw [refusFrom_step rs l k m hm] at i0
    split at i0
    · exact i0
    · rename_i hne
      exact absurd i0 hne
theorem names_apart (hf : FromOK rs) {i : Nat} {p : Rw × Value} (hp : rs[i]? = some p) (hk : recK p.1.kind = true) (hd : p.1.done = true) {a b : Nat} {x y : Mb} (hab : a < b) (hx : p.1.mem[a]? = some x) (hy : p.1.mem[b]? = some y) (hne : y.name.toList.isEmpty = false) : (x.name.toList == y.name.toList) = false := by
  have hlt : i < rs.length := (List.getElem?_eq_some_iff.1 hp).1
  obtain ⟨hm, hc⟩ := enter_cut (hf.1 i p hlt hp)
  have hk2 : p.1.kind = 15 ∨ p.1.kind = 16 := by simpa [recK] using hk
  have hr : refusP rs p.1.mem = 0 := by
    rcases hc with ⟨a, b⟩ | ⟨_, ⟨a, _⟩ | ⟨_, _, a | a⟩ | ⟨a, _⟩ | ⟨a, _⟩⟩
    · omega
    · omega
    · rw [hd] at a; cases a
    · exact a
    · omega
    · omega
  have hb : b < p.1.mem.length := (List.getElem?_eq_some_iff.1 hy).1
  have h0 := refus_all (refus_len hr).2.2 b (by omega)
  rw [refusFrom_step rs p.1.mem b y hy] at h0
  have he : memberErr rs (p.1.mem.take b) y = 0 := by
    split at h0
    · rename_i h; exact h
    · exact h0
  obtain ⟨_, _, _, e4⟩ := memberErr_parts he
  unfold namedP at e4
  rw [hne] at e4
  simp only [if_neg (by decide : ¬ (false = true)), Bool.and_eq_true] at e4
  have e5 : anyNm (p.1.mem.take b) y.name = false := by simpa using e4.1.2
  unfold anyNm at e5
  rw [List.any_eq_false] at e5
  have := e5 x (List.mem_of_getElem? (by rw [List.getElem?_take_of_lt hab]; exact hx))
  simpa using this
theorem one_hit (hf : FromOK rs) {i : Nat} {p : Rw × Value} (hp : rs[i]? = some p) (hk : recK p.1.kind = true) (hd : p.1.done = true) (nm : ByteArray) : (placesS (p.1.kind == 16) M ls0 0 p.1.mem).Pairwise fun P Q => hitP p.1.mem nm P = true → hitP p.1.mem nm Q = false := by
  refine (places_rise p.1.mem ls0 0).imp_of_mem (fun {P Q} hP hQ hlt hit => ?_)
  obtain ⟨a, x, hx, ha⟩ := places_mem _ _ _ P hP
  obtain ⟨b, y, hy, hb⟩ := places_mem _ _ _ Q hQ
  unfold hitP at hit ⊢
  rw [ha, Int.toNat_natCast, Nat.zero_add, hx] at hit
  rw [hb, Int.toNat_natCast, Nat.zero_add, hy]
  simp only [Bool.and_eq_true, Bool.not_eq_true', beq_iff_eq] at hit
  obtain ⟨h1, h2⟩ := hit
  rw [h1]
  simp only [Bool.not_false, Bool.true_and]
  cases hyn : (y.name.toList == nm.toList) with
  | false => rfl
  | true =>
    have h3 : y.name.toList = nm.toList := by simpa using hyn
    have := names_apart hf hp hk hd (show a < b by omega) hx hy (by rw [h3]; exact h1)
    rw [h2, h3] at this
    simp at this
end
end Go.Proofs.YtlcghlfmaohfeaaGreat
namespace Go.Proofs.YtlcghlfmaohfeaaGreat
open Go.RowKit Go.Maps
set_option linter.unusedVariables false
set_option maxRecDepth 100000
abbrev PZ : Obj := .cells #[.int .i64 0, .int .i64 0, .int .i64 0, .int .i64 0, .int .i64 0] TPl
/-- What both Finds answer. -/
def fnS (rs : List (Rw × Value)) (M : Int → Ex) (id : Int) (nm : ByteArray) : Pl × Bool := if plE rs M id = 0 then (match rs[id.toNat]? with | some p => foundS p.1.mem nm (pl0, false) (plL rs M id) | none => (pl0, false)) else (pl0, false)
section
variable {B : Nat} {w : World} {b mb : Nat} {v : Value} {ps : List (Value × Value)} {M : Int → Ex} {rb : Nat} {rv : Value} {rs rs2 : List (Rw × Value)}
theorem pFind (h : Tab B w b mb v rs ps) (h0 : 0 < rs.length) (hs : Small rs) (hf : FromOK rs) (hM : IsMeas (rowsOf rs) M) (id : Int) (nm : ByteArray) :
    Calls Tryz.prog 13 #[.pointer (some ⟨b, 0, none⟩), .int .i64 id, .string nm] w fun e w' => e = .returned (.tuple #[.agg (plV (fnS rs M id nm).1), .bool (fnS rs M id nm).2, .int .i64 (plE rs M id)]) ∧ Below w.heap.size w w' := by
  have hb0 := below1 w PZ
  by_cases he : openE rs M id = 0
  · obtain ⟨i, p, rfl, hp, hwh, hgt⟩ := openE_at he
    cases hk : recK p.1.kind with
    | false =>
      obtain ⟨e1, e2⟩ := plE_not he hp hk
      have e3 : fnS rs M i nm = (pl0, false) := by unfold fnS; rw [if_neg (by rw [e1]; decide)]
      rw [e1, e3]
      exact find_err (i : Int) nm 30 (by decide) (openR_not (h.keptB hb0) hs hf hM hp hwh hgt hk)
    | true =>
      obtain ⟨e1, e2⟩ := plE_ok he hp hk
      have e3 : fnS rs M i nm = foundS p.1.mem nm (pl0, false) (placesS (p.1.kind == 16) M ls0 0 p.1.mem) := by unfold fnS; rw [if_pos e1, Int.toNat_natCast, hp, e2]
      rw [e1, e3]
      exact find_ok h hs hf hM hp hwh hgt hk nm
  · obtain ⟨e1, e2⟩ := openE_ne he
    have e3 : fnS rs M id nm = (pl0, false) := by unfold fnS; rw [if_neg (by rw [e1]; exact he)]
    rw [e1, e3]
    exact find_err id nm (openE rs M id) (by simpa using he) (openR_err (h.keptB hb0) h0 hs hf hM id he)
theorem fn_first (hf : FromOK rs) {i : Nat} {p : Rw × Value} (hp : rs[i]? = some p) (hwh : wholeR p.1 = true) (hk : recK p.1.kind = true) (he : openE rs M i = 0) (nm : ByteArray) : fnS rs M i nm = firstS p.1.mem nm (plL rs M i) := by
  obtain ⟨e1, e2⟩ := plE_ok he hp hk
  unfold fnS
  rw [if_pos e1, Int.toNat_natCast, hp]
  simp only
  rw [e2]
  exact found_first _ _ _ (one_hit hf hp hk (whole_done hwh hk) nm)
set_option maxHeartbeats 8000000 in
theorem rFind_c (h : RT w rb rv rs2) (hrows : rs2.map (·.1) = rs.map (·.1)) (hf : FromOK rs) (hM : IsMeas (rowsOf rs) M) (hs : ∀ p ∈ rs, Sane p.1) (h1 : 0 < rs.length) (id : Int) (nm : ByteArray) :
    Calls Tryz.prog 14 #[.pointer (some ⟨rb, 0, none⟩), .int .i64 id, .string nm] w fun e w' => e = .returned (.tuple #[.agg (plV (fnS rs M id nm).1), .bool (fnS rs M id nm).2, .int .i64 (plE rs M id)]) ∧ Below w.heap.size w w' := by
  have hb0 := below1 w PZ
  have E0 := heap_r0 w PZ
  have hz : ∀ Y : World, (Instr.build TPl #[]).run Tryz.prog Y = .ok (.agg #[.int .i64 0, .int .i64 0, .int .i64 0, .int .i64 0, .int .i64 0]) Y := fun Y => by kernel_rfl
  have c := rPlaces_c (h.below hb0) hrows hf hM hs h1 id
  have HRT : Hid (RT w rb rv rs2) := h
  have HROWS : Hid (rs2.map (·.1) = rs.map (·.1)) := hrows
  have HF : Hid (FromOK rs) := hf
  have HB0 : Hid (Below w.heap.size w (w.alloc PZ)) := hb0
  have HE0 : Hid ((w.alloc PZ).heap[w.heap.size]? = some (.cells #[.int .i64 0, .int .i64 0, .int .i64 0, .int .i64 0, .int .i64 0] TPl (0, 0))) := E0
  have hsz : (w.alloc PZ).heap.size = w.heap.size + 1 := by simp
  have HSZ : Hid ((w.alloc PZ).heap.size = w.heap.size + 1) := hsz
  clear h hrows hf hM hs hb0 hsz E0
  by_cases he : plE rs M id = 0
  · have e0 : (plE rs M id != 0) = false := by simpa using he
    have ho : openE rs M id = 0 := by
      by_cases h : openE rs M id = 0
      · exact h
      · rw [(openE_ne h).1] at he; exact absurd he h
    obtain ⟨i, p, hid, hp, hwh, hgt⟩ := openE_at ho
    subst hid
    have hk : recK p.1.kind = true := by
      cases hk : recK p.1.kind with
      | true => rfl
      | false => rw [(plE_not ho hp hk).1] at he; cases he
    have HFS : Hid (fnS rs M i nm = firstS p.1.mem nm (plL rs M i)) := fn_first HF.out hp hwh hk ho nm
    have HPL : Hid (plL rs M i = placesS (p.1.kind == 16) M ls0 0 p.1.mem) := (plE_ok ho hp hk).2
    obtain ⟨q, hq, hqp⟩ := same_at HROWS.out.symm hp
    have HE : Hid (plE rs M (i : Int) = 0) := he
    have HQ : Hid (rs2[i]? = some q) := hq
    have HQP : Hid (q.1 = p.1) := hqp
    have hn64 : p.1.mem.length ≤ 64 := by
      have hlt : i < rs.length := (List.getElem?_eq_some_iff.1 hp).1
      have := (enter_parts (HF.out.1 i p hlt hp) hlt).2
      omega
    have hpl : (plL rs M (i : Int)).length ≤ 64 := by rw [HPL.out]; exact Nat.le_trans (pl_len _ _ _) hn64
    obtain ⟨rp, rc, hrv, hrc⟩ := HRT.out.sl
    subst hrv
    have h512 := HRT.out.len
    have hi2 : i < rs2.length := (List.getElem?_eq_some_iff.1 hq).1
    obtain ⟨gr, og, cr, hv, hcap, _⟩ := HRT.out.at hq
    injection hv with v1 v2 v3
    subst v1 v3
    have HROW : Hid (∀ Y, Below w.heap.size w Y → Y.cell? ⟨rb, 0, none⟩ = some (.slice (some ⟨gr, og, none⟩) rs2.length rc) ∧ Y.cell? ⟨gr, og + i * 6 + 4, none⟩ = some q.2 ∧ MemSl Y q.2 p.1.mem) := fun Y hY => by
      have hR := HRT.out.below hY
      obtain ⟨g', o', c', hv', _, hc'⟩ := hR.at HQ.out
      injection hv' with a1 a2 a3
      injection a1 with a1
      injection a1 with a1 a4
      subst a1 a4
      refine ⟨hR.cell, (hc' 4 (by omega)).trans rfl, ?_⟩
      have := hR.rows.2 q (List.mem_of_getElem? HQ.out)
      rw [HQP.out] at this
      exact this
    clear he ho hp hwh hgt hk hq hqp v2
    go_enter Tryz.func14, Tryz.ntmps14
    go_wp2_with (first | (go_at_call 12; refine c.mono ?_; rintro e w5 ⟨lp, lc, rfl, how, hb5⟩; have HOW : Hid (w5.ownsRow (w.alloc PZ).heap.size TPl 5 (.slice lp (plL rs M i).length lc) (plL rs M i).length (plCells (plL rs M i))) := how; have HB5 : Hid (Below w.heap.size w w5) := HB0.out.trans (hb5.mono HB0.out.size); have HE5 : Hid (w5.heap[w.heap.size]? = some (.cells #[.int .i64 0, .int .i64 0, .int .i64 0, .int .i64 0, .int .i64 0] TPl (0, 0))) := (hb5.block _ (lt_of_heap HE0.out)).trans HE0.out; clear how hb5 c) | fail)
    go_loopw [11] (fun iv wr => ∃ k : Nat, iv = .int .i64 k ∧ k ≤ (plL rs M (i : Int)).length ∧ Hid (Below w5.heap.size w5 wr) ∧ Hid (∀ P ∈ (plL rs M (i : Int)).take k, hitP p.1.mem nm P = false)) (fun iv _ => (plL rs M (i : Int)).length - (intOf iv).toNat)
    case atStart => exact ⟨0, rfl, Nat.zero_le _, Below.refl _ _, fun P hP => by simp at hP⟩
    case round =>
      obtain ⟨k, rfl, hkl, HBr, HNO⟩ := hrel
      by_cases hlt : k < (plL rs M (i : Int)).length
      · obtain ⟨P, hP⟩ : ∃ P, (plL rs M (i : Int))[k]? = some P := ⟨_, List.getElem?_eq_getElem hlt⟩
        obtain ⟨g, cap, hgs, hgb, hgl, hgc, hcl, hgf⟩ := own_cell HOW.out (by omega)
        injection hgs with w1 w2 w3
        subst w1 w3
        obtain ⟨j, m, hjm, hPm⟩ := places_mem _ _ _ P (by have := List.mem_of_getElem? hP; rw [HPL.out] at this; exact this)
        rw [Nat.zero_add] at hPm
        have hjl : j < p.1.mem.length := (List.getElem?_eq_some_iff.1 hjm).1
        have hcell := fun k' u (hu : (plCells (plL rs M (i : Int)))[k']? = some u) => (HBr.out.cell (p := ⟨g, k', none⟩) hgl).trans (hcl k' u hu)
        have a0 := hcell (k * 5 + 0) _ ((pl_at _ k P hP 0 (by omega)).trans rfl)
        have a1 := hcell (k * 5 + 1) _ ((pl_at _ k P hP 1 (by omega)).trans rfl)
        have a2 := hcell (k * 5 + 2) _ ((pl_at _ k P hP 2 (by omega)).trans rfl)
        have a3 := hcell (k * 5 + 3) _ ((pl_at _ k P hP 3 (by omega)).trans rfl)
        have a4 := hcell (k * 5 + 4) _ ((pl_at _ k P hP 4 (by omega)).trans rfl)
        rw [hPm] at a0
        simp only [Nat.add_zero] at a0
        obtain ⟨t0, t1, t2⟩ := HROW.out wr (HB5.out.trans (HBr.out.mono HB5.out.size))
        obtain ⟨sp, sc, hq2, hmc⟩ := memSl_cells t2
        obtain ⟨gm, om, hsp, hmcap, hmcell⟩ := hmc j m hjm
        subst hsp
        rw [hq2] at t1
        have m0 := hmcell wr (Below.refl _ _) 0 (by omega)
        simp only [mbCells, Nat.add_zero, List.getElem?_cons_zero] at m0
        have hh : hitP p.1.mem nm P = (!nm.toList.isEmpty && (m.name.toList == nm.toList)) := by unfold hitP; rw [hPm, Int.toNat_natCast, hjm]
        have HH : Hid (hitP p.1.mem nm P = (!nm.toList.isEmpty && (m.name.toList == nm.toList))) := hh
        have HPK : Hid ((plL rs M (i : Int))[k]? = some P) := hP
        clear hh hP hcl hgf hcell hmc hmcell hjm t2 hq2 w2
        have HNX : Hid (hitP p.1.mem nm P = false → ∀ Q ∈ (plL rs M (i : Int)).take (k + 1), hitP p.1.mem nm Q = false) := fun hf Q hQ => by
          rw [List.take_add_one, HPK.out] at hQ
          rcases List.mem_append.1 hQ with c | c
          · exact HNO.out Q c
          · obtain rfl := List.mem_singleton.1 c
            exact hf
        by_cases hne : (!nm.toList.isEmpty) = true
        · cases heq : (m.name.toList == nm.toList) with
          | false =>
            have HHF : Hid (hitP p.1.mem nm P = false) := by show hitP p.1.mem nm P = false; rw [HH.out, heq, Bool.and_false]
            go_wp2
            go_quiet (fail)
            go_wp2
            exact ⟨⟨k + 1, by go_num, by omega, HBr.out.trans ⟨rfl, rfl, rfl, Nat.le_refl _, fun _ _ => rfl⟩, HNX.out HHF.out⟩, by simp [intOf]; omega⟩
          | true =>
            have HHT : Hid (hitP p.1.mem nm P = true) := by show hitP p.1.mem nm P = true; rw [HH.out, heq, hne]; rfl
            have HFN : Hid (fnS rs M (i : Int) nm = (P, true)) := by
              show fnS rs M (i : Int) nm = _
              rw [HFS.out]
              unfold firstS
              have hf : (plL rs M (i : Int)).find? (hitP p.1.mem nm) = some P := by
                rw [List.find?_eq_some_iff_getElem]
                refine ⟨HHT.out, k, hlt, (List.getElem?_eq_some_iff.1 HPK.out).2, fun t ht => ?_⟩
                have := HNO.out ((plL rs M (i : Int))[t]) (by rw [List.mem_take_iff_getElem]; exact ⟨t, by omega, rfl⟩)
                simpa using this
              rw [hf]
            have HPM : Hid (P.mem = (j : Int)) := hPm
            clear hPm
            go_wp2
            go_quiet (fail)
            have hbr := HB5.out.trans (HBr.out.mono HB5.out.size)
            have HB1 : Hid (Below w.heap.size w (wr.drewN nq)) := ⟨hbr.os, hbr.tape, hbr.output, hbr.size, hbr.block⟩
            have hEr : (wr.drewN nq).heap[w.heap.size]? = some (.cells #[.int .i64 0, .int .i64 0, .int .i64 0, .int .i64 0, .int .i64 0] TPl (0, 0)) := (blk_b (w' := wr) HE5.out HBr.out)
            have HEr : Hid ((wr.drewN nq).heap[w.heap.size]? = some (.cells #[.int .i64 0, .int .i64 0, .int .i64 0, .int .i64 0, .int .i64 0] TPl (0, 0))) := hEr
            have c0 : (wr.drewN nq).cell? ⟨g, k * 5, none⟩ = some (.int .i64 (j : Int)) := a0
            have c1 : (wr.drewN nq).cell? ⟨g, k * 5 + 1, none⟩ = some (.int .i64 P.type) := a1
            have c2 : (wr.drewN nq).cell? ⟨g, k * 5 + 2, none⟩ = some (.int .i64 P.off) := a2
            have c3 : (wr.drewN nq).cell? ⟨g, k * 5 + 3, none⟩ = some (.int .i64 P.bit) := a3
            have c4 : (wr.drewN nq).cell? ⟨g, k * 5 + 4, none⟩ = some (.int .i64 P.bits) := a4
            clear hbr a0 a1 a2 a3 a4 t0 t1 m0
            generalize wr.drewN nq = W8 at *
            go_wp2_with (first | ((with_reducible apply step_store hEr); rfl; rfl; kernel_rfl; rfl; kernel_rfl) | fail)
            refine (?_ : bodyPost _ _ _ _ _ _)
            refine ret_p3 (p := 6) (q := 7) (s := 8) (cs := #[.int .i64 (j : Int), .int .i64 P.type, .int .i64 P.off, .int .i64 P.bit, .int .i64 P.bits]) rfl rfl (setRow_heap _ _ _ _ _ _ HEr.out) rfl ?_
            exact ⟨by rw [HFN.out, HE.out, ← HPM.out]; rfl, below_setRow HB1.out (Nat.le_refl _) _⟩
        · have hne0 : (!nm.toList.isEmpty) = false := by simpa using hne
          have HHF : Hid (hitP p.1.mem nm P = false) := by show hitP p.1.mem nm P = false; rw [HH.out, hne0, Bool.false_and]
          clear hne
          go_wp2
          go_quiet (fail)
          go_wp2
          exact ⟨⟨k + 1, by go_num, by omega, HBr.out.trans ⟨rfl, rfl, rfl, Nat.le_refl _, fun _ _ => rfl⟩, HNX.out HHF.out⟩, by simp [intOf]; omega⟩
      · obtain rfl : k = (plL rs M (i : Int)).length := by omega
        have hEr := blk_b HE5.out HBr.out
        have HEr : Hid (wr.heap[w.heap.size]? = some (.cells #[.int .i64 0, .int .i64 0, .int .i64 0, .int .i64 0, .int .i64 0] TPl (0, 0))) := hEr
        have HFN : Hid (fnS rs M (i : Int) nm = (pl0, false)) := by
          show fnS rs M (i : Int) nm = _
          rw [HFS.out]
          unfold firstS
          rw [List.find?_eq_none.2 (fun Q hQ => by rw [HNO.out Q (by rw [List.take_length]; exact hQ)]; decide)]
        go_wp2_with (first | ((with_reducible apply step_store hEr); rfl; rfl; kernel_rfl; rfl; kernel_rfl) | fail)
        refine (?_ : bodyPost _ _ _ _ _ _)
        refine ret_p3 (p := 6) (q := 7) (s := 8) (cs := #[.int .i64 0, .int .i64 0, .int .i64 0, .int .i64 0, .int .i64 0]) rfl rfl (setRow_heap _ _ _ _ _ _ HEr.out) rfl ?_
        exact ⟨by rw [HFN.out, HE.out]; rfl, below_setRow (HB5.out.trans (HBr.out.mono HB5.out.size)) (Nat.le_refl _) _⟩
  · have e0 : (plE rs M id != 0) = true := by simpa using he
    have HFS : Hid (fnS rs M id nm = (pl0, false)) := by show fnS rs M id nm = _; unfold fnS; rw [if_neg he]
    have hE5 : True := trivial
    go_enter Tryz.func14, Tryz.ntmps14
    go_wp2_with (first | (go_at_call 12; refine c.mono ?_; rintro e w5 ⟨lp, lc, rfl, how, hb5⟩; have HB5 : Hid (Below w.heap.size w w5) := HB0.out.trans (hb5.mono HB0.out.size); have hX5 := (hb5.block _ (lt_of_heap HE0.out)).trans HE0.out; have HE5 : Hid (w5.heap[w.heap.size]? = some (.cells #[.int .i64 0, .int .i64 0, .int .i64 0, .int .i64 0, .int .i64 0] TPl (0, 0))) := hX5; clear how hb5 c) | ((with_reducible apply step_store hX5); rfl; rfl; kernel_rfl; rfl; kernel_rfl) | fail)
    refine (?_ : bodyPost _ _ _ _ _ _)
    refine ret_p3 (p := 6) (q := 7) (s := 8) (cs := #[.int .i64 0, .int .i64 0, .int .i64 0, .int .i64 0, .int .i64 0]) rfl rfl (setRow_heap _ _ _ _ _ _ HE5.out) rfl ?_
    exact ⟨by rw [HFS.out]; rfl, below_setRow HB5.out (Nat.le_refl _) _⟩
theorem eqPl (P : Pl) (Y : World) : (binOp .eql TPl (.agg #[.int .i64 P.mem, .int .i64 P.type, .int .i64 P.off, .int .i64 P.bit, .int .i64 P.bits]) (.agg #[.int .i64 P.mem, .int .i64 P.type, .int .i64 P.off, .int .i64 P.bit, .int .i64 P.bits])).run Tryz.prog Y = .ok (.bool true) Y := by
  have hT : Tryz.prog.underlying TPl = some (.struct (Tryz.prog.fieldsOf TPl)) := by kernel_rfl
  have hp : Tryz.prog.stoodInHeld TPl = false := by kernel_rfl
  have h3 := Tryz.underlying3
  rw [run_eql_struct, run_equalIn_agg _ 9999 _ _ _ hT hp]
  simp only [Program.fieldsOf, Tryz.underlying39]
  go_simp
theorem nePl (P : Pl) (Y : World) : (binOp .neq TPl (.agg #[.int .i64 P.mem, .int .i64 P.type, .int .i64 P.off, .int .i64 P.bit, .int .i64 P.bits]) (.agg #[.int .i64 P.mem, .int .i64 P.type, .int .i64 P.off, .int .i64 P.bit, .int .i64 P.bits])).run Tryz.prog Y = .ok (.bool false) Y := by
  have hT : Tryz.prog.underlying TPl = some (.struct (Tryz.prog.fieldsOf TPl)) := by kernel_rfl
  have hp : Tryz.prog.stoodInHeld TPl = false := by kernel_rfl
  have h3 := Tryz.underlying3
  rw [run_neq_struct, run_equalIn_agg _ 9999 _ _ _ hT hp]
  simp only [Program.fieldsOf, Tryz.underlying39]
  go_simp
set_option maxHeartbeats 4000000 in
theorem rSame_c {w : World} {l : List Pl} {b1 b2 c1 c2 : Nat} {p1 p2 : Option Addr} (hl : l.length ≤ 64) (h1 : w.ownsRow b1 TPl 5 (.slice p1 l.length c1) l.length (plCells l)) (h2 : w.ownsRow b2 TPl 5 (.slice p2 l.length c2) l.length (plCells l)) :
    Calls Tryz.prog 15 #[.slice p1 l.length c1, .slice p2 l.length c2] w fun e w' => e = .returned (.bool true) ∧ Below w.heap.size w w' := by
  have hnn : ((l.length : Int) != (l.length : Int)) = false := by simp
  have H1 : Hid (w.ownsRow b1 TPl 5 (.slice p1 l.length c1) l.length (plCells l)) := h1
  have H2 : Hid (w.ownsRow b2 TPl 5 (.slice p2 l.length c2) l.length (plCells l)) := h2
  clear h1 h2
  go_enter Tryz.func15, Tryz.ntmps15
  go_wp2
  go_loopw [5] (fun iv wr => ∃ k : Nat, iv = .int .i64 k ∧ k ≤ l.length ∧ Hid (Below w.heap.size w wr)) (fun iv _ => l.length - (intOf iv).toNat)
  case atStart => exact ⟨0, rfl, Nat.zero_le _, Below.refl _ _⟩
  case round =>
    obtain ⟨k, rfl, hkl, HBr⟩ := hrel
    by_cases hlt : k < l.length
    · obtain ⟨P, hP⟩ : ∃ P, l[k]? = some P := ⟨_, List.getElem?_eq_getElem hlt⟩
      obtain ⟨g1, d1, e1, _, g1l, g1c, g1x, _⟩ := own_cell H1.out (by omega)
      obtain ⟨g2, d2, e2, _, g2l, g2c, g2x, _⟩ := own_cell H2.out (by omega)
      injection e1 with x1 x2 x3
      injection e2 with y1 y2 y3
      subst x1 x3 y1 y3
      have hc1 := fun k' u (hu : (plCells l)[k']? = some u) => (HBr.out.cell (p := ⟨g1, k', none⟩) g1l).trans (g1x k' u hu)
      have hc2 := fun k' u (hu : (plCells l)[k']? = some u) => (HBr.out.cell (p := ⟨g2, k', none⟩) g2l).trans (g2x k' u hu)
      have a0 := hc1 (k * 5 + 0) _ ((pl_at _ k P hP 0 (by omega)).trans rfl)
      have a1 := hc1 (k * 5 + 1) _ ((pl_at _ k P hP 1 (by omega)).trans rfl)
      have a2 := hc1 (k * 5 + 2) _ ((pl_at _ k P hP 2 (by omega)).trans rfl)
      have a3 := hc1 (k * 5 + 3) _ ((pl_at _ k P hP 3 (by omega)).trans rfl)
      have a4 := hc1 (k * 5 + 4) _ ((pl_at _ k P hP 4 (by omega)).trans rfl)
      have b0 := hc2 (k * 5 + 0) _ ((pl_at _ k P hP 0 (by omega)).trans rfl)
      have b1 := hc2 (k * 5 + 1) _ ((pl_at _ k P hP 1 (by omega)).trans rfl)
      have b2 := hc2 (k * 5 + 2) _ ((pl_at _ k P hP 2 (by omega)).trans rfl)
      have b3 := hc2 (k * 5 + 3) _ ((pl_at _ k P hP 3 (by omega)).trans rfl)
      have b4 := hc2 (k * 5 + 4) _ ((pl_at _ k P hP 4 (by omega)).trans rfl)
      simp only [Nat.add_zero] at a0 b0
      have ne1 := nePl P
      clear hc1 hc2 g1x g2x hP x2 y2
      go_wp2
      go_quiet (fail)
      go_wp2
      exact ⟨⟨k + 1, by go_num, by omega, HBr.out.trans ⟨rfl, rfl, rfl, Nat.le_refl _, fun _ _ => rfl⟩⟩, by simp [intOf]; omega⟩
    · obtain rfl : k = l.length := by omega
      go_wp2
      go_ret
      exact ⟨rfl, HBr.out⟩
end
end Go.Proofs.YtlcghlfmaohfeaaGreat
