/-
  A table that no call made: each of package layout's calls refuses it.
  paint of every whole type that is not too large.
  Gaps of every table and type.
  The two structs of heads: what is reckoned of them. (Pure.)
  The law's own function heads: what must come at any rate.
-/
import Derived.Test.YtlcghlfmaohfeaaGreatHLyPh
import Derived.Test.YtlcghlfmaohfeaaGreatHGraph
import Derived.Test.YtlcghlfmaohfeaaGreatHCopyRows
namespace Go.Proofs.YtlcghlfmaohfeaaGreat
open Go.RowKit Go.Maps
set_option linter.unusedVariables false
set_option maxRecDepth 100000
section
variable {B : Nat} {w0 : World} {b rb m pb gp mb : Nat} {v : Value} {rs : List (Rw × Value)} {ps : List (Value × Value)} {M : Int → Ex} {H : Int → Nat → Bool}
theorem member_size (hf : FromOK rs) (hM : IsMeas (rowsOf rs) M) {i : Nat} {p : Rw × Value} (hp : rs[i]? = some p) (hwh : wholeR p.1 = true) (hk : recK p.1.kind = true) (hgt : (M i).size ≤ 16384) : ∀ x ∈ p.1.mem, x.bits = -1 → (M x.type).size ≤ 16384 := by
  intro x hx hb
  obtain ⟨j, hj⟩ := List.getElem?_of_mem hx
  have hin := spot_in (un := p.1.kind == 16) (M := M) hj (by omega)
  have hsp := spot_mem' (beginP (if (p.1.kind == 16) = true then 0 else (layS (p.1.kind == 16) M ls0 (List.take j p.1.mem)).place) x (M x.type)) j x (M x.type)
  obtain ⟨h1, h2, j', x', q1, q2, q3, q4, q5, q6⟩ := place_all hf hM hp hwh hk hgt _ hin
  rw [hsp] at q2
  obtain rfl : j = j' := by omega
  rw [hj] at q1
  cases q1
  have := (q5 hb).2.2
  omega
theorem paint_step (h0 : Tab B w0 b mb v rs ps) (hs : Small rs) (hf : FromOK rs) (hM : IsMeas (rowsOf rs) M) (hH : IsHad (rowsOf rs) M H) (hw0 : w0.heap.size ≤ m) (hgp0 : w0.heap.size ≤ gp) (hrm : rb ≠ m) {i : Nat} {p : Rw × Value} (hp : rs[i]? = some p) (hwh : wholeR p.1 = true) (hgt : (M i).size ≤ 16384)
    (hpart : ∀ x ∈ partsR p.1, wholeP rs x = true → (M x).size ≤ 16384 → PC w0 b rb m pb gp rs M H x) : PC w0 b rb m pb gp rs M H i := by
  intro A W hPA hA
  have hlt : i < rs.length := (List.getElem?_eq_some_iff.1 hp).1
  have hl := h0.len
  have hMi := hM i p.1 (rows_at hp)
  have hHi := hH i p.1 (rows_at hp)
  have hE := meas_ok hf hM i p hp hwh
  obtain ⟨cur, q1, q2, q3⟩ := hPA.pics
  obtain ⟨u, hu⟩ : ∃ u, cur[i]? = some u := ⟨_, Array.getElem?_eq_getElem (by omega)⟩
  have hc := (Lib.cell_of_heap q1 i).trans hu
  rcases q3 i u hu with rfl | ⟨g, cap, L, rfl, ⟨e2, e2'⟩, e3, e4, e5⟩
  · refine paint_new h0 hs hPA hA hrm hgp0 hp hl hc (measure_all h0 hs hf hM hw0 hrm i p hp hwh) hE.lo (fun Y sp sc bs hPY hYs hown => ?_)
    have hAY : ∀ k, A k → k < Y.heap.size := fun k hk => Nat.lt_of_lt_of_le (hA k hk) hYs
    have e1 := hE.lo
    obtain ⟨n, hn⟩ : ∃ n : Nat, (M i).size = n := ⟨(M i).size.toNat, by omega⟩
    by_cases h14 : p.1.kind = 14
    · obtain ⟨_, _, hwe, hln, _⟩ := ok_arr hf hp h14
      have hlen : 1 ≤ p.1.len := by
        unfold wholeR at hwh
        rw [if_pos h14] at hwh
        simp [lenK] at hln
        simp at hwh
        omega
      obtain ⟨q, hq, hwq, x0, xl⟩ := whole_at hwe
      have hxe : p.1.elem = (p.1.elem.toNat : Int) := by omega
      have hEE : ExOK (M p.1.elem) := by rw [hxe]; exact meas_ok hf hM _ q hq hwq
      obtain ⟨c, hcn⟩ : ∃ c : Nat, p.1.len = c := ⟨p.1.len.toNat, by omega⟩
      have hr : (M i).size = min (p.1.len * (M p.1.elem).size) 16385 := by rw [hMi]; unfold roomP clampE; rw [if_pos h14]
      have hsz : (M i).size = c * (M p.1.elem).size := by rw [← hcn]; omega
      have hee := hEE.lo
      have h2 : 1 * (M p.1.elem).size ≤ c * (M p.1.elem).size := Int.mul_le_mul_of_nonneg_right (by omega) (by omega)
      exact painted_arr hPY hAY p.1 (c := c) (by simpa using h14) (by omega) hcn hee (by omega) (hpart p.1.elem (by unfold partsR; rw [if_pos h14]; simp) hwe (by omega)) _ hsz (fun k => by rw [hHi]; unfold hadR; rw [if_pos h14])
    · have h14' : (p.1.kind == 14) = false := by simpa using h14
      rw [hn]
      by_cases hk : recK p.1.kind = true
      · have hd : p.1.done = true := by
          unfold wholeR at hwh
          rw [if_neg h14, if_pos hk] at hwh
          exact hwh
        have hmem := ok_members hf hp hk hd
        obtain ⟨m1, m64, mall⟩ := rec_mem h0 hs hf hM hw0 hrm hp hwh hk
        refine painted_rec hPY hAY hw0 hgp0 hrm p.1 hown m64 mall (fun x hx hb => hpart x.type (by unfold partsR; rw [if_neg h14]; exact List.mem_map.2 ⟨x, hx, rfl⟩) (hmem x hx).1 (member_size hf hM hp hwh hk hgt x hx hb)) (by omega) (by omega) (fun P hP => ?_) h14' hk hn (fun k => by rw [hHi]; unfold hadR anyP; rw [if_neg h14, if_pos hk])
        obtain ⟨h1, h2, j, x, q1, q2, q3, q4, q5, q6⟩ := place_all hf hM hp hwh hk hgt P hP
        refine ⟨h1, h2, fun hb => ?_, fun hb => ?_⟩
        · by_cases hx : x.bits = -1
          · have := (q5 hx).1; omega
          · have := (q6 hx).2.2; omega
        · by_cases hx : x.bits = -1
          · have := (q5 hx).2.2; rw [q3]; omega
          · have := (q6 hx).2.1; omega
      · exact painted_int hPY p.1 h14' (by simpa using hk) (by omega) (by omega) hn (fun k => by rw [hHi]; unfold hadR; rw [if_neg h14, if_neg hk])
  · refine (paint_old hPA hlt hl hc e2).mono ?_
    rintro e w' ⟨rfl, rfl⟩
    exact ⟨g, cap, L, rfl, e2', e3, e4, e5, hPA, Turned.refl _ _⟩
theorem paint_all (h0 : Tab B w0 b mb v rs ps) (hs : Small rs) (hf : FromOK rs) (hM : IsMeas (rowsOf rs) M) (hH : IsHad (rowsOf rs) M H) (hw0 : w0.heap.size ≤ m) (hgp0 : w0.heap.size ≤ gp) (hrm : rb ≠ m) :
    ∀ (i : Nat) (p : Rw × Value), rs[i]? = some p → wholeR p.1 = true → (M i).size ≤ 16384 → PC w0 b rb m pb gp rs M H i := by
  obtain ⟨rank, hr⟩ := ok_rank hf
  have key : ∀ (n i : Nat) (p : Rw × Value), rank i < n → rs[i]? = some p → wholeR p.1 = true → (M i).size ≤ 16384 → PC w0 b rb m pb gp rs M H i := by
    intro n
    induction n with
    | zero => intro i p hn; omega
    | succ n ih =>
      intro i p hn hp hw hg
      refine paint_step h0 hs hf hM hH hw0 hgp0 hrm hp hw hg (fun x hx hwx hgx => ?_)
      obtain ⟨⟨x0, xl⟩, hlt⟩ := hr i p.1 (rows_at hp) x hx
      obtain ⟨q, hq, hwq, _, _⟩ := whole_at hwx
      obtain ⟨k, hk⟩ : ∃ k : Nat, x = k := ⟨x.toNat, by omega⟩
      subst hk
      rw [Int.toNat_natCast] at hq hlt
      exact ih k q (by omega) hq hwq hgx
  exact fun i p hp hw hg => key (rank i + 1) i p (by omega) hp hw hg
end
end Go.Proofs.YtlcghlfmaohfeaaGreat
namespace Go.Proofs.YtlcghlfmaohfeaaGreat
open Go.RowKit Go.Maps
set_option linter.unusedVariables false
set_option maxRecDepth 100000
theorem infoBy : (Tryz.prog.info? TBy).map (fun i => (i.zero, i.size, i.bytes)) = some (some (.slice none 0 0), 1, 24) := by kernel_rfl
abbrev TBys : TypeId := 99
theorem make_pics (W : World) (n : Nat) (hn : n ≤ 512) : (Instr.makeSlice TBys (.int .i64 (n : Int)) (.int .i64 (n : Int))).run Tryz.prog W = .ok (.slice (some ⟨W.heap.size, 0, none⟩) n n) (W.alloc (.cells (madeCells (Value.slice none 0 0).cells n) TBy)) := by
  obtain ⟨i0, hi, hz0, hz1, hz2⟩ := info_parts infoBy
  have hr := run_makeSlice W TBys TBy i0 (.slice none 0 0) Tryz.underlying99 hi hz0 .i64 .i64 (n : Int) (n : Int) (by omega) (by omega) (by rw [hz1, Int.toNat_natCast]; omega) (by rw [hz2]; omega) (by omega)
  rw [hz1, Int.toNat_natCast, Nat.mul_one] at hr
  exact hr
theorem made_at (n i : Nat) (v : Value) (h : (madeCells (Value.slice none 0 0).cells n)[i]? = some v) : v = .slice none 0 0 := by
  simp only [madeCells, Array.getElem?_map, Array.getElem?_range] at h
  by_cases hk : i < n
  · simp [hk, Value.cells, Nat.mod_one] at h; exact h.symm
  · simp [hk] at h
section
variable {B : Nat} {w : World} {b mb : Nat} {v : Value} {rs : List (Rw × Value)} {ps : List (Value × Value)} {M : Int → Ex} {H : Int → Nat → Bool}
set_option maxHeartbeats 4000000 in
theorem gaps_err (h : Tab B w b mb v rs ps) (h0 : 0 < rs.length) (hs : Small rs) (hf : FromOK rs) (hM : IsMeas (rowsOf rs) M) (id : Int) (he : ¬ openE rs M id = 0) :
    Calls Tryz.prog 19 #[.pointer (some ⟨b, 0, none⟩), .int .i64 id] w fun e w' => e = .returned (.tuple #[.slice none 0 0, .int .i64 (openE rs M id)]) ∧ Below w.heap.size w w' := by
  have c := open_any h h0 hs hf hM id
  have hn : (openE rs M id != 0) = true := by simpa using he
  generalize openX rs M id = ex at *
  generalize openE rs M id = er at *
  clear h hs hf hM he
  go_enter Tryz.func19, Tryz.ntmps19
  go_wp2_with fail
  refine c.mono ?_
  rintro e w2 ⟨q, rfl, hb2⟩
  have HB : Hid (Below w.heap.size w (w2.alloc (.cells #[.int .i64 ex.size, .int .i64 ex.align] TX))) := hb2.trans ((below1 w2 _).mono hb2.size)
  clear c hb2
  go_wp2
  go_ret2
  exact ⟨rfl, HB.out⟩
set_option maxHeartbeats 8000000 in
theorem gaps_ok (h : Tab B w b mb v rs ps) (hs : Small rs) (hf : FromOK rs) (hM : IsMeas (rowsOf rs) M) (hH : IsHad (rowsOf rs) M H) {i : Nat} {p : Rw × Value} (hp : rs[i]? = some p) (hwh : wholeR p.1 = true) (hgt : (M i).size ≤ 16384) :
    Calls Tryz.prog 19 #[.pointer (some ⟨b, 0, none⟩), .int .i64 i] w fun e w' => ∃ s, e = .returned (.tuple #[s, .int .i64 0]) ∧ Below w.heap.size w w' ∧ w'.ownsRow w.heap.size TG 2 s (gapF (H i) (8 * (M i).size).toNat).l.length (gpCells (gapF (H i) (8 * (M i).size).toNat).l) := by
  have hlt : i < rs.length := (List.getElem?_eq_some_iff.1 hp).1
  have hl := h.len
  have c := open_ok h hs hf hM hp hwh hgt
  have HT : Hid (Tab B w b mb v rs ps) := h
  have HLN : Hid (∀ Y, Below w.heap.size w Y → Calls Tryz.prog 37 #[.pointer (some ⟨b, 0, none⟩)] Y fun e w' => e = .returned (.int .i64 rs.length) ∧ w' = Y) := fun Y hY => len_c (h.keptB hY) (by omega)
  have HPC : Hid (∀ rb m pb gp, w.heap.size ≤ m → w.heap.size ≤ gp → rb ≠ m → PC w b rb m pb gp rs M H i) := fun rb m pb gp h1 h2 h3 => paint_all h hs hf hM hH h1 h2 h3 i p hp hwh hgt
  have hE := meas_ok hf hM i p hp hwh
  have e1 := hE.lo
  clear h hs hf hM hH hp hwh
  have hbp : ∀ (x : Nat) (y : Nat) (Y : World), (Instr.build TPt #[(0, .pointer (some ⟨x, 0, none⟩)), (1, .slice (some ⟨y, 0, none⟩) rs.length rs.length)]).run Tryz.prog Y = .ok (.agg #[.pointer (some ⟨x, 0, none⟩), .slice (some ⟨y, 0, none⟩) rs.length rs.length]) Y := fun x y Y => by kernel_rfl
  obtain ⟨ex, hex⟩ : ∃ ex, ex = M i := ⟨_, rfl⟩
  have HEX : Hid (ex = M i) := hex
  rw [← hex] at c e1 hgt ⊢
  clear hex hE
  go_enter Tryz.func19, Tryz.ntmps19
  go_wp2_with fail
  refine c.mono ?_
  rintro e w2 ⟨rb, m, rfl, U2, hm0, hrm⟩
  have hold2 := heap_r0 w2 (.cells #[.int .i64 0, .int .i64 0] TX)
  have b3 := below1 w2 (.cells #[.int .i64 ex.size, .int .i64 ex.align] TX)
  have U3 : Hid (RU w b rb m rs M (w2.alloc (.cells #[.int .i64 ex.size, .int .i64 ex.align] TX))) := U2.kept b3
  clear c U2 b3
  go_wp2_with (first | ((with_reducible apply step_store hold2); rfl; rfl; kernel_rfl; rfl; kernel_rfl; rw [World.setRow_alloc_new]) | fail)
  refine (?_ : Calls _ _ _ (w2.alloc (.cells #[.int .i64 ex.size, .int .i64 ex.align] TX)) _)
  generalize w2.alloc (.cells #[.int .i64 ex.size, .int .i64 ex.align] TX) = W3 at *
  refine (HLN.out W3 U3.out.below).mono ?_
  rintro e w' ⟨rfl, hw⟩
  rw [hw]; clear hw w' hold2
  have hmk := make_pics W3 rs.length hl
  have hcur := made_at rs.length
  have hcs := size_madeCells (Value.slice none 0 0).cells rs.length
  generalize madeCells (Value.slice none 0 0).cells rs.length = cur at *
  have hold5 := heap_r0 (W3.alloc (.cells cur TBy)) (.cells #[.pointer none, .slice none 0 0] TPt)
  have b5 := two_boxes W3 cur #[.pointer (some ⟨rb, 0, none⟩), .slice (some ⟨W3.heap.size, 0, none⟩) rs.length rs.length] TBy TPt
  have g4 := heap_s1 W3 (.cells cur TBy) (.cells #[.pointer (some ⟨rb, 0, none⟩), .slice (some ⟨W3.heap.size, 0, none⟩) rs.length rs.length] TPt)
  have g5 := heap_s2 W3 (.cells cur TBy) (.cells #[.pointer (some ⟨rb, 0, none⟩), .slice (some ⟨W3.heap.size, 0, none⟩) rs.length rs.length] TPt)
  have HPA : Hid (PA w b rb m (W3.heap.size + 1) W3.heap.size rs M H (fun _ => False) ((W3.alloc (.cells cur TBy)).alloc (.cells #[.pointer (some ⟨rb, 0, none⟩), .slice (some ⟨W3.heap.size, 0, none⟩) rs.length rs.length] TPt))) := ⟨U3.out.kept b5, g5, cur, g4, hcs, fun k u hu => .inl (hcur k u hu)⟩
  have HZ : Hid (w.heap.size ≤ W3.heap.size) := U3.out.below.size
  have hsz : (W3.alloc (.cells cur TBy)).heap.size = W3.heap.size + 1 := by simp
  clear b5 g4 g5 hcur hcs
  go_wp2_with (first | ((with_reducible apply step_store hold5); rfl; rfl; kernel_rfl; rfl; kernel_rfl; rw [World.setRow_alloc_new]) | fail)
  refine (HPC.out rb m (W3.heap.size + 1) W3.heap.size hm0 HZ.out hrm (fun _ => False) _ HPA.out (fun _ h => h.elim)).mono ?_
  rintro e w6 ⟨g, cp, L, rfl, hcp, hB6, _, hP6, hPA6, ht6⟩
  have cG := gaps_c L g cp L.length w6 hB6 (by have := hP6.1; rw [← HEX.out] at this; omega)
  have HB6 : Hid (Below w.heap.size w w6) := hPA6.ru.below
  have HP6 : Hid (PicOf M H i L) := hP6
  clear hB6 hP6 hPA6 ht6 HPA hold5 hmk
  go_wp2_with fail
  refine cG.mono ?_
  rintro e w7 ⟨s, rfl, hb7, hown⟩
  have HB7 : Hid (Below w6.heap.size w6 w7) := hb7
  have HO : Hid (w7.ownsRow w6.heap.size TG 2 s (gapF (bitB L) (8 * L.length)).l.length (gpCells (gapF (bitB L) (8 * L.length)).l)) := hown
  clear cG hb7 hown
  go_wp2
  go_ret2
  have hlen : (8 * ex.size).toNat = 8 * L.length := by have := HP6.out.1; rw [← HEX.out] at this; omega
  have hcg := gapF_congr (f := bitB L) (g := H i) (8 * L.length) HP6.out.2
  refine ⟨s, rfl, HB6.out.trans (HB7.out.mono HB6.out.size), ?_⟩
  rw [hlen, ← hcg]
  exact ownsRow_base HO.out HB6.out.size
end
end Go.Proofs.YtlcghlfmaohfeaaGreat
namespace Go.Proofs.YtlcghlfmaohfeaaGreat
open Go.RowKit Go.Maps
set_option linter.unusedVariables false
set_option maxRecDepth 100000
def nilV : Value := .slice none 0 0
def memS : List Mb := [⟨⟨#[99]⟩, 2, -1⟩, ⟨⟨#[105]⟩, 7, -1⟩, ⟨⟨#[115]⟩, 5, -1⟩]
def memB : List Mb := [⟨⟨#[97]⟩, 7, 3⟩, ⟨⟨#[98]⟩, 7, 30⟩, ⟨⟨#[99]⟩, 2, -1⟩]
def rowsS : List (Rw × Value) := basicRows 11 ++ [(⟨15, 0, 0, ⟨#[83]⟩, [], false⟩, .slice none 0 0)]
def rowsS1 (s : Value) : List (Rw × Value) := rowsS.set 11 (⟨15, 0, 0, ⟨#[83]⟩, memS, true⟩, s)
def rowsB (s : Value) : List (Rw × Value) := rowsS1 s ++ [(⟨15, 0, 0, ⟨#[66]⟩, [], false⟩, .slice none 0 0)]
def rowsB1 (s s2 : Value) : List (Rw × Value) := (rowsB s).set 12 (⟨15, 0, 0, ⟨#[66]⟩, memB, true⟩, s2)
theorem refusS : refusP rowsS memS = 0 := by decide +kernel
theorem okS : FromOK rowsS := fromOK_new.more (enter_tag (.inr (.inl rfl)) (by decide) (by decide) _) _
theorem okS1 (s : Value) : FromOK (rowsS1 s) := FromOK.set (r := ⟨15, 0, 0, ⟨#[83]⟩, [], false⟩) (s0 := .slice none 0 0) okS rfl (by decide) rfl refusS s
theorem okB (s : Value) : FromOK (rowsB s) := (okS1 s).more (enter_tag (.inr (.inl rfl)) (by decide) (by show 11 ≤ 12; decide) _) _
theorem refusB (s : Value) : refusP (rowsB s) memB = 0 := by kernel_rfl
theorem okB1 (s s2 : Value) : FromOK (rowsB1 s s2) := FromOK.set (r := ⟨15, 0, 0, ⟨#[66]⟩, [], false⟩) (s0 := .slice none 0 0) (okB s) rfl (by decide) rfl (refusB s) s2
theorem smallS1 (s : Value) : Small (rowsS1 s) := by
  intro p hp
  have : ∀ n ∈ (rowsS1 s).map (fun p => p.1.mem.length), n ≤ 64 := by show ∀ n ∈ [0, 0, 0, 0, 0, 0, 0, 0, 0, 0, 0, 3], n ≤ 64; decide
  exact this _ (List.mem_map.2 ⟨p, hp, rfl⟩)
theorem smallB1 (s s2 : Value) : Small (rowsB1 s s2) := by
  intro p hp
  have : ∀ n ∈ (rowsB1 s s2).map (fun p => p.1.mem.length), n ≤ 64 := by show ∀ n ∈ [0, 0, 0, 0, 0, 0, 0, 0, 0, 0, 0, 3, 3], n ≤ 64; decide
  exact this _ (List.mem_map.2 ⟨p, hp, rfl⟩)
/-- Sizes as they are there. -/
def szN (x : Int) : Ex := if x = 2 then ⟨1, 1⟩ else if x = 5 then ⟨2, 2⟩ else ⟨4, 4⟩
theorem placesS_congr {un : Bool} {M N : Int → Ex} : ∀ (l : List Mb) (s : Ls) (i : Nat), (∀ m ∈ l, M m.type = N m.type) → placesS un M s i l = placesS un N s i l
  | [], _, _, _ => rfl
  | m :: l, s, i, h => by
    have e : stepP un M s m = stepP un N s m := by unfold stepP; rw [h m (by simp)]
    simp only [placesS, e, h m (by simp)]
    rw [placesS_congr l _ _ (fun x hx => h x (by simp [hx]))]
section
variable {rs : List (Rw × Value)} {M : Int → Ex} {H : Int → Nat → Bool}
theorem basic_sz (hM : IsMeas (rowsOf rs) M) (h : ∀ i : Nat, i < 11 → ∃ v, rs[i]? = some (⟨1 + (i : Int), 0, 0, ⟨#[]⟩, [], false⟩, v)) : M 2 = szN 2 ∧ M 5 = szN 5 ∧ M 7 = szN 7 := by
  obtain ⟨v2, h2⟩ := h 2 (by omega)
  obtain ⟨v5, h5⟩ := h 5 (by omega)
  obtain ⟨v7, h7⟩ := h 7 (by omega)
  exact ⟨meas_int hM h2 (.inl rfl), meas_int hM h5 (.inl rfl), meas_int hM h7 (.inl rfl)⟩
theorem basic_had (hH : IsHad (rowsOf rs) M H) (h : ∀ i : Nat, i < 11 → ∃ v, rs[i]? = some (⟨1 + (i : Int), 0, 0, ⟨#[]⟩, [], false⟩, v)) : (∀ k, H 2 k = true) ∧ (∀ k, H 5 k = true) ∧ (∀ k, H 7 k = true) := by
  obtain ⟨v2, h2⟩ := h 2 (by omega)
  obtain ⟨v5, h5⟩ := h 5 (by omega)
  obtain ⟨v7, h7⟩ := h 7 (by omega)
  exact ⟨fun k => (hH 2 _ (rows_at h2) k).trans rfl, fun k => (hH 5 _ (rows_at h5) k).trans rfl, fun k => (hH 7 _ (rows_at h7) k).trans rfl⟩
end
theorem baseS (s : Value) : ∀ i : Nat, i < 11 → ∃ v, (rowsS1 s)[i]? = some (⟨1 + (i : Int), 0, 0, ⟨#[]⟩, [], false⟩, v) := by
  intro i hi
  have : i = 0 ∨ i = 1 ∨ i = 2 ∨ i = 3 ∨ i = 4 ∨ i = 5 ∨ i = 6 ∨ i = 7 ∨ i = 8 ∨ i = 9 ∨ i = 10 := by omega
  rcases this with rfl | rfl | rfl | rfl | rfl | rfl | rfl | rfl | rfl | rfl | rfl <;> exact ⟨.slice none 0 0, rfl⟩
theorem baseB (s s2 : Value) : ∀ i : Nat, i < 11 → ∃ v, (rowsB1 s s2)[i]? = some (⟨1 + (i : Int), 0, 0, ⟨#[]⟩, [], false⟩, v) := by
  intro i hi
  have : i = 0 ∨ i = 1 ∨ i = 2 ∨ i = 3 ∨ i = 4 ∨ i = 5 ∨ i = 6 ∨ i = 7 ∨ i = 8 ∨ i = 9 ∨ i = 10 := by omega
  rcases this with rfl | rfl | rfl | rfl | rfl | rfl | rfl | rfl | rfl | rfl | rfl <;> exact ⟨.slice none 0 0, rfl⟩
def plS : List Pl := [⟨0, 2, 0, 0, 0⟩, ⟨1, 7, 4, 0, 0⟩, ⟨2, 5, 8, 0, 0⟩]
def plB : List Pl := [⟨0, 7, 0, 0, 3⟩, ⟨1, 7, 4, 0, 30⟩, ⟨2, 2, 8, 0, 0⟩]
theorem placesS_S {M : Int → Ex} (h : M 2 = szN 2 ∧ M 5 = szN 5 ∧ M 7 = szN 7) : placesS ((15 : Int) == 16) M ls0 0 memS = plS := by
  rw [placesS_congr (N := szN) memS ls0 0 (by intro m hm; simp [memS] at hm; rcases hm with rfl | rfl | rfl; exact h.1; exact h.2.2; exact h.2.1)]
  kernel_rfl
theorem placesS_B {M : Int → Ex} (h : M 2 = szN 2 ∧ M 5 = szN 5 ∧ M 7 = szN 7) : placesS ((15 : Int) == 16) M ls0 0 memB = plB := by
  rw [placesS_congr (N := szN) memB ls0 0 (by intro m hm; simp [memB] at hm; rcases hm with rfl | rfl | rfl; exact h.2.2; exact h.2.2; exact h.1)]
  kernel_rfl
theorem clampS : clampE (endP (layS ((15 : Int) == 16) szN ls0 memS)) = ⟨12, 4⟩ := by kernel_rfl
theorem clampB : clampE (endP (layS ((15 : Int) == 16) szN ls0 memB)) = ⟨12, 4⟩ := by kernel_rfl
theorem measS {s : Value} {M : Int → Ex} (hM : IsMeas (rowsOf (rowsS1 s)) M) : M 11 = ⟨12, 4⟩ := by
  have h := basic_sz hM (baseS s)
  rw [show M 11 = clampE (roomP M ⟨15, 0, 0, ⟨#[83]⟩, memS, true⟩) from hM 11 _ rfl]
  have e : roomP M ⟨15, 0, 0, ⟨#[83]⟩, memS, true⟩ = endP (layS ((15 : Int) == 16) M ls0 memS) := rfl
  rw [e, layS_congr (N := szN) memS ls0 (by intro m hm; simp [memS] at hm; rcases hm with rfl | rfl | rfl; exact h.1; exact h.2.2; exact h.2.1)]
  exact clampS
theorem measB {s s2 : Value} {M : Int → Ex} (hM : IsMeas (rowsOf (rowsB1 s s2)) M) : M 12 = ⟨12, 4⟩ := by
  have h := basic_sz hM (baseB s s2)
  rw [show M 12 = clampE (roomP M ⟨15, 0, 0, ⟨#[66]⟩, memB, true⟩) from hM 12 _ rfl]
  have e : roomP M ⟨15, 0, 0, ⟨#[66]⟩, memB, true⟩ = endP (layS ((15 : Int) == 16) M ls0 memB) := rfl
  rw [e, layS_congr (N := szN) memB ls0 (by intro m hm; simp [memB] at hm; rcases hm with rfl | rfl | rfl; exact h.2.2; exact h.2.2; exact h.1)]
  exact clampB
theorem hits_plain {M : Int → Ex} {H : Int → Nat → Bool} {mem : List Mb} {P : Pl} {k : Nat} {x : Mb} (hx : mem[P.mem.toNat]? = some x) (hn : (x.name.toList == []) = false) (hb : P.bits = 0) : hitsP M H mem P k = (decide (8 * P.off ≤ k) && decide ((k : Int) < 8 * (P.off + (M P.type).size)) && H P.type (k - (8 * P.off).toNat)) := by
  unfold hitsP
  rw [hx, hb, if_neg (by decide)]
  simp only [hn, Bool.not_false, Bool.true_and]
def hadS (k : Nat) : Bool := decide (k < 8) || (decide (32 ≤ k) && decide (k < 64)) || (decide (64 ≤ k) && decide (k < 80))
theorem gapsS {s : Value} {M : Int → Ex} {H : Int → Nat → Bool} (hM : IsMeas (rowsOf (rowsS1 s)) M) (hH : IsHad (rowsOf (rowsS1 s)) M H) : (gapF (H 11) 96).l = [⟨8, 24⟩, ⟨80, 16⟩] := by
  have h := basic_sz hM (baseS s)
  obtain ⟨a2, a5, a7⟩ := basic_had hH (baseS s)
  rw [gapF_congr (g := hadS) 96 (fun k _ => by
    rw [show H 11 k = hadR M H ⟨15, 0, 0, ⟨#[83]⟩, memS, true⟩ k from hH 11 _ rfl k]
    have e : hadR M H ⟨15, 0, 0, ⟨#[83]⟩, memS, true⟩ k = (placesS ((15 : Int) == 16) M ls0 0 memS).any (fun P => hitsP M H memS P k) := rfl
    rw [e, placesS_S h]
    have e0 : hitsP M H memS ⟨0, 2, 0, 0, 0⟩ k = decide (k < 8) := by
      rw [hits_plain (x := ⟨⟨#[99]⟩, 2, -1⟩) rfl (by decide +kernel) rfl]
      simp only [a2, h.1]
      rw [Bool.eq_iff_iff]; simp [szN]; omega
    have e1 : hitsP M H memS ⟨1, 7, 4, 0, 0⟩ k = (decide (32 ≤ k) && decide (k < 64)) := by
      rw [hits_plain (x := ⟨⟨#[105]⟩, 7, -1⟩) rfl (by decide +kernel) rfl]
      simp only [a7, h.2.2]
      rw [Bool.eq_iff_iff]; simp [szN]; omega
    have e2 : hitsP M H memS ⟨2, 5, 8, 0, 0⟩ k = (decide (64 ≤ k) && decide (k < 80)) := by
      rw [hits_plain (x := ⟨⟨#[115]⟩, 5, -1⟩) rfl (by decide +kernel) rfl]
      simp only [a5, h.2.1]
      rw [Bool.eq_iff_iff]; simp [szN]; omega
    simp only [plS, List.any_cons, List.any_nil, Bool.or_false, e0, e1, e2]
    unfold hadS
    rw [Bool.or_assoc])]
  decide +kernel
theorem foundSs {M : Int → Ex} (h : M 2 = szN 2 ∧ M 5 = szN 5 ∧ M 7 = szN 7) : foundS memS ⟨#[115]⟩ (pl0, false) (placesS ((15 : Int) == 16) M ls0 0 memS) = (⟨2, 5, 8, 0, 0⟩, true) := by rw [placesS_S h]; kernel_rfl
theorem foundBb {M : Int → Ex} (h : M 2 = szN 2 ∧ M 5 = szN 5 ∧ M 7 = szN 7) : foundS memB ⟨#[98]⟩ (pl0, false) (placesS ((15 : Int) == 16) M ls0 0 memB) = (⟨1, 7, 4, 0, 30⟩, true) := by rw [placesS_B h]; kernel_rfl
theorem foundBc {M : Int → Ex} (h : M 2 = szN 2 ∧ M 5 = szN 5 ∧ M 7 = szN 7) : foundS memB ⟨#[99]⟩ (pl0, false) (placesS ((15 : Int) == 16) M ls0 0 memB) = (⟨2, 2, 8, 0, 0⟩, true) := by rw [placesS_B h]; kernel_rfl
end Go.Proofs.YtlcghlfmaohfeaaGreat
namespace Go.Proofs.YtlcghlfmaohfeaaGreat
open Go.RowKit Go.Maps
set_option linter.unusedVariables false
set_option maxRecDepth 100000
section
variable {B : Nat} {w : World} {b mb : Nat} {v : Value} {rs : List (Rw × Value)} {ps : List (Value × Value)}
theorem struct_t (h : Tab B w b mb v rs ps) (s : ByteArray) (h0 : 0 < rs.length) (hs : s.size ≤ 9223372036854775807) (ht : tagP s.data.toList = true) (hl : rs.length < 512) {n : Int} (hn : (rs.length : Int) = n) :
    Calls Tryz.prog 26 #[.pointer (some ⟨b, 0, none⟩), .string s] w fun e w' => e = .returned (.tuple #[.int .i64 n, .int .i64 0]) ∧ ∃ v', Tab B w' b mb v' (rs ++ [(⟨15, 0, 0, s, [], false⟩, .slice none 0 0)]) ps ∧ Turned w w' (own b mb v) := by
  subst hn
  refine struct_of (R := fun _ w' => ∃ v', Tab B w' b mb v' (rs ++ [(⟨15, 0, 0, s, [], false⟩, .slice none 0 0)]) ps ∧ Turned w w' (own b mb v)) (tagged_of (R := fun _ w' => ∃ v', Tab B w' b mb v' (rs ++ [(⟨15, 0, 0, s, [], false⟩, .slice none 0 0)]) ps ∧ Turned w w' (own b mb v)) h h0 15 s hs ht ((add_c h ⟨15, 0, 0, s, [], false⟩ (.slice none 0 0) (World.ownsRow_nil _ _ _ _) hl).mono ?_))
  rintro e w' ⟨rfl, v', h1, h2, _⟩
  exact ⟨rfl, v', h1, h2⟩
theorem memSl_at (w : World) (l : List Mb) : MemSl (w.alloc (.cells (memCells l).toArray TM)) (.slice (some ⟨w.heap.size, 0, none⟩) l.length l.length) l := by
  refine Or.inr ⟨w.heap.size, 0, l.length, rfl, Nat.le_refl _, by simp, fun i m hm j hj => ?_⟩
  rw [Lib.cell_of_heap (heap_r0 w _)]
  have := memCells_at l i m hm j hj
  simpa using this
/-- A block of another tag is none of a table's. -/
theorem not_own (h : Tab B w b mb v rs ps) {g : Nat} {c : Array Value} {t : TypeId} (hg : w.heap[g]? = some (.cells c t (0, 0))) (h1 : t ≠ 111) (h2 : t ≠ TR) : ¬ own b mb v g := by
  rintro (rfl | rfl | e)
  · exact tag_ne hg h.tab h1 rfl
  · obtain ⟨es, ck, q, _⟩ := h.map
    rw [q] at hg; cases hg
  · obtain ⟨_, cur, hc⟩ := ownsRow_at h.rows e
    exact tag_ne hg hc h2 rfl
theorem own_blk {w : World} {base : Nat} {e : TypeId} {size n : Nat} {xs : List Value} {v : Value} (h : w.ownsRow base e size v n xs) (hn : 0 < n) : ∃ (g cap : Nat) (cur : Array Value), v = .slice (some ⟨g, 0, none⟩) n cap ∧ base ≤ g ∧ n ≤ cap ∧ w.heap[g]? = some (.cells cur e (0, 0)) ∧ ∀ (j : Nat) (u : Value), xs[j]? = some u → cur[j]? = some u := by
  obtain ⟨h1, ⟨_, h2⟩ | ⟨g', cap', cur, rfl, hb, hg, h3, h4, h5, h6⟩⟩ := h
  · omega
  · refine ⟨g', cap', cur, rfl, hb, h3, hg, fun j u hu => ?_⟩
    rw [← Array.getElem?_toList]
    have hj : j < xs.length := (List.getElem?_eq_some_iff.1 hu).1
    rw [← h6, List.getElem?_take] at hu
    split at hu
    · exact hu
    · rename_i hx; rw [h1] at hj; exact absurd hj hx
end
set_option maxHeartbeats 8000000 in
theorem heads_c (w : World) : Calls Tryz.prog 6 #[] w fun e w' => e = .returned (.bool true) ∧ Below w.heap.size w w' := by
  go_enter Tryz.func6, Tryz.ntmps6
  go_wp2_with fail
  refine (new_c w).mono ?_
  rintro e w1 ⟨b, mb, v, rfl, h1, hb1⟩
  have c2 := struct_t h1 ⟨#[83]⟩ (by decide) (by decide) (by decide) (by decide) (n := 11) rfl
  have HB1 : Hid (Below w.heap.size w w1) := hb1
  go_wp2_with fail
  refine c2.mono ?_
  rintro e w2 ⟨rfl, v2, h2, ht2⟩
  have HB2 : Hid (Below w.heap.size w w2) := HB1.out.trans (h1.below ht2)
  clear c2 h1 hb1 HB1 ht2
  have h2' : Tab w.heap.size w2 b mb v2 rowsS [] := h2
  have c3 : Calls Tryz.prog 27 #[.pointer (some ⟨b, 0, none⟩), .int .i64 11, .slice (some ⟨w2.heap.size, 0, none⟩) 3 3] (w2.alloc (.cells #[.string ⟨#[99]⟩, .int .i64 2, .int .i64 (-1), .string ⟨#[105]⟩, .int .i64 7, .int .i64 (-1), .string ⟨#[115]⟩, .int .i64 5, .int .i64 (-1)] TM)) fun e w' => e = .returned (.int .i64 0) ∧ (∃ s, Tab w.heap.size w' b mb v2 (rowsS1 s) []) ∧ Below w.heap.size w w' := by
    have q := complete_c (h2'.alloc (.cells (memCells memS).toArray TM)) (by decide) (memSl_at w2 memS) (by intro m hm; simp [memS] at hm; rcases hm with rfl | rfl | rfl <;> decide) (by decide) (i := 11) (r := ⟨15, 0, 0, ⟨#[83]⟩, [], false⟩) (s0 := .slice none 0 0) rfl (by decide) rfl refusS
    refine q.mono ?_
    rintro e w' ⟨rfl, s, hs, ht⟩
    exact ⟨rfl, ⟨s, hs⟩, (HB2.out.alloc HB2.out.size _).trans ((h2'.alloc _).below ht)⟩
  clear h2
  go_wp2_with fail
  refine c3.mono ?_
  rintro e w3 ⟨rfl, ⟨s, h3⟩, hb3⟩
  have HB3 : Hid (Below w.heap.size w w3) := hb3
  clear c3 h2' HB2 hb3
  obtain ⟨M, hM⟩ := meas_exists (okS1 s)
  obtain ⟨H, hH⟩ := had_exists (M := M) (okS1 s)
  have hM11 := measS hM
  have hz := basic_sz hM (baseS s)
  have hgt : (M 11).size ≤ 16384 := by rw [hM11]; decide
  have eX : openX (rowsS1 s) M 11 = ⟨12, 4⟩ ∧ openE (rowsS1 s) M 11 = 0 := by
    have := openE_ok (rs := rowsS1 s) (M := M) (id := 11) rfl rfl hgt
    exact ⟨this.2.trans hM11, this.1⟩
  have c4 := size_c h3 (by show 0 < 12; decide) (smallS1 s) (okS1 s) hM 11
  rw [eX.1, eX.2] at c4
  have HT3 : Hid (Tab w.heap.size w3 b mb v2 (rowsS1 s) []) := h3
  clear h3
  go_wp2_with fail
  refine c4.mono ?_
  rintro e w4 ⟨rfl, hb4⟩
  have HT4 : Hid (Tab w.heap.size w4 b mb v2 (rowsS1 s) []) := HT3.out.keptB hb4
  have HB4 : Hid (Below w.heap.size w w4) := HB3.out.trans (hb4.mono HB3.out.size)
  have c5 := align_c HT4.out (by show 0 < 12; decide) (smallS1 s) (okS1 s) hM 11
  rw [eX.1, eX.2] at c5
  clear c4 hb4 HT3 HB3
  go_wp2_with fail
  refine c5.mono ?_
  rintro e w5 ⟨rfl, hb5⟩
  have HT5 : Hid (Tab w.heap.size w5 b mb v2 (rowsS1 s) []) := HT4.out.keptB hb5
  have HB5 : Hid (Below w.heap.size w w5) := HB4.out.trans (hb5.mono HB4.out.size)
  have c6 : Calls Tryz.prog 11 #[.pointer (some ⟨b, 0, none⟩), .int .i64 11] w5 fun e w' => ∃ (gl cl : Nat) (cur : Array Value), e = .returned (.tuple #[.slice (some ⟨gl, 0, none⟩) 3 cl, .int .i64 0]) ∧ 3 ≤ cl ∧ w'.heap[gl]? = some (.cells cur TPl (0, 0)) ∧ cur[7]? = some (.int .i64 4) ∧ Below w5.heap.size w5 w' := by
    have q := places_ok HT5.out (smallS1 s) (okS1 s) hM (i := 11) (p := (⟨15, 0, 0, ⟨#[83]⟩, memS, true⟩, s)) rfl rfl hgt (show recK 15 = true by decide)
    simp only at q
    rw [placesS_S hz] at q
    refine q.mono ?_
    rintro e w' ⟨sl, rfl, ho, hb⟩
    obtain ⟨g, cap, cur, rfl, _, hcap, hg, hc⟩ := own_blk ho (by decide)
    exact ⟨g, cap, cur, rfl, hcap, hg, hc 7 (.int .i64 4) rfl, hb⟩
  clear c5 hb5 HT4 HB4
  go_wp2_with fail
  refine c6.mono ?_
  rintro e w6 ⟨gl, cl, curl, rfl, hcl, hgl, hl7, hb6⟩
  have HL6 : Hid (w6.heap[gl]? = some (.cells curl TPl (0, 0))) := hgl
  have HL7 : Hid (curl[7]? = some (.int .i64 4)) := hl7
  have HT6 : Hid (Tab w.heap.size w6 b mb v2 (rowsS1 s) []) := HT5.out.keptB hb6
  have HB6 : Hid (Below w.heap.size w w6) := HB5.out.trans (hb6.mono HB5.out.size)
  have c7 : Calls Tryz.prog 19 #[.pointer (some ⟨b, 0, none⟩), .int .i64 11] w6 fun e w' => ∃ (gq cq : Nat) (cur : Array Value), e = .returned (.tuple #[.slice (some ⟨gq, 0, none⟩) 2 cq, .int .i64 0]) ∧ 2 ≤ cq ∧ w'.heap[gq]? = some (.cells cur TG (0, 0)) ∧ (cur[0]? = some (.int .i64 8) ∧ cur[1]? = some (.int .i64 24) ∧ cur[2]? = some (.int .i64 80) ∧ cur[3]? = some (.int .i64 16)) ∧ Below w6.heap.size w6 w' := by
    have q := gaps_ok HT6.out (smallS1 s) (okS1 s) hM hH (i := 11) (p := (⟨15, 0, 0, ⟨#[83]⟩, memS, true⟩, s)) rfl rfl hgt
    have e96 : (8 * (M ((11 : Nat) : Int)).size).toNat = 96 := by rw [show M ((11 : Nat) : Int) = M 11 from rfl, hM11]; decide
    rw [e96, show H ((11 : Nat) : Int) = H 11 from rfl, gapsS hM hH] at q
    refine q.mono ?_
    rintro e w' ⟨sl, rfl, hb, ho⟩
    obtain ⟨g, cap, cur, rfl, _, hcap, hg, hc⟩ := own_blk ho (by decide)
    exact ⟨g, cap, cur, rfl, hcap, hg, ⟨hc 0 _ rfl, hc 1 _ rfl, hc 2 _ rfl, hc 3 _ rfl⟩, hb⟩
  clear c6 hgl hl7 hb6 HT5 HB5
  go_wp2_with fail
  refine c7.mono ?_
  rintro e w7 ⟨gq, cq, curq, rfl, hcq, hgq, hq0, hb7⟩
  have HL7b : Hid (w7.heap[gl]? = some (.cells curl TPl (0, 0))) := blk_b HL6.out hb7
  have HQ7 : Hid (w7.heap[gq]? = some (.cells curq TG (0, 0))) := hgq
  have HQ : Hid (curq[0]? = some (.int .i64 8) ∧ curq[1]? = some (.int .i64 24) ∧ curq[2]? = some (.int .i64 80) ∧ curq[3]? = some (.int .i64 16)) := hq0
  have HT7 : Hid (Tab w.heap.size w7 b mb v2 (rowsS1 s) []) := HT6.out.keptB hb7
  have HB7 : Hid (Below w.heap.size w w7) := HB6.out.trans (hb7.mono HB6.out.size)
  have c8 := find_ok HT7.out (smallS1 s) (okS1 s) hM (i := 11) (p := (⟨15, 0, 0, ⟨#[83]⟩, memS, true⟩, s)) rfl rfl hgt (show recK 15 = true by decide) ⟨#[115]⟩
  simp only at c8
  rw [foundSs hz] at c8
  clear c7 hgq hq0 hb7 HL6 HT6 HB6
  go_wp2_with fail
  refine c8.mono ?_
  rintro e w8 ⟨rfl, hb8⟩
  have hold8 := heap_r0 w8 (.cells #[.int .i64 0, .int .i64 0, .int .i64 0, .int .i64 0, .int .i64 0] TPl)
  have b9 := below1 w8 (.cells #[.int .i64 2, .int .i64 5, .int .i64 8, .int .i64 0, .int .i64 0] TPl)
  have HP9 : Hid (_ = _) := heap_r0 w8 (.cells #[.int .i64 2, .int .i64 5, .int .i64 8, .int .i64 0, .int .i64 0] TPl)
  have HL9 : Hid (_ = _) := blk_b (blk_b HL7b.out hb8) b9
  have HQ9 : Hid (_ = _) := blk_b (blk_b HQ7.out hb8) b9
  have HT9 : Hid (Tab w.heap.size (w8.alloc (.cells #[.int .i64 2, .int .i64 5, .int .i64 8, .int .i64 0, .int .i64 0] TPl)) b mb v2 (rowsS1 s) []) := (HT7.out.keptB hb8).keptB b9
  have HB9 : Hid (Below w.heap.size w (w8.alloc (.cells #[.int .i64 2, .int .i64 5, .int .i64 8, .int .i64 0, .int .i64 0] TPl))) := (HB7.out.trans (hb8.mono HB7.out.size)).trans (b9.mono (Nat.le_trans HB7.out.size hb8.size))
  clear c8 hb8 b9 HL7b HQ7 HT7 HB7 hM hH hM11 hz hgt eX
  go_wp2_with (first | ((with_reducible apply step_store hold8); rfl; rfl; kernel_rfl; rfl; kernel_rfl; rw [World.setRow_alloc_new]) | fail)
  refine (?_ : Calls _ _ _ (w8.alloc (.cells #[.int .i64 2, .int .i64 5, .int .i64 8, .int .i64 0, .int .i64 0] TPl)) _)
  generalize hgp : w8.heap.size = gp at *
  generalize w8.alloc (.cells #[.int .i64 2, .int .i64 5, .int .i64 8, .int .i64 0, .int .i64 0] TPl) = W9 at *
  have c10 := struct_t HT9.out ⟨#[66]⟩ (by show 0 < 12; decide) (by decide) (by decide) (by show 12 < 512; decide) (n := 12) rfl
  refine c10.mono ?_
  rintro e w10 ⟨rfl, v3, h10, ht10⟩
  have h10' : Tab w.heap.size w10 b mb v3 (rowsB s) [] := h10
  have HL10 : Hid (_ = _) := blk_t HL9.out ht10 (not_own HT9.out HL9.out (by decide) (by decide))
  have HQ10 : Hid (_ = _) := blk_t HQ9.out ht10 (not_own HT9.out HQ9.out (by decide) (by decide))
  have HP10 : Hid (_ = _) := blk_t HP9.out ht10 (not_own HT9.out HP9.out (by decide) (by decide))
  have HB10 : Hid (Below w.heap.size w w10) := HB9.out.trans (HT9.out.below ht10)
  have c11 : Calls Tryz.prog 27 #[.pointer (some ⟨b, 0, none⟩), .int .i64 12, .slice (some ⟨w10.heap.size, 0, none⟩) 3 3] (w10.alloc (.cells #[.string ⟨#[97]⟩, .int .i64 7, .int .i64 3, .string ⟨#[98]⟩, .int .i64 7, .int .i64 30, .string ⟨#[99]⟩, .int .i64 2, .int .i64 (-1)] TM)) fun e w' => e = .returned (.int .i64 0) ∧ (∃ s2, Tab w.heap.size w' b mb v3 (rowsB1 s s2) []) ∧ Below w.heap.size w w' ∧ ∀ (g : Nat) (c : Array Value) (t : TypeId), w10.heap[g]? = some (.cells c t (0, 0)) → t ≠ 111 → t ≠ TR → w'.heap[g]? = some (.cells c t (0, 0)) := by
    have hT := h10'.alloc (.cells (memCells memB).toArray TM)
    have q := complete_c hT (by show 0 < 13; decide) (memSl_at w10 memB) (by intro m hm; simp [memB] at hm; rcases hm with rfl | rfl | rfl <;> decide) (by decide) (i := 12) (r := ⟨15, 0, 0, ⟨#[66]⟩, [], false⟩) (s0 := .slice none 0 0) rfl (by decide) rfl (refusB s)
    refine q.mono ?_
    rintro e w' ⟨rfl, s2, hs, ht⟩
    refine ⟨rfl, ⟨s2, hs⟩, (HB10.out.alloc HB10.out.size _).trans (hT.below ht), fun g c t hg n1 n2 => ?_⟩
    have hg' := blk_b hg (below1 w10 (.cells (memCells memB).toArray TM))
    exact blk_t hg' ht (not_own hT hg' n1 n2)
  clear c10 h10 ht10 HL9 HQ9 HP9 HT9 HB9 hold8
  go_wp2_with fail
  refine c11.mono ?_
  rintro e w11 ⟨rfl, ⟨s2, h11⟩, hb11, hk11⟩
  have HL11 : Hid (_ = _) := hk11 _ _ _ HL10.out (by decide) (by decide)
  have HQ11 : Hid (_ = _) := hk11 _ _ _ HQ10.out (by decide) (by decide)
  have HP11 : Hid (_ = _) := hk11 _ _ _ HP10.out (by decide) (by decide)
  have HT11 : Hid (Tab w.heap.size w11 b mb v3 (rowsB1 s s2) []) := h11
  have HB11 : Hid (Below w.heap.size w w11) := hb11
  clear c11 h11 hb11 hk11 HL10 HQ10 HP10 HB10 h10'
  obtain ⟨M, hM⟩ := meas_exists (okB1 s s2)
  have hM12 := measB hM
  have hz := basic_sz hM (baseB s s2)
  have hgt : (M 12).size ≤ 16384 := by rw [hM12]; decide
  have c12 := find_ok HT11.out (smallB1 s s2) (okB1 s s2) hM (i := 12) (p := (⟨15, 0, 0, ⟨#[66]⟩, memB, true⟩, s2)) rfl rfl hgt (show recK 15 = true by decide) ⟨#[98]⟩
  simp only at c12
  rw [foundBb hz] at c12
  go_wp2_with fail
  refine c12.mono ?_
  rintro e w12 ⟨rfl, hb12⟩
  have hold12 := heap_r0 w12 (.cells #[.int .i64 0, .int .i64 0, .int .i64 0, .int .i64 0, .int .i64 0] TPl)
  have b13 := below1 w12 (.cells #[.int .i64 1, .int .i64 7, .int .i64 4, .int .i64 0, .int .i64 30] TPl)
  have HR13 : Hid (_ = _) := heap_r0 w12 (.cells #[.int .i64 1, .int .i64 7, .int .i64 4, .int .i64 0, .int .i64 30] TPl)
  have HL13 : Hid (_ = _) := blk_b (blk_b HL11.out hb12) b13
  have HQ13 : Hid (_ = _) := blk_b (blk_b HQ11.out hb12) b13
  have HP13 : Hid (_ = _) := blk_b (blk_b HP11.out hb12) b13
  have HT13 : Hid (Tab w.heap.size (w12.alloc (.cells #[.int .i64 1, .int .i64 7, .int .i64 4, .int .i64 0, .int .i64 30] TPl)) b mb v3 (rowsB1 s s2) []) := (HT11.out.keptB hb12).keptB b13
  have HB13 : Hid (Below w.heap.size w (w12.alloc (.cells #[.int .i64 1, .int .i64 7, .int .i64 4, .int .i64 0, .int .i64 30] TPl))) := (HB11.out.trans (hb12.mono HB11.out.size)).trans (b13.mono (Nat.le_trans HB11.out.size hb12.size))
  clear c12 hb12 b13 HL11 HQ11 HP11 HT11 HB11
  go_wp2_with (first | ((with_reducible apply step_store hold12); rfl; rfl; kernel_rfl; rfl; kernel_rfl; rw [World.setRow_alloc_new]) | fail)
  refine (?_ : Calls _ _ _ (w12.alloc (.cells #[.int .i64 1, .int .i64 7, .int .i64 4, .int .i64 0, .int .i64 30] TPl)) _)
  generalize hgr : w12.heap.size = gr at *
  generalize w12.alloc (.cells #[.int .i64 1, .int .i64 7, .int .i64 4, .int .i64 0, .int .i64 30] TPl) = W13 at *
  have c14 := find_ok HT13.out (smallB1 s s2) (okB1 s s2) hM (i := 12) (p := (⟨15, 0, 0, ⟨#[66]⟩, memB, true⟩, s2)) rfl rfl hgt (show recK 15 = true by decide) ⟨#[99]⟩
  simp only at c14
  rw [foundBc hz] at c14
  refine c14.mono ?_
  rintro e w14 ⟨rfl, hb14⟩
  have hold14 := heap_r0 w14 (.cells #[.int .i64 0, .int .i64 0, .int .i64 0, .int .i64 0, .int .i64 0] TPl)
  have b15 := below1 w14 (.cells #[.int .i64 2, .int .i64 2, .int .i64 8, .int .i64 0, .int .i64 0] TPl)
  have HS15 : Hid (_ = _) := heap_r0 w14 (.cells #[.int .i64 2, .int .i64 2, .int .i64 8, .int .i64 0, .int .i64 0] TPl)
  have HL15 : Hid (_ = _) := blk_b (blk_b HL13.out hb14) b15
  have HQ15 : Hid (_ = _) := blk_b (blk_b HQ13.out hb14) b15
  have HP15 : Hid (_ = _) := blk_b (blk_b HP13.out hb14) b15
  have HR15 : Hid (_ = _) := blk_b (blk_b HR13.out hb14) b15
  have HT15 : Hid (Tab w.heap.size (w14.alloc (.cells #[.int .i64 2, .int .i64 2, .int .i64 8, .int .i64 0, .int .i64 0] TPl)) b mb v3 (rowsB1 s s2) []) := (HT13.out.keptB hb14).keptB b15
  have HB15 : Hid (Below w.heap.size w (w14.alloc (.cells #[.int .i64 2, .int .i64 2, .int .i64 8, .int .i64 0, .int .i64 0] TPl))) := (HB13.out.trans (hb14.mono HB13.out.size)).trans (b15.mono (Nat.le_trans HB13.out.size hb14.size))
  clear c14 hb14 b15 HL13 HQ13 HP13 HR13 HT13 HB13 hold12
  go_wp2_with (first | ((with_reducible apply step_store hold14); rfl; rfl; kernel_rfl; rfl; kernel_rfl; rw [World.setRow_alloc_new]) | fail)
  refine (?_ : Calls _ _ _ (w14.alloc (.cells #[.int .i64 2, .int .i64 2, .int .i64 8, .int .i64 0, .int .i64 0] TPl)) _)
  generalize hgs : w14.heap.size = gs at *
  generalize w14.alloc (.cells #[.int .i64 2, .int .i64 2, .int .i64 8, .int .i64 0, .int .i64 0] TPl) = W15 at *
  have c16 := size_c HT15.out (by show 0 < 13; decide) (smallB1 s s2) (okB1 s s2) hM 0
  have e0 := openE_inc (rs := rowsB1 s s2) (M := M) (id := 0) rfl rfl
  rw [e0.1, e0.2] at c16
  refine c16.mono ?_
  rintro e w16 ⟨rfl, hb16⟩
  have l7 := (Lib.cell_of_heap (blk_b HL15.out hb16) 7).trans HL7.out
  have q0 := (Lib.cell_of_heap (blk_b HQ15.out hb16) 0).trans HQ.out.1
  have q1 := (Lib.cell_of_heap (blk_b HQ15.out hb16) 1).trans HQ.out.2.1
  have q2 := (Lib.cell_of_heap (blk_b HQ15.out hb16) 2).trans HQ.out.2.2.1
  have q3 := (Lib.cell_of_heap (blk_b HQ15.out hb16) 3).trans HQ.out.2.2.2
  have p2 := Lib.cell_of_heap (blk_b HP15.out hb16) 2
  have r2 := Lib.cell_of_heap (blk_b HR15.out hb16) 2
  have r4 := Lib.cell_of_heap (blk_b HR15.out hb16) 4
  have s2' := Lib.cell_of_heap (blk_b HS15.out hb16) 2
  simp only [List.getElem?_toArray, List.getElem?_cons_zero, List.getElem?_cons_succ] at p2 r2 r4 s2'
  have HB16 : Hid (Below w.heap.size w w16) := HB15.out.trans (hb16.mono HB15.out.size)
  clear c16 hb16 HL15 HQ15 HP15 HR15 HS15 HT15 HB15 e0 hM hM12 hz hgt hold14 HL7 HQ
  have hbg : ∀ (x y : Int) (Y : World), (Instr.build TG #[(0, .int .i64 x), (1, .int .i64 y)]).run Tryz.prog Y = .ok (.agg #[.int .i64 x, .int .i64 y]) Y := fun x y Y => by kernel_rfl
  go_wp2
  go_ret
  exact ⟨rfl, HB16.out⟩
end Go.Proofs.YtlcghlfmaohfeaaGreat
namespace Go.Proofs.YtlcghlfmaohfeaaGreat
open Go.RowKit Go.Maps
set_option linter.unusedVariables false
set_option maxRecDepth 100000
theorem NoT.below {v : Value} {w w' : World} (h : NoT v w) (hb : Below w.heap.size w w') : NoT v w' := by
  rcases h with h | ⟨b, h1, h2⟩
  · exact .inl h
  · exact .inr ⟨b, h1, (hb.cell (p := ⟨b, 0, none⟩) (World.block_lt_of_cell? w _ h2)).trans h2⟩
set_option maxHeartbeats 4000000 in
theorem open_no {v : Value} {w : World} (h : NoT v w) (id : Int) :
    Calls Tryz.prog 28 #[v, .int .i64 id] w fun e w' => e = .returned (.tuple #[.pointer none, .agg #[.int .i64 0, .int .i64 0], .int .i64 1]) ∧ Below w.heap.size w w' := by
  have hbz : ∀ Y : World, (Instr.build TX #[]).run Tryz.prog Y = .ok (.agg #[.int .i64 0, .int .i64 0]) Y := fun Y => by kernel_rfl
  have hB0 := below1 w (.cells #[.int .i64 0, .int .i64 0] TX)
  have E0 : Hid (_ = _) := heap_r0 w (.cells #[.int .i64 0, .int .i64 0] TX)
  have c1 := len_no (h.below hB0)
  have HB0 : Hid (Below _ _ _) := hB0
  clear hB0
  go_enter Tryz.func28, Tryz.ntmps28
  go_wp2_with fail
  generalize w.alloc (.cells #[.int .i64 0, .int .i64 0] TX) = W0 at *
  refine c1.mono ?_
  rintro e w' ⟨rfl, hw⟩
  rw [hw]
  clear hw w' c1
  go_wp2_with ((with_reducible apply step_store E0.out); rfl; rfl; kernel_rfl; rfl; kernel_rfl)
  refine (?_ : bodyPost _ _ _ _ _ _)
  refine ret_x3 (s := 4) (p := 5) (q := 6) (cs := #[.int .i64 0, .int .i64 0]) rfl rfl (setRow_heap _ _ _ _ _ _ E0.out) rfl ?_
  exact ⟨rfl, below_setRow HB0.out (Nat.le_refl _) _⟩
theorem results_c2 {fn : Func} {p u : Tmp} {ty : TypeId} (h : fn.results = #[.cell p ty, .tmp u]) (tmps : Array Value) (P : Program) (w : World) :
    (results fn tmps).run P w =
      ((asAddr (tmps.getD p undef)).run P w).andThen fun a w₁ => ((loadVar ty a).run P w₁).andThen fun x w₂ => .ok (.tuple #[x, tmps.getD u undef]) w₂ := by
  simp only [results, h]
  simp [Sem.run_bind, Result.andThen]
theorem ret_p2 {fn : Func} {R : Ending → World → Prop} {tmps : Array Value} {w : World} {g p q : Nat} {cs : Array Value}
    (hres : fn.results = #[.cell p TPl, .tmp q]) (hp : tmps.getD p undef = .pointer (some ⟨g, 0, none⟩)) (hg : w.heap[g]? = some (.cells cs TPl (0, 0))) (hcs : cs.size = 5)
    (hR : R (.returned (.tuple #[.agg cs, tmps.getD q undef])) w) : bodyPost Tryz.prog fn R .ret ⟨tmps, []⟩ w := by
  refine bodyPost_ret ?_ rfl hR
  rw [results_c2 hres]
  simp only [hp]
  simp [asAddr, Result.andThen, load_Pl hg hcs]
section
variable {v : Value} {w : World}
theorem size_no (h : NoT v w) (id : Int) : Calls Tryz.prog 7 #[v, .int .i64 id] w fun e w' => e = .returned (.tuple #[.int .i64 0, .int .i64 1]) ∧ Below w.heap.size w w' := by
  have c := open_no h id
  clear h
  go_enter Tryz.func7, Tryz.ntmps7
  go_wp2_with fail
  refine c.mono ?_
  rintro e w2 ⟨rfl, hb2⟩
  have HB : Hid (Below w.heap.size w (w2.alloc (.cells #[.int .i64 0, .int .i64 0] TX))) := hb2.trans ((below1 w2 _).mono hb2.size)
  clear c hb2
  go_wp2
  go_ret2
  exact ⟨rfl, HB.out⟩
theorem align_no (h : NoT v w) (id : Int) : Calls Tryz.prog 9 #[v, .int .i64 id] w fun e w' => e = .returned (.tuple #[.int .i64 0, .int .i64 1]) ∧ Below w.heap.size w w' := by
  have c := open_no h id
  clear h
  go_enter Tryz.func9, Tryz.ntmps9
  go_wp2_with fail
  refine c.mono ?_
  rintro e w2 ⟨rfl, hb2⟩
  have HB : Hid (Below w.heap.size w (w2.alloc (.cells #[.int .i64 0, .int .i64 0] TX))) := hb2.trans ((below1 w2 _).mono hb2.size)
  clear c hb2
  go_wp2
  go_ret2
  exact ⟨rfl, HB.out⟩
theorem gaps_no (h : NoT v w) (id : Int) : Calls Tryz.prog 19 #[v, .int .i64 id] w fun e w' => e = .returned (.tuple #[.slice none 0 0, .int .i64 1]) ∧ Below w.heap.size w w' := by
  have c := open_no h id
  clear h
  go_enter Tryz.func19, Tryz.ntmps19
  go_wp2_with fail
  refine c.mono ?_
  rintro e w2 ⟨rfl, hb2⟩
  have HB : Hid (Below w.heap.size w (w2.alloc (.cells #[.int .i64 0, .int .i64 0] TX))) := hb2.trans ((below1 w2 _).mono hb2.size)
  clear c hb2
  go_wp2
  go_ret2
  exact ⟨rfl, HB.out⟩
set_option maxHeartbeats 4000000 in
theorem openR_no (h : NoT v w) (id : Int) : Calls Tryz.prog 30 #[v, .int .i64 id] w fun e w' => e = .returned (.tuple #[.pointer none, .agg #[.int .i64 0, .int .i64 0, .int .i64 0, .string ⟨#[]⟩, .slice none 0 0, .bool false], .int .i64 1]) ∧ Below w.heap.size w w' := by
  have hB0 := below1 w (.cells #[.int .i64 0, .int .i64 0, .int .i64 0, .string ⟨#[]⟩, .slice none 0 0, .bool false] TR)
  have E0 := heap_r0 w (.cells #[.int .i64 0, .int .i64 0, .int .i64 0, .string ⟨#[]⟩, .slice none 0 0, .bool false] TR)
  have c := open_no (h.below hB0) id
  have hbz : ∀ Y : World, (Instr.build TR #[]).run Tryz.prog Y = .ok (.agg #[.int .i64 0, .int .i64 0, .int .i64 0, .string ⟨#[]⟩, .slice none 0 0, .bool false]) Y := fun Y => by kernel_rfl
  clear h
  go_enter Tryz.func30, Tryz.ntmps30
  go_wp2_with fail
  refine c.mono ?_
  rintro e w2 ⟨rfl, hb2⟩
  have hold2 := heap_r0 w2 (.cells #[.int .i64 0, .int .i64 0] TX)
  have hb3 := below1 w2 (.cells #[.int .i64 0, .int .i64 0] TX)
  have E3 := blk_b (blk_b E0 hb2) hb3
  have HB : Hid (Below w.heap.size w (w2.alloc (.cells #[.int .i64 0, .int .i64 0] TX))) := (hB0.trans (hb2.mono hB0.size)).trans (hb3.mono (Nat.le_trans hB0.size hb2.size))
  have HE3 : Hid (_ = _) := E3
  clear c hb2 hb3 hB0 E0
  go_wp2_with (first | ((with_reducible apply step_store hold2); rfl; rfl; kernel_rfl; rfl; kernel_rfl; rw [World.setRow_alloc_new]) | ((with_reducible apply step_store E3); rfl; rfl; kernel_rfl; rfl; kernel_rfl))
  refine (?_ : bodyPost _ _ _ _ _ _)
  refine ret_r3 (s := 4) (p := 5) (q := 6) (cs := #[.int .i64 0, .int .i64 0, .int .i64 0, .string ⟨#[]⟩, .slice none 0 0, .bool false]) rfl rfl (setRow_heap _ _ _ _ _ _ HE3.out) rfl ?_
  exact ⟨rfl, below_setRow HB.out (Nat.le_refl _) _⟩
theorem places_no (h : NoT v w) (id : Int) : Calls Tryz.prog 11 #[v, .int .i64 id] w fun e w' => e = .returned (.tuple #[.slice none 0 0, .int .i64 1]) ∧ Below w.heap.size w w' := by
  have c := openR_no h id
  clear h
  go_enter Tryz.func11, Tryz.ntmps11
  go_wp2_with fail
  refine c.mono ?_
  rintro e w2 ⟨rfl, hb2⟩
  have HB : Hid (Below w.heap.size w (w2.alloc (.cells #[.int .i64 0, .int .i64 0, .int .i64 0, .string ⟨#[]⟩, .slice none 0 0, .bool false] TR))) := hb2.trans ((below1 w2 _).mono hb2.size)
  clear c hb2
  go_wp2
  go_ret2
  exact ⟨rfl, HB.out⟩
set_option maxHeartbeats 4000000 in
theorem find_no (h : NoT v w) (id : Int) (nm : ByteArray) : Calls Tryz.prog 13 #[v, .int .i64 id, .string nm] w fun e w' => e = .returned (.tuple #[.agg #[.int .i64 0, .int .i64 0, .int .i64 0, .int .i64 0, .int .i64 0], .bool false, .int .i64 1]) ∧ Below w.heap.size w w' := by
  have hbz : ∀ Y : World, (Instr.build TPl #[]).run Tryz.prog Y = .ok (.agg #[.int .i64 0, .int .i64 0, .int .i64 0, .int .i64 0, .int .i64 0]) Y := fun Y => by kernel_rfl
  have hb0 := below1 w (.cells #[.int .i64 0, .int .i64 0, .int .i64 0, .int .i64 0, .int .i64 0] TPl)
  have E0 := heap_r0 w (.cells #[.int .i64 0, .int .i64 0, .int .i64 0, .int .i64 0, .int .i64 0] TPl)
  have c := openR_no (h.below hb0) id
  clear h
  go_enter Tryz.func13, Tryz.ntmps13
  go_wp2_with fail
  refine c.mono ?_
  rintro e w2 ⟨rfl, hb2⟩
  have hold := heap_r0 w2 (.cells #[.int .i64 0, .int .i64 0, .int .i64 0, .string ⟨#[]⟩, .slice none 0 0, .bool false] TR)
  have hb3 := below1 w2 (.cells #[.int .i64 0, .int .i64 0, .int .i64 0, .string ⟨#[]⟩, .slice none 0 0, .bool false] TR)
  have E3 := blk_b (blk_b E0 hb2) hb3
  have HE3 : Hid (_ = _) := E3
  have HB : Hid (Below w.heap.size w (w2.alloc (.cells #[.int .i64 0, .int .i64 0, .int .i64 0, .string ⟨#[]⟩, .slice none 0 0, .bool false] TR))) := (hb0.trans (hb2.mono hb0.size)).trans (hb3.mono (Nat.le_trans hb0.size hb2.size))
  clear c hb2 hb3 E0 hb0
  go_wp2_with (first | ((with_reducible apply step_store hold); rfl; rfl; kernel_rfl; rfl; kernel_rfl; rw [World.setRow_alloc_new]) | ((with_reducible apply step_store E3); rfl; rfl; kernel_rfl; rfl; kernel_rfl))
  refine (?_ : bodyPost _ _ _ _ _ _)
  refine ret_p3 (p := 6) (q := 7) (s := 8) (cs := #[.int .i64 0, .int .i64 0, .int .i64 0, .int .i64 0, .int .i64 0]) rfl rfl (setRow_heap _ _ _ _ _ _ HE3.out) rfl ?_
  exact ⟨rfl, below_setRow HB.out (Nat.le_refl _) _⟩
set_option maxHeartbeats 4000000 in
theorem walk_err (id : Int) (hops : Value) (er : Int) (hne : (er != 0) = true) (q : Option Addr) (ex : Ex)
    (c : Calls Tryz.prog 28 #[v, .int .i64 id] (w.alloc (.cells #[.int .i64 0, .int .i64 0, .int .i64 0, .int .i64 0, .int .i64 0] TPl)) fun e w' => e = .returned (.tuple #[.pointer q, .agg #[.int .i64 ex.size, .int .i64 ex.align], .int .i64 er]) ∧ Below (w.alloc (.cells #[.int .i64 0, .int .i64 0, .int .i64 0, .int .i64 0, .int .i64 0] TPl)).heap.size (w.alloc (.cells #[.int .i64 0, .int .i64 0, .int .i64 0, .int .i64 0, .int .i64 0] TPl)) w') :
    Calls Tryz.prog 17 #[v, .int .i64 id, hops] w fun e w' => e = .returned (.tuple #[.agg #[.int .i64 0, .int .i64 0, .int .i64 0, .int .i64 0, .int .i64 0], .int .i64 er]) ∧ Below w.heap.size w w' := by
  have hbz : ∀ Y : World, (Instr.build TPl #[]).run Tryz.prog Y = .ok (.agg #[.int .i64 0, .int .i64 0, .int .i64 0, .int .i64 0, .int .i64 0]) Y := fun Y => by kernel_rfl
  have hb0 := below1 w (.cells #[.int .i64 0, .int .i64 0, .int .i64 0, .int .i64 0, .int .i64 0] TPl)
  have E0 := heap_r0 w (.cells #[.int .i64 0, .int .i64 0, .int .i64 0, .int .i64 0, .int .i64 0] TPl)
  go_enter Tryz.func17, Tryz.ntmps17
  go_wp2_with fail
  refine c.mono ?_
  rintro e w2 ⟨rfl, hb2⟩
  have hold := heap_r0 w2 (.cells #[.int .i64 0, .int .i64 0] TX)
  have hb3 := below1 w2 (.cells #[.int .i64 ex.size, .int .i64 ex.align] TX)
  have E3 := blk_b (blk_b E0 hb2) hb3
  have HE3 : Hid (_ = _) := E3
  have HB : Hid (Below w.heap.size w (w2.alloc (.cells #[.int .i64 ex.size, .int .i64 ex.align] TX))) := (hb0.trans (hb2.mono hb0.size)).trans (hb3.mono (Nat.le_trans hb0.size hb2.size))
  clear c hb2 hb3 E0 hb0
  go_wp2_with (first | ((with_reducible apply step_store hold); rfl; rfl; kernel_rfl; rfl; kernel_rfl; rw [World.setRow_alloc_new]) | ((with_reducible apply step_store E3); rfl; rfl; kernel_rfl; rfl; kernel_rfl))
  refine (?_ : bodyPost _ _ _ _ _ _)
  refine ret_p2 (p := 6) (q := 7) (cs := #[.int .i64 0, .int .i64 0, .int .i64 0, .int .i64 0, .int .i64 0]) rfl rfl (setRow_heap _ _ _ _ _ _ HE3.out) rfl ?_
  exact ⟨rfl, below_setRow HB.out (Nat.le_refl _) _⟩
theorem walk_no (h : NoT v w) (id : Int) (hops : Value) : Calls Tryz.prog 17 #[v, .int .i64 id, hops] w fun e w' => e = .returned (.tuple #[.agg #[.int .i64 0, .int .i64 0, .int .i64 0, .int .i64 0, .int .i64 0], .int .i64 1]) ∧ Below w.heap.size w w' :=
  walk_err id hops 1 (by decide) none ⟨0, 0⟩ (open_no (h.below (below1 w _)) id)
end
end Go.Proofs.YtlcghlfmaohfeaaGreat
