/-
  Walk of every table and type.
-/
import Derived.Test.YtkobggbipoappaaLyHop
namespace Go.Proofs.Ytkobggbipoappaa
open Go.RowKit Go.Maps
set_option linter.unusedVariables false
set_option maxRecDepth 100000
theorem hopIn_cells {w : World} {x : Value} {l : List Hp} (h : HopIn w x l) : ∃ p c, x = .slice p l.length c ∧ ∀ j m, l[j]? = some m → ∃ g o, p = some ⟨g, o, none⟩ ∧ l.length ≤ c ∧ ∀ Y, Below w.heap.size w Y → ∀ k, k < 2 → Y.cell? ⟨g, o + j * 2 + k, none⟩ = (hpCells m)[k]? := by
  rcases h with (⟨rfl, rfl⟩ | ⟨g, o, c, rfl, hc, hg, hcell⟩) | ⟨a, c, rfl, rfl⟩
  · exact ⟨none, 0, rfl, fun j m hm => by simp at hm⟩
  · exact ⟨_, c, rfl, fun j m hm => ⟨g, o, rfl, hc, fun Y hY k hk => (hY.cell (p := ⟨g, o + j * 2 + k, none⟩) hg).trans (hcell j m hm k hk)⟩⟩
  · exact ⟨_, c, rfl, fun j m hm => by simp at hm⟩
theorem found_none (mem : List Mb) (nm : ByteArray) : ∀ (l : List Pl) (s : Pl × Bool), (foundS mem nm s l).2 = false → foundS mem nm s l = s
  | [], s, _ => rfl
  | p :: l, s, h => by
    have e : foundS mem nm s (p :: l) = foundS mem nm (if hitP mem nm p then (p, true) else s) l := rfl
    rw [e] at h ⊢
    by_cases hh : hitP mem nm p = true
    · rw [if_pos hh] at h ⊢
      have h2 := found_none mem nm l _ h
      rw [h2] at h
      cases h
    · rw [if_neg hh] at h ⊢
      exact found_none mem nm l _ h
theorem drop_at {α : Type} {l : List α} {k : Nat} {x : α} (h : l[k]? = some x) : l.drop k = x :: l.drop (k + 1) := by
  obtain ⟨hk, rfl⟩ := List.getElem?_eq_some_iff.1 h
  exact List.drop_eq_getElem_cons hk
section
variable {B : Nat} {w w0 : World} {b mb rb m : Nat} {v : Value} {rs : List (Rw × Value)} {ps : List (Value × Value)} {M : Int → Ex}
/-- What Walk says of it. -/
def walkC (o : Option Pl) : Int := if o.isSome then 0 else 30
/-- hop from wherever a walk may stand. -/
theorem hop_any (h0 : Tab B w0 b mb v rs ps) (hs : Small rs) (hf : FromOK rs) (hM : IsMeas (rowsOf rs) M) (hRU : RU w0 b rb m rs M w) (hw0 : w0.heap.size ≤ m) (hrm : rb ≠ m) {S : Int} (hS : S ≤ 16384) {a : Pl} (hA : AtOK rs M S a)
    {i : Nat} {p : Rw × Value} (hty : a.type = i) (hp : rs[i]? = some p) (nm : ByteArray) (idx : Int) :
    Calls Try.prog 30 #[.pointer (some ⟨rb, 0, none⟩), .agg (plV a), .agg #[.string nm, .int .i64 idx]] w fun e w' => e = .returned (.tuple #[.agg (plV (hopP M p.1 a nm idx).1), .bool (hopP M p.1 a nm idx).2]) ∧ RU w0 b rb m rs M w' ∧ Turned w w' (fun k => k = m) := by
  have hsz := at_size hf hM hA hS
  obtain ⟨i', p', e, hp', hw, ho⟩ := hA.ex
  have lo := hA.lo
  have hi := hA.hi
  have hii : i = i' := by omega
  subst hii
  obtain rfl : p = p' := Option.some.inj (hp.symm.trans hp')
  rw [hty] at hsz
  have hn : p.1.mem.length ≤ 64 := hs p (List.mem_of_getElem? hp)
  have hall := measure_all h0 hs hf hM hw0 hrm
  have hmem : ∀ x ∈ p.1.mem, MC w0 b rb m rs M x.type ∧ ExOK (M x.type) ∧ BitsOK x (M x.type) := by
    cases hk : recK p.1.kind with
    | true => exact (rec_mem h0 hs hf hM hw0 hrm hp hw hk).2.2
    | false => rw [no_mem hf hp hk]; intro x hx; cases hx
  refine hop_c h0 hs hRU hw0 hrm a nm idx hty hp hn hmem ⟨lo, by omega⟩ ?_ ?_
  · cases hfd : (foundS p.1.mem nm (pl0, false) (placesS (p.1.kind == 16) M ls0 0 p.1.mem)).2 with
    | false =>
      rw [found_none _ _ _ _ hfd]
      show (0 : Int) ≤ 0 ∧ (0 : Int) ≤ 16384
      omega
    | true =>
      have hin := found_mem hfd
      cases hk : recK p.1.kind with
      | false => rw [no_mem hf hp hk] at hin; simp [placesS] at hin
      | true =>
        obtain ⟨q1, q2, _⟩ := place_within hf hM hp hw hk hsz _ hin
        exact ⟨q1, by omega⟩
  · intro h14
    obtain ⟨k, q, hk, hq, hwq, l1, l2, s1, hMi, _⟩ := arr_room hf hM hp hw h14 hsz
    refine ⟨by rw [hk]; exact hall k q hq hwq, s1, l2, ?_⟩
    have := (meas_ok hf hM k q hq hwq).hi
    rw [hk]
    omega
set_option maxHeartbeats 16000000 in
theorem walk_ok (h : Tab B w b mb v rs ps) (hs : Small rs) (hf : FromOK rs) (hM : IsMeas (rowsOf rs) M) {i : Nat} {p : Rw × Value} (hp : rs[i]? = some p) (hwh : wholeR p.1 = true) (hgt : (M i).size ≤ 16384)
    {x : Value} {l : List Hp} (hl : HopIn w x l) (hbig : l.length ≤ 9223372036854775807) :
    Calls Try.prog 12 #[.pointer (some ⟨b, 0, none⟩), .int .i64 i, x] w fun e w' => e = .returned (.tuple #[.agg (plV ((walkP rs M ⟨0, i, 0, 0, 0⟩ l).getD pl0)), .int .i64 (walkC (walkP rs M ⟨0, i, 0, 0, 0⟩ l))]) ∧ Below w.heap.size w w' := by
  have b0 := below1 w (.cells #[.int .i64 0, .int .i64 0, .int .i64 0, .int .i64 0, .int .i64 0] TPl)
  have E0 := heap_r0 w (.cells #[.int .i64 0, .int .i64 0, .int .i64 0, .int .i64 0, .int .i64 0] TPl)
  have hz0 : (w.alloc (.cells #[.int .i64 0, .int .i64 0, .int .i64 0, .int .i64 0, .int .i64 0] TPl)).heap.size = w.heap.size + 1 := by simp
  have hT := h.keptB b0
  have c := open_ok hT hs hf hM hp hwh hgt
  have hA0 := at_first hf hM hp hwh
  have hbz : ∀ Y : World, (Instr.build TPl #[]).run Try.prog Y = .ok (.agg #[.int .i64 0, .int .i64 0, .int .i64 0, .int .i64 0, .int .i64 0]) Y := fun Y => by kernel_rfl
  have hbi : ∀ (j : Int) (Y : World), (Instr.build TPl #[(1, .int .i64 j)]).run Try.prog Y = .ok (.agg #[.int .i64 0, .int .i64 j, .int .i64 0, .int .i64 0, .int .i64 0]) Y := fun j Y => by kernel_rfl
  have HN : Hid (∀ (rb m : Nat) (W : World) (a : Pl) (nm : ByteArray) (idx : Int) (j : Nat) (q : Rw × Value), RU (w.alloc (.cells #[.int .i64 0, .int .i64 0, .int .i64 0, .int .i64 0, .int .i64 0] TPl)) b rb m rs M W → w.heap.size + 1 ≤ m → rb ≠ m → AtOK rs M (M i).size a → a.type = j → rs[j]? = some q →
      Calls Try.prog 30 #[.pointer (some ⟨rb, 0, none⟩), .agg #[.int .i64 a.mem, .int .i64 a.type, .int .i64 a.off, .int .i64 a.bit, .int .i64 a.bits], .agg #[.string nm, .int .i64 idx]] W fun e w' => e = .returned (.tuple #[.agg (plV (hopP M q.1 a nm idx).1), .bool (hopP M q.1 a nm idx).2]) ∧ RU (w.alloc (.cells #[.int .i64 0, .int .i64 0, .int .i64 0, .int .i64 0, .int .i64 0] TPl)) b rb m rs M w' ∧ Turned W w' (fun k => k = m)) :=
    fun rb m W a nm idx j q hU h1 h2 hA hj hq => hop_any hT hs hf hM hU (by rw [hz0]; exact h1) h2 hgt hA hj hq nm idx
  have HNX : Hid (∀ (a : Pl) (nm : ByteArray) (idx : Int) (j : Nat) (q : Rw × Value), AtOK rs M (M i).size a → a.type = j → rs[j]? = some q → (hopP M q.1 a nm idx).2 = true → AtOK rs M (M i).size (hopP M q.1 a nm idx).1) :=
    fun a nm idx j q hA hj hq hh => hop_at hf hM hgt hA hj hq nm idx hh
  obtain ⟨RES, hRES⟩ : ∃ x, x = walkP rs M ⟨0, i, 0, 0, 0⟩ l := ⟨_, rfl⟩
  rw [← hRES]
  obtain ⟨sp, cap, rfl, hcell⟩ := hopIn_cells hl
  have HCL : Hid (∀ j m, l[j]? = some m → ∃ g o, sp = some ⟨g, o, none⟩ ∧ l.length ≤ cap ∧ ∀ Y, Below w.heap.size w Y → ∀ k, k < 2 → Y.cell? ⟨g, o + j * 2 + k, none⟩ = (hpCells m)[k]?) := hcell
  have HRES : Hid (RES = walkP rs M ⟨0, i, 0, 0, 0⟩ l) := hRES
  have HA0 : Hid (AtOK rs M (M i).size ⟨0, i, 0, 0, 0⟩) := hA0
  have HB0 : Hid (_) := b0
  clear h hs hf hM hp hwh hgt hl hT hA0 hcell hRES
  generalize hex : M i = ex at *
  clear hex
  go_enter Try.func12, Try.ntmps12
  go_wp2_with fail
  refine c.mono ?_
  rintro e w2 ⟨rb, m, rfl, U2, hm0, hrm⟩
  rw [hz0] at hm0
  have hold := heap_r0 w2 (.cells #[.int .i64 0, .int .i64 0] TX)
  have b3 := below1 w2 (.cells #[.int .i64 ex.size, .int .i64 ex.align] TX)
  have U3 : Hid (RU _ b rb m rs M (w2.alloc (.cells #[.int .i64 ex.size, .int .i64 ex.align] TX))) := U2.kept b3
  have E3 : Hid (_ = _) := blk_b (blk_b E0 U2.below) b3
  clear c U2 b3 E0 b0
  go_upto_region 4 with (first | ((with_reducible apply step_store hold); rfl; rfl; kernel_rfl; rfl; kernel_rfl; rw [World.setRow_alloc_new]) | fail)
  generalize w2.alloc (.cells #[.int .i64 ex.size, .int .i64 ex.align] TX) = W3 at *
  have hold3 := heap_r0 W3 (.cells #[.int .i64 0, .int .i64 0, .int .i64 0, .int .i64 0, .int .i64 0] TPl)
  have b4 := below1 W3 (.cells #[.int .i64 0, .int .i64 (i : Int), .int .i64 0, .int .i64 0, .int .i64 0] TPl)
  have N4 : Hid (_ = _) := heap_r0 W3 (.cells #[.int .i64 0, .int .i64 (i : Int), .int .i64 0, .int .i64 0, .int .i64 0] TPl)
  have U4 : Hid (RU _ b rb m rs M (W3.alloc (.cells #[.int .i64 0, .int .i64 (i : Int), .int .i64 0, .int .i64 0, .int .i64 0] TPl))) := U3.out.kept b4
  have E4 : Hid (_ = _) := blk_b E3.out b4
  have hg6 : w.heap.size < W3.heap.size := lt_of_heap E3.out
  have hrb : rb < W3.heap.size := lt_of_heap U3.out.ru
  have hmb : m < W3.heap.size := U3.out.lt
  clear b4 U3 E3 hold
  go_wp2_with (first | ((with_reducible apply step_store hold3); rfl; rfl; kernel_rfl; rfl; kernel_rfl; rw [World.setRow_alloc_new]) | fail)
  generalize w.alloc (.cells #[.int .i64 0, .int .i64 0, .int .i64 0, .int .i64 0, .int .i64 0] TPl) = W0 at *
  go_loopw [31] (fun iv wr => ∃ (k : Nat) (a : Pl), k ≤ l.length ∧ iv = .int .i64 k ∧ Hid (RES = walkP rs M a (l.drop k)) ∧ Hid (AtOK rs M ex.size a) ∧ Hid (RU W0 b rb m rs M wr) ∧ Hid (wr.heap[w.heap.size]? = some (.cells #[.int .i64 0, .int .i64 0, .int .i64 0, .int .i64 0, .int .i64 0] TPl (0, 0))) ∧ Hid (wr.heap[W3.heap.size]? = some (.cells #[.int .i64 a.mem, .int .i64 a.type, .int .i64 a.off, .int .i64 a.bit, .int .i64 a.bits] TPl (0, 0)))) (fun iv _ => l.length - (intOf iv).toNat)
  case atStart => exact ⟨0, ⟨0, i, 0, 0, 0⟩, Nat.zero_le _, rfl, HRES, HA0, U4, E4, N4⟩
  case round =>
    obtain ⟨k, a, hk, rfl, HW, HA, HU, HE, HG⟩ := hrel
    have HBW : Hid (Below w.heap.size w wr) := HB0.out.trans (HU.out.below.mono HB0.out.size)
    clear HRES HA0 U4 E4 N4 hold3
    by_cases hlt : k < l.length
    · obtain ⟨⟨nm, idx⟩, hx⟩ : ∃ h, l[k]? = some h := ⟨_, List.getElem?_eq_getElem hlt⟩
      obtain ⟨g, o, hsp, hcap, hcell⟩ := HCL.out k _ hx
      subst hsp
      have c0 := hcell wr HBW.out 0 (by omega)
      have c1 := hcell wr HBW.out 1 (by omega)
      simp only [hpCells, Nat.add_zero, List.getElem?_cons_zero, List.getElem?_cons_succ] at c0 c1
      obtain ⟨j, q, hj, hq, _, _⟩ := HA.out.ex
      have HDR : Hid (l.drop k = (nm, idx) :: l.drop (k + 1)) := drop_at hx
      have hq2 : rs[a.type.toNat]? = some q := by rw [hj]; simpa using hq
      have HST : Hid (RES = if (hopP M q.1 a nm idx).2 = true then walkP rs M (hopP M q.1 a nm idx).1 (l.drop (k + 1)) else none) := by
        show RES = _
        rw [HW.out, HDR.out, walkP, hq2]
      have hnx := HNX.out a nm idx j q HA.out hj hq
      have hold5 := heap_r0 wr (.cells #[.string ⟨#[]⟩, .int .i64 0] THop)
      have b5 := below1 wr (.cells #[.string nm, .int .i64 idx] THop)
      have N5 := heap_r0 wr (.cells #[.string nm, .int .i64 idx] THop)
      have A5 := blk_b HG.out b5
      have d0 := Lib.cell_of_heap A5 0
      have d1 := Lib.cell_of_heap A5 1
      have d2 := Lib.cell_of_heap A5 2
      have d3 := Lib.cell_of_heap A5 3
      have d4 := Lib.cell_of_heap A5 4
      have n0 := Lib.cell_of_heap N5 0
      have n1 := Lib.cell_of_heap N5 1
      simp only [List.getElem?_toArray, List.getElem?_cons_zero, List.getElem?_cons_succ] at d0 d1 d2 d3 d4 n0 n1
      have cc := HN.out rb m _ a nm idx j q (HU.out.kept b5) hm0 hrm HA.out hj hq
      have HAA : Hid (_ = _) := A5
      have HEE : Hid (_ = _) := blk_b HE.out b5
      generalize hRR : hopP M q.1 a nm idx = RR at *
      clear hRR
      obtain ⟨P, ok⟩ := RR
      clear hcell hj hq hq2 N5 A5 HDR HW HE HG HU HA HN HCL HNX hx b5
      simp only at cc hnx HST
      go_wp2_with (first | ((with_reducible apply step_store hold5); rfl; rfl; kernel_rfl; rfl; kernel_rfl; rw [World.setRow_alloc_new]) | fail)
      refine cc.mono ?_
      rintro e y ⟨rfl, U6, t6⟩
      have A6 := blk_t HAA.out t6 (by omega)
      have E6 := blk_t HEE.out t6 (by omega)
      have hold7 := heap_r0 y (.cells #[.int .i64 0, .int .i64 0, .int .i64 0, .int .i64 0, .int .i64 0] TPl)
      have b7 := below1 y (.cells #[.int .i64 P.mem, .int .i64 P.type, .int .i64 P.off, .int .i64 P.bit, .int .i64 P.bits] TPl)
      have N7 := heap_r0 y (.cells #[.int .i64 P.mem, .int .i64 P.type, .int .i64 P.off, .int .i64 P.bit, .int .i64 P.bits] TPl)
      have A7 := blk_b A6 b7
      have E7 := blk_b E6 b7
      have U7 : Hid (RU W0 b rb m rs M (y.alloc (.cells #[.int .i64 P.mem, .int .i64 P.type, .int .i64 P.off, .int .i64 P.bit, .int .i64 P.bits] TPl))) := U6.kept b7
      have HA7 : Hid (_ = _) := A7
      have HE7 : Hid (_ = _) := E7
      have z0 := Lib.cell_of_heap N7 0
      have z1 := Lib.cell_of_heap N7 1
      have z2 := Lib.cell_of_heap N7 2
      have z3 := Lib.cell_of_heap N7 3
      have z4 := Lib.cell_of_heap N7 4
      simp only [List.getElem?_toArray, List.getElem?_cons_zero, List.getElem?_cons_succ] at z0 z1 z2 z3 z4
      clear cc U6 t6 A6 E6 b7 N7 HAA HEE d0 d1 d2 d3 d4 n0 n1 c0 c1 hold5
      cases ok with
      | false =>
        have HR2 : Hid (RES = none) := by show RES = _; rw [HST.out]; rfl
        clear HST hnx
        go_wp2_with (first | ((with_reducible apply step_store hold7); rfl; rfl; kernel_rfl; rfl; kernel_rfl; rw [World.setRow_alloc_new]) | ((with_reducible apply step_store E7); rfl; rfl; kernel_rfl; rfl; kernel_rfl) | fail)
        rw [HR2.out]
        refine (?_ : bodyPost _ _ _ _ _ _)
        refine ret_p2 (p := 6) (q := 7) (cs := #[.int .i64 0, .int .i64 0, .int .i64 0, .int .i64 0, .int .i64 0]) rfl rfl (setRow_heap _ _ _ _ _ _ HE7.out) rfl ?_
        exact ⟨rfl, below_setRow (HB0.out.trans (U7.out.below.mono HB0.out.size)) (Nat.le_refl _) _⟩
      | true =>
        have HR2 : Hid (RES = walkP rs M P (l.drop (k + 1))) := by show RES = _; rw [HST.out]; rfl
        have HP : Hid (AtOK rs M ex.size P) := hnx rfl
        clear HST hnx
        go_wp2_with (first | ((with_reducible apply step_store hold7); rfl; rfl; kernel_rfl; rfl; kernel_rfl; rw [World.setRow_alloc_new]) | ((with_reducible apply step_store A7); rfl; rfl; kernel_rfl; rfl; kernel_rfl) | fail)
        refine ⟨⟨k + 1, P, by omega, by go_num, HR2, HP, ?_, ?_, ?_⟩, by simp [intOf]; omega⟩
        · exact U7.out.turned (Turned.setRow _ _ _ (S := fun k => k = W3.heap.size) rfl) (fun k e => by omega) (fun e => by omega) (fun e => by omega)
        · exact (setRow_other _ _ _ _ (by omega)).trans HE7.out
        · exact setRow_heap _ _ _ _ _ _ HA7.out
    · obtain rfl : k = l.length := by omega
      have HR2 : Hid (RES = some a) := by show RES = _; rw [HW.out, List.drop_length]; rfl
      have d0 := Lib.cell_of_heap HG.out 0
      have d1 := Lib.cell_of_heap HG.out 1
      have d2 := Lib.cell_of_heap HG.out 2
      have d3 := Lib.cell_of_heap HG.out 3
      have d4 := Lib.cell_of_heap HG.out 4
      simp only [List.getElem?_toArray, List.getElem?_cons_zero, List.getElem?_cons_succ] at d0 d1 d2 d3 d4
      have E7 := HE.out
      clear HW HN HNX HCL
      go_wp2_with (first | ((with_reducible apply step_store E7); rfl; rfl; kernel_rfl; rfl; kernel_rfl) | fail)
      rw [HR2.out]
      refine (?_ : bodyPost _ _ _ _ _ _)
      refine ret_p2 (p := 6) (q := 7) (cs := #[.int .i64 a.mem, .int .i64 a.type, .int .i64 a.off, .int .i64 a.bit, .int .i64 a.bits]) rfl rfl (setRow_heap _ _ _ _ _ _ HE.out) rfl ?_
      exact ⟨rfl, below_setRow HBW.out (Nat.le_refl _) _⟩
/-- What Walk answers of any type. -/
def walkR (rs : List (Rw × Value)) (M : Int → Ex) (id : Int) (l : List Hp) : Pl × Int :=
  if openE rs M id = 0 then ((walkP rs M ⟨0, id, 0, 0, 0⟩ l).getD pl0, walkC (walkP rs M ⟨0, id, 0, 0, 0⟩ l)) else (pl0, openE rs M id)
theorem walk_any (h : Tab B w b mb v rs ps) (h0 : 0 < rs.length) (hs : Small rs) (hf : FromOK rs) (hM : IsMeas (rowsOf rs) M) (id : Int) {x : Value} {l : List Hp} (hl : HopIn w x l) (hbig : l.length ≤ 9223372036854775807) :
    Calls Try.prog 12 #[.pointer (some ⟨b, 0, none⟩), .int .i64 id, x] w fun e w' => e = .returned (.tuple #[.agg (plV (walkR rs M id l).1), .int .i64 (walkR rs M id l).2]) ∧ Below w.heap.size w w' := by
  have hT := h.keptB (below1 w (.cells #[.int .i64 0, .int .i64 0, .int .i64 0, .int .i64 0, .int .i64 0] TPl))
  have key : ∀ er : Int, openE rs M id = er → (er != 0) = true → walkR rs M id l = (pl0, er) := fun er he hne => by
    unfold walkR
    rw [if_neg (by rw [he]; simpa using hne), he]
  cases hh : hasP rs.length id with
  | false =>
    rw [key 30 (openE_none (M := M) hh).1 (by decide)]
    exact walk_err id x 30 (by decide) none ⟨0, 0⟩ (open_none hT h0 id hh)
  | true =>
    obtain ⟨i, p, rfl, hp⟩ := has_at hh
    have hwP := wholeP_at hp
    cases hw : wholeR p.1 with
    | false =>
      rw [hw] at hwP
      rw [key 50 (openE_inc (M := M) hh hwP).1 (by decide)]
      exact walk_err i x 50 (by decide) none ⟨0, 0⟩ (open_inc hT hs hp hw)
    | true =>
      rw [hw] at hwP
      by_cases hg : 16384 < (M i).size
      · rw [key 51 (openE_large hh hwP hg).1 (by decide)]
        exact walk_err i x 51 (by decide) none ⟨0, 0⟩ (open_large hT hs hf hM hp hw hg)
      · have he := (openE_ok hh hwP (by omega : (M i).size ≤ 16384)).1
        have e1 : walkR rs M i l = ((walkP rs M ⟨0, i, 0, 0, 0⟩ l).getD pl0, walkC (walkP rs M ⟨0, i, 0, 0, 0⟩ l)) := by unfold walkR; rw [if_pos he]
        rw [e1]
        exact walk_ok h hs hf hM hp hw (by omega) hl hbig
end
end Go.Proofs.Ytkobggbipoappaa
