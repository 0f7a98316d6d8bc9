/-
  The given answer's grounded: growing from below.
-/
import Derived.Test.YtlcghlfmaohfeaaGreatHRefKind
import Derived.Test.YtlcghlfmaohfeaaGreatHFrom
namespace Go.Proofs.YtlcghlfmaohfeaaGreat
open Go.RowKit Go.Maps
set_option linter.unusedVariables false
set_option maxRecDepth 100000

def okCells (n : Nat) (ok : Nat → Bool) : Array Value := ((List.range n).map fun i => Value.bool (ok i)).toArray
theorem okCells_at {n i : Nat} (ok : Nat → Bool) (h : i < n) : (okCells n ok)[i]? = some (.bool (ok i)) := by
  simp [okCells, h]
theorem okCells_set {n i : Nat} (ok : Nat → Bool) (h : i < n) : (okCells n ok).setIfInBounds i (.bool true) = okCells n (fun j => if j = i then true else ok j) := by
  apply Array.ext'
  simp only [okCells, Array.toList_setIfInBounds]
  apply List.ext_getElem?
  intro j
  by_cases hj : j < n
  · by_cases hij : i = j
    · subst hij; simp [h]
    · have hji : ¬ j = i := fun e => hij e.symm
      simp [hj, hij, hji]
  · simp [hj]
def left (n : Nat) (ok : Nat → Bool) : Nat := (List.range n).countP fun i => !ok i
theorem left_lt {n k : Nat} {ok : Nat → Bool} (hk : k < n) (h0 : ok k = false) : left n (fun j => if j = k then true else ok j) < left n ok := by
  have h := unseen_lt (σ := fun i => if ok i then 1 else 0) (σ' := fun i => if (if i = k then true else ok i) then 1 else 0) (by
    intro i hi
    by_cases hik : i = k
    · simp [hik] at hi
    · simpa [hik] using hi) hk (by simp [h0]) (by simp)
  have e : ∀ o : Nat → Bool, left n o = unseen n (fun i => if o i then 1 else 0) := by
    intro o
    unfold left unseen
    congr 1
    funext i
    show (!o i) = ((if o i = true then 1 else 0) == 0)
    cases o i <;> rfl
  rw [e, e]; exact h
/-- Nothing grows any more up to k. -/
def Stuck (P : Nat → List Nat) (ok : Nat → Bool) (k : Nat) : Prop := ∀ i, i < k → (∀ j ∈ P i, ok j = true) → ok i = true

theorem infoTB : (Tryz.prog.info? 4).map (fun i => (i.zero, i.size, i.bytes)) = some (some (.bool false), 1, 1) := by kernel_rfl
def isF : Value → Bool | .bool false => true | _ => false
def cntF (w : World) (g : Nat) : Nat := match w.heap[g]? with | some (.cells cur _ _) => cur.toList.countP isF | _ => 0
theorem cntF_ok {w : World} {g n : Nat} {ok : Nat → Bool} {t : TypeId} {fr : Nat × Nat} (h : w.heap[g]? = some (.cells (okCells n ok) t fr)) : cntF w g = left n ok := by
  unfold cntF left
  rw [h]
  simp only [okCells, List.countP_map]
  congr 1
  funext i
  show isF (.bool (ok i)) = !ok i
  cases ok i <;> rfl
def gMeas (g : Nat) (a : Value) (w : World) : Nat := match a with | .bool true => cntF w g + 1 | _ => 0

section
variable {w : World} {b : Nat} {v : Value} {rs : List (Rw × Value)}
set_option maxHeartbeats 4000000 in
theorem grounded_c (h : RT w b v rs) (hin : ∀ (i : Nat) (p : Rw × Value), rs[i]? = some p → (∀ x ∈ partsR p.1, 0 ≤ x ∧ x < rs.length) ∧ (p.1.kind = 14 → p.1.mem = [])) (hsm : ∀ p : Rw × Value, p ∈ rs → p.1.mem.length ≤ 64) :
    Calls Tryz.prog 44 #[.pointer (some ⟨b, 0, none⟩)] w fun e w' => ∃ ga ok, e = .returned (.slice (some ⟨ga, 0, none⟩) rs.length rs.length) ∧ w'.heap[ga]? = some (.cells (okCells rs.length ok) 4 (0, 0)) ∧ w.heap.size ≤ ga ∧
      (∃ m, Ground (partsAt rs) ok m) ∧ Stuck (partsAt rs) ok rs.length ∧ Below w.heap.size w w' := by
  obtain ⟨i0, hi, hz0, hz1, hz2⟩ := info_parts infoTB
  have hl := h.len
  have hc := h.cell
  have h1 := not_f
  have h2 := not_t
  obtain ⟨p, cap, hv, hcap⟩ := h.sl
  rw [hv] at hc
  have hmk := fun W : World => run_make (P := Tryz.prog) W 105 4 i0 (.bool false) Tryz.underlying105 hi hz0 .i64 .i64 rs.length rs.length (by omega) (by omega) (by rw [hz2]; omega) (by omega)
  rw [hz1] at hmk
  have hm0 : madeCells (Value.bool false).cells rs.length = okCells rs.length (fun _ => false) := by
    apply Array.ext'
    show (madeCells #[.bool false] rs.length).toList = _
    rw [toList_madeCells_one]
    simp only [okCells]
    apply List.ext_getElem?
    intro j
    by_cases hj : j < rs.length
    · simp [hj]
    · simp [hj]
  simp only [Int.toNat_natCast, Nat.mul_one, hm0] at hmk
  clear hm0
  have HT : Hid (RT _ _ _ _) := h
  have HIN : Hid _ := hin
  have HSM : Hid _ := hsm
  have HB : Hid (Below w.heap.size w (w.alloc (.cells (okCells rs.length (fun _ => false)) 4))) := (Below.refl _ w).alloc (Nat.le_refl _) _
  have HG0 : Hid (_ = _) := heap_r0 w (.cells (okCells rs.length (fun _ => false)) 4)
  clear h hin hsm
  go_enter Tryz.func44, Tryz.ntmps44
  go_wp2
  clear hmk hc
  generalize w.alloc (.cells (okCells rs.length (fun _ => false)) 4) = W0 at *
  go_loopw [4] (fun a wr => ∃ x : Bool, a = .bool x ∧ Hid (∃ ok, wr.heap[w.heap.size]? = some (.cells (okCells rs.length ok) 4 (0, 0)) ∧ (∃ m, Ground (partsAt rs) ok m) ∧ (x = false → Stuck (partsAt rs) ok rs.length)) ∧ Hid (Below w.heap.size w wr)) (fun a wr => gMeas w.heap.size a wr)
  case atStart => exact ⟨true, rfl, ⟨_, HG0.out, ⟨0, ground_none _ _⟩, fun h => by cases h⟩, HB⟩
  case round =>
    obtain ⟨x, rfl, HX, HW⟩ := hrel
    cases x
    case false =>
      obtain ⟨ok, g1, g2, g3⟩ := HX.out
      clear HX
      have HG1 : Hid (_ = _) := g1
      clear g1
      go_wp2
      go_ret
      exact ⟨_, rfl, ok, HG1.out, Nat.le_refl _, g2, g3 trivial, HW.out⟩
    case true =>
      obtain ⟨ok0, g1, g2, _⟩ := HX.out
      have HM0 : Hid (gMeas w.heap.size (.bool true) wr = left rs.length ok0 + 1) := by show cntF wr w.heap.size + 1 = _; rw [cntF_ok g1]
      have HS0 : Hid (∃ ok, wr.heap[w.heap.size]? = some (.cells (okCells rs.length ok) 4 (0, 0)) ∧ (∃ m, Ground (partsAt rs) ok m) ∧ (if false = true then left rs.length ok < left rs.length ok0 else (ok = ok0 ∧ Stuck (partsAt rs) ok0 0))) := ⟨ok0, g1, g2, rfl, fun i hi => by omega⟩
      clear HX g1 g2
      obtain ⟨w1, hw1⟩ : ∃ x, x = wr := ⟨_, rfl⟩
      subst hw1
      go_wp2
      go_loopw [4, 5] (fun a j wi => ∃ (k : Nat) (x : Bool), j = .int .i64 k ∧ a = .bool x ∧ k ≤ rs.length ∧ Hid (∃ ok, wi.heap[w.heap.size]? = some (.cells (okCells rs.length ok) 4 (0, 0)) ∧ (∃ m, Ground (partsAt rs) ok m) ∧ (if x = true then left rs.length ok < left rs.length ok0 else (ok = ok0 ∧ Stuck (partsAt rs) ok0 k))) ∧ Hid (Below w.heap.size w wi)) (fun _ j _ => rs.length - (intOf j).toNat)
      case atStart => exact ⟨0, false, rfl, rfl, Nat.zero_le _, HS0, HW⟩
      case round =>
        obtain ⟨k, x, rfl, rfl, hk, HX, HWi⟩ := hrel
        have hcb : wr.cell? ⟨b, 0, none⟩ = some (.slice p rs.length cap) := by rw [← hv]; exact (HT.out.below HWi.out).cell
        by_cases hlt : k < rs.length
        · obtain ⟨q, hq⟩ : ∃ q, rs[k]? = some q := ⟨_, List.getElem?_eq_getElem hlt⟩
          obtain ⟨ok, g1, ⟨m, g2⟩, g3⟩ := HX.out
          obtain ⟨g, o, cap', hv', hcap', hcell⟩ := (HT.out.below HWi.out).at hq
          rw [hv] at hv'
          injection hv' with e1 _ e3
          subst e1 e3
          have hpin := (HIN.out k q hq).1
          have h14 := (HIN.out k q hq).2
          have hsm := HSM.out q (List.mem_of_getElem? hq)
          have hms := (HT.out.below HWi.out).rows.2 q (List.mem_of_getElem? hq)
          have HPA : Hid (partsAt rs k = (partsR q.1).map (·.toNat)) := by show partsAt rs k = _; simp [partsAt, hq]
          have c0 := hcell 0 (by omega)
          have c1 := hcell 1 (by omega)
          have c2 := hcell 2 (by omega)
          have c3 := hcell 3 (by omega)
          have c4 := hcell 4 (by omega)
          have c5 := hcell 5 (by omega)
          obtain ⟨sp0, sc0, hs0⟩ : ∃ sp sc, q.2 = .slice sp q.1.mem.length sc := by
            rcases hms with ⟨e, h⟩ | ⟨g, o, cap, e, _⟩
            · rw [e, h]; exact ⟨none, 0, rfl⟩
            · exact ⟨_, _, e⟩
          obtain ⟨⟨kd, el, ln, tg, mm, dn⟩, s0⟩ := q
          simp only at hs0 h14 hsm hms
          subst hs0
          simp only [rwCells, Nat.add_zero, List.getElem?_cons_zero, List.getElem?_cons_succ] at c0 c1 c2 c3 c4 c5
          have hg0 := lt_of_heap g1
          have HG1 : Hid (_ = _) := g1
          have HG2 : Hid (Ground _ _ _) := g2
          have HG3 : Hid (if x = true then left rs.length ok < left rs.length ok0 else (ok = ok0 ∧ Stuck (partsAt rs) ok0 k)) := g3
          have HPIN : Hid (∀ z ∈ partsR ⟨kd, el, ln, tg, mm, dn⟩, 0 ≤ z ∧ z < rs.length) := hpin
          clear hcell hq g1 g2 g3 HX hpin
          obtain ⟨w2, hw2⟩ : ∃ x, x = wr := ⟨_, rfl⟩
          subst hw2
          have hold := heap_r0 w2 (.cells #[.int .i64 0, .int .i64 0, .int .i64 0, .string ⟨#[]⟩, .slice none 0 0, .bool false] TR)
          have HBx : Hid (Below w2.heap.size w2 (w2.alloc (.cells #[.int .i64 kd, .int .i64 el, .int .i64 ln, .string tg, .slice sp0 mm.length sc0, .bool dn] TR))) := (Below.refl _ w2).alloc (Nat.le_refl _) _
          have E1 := heap_r0 w2 (.cells #[.int .i64 kd, .int .i64 el, .int .i64 ln, .string tg, .slice sp0 mm.length sc0, .bool dn] TR)
          go_upto_region 10 with (first | ((with_reducible apply step_store hold); rfl; rfl; kernel_rfl; rfl; kernel_rfl; rw [World.setRow_alloc_new]) | fail)
          generalize w2.alloc (.cells #[.int .i64 kd, .int .i64 el, .int .i64 ln, .string tg, .slice sp0 mm.length sc0, .bool dn] TR) = W at *
          have a0 := Lib.cell_of_heap E1 0
          have a1 := Lib.cell_of_heap E1 1
          have a4 := Lib.cell_of_heap E1 4
          simp only [List.getElem?_toArray, List.getElem?_cons_zero, List.getElem?_cons_succ] at a0 a1 a4
          have HbW := lt_of_heap E1
          clear c0 c1 c2 c3 c4 c5 hold hcb E1
          have HGW : Hid (W.heap[w.heap.size]? = some (.cells (okCells rs.length ok) 4 (0, 0))) := (HBx.out.block _ hg0).trans HG1.out
          have hms2 := hms.below HBx.out
          have HBW : Hid (Below w.heap.size w W) := HWi.out.trans (HBx.out.mono HWi.out.size)
          have hcell : ∀ z : Nat, z < rs.length → ∀ X, Below W.heap.size W X → X.cell? ⟨w.heap.size, z, none⟩ = some (.bool (ok z)) := fun z hz X hX => by
            rw [hX.cell (p := ⟨w.heap.size, z, none⟩) (lt_of_heap HGW.out), Lib.cell_of_heap HGW.out, okCells_at ok hz]
          -- the end of the round, once it is known whether all parts are grounded
          have fin : Hid (∀ (all : Bool) (X : World), ((partsR ⟨kd, el, ln, tg, mm, dn⟩).all fun z => ok z.toNat) = all → Below W.heap.size W X →
              (∃ (k_1 : Nat) (x_1 : Bool), True) ∧ (all = true → ok k = false → Hid (∃ ok', (X.setCell ⟨w.heap.size, k, none⟩ (.bool true)).heap[w.heap.size]? = some (.cells (okCells rs.length ok') 4 (0, 0)) ∧ (∃ m, Ground (partsAt rs) ok' m) ∧ left rs.length ok' < left rs.length ok0) ∧ Hid (Below w.heap.size w (X.setCell ⟨w.heap.size, k, none⟩ (.bool true)))) ∧
              ((all = false ∨ ok k = true) → Hid (∃ ok', X.heap[w.heap.size]? = some (.cells (okCells rs.length ok') 4 (0, 0)) ∧ (∃ m, Ground (partsAt rs) ok' m) ∧ (if x = true then left rs.length ok' < left rs.length ok0 else (ok' = ok0 ∧ Stuck (partsAt rs) ok0 (k + 1)))) ∧ Hid (Below w.heap.size w X))) := by
            intro all X hall hX
            have hXg := (hX.block _ (lt_of_heap HGW.out)).trans HGW.out
            have hBX : Below w.heap.size w X := HBW.out.trans (hX.mono HBW.out.size)
            refine ⟨⟨0, true, trivial⟩, fun ha hk0 => ⟨⟨fun j => if j = k then true else ok j, ?_, ⟨m + 1, ?_⟩, ?_⟩, ?_⟩, fun ha => ⟨⟨ok, hXg, ⟨m, HG2.out⟩, ?_⟩, hBX⟩⟩
            · rw [heap_setCell hXg, okCells_set ok hlt]
            · refine ground_more HG2.out hk0 (fun j hj => ?_)
              rw [HPA.out] at hj
              obtain ⟨z, hz, rfl⟩ := List.mem_map.1 hj
              rw [ha, List.all_eq_true] at hall
              exact hall z hz
            · have h1 := left_lt hlt hk0
              have h2 := HG3.out
              cases x
              · rw [if_neg (by decide)] at h2
                rw [← h2.1]; exact h1
              · rw [if_pos rfl] at h2
                omega
            · exact ⟨hBX.os, hBX.tape, hBX.output, by simpa using hBX.size, fun j hj => (heap_setCell_other X ⟨w.heap.size, k, none⟩ j _ (by show j ≠ w.heap.size; omega)).trans (hBX.block j hj)⟩
            · have h2 := HG3.out
              cases x
              · rw [if_neg (by decide)] at h2 ⊢
                refine ⟨h2.1, fun i hi hp => ?_⟩
                by_cases hik : i = k
                · subst hik
                  rw [← h2.1] at hp ⊢
                  rcases ha with ha | ha
                  · rw [ha] at hall
                    have : ((partsR ⟨kd, el, ln, tg, mm, dn⟩).all fun z => ok z.toNat) = true := by
                      rw [List.all_eq_true]
                      intro z hz
                      exact hp z.toNat (by rw [HPA.out]; exact List.mem_map.2 ⟨z, hz, rfl⟩)
                    rw [this] at hall; cases hall
                  · exact ha
                · exact h2.2 i (by omega) hp
              · rw [if_pos rfl] at h2 ⊢; exact h2
          have hok : ∀ X, Below W.heap.size W X → X.cell? ⟨w.heap.size, k, none⟩ = some (.bool (ok k)) := fun X hX => hcell k hlt X hX
          have hfz : ∀ X, Below W.heap.size W X → X.frozen? ⟨w.heap.size, k, none⟩ = false := fun X hX => frozen_of ((hX.block _ (lt_of_heap HGW.out)).trans HGW.out) k
          have hnd : ∀ (y : Bool) (W : World), (Op.unary UnOp.not (.bool y)).run Tryz.prog W = .ok (.bool (!y)) W := fun y W => by cases y <;> rfl
          by_cases hk14 : kd = 14
          · subst hk14
            obtain rfl := h14 rfl
            obtain ⟨he0, hen⟩ := HPIN.out el (by simp [partsR])
            obtain ⟨en, rfl⟩ : ∃ en : Nat, el = en := ⟨el.toNat, by omega⟩
            have hall : ((partsR ⟨14, (en : Int), ln, tg, [], dn⟩).all fun z => ok z.toNat) = ok en := by simp [partsR]
            have HF := fin.out (ok en) W hall (Below.refl _ _)
            have HFF : Hid _ := HF
            have q1 := hcell en (by omega) W (Below.refl _ _)
            have q2 := hok W (Below.refl _ _)
            have q3 := hfz W (Below.refl _ _)
            simp only [List.length_nil] at a4
            clear HF fin hall hcell hok hfz hms hms2 h14
            generalize ok en = A at *
            generalize ok k = Bk at *
            cases A <;> cases Bk
            all_goals go_wp2
            all_goals refine wp_loop_rounds 1 ?_
            all_goals rw [rounds_succ]
            all_goals go_wp2
            all_goals first
            | exact ⟨⟨k + 1, x, by go_num, rfl, by omega, (HFF.out.2.2 (by first | exact Or.inl rfl | exact Or.inr rfl | simp)).1, (HFF.out.2.2 (by first | exact Or.inl rfl | exact Or.inr rfl | simp)).2⟩, by simp [intOf]; omega⟩
            | (obtain ⟨⟨ok', y1, y2, y3⟩, y4⟩ := HFF.out.2.1 (by first | rfl | trivial) (by first | rfl | trivial)
               exact ⟨⟨k + 1, true, by go_num, rfl, by omega, ⟨ok', y1, y2, by rw [if_pos rfl]; exact y3⟩, y4⟩, by simp [intOf]; omega⟩)
          · have b14 : (kd == 14) = false := by simpa using hk14
            have hpr : partsR ⟨kd, el, ln, tg, mm, dn⟩ = mm.map (·.type) := if_neg hk14
            rw [hpr] at HPIN
            have HFN : Hid (∀ X, Below W.heap.size W X → _) := fun X hX => fin.out (mm.all fun z => ok z.type.toNat) X (by rw [hpr]; simp [List.all_map]; rfl) hX
            clear fin hpr
            go_wp2
            go_loopw [6, 8] (fun s j wm => ∃ n : Nat, j = .int .i64 n ∧ n ≤ mm.length ∧ (∃ A : Bool, s = .bool A ∧ Hid (A = (mm.take n).all fun z => ok z.type.toNat)) ∧ Hid (Below W.heap.size W wm)) (fun _ j _ => mm.length - (intOf j).toNat)
            case atStart => exact ⟨0, rfl, Nat.zero_le _, ⟨true, rfl, by simp [Hid]⟩, Below.refl _ _⟩
            case round =>
              obtain ⟨n, rfl, hn, ⟨A, rfl, HA⟩, HWm⟩ := hrel
              have f4 := (HWm.out.cell (p := ⟨w2.heap.size, 4, none⟩) HbW).trans a4
              by_cases hlt2 : n < mm.length
              · obtain ⟨y, hy⟩ : ∃ y, mm[n]? = some y := ⟨_, List.getElem?_eq_getElem hlt2⟩
                have HAN : Hid ((((mm.take n).all fun z => ok z.type.toNat) && ok y.type.toNat) = (mm.take (n + 1)).all fun z => ok z.type.toNat) := by
                  show _ = _
                  rw [List.take_add_one, hy]; simp
                obtain ⟨hy0, hyn⟩ := HPIN.out y.type (List.mem_map.2 ⟨y, List.mem_of_getElem? hy, rfl⟩)
                obtain ⟨yt, hyt⟩ : ∃ yt : Nat, y.type = yt := ⟨y.type.toNat, by omega⟩
                rcases hms2 with ⟨hh, rfl⟩ | ⟨gm, om, capm, hh, hcapm, hgm, hcm⟩
                · simp at hlt2
                · injection hh with hh1 _ hh3
                  subst hh1 hh3
                  have f1 := (HWm.out.cell (p := ⟨gm, om + n * 3 + 1, none⟩) hgm).trans (hcm n y hy 1 (by omega))
                  simp only [mbCells, List.getElem?_cons_zero, List.getElem?_cons_succ, hyt] at f1
                  rw [hyt] at HAN
                  have f2 := hcell yt (by omega) wr HWm.out
                  have HAN2 : Hid (((mm.take n).all fun z => ok z.type.toNat) = A) := HA.out.symm
                  simp only [Int.toNat_natCast] at HAN
                  rw [HAN2.out] at HAN
                  have hyl : (yt : Int) < rs.length := by omega
                  clear hcm hcell hok hfz hy HA hyt hy0 hyn a0 a1 a4 hms
                  generalize ok yt = T at *
                  cases A
                  all_goals go_wp2
                  all_goals refine ⟨⟨n + 1, by go_num, by omega, ⟨_, rfl, ?_⟩, HWm⟩, by simp [intOf]; omega⟩
                  all_goals (show _ = _; rw [← HAN.out]; simp)
              · obtain rfl : n = mm.length := by omega
                have HF := HFN.out wr HWm.out
                have hA : A = mm.all fun z => ok z.type.toNat := by have := HA.out; simpa using this
                rw [← hA] at HF
                have HFF : Hid _ := HF
                have q2 := hok wr HWm.out
                have q3 := hfz wr HWm.out
                clear HF hA HA hok hfz hcell HFN hms hms2 a0 a1 a4
                generalize ok k = Bk at *
                cases A <;> cases Bk
                all_goals go_wp2
                all_goals first
            | exact ⟨⟨k + 1, x, by go_num, rfl, by omega, (HFF.out.2.2 (by first | exact Or.inl rfl | exact Or.inr rfl | simp)).1, (HFF.out.2.2 (by first | exact Or.inl rfl | exact Or.inr rfl | simp)).2⟩, by simp [intOf]; omega⟩
            | (obtain ⟨⟨ok', y1, y2, y3⟩, y4⟩ := HFF.out.2.1 (by first | rfl | trivial) (by first | rfl | trivial)
               exact ⟨⟨k + 1, true, by go_num, rfl, by omega, ⟨ok', y1, y2, by rw [if_pos rfl]; exact y3⟩, y4⟩, by simp [intOf]; omega⟩)
        · obtain rfl : k = rs.length := by omega
          obtain ⟨ok, g1, g2, g3⟩ := HX.out
          have HG1 : Hid (_ = _) := g1
          have HG3 : Hid (if x = true then left rs.length ok < left rs.length ok0 else (ok = ok0 ∧ Stuck (partsAt rs) ok0 rs.length)) := g3
          clear HX g1 g3
          go_wp2
          refine ⟨⟨x, rfl, ⟨ok, HG1.out, g2, fun hx => ?_⟩, HWi⟩, ?_⟩
          · have h2 := HG3.out
            rw [hx, if_neg (by decide)] at h2
            rw [h2.1]; exact h2.2
          · rw [HM0.out]
            cases x
            · show 0 < _; omega
            · show cntF wr w.heap.size + 1 < _
              rw [cntF_ok HG1.out]
              have h2 := HG3.out
              rw [if_pos rfl] at h2
              omega
end
end Go.Proofs.YtlcghlfmaohfeaaGreat
