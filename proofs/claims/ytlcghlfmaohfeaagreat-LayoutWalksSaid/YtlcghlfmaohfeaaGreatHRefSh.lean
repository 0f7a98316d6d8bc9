/-
  The given answer's shaped, kind by kind, and at every row.
-/
import Derived.Test.YtlcghlfmaohfeaaGreatHRefShD
namespace Go.Proofs.YtlcghlfmaohfeaaGreat
open Go.RowKit Go.Maps
set_option linter.unusedVariables false
set_option maxRecDepth 100000

section
variable {w : World} {b : Nat} {v : Value} {rs : List (Rw × Value)}
set_option maxHeartbeats 4000000 in
theorem rShaped_0 (h : RT w b v rs) {i : Nat} {p : Rw × Value} (hp : rs[i]? = some p) (hO : Okay p.1) (hk : i < 11 ∨ (p.1.kind ≠ 12 ∧ p.1.kind ≠ 13 ∧ p.1.kind ≠ 14 ∧ p.1.kind ≠ 15 ∧ p.1.kind ≠ 16)) :
    Calls Tryz.prog 42 #[.pointer (some ⟨b, 0, none⟩), .int .i64 i] w fun e w' => e = .returned (.bool (shapedB rs i p.1)) ∧ Below w.heap.size w w' := by
  have hlt : i < rs.length := (List.getElem?_eq_some_iff.1 hp).1
  have hl := h.len
  have h1 := not_f
  have h2 := not_t
  have hc := h.cell
  obtain ⟨g, o, cap, hv, hcap, hcell⟩ := h.at hp
  have hms := h.rows.2 p (List.mem_of_getElem? hp)
  obtain ⟨sp0, sc0, hs0⟩ : ∃ sp sc, p.2 = .slice sp p.1.mem.length sc := by
    rcases hms with ⟨e, h⟩ | ⟨g, o, cap, e, _⟩
    · rw [e, h]; exact ⟨none, 0, rfl⟩
    · exact ⟨_, _, e⟩
  obtain ⟨⟨kd, el, ln, tg, mm, dn⟩, s0⟩ := p
  simp only at hs0 hk
  subst hs0
  rw [hv] at hc
  have c0 := hcell 0 (by omega)
  have c1 := hcell 1 (by omega)
  have c2 := hcell 2 (by omega)
  have c3 := hcell 3 (by omega)
  have c4 := hcell 4 (by omega)
  have c5 := hcell 5 (by omega)
  simp only [rwCells, Nat.add_zero, List.getElem?_cons_zero, List.getElem?_cons_succ] at c0 c1 c2 c3 c4 c5
  clear hcell
  have hOm := hO.mem
  simp only at hOm
  have hold := heap_r0 w (.cells #[.int .i64 0, .int .i64 0, .int .i64 0, .string ⟨#[]⟩, .slice none 0 0, .bool false] TR)
  have HB : Hid (Below w.heap.size w (w.alloc (.cells #[.int .i64 kd, .int .i64 el, .int .i64 ln, .string tg, .slice sp0 mm.length sc0, .bool dn] TR))) := (Below.refl _ w).alloc (Nat.le_refl _) _
  have E1 := heap_r0 w (.cells #[.int .i64 kd, .int .i64 el, .int .i64 ln, .string tg, .slice sp0 mm.length sc0, .bool dn] TR)
  have HT : Hid (RT _ b v rs) := h.below HB.out
  have HM : Hid (MemSl _ _ mm) := hms.below HB.out
  have HO : Hid (Okay _) := hO
  obtain ⟨RES, hRES⟩ : ∃ x, x = shapedB rs i ⟨kd, el, ln, tg, mm, dn⟩ := ⟨_, rfl⟩
  rw [← hRES]
  have HR : Hid (RES = _) := hRES
  clear hRES h hp hms hO
  have hbz : ∀ (k : Int) (W : World), (Instr.build TR #[(0, .int .i64 k)]).run Tryz.prog W = .ok (.agg #[.int .i64 k, .int .i64 0, .int .i64 0, .string ⟨#[]⟩, .slice none 0 0, .bool false]) W := fun k W => by kernel_rfl
  go_enter Tryz.func42, Tryz.ntmps42
  go_upto_region 2 with (first | ((with_reducible apply step_store hold); rfl; rfl; kernel_rfl; rfl; kernel_rfl; rw [World.setRow_alloc_new]) | fail)
  generalize w.alloc (.cells #[.int .i64 kd, .int .i64 el, .int .i64 ln, .string tg, .slice sp0 mm.length sc0, .bool dn] TR) = W at *
  have a0 := Lib.cell_of_heap E1 0
  have a1 := Lib.cell_of_heap E1 1
  have a2 := Lib.cell_of_heap E1 2
  have a3 := Lib.cell_of_heap E1 3
  have a4 := Lib.cell_of_heap E1 4
  have a5 := Lib.cell_of_heap E1 5
  simp only [List.getElem?_toArray, List.getElem?_cons_zero, List.getElem?_cons_succ] at a0 a1 a2 a3 a4 a5
  clear c0 c1 c2 c3 c4 c5 hold E1 hc
  by_cases hi : i < 11
  · have cE := equal_basic (w := W) (r := ⟨kd, el, ln, tg, mm, dn⟩) HM.out (by show mm.length ≤ _; omega) ((i : Int) + 1)
    simp only [rwCells] at cE
    have hr := HR.out
    simp only [shapedB, hi, if_true] at hr
    rw [← hr] at cE
    clear hr HR
    go_wp2_with (go_at_call 69; refine cE.mono ?_; rintro e w2 ⟨rfl, hb2⟩)
    go_ret
    exact ⟨rfl, HB.out.trans (hb2.mono HB.out.size)⟩
  · have hin : ¬ (i : Int) < 11 := by omega
    have cT := refTag_c tg W HO.out.tag
    have cM := rMembers_c HT.out HM.out HO.out.names (by omega)
    have cW := rWhole_c HT.out el
    have cL := rLength_c ln W
    have hnd : ∀ (x : Bool) (W : World), (Op.unary UnOp.not (.bool x)).run Tryz.prog W = .ok (.bool (!x)) W := fun x W => by cases x <;> rfl
    obtain ⟨h12, h13, h14, h15, h16⟩ := hk.resolve_left hi
    have b12 : (kd == 12) = false := by simpa using h12
    have b13 : (kd == 13) = false := by simpa using h13
    have b14 : (kd == 14) = false := by simpa using h14
    have b15 : (kd == 15) = false := by simpa using h15
    have b16 : (kd == 16) = false := by simpa using h16
    have hr : RES = false := by rw [HR.out]; simp [shapedB, hi, h12, h13, h14, h15, h16]
    subst hr
    clear HR
    go_wp2_with (first | (go_at_call 72; refine cT.mono ?_; rintro e w2 ⟨rfl, rfl⟩) | (go_at_call 59; refine cW.mono ?_; rintro e w2 ⟨rfl, rfl⟩) | (go_at_call 74; refine cL.mono ?_; rintro e w2 ⟨rfl, rfl⟩) | (go_at_call 73; refine cM.mono ?_; rintro e w2 ⟨rfl, hb2⟩))
    all_goals go_ret
    all_goals first | exact ⟨rfl, HB.out⟩ | exact ⟨rfl, HB.out.trans (hb2.mono HB.out.size)⟩

set_option maxHeartbeats 4000000 in
theorem rShaped_12 (h : RT w b v rs) {i : Nat} {p : Rw × Value} (hp : rs[i]? = some p) (hO : Okay p.1) (hi : ¬ i < 11) (hk : p.1.kind = 12) :
    Calls Tryz.prog 42 #[.pointer (some ⟨b, 0, none⟩), .int .i64 i] w fun e w' => e = .returned (.bool (shapedB rs i p.1)) ∧ Below w.heap.size w w' := by
  have hlt : i < rs.length := (List.getElem?_eq_some_iff.1 hp).1
  have hl := h.len
  have h1 := not_f
  have h2 := not_t
  have hc := h.cell
  obtain ⟨g, o, cap, hv, hcap, hcell⟩ := h.at hp
  have hms := h.rows.2 p (List.mem_of_getElem? hp)
  obtain ⟨sp0, sc0, hs0⟩ : ∃ sp sc, p.2 = .slice sp p.1.mem.length sc := by
    rcases hms with ⟨e, h⟩ | ⟨g, o, cap, e, _⟩
    · rw [e, h]; exact ⟨none, 0, rfl⟩
    · exact ⟨_, _, e⟩
  obtain ⟨⟨kd, el, ln, tg, mm, dn⟩, s0⟩ := p
  simp only at hs0 hk
  subst hs0
  subst hk
  rw [hv] at hc
  have c0 := hcell 0 (by omega)
  have c1 := hcell 1 (by omega)
  have c2 := hcell 2 (by omega)
  have c3 := hcell 3 (by omega)
  have c4 := hcell 4 (by omega)
  have c5 := hcell 5 (by omega)
  simp only [rwCells, Nat.add_zero, List.getElem?_cons_zero, List.getElem?_cons_succ] at c0 c1 c2 c3 c4 c5
  clear hcell
  have hOm := hO.mem
  simp only at hOm
  have hold := heap_r0 w (.cells #[.int .i64 0, .int .i64 0, .int .i64 0, .string ⟨#[]⟩, .slice none 0 0, .bool false] TR)
  have HB : Hid (Below w.heap.size w (w.alloc (.cells #[.int .i64 12, .int .i64 el, .int .i64 ln, .string tg, .slice sp0 mm.length sc0, .bool dn] TR))) := (Below.refl _ w).alloc (Nat.le_refl _) _
  have E1 := heap_r0 w (.cells #[.int .i64 12, .int .i64 el, .int .i64 ln, .string tg, .slice sp0 mm.length sc0, .bool dn] TR)
  have HT : Hid (RT _ b v rs) := h.below HB.out
  have HM : Hid (MemSl _ _ mm) := hms.below HB.out
  have HO : Hid (Okay _) := hO
  obtain ⟨RES, hRES⟩ : ∃ x, x = shapedB rs i ⟨12, el, ln, tg, mm, dn⟩ := ⟨_, rfl⟩
  rw [← hRES]
  have HR : Hid (RES = _) := hRES
  clear hRES h hp hms hO
  have hbz : ∀ (k : Int) (W : World), (Instr.build TR #[(0, .int .i64 k)]).run Tryz.prog W = .ok (.agg #[.int .i64 k, .int .i64 0, .int .i64 0, .string ⟨#[]⟩, .slice none 0 0, .bool false]) W := fun k W => by kernel_rfl
  go_enter Tryz.func42, Tryz.ntmps42
  go_upto_region 2 with (first | ((with_reducible apply step_store hold); rfl; rfl; kernel_rfl; rfl; kernel_rfl; rw [World.setRow_alloc_new]) | fail)
  generalize w.alloc (.cells #[.int .i64 12, .int .i64 el, .int .i64 ln, .string tg, .slice sp0 mm.length sc0, .bool dn] TR) = W at *
  have a0 := Lib.cell_of_heap E1 0
  have a1 := Lib.cell_of_heap E1 1
  have a2 := Lib.cell_of_heap E1 2
  have a3 := Lib.cell_of_heap E1 3
  have a4 := Lib.cell_of_heap E1 4
  have a5 := Lib.cell_of_heap E1 5
  simp only [List.getElem?_toArray, List.getElem?_cons_zero, List.getElem?_cons_succ] at a0 a1 a2 a3 a4 a5
  clear c0 c1 c2 c3 c4 c5 hold E1 hc
  · have hin : ¬ (i : Int) < 11 := by omega
    have cT := refTag_c tg W HO.out.tag
    have cM := rMembers_c HT.out HM.out HO.out.names (by omega)
    have cW := rWhole_c HT.out el
    have cL := rLength_c ln W
    have hnd : ∀ (x : Bool) (W : World), (Op.unary UnOp.not (.bool x)).run Tryz.prog W = .ok (.bool (!x)) W := fun x W => by cases x <;> rfl
    by_cases q1 : el = 0
    case neg =>
      have z1 : (el == 0) = false := by simpa using q1
      have hr : RES = false := by rw [HR.out]; simp [shapedB, hi, q1]
      subst hr
      clear HR
      go_wp2_with (first | (go_at_call 72; refine cT.mono ?_; rintro e w2 ⟨rfl, rfl⟩) | (go_at_call 59; refine cW.mono ?_; rintro e w2 ⟨rfl, rfl⟩) | (go_at_call 74; refine cL.mono ?_; rintro e w2 ⟨rfl, rfl⟩) | (go_at_call 73; refine cM.mono ?_; rintro e w2 ⟨rfl, hb2⟩))
      all_goals go_ret
      all_goals first | exact ⟨rfl, HB.out⟩ | exact ⟨rfl, HB.out.trans (hb2.mono HB.out.size)⟩
    subst q1
    by_cases q2 : ln = 0
    case neg =>
      have z2 : (ln == 0) = false := by simpa using q2
      have hr : RES = false := by rw [HR.out]; simp [shapedB, hi, q2]
      subst hr
      clear HR
      go_wp2_with (first | (go_at_call 72; refine cT.mono ?_; rintro e w2 ⟨rfl, rfl⟩) | (go_at_call 59; refine cW.mono ?_; rintro e w2 ⟨rfl, rfl⟩) | (go_at_call 74; refine cL.mono ?_; rintro e w2 ⟨rfl, rfl⟩) | (go_at_call 73; refine cM.mono ?_; rintro e w2 ⟨rfl, hb2⟩))
      all_goals go_ret
      all_goals first | exact ⟨rfl, HB.out⟩ | exact ⟨rfl, HB.out.trans (hb2.mono HB.out.size)⟩
    subst q2
    by_cases q3 : tagP tg.data.toList = true
    case neg =>
      have q3' : tagP tg.data.toList = false := by simpa using q3
      rw [q3'] at cT
      have hr : RES = false := by rw [HR.out]; simp [shapedB, hi, q3']
      subst hr
      clear HR
      go_wp2_with (first | (go_at_call 72; refine cT.mono ?_; rintro e w2 ⟨rfl, rfl⟩) | (go_at_call 59; refine cW.mono ?_; rintro e w2 ⟨rfl, rfl⟩) | (go_at_call 74; refine cL.mono ?_; rintro e w2 ⟨rfl, rfl⟩) | (go_at_call 73; refine cM.mono ?_; rintro e w2 ⟨rfl, hb2⟩))
      all_goals go_ret
      all_goals first | exact ⟨rfl, HB.out⟩ | exact ⟨rfl, HB.out.trans (hb2.mono HB.out.size)⟩
    rw [q3] at cT
    by_cases q4 : mm.length = 0
    case neg =>
      have z4 : ((mm.length : Int) == 0) = false := by simp; intro e; exact q4 (by rw [e]; rfl)
      have hr : RES = false := by rw [HR.out]; simp [shapedB, hi, q3, plainB, q4]
      subst hr
      clear HR
      go_wp2_with (first | (go_at_call 72; refine cT.mono ?_; rintro e w2 ⟨rfl, rfl⟩) | (go_at_call 59; refine cW.mono ?_; rintro e w2 ⟨rfl, rfl⟩) | (go_at_call 74; refine cL.mono ?_; rintro e w2 ⟨rfl, rfl⟩) | (go_at_call 73; refine cM.mono ?_; rintro e w2 ⟨rfl, hb2⟩))
      all_goals go_ret
      all_goals first | exact ⟨rfl, HB.out⟩ | exact ⟨rfl, HB.out.trans (hb2.mono HB.out.size)⟩
    have z4 : ((mm.length : Int) == 0) = true := by simp; exact List.eq_nil_of_length_eq_zero q4
    by_cases q5 : dn = false
    case neg =>
      have q5' : dn = true := by simpa using q5
      subst q5'
      have hr : RES = false := by rw [HR.out]; simp [shapedB, hi, q3, q4, plainB]
      subst hr
      clear HR
      go_wp2_with (first | (go_at_call 72; refine cT.mono ?_; rintro e w2 ⟨rfl, rfl⟩) | (go_at_call 59; refine cW.mono ?_; rintro e w2 ⟨rfl, rfl⟩) | (go_at_call 74; refine cL.mono ?_; rintro e w2 ⟨rfl, rfl⟩) | (go_at_call 73; refine cM.mono ?_; rintro e w2 ⟨rfl, hb2⟩))
      all_goals go_ret
      all_goals first | exact ⟨rfl, HB.out⟩ | exact ⟨rfl, HB.out.trans (hb2.mono HB.out.size)⟩
    subst q5
    have hr : RES = true := by rw [HR.out]; simp [shapedB, hi, q3, q4, plainB]
    subst hr
    clear HR
    go_wp2_with (first | (go_at_call 72; refine cT.mono ?_; rintro e w2 ⟨rfl, rfl⟩) | (go_at_call 59; refine cW.mono ?_; rintro e w2 ⟨rfl, rfl⟩) | (go_at_call 74; refine cL.mono ?_; rintro e w2 ⟨rfl, rfl⟩) | (go_at_call 73; refine cM.mono ?_; rintro e w2 ⟨rfl, hb2⟩))
    all_goals go_ret
    all_goals first | exact ⟨rfl, HB.out⟩ | exact ⟨rfl, HB.out.trans (hb2.mono HB.out.size)⟩

set_option maxHeartbeats 4000000 in
theorem rShaped_13 (h : RT w b v rs) {i : Nat} {p : Rw × Value} (hp : rs[i]? = some p) (hO : Okay p.1) (hi : ¬ i < 11) (hk : p.1.kind = 13) :
    Calls Tryz.prog 42 #[.pointer (some ⟨b, 0, none⟩), .int .i64 i] w fun e w' => e = .returned (.bool (shapedB rs i p.1)) ∧ Below w.heap.size w w' := by
  have hlt : i < rs.length := (List.getElem?_eq_some_iff.1 hp).1
  have hl := h.len
  have h1 := not_f
  have h2 := not_t
  have hc := h.cell
  obtain ⟨g, o, cap, hv, hcap, hcell⟩ := h.at hp
  have hms := h.rows.2 p (List.mem_of_getElem? hp)
  obtain ⟨sp0, sc0, hs0⟩ : ∃ sp sc, p.2 = .slice sp p.1.mem.length sc := by
    rcases hms with ⟨e, h⟩ | ⟨g, o, cap, e, _⟩
    · rw [e, h]; exact ⟨none, 0, rfl⟩
    · exact ⟨_, _, e⟩
  obtain ⟨⟨kd, el, ln, tg, mm, dn⟩, s0⟩ := p
  simp only at hs0 hk
  subst hs0
  subst hk
  rw [hv] at hc
  have c0 := hcell 0 (by omega)
  have c1 := hcell 1 (by omega)
  have c2 := hcell 2 (by omega)
  have c3 := hcell 3 (by omega)
  have c4 := hcell 4 (by omega)
  have c5 := hcell 5 (by omega)
  simp only [rwCells, Nat.add_zero, List.getElem?_cons_zero, List.getElem?_cons_succ] at c0 c1 c2 c3 c4 c5
  clear hcell
  have hOm := hO.mem
  simp only at hOm
  have hold := heap_r0 w (.cells #[.int .i64 0, .int .i64 0, .int .i64 0, .string ⟨#[]⟩, .slice none 0 0, .bool false] TR)
  have HB : Hid (Below w.heap.size w (w.alloc (.cells #[.int .i64 13, .int .i64 el, .int .i64 ln, .string tg, .slice sp0 mm.length sc0, .bool dn] TR))) := (Below.refl _ w).alloc (Nat.le_refl _) _
  have E1 := heap_r0 w (.cells #[.int .i64 13, .int .i64 el, .int .i64 ln, .string tg, .slice sp0 mm.length sc0, .bool dn] TR)
  have HT : Hid (RT _ b v rs) := h.below HB.out
  have HM : Hid (MemSl _ _ mm) := hms.below HB.out
  have HO : Hid (Okay _) := hO
  obtain ⟨RES, hRES⟩ : ∃ x, x = shapedB rs i ⟨13, el, ln, tg, mm, dn⟩ := ⟨_, rfl⟩
  rw [← hRES]
  have HR : Hid (RES = _) := hRES
  clear hRES h hp hms hO
  have hbz : ∀ (k : Int) (W : World), (Instr.build TR #[(0, .int .i64 k)]).run Tryz.prog W = .ok (.agg #[.int .i64 k, .int .i64 0, .int .i64 0, .string ⟨#[]⟩, .slice none 0 0, .bool false]) W := fun k W => by kernel_rfl
  go_enter Tryz.func42, Tryz.ntmps42
  go_upto_region 2 with (first | ((with_reducible apply step_store hold); rfl; rfl; kernel_rfl; rfl; kernel_rfl; rw [World.setRow_alloc_new]) | fail)
  generalize w.alloc (.cells #[.int .i64 13, .int .i64 el, .int .i64 ln, .string tg, .slice sp0 mm.length sc0, .bool dn] TR) = W at *
  have a0 := Lib.cell_of_heap E1 0
  have a1 := Lib.cell_of_heap E1 1
  have a2 := Lib.cell_of_heap E1 2
  have a3 := Lib.cell_of_heap E1 3
  have a4 := Lib.cell_of_heap E1 4
  have a5 := Lib.cell_of_heap E1 5
  simp only [List.getElem?_toArray, List.getElem?_cons_zero, List.getElem?_cons_succ] at a0 a1 a2 a3 a4 a5
  clear c0 c1 c2 c3 c4 c5 hold E1 hc
  · have hin : ¬ (i : Int) < 11 := by omega
    have cT := refTag_c tg W HO.out.tag
    have cM := rMembers_c HT.out HM.out HO.out.names (by omega)
    have cW := rWhole_c HT.out el
    have cL := rLength_c ln W
    have hnd : ∀ (x : Bool) (W : World), (Op.unary UnOp.not (.bool x)).run Tryz.prog W = .ok (.bool (!x)) W := fun x W => by cases x <;> rfl
    by_cases q6 : 0 ≤ el
    case neg =>
      have z6 : ¬ 0 ≤ el := q6
      have hr : RES = false := by rw [HR.out]; simp [shapedB, hi, q6]
      subst hr
      clear HR
      go_wp2_with (first | (go_at_call 72; refine cT.mono ?_; rintro e w2 ⟨rfl, rfl⟩) | (go_at_call 59; refine cW.mono ?_; rintro e w2 ⟨rfl, rfl⟩) | (go_at_call 74; refine cL.mono ?_; rintro e w2 ⟨rfl, rfl⟩) | (go_at_call 73; refine cM.mono ?_; rintro e w2 ⟨rfl, hb2⟩))
      all_goals go_ret
      all_goals first | exact ⟨rfl, HB.out⟩ | exact ⟨rfl, HB.out.trans (hb2.mono HB.out.size)⟩
    by_cases q7 : el < (i : Int)
    case neg =>
      have z7 : ¬ el < (i : Int) := q7
      have hr : RES = false := by rw [HR.out]; simp [shapedB, hi, q6, q7]
      subst hr
      clear HR
      go_wp2_with (first | (go_at_call 72; refine cT.mono ?_; rintro e w2 ⟨rfl, rfl⟩) | (go_at_call 59; refine cW.mono ?_; rintro e w2 ⟨rfl, rfl⟩) | (go_at_call 74; refine cL.mono ?_; rintro e w2 ⟨rfl, rfl⟩) | (go_at_call 73; refine cM.mono ?_; rintro e w2 ⟨rfl, hb2⟩))
      all_goals go_ret
      all_goals first | exact ⟨rfl, HB.out⟩ | exact ⟨rfl, HB.out.trans (hb2.mono HB.out.size)⟩
    by_cases q2 : ln = 0
    case neg =>
      have z2 : (ln == 0) = false := by simpa using q2
      have hr : RES = false := by rw [HR.out]; simp [shapedB, hi, q6, q7, q2]
      subst hr
      clear HR
      go_wp2_with (first | (go_at_call 72; refine cT.mono ?_; rintro e w2 ⟨rfl, rfl⟩) | (go_at_call 59; refine cW.mono ?_; rintro e w2 ⟨rfl, rfl⟩) | (go_at_call 74; refine cL.mono ?_; rintro e w2 ⟨rfl, rfl⟩) | (go_at_call 73; refine cM.mono ?_; rintro e w2 ⟨rfl, hb2⟩))
      all_goals go_ret
      all_goals first | exact ⟨rfl, HB.out⟩ | exact ⟨rfl, HB.out.trans (hb2.mono HB.out.size)⟩
    subst q2
    by_cases q8 : tg.toList = []
    case neg =>
      have z8 : (tg.toList == []) = false := by simpa using q8
      have hr : RES = false := by rw [HR.out]; simp [shapedB, hi, q6, q7, q8]
      subst hr
      clear HR
      go_wp2_with (first | (go_at_call 72; refine cT.mono ?_; rintro e w2 ⟨rfl, rfl⟩) | (go_at_call 59; refine cW.mono ?_; rintro e w2 ⟨rfl, rfl⟩) | (go_at_call 74; refine cL.mono ?_; rintro e w2 ⟨rfl, rfl⟩) | (go_at_call 73; refine cM.mono ?_; rintro e w2 ⟨rfl, hb2⟩))
      all_goals go_ret
      all_goals first | exact ⟨rfl, HB.out⟩ | exact ⟨rfl, HB.out.trans (hb2.mono HB.out.size)⟩
    have z8 : (tg.toList == []) = true := by rw [q8]; rfl
    by_cases q4 : mm.length = 0
    case neg =>
      have z4 : ((mm.length : Int) == 0) = false := by simp; intro e; exact q4 (by rw [e]; rfl)
      have hr : RES = false := by rw [HR.out]; simp [shapedB, hi, q6, q7, q8, plainB, q4]
      subst hr
      clear HR
      go_wp2_with (first | (go_at_call 72; refine cT.mono ?_; rintro e w2 ⟨rfl, rfl⟩) | (go_at_call 59; refine cW.mono ?_; rintro e w2 ⟨rfl, rfl⟩) | (go_at_call 74; refine cL.mono ?_; rintro e w2 ⟨rfl, rfl⟩) | (go_at_call 73; refine cM.mono ?_; rintro e w2 ⟨rfl, hb2⟩))
      all_goals go_ret
      all_goals first | exact ⟨rfl, HB.out⟩ | exact ⟨rfl, HB.out.trans (hb2.mono HB.out.size)⟩
    have z4 : ((mm.length : Int) == 0) = true := by simp; exact List.eq_nil_of_length_eq_zero q4
    by_cases q5 : dn = false
    case neg =>
      have q5' : dn = true := by simpa using q5
      subst q5'
      have hr : RES = false := by rw [HR.out]; simp [shapedB, hi, q6, q7, q8, q4, plainB]
      subst hr
      clear HR
      go_wp2_with (first | (go_at_call 72; refine cT.mono ?_; rintro e w2 ⟨rfl, rfl⟩) | (go_at_call 59; refine cW.mono ?_; rintro e w2 ⟨rfl, rfl⟩) | (go_at_call 74; refine cL.mono ?_; rintro e w2 ⟨rfl, rfl⟩) | (go_at_call 73; refine cM.mono ?_; rintro e w2 ⟨rfl, hb2⟩))
      all_goals go_ret
      all_goals first | exact ⟨rfl, HB.out⟩ | exact ⟨rfl, HB.out.trans (hb2.mono HB.out.size)⟩
    subst q5
    have hr : RES = true := by rw [HR.out]; simp [shapedB, hi, q6, q7, q8, q4, plainB]
    subst hr
    clear HR
    go_wp2_with (first | (go_at_call 72; refine cT.mono ?_; rintro e w2 ⟨rfl, rfl⟩) | (go_at_call 59; refine cW.mono ?_; rintro e w2 ⟨rfl, rfl⟩) | (go_at_call 74; refine cL.mono ?_; rintro e w2 ⟨rfl, rfl⟩) | (go_at_call 73; refine cM.mono ?_; rintro e w2 ⟨rfl, hb2⟩))
    all_goals go_ret
    all_goals first | exact ⟨rfl, HB.out⟩ | exact ⟨rfl, HB.out.trans (hb2.mono HB.out.size)⟩

set_option maxHeartbeats 4000000 in
theorem rShaped_14 (h : RT w b v rs) {i : Nat} {p : Rw × Value} (hp : rs[i]? = some p) (hO : Okay p.1) (hi : ¬ i < 11) (hk : p.1.kind = 14) :
    Calls Tryz.prog 42 #[.pointer (some ⟨b, 0, none⟩), .int .i64 i] w fun e w' => e = .returned (.bool (shapedB rs i p.1)) ∧ Below w.heap.size w w' := by
  have hlt : i < rs.length := (List.getElem?_eq_some_iff.1 hp).1
  have hl := h.len
  have h1 := not_f
  have h2 := not_t
  have hc := h.cell
  obtain ⟨g, o, cap, hv, hcap, hcell⟩ := h.at hp
  have hms := h.rows.2 p (List.mem_of_getElem? hp)
  obtain ⟨sp0, sc0, hs0⟩ : ∃ sp sc, p.2 = .slice sp p.1.mem.length sc := by
    rcases hms with ⟨e, h⟩ | ⟨g, o, cap, e, _⟩
    · rw [e, h]; exact ⟨none, 0, rfl⟩
    · exact ⟨_, _, e⟩
  obtain ⟨⟨kd, el, ln, tg, mm, dn⟩, s0⟩ := p
  simp only at hs0 hk
  subst hs0
  subst hk
  rw [hv] at hc
  have c0 := hcell 0 (by omega)
  have c1 := hcell 1 (by omega)
  have c2 := hcell 2 (by omega)
  have c3 := hcell 3 (by omega)
  have c4 := hcell 4 (by omega)
  have c5 := hcell 5 (by omega)
  simp only [rwCells, Nat.add_zero, List.getElem?_cons_zero, List.getElem?_cons_succ] at c0 c1 c2 c3 c4 c5
  clear hcell
  have hOm := hO.mem
  simp only at hOm
  have hold := heap_r0 w (.cells #[.int .i64 0, .int .i64 0, .int .i64 0, .string ⟨#[]⟩, .slice none 0 0, .bool false] TR)
  have HB : Hid (Below w.heap.size w (w.alloc (.cells #[.int .i64 14, .int .i64 el, .int .i64 ln, .string tg, .slice sp0 mm.length sc0, .bool dn] TR))) := (Below.refl _ w).alloc (Nat.le_refl _) _
  have E1 := heap_r0 w (.cells #[.int .i64 14, .int .i64 el, .int .i64 ln, .string tg, .slice sp0 mm.length sc0, .bool dn] TR)
  have HT : Hid (RT _ b v rs) := h.below HB.out
  have HM : Hid (MemSl _ _ mm) := hms.below HB.out
  have HO : Hid (Okay _) := hO
  obtain ⟨RES, hRES⟩ : ∃ x, x = shapedB rs i ⟨14, el, ln, tg, mm, dn⟩ := ⟨_, rfl⟩
  rw [← hRES]
  have HR : Hid (RES = _) := hRES
  clear hRES h hp hms hO
  have hbz : ∀ (k : Int) (W : World), (Instr.build TR #[(0, .int .i64 k)]).run Tryz.prog W = .ok (.agg #[.int .i64 k, .int .i64 0, .int .i64 0, .string ⟨#[]⟩, .slice none 0 0, .bool false]) W := fun k W => by kernel_rfl
  go_enter Tryz.func42, Tryz.ntmps42
  go_upto_region 2 with (first | ((with_reducible apply step_store hold); rfl; rfl; kernel_rfl; rfl; kernel_rfl; rw [World.setRow_alloc_new]) | fail)
  generalize w.alloc (.cells #[.int .i64 14, .int .i64 el, .int .i64 ln, .string tg, .slice sp0 mm.length sc0, .bool dn] TR) = W at *
  have a0 := Lib.cell_of_heap E1 0
  have a1 := Lib.cell_of_heap E1 1
  have a2 := Lib.cell_of_heap E1 2
  have a3 := Lib.cell_of_heap E1 3
  have a4 := Lib.cell_of_heap E1 4
  have a5 := Lib.cell_of_heap E1 5
  simp only [List.getElem?_toArray, List.getElem?_cons_zero, List.getElem?_cons_succ] at a0 a1 a2 a3 a4 a5
  clear c0 c1 c2 c3 c4 c5 hold E1 hc
  · have hin : ¬ (i : Int) < 11 := by omega
    have cT := refTag_c tg W HO.out.tag
    have cM := rMembers_c HT.out HM.out HO.out.names (by omega)
    have cW := rWhole_c HT.out el
    have cL := rLength_c ln W
    have hnd : ∀ (x : Bool) (W : World), (Op.unary UnOp.not (.bool x)).run Tryz.prog W = .ok (.bool (!x)) W := fun x W => by cases x <;> rfl
    by_cases q6 : 0 ≤ el
    case neg =>
      have z6 : ¬ 0 ≤ el := q6
      have hr : RES = false := by rw [HR.out]; simp [shapedB, hi, q6]
      subst hr
      clear HR
      go_wp2_with (first | (go_at_call 72; refine cT.mono ?_; rintro e w2 ⟨rfl, rfl⟩) | (go_at_call 59; refine cW.mono ?_; rintro e w2 ⟨rfl, rfl⟩) | (go_at_call 74; refine cL.mono ?_; rintro e w2 ⟨rfl, rfl⟩) | (go_at_call 73; refine cM.mono ?_; rintro e w2 ⟨rfl, hb2⟩))
      all_goals go_ret
      all_goals first | exact ⟨rfl, HB.out⟩ | exact ⟨rfl, HB.out.trans (hb2.mono HB.out.size)⟩
    by_cases q7 : el < (i : Int)
    case neg =>
      have z7 : ¬ el < (i : Int) := q7
      have hr : RES = false := by rw [HR.out]; simp [shapedB, hi, q6, q7]
      subst hr
      clear HR
      go_wp2_with (first | (go_at_call 72; refine cT.mono ?_; rintro e w2 ⟨rfl, rfl⟩) | (go_at_call 59; refine cW.mono ?_; rintro e w2 ⟨rfl, rfl⟩) | (go_at_call 74; refine cL.mono ?_; rintro e w2 ⟨rfl, rfl⟩) | (go_at_call 73; refine cM.mono ?_; rintro e w2 ⟨rfl, hb2⟩))
      all_goals go_ret
      all_goals first | exact ⟨rfl, HB.out⟩ | exact ⟨rfl, HB.out.trans (hb2.mono HB.out.size)⟩
    by_cases q9 : lenK ln = true
    case neg =>
      have q9' : lenK ln = false := by simpa using q9
      rw [q9'] at cL
      have hr : RES = false := by rw [HR.out]; simp [shapedB, hi, q6, q7, q9']
      subst hr
      clear HR
      go_wp2_with (first | (go_at_call 72; refine cT.mono ?_; rintro e w2 ⟨rfl, rfl⟩) | (go_at_call 59; refine cW.mono ?_; rintro e w2 ⟨rfl, rfl⟩) | (go_at_call 74; refine cL.mono ?_; rintro e w2 ⟨rfl, rfl⟩) | (go_at_call 73; refine cM.mono ?_; rintro e w2 ⟨rfl, hb2⟩))
      all_goals go_ret
      all_goals first | exact ⟨rfl, HB.out⟩ | exact ⟨rfl, HB.out.trans (hb2.mono HB.out.size)⟩
    rw [q9] at cL
    by_cases q8 : tg.toList = []
    case neg =>
      have z8 : (tg.toList == []) = false := by simpa using q8
      have hr : RES = false := by rw [HR.out]; simp [shapedB, hi, q6, q7, q9, q8]
      subst hr
      clear HR
      go_wp2_with (first | (go_at_call 72; refine cT.mono ?_; rintro e w2 ⟨rfl, rfl⟩) | (go_at_call 59; refine cW.mono ?_; rintro e w2 ⟨rfl, rfl⟩) | (go_at_call 74; refine cL.mono ?_; rintro e w2 ⟨rfl, rfl⟩) | (go_at_call 73; refine cM.mono ?_; rintro e w2 ⟨rfl, hb2⟩))
      all_goals go_ret
      all_goals first | exact ⟨rfl, HB.out⟩ | exact ⟨rfl, HB.out.trans (hb2.mono HB.out.size)⟩
    have z8 : (tg.toList == []) = true := by rw [q8]; rfl
    by_cases q4 : mm.length = 0
    case neg =>
      have z4 : ((mm.length : Int) == 0) = false := by simp; intro e; exact q4 (by rw [e]; rfl)
      have hr : RES = false := by rw [HR.out]; simp [shapedB, hi, q6, q7, q9, q8, plainB, q4]
      subst hr
      clear HR
      go_wp2_with (first | (go_at_call 72; refine cT.mono ?_; rintro e w2 ⟨rfl, rfl⟩) | (go_at_call 59; refine cW.mono ?_; rintro e w2 ⟨rfl, rfl⟩) | (go_at_call 74; refine cL.mono ?_; rintro e w2 ⟨rfl, rfl⟩) | (go_at_call 73; refine cM.mono ?_; rintro e w2 ⟨rfl, hb2⟩))
      all_goals go_ret
      all_goals first | exact ⟨rfl, HB.out⟩ | exact ⟨rfl, HB.out.trans (hb2.mono HB.out.size)⟩
    have z4 : ((mm.length : Int) == 0) = true := by simp; exact List.eq_nil_of_length_eq_zero q4
    by_cases q5 : dn = false
    case neg =>
      have q5' : dn = true := by simpa using q5
      subst q5'
      have hr : RES = false := by rw [HR.out]; simp [shapedB, hi, q6, q7, q9, q8, q4, plainB]
      subst hr
      clear HR
      go_wp2_with (first | (go_at_call 72; refine cT.mono ?_; rintro e w2 ⟨rfl, rfl⟩) | (go_at_call 59; refine cW.mono ?_; rintro e w2 ⟨rfl, rfl⟩) | (go_at_call 74; refine cL.mono ?_; rintro e w2 ⟨rfl, rfl⟩) | (go_at_call 73; refine cM.mono ?_; rintro e w2 ⟨rfl, hb2⟩))
      all_goals go_ret
      all_goals first | exact ⟨rfl, HB.out⟩ | exact ⟨rfl, HB.out.trans (hb2.mono HB.out.size)⟩
    subst q5
    by_cases q10 : rWholeP rs el = true
    case neg =>
      have q10' : rWholeP rs el = false := by simpa using q10
      rw [q10'] at cW
      have hr : RES = false := by rw [HR.out]; simp [shapedB, hi, q6, q7, q9, q8, q4, plainB, q10']
      subst hr
      clear HR
      go_wp2_with (first | (go_at_call 72; refine cT.mono ?_; rintro e w2 ⟨rfl, rfl⟩) | (go_at_call 59; refine cW.mono ?_; rintro e w2 ⟨rfl, rfl⟩) | (go_at_call 74; refine cL.mono ?_; rintro e w2 ⟨rfl, rfl⟩) | (go_at_call 73; refine cM.mono ?_; rintro e w2 ⟨rfl, hb2⟩))
      all_goals go_ret
      all_goals first | exact ⟨rfl, HB.out⟩ | exact ⟨rfl, HB.out.trans (hb2.mono HB.out.size)⟩
    rw [q10] at cW
    have hr : RES = true := by rw [HR.out]; simp [shapedB, hi, q6, q7, q9, q8, q4, plainB, q10]
    subst hr
    clear HR
    go_wp2_with (first | (go_at_call 72; refine cT.mono ?_; rintro e w2 ⟨rfl, rfl⟩) | (go_at_call 59; refine cW.mono ?_; rintro e w2 ⟨rfl, rfl⟩) | (go_at_call 74; refine cL.mono ?_; rintro e w2 ⟨rfl, rfl⟩) | (go_at_call 73; refine cM.mono ?_; rintro e w2 ⟨rfl, hb2⟩))
    all_goals go_ret
    all_goals first | exact ⟨rfl, HB.out⟩ | exact ⟨rfl, HB.out.trans (hb2.mono HB.out.size)⟩

set_option maxHeartbeats 4000000 in
theorem rShaped_15 (h : RT w b v rs) {i : Nat} {p : Rw × Value} (hp : rs[i]? = some p) (hO : Okay p.1) (hi : ¬ i < 11) (hk : p.1.kind = 15) :
    Calls Tryz.prog 42 #[.pointer (some ⟨b, 0, none⟩), .int .i64 i] w fun e w' => e = .returned (.bool (shapedB rs i p.1)) ∧ Below w.heap.size w w' := by
  have hlt : i < rs.length := (List.getElem?_eq_some_iff.1 hp).1
  have hl := h.len
  have h1 := not_f
  have h2 := not_t
  have hc := h.cell
  obtain ⟨g, o, cap, hv, hcap, hcell⟩ := h.at hp
  have hms := h.rows.2 p (List.mem_of_getElem? hp)
  obtain ⟨sp0, sc0, hs0⟩ : ∃ sp sc, p.2 = .slice sp p.1.mem.length sc := by
    rcases hms with ⟨e, h⟩ | ⟨g, o, cap, e, _⟩
    · rw [e, h]; exact ⟨none, 0, rfl⟩
    · exact ⟨_, _, e⟩
  obtain ⟨⟨kd, el, ln, tg, mm, dn⟩, s0⟩ := p
  simp only at hs0 hk
  subst hs0
  subst hk
  rw [hv] at hc
  have c0 := hcell 0 (by omega)
  have c1 := hcell 1 (by omega)
  have c2 := hcell 2 (by omega)
  have c3 := hcell 3 (by omega)
  have c4 := hcell 4 (by omega)
  have c5 := hcell 5 (by omega)
  simp only [rwCells, Nat.add_zero, List.getElem?_cons_zero, List.getElem?_cons_succ] at c0 c1 c2 c3 c4 c5
  clear hcell
  have hOm := hO.mem
  simp only at hOm
  have hold := heap_r0 w (.cells #[.int .i64 0, .int .i64 0, .int .i64 0, .string ⟨#[]⟩, .slice none 0 0, .bool false] TR)
  have HB : Hid (Below w.heap.size w (w.alloc (.cells #[.int .i64 15, .int .i64 el, .int .i64 ln, .string tg, .slice sp0 mm.length sc0, .bool dn] TR))) := (Below.refl _ w).alloc (Nat.le_refl _) _
  have E1 := heap_r0 w (.cells #[.int .i64 15, .int .i64 el, .int .i64 ln, .string tg, .slice sp0 mm.length sc0, .bool dn] TR)
  have HT : Hid (RT _ b v rs) := h.below HB.out
  have HM : Hid (MemSl _ _ mm) := hms.below HB.out
  have HO : Hid (Okay _) := hO
  obtain ⟨RES, hRES⟩ : ∃ x, x = shapedB rs i ⟨15, el, ln, tg, mm, dn⟩ := ⟨_, rfl⟩
  rw [← hRES]
  have HR : Hid (RES = _) := hRES
  clear hRES h hp hms hO
  have hbz : ∀ (k : Int) (W : World), (Instr.build TR #[(0, .int .i64 k)]).run Tryz.prog W = .ok (.agg #[.int .i64 k, .int .i64 0, .int .i64 0, .string ⟨#[]⟩, .slice none 0 0, .bool false]) W := fun k W => by kernel_rfl
  go_enter Tryz.func42, Tryz.ntmps42
  go_upto_region 2 with (first | ((with_reducible apply step_store hold); rfl; rfl; kernel_rfl; rfl; kernel_rfl; rw [World.setRow_alloc_new]) | fail)
  generalize w.alloc (.cells #[.int .i64 15, .int .i64 el, .int .i64 ln, .string tg, .slice sp0 mm.length sc0, .bool dn] TR) = W at *
  have a0 := Lib.cell_of_heap E1 0
  have a1 := Lib.cell_of_heap E1 1
  have a2 := Lib.cell_of_heap E1 2
  have a3 := Lib.cell_of_heap E1 3
  have a4 := Lib.cell_of_heap E1 4
  have a5 := Lib.cell_of_heap E1 5
  simp only [List.getElem?_toArray, List.getElem?_cons_zero, List.getElem?_cons_succ] at a0 a1 a2 a3 a4 a5
  clear c0 c1 c2 c3 c4 c5 hold E1 hc
  · have hin : ¬ (i : Int) < 11 := by omega
    have cT := refTag_c tg W HO.out.tag
    have cM := rMembers_c HT.out HM.out HO.out.names (by omega)
    have cW := rWhole_c HT.out el
    have cL := rLength_c ln W
    have hnd : ∀ (x : Bool) (W : World), (Op.unary UnOp.not (.bool x)).run Tryz.prog W = .ok (.bool (!x)) W := fun x W => by cases x <;> rfl
    by_cases q1 : el = 0
    case neg =>
      have z1 : (el == 0) = false := by simpa using q1
      have hr : RES = false := by rw [HR.out]; simp [shapedB, hi, q1]
      subst hr
      clear HR
      go_wp2_with (first | (go_at_call 72; refine cT.mono ?_; rintro e w2 ⟨rfl, rfl⟩) | (go_at_call 59; refine cW.mono ?_; rintro e w2 ⟨rfl, rfl⟩) | (go_at_call 74; refine cL.mono ?_; rintro e w2 ⟨rfl, rfl⟩) | (go_at_call 73; refine cM.mono ?_; rintro e w2 ⟨rfl, hb2⟩))
      all_goals go_ret
      all_goals first | exact ⟨rfl, HB.out⟩ | exact ⟨rfl, HB.out.trans (hb2.mono HB.out.size)⟩
    subst q1
    by_cases q2 : ln = 0
    case neg =>
      have z2 : (ln == 0) = false := by simpa using q2
      have hr : RES = false := by rw [HR.out]; simp [shapedB, hi, q2]
      subst hr
      clear HR
      go_wp2_with (first | (go_at_call 72; refine cT.mono ?_; rintro e w2 ⟨rfl, rfl⟩) | (go_at_call 59; refine cW.mono ?_; rintro e w2 ⟨rfl, rfl⟩) | (go_at_call 74; refine cL.mono ?_; rintro e w2 ⟨rfl, rfl⟩) | (go_at_call 73; refine cM.mono ?_; rintro e w2 ⟨rfl, hb2⟩))
      all_goals go_ret
      all_goals first | exact ⟨rfl, HB.out⟩ | exact ⟨rfl, HB.out.trans (hb2.mono HB.out.size)⟩
    subst q2
    by_cases q3 : tagP tg.data.toList = true
    case neg =>
      have q3' : tagP tg.data.toList = false := by simpa using q3
      rw [q3'] at cT
      have hr : RES = false := by rw [HR.out]; simp [shapedB, hi, q3']
      subst hr
      clear HR
      go_wp2_with (first | (go_at_call 72; refine cT.mono ?_; rintro e w2 ⟨rfl, rfl⟩) | (go_at_call 59; refine cW.mono ?_; rintro e w2 ⟨rfl, rfl⟩) | (go_at_call 74; refine cL.mono ?_; rintro e w2 ⟨rfl, rfl⟩) | (go_at_call 73; refine cM.mono ?_; rintro e w2 ⟨rfl, hb2⟩))
      all_goals go_ret
      all_goals first | exact ⟨rfl, HB.out⟩ | exact ⟨rfl, HB.out.trans (hb2.mono HB.out.size)⟩
    rw [q3] at cT
    cases dn
    case true =>
      have hr : RES = (rRefusP rs mm == 0) := by rw [HR.out]; simp [shapedB, hi, q3, plainB]
      have HR2 : Hid (RES = _) := hr
      clear hr HR
      generalize rRefusP rs mm = Z at *
      by_cases q4 : mm.length = 0
      · rw [q4] at cM a4
        go_wp2_with (first | (go_at_call 72; refine cT.mono ?_; rintro e w2 ⟨rfl, rfl⟩) | (go_at_call 59; refine cW.mono ?_; rintro e w2 ⟨rfl, rfl⟩) | (go_at_call 74; refine cL.mono ?_; rintro e w2 ⟨rfl, rfl⟩) | (go_at_call 73; refine cM.mono ?_; rintro e w2 ⟨rfl, hb2⟩))
        all_goals go_ret
        all_goals exact ⟨bool_ret (by rw [HR2.out]), HB.out.trans (hb2.mono HB.out.size)⟩
      · have z4 : ((mm.length : Int) == 0) = false := by simp; intro e; exact q4 (by rw [e]; rfl)
        go_wp2_with (first | (go_at_call 72; refine cT.mono ?_; rintro e w2 ⟨rfl, rfl⟩) | (go_at_call 59; refine cW.mono ?_; rintro e w2 ⟨rfl, rfl⟩) | (go_at_call 74; refine cL.mono ?_; rintro e w2 ⟨rfl, rfl⟩) | (go_at_call 73; refine cM.mono ?_; rintro e w2 ⟨rfl, hb2⟩))
        all_goals go_ret
        all_goals exact ⟨bool_ret (by rw [HR2.out]), HB.out.trans (hb2.mono HB.out.size)⟩
    by_cases q4 : mm.length = 0
    case neg =>
      have z4 : ((mm.length : Int) == 0) = false := by simp; intro e; exact q4 (by rw [e]; rfl)
      have hr : RES = false := by rw [HR.out]; simp [shapedB, hi, q3, plainB, q4]
      subst hr
      clear HR
      go_wp2_with (first | (go_at_call 72; refine cT.mono ?_; rintro e w2 ⟨rfl, rfl⟩) | (go_at_call 59; refine cW.mono ?_; rintro e w2 ⟨rfl, rfl⟩) | (go_at_call 74; refine cL.mono ?_; rintro e w2 ⟨rfl, rfl⟩) | (go_at_call 73; refine cM.mono ?_; rintro e w2 ⟨rfl, hb2⟩))
      all_goals go_ret
      all_goals first | exact ⟨rfl, HB.out⟩ | exact ⟨rfl, HB.out.trans (hb2.mono HB.out.size)⟩
    have z4 : ((mm.length : Int) == 0) = true := by simp; exact List.eq_nil_of_length_eq_zero q4
    have hr : RES = true := by rw [HR.out]; simp [shapedB, hi, q3, plainB, q4]
    subst hr
    clear HR
    go_wp2_with (first | (go_at_call 72; refine cT.mono ?_; rintro e w2 ⟨rfl, rfl⟩) | (go_at_call 59; refine cW.mono ?_; rintro e w2 ⟨rfl, rfl⟩) | (go_at_call 74; refine cL.mono ?_; rintro e w2 ⟨rfl, rfl⟩) | (go_at_call 73; refine cM.mono ?_; rintro e w2 ⟨rfl, hb2⟩))
    all_goals go_ret
    all_goals first | exact ⟨rfl, HB.out⟩ | exact ⟨rfl, HB.out.trans (hb2.mono HB.out.size)⟩

set_option maxHeartbeats 4000000 in
theorem rShaped_16 (h : RT w b v rs) {i : Nat} {p : Rw × Value} (hp : rs[i]? = some p) (hO : Okay p.1) (hi : ¬ i < 11) (hk : p.1.kind = 16) :
    Calls Tryz.prog 42 #[.pointer (some ⟨b, 0, none⟩), .int .i64 i] w fun e w' => e = .returned (.bool (shapedB rs i p.1)) ∧ Below w.heap.size w w' := by
  have hlt : i < rs.length := (List.getElem?_eq_some_iff.1 hp).1
  have hl := h.len
  have h1 := not_f
  have h2 := not_t
  have hc := h.cell
  obtain ⟨g, o, cap, hv, hcap, hcell⟩ := h.at hp
  have hms := h.rows.2 p (List.mem_of_getElem? hp)
  obtain ⟨sp0, sc0, hs0⟩ : ∃ sp sc, p.2 = .slice sp p.1.mem.length sc := by
    rcases hms with ⟨e, h⟩ | ⟨g, o, cap, e, _⟩
    · rw [e, h]; exact ⟨none, 0, rfl⟩
    · exact ⟨_, _, e⟩
  obtain ⟨⟨kd, el, ln, tg, mm, dn⟩, s0⟩ := p
  simp only at hs0 hk
  subst hs0
  subst hk
  rw [hv] at hc
  have c0 := hcell 0 (by omega)
  have c1 := hcell 1 (by omega)
  have c2 := hcell 2 (by omega)
  have c3 := hcell 3 (by omega)
  have c4 := hcell 4 (by omega)
  have c5 := hcell 5 (by omega)
  simp only [rwCells, Nat.add_zero, List.getElem?_cons_zero, List.getElem?_cons_succ] at c0 c1 c2 c3 c4 c5
  clear hcell
  have hOm := hO.mem
  simp only at hOm
  have hold := heap_r0 w (.cells #[.int .i64 0, .int .i64 0, .int .i64 0, .string ⟨#[]⟩, .slice none 0 0, .bool false] TR)
  have HB : Hid (Below w.heap.size w (w.alloc (.cells #[.int .i64 16, .int .i64 el, .int .i64 ln, .string tg, .slice sp0 mm.length sc0, .bool dn] TR))) := (Below.refl _ w).alloc (Nat.le_refl _) _
  have E1 := heap_r0 w (.cells #[.int .i64 16, .int .i64 el, .int .i64 ln, .string tg, .slice sp0 mm.length sc0, .bool dn] TR)
  have HT : Hid (RT _ b v rs) := h.below HB.out
  have HM : Hid (MemSl _ _ mm) := hms.below HB.out
  have HO : Hid (Okay _) := hO
  obtain ⟨RES, hRES⟩ : ∃ x, x = shapedB rs i ⟨16, el, ln, tg, mm, dn⟩ := ⟨_, rfl⟩
  rw [← hRES]
  have HR : Hid (RES = _) := hRES
  clear hRES h hp hms hO
  have hbz : ∀ (k : Int) (W : World), (Instr.build TR #[(0, .int .i64 k)]).run Tryz.prog W = .ok (.agg #[.int .i64 k, .int .i64 0, .int .i64 0, .string ⟨#[]⟩, .slice none 0 0, .bool false]) W := fun k W => by kernel_rfl
  go_enter Tryz.func42, Tryz.ntmps42
  go_upto_region 2 with (first | ((with_reducible apply step_store hold); rfl; rfl; kernel_rfl; rfl; kernel_rfl; rw [World.setRow_alloc_new]) | fail)
  generalize w.alloc (.cells #[.int .i64 16, .int .i64 el, .int .i64 ln, .string tg, .slice sp0 mm.length sc0, .bool dn] TR) = W at *
  have a0 := Lib.cell_of_heap E1 0
  have a1 := Lib.cell_of_heap E1 1
  have a2 := Lib.cell_of_heap E1 2
  have a3 := Lib.cell_of_heap E1 3
  have a4 := Lib.cell_of_heap E1 4
  have a5 := Lib.cell_of_heap E1 5
  simp only [List.getElem?_toArray, List.getElem?_cons_zero, List.getElem?_cons_succ] at a0 a1 a2 a3 a4 a5
  clear c0 c1 c2 c3 c4 c5 hold E1 hc
  · have hin : ¬ (i : Int) < 11 := by omega
    have cT := refTag_c tg W HO.out.tag
    have cM := rMembers_c HT.out HM.out HO.out.names (by omega)
    have cW := rWhole_c HT.out el
    have cL := rLength_c ln W
    have hnd : ∀ (x : Bool) (W : World), (Op.unary UnOp.not (.bool x)).run Tryz.prog W = .ok (.bool (!x)) W := fun x W => by cases x <;> rfl
    by_cases q1 : el = 0
    case neg =>
      have z1 : (el == 0) = false := by simpa using q1
      have hr : RES = false := by rw [HR.out]; simp [shapedB, hi, q1]
      subst hr
      clear HR
      go_wp2_with (first | (go_at_call 72; refine cT.mono ?_; rintro e w2 ⟨rfl, rfl⟩) | (go_at_call 59; refine cW.mono ?_; rintro e w2 ⟨rfl, rfl⟩) | (go_at_call 74; refine cL.mono ?_; rintro e w2 ⟨rfl, rfl⟩) | (go_at_call 73; refine cM.mono ?_; rintro e w2 ⟨rfl, hb2⟩))
      all_goals go_ret
      all_goals first | exact ⟨rfl, HB.out⟩ | exact ⟨rfl, HB.out.trans (hb2.mono HB.out.size)⟩
    subst q1
    by_cases q2 : ln = 0
    case neg =>
      have z2 : (ln == 0) = false := by simpa using q2
      have hr : RES = false := by rw [HR.out]; simp [shapedB, hi, q2]
      subst hr
      clear HR
      go_wp2_with (first | (go_at_call 72; refine cT.mono ?_; rintro e w2 ⟨rfl, rfl⟩) | (go_at_call 59; refine cW.mono ?_; rintro e w2 ⟨rfl, rfl⟩) | (go_at_call 74; refine cL.mono ?_; rintro e w2 ⟨rfl, rfl⟩) | (go_at_call 73; refine cM.mono ?_; rintro e w2 ⟨rfl, hb2⟩))
      all_goals go_ret
      all_goals first | exact ⟨rfl, HB.out⟩ | exact ⟨rfl, HB.out.trans (hb2.mono HB.out.size)⟩
    subst q2
    by_cases q3 : tagP tg.data.toList = true
    case neg =>
      have q3' : tagP tg.data.toList = false := by simpa using q3
      rw [q3'] at cT
      have hr : RES = false := by rw [HR.out]; simp [shapedB, hi, q3']
      subst hr
      clear HR
      go_wp2_with (first | (go_at_call 72; refine cT.mono ?_; rintro e w2 ⟨rfl, rfl⟩) | (go_at_call 59; refine cW.mono ?_; rintro e w2 ⟨rfl, rfl⟩) | (go_at_call 74; refine cL.mono ?_; rintro e w2 ⟨rfl, rfl⟩) | (go_at_call 73; refine cM.mono ?_; rintro e w2 ⟨rfl, hb2⟩))
      all_goals go_ret
      all_goals first | exact ⟨rfl, HB.out⟩ | exact ⟨rfl, HB.out.trans (hb2.mono HB.out.size)⟩
    rw [q3] at cT
    cases dn
    case true =>
      have hr : RES = (rRefusP rs mm == 0) := by rw [HR.out]; simp [shapedB, hi, q3, plainB]
      have HR2 : Hid (RES = _) := hr
      clear hr HR
      generalize rRefusP rs mm = Z at *
      by_cases q4 : mm.length = 0
      · rw [q4] at cM a4
        go_wp2_with (first | (go_at_call 72; refine cT.mono ?_; rintro e w2 ⟨rfl, rfl⟩) | (go_at_call 59; refine cW.mono ?_; rintro e w2 ⟨rfl, rfl⟩) | (go_at_call 74; refine cL.mono ?_; rintro e w2 ⟨rfl, rfl⟩) | (go_at_call 73; refine cM.mono ?_; rintro e w2 ⟨rfl, hb2⟩))
        all_goals go_ret
        all_goals exact ⟨bool_ret (by rw [HR2.out]), HB.out.trans (hb2.mono HB.out.size)⟩
      · have z4 : ((mm.length : Int) == 0) = false := by simp; intro e; exact q4 (by rw [e]; rfl)
        go_wp2_with (first | (go_at_call 72; refine cT.mono ?_; rintro e w2 ⟨rfl, rfl⟩) | (go_at_call 59; refine cW.mono ?_; rintro e w2 ⟨rfl, rfl⟩) | (go_at_call 74; refine cL.mono ?_; rintro e w2 ⟨rfl, rfl⟩) | (go_at_call 73; refine cM.mono ?_; rintro e w2 ⟨rfl, hb2⟩))
        all_goals go_ret
        all_goals exact ⟨bool_ret (by rw [HR2.out]), HB.out.trans (hb2.mono HB.out.size)⟩
    by_cases q4 : mm.length = 0
    case neg =>
      have z4 : ((mm.length : Int) == 0) = false := by simp; intro e; exact q4 (by rw [e]; rfl)
      have hr : RES = false := by rw [HR.out]; simp [shapedB, hi, q3, plainB, q4]
      subst hr
      clear HR
      go_wp2_with (first | (go_at_call 72; refine cT.mono ?_; rintro e w2 ⟨rfl, rfl⟩) | (go_at_call 59; refine cW.mono ?_; rintro e w2 ⟨rfl, rfl⟩) | (go_at_call 74; refine cL.mono ?_; rintro e w2 ⟨rfl, rfl⟩) | (go_at_call 73; refine cM.mono ?_; rintro e w2 ⟨rfl, hb2⟩))
      all_goals go_ret
      all_goals first | exact ⟨rfl, HB.out⟩ | exact ⟨rfl, HB.out.trans (hb2.mono HB.out.size)⟩
    have z4 : ((mm.length : Int) == 0) = true := by simp; exact List.eq_nil_of_length_eq_zero q4
    have hr : RES = true := by rw [HR.out]; simp [shapedB, hi, q3, plainB, q4]
    subst hr
    clear HR
    go_wp2_with (first | (go_at_call 72; refine cT.mono ?_; rintro e w2 ⟨rfl, rfl⟩) | (go_at_call 59; refine cW.mono ?_; rintro e w2 ⟨rfl, rfl⟩) | (go_at_call 74; refine cL.mono ?_; rintro e w2 ⟨rfl, rfl⟩) | (go_at_call 73; refine cM.mono ?_; rintro e w2 ⟨rfl, hb2⟩))
    all_goals go_ret
    all_goals first | exact ⟨rfl, HB.out⟩ | exact ⟨rfl, HB.out.trans (hb2.mono HB.out.size)⟩

end
theorem rShaped_c {w : World} {b : Nat} {v : Value} {rs : List (Rw × Value)} (h : RT w b v rs) {i : Nat} {p : Rw × Value} (hp : rs[i]? = some p) (hO : Okay p.1) :
    Calls Tryz.prog 42 #[.pointer (some ⟨b, 0, none⟩), .int .i64 i] w fun e w' => e = .returned (.bool (shapedB rs i p.1)) ∧ Below w.heap.size w w' := by
  by_cases hi : i < 11
  · exact rShaped_0 h hp hO (Or.inl hi)
  by_cases h12 : p.1.kind = 12
  · exact rShaped_12 h hp hO hi h12
  by_cases h13 : p.1.kind = 13
  · exact rShaped_13 h hp hO hi h13
  by_cases h14 : p.1.kind = 14
  · exact rShaped_14 h hp hO hi h14
  by_cases h15 : p.1.kind = 15
  · exact rShaped_15 h hp hO hi h15
  by_cases h16 : p.1.kind = 16
  · exact rShaped_16 h hp hO hi h16
  · exact rShaped_0 h hp hO (Or.inr ⟨h12, h13, h14, h15, h16⟩)
end Go.Proofs.YtlcghlfmaohfeaaGreat
