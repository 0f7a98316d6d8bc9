/-
  isNamed: may a member have its name?
-/
import Derived.Test.YtdfkkflpcamhjaaGreatDoorKinds
import Derived.Test.YtdfkkflpcamhjaaGreatDoorTag
import Derived.Deep.DeepMust
namespace Go.Proofs.YtdfkkflpcamhjaaGreatDoor
open Go.RowKit Go.Maps
set_option linter.unusedVariables false
set_option maxRecDepth 100000

/-- A slice of members, wherever it begins. -/
def MemSl (w : World) (v : Value) (l : List Mb) : Prop :=
  (v = .slice none 0 0 ∧ l = []) ∨ ∃ g o cap, v = .slice (some ⟨g, o, none⟩) l.length cap ∧ l.length ≤ cap ∧ g < w.heap.size ∧ ∀ i m, l[i]? = some m → ∀ j, j < 3 → w.cell? ⟨g, o + i * 3 + j, none⟩ = (mbCells m)[j]?
theorem MemSl.below {w w' : World} {v : Value} {l : List Mb} (h : MemSl w v l) (hb : Below w.heap.size w w') : MemSl w' v l := by
  rcases h with h | ⟨g, o, cap, h1, h2, h3, h4⟩
  · exact Or.inl h
  · exact Or.inr ⟨g, o, cap, h1, h2, Nat.lt_of_lt_of_le h3 hb.size, fun i m hm j hj => by rw [hb.cell (p := ⟨g, o + i * 3 + j, none⟩) h3]; exact h4 i m hm j hj⟩

section
variable {w : World}
/-- The closure: has an earlier member the name? g: the block of the member that isNamed was handed. -/
theorem named1_c (g : Nat) (nm : ByteArray) (hc : w.cell? ⟨g, 0, none⟩ = some (.string nm)) (a : ByteArray) (t n : Int) :
    Calls Tryz.prog 89 #[.agg #[.string a, .int .i64 t, .int .i64 n], .pointer (some ⟨g, 0, none⟩)] w fun e w' => e = .returned (.bool (a.toList == nm.toList)) ∧ Below w.heap.size w w' := by
  have hb : Below w.heap.size w (w.alloc (.cells #[.string a, .int .i64 t, .int .i64 n] TM)) := (Below.refl _ w).alloc (Nat.le_refl _) _
  have hc2 : (w.alloc (.cells #[.string a, .int .i64 t, .int .i64 n] TM)).cell? ⟨g, 0, none⟩ = some (.string nm) := by
    rw [hb.cell (p := ⟨g, 0, none⟩) (World.block_lt_of_cell? w _ hc)]; exact hc
  go_enter Tryz.func89, Tryz.ntmps89
  go_wp2
  go_ret
  exact ⟨rfl, hb⟩

def anyNm (l : List Mb) (nm : ByteArray) : Bool := l.any fun m => m.name.toList == nm.toList

set_option maxHeartbeats 1000000 in
theorem indexFunc_c (g : Nat) (nm : ByteArray) (hc : w.cell? ⟨g, 0, none⟩ = some (.string nm)) {v : Value} {l : List Mb} (hl : MemSl w v l) (hn : l.length ≤ 64) :
    Calls Tryz.prog 93 #[v, .func (.func 89) #[] #[.pointer (some ⟨g, 0, none⟩)]] w fun e w' => (∃ x : Int, e = .returned (.int .i64 x) ∧ decide (0 ≤ x) = anyNm l nm) ∧ Below w.heap.size w w' := by
  rcases hl with ⟨rfl, rfl⟩ | ⟨ga, oa, cap, rfl, hcap, hg, hcell⟩
  · go_enter Tryz.func93, Tryz.ntmps93
    go_wp2
    refine wp_loop_rounds 1 ?_
    rw [rounds_succ]
    go_wp2
    go_ret
    exact ⟨⟨_, rfl, rfl⟩, Below.refl _ _⟩
  · go_enter Tryz.func93, Tryz.ntmps93
    go_wp2
    go_loopw [8] (fun i wr => ∃ k : Nat, i = .int .i64 k ∧ k ≤ l.length ∧ Hid (anyNm l nm = anyNm (l.drop k) nm) ∧ Hid (Below w.heap.size w wr)) (fun i _ => l.length - (intOf i).toNat)
    case atStart => exact ⟨0, rfl, Nat.zero_le _, by simp [Hid], Below.refl _ _⟩
    case round =>
      obtain ⟨k, rfl, hk, hR, HB⟩ := hrel
      by_cases hlt : k < l.length
      · obtain ⟨m, hm⟩ : ∃ m, l[k]? = some m := ⟨_, List.getElem?_eq_getElem hlt⟩
        have HN : Hid (anyNm (l.drop k) nm = ((m.name.toList == nm.toList) || anyNm (l.drop (k + 1)) nm)) := by
          show _ = _
          rw [List.drop_eq_getElem_cons hlt]
          rw [List.getElem?_eq_getElem hlt] at hm
          cases hm; rfl
        have q := fun j hj => (HB.out.cell (p := ⟨ga, oa + k * 3 + j, none⟩) hg).trans (hcell k m hm j hj)
        have a0 := q 0 (by omega)
        have a1 := q 1 (by omega)
        have a2 := q 2 (by omega)
        simp only [mbCells, Nat.add_zero, List.getElem?_cons_zero, List.getElem?_cons_succ] at a0 a1 a2
        have hc3 : wr.cell? ⟨g, 0, none⟩ = some (.string nm) := (HB.out.cell (p := ⟨g, 0, none⟩) (World.block_lt_of_cell? w _ hc)).trans hc
        have c := named1_c g nm hc3 m.name m.type m.bits
        clear q hm hc3 hcell hc
        rcases hb : (m.name.toList == nm.toList) with _ | _ <;> rw [hb] at c HN
        · go_wp2_with fail
          refine c.mono ?_
          rintro e w1 ⟨rfl, hb1⟩
          go_wp2
          refine ⟨⟨k + 1, by go_num, by omega, ?_, ?_⟩, by simp [intOf]; omega⟩
          · show _ = _; rw [hR.out, HN.out]; rfl
          · exact HB.out.trans (hb1.mono HB.out.size)
        · go_wp2_with fail
          refine c.mono ?_
          rintro e w1 ⟨rfl, hb1⟩
          go_wp2
          go_ret
          refine ⟨⟨_, rfl, ?_⟩, HB.out.trans (hb1.mono HB.out.size)⟩
          rw [hR.out, HN.out]; simp
      · go_wp2
        go_ret
        refine ⟨⟨_, rfl, ?_⟩, HB.out⟩
        rw [hR.out, List.drop_eq_nil_of_le (by omega)]; rfl

theorem containsFunc_c (g : Nat) (nm : ByteArray) (hc : w.cell? ⟨g, 0, none⟩ = some (.string nm)) {v : Value} {l : List Mb} (hl : MemSl w v l) (hn : l.length ≤ 64) :
    Calls Tryz.prog 88 #[v, .func (.func 89) #[] #[.pointer (some ⟨g, 0, none⟩)]] w fun e w' => e = .returned (.bool (anyNm l nm)) ∧ Below w.heap.size w w' := by
  have c := indexFunc_c g nm hc hl hn
  go_enter Tryz.func88, Tryz.ntmps88
  go_wp2_with (go_at_call 93; refine c.mono ?_; rintro e w1 ⟨⟨x, rfl, hx⟩, hb1⟩)
  go_ret
  exact ⟨bool_ret (by rw [← hx]), hb1⟩

/-- May a member have its name behind the earlier ones? -/
def namedP (m : Mb) (l : List Mb) : Bool := if m.name.toList.isEmpty then decide (0 ≤ m.bits) else nameP m.name.data.toList && !anyNm l m.name && m.bits != 0

set_option maxHeartbeats 1000000 in
theorem isNamed_c (m : Mb) {v : Value} {l : List Mb} (hl : MemSl w v l) (hn : l.length ≤ 64) (hs : m.name.size ≤ 9223372036854775807) :
    Calls Tryz.prog 80 #[.agg #[.string m.name, .int .i64 m.type, .int .i64 m.bits], v] w fun e w' => e = .returned (.bool (namedP m l)) ∧ Below w.heap.size w w' := by
  have HB : Hid (Below w.heap.size w (w.alloc (.cells #[.string m.name, .int .i64 m.type, .int .i64 m.bits] TM))) := (Below.refl _ w).alloc (Nat.le_refl _) _
  have hc : (w.alloc (.cells #[.string m.name, .int .i64 m.type, .int .i64 m.bits] TM)).cell? ⟨w.heap.size, 0, none⟩ = some (.string m.name) := by rw [Lib.cell_of_heap (heap_r0 w _)]; rfl
  have cF := containsFunc_c w.heap.size m.name hc (hl.below HB.out) hn
  have cN := fun W => isName_c m.name W hs
  have h1 := not_f
  have h2 := not_t
  have hmf : ∀ (x : Value) (W : World), (Instr.makeFunc (Fn.func 89) #[] #[x]).run Tryz.prog W = .ok (.func (.func 89) #[] #[x]) W := fun _ _ => rfl
  obtain ⟨nm, ty, bi⟩ := m
  simp only at cF cN hc hs HB ⊢
  unfold namedP
  simp only
  rcases he : nm.toList.isEmpty with _ | _
  · have he2 : (nm.toList == []) = false := by rw [← he]; cases nm.toList <;> rfl
    generalize anyNm l nm = x at *
    generalize nameP nm.data.toList = y at *
    cases x <;> cases y
    all_goals go_enter Tryz.func80, Tryz.ntmps80
    all_goals go_wp2_with (first | (go_at_call 88; refine cF.mono ?_; rintro e w1 ⟨rfl, hb1⟩; have HB1 : Hid (Below w.heap.size w w1) := HB.out.trans (hb1.mono HB.out.size); have hc1 : w1.cell? ⟨w.heap.size, 0, none⟩ = some (.string nm) := (hb1.cell (p := ⟨w.heap.size, 0, none⟩) (by simp)).trans hc; have hc4 : w1.cell? ⟨w.heap.size, 2, none⟩ = some (.int .i64 bi) := (hb1.cell (p := ⟨w.heap.size, 2, none⟩) (by simp)).trans (by rw [Lib.cell_of_heap (heap_r0 w _)]; rfl); clear hb1) | (go_at_call 70; refine (cN _).mono ?_; rintro e w' ⟨rfl, rfl⟩))
    all_goals go_ret
    all_goals refine ⟨bool_ret ?_, HB1.out⟩
    all_goals first | rfl | (simp; done) | (rw [Bool.eq_iff_iff]; simp; done) | (rw [Bool.eq_iff_iff]; simp [bne])
  · have he2 : (nm.toList == []) = true := by
      have : nm.toList = [] := by simpa using he
      rw [this]; rfl
    clear cF cN
    go_enter Tryz.func80, Tryz.ntmps80
    go_wp2
    go_ret
    exact ⟨bool_ret (by simp), HB.out⟩
end
end Go.Proofs.YtdfkkflpcamhjaaGreatDoor
