/-
  isNamed: may a member have its name?
  Size, alignment and places by plain functions over rows: how members are laid, what a type takes by what its parts take; that there is such a function where no type is within itself. (Pure.)
-/
import Derived.Test.YtlcghlfmaohfeaaGreatHGraph
import Derived.Test.YtlcghlfmaohfeaaGreatHKinds
import Derived.Test.YtlcghlfmaohfeaaGreatHTag
import Derived.Deep.DeepMust
namespace Go.Proofs.YtlcghlfmaohfeaaGreat
open Go.RowKit Go.Maps
set_option linter.unusedVariables false
/-- The least multiple of a step from a number on. -/
def rup (n step : Int) : Int := (n + step - 1) / step * step
/-- Size and alignment. -/
structure Ex where
  size : Int
  align : Int
/-- Where a member begins that comes to a place. -/
def beginP (place : Int) (m : Mb) (e : Ex) : Int :=
  if m.bits = -1 then rup place (8 * e.align) else if m.bits = 0 ∨ place / (8 * e.size) ≠ (place + m.bits - 1) / (8 * e.size) then rup place (8 * e.size) else place
/-- How many bits it has. -/
def takenP (m : Mb) (e : Ex) : Int := if m.bits = -1 then 8 * e.size else m.bits
/-- A member's place: number, type, byte, bit, bits. -/
structure Pl where
  mem : Int
  type : Int
  off : Int
  bit : Int
  bits : Int
def spotP (place : Int) (i : Nat) (m : Mb) (e : Ex) : Pl :=
  if m.bits = -1 then ⟨i, m.type, place / 8, 0, 0⟩ else ⟨i, m.type, e.size * (place / (8 * e.size)), place % (8 * e.size), m.bits⟩
/-- What is known while members are laid. -/
structure Ls where
  place : Int
  fin : Int
  align : Int
def stepP (un : Bool) (M : Int → Ex) (s : Ls) (m : Mb) : Ls :=
  let b := beginP (if un then 0 else s.place) m (M m.type)
  ⟨b + takenP m (M m.type), max s.fin (b + takenP m (M m.type)), if m.name.toList == [] then s.align else max s.align (M m.type).align⟩
def layS (un : Bool) (M : Int → Ex) : Ls → List Mb → Ls
  | s, [] => s
  | s, m :: l => layS un M (stepP un M s m) l
/-- The places, in order. -/
def placesS (un : Bool) (M : Int → Ex) : Ls → Nat → List Mb → List Pl
  | _, _, [] => []
  | s, i, m :: l => (if m.bits = 0 then [] else [spotP (beginP (if un then 0 else s.place) m (M m.type)) i m (M m.type)]) ++ placesS un M (stepP un M s m) (i + 1) l
def endP (s : Ls) : Ex := ⟨rup (max (rup s.fin 8 / 8) 1) s.align, s.align⟩
def ls0 : Ls := ⟨0, 0, 1⟩
/-- How much room a row takes, by that of its parts. -/
def roomP (M : Int → Ex) (r : Rw) : Ex :=
  if r.kind = 14 then ⟨r.len * (M r.elem).size, (M r.elem).align⟩ else if recK r.kind then endP (layS (r.kind == 16) M ls0 r.mem) else ⟨widthP r.kind, widthP r.kind⟩
def clampE (e : Ex) : Ex := ⟨min e.size 16385, e.align⟩
/-- By steps. -/
def measF (rs : List Rw) : Nat → Int → Ex
  | 0, _ => ⟨1, 1⟩
  | n + 1, id => match rs[id.toNat]? with
    | some r => clampE (roomP (measF rs n) r)
    | none => ⟨1, 1⟩
/-- A function that tells size and alignment of each type by those of its parts. -/
def IsMeas (rs : List Rw) (M : Int → Ex) : Prop := ∀ (i : Nat) (r : Rw), rs[i]? = some r → M i = clampE (roomP M r)
theorem layS_congr {un : Bool} {M N : Int → Ex} : ∀ (l : List Mb) (s : Ls), (∀ m ∈ l, M m.type = N m.type) → layS un M s l = layS un N s l
  | [], _, _ => rfl
  | m :: l, s, h => by
    have e : stepP un M s m = stepP un N s m := by unfold stepP; rw [h m (by simp)]
    simp only [layS, e]
    exact layS_congr l _ (fun x hx => h x (by simp [hx]))
theorem roomP_congr {M N : Int → Ex} {r : Rw} (h : ∀ x ∈ partsR r, M x = N x) : roomP M r = roomP N r := by
  unfold roomP partsR at *
  by_cases c : r.kind = 14
  · rw [if_pos c] at h
    rw [if_pos c, if_pos c, h r.elem (by simp)]
  · rw [if_neg c] at h
    rw [if_neg c, if_neg c, layS_congr r.mem ls0 (fun m hm => h m.type (List.mem_map.2 ⟨m, hm, rfl⟩))]
theorem measF_stable {rs : List Rw} {rank : Nat → Nat} (hr : ∀ (i : Nat) (r : Rw), rs[i]? = some r → ∀ x ∈ partsR r, 0 ≤ x ∧ rank x.toNat < rank i) :
    ∀ (n m : Nat) (i : Nat), rank i < n → rank i < m → measF rs n i = measF rs m i := by
  intro n
  induction n with
  | zero => intro m i h; omega
  | succ n ih =>
    intro m i h1 h2
    obtain ⟨m, rfl⟩ : ∃ k, m = k + 1 := ⟨m - 1, by omega⟩
    simp only [measF, Int.toNat_natCast]
    cases hp : rs[i]? with
    | none => rfl
    | some r =>
      simp only
      congr 1
      apply roomP_congr
      intro x hx
      obtain ⟨x0, hlt⟩ := hr i r hp x hx
      obtain ⟨k, rfl⟩ : ∃ k : Nat, x = k := ⟨x.toNat, by omega⟩
      rw [Int.toNat_natCast] at hlt
      exact ih m k (by omega) (by omega)
theorem exists_meas {rs : List Rw} {rank : Nat → Nat} (hr : ∀ (i : Nat) (r : Rw), rs[i]? = some r → ∀ x ∈ partsR r, 0 ≤ x ∧ rank x.toNat < rank i) : ∃ M, IsMeas rs M := by
  refine ⟨fun id => measF rs (rank id.toNat + 1) id, fun i r hp => ?_⟩
  simp only [Int.toNat_natCast]
  rw [measF, Int.toNat_natCast, hp]
  simp only
  congr 1
  apply roomP_congr
  intro x hx
  obtain ⟨x0, hlt⟩ := hr i r hp x hx
  obtain ⟨k, rfl⟩ : ∃ k : Nat, x = k := ⟨x.toNat, by omega⟩
  rw [Int.toNat_natCast] at hlt ⊢
  exact measF_stable hr _ _ k hlt (by omega)
/-- Sizes and alignments of whole types are in bounds. -/
structure ExOK (e : Ex) : Prop where
  lo : 1 ≤ e.size
  hi : e.size ≤ 16385
  al : e.align = 1 ∨ e.align = 2 ∨ e.align = 4
theorem rup_bd (n step : Int) (h0 : 0 ≤ n) (h1 : 1 ≤ step) : n ≤ rup n step ∧ rup n step < n + step := by
  unfold rup
  have e := Int.mul_ediv_add_emod (n + step - 1) step
  have m0 := Int.emod_nonneg (n + step - 1) (show step ≠ 0 by omega)
  have m1 := Int.emod_lt_of_pos (n + step - 1) (show 0 < step by omega)
  rw [Int.mul_comm] at e
  omega
/-- Bits of a member that a table took. -/
def BitsOK (m : Mb) (e : Ex) : Prop := m.bits = -1 ∨ (0 ≤ m.bits ∧ m.bits ≤ 8 * e.size)
structure LsOK (i : Nat) (s : Ls) : Prop where
  p0 : 0 ≤ s.place
  p1 : s.place ≤ 262160 * i
  f0 : 0 ≤ s.fin
  f1 : s.fin ≤ 262160 * i
  al : s.align = 1 ∨ s.align = 2 ∨ s.align = 4
theorem begin_bd {p : Int} {m : Mb} {e : Ex} (h : ExOK e) (hp : 0 ≤ p) : p ≤ beginP p m e ∧ beginP p m e < p + 131081 := by
  have h1 := h.lo
  have h2 := h.hi
  have h3 := h.al
  unfold beginP
  split
  · have := rup_bd p (8 * e.align) hp (by omega)
    omega
  · split
    · have := rup_bd p (8 * e.size) hp (by omega)
      omega
    · omega
theorem taken_bd {m : Mb} {e : Ex} (h : ExOK e) (hb : BitsOK m e) : 0 ≤ takenP m e ∧ takenP m e ≤ 131080 := by
  have h1 := h.lo
  have h2 := h.hi
  unfold takenP
  rcases hb with hb | hb
  · rw [if_pos hb]; omega
  · split <;> omega
theorem step_ok {un : Bool} {M : Int → Ex} {i : Nat} {s : Ls} {m : Mb} (h : LsOK i s) (he : ExOK (M m.type)) (hb : BitsOK m (M m.type)) : LsOK (i + 1) (stepP un M s m) := by
  obtain ⟨p0, p1, f0, f1, al⟩ := h
  have b1 := taken_bd he hb
  have hal := he.al
  have hc : ((i + 1 : Nat) : Int) = i + 1 := by omega
  cases un
  · have b0 := begin_bd (m := m) he p0
    refine ⟨?_, ?_, ?_, ?_, ?_⟩
    · show 0 ≤ beginP s.place m (M m.type) + takenP m (M m.type); omega
    · show beginP s.place m (M m.type) + takenP m (M m.type) ≤ _; omega
    · show 0 ≤ max s.fin _; omega
    · show max s.fin (beginP s.place m (M m.type) + takenP m (M m.type)) ≤ _; omega
    · have q : (stepP false M s m).align = if m.name.toList == [] then s.align else max s.align (M m.type).align := rfl
      rw [q]
      split <;> omega
  · have b0 := begin_bd (m := m) he (show (0 : Int) ≤ 0 by omega)
    refine ⟨?_, ?_, ?_, ?_, ?_⟩
    · show 0 ≤ beginP 0 m (M m.type) + takenP m (M m.type); omega
    · show beginP 0 m (M m.type) + takenP m (M m.type) ≤ _; omega
    · show 0 ≤ max s.fin _; omega
    · show max s.fin (beginP 0 m (M m.type) + takenP m (M m.type)) ≤ _; omega
    · have q : (stepP true M s m).align = if m.name.toList == [] then s.align else max s.align (M m.type).align := rfl
      rw [q]
      split <;> omega
theorem layS_ok {un : Bool} {M : Int → Ex} : ∀ (l : List Mb) (i : Nat) (s : Ls), LsOK i s → (∀ m ∈ l, ExOK (M m.type) ∧ BitsOK m (M m.type)) → LsOK (i + l.length) (layS un M s l)
  | [], _, _, h, _ => h
  | m :: l, i, s, h, hl => by
    have := layS_ok (un := un) (M := M) l (i + 1) (stepP un M s m) (step_ok h (hl m (by simp)).1 (hl m (by simp)).2) (fun x hx => hl x (by simp [hx]))
    rw [show i + (m :: l).length = i + 1 + l.length by simp; omega]
    exact this
theorem layS_snoc {un : Bool} {M : Int → Ex} : ∀ (l : List Mb) (s : Ls) (m : Mb), layS un M s (l ++ [m]) = stepP un M (layS un M s l) m
  | [], _, _ => rfl
  | a :: l, s, m => by simp only [List.cons_append, layS]; exact layS_snoc l _ m
theorem placesS_snoc {un : Bool} {M : Int → Ex} : ∀ (l : List Mb) (s : Ls) (i : Nat) (m : Mb), placesS un M s i (l ++ [m]) = placesS un M s i l ++ (if m.bits = 0 then [] else [spotP (beginP (if un then 0 else (layS un M s l).place) m (M m.type)) (i + l.length) m (M m.type)])
  | [], s, i, m => by simp [placesS, layS]
  | a :: l, s, i, m => by
    simp only [List.cons_append, placesS, layS, List.append_assoc]
    rw [placesS_snoc l _ (i + 1) m, show i + (a :: l).length = i + 1 + l.length by simp; omega]
theorem end_ok {i : Nat} {s : Ls} (h : LsOK i s) (hi : i ≤ 64) : 1 ≤ (endP s).size ∧ (endP s).size ≤ 3000000 ∧ ((endP s).align = 1 ∨ (endP s).align = 2 ∨ (endP s).align = 4) := by
  obtain ⟨p0, p1, f0, f1, al⟩ := h
  have e1 := rup_bd s.fin 8 f0 (by decide)
  have e2 : 0 ≤ rup s.fin 8 / 8 ∧ rup s.fin 8 / 8 ≤ 2097300 := by omega
  have e3 := rup_bd (max (rup s.fin 8 / 8) 1) s.align (by omega) (by omega)
  unfold endP
  simp only
  omega
end Go.Proofs.YtlcghlfmaohfeaaGreat
namespace Go.Proofs.YtlcghlfmaohfeaaGreat
open Go.RowKit Go.Maps
set_option linter.unusedVariables false
set_option maxRecDepth 100000

/-- A slice of members, wherever it begins. -/
def MemSl (w : World) (v : Value) (l : List Mb) : Prop :=
  (v = .slice none 0 0 ∧ l = []) ∨ ∃ g o cap, v = .slice (some ⟨g, o, none⟩) l.length cap ∧ l.length ≤ cap ∧ g < w.heap.size ∧ ∀ i m, l[i]? = some m → ∀ j, j < 3 → w.cell? ⟨g, o + i * 3 + j, none⟩ = (mbCells m)[j]?
theorem MemSl.below {w w' : World} {v : Value} {l : List Mb} (h : MemSl w v l) (hb : Below w.heap.size w w') : MemSl w' v l := by
  rcases h with h | ⟨g, o, cap, h1, h2, h3, h4⟩
  · exact Or.inl h
  · exact Or.inr ⟨g, o, cap, h1, h2, Nat.lt_of_lt_of_le h3 hb.size, fun i m hm j hj => by rw [hb.cell (p := ⟨g, o + i * 3 + j, none⟩) h3]; exact h4 i m hm j hj⟩

section
variable {w : World}
/-- The closure: has an earlier member the name? g: the block of the member that isNamed was handed. -/
theorem named1_c (g : Nat) (nm : ByteArray) (hc : w.cell? ⟨g, 0, none⟩ = some (.string nm)) (a : ByteArray) (t n : Int) :
    Calls Tryz.prog 102 #[.agg #[.string a, .int .i64 t, .int .i64 n], .pointer (some ⟨g, 0, none⟩)] w fun e w' => e = .returned (.bool (a.toList == nm.toList)) ∧ Below w.heap.size w w' := by
  have hb : Below w.heap.size w (w.alloc (.cells #[.string a, .int .i64 t, .int .i64 n] TM)) := (Below.refl _ w).alloc (Nat.le_refl _) _
  have hc2 : (w.alloc (.cells #[.string a, .int .i64 t, .int .i64 n] TM)).cell? ⟨g, 0, none⟩ = some (.string nm) := by
    rw [hb.cell (p := ⟨g, 0, none⟩) (World.block_lt_of_cell? w _ hc)]; exact hc
  go_enter Tryz.func102, Tryz.ntmps102
  go_wp2
  go_ret
  exact ⟨rfl, hb⟩

def anyNm (l : List Mb) (nm : ByteArray) : Bool := l.any fun m => m.name.toList == nm.toList

set_option maxHeartbeats 1000000 in
theorem indexFunc_c (g : Nat) (nm : ByteArray) (hc : w.cell? ⟨g, 0, none⟩ = some (.string nm)) {v : Value} {l : List Mb} (hl : MemSl w v l) (hn : l.length ≤ 64) :
    Calls Tryz.prog 116 #[v, .func (.func 102) #[] #[.pointer (some ⟨g, 0, none⟩)]] w fun e w' => (∃ x : Int, e = .returned (.int .i64 x) ∧ decide (0 ≤ x) = anyNm l nm) ∧ Below w.heap.size w w' := by
  rcases hl with ⟨rfl, rfl⟩ | ⟨ga, oa, cap, rfl, hcap, hg, hcell⟩
  · go_enter Tryz.func116, Tryz.ntmps116
    go_wp2
    refine wp_loop_rounds 1 ?_
    rw [rounds_succ]
    go_wp2
    go_ret
    exact ⟨⟨_, rfl, rfl⟩, Below.refl _ _⟩
  · go_enter Tryz.func116, Tryz.ntmps116
    go_wp2
    go_loopw [8] (fun i wr => ∃ k : Nat, i = .int .i64 k ∧ k ≤ l.length ∧ Hid (anyNm l nm = anyNm (l.drop k) nm) ∧ Hid (Below w.heap.size w wr)) (fun i _ => l.length - (intOf i).toNat)
    case atStart => exact ⟨0, rfl, Nat.zero_le _, by simp [Hid], Below.refl _ _⟩
    case round =>
      obtain ⟨k, rfl, hk, hR, HB⟩ := hrel
      by_cases hlt : k < l.length
      · obtain ⟨m, hm⟩ : ∃ m, l[k]? = some m := ⟨_, List.getElem?_eq_getElem hlt⟩
        have HN : Hid (anyNm (l.drop k) nm = ((m.name.toList == nm.toList) || anyNm (l.drop (k + 1)) nm)) := by
          show _ = _
          rw [List.drop_eq_getElem_cons hlt]
          rw [List.getElem?_eq_getElem hlt] at hm
          cases hm; rfl
        have q := fun j hj => (HB.out.cell (p := ⟨ga, oa + k * 3 + j, none⟩) hg).trans (hcell k m hm j hj)
        have a0 := q 0 (by omega)
        have a1 := q 1 (by omega)
        have a2 := q 2 (by omega)
        simp only [mbCells, Nat.add_zero, List.getElem?_cons_zero, List.getElem?_cons_succ] at a0 a1 a2
        have hc3 : wr.cell? ⟨g, 0, none⟩ = some (.string nm) := (HB.out.cell (p := ⟨g, 0, none⟩) (World.block_lt_of_cell? w _ hc)).trans hc
        have c := named1_c g nm hc3 m.name m.type m.bits
        clear q hm hc3 hcell hc
        rcases hb : (m.name.toList == nm.toList) with _ | _ <;> rw [hb] at c HN
        · go_wp2_with fail
          refine c.mono ?_
          rintro e w1 ⟨rfl, hb1⟩
          go_wp2
          refine ⟨⟨k + 1, by go_num, by omega, ?_, ?_⟩, by simp [intOf]; omega⟩
          · show _ = _; rw [hR.out, HN.out]; rfl
          · exact HB.out.trans (hb1.mono HB.out.size)
        · go_wp2_with fail
          refine c.mono ?_
          rintro e w1 ⟨rfl, hb1⟩
          go_wp2
          go_ret
          refine ⟨⟨_, rfl, ?_⟩, HB.out.trans (hb1.mono HB.out.size)⟩
          rw [hR.out, HN.out]; simp
      · go_wp2
        go_ret
        refine ⟨⟨_, rfl, ?_⟩, HB.out⟩
        rw [hR.out, List.drop_eq_nil_of_le (by omega)]; rfl

theorem containsFunc_c (g : Nat) (nm : ByteArray) (hc : w.cell? ⟨g, 0, none⟩ = some (.string nm)) {v : Value} {l : List Mb} (hl : MemSl w v l) (hn : l.length ≤ 64) :
    Calls Tryz.prog 101 #[v, .func (.func 102) #[] #[.pointer (some ⟨g, 0, none⟩)]] w fun e w' => e = .returned (.bool (anyNm l nm)) ∧ Below w.heap.size w w' := by
  have c := indexFunc_c g nm hc hl hn
  go_enter Tryz.func101, Tryz.ntmps101
  go_wp2_with (go_at_call 116; refine c.mono ?_; rintro e w1 ⟨⟨x, rfl, hx⟩, hb1⟩)
  go_ret
  exact ⟨bool_ret (by rw [← hx]), hb1⟩

/-- May a member have its name behind the earlier ones? -/
def namedP (m : Mb) (l : List Mb) : Bool := if m.name.toList.isEmpty then decide (0 ≤ m.bits) else nameP m.name.data.toList && !anyNm l m.name && m.bits != 0

set_option maxHeartbeats 1000000 in
theorem isNamed_c (m : Mb) {v : Value} {l : List Mb} (hl : MemSl w v l) (hn : l.length ≤ 64) (hs : m.name.size ≤ 9223372036854775807) :
    Calls Tryz.prog 85 #[.agg #[.string m.name, .int .i64 m.type, .int .i64 m.bits], v] w fun e w' => e = .returned (.bool (namedP m l)) ∧ Below w.heap.size w w' := by
  have HB : Hid (Below w.heap.size w (w.alloc (.cells #[.string m.name, .int .i64 m.type, .int .i64 m.bits] TM))) := (Below.refl _ w).alloc (Nat.le_refl _) _
  have hc : (w.alloc (.cells #[.string m.name, .int .i64 m.type, .int .i64 m.bits] TM)).cell? ⟨w.heap.size, 0, none⟩ = some (.string m.name) := by rw [Lib.cell_of_heap (heap_r0 w _)]; rfl
  have cF := containsFunc_c w.heap.size m.name hc (hl.below HB.out) hn
  have cN := fun W => isName_c m.name W hs
  have h1 := not_f
  have h2 := not_t
  have hmf : ∀ (x : Value) (W : World), (Instr.makeFunc (Fn.func 102) #[] #[x]).run Tryz.prog W = .ok (.func (.func 102) #[] #[x]) W := fun _ _ => rfl
  obtain ⟨nm, ty, bi⟩ := m
  simp only at cF cN hc hs HB ⊢
  unfold namedP
  simp only
  rcases he : nm.toList.isEmpty with _ | _
  · have he2 : (nm.toList == []) = false := by rw [← he]; cases nm.toList <;> rfl
    generalize anyNm l nm = x at *
    generalize nameP nm.data.toList = y at *
    cases x <;> cases y
    all_goals go_enter Tryz.func85, Tryz.ntmps85
    all_goals go_wp2_with (first | (go_at_call 101; refine cF.mono ?_; rintro e w1 ⟨rfl, hb1⟩; have HB1 : Hid (Below w.heap.size w w1) := HB.out.trans (hb1.mono HB.out.size); have hc1 : w1.cell? ⟨w.heap.size, 0, none⟩ = some (.string nm) := (hb1.cell (p := ⟨w.heap.size, 0, none⟩) (by simp)).trans hc; have hc4 : w1.cell? ⟨w.heap.size, 2, none⟩ = some (.int .i64 bi) := (hb1.cell (p := ⟨w.heap.size, 2, none⟩) (by simp)).trans (by rw [Lib.cell_of_heap (heap_r0 w _)]; rfl); clear hb1) | (go_at_call 97; refine (cN _).mono ?_; rintro e w' ⟨rfl, rfl⟩))
    all_goals go_ret
    all_goals refine ⟨bool_ret ?_, HB1.out⟩
    all_goals first | rfl | (simp; done) | (rw [Bool.eq_iff_iff]; simp; done) | (rw [Bool.eq_iff_iff]; simp [bne])
  · have he2 : (nm.toList == []) = true := by
      have : nm.toList = [] := by simpa using he
      rw [this]; rfl
    clear cF cN
    go_enter Tryz.func85, Tryz.ntmps85
    go_wp2
    go_ret
    exact ⟨bool_ret (by simp), HB.out⟩
end
end Go.Proofs.YtlcghlfmaohfeaaGreat
