/-
  The given answer's Walk.
  A walk into an object: what it comes to, that it stays within the object, and that it goes on from where another one ended. (Pure.)
  Hops that came in as an argument, and slices of hops.
  hop: a step into an object.
  Walk of every table and type.
  A walk goes on from where another one ended (pure), and hops appended to hops.
  A hop in the given answer's words: bit-fields lead nowhere, names are found, elements have sizes. (Pure.)
-/
import Derived.Test.YtlcghlfmaohfeaaGreatHLyX
import Derived.Test.YtlcghlfmaohfeaaGreatHRowOpen
import Derived.Test.YtlcghlfmaohfeaaGreatHLyNo
import Derived.Deep.RegionHeld3
import Derived.Laws.AppendOwnNone
import Derived.Test.YtlcghlfmaohfeaaGreatKW
namespace Go.Proofs.YtlcghlfmaohfeaaGreat
open Go.RowKit Go.Maps
set_option linter.unusedVariables false
/-- What a hop comes to. -/
def hopP (M : Int → Ex) (r : Rw) (a : Pl) (nm : ByteArray) (idx : Int) : Pl × Bool :=
  if (!nm.toList.isEmpty) = true then
    (⟨(foundS r.mem nm (pl0, false) (placesS (r.kind == 16) M ls0 0 r.mem)).1.mem, (foundS r.mem nm (pl0, false) (placesS (r.kind == 16) M ls0 0 r.mem)).1.type, (foundS r.mem nm (pl0, false) (placesS (r.kind == 16) M ls0 0 r.mem)).1.off + a.off, (foundS r.mem nm (pl0, false) (placesS (r.kind == 16) M ls0 0 r.mem)).1.bit, (foundS r.mem nm (pl0, false) (placesS (r.kind == 16) M ls0 0 r.mem)).1.bits⟩, (foundS r.mem nm (pl0, false) (placesS (r.kind == 16) M ls0 0 r.mem)).2)
  else if r.kind = 14 ∧ 0 ≤ idx ∧ idx < r.len then (⟨a.mem, r.elem, a.off + idx * (M r.elem).size, 0, 0⟩, true) else (pl0, false)
/-- A walk: none, if a hop leads nowhere. -/
def walkP (rs : List (Rw × Value)) (M : Int → Ex) : Pl → List (ByteArray × Int) → Option Pl
  | a, [] => some a
  | a, h :: t => match rs[a.type.toNat]? with
    | some p => if (hopP M p.1 a h.1 h.2).2 = true then walkP rs M (hopP M p.1 a h.1 h.2).1 t else none
    | none => none
theorem found_in (mem : List Mb) (nm : ByteArray) : ∀ (l : List Pl) (s : Pl × Bool), (foundS mem nm s l).2 = true → foundS mem nm s l = s ∨ (foundS mem nm s l).1 ∈ l
  | [], s, _ => .inl rfl
  | p :: l, s, h => by
    have e : foundS mem nm s (p :: l) = foundS mem nm (if hitP mem nm p then (p, true) else s) l := rfl
    rw [e] at h ⊢
    rcases found_in mem nm l _ h with h1 | h1
    · by_cases hh : hitP mem nm p = true
      · rw [if_pos hh] at h1 ⊢
        right; rw [h1]; simp
      · rw [if_neg hh] at h1 ⊢
        exact .inl h1
    · right; simp [h1]
theorem found_mem {mem : List Mb} {nm : ByteArray} {l : List Pl} (h : (foundS mem nm (pl0, false) l).2 = true) : (foundS mem nm (pl0, false) l).1 ∈ l := by
  rcases found_in mem nm l _ h with h1 | h1
  · rw [h1] at h; cases h
  · exact h1
theorem place_bit0 {un : Bool} {M : Int → Ex} : ∀ (l : List Mb) (s : Ls) (i : Nat), (∀ m ∈ l, BitsOK m (M m.type)) → ∀ P ∈ placesS un M s i l, (P.bits = 0 ∧ P.bit = 0) ∨ 0 < P.bits
  | [], _, _, _, P, hP => by simp [placesS] at hP
  | m :: l, s, i, hm, P, hP => by
    simp only [placesS, List.mem_append] at hP
    rcases hP with hP | hP
    · by_cases hb : m.bits = 0
      · rw [if_pos hb] at hP; simp at hP
      · rw [if_neg hb] at hP
        simp only [List.mem_singleton] at hP
        subst hP
        unfold spotP
        split
        · exact .inl ⟨rfl, rfl⟩
        · right
          rcases hm m (by simp) with h | h
          · rename_i h'; exact absurd h h'
          · show 0 < m.bits
            omega
    · exact place_bit0 l _ _ (fun x hx => hm x (by simp [hx])) P hP
section
variable {rs : List (Rw × Value)} {M : Int → Ex}
theorem no_mem (hf : FromOK rs) {i : Nat} {p : Rw × Value} (hp : rs[i]? = some p) (hk : recK p.1.kind = false) : p.1.mem = [] := by
  have hlt : i < rs.length := (List.getElem?_eq_some_iff.1 hp).1
  obtain ⟨hm, hc⟩ := enter_cut (hf.1 i p hlt hp)
  have h1 : (decide (0 < p.1.mem.length) && !ownDone p.1) = false := by
    unfold moreP at hm
    simp only [Bool.or_eq_false_iff] at hm
    exact hm.2
  have h2 : ownDone p.1 = false := by unfold ownDone; rw [hk]; rfl
  rw [h2] at h1
  simpa using h1
/-- Where a walk stands: within the object of size S. -/
structure AtOK (rs : List (Rw × Value)) (M : Int → Ex) (S : Int) (a : Pl) : Prop where
  ex : ∃ (i : Nat) (p : Rw × Value), a.type = i ∧ rs[i]? = some p ∧ wholeR p.1 = true ∧ (recK p.1.kind = true ∨ p.1.kind = 14 → a.off + (M i).size ≤ S)
  lo : 0 ≤ a.off
  hi : a.off ≤ S
  bz : (a.bits = 0 ∧ a.bit = 0) ∨ 0 < a.bits
theorem at_first (hf : FromOK rs) (hM : IsMeas (rowsOf rs) M) {i : Nat} {p : Rw × Value} (hp : rs[i]? = some p) (hwh : wholeR p.1 = true) : AtOK rs M (M i).size ⟨0, i, 0, 0, 0⟩ := by
  have he := meas_ok hf hM i p hp hwh
  have := he.lo
  exact ⟨⟨i, p, rfl, hp, hwh, fun _ => by show 0 + (M i).size ≤ _; omega⟩, Int.le_refl _, by show 0 ≤ (M i).size; omega, .inl ⟨rfl, rfl⟩⟩
theorem at_size (hf : FromOK rs) (hM : IsMeas (rowsOf rs) M) {S : Int} {a : Pl} (h : AtOK rs M S a) (hS : S ≤ 16384) : (M a.type).size ≤ 16384 := by
  obtain ⟨i, p, e, hp, hw, ho⟩ := h.ex
  have lo := h.lo
  rw [e]
  by_cases hk : recK p.1.kind = true ∨ p.1.kind = 14
  · have := ho hk; omega
  · have h14 : ¬ p.1.kind = 14 := fun e => hk (.inr e)
    have hr : recK p.1.kind = false := by simpa using fun e => hk (.inl e)
    unfold wholeR at hw
    rw [if_neg h14, if_neg (by rw [hr]; decide)] at hw
    have hk2 : intK p.1.kind = true ∨ p.1.kind = 13 := by simpa using hw
    rw [meas_int hM hp hk2]
    have := width_cases _ hk2
    show widthP p.1.kind ≤ 16384
    omega
theorem arr_room (hf : FromOK rs) (hM : IsMeas (rowsOf rs) M) {i : Nat} {p : Rw × Value} (hp : rs[i]? = some p) (hwh : wholeR p.1 = true) (h14 : p.1.kind = 14) (hgt : (M i).size ≤ 16384) :
    ∃ (k : Nat) (q : Rw × Value), p.1.elem = k ∧ rs[k]? = some q ∧ wholeR q.1 = true ∧ 1 ≤ p.1.len ∧ p.1.len ≤ 16384 ∧ 1 ≤ (M p.1.elem).size ∧ (M i).size = p.1.len * (M p.1.elem).size ∧ (M i).align = (M p.1.elem).align := by
  obtain ⟨_, _, hwe, hln, _⟩ := ok_arr hf hp h14
  obtain ⟨q, hq, hwq, x0, xl⟩ := whole_at hwe
  have hlen : 1 ≤ p.1.len ∧ p.1.len ≤ 16384 := by
    unfold wholeR at hwh
    rw [if_pos h14] at hwh
    simp [lenK] at hln
    simp at hwh
    omega
  have hxe : p.1.elem = (p.1.elem.toNat : Int) := by omega
  have hE : ExOK (M p.1.elem) := by rw [hxe]; exact meas_ok hf hM _ q hq hwq
  have hMi := hM i p.1 (rows_at hp)
  unfold roomP clampE at hMi
  rw [if_pos h14] at hMi
  refine ⟨p.1.elem.toNat, q, hxe, hq, hwq, hlen.1, hlen.2, hE.lo, ?_, by rw [hMi]⟩
  have e : (M i).size = min (p.1.len * (M p.1.elem).size) 16385 := by rw [hMi]
  omega
/-- A hop stays within the object. -/
theorem hop_at (hf : FromOK rs) (hM : IsMeas (rowsOf rs) M) {S : Int} (hS : S ≤ 16384) {a : Pl} (h : AtOK rs M S a) {i : Nat} {p : Rw × Value} (hi : a.type = i) (hp : rs[i]? = some p) (nm : ByteArray) (idx : Int)
    (hh : (hopP M p.1 a nm idx).2 = true) : AtOK rs M S (hopP M p.1 a nm idx).1 := by
  have hsz := at_size hf hM h hS
  obtain ⟨i', p', e, hp', hw, ho⟩ := h.ex
  have lo := h.lo
  have hii : i = i' := by omega
  subst hii
  obtain rfl : p = p' := Option.some.inj (hp.symm.trans hp')
  rw [hi] at hsz
  unfold hopP at hh ⊢
  by_cases hn : (!nm.toList.isEmpty) = true
  · rw [if_pos hn] at hh ⊢
    simp only at hh ⊢
    have hin := found_mem hh
    generalize (foundS p.1.mem nm (pl0, false) (placesS (p.1.kind == 16) M ls0 0 p.1.mem)).1 = P at *
    cases hk : recK p.1.kind with
    | false => rw [no_mem hf hp hk] at hin; simp [placesS] at hin
    | true =>
      have hroom := ho (.inl hk)
      obtain ⟨q1, q2, m, q3, q4, q5⟩ := place_within hf hM hp hw hk hsz P hin
      have h14 : ¬ p.1.kind = 14 := by intro e; rw [e] at hk; exact absurd hk (by decide)
      have hd : p.1.done = true := by
        unfold wholeR at hw
        rw [if_neg h14, if_pos hk] at hw
        exact hw
      have hmm := ok_members hf hp hk hd
      obtain ⟨q, hq, hwq, x0, xl⟩ := whole_at (hmm m q3).1
      have hxe : m.type = (m.type.toNat : Int) := by omega
      have hb0 := place_bit0 (un := p.1.kind == 16) (M := M) p.1.mem ls0 0 (fun x hx => bits_ok hf hM (hmm x hx).1 (hmm x hx).2) P hin
      refine ⟨⟨m.type.toNat, q, by show P.type = _; omega, hq, hwq, fun hkk => ?_⟩, by show 0 ≤ P.off + a.off; omega, by show P.off + a.off ≤ S; omega, hb0⟩
      have hb1 : m.bits = -1 := by
        have hb := (hmm m q3).2
        rw [hxe, kindP_some hq] at hb
        simp only [bitsP, Bool.or_eq_true, beq_iff_eq, Bool.and_eq_true, decide_eq_true_eq] at hb
        rcases hb with hb | ⟨⟨hb, _⟩, _⟩
        · exact hb
        · simp [intK] at hb
          simp [recK] at hkk
          omega
      obtain ⟨_, _, a3⟩ := q5 hb1
      rw [hxe] at a3
      show P.off + a.off + (M (m.type.toNat : Int)).size ≤ S
      omega
  · rw [if_neg hn] at hh ⊢
    by_cases ha : p.1.kind = 14 ∧ 0 ≤ idx ∧ idx < p.1.len
    · rw [if_pos ha] at hh ⊢
      have hroom := ho (.inr ha.1)
      obtain ⟨k, q, hk, hq, hwq, l1, l2, s1, hMi, _⟩ := arr_room hf hM hp hw ha.1 hsz
      have hmul : (idx + 1) * (M p.1.elem).size ≤ p.1.len * (M p.1.elem).size := Int.mul_le_mul_of_nonneg_right (by omega) (by omega)
      have h0 : 0 ≤ idx * (M p.1.elem).size := Int.mul_nonneg ha.2.1 (by omega)
      rw [Int.add_mul, Int.one_mul] at hmul
      refine ⟨⟨k, q, hk, hq, hwq, fun _ => ?_⟩, by show 0 ≤ a.off + idx * (M p.1.elem).size; omega, by show a.off + idx * (M p.1.elem).size ≤ S; omega, .inl ⟨rfl, rfl⟩⟩
      show a.off + idx * (M p.1.elem).size + (M k).size ≤ S
      rw [← hk]
      omega
    · rw [if_neg ha] at hh
      cases hh
theorem walk_at (hf : FromOK rs) (hM : IsMeas (rowsOf rs) M) {S : Int} (hS : S ≤ 16384) : ∀ (l : List (ByteArray × Int)) {a b : Pl}, AtOK rs M S a → walkP rs M a l = some b → AtOK rs M S b
  | [], a, b, h, e => by cases e; exact h
  | x :: l, a, b, h, e => by
    obtain ⟨i, p, hi, hp, _, _⟩ := h.ex
    have hp2 : rs[a.type.toNat]? = some p := by rw [hi]; simpa using hp
    unfold walkP at e
    rw [hp2] at e
    simp only at e
    by_cases hh : (hopP M p.1 a x.1 x.2).2 = true
    · rw [if_pos hh] at e
      exact walk_at hf hM hS l (hop_at hf hM hS h hi hp x.1 x.2 hh) e
    · rw [if_neg hh] at e; cases e
theorem walk_append : ∀ (l m : List (ByteArray × Int)) (a : Pl), walkP rs M a (l ++ m) = (walkP rs M a l).bind fun b => walkP rs M b m
  | [], m, a => rfl
  | x :: l, m, a => by
    have e1 : ∀ k, walkP rs M a (x :: k) = match rs[a.type.toNat]? with | some p => if (hopP M p.1 a x.1 x.2).2 = true then walkP rs M (hopP M p.1 a x.1 x.2).1 k else none | none => none := fun _ => rfl
    rw [List.cons_append, e1, e1]
    cases rs[a.type.toNat]? with
    | none => rfl
    | some p =>
      simp only
      by_cases hh : (hopP M p.1 a x.1 x.2).2 = true
      · rw [if_pos hh, if_pos hh]; exact walk_append l m _
      · rw [if_neg hh, if_neg hh]; rfl
/-- The same place of the same type, d further on. -/
structure Far (d : Int) (a b : Pl) : Prop where
  ty : a.type = b.type
  bit : a.bit = b.bit
  bits : a.bits = b.bits
  off : a.off = b.off + d
theorem hop_far {d : Int} {a b : Pl} (h : Far d a b) (r : Rw) (nm : ByteArray) (idx : Int) : (hopP M r a nm idx).2 = (hopP M r b nm idx).2 ∧ ((hopP M r a nm idx).2 = true → Far d (hopP M r a nm idx).1 (hopP M r b nm idx).1) := by
  have ho := h.off
  unfold hopP
  split
  · exact ⟨rfl, fun _ => ⟨rfl, rfl, rfl, by simp only; omega⟩⟩
  · split
    · exact ⟨rfl, fun _ => ⟨rfl, rfl, rfl, by simp only; omega⟩⟩
    · exact ⟨rfl, fun e => by cases e⟩
/-- Both walks lead nowhere, or both somewhere, d further on. -/
theorem walk_far : ∀ (l : List (ByteArray × Int)) {d : Int} {a b : Pl}, Far d a b → (walkP rs M a l = none ∧ walkP rs M b l = none) ∨ ∃ x y, walkP rs M a l = some x ∧ walkP rs M b l = some y ∧ Far d x y
  | [], d, a, b, h => .inr ⟨a, b, rfl, rfl, h⟩
  | x :: l, d, a, b, h => by
    have e1 : walkP rs M a (x :: l) = match rs[a.type.toNat]? with | some p => if (hopP M p.1 a x.1 x.2).2 = true then walkP rs M (hopP M p.1 a x.1 x.2).1 l else none | none => none := rfl
    have e2 : walkP rs M b (x :: l) = match rs[b.type.toNat]? with | some p => if (hopP M p.1 b x.1 x.2).2 = true then walkP rs M (hopP M p.1 b x.1 x.2).1 l else none | none => none := rfl
    rw [e1, e2, ← h.ty]
    cases rs[a.type.toNat]? with
    | none => exact .inl ⟨rfl, rfl⟩
    | some p =>
      simp only
      obtain ⟨h1, h2⟩ := hop_far (M := M) h p.1 x.1 x.2
      by_cases hh : (hopP M p.1 a x.1 x.2).2 = true
      · rw [← h1, if_pos hh, if_pos hh]; exact walk_far l (h2 hh)
      · rw [← h1, if_neg hh, if_neg hh]; exact .inl ⟨rfl, rfl⟩
end
end Go.Proofs.YtlcghlfmaohfeaaGreat
namespace Go.Proofs.YtlcghlfmaohfeaaGreat
open Go.ChangeShapes Go.WideShapes Go.ChangeAt Go.RowKit
set_option linter.unusedVariables false
abbrev THop : TypeId := 58
abbrev Hp : Type := ByteArray × Int
def hpCells (h : Hp) : List Value := [.string h.1, .int .i64 h.2]
/-- A slice of hops, wherever it begins. -/
def HopSl (w : World) (v : Value) (l : List Hp) : Prop :=
  (v = .slice none 0 0 ∧ l = []) ∨ ∃ g o cap, v = .slice (some ⟨g, o, none⟩) l.length cap ∧ l.length ≤ cap ∧ g < w.heap.size ∧ ∀ i m, l[i]? = some m → ∀ j, j < 2 → w.cell? ⟨g, o + i * 2 + j, none⟩ = (hpCells m)[j]?
theorem HopSl.below {w w' : World} {v : Value} {l : List Hp} (h : HopSl w v l) (hb : Below w.heap.size w w') : HopSl w' v l := by
  rcases h with h | ⟨g, o, cap, h1, h2, h3, h4⟩
  · exact Or.inl h
  · exact Or.inr ⟨g, o, cap, h1, h2, Nat.lt_of_lt_of_le h3 hb.size, fun i m hm j hj => by rw [hb.cell (p := ⟨g, o + i * 2 + j, none⟩) h3]; exact h4 i m hm j hj⟩
/-- One that came in: an empty one may have any address. -/
def HopIn (w : World) (s : Value) (l : List Hp) : Prop := HopSl w s l ∨ ∃ a c, s = .slice (some a) 0 c ∧ l = []
theorem HopIn.below {w w' : World} {v : Value} {l : List Hp} (h : HopIn w v l) (hb : Below w.heap.size w w') : HopIn w' v l := h.imp (fun h => h.below hb) id
theorem cells_hop : Tryz.prog.cellsOf THop = 2 := by kernel_rfl
theorem bytes_hop : Tryz.prog.bytesOf THop = 24 := by kernel_rfl
theorem list2 {α : Type} : ∀ {l : List α}, l.length = 2 → ∃ a b, l = [a, b]
  | [a, b], _ => ⟨a, b, rfl⟩
section
variable {H : Type} {enc : TypeId × Value → H} {w : World} {base : Nat} {spare : Nat → Bool} {held : Bool}
def hpData (h : Hp) : DataW H := .agg [.lit (.string h.1.data.toList), .lit (.int .i64 h.2)]
theorem open_hop {fuel : Nat} {cs : List Value} {x : DataW H × List MemPlace} (h : DataW.trod enc Tryz.prog w base spare held fuel THop cs = some x) :
    ∃ m : Hp, cs = hpCells m ∧ x.1 = hpData m ∧ m.1.size ≤ maxLen ∧ wf64 m.2 := by
  obtain ⟨xs, n, rfl, rfl, hl, hlen, hf⟩ := DataW.trod_struct Tryz.underlying58 h
  rw [cells_hop] at hl
  have f0 : DataW.trod enc Tryz.prog w base spare held n 9 ((cs.drop 0).take (Tryz.prog.cellsOf 9)) = xs[0]? := hf 0 _ rfl
  have f1 : DataW.trod enc Tryz.prog w base spare held n 3 ((cs.drop 1).take (Tryz.prog.cellsOf 3)) = xs[1]? := hf 1 _ rfl
  rw [cells_str] at f0
  rw [cells_int] at f1
  obtain ⟨c0, c1, rfl⟩ := list2 hl
  obtain ⟨y0, y1, rfl⟩ := list2 hlen
  simp only [List.drop_zero, List.drop_succ_cons, List.take_succ_cons, List.take_zero, List.getElem?_cons_zero, List.getElem?_cons_succ] at f0 f1
  obtain ⟨s, e0, d0, w0⟩ := DataW.trod_string Tryz.underlying9 f0
  obtain ⟨a, e1, d1, w1⟩ := DataW.trod_int Tryz.underlying3 f1
  cases e0; cases e1
  subst d0 d1
  exact ⟨⟨s, a⟩, rfl, rfl, w0, w1⟩
theorem open_hops {fuel : Nat} {cs : List Value} {x : DataW H × List MemPlace} (h : DataW.trod enc Tryz.prog w base spare held fuel 47 cs = some x) :
    ∃ (s : Value) (l : List Hp), cs = [s] ∧ HopIn w s l ∧ (∀ m ∈ l, m.1.size ≤ maxLen ∧ wf64 m.2) ∧ (x.1 = .nil ∧ l = [] ∨ ∃ rest, x.1 = .slice (l.map hpData) rest) := by
  rcases Deep.open_slice Tryz.underlying47 h with ⟨rfl, rfl⟩ | ⟨a, len, cap, m, n, D, Pl, rfl, hb, hl, hm, hmm, rfl, hx⟩
  · exact ⟨_, [], rfl, Or.inl (Or.inl ⟨rfl, rfl⟩), fun m hm => (by cases hm), Or.inl ⟨rfl, rfl⟩⟩
  have hlm : len ≤ m := by rw [hmm]; split <;> omega
  obtain ⟨V, hV⟩ := @Deep.choose_lt Hp ⟨⟨⟨#[]⟩, 0⟩⟩ len (fun i t => D i = hpData t ∧ (t.1.size ≤ maxLen ∧ wf64 t.2) ∧ ∀ j u, (hpCells t)[j]? = some u → w.cell? (a.add (i * 2 + j)) = some u) (fun i hi => by
    obtain ⟨cs', h1, h2⟩ := hx i (by omega)
    rw [cells_hop] at h1
    obtain ⟨t, rfl, ht, hs⟩ := open_hop h2
    obtain ⟨_, _, h3⟩ := World.cells?_some h1
    refine ⟨t, ht, hs, fun j u hj => ?_⟩
    have hj6 : j < 2 := by have := (List.getElem?_eq_some_iff.1 hj).1; simpa [hpCells] using this
    have := h3 j hj6
    rw [Deep.add_add] at this
    rw [this, hj])
  have hat : ∀ j t, ((List.range len).map V)[j]? = some t → j < len ∧ t = V j := by
    intro j t hj
    rw [List.getElem?_map] at hj
    rcases hr : (List.range len)[j]? with _ | i
    · rw [hr] at hj; cases hj
    · rw [hr] at hj
      simp only [Option.map_some, Option.some.injEq] at hj
      obtain ⟨hjl, hji⟩ := List.getElem?_eq_some_iff.1 hr
      simp only [List.getElem_range] at hji
      subst hji
      exact ⟨by simpa using hjl, hj.symm⟩
  refine ⟨_, (List.range len).map V, rfl, ?_, ?_, Or.inr ⟨(List.range (m - len)).map fun j => D (len + j), ?_⟩⟩
  · by_cases h0 : len = 0
    · subst h0; exact Or.inr ⟨a, cap, rfl, rfl⟩
    · left; right
      obtain ⟨b, off, spot⟩ := a
      have hc := (hV 0 (by omega)).2.2 0 _ rfl
      have hspot : spot = none := by simpa [Addr.add] using World.cell?_spot hc
      subst hspot
      have hlt : b < w.heap.size := by
        have := World.block_lt_of_cell? w _ hc
        simpa [Addr.add] using this
      refine ⟨b, off, cap, by simp, by simpa using hl, hlt, fun i t hi j hj => ?_⟩
      obtain ⟨hil, rfl⟩ := hat i t hi
      cases hu : (hpCells (V i))[j]? with
      | none => simp [hpCells] at hu; omega
      | some u =>
        have := (hV i hil).2.2 j u hu
        rw [Addr.add_lit, ← Nat.add_assoc] at this
        exact this
  · intro t ht
    obtain ⟨j, hj⟩ := List.mem_iff_getElem?.1 ht
    obtain ⟨hjl, rfl⟩ := hat j t hj
    exact (hV j hjl).2.1
  · show DataW.slice _ _ = _
    congr 1
    rw [List.map_map]
    refine List.map_congr_left fun i hi => ?_
    exact (hV i (by simpa using hi)).1
theorem hops_arg {W : World} {a0 : Option Addr} {len0 cap0 : Nat} {d : DataW H} {p : List MemPlace} (h0 : DataW.Trod enc Tryz.prog W base spare held 47 (.slice a0 len0 cap0) d p)
    (hw : (d.weights Tryz.prog 47).all (· ≤ reachBytes) = true) : ∃ l : List Hp, HopIn W (.slice a0 len0 cap0) l ∧ (∀ m ∈ l, m.1.size ≤ maxLen ∧ wf64 m.2) ∧ l.length * 24 ≤ 140737488355328 ∧ (d = .nil ∧ l = [] ∨ ∃ rest, d = .slice (l.map hpData) rest) := by
  obtain ⟨fuel, hf⟩ := h0
  obtain ⟨s, l, hcs, hin, hn, hd⟩ := open_hops hf
  simp [Value.cells] at hcs
  subst hcs
  refine ⟨l, hin, hn, ?_, hd⟩
  rcases hd with ⟨_, rfl⟩ | ⟨rest, hx⟩
  · simp
  · simp only at hx
    subst hx
    rw [List.all_eq_true] at hw
    have hu := Tryz.underlying47
    simp only [DataW.weights, hu, bytes_hop] at hw
    have := hw _ (List.mem_cons_self ..)
    simp [reachBytes] at this
    omega
end
end Go.Proofs.YtlcghlfmaohfeaaGreat
namespace Go.Proofs.YtlcghlfmaohfeaaGreat
open Go.RowKit Go.Maps
set_option linter.unusedVariables false
set_option maxRecDepth 100000
theorem upon_skip {P : Program} {o : Oper} {a : Act} {K : Act → World → Prop} {Q : Exit → Act → World → Prop} {R : Result Next} {w' : World} (h : R = .ok .skip w') (hk : K (a.put o.dst undef) w') : Oper.upon P o a K Q R := by
  subst h; exact hk
/-- Nothing but one block has turned since. -/
def SH (W0 : World) (Y : World) : Prop := Below W0.heap.size W0 Y
theorem SH.drew {W0 Y : World} (h : SH W0 Y) : SH W0 Y.drew := Below.drew h
theorem SH.below {W0 Y Z : World} (h : SH W0 Y) (hb : Below Y.heap.size Y Z) : SH W0 Z := Below.trans h (hb.mono (Below.size h))
theorem SH.alloc {W0 Y : World} (h : SH W0 Y) (o : Obj) : SH W0 (Y.alloc o) := Below.alloc h (Below.size h) o
theorem SH.six {W0 Y : World} (h : SH W0 Y) (x0 x1 x2 x3 x4 x5 : Value) : SH W0 ((((((Y.setCell ⟨W0.heap.size, 0, none⟩ x0).setCell ⟨W0.heap.size, 1, none⟩ x1).setCell ⟨W0.heap.size, 2, none⟩ x2).setCell ⟨W0.heap.size, 3, none⟩ x3).setCell ⟨W0.heap.size, 4, none⟩ x4).setCell ⟨W0.heap.size, 5, none⟩ x5) :=
  ((((((Below.setCell h (p := ⟨W0.heap.size, 0, none⟩) (Nat.le_refl _) x0).setCell (p := ⟨W0.heap.size, 1, none⟩) (Nat.le_refl _) x1).setCell (p := ⟨W0.heap.size, 2, none⟩) (Nat.le_refl _) x2).setCell (p := ⟨W0.heap.size, 3, none⟩) (Nat.le_refl _) x3).setCell (p := ⟨W0.heap.size, 4, none⟩) (Nat.le_refl _) x4).setCell (p := ⟨W0.heap.size, 5, none⟩) (Nat.le_refl _) x5)
theorem cell_past {Y : World} {g i j : Nat} {x : Value} {v : Value} (h : i ≠ j) (hc : Y.cell? ⟨g, j, none⟩ = some v) : (Y.setCell ⟨g, i, none⟩ x).cell? ⟨g, j, none⟩ = some v := by
  rw [World.cell?_setCell_other]
  · exact hc
  · intro e; cases e; exact h rfl
theorem six_facts {Y : World} {g : Nat} {z0 z1 z2 z3 z4 z5 : Value} {t : TypeId} (HN : Y.heap[g]? = some (.cells #[z0, z1, z2, z3, z4, z5] t (0, 0))) (x0 x1 x2 x3 x4 : Value) :
    World.cell? Y ⟨g, 0, none⟩ = some z0 ∧ World.cell? (Y.setCell ⟨g, 0, none⟩ x0) ⟨g, 1, none⟩ = some z1 ∧ World.cell? ((Y.setCell ⟨g, 0, none⟩ x0).setCell ⟨g, 1, none⟩ x1) ⟨g, 2, none⟩ = some z2 ∧ World.cell? (((Y.setCell ⟨g, 0, none⟩ x0).setCell ⟨g, 1, none⟩ x1).setCell ⟨g, 2, none⟩ x2) ⟨g, 3, none⟩ = some z3 ∧ World.cell? ((((Y.setCell ⟨g, 0, none⟩ x0).setCell ⟨g, 1, none⟩ x1).setCell ⟨g, 2, none⟩ x2).setCell ⟨g, 3, none⟩ x3) ⟨g, 4, none⟩ = some z4 ∧ World.cell? (((((Y.setCell ⟨g, 0, none⟩ x0).setCell ⟨g, 1, none⟩ x1).setCell ⟨g, 2, none⟩ x2).setCell ⟨g, 3, none⟩ x3).setCell ⟨g, 4, none⟩ x4) ⟨g, 5, none⟩ = some z5 :=
  ⟨(Lib.cell_of_heap HN 0).trans rfl, cell_past (by decide) ((Lib.cell_of_heap HN 1).trans rfl), cell_past (by decide) (cell_past (by decide) ((Lib.cell_of_heap HN 2).trans rfl)), cell_past (by decide) (cell_past (by decide) (cell_past (by decide) ((Lib.cell_of_heap HN 3).trans rfl))), cell_past (by decide) (cell_past (by decide) (cell_past (by decide) (cell_past (by decide) ((Lib.cell_of_heap HN 4).trans rfl)))), cell_past (by decide) (cell_past (by decide) (cell_past (by decide) (cell_past (by decide) (cell_past (by decide) ((Lib.cell_of_heap HN 5).trans rfl)))))⟩
theorem SH.cell {W0 Y : World} {g j : Nat} {v : Value} {o : Obj} (h : SH W0 Y) (hg : W0.heap[g]? = some o) (hc : W0.cell? ⟨g, j, none⟩ = some v) : Y.cell? ⟨g, j, none⟩ = some v :=
  (Below.cell h (p := ⟨g, j, none⟩) (lt_of_heap hg)).trans hc
theorem cell_new (w : World) (cs : Array Value) (t : TypeId) (j : Nat) : (w.alloc (.cells cs t)).cell? ⟨w.heap.size, j, none⟩ = cs[j]? := Lib.cell_of_heap (heap_r0 w _) j
theorem frozen_new (w : World) (cs : Array Value) (t : TypeId) : ∀ j, (w.alloc (.cells cs t)).frozen? ⟨w.heap.size, j, none⟩ = false := fun j => frozen_of (heap_r0 w _) j
section
variable {B : Nat} {w w0 : World} {b mb rb m : Nat} {v : Value} {rs : List (Rw × Value)} {ps : List (Value × Value)} {M : Int → Ex}
set_option maxHeartbeats 16000000 in
theorem hop_c (h0 : Tab B w0 b mb v rs ps) (hs : Small rs) (hRU : RU w0 b rb m rs M w) (hw0 : w0.heap.size ≤ m) (hrm : rb ≠ m) (a : Pl) (nm : ByteArray) (idx : Int) {i : Nat} (hty : a.type = i) {p : Rw × Value} (hp : rs[i]? = some p)
    (hn : p.1.mem.length ≤ 64) (hmem : ∀ x ∈ p.1.mem, MC w0 b rb m rs M x.type ∧ ExOK (M x.type) ∧ BitsOK x (M x.type))
    (ho : 0 ≤ a.off ∧ a.off ≤ 16384) (hfo : 0 ≤ (foundS p.1.mem nm (pl0, false) (placesS (p.1.kind == 16) M ls0 0 p.1.mem)).1.off ∧ (foundS p.1.mem nm (pl0, false) (placesS (p.1.kind == 16) M ls0 0 p.1.mem)).1.off ≤ 16384)
    (harr : p.1.kind = 14 → MC w0 b rb m rs M p.1.elem ∧ 1 ≤ (M p.1.elem).size ∧ p.1.len ≤ 16384 ∧ (M p.1.elem).size ≤ 16385) :
    Calls Tryz.prog 38 #[.pointer (some ⟨rb, 0, none⟩), .agg (plV a), .agg #[.string nm, .int .i64 idx]] w fun e w' => e = .returned (.tuple #[.agg (plV (hopP M p.1 a nm idx).1), .bool (hopP M p.1 a nm idx).2]) ∧ RU w0 b rb m rs M w' ∧ Turned w w' (fun k => k = m) := by
  have hz1 : (w.alloc (.cells #[.int .i64 a.mem, .int .i64 (i : Int), .int .i64 a.off, .int .i64 a.bit, .int .i64 a.bits] TPl)).heap.size = w.heap.size + 1 := by simp
  have hz2 : ((w.alloc (.cells #[.int .i64 a.mem, .int .i64 (i : Int), .int .i64 a.off, .int .i64 a.bit, .int .i64 a.bits] TPl)).alloc (.cells #[.string nm, .int .i64 idx] THop)).heap.size = w.heap.size + 1 + 1 := by simp
  have b1 := below1 w (.cells #[.int .i64 a.mem, .int .i64 (i : Int), .int .i64 a.off, .int .i64 a.bit, .int .i64 a.bits] TPl)
  have b2 := below1 (w.alloc (.cells #[.int .i64 a.mem, .int .i64 (i : Int), .int .i64 a.off, .int .i64 a.bit, .int .i64 a.bits] TPl)) (.cells #[.string nm, .int .i64 idx] THop)
  have b3 := below1 ((w.alloc (.cells #[.int .i64 a.mem, .int .i64 (i : Int), .int .i64 a.off, .int .i64 a.bit, .int .i64 a.bits] TPl)).alloc (.cells #[.string nm, .int .i64 idx] THop)) (.cells #[.int .i64 0, .int .i64 0, .int .i64 0, .int .i64 0, .int .i64 0] TPl)
  have g1 := blk_b (blk_b (heap_r0 w (.cells #[.int .i64 a.mem, .int .i64 (i : Int), .int .i64 a.off, .int .i64 a.bit, .int .i64 a.bits] TPl)) b2) b3
  have g2 := blk_b (heap_r0 (w.alloc (.cells #[.int .i64 a.mem, .int .i64 (i : Int), .int .i64 a.off, .int .i64 a.bit, .int .i64 a.bits] TPl)) (.cells #[.string nm, .int .i64 idx] THop)) b3
  have g3 := heap_r0 ((w.alloc (.cells #[.int .i64 a.mem, .int .i64 (i : Int), .int .i64 a.off, .int .i64 a.bit, .int .i64 a.bits] TPl)).alloc (.cells #[.string nm, .int .i64 idx] THop)) (.cells #[.int .i64 0, .int .i64 0, .int .i64 0, .int .i64 0, .int .i64 0] TPl)
  rw [hz1] at g2
  rw [hz2] at g3
  have hB : Below w.heap.size w (((w.alloc (.cells #[.int .i64 a.mem, .int .i64 (i : Int), .int .i64 a.off, .int .i64 a.bit, .int .i64 a.bits] TPl)).alloc (.cells #[.string nm, .int .i64 idx] THop)).alloc (.cells #[.int .i64 0, .int .i64 0, .int .i64 0, .int .i64 0, .int .i64 0] TPl)) := (b1.trans (b2.mono (by omega))).trans (b3.mono (by omega))
  have HU3 : Hid (RU w0 b rb m rs M (((w.alloc (.cells #[.int .i64 a.mem, .int .i64 (i : Int), .int .i64 a.off, .int .i64 a.bit, .int .i64 a.bits] TPl)).alloc (.cells #[.string nm, .int .i64 idx] THop)).alloc (.cells #[.int .i64 0, .int .i64 0, .int .i64 0, .int .i64 0, .int .i64 0] TPl))) := hRU.kept hB
  have HT3 : Hid (Turned w (((w.alloc (.cells #[.int .i64 a.mem, .int .i64 (i : Int), .int .i64 a.off, .int .i64 a.bit, .int .i64 a.bits] TPl)).alloc (.cells #[.string nm, .int .i64 idx] THop)).alloc (.cells #[.int .i64 0, .int .i64 0, .int .i64 0, .int .i64 0, .int .i64 0] TPl)) (fun k => k = m)) := Turned.of_below hB _
  have hlm := hRU.lt
  have hlr := lt_of_heap hRU.ru
  have HRC : Hid (∀ W, Below w0.heap.size w0 W → Calls Tryz.prog 55 #[.pointer (some ⟨b, 0, none⟩), .int .i64 (i : Int)] W fun e w' => ∃ s', e = .returned (.tuple #[.agg (rwCells p.1 s').toArray, .bool true]) ∧ w'.ownsRow W.heap.size TM 3 s' p.1.mem.length (memCells p.1.mem) ∧ Below W.heap.size W w') := fun W hW => row_c (h0.keptB hW) hp hs
  have HF : Hid (∀ (sp : Option Addr) (sc bs : Nat) (W : World), RU w0 b rb m rs M W → W.ownsRow bs TM 3 (.slice sp p.1.mem.length sc) p.1.mem.length (memCells p.1.mem) → Calls Tryz.prog 34 #[.pointer (some ⟨rb, 0, none⟩), .agg #[.int .i64 p.1.kind, .int .i64 p.1.elem, .int .i64 p.1.len, .string p.1.tag, .slice sp p.1.mem.length sc, .bool p.1.done], .string nm] W fun e w' => e = .returned (.tuple #[.agg (plV (foundS p.1.mem nm (pl0, false) (placesS (p.1.kind == 16) M ls0 0 p.1.mem)).1), .bool (foundS p.1.mem nm (pl0, false) (placesS (p.1.kind == 16) M ls0 0 p.1.mem)).2]) ∧ RU w0 b rb m rs M w' ∧ Turned W w' (fun k => k = m)) := fun sp sc bs W hU how => find_c hU hw0 hrm p.1 nm how hn hmem
  obtain ⟨RES, hRES⟩ : ∃ x, x = hopP M p.1 a nm idx := ⟨_, rfl⟩
  rw [← hRES]
  unfold hopP at hRES
  generalize foundS p.1.mem nm (pl0, false) (placesS (p.1.kind == 16) M ls0 0 p.1.mem) = F at *
  obtain ⟨P, fd⟩ := F
  obtain ⟨pm, pt, po, pbt, pbs⟩ := P
  have HARR : Hid (p.1.kind = 14 → MC w0 b rb m rs M p.1.elem ∧ 1 ≤ (M p.1.elem).size ∧ p.1.len ≤ 16384 ∧ (M p.1.elem).size ≤ 16385) := harr
  have hat : plV a = #[.int .i64 a.mem, .int .i64 (i : Int), .int .i64 a.off, .int .i64 a.bit, .int .i64 a.bits] := by rw [show (plV a) = #[.int .i64 a.mem, .int .i64 a.type, .int .i64 a.off, .int .i64 a.bit, .int .i64 a.bits] from rfl, hty]
  rw [hat]
  obtain ⟨⟨kd, el, ln, tg, mm, dn⟩, s0⟩ := p
  simp only [rwCells] at HRC HF hfo HARR hRES hn ⊢
  have HRES : Hid (RES = _) := hRES
  clear hRES
  have HG1 : Hid (_ = _) := g1
  have HG2 : Hid (_ = _) := g2
  have HG3 : Hid (_ = _) := g3
  clear h0 hs hRU hp hz1 hz2 b1 b2 b3 g1 g2 g3 hB hmem harr hat
  go_enter Tryz.func38, Tryz.ntmps38
  go_upto_region 1 with (fail)
  refine (?_ : Code.wp _ _ _ _ (((w.alloc (.cells #[.int .i64 a.mem, .int .i64 (i : Int), .int .i64 a.off, .int .i64 a.bit, .int .i64 a.bits] TPl)).alloc (.cells #[.string nm, .int .i64 idx] THop)).alloc (.cells #[.int .i64 0, .int .i64 0, .int .i64 0, .int .i64 0, .int .i64 0] TPl)))
  generalize (((w.alloc (.cells #[.int .i64 a.mem, .int .i64 (i : Int), .int .i64 a.off, .int .i64 a.bit, .int .i64 a.bits] TPl)).alloc (.cells #[.string nm, .int .i64 idx] THop)).alloc (.cells #[.int .i64 0, .int .i64 0, .int .i64 0, .int .i64 0, .int .i64 0] TPl)) = W3 at *
  go_cut [8] (fun s8 wx => ∃ (g8 : Nat) (sp : Option Addr) (sc bs : Nat), s8 = .pointer (some ⟨g8, 0, none⟩) ∧ Hid (wx.heap[g8]? = some (.cells #[.int .i64 kd, .int .i64 el, .int .i64 ln, .string tg, .slice sp mm.length sc, .bool dn] TR (0, 0))) ∧ Hid (World.ownsRow wx bs TM 3 (.slice sp mm.length sc) mm.length (memCells mm)) ∧ Hid (SH W3 wx))
  case first =>
    have L0 : ∀ Y, SH W3 Y → Y.cell? ⟨rb, 0, none⟩ = some (.pointer (some ⟨b, 0, none⟩)) := fun Y h => h.cell HU3.out.ru (Lib.cell_of_heap HU3.out.ru 0)
    have L1 : ∀ Y, SH W3 Y → Y.cell? ⟨w.heap.size, 1, none⟩ = some (.int .i64 (i : Int)) := fun Y h => h.cell HG1.out (Lib.cell_of_heap HG1.out 1)
    have HSH : SH W3 W3 := Below.refl _ _
    go_region_held3 (fun Y => SH W3 Y) (with_reducible first | assumption | (refine SH.six ?_ _ _ _ _ _ _; assumption) | (refine SH.drew ?_; assumption) | (refine SH.below ?_ (by assumption); assumption) | (refine SH.alloc ?_ _; assumption) | (refine SH.drew ?_; refine SH.alloc ?_ _; assumption)) (first
      | (go_at_call 55; refine (HRC.out _ ?_).mono ?_; exact HU3.out.below.drew; rintro e y1 ⟨s', rfl, hown, hb1⟩; obtain ⟨sp, sc, rfl⟩ := slice_of_own hown; have HY1 : SH W3 y1 := SH.below (SH.drew HSH) hb1; have HOW : Hid (World.ownsRow y1 W3.drew.heap.size TM 3 (.slice sp mm.length sc) mm.length (memCells mm)) := hown; have k0 := cell_new y1 #[.int .i64 0, .int .i64 0, .int .i64 0, .string ⟨#[]⟩, .slice none 0 0, .bool false] TR 0; have k1 := cell_new y1 #[.int .i64 0, .int .i64 0, .int .i64 0, .string ⟨#[]⟩, .slice none 0 0, .bool false] TR 1; have k2 := cell_new y1 #[.int .i64 0, .int .i64 0, .int .i64 0, .string ⟨#[]⟩, .slice none 0 0, .bool false] TR 2; have k3 := cell_new y1 #[.int .i64 0, .int .i64 0, .int .i64 0, .string ⟨#[]⟩, .slice none 0 0, .bool false] TR 3; have k4 := cell_new y1 #[.int .i64 0, .int .i64 0, .int .i64 0, .string ⟨#[]⟩, .slice none 0 0, .bool false] TR 4; have k5 := cell_new y1 #[.int .i64 0, .int .i64 0, .int .i64 0, .string ⟨#[]⟩, .slice none 0 0, .bool false] TR 5; simp only [List.getElem?_toArray, List.getElem?_cons_succ, List.getElem?_cons_zero] at k0 k1 k2 k3 k4 k5; have f0 := frozen_new y1 #[.int .i64 0, .int .i64 0, .int .i64 0, .string ⟨#[]⟩, .slice none 0 0, .bool false] TR; clear hown)
      | (go_at_call 55; refine (HRC.out _ ?_).mono ?_; exact (HU3.out.below.alloc HU3.out.below.size _).drew; rintro e y1 ⟨s', rfl, hown, hb1⟩; obtain ⟨sp, sc, rfl⟩ := slice_of_own hown; have HOW : Hid (World.ownsRow y1 (W3.alloc (.cells #[.int .i64 0, .int .i64 0, .int .i64 0, .string ⟨#[]⟩, .slice none 0 0, .bool false] TR)).drew.heap.size TM 3 (.slice sp mm.length sc) mm.length (memCells mm)) := hown; have HN : y1.heap[W3.heap.size]? = some (.cells #[.int .i64 0, .int .i64 0, .int .i64 0, .string ⟨#[]⟩, .slice none 0 0, .bool false] TR (0, 0)) := blk_b (w := (W3.alloc (.cells #[.int .i64 0, .int .i64 0, .int .i64 0, .string ⟨#[]⟩, .slice none 0 0, .bool false] TR)).drew) (heap_r0 W3 (.cells #[.int .i64 0, .int .i64 0, .int .i64 0, .string ⟨#[]⟩, .slice none 0 0, .bool false] TR)) hb1; have HNN : Hid (y1.heap[W3.heap.size]? = some (.cells #[.int .i64 0, .int .i64 0, .int .i64 0, .string ⟨#[]⟩, .slice none 0 0, .bool false] TR (0, 0))) := HN; have HY1 : SH W3 y1 := SH.below (SH.drew (SH.alloc HSH _)) hb1; clear hown HN hb1)
      | (have hnn := HNN.out; have FZ : ∀ j, World.frozen? y1 ⟨W3.heap.size, j, none⟩ = false := fun j => frozen_of hnn j; obtain ⟨e0, e1, e2, e3, e4, e5⟩ := six_facts hnn (.int .i64 kd) (.int .i64 el) (.int .i64 ln) (.string tg) (.slice sp mm.length sc); clear hnn; with_reducible refine upon_skip (w' := ((((((y1.setCell ⟨W3.heap.size, 0, none⟩ (.int .i64 kd)).setCell ⟨W3.heap.size, 1, none⟩ (.int .i64 el)).setCell ⟨W3.heap.size, 2, none⟩ (.int .i64 ln)).setCell ⟨W3.heap.size, 3, none⟩ (.string tg)).setCell ⟨W3.heap.size, 4, none⟩ (.slice sp mm.length sc)).setCell ⟨W3.heap.size, 5, none⟩ (.bool dn))) ?_ ?_; (simp only [e0, FZ, Bool.false_eq_true, if_false, Result.andThen_ok]); (simp only [e1, FZ, World.frozen?_setCell, Bool.false_eq_true, if_false, Result.andThen_ok]); (simp only [e2, FZ, World.frozen?_setCell, Bool.false_eq_true, if_false, Result.andThen_ok]); (simp only [e3, FZ, World.frozen?_setCell, Bool.false_eq_true, if_false, Result.andThen_ok]); (simp only [e4, FZ, World.frozen?_setCell, Bool.false_eq_true, if_false, Result.andThen_ok]); (simp only [e5, Result.andThen_ok]); clear e0 e1 e2 e3 e4 e5 FZ; have HN2 := HNN; clear HNN))
    · go_wp2_with fail
      go_meet
      exact ⟨y1.heap.size, sp, sc, _, rfl, heap_r0 y1 _, ownsRow_turned HOW.out (Turned.of_below (below1 y1 _) (fun _ => False)) (fun _ _ h => h.elim), show SH W3 _ by with_reducible assumption⟩
    · go_wp2_with fail
      go_meet
      exact ⟨W3.heap.size, sp, sc, _, rfl, (heap_setCell (j := 5) (heap_setCell (j := 4) (heap_setCell (j := 3) (heap_setCell (j := 2) (heap_setCell (j := 1) (heap_setCell (j := 0) HN2.out _) _) _) _) _) _).trans rfl,
        ownsRow_turned HOW.out (turned6 _ _ _ _ _ _ _ _) (fun k hk e => by subst e; have hb := (ownsRow_at HOW.out hk).1; simp at hb; omega), show SH W3 _ by with_reducible assumption⟩
  case rest =>
    obtain ⟨g8, sp, sc, bs, rfl, H8, HOW, HSH⟩ := hcut
    have HU : Hid (RU w0 b rb m rs M wc) := HU3.out.kept HSH.out
    have HTx : Hid (Turned w wc (fun k => k = m)) := HT3.out.trans (Turned.of_below HSH.out (fun k => k = m)) (fun _ _ e => e)
    have G1 : Hid (_ = _) := blk_b HG1.out HSH.out
    have G2 : Hid (_ = _) := blk_b HG2.out HSH.out
    have G3 := blk_b HG3.out HSH.out
    have HGR : Hid (_ = _) := G3
    have n0 := Lib.cell_of_heap G2.out 0
    have n1 := Lib.cell_of_heap G2.out 1
    have k0 := Lib.cell_of_heap H8.out 0
    have k1 := Lib.cell_of_heap H8.out 1
    have k2 := Lib.cell_of_heap H8.out 2
    have k3 := Lib.cell_of_heap H8.out 3
    have k4 := Lib.cell_of_heap H8.out 4
    have k5 := Lib.cell_of_heap H8.out 5
    simp only [List.getElem?_toArray, List.getElem?_cons_succ, List.getElem?_cons_zero] at n0 n1 k0 k1 k2 k3 k4 k5
    have hbz : ∀ Y : World, (Instr.build TPl #[]).run Tryz.prog Y = .ok (.agg #[.int .i64 0, .int .i64 0, .int .i64 0, .int .i64 0, .int .i64 0]) Y := fun Y => by kernel_rfl
    clear HG1 HG2 HG3 HU3 HT3 HRC
    by_cases hnm : (!nm.toList.isEmpty) = true
    · have HR2 : Hid (RES = (⟨pm, pt, po + a.off, pbt, pbs⟩, fd)) := by rw [HRES.out, if_pos hnm]; rfl
      have hwr : IntKind.i64.wrap (po + a.off) = po + a.off := wrap_id (by omega) (by omega)
      clear HRES HARR
      go_wp2_with fail
      refine (HF.out sp sc bs wc HU.out HOW.out).mono ?_
      rintro e y ⟨rfl, U4, t4⟩
      have A4 := blk_t G1.out t4 (by omega)
      have R4 := blk_t HGR.out t4 (by omega)
      have hold := heap_r0 y (.cells #[.int .i64 0, .int .i64 0, .int .i64 0, .int .i64 0, .int .i64 0] TPl)
      have b5 := below1 y (.cells #[.int .i64 pm, .int .i64 pt, .int .i64 po, .int .i64 pbt, .int .i64 pbs] TPl)
      have N5 := heap_r0 y (.cells #[.int .i64 pm, .int .i64 pt, .int .i64 po, .int .i64 pbt, .int .i64 pbs] TPl)
      have A5 := blk_b A4 b5
      have b6 := below1 y (.cells #[.int .i64 pm, .int .i64 pt, .int .i64 (po + a.off), .int .i64 pbt, .int .i64 pbs] TPl)
      have N6 := heap_r0 y (.cells #[.int .i64 pm, .int .i64 pt, .int .i64 (po + a.off), .int .i64 pbt, .int .i64 pbs] TPl)
      have R6 := blk_b R4 b6
      have HR6 : Hid (_ = _) := R6
      have U6 : Hid (RU w0 b rb m rs M (y.alloc (.cells #[.int .i64 pm, .int .i64 pt, .int .i64 (po + a.off), .int .i64 pbt, .int .i64 pbs] TPl))) := U4.kept b6
      have T6 : Hid (Turned w (y.alloc (.cells #[.int .i64 pm, .int .i64 pt, .int .i64 (po + a.off), .int .i64 pbt, .int .i64 pbs] TPl)) (fun k => k = m)) := (HTx.out.trans t4 (fun _ _ e => e)).trans (Turned.of_below b6 (fun k => k = m)) (fun _ _ e => e)
      have x2 := Lib.cell_of_heap N5 2
      have y2 := Lib.cell_of_heap A5 2
      have z0 := Lib.cell_of_heap N6 0
      have z1 := Lib.cell_of_heap N6 1
      have z2 := Lib.cell_of_heap N6 2
      have z3 := Lib.cell_of_heap N6 3
      have z4 := Lib.cell_of_heap N6 4
      have f2 := frozen_of N5 2
      simp only [List.getElem?_toArray, List.getElem?_cons_succ, List.getElem?_cons_zero] at x2 y2 z0 z1 z2 z3 z4
      clear U4 t4 A4 R4 b5 b6 HU HTx HF HOW HSH G1 G2 G3 HGR H8 n1 k0 k1 k2 k3 k4 k5 n0 N5 N6 A5
      go_wp2_with (first | ((with_reducible apply step_store hold); rfl; rfl; kernel_rfl; rfl; kernel_rfl; rw [World.setRow_alloc_new]) | ((with_reducible apply step_store R6); rfl; rfl; kernel_rfl; rfl; kernel_rfl) | fail)
      rw [HR2.out]
      refine (?_ : bodyPost _ _ _ _ _ _)
      refine ret_p2 (p := 6) (q := 7) (cs := #[.int .i64 pm, .int .i64 pt, .int .i64 (po + a.off), .int .i64 pbt, .int .i64 pbs]) rfl rfl (setRow_heap _ _ _ _ _ _ HR6.out) rfl ?_
      exact ⟨rfl, U6.out.turned (Turned.setRow _ _ _ (S := fun k => k = w.heap.size + 1 + 1) rfl) (fun k e => by omega) (fun e => by omega) (fun e => by omega), T6.out.trans (Turned.setRow _ _ _ (S := fun k => k = w.heap.size + 1 + 1) rfl) (fun k h e => by omega)⟩
    · have hnm0 : (!nm.toList.isEmpty) = false := by simpa using hnm
      by_cases hok : kd = 14 ∧ 0 ≤ idx ∧ idx < ln
      · obtain ⟨hkd, hi0, hi1⟩ := hok
        obtain ⟨hMC, hs1, hl1, hs2⟩ := HARR.out hkd
        have hmul : idx * (M el).size ≤ 16384 * 16385 := Int.mul_le_mul (by omega) hs2 (by omega) (by omega)
        have hmul0 : 0 ≤ idx * (M el).size := Int.mul_nonneg hi0 (by omega)
        have hwm : IntKind.i64.wrap (idx * (M el).size) = idx * (M el).size := wrap_id hmul0 (by omega)
        have hwa : IntKind.i64.wrap (a.off + idx * (M el).size) = a.off + idx * (M el).size := wrap_id (by omega) (by omega)
        have HR2 : Hid (RES = (⟨a.mem, el, a.off + idx * (M el).size, 0, 0⟩, true)) := by show RES = _; rw [HRES.out, if_neg hnm, if_pos ⟨hkd, hi0, hi1⟩]
        have HMC : Hid (∀ W, RU w0 b rb m rs M W → Calls Tryz.prog 57 #[.pointer (some ⟨rb, 0, none⟩), .int .i64 el] W fun e w' => e = .returned (.agg #[.int .i64 (M el).size, .int .i64 (M el).align]) ∧ RU w0 b rb m rs M w' ∧ Turned W w' (fun k => k = m)) := fun W hW => hMC W hW
        have hk1 : (kd != 14) = false := by simp [hkd]
        have hk2 : decide (idx < 0) = false := by simp; omega
        have hk3 : decide (ln ≤ idx) = false := by simp; omega
        have hbv : ∀ (x y z : Int) (Y : World), (Instr.build TPl #[(0, .int .i64 x), (1, .int .i64 y), (2, .int .i64 z)]).run Tryz.prog Y = .ok (.agg #[.int .i64 x, .int .i64 y, .int .i64 z, .int .i64 0, .int .i64 0]) Y := fun x y z Y => by kernel_rfl
        have hfd : ∀ (x y : Int) (Y : World), (Instr.field TX (.agg #[.int .i64 x, .int .i64 y]) 0).run Tryz.prog Y = .ok (.int .i64 x) Y := fun x y Y => by kernel_rfl
        have HMUL : Hid (0 ≤ idx * (M el).size ∧ idx * (M el).size ≤ 16384 * 16385) := ⟨hmul0, hmul⟩
        clear HRES HARR hMC hmul hmul0 hkd
        generalize M el = ex at *
        go_upto_region 8 with (fail)
        have N8 : ¬ (g8 = m ∨ g8 = m) := by have := HU.out.ne_m H8.out; omega
        have F0 : ∀ Y, SM wc m m Y → Y.cell? ⟨w.heap.size, 0, none⟩ = some (.int .i64 a.mem) := fun Y h => h.cell G1.out (by omega) (Lib.cell_of_heap G1.out 0)
        have F2 : ∀ Y, SM wc m m Y → Y.cell? ⟨w.heap.size, 2, none⟩ = some (.int .i64 a.off) := fun Y h => h.cell G1.out (by omega) (Lib.cell_of_heap G1.out 2)
        have F3 : ∀ Y, SM wc m m Y → Y.cell? ⟨w.heap.size + 1, 1, none⟩ = some (.int .i64 idx) := fun Y h => h.cell G2.out (by omega) (Lib.cell_of_heap G2.out 1)
        have F4 : ∀ Y, SM wc m m Y → Y.cell? ⟨g8, 1, none⟩ = some (.int .i64 el) := fun Y h => h.cell H8.out N8 (Lib.cell_of_heap H8.out 1)
        have HUD : Hid (RU w0 b rb m rs M wc.drew) := HU.out.kept (Below.refl _ _).drew
        have HSM : SM wc m m wc := Turned.refl _ _
        clear n0 n1 k0 k1 k2 k3 k4 k5 HF G3
        go_region_held3 (fun Y => SM wc m m Y) (with_reducible first | assumption | (refine SM.drew ?_; assumption) | (refine SM.meas ?_ (by assumption); assumption)) (first
          | (go_at_call 57; refine (HMC.out _ HUD.out).mono ?_; rintro e y1 ⟨rfl, hU1, ht1⟩; have HU1 : Hid (RU w0 b rb m rs M y1) := hU1; clear hU1))
        rename_i hHeld
        have x0 := F0 _ hHeld
        have x4 := F4 _ hHeld
        have R1 := blk_t HGR.out hHeld (by omega)
        have HR1 : Hid (_ = _) := R1
        have T1 : Hid (Turned w y1 (fun k => k = m)) := HTx.out.trans hHeld (fun _ _ e => by omega)
        clear hHeld HSM F0 F2 F3 F4 HUD HU HTx HMC ht1 G1 G2 HGR H8 HOW HSH
        go_wp2_with (first | ((with_reducible apply step_store R1); rfl; rfl; kernel_rfl; rfl; kernel_rfl) | fail)
        rw [HR2.out]
        refine (?_ : bodyPost _ _ _ _ _ _)
        refine ret_p2 (p := 6) (q := 7) (cs := #[.int .i64 a.mem, .int .i64 el, .int .i64 (a.off + idx * ex.size), .int .i64 0, .int .i64 0]) rfl rfl (setRow_heap _ _ _ _ _ _ HR1.out) rfl ?_
        exact ⟨rfl, HU1.out.turned (Turned.setRow _ _ _ (S := fun k => k = w.heap.size + 1 + 1) rfl) (fun k e => by omega) (fun e => by omega) (fun e => by omega), T1.out.trans (Turned.setRow _ _ _ (S := fun k => k = w.heap.size + 1 + 1) rfl) (fun k h e => by omega)⟩
      · have HR2 : Hid (RES = (pl0, false)) := by show RES = _; rw [HRES.out, if_neg hnm, if_neg hok]
        clear HRES HARR HF
        have hcs : (kd != 14) = true ∨ (kd != 14) = false ∧ (decide (idx < 0) = true ∨ decide (idx < 0) = false ∧ decide (ln ≤ idx) = true) := by
          by_cases h1 : kd = 14
          · right
            refine ⟨by simp [h1], ?_⟩
            by_cases h2 : idx < 0
            · left; simp [h2]
            · right
              exact ⟨by simp; omega, by simp only [decide_eq_true_eq]; exact Int.not_lt.1 fun h3 => hok ⟨h1, by omega, h3⟩⟩
          · left; simp [h1]
        rcases hcs with hk1 | ⟨hk1, hk2 | ⟨hk2, hk3⟩⟩
        all_goals
          clear hok
          go_wp2_with (first | ((with_reducible apply step_store G3); rfl; rfl; kernel_rfl; rfl; kernel_rfl) | fail)
          rw [HR2.out]
          refine (?_ : bodyPost _ _ _ _ _ _)
          refine ret_p2 (p := 6) (q := 7) (cs := #[.int .i64 0, .int .i64 0, .int .i64 0, .int .i64 0, .int .i64 0]) rfl rfl (setRow_heap _ _ _ _ _ _ HGR.out) rfl ?_
          exact ⟨rfl, HU.out.turned (Turned.setRow _ _ _ (S := fun k => k = w.heap.size + 1 + 1) rfl) (fun k e => by omega) (fun e => by omega) (fun e => by omega), HTx.out.trans (Turned.setRow _ _ _ (S := fun k => k = w.heap.size + 1 + 1) rfl) (fun k h e => by omega)⟩
end
end Go.Proofs.YtlcghlfmaohfeaaGreat
namespace Go.Proofs.YtlcghlfmaohfeaaGreat
open Go.RowKit Go.Maps
set_option linter.unusedVariables false
set_option maxRecDepth 100000
theorem hopIn_cells {w : World} {x : Value} {l : List Hp} (h : HopIn w x l) : ∃ p c, x = .slice p l.length c ∧ ∀ j m, l[j]? = some m → ∃ g o, p = some ⟨g, o, none⟩ ∧ l.length ≤ c ∧ ∀ Y, Below w.heap.size w Y → ∀ k, k < 2 → Y.cell? ⟨g, o + j * 2 + k, none⟩ = (hpCells m)[k]? := by
  rcases h with (⟨rfl, rfl⟩ | ⟨g, o, c, rfl, hc, hg, hcell⟩) | ⟨a, c, rfl, rfl⟩
  · exact ⟨none, 0, rfl, fun j m hm => by simp at hm⟩
  · exact ⟨_, c, rfl, fun j m hm => ⟨g, o, rfl, hc, fun Y hY k hk => (hY.cell (p := ⟨g, o + j * 2 + k, none⟩) hg).trans (hcell j m hm k hk)⟩⟩
  · exact ⟨_, c, rfl, fun j m hm => by simp at hm⟩
theorem found_noneW (mem : List Mb) (nm : ByteArray) : ∀ (l : List Pl) (s : Pl × Bool), (foundS mem nm s l).2 = false → foundS mem nm s l = s
  | [], s, _ => rfl
  | p :: l, s, h => by
    have e : foundS mem nm s (p :: l) = foundS mem nm (if hitP mem nm p then (p, true) else s) l := rfl
    rw [e] at h ⊢
    by_cases hh : hitP mem nm p = true
    · rw [if_pos hh] at h ⊢
      have h2 := found_noneW mem nm l _ h
      rw [h2] at h
      cases h
    · rw [if_neg hh] at h ⊢
      exact found_noneW mem nm l _ h
theorem drop_at {α : Type} {l : List α} {k : Nat} {x : α} (h : l[k]? = some x) : l.drop k = x :: l.drop (k + 1) := by
  obtain ⟨hk, rfl⟩ := List.getElem?_eq_some_iff.1 h
  exact List.drop_eq_getElem_cons hk
section
variable {B : Nat} {w w0 : World} {b mb rb m : Nat} {v : Value} {rs : List (Rw × Value)} {ps : List (Value × Value)} {M : Int → Ex}
/-- What Walk says of it. -/
def walkC (o : Option Pl) : Int := if o.isSome then 0 else 30
/-- hop from wherever a walk may stand. -/
theorem hop_any (h0 : Tab B w0 b mb v rs ps) (hs : Small rs) (hf : FromOK rs) (hM : IsMeas (rowsOf rs) M) (hRU : RU w0 b rb m rs M w) (hw0 : w0.heap.size ≤ m) (hrm : rb ≠ m) {S : Int} (hS : S ≤ 16384) {a : Pl} (hA : AtOK rs M S a)
    {i : Nat} {p : Rw × Value} (hty : a.type = i) (hp : rs[i]? = some p) (nm : ByteArray) (idx : Int) :
    Calls Tryz.prog 38 #[.pointer (some ⟨rb, 0, none⟩), .agg (plV a), .agg #[.string nm, .int .i64 idx]] w fun e w' => e = .returned (.tuple #[.agg (plV (hopP M p.1 a nm idx).1), .bool (hopP M p.1 a nm idx).2]) ∧ RU w0 b rb m rs M w' ∧ Turned w w' (fun k => k = m) := by
  have hsz := at_size hf hM hA hS
  obtain ⟨i', p', e, hp', hw, ho⟩ := hA.ex
  have lo := hA.lo
  have hi := hA.hi
  have hii : i = i' := by omega
  subst hii
  obtain rfl : p = p' := Option.some.inj (hp.symm.trans hp')
  rw [hty] at hsz
  have hn : p.1.mem.length ≤ 64 := hs p (List.mem_of_getElem? hp)
  have hall := measure_all h0 hs hf hM hw0 hrm
  have hmem : ∀ x ∈ p.1.mem, MC w0 b rb m rs M x.type ∧ ExOK (M x.type) ∧ BitsOK x (M x.type) := by
    cases hk : recK p.1.kind with
    | true => exact (rec_mem h0 hs hf hM hw0 hrm hp hw hk).2.2
    | false => rw [no_mem hf hp hk]; intro x hx; cases hx
  refine hop_c h0 hs hRU hw0 hrm a nm idx hty hp hn hmem ⟨lo, by omega⟩ ?_ ?_
  · cases hfd : (foundS p.1.mem nm (pl0, false) (placesS (p.1.kind == 16) M ls0 0 p.1.mem)).2 with
    | false =>
      rw [found_noneW _ _ _ _ hfd]
      show (0 : Int) ≤ 0 ∧ (0 : Int) ≤ 16384
      omega
    | true =>
      have hin := found_mem hfd
      cases hk : recK p.1.kind with
      | false => rw [no_mem hf hp hk] at hin; simp [placesS] at hin
      | true =>
        obtain ⟨q1, q2, _⟩ := place_within hf hM hp hw hk hsz _ hin
        exact ⟨q1, by omega⟩
  · intro h14
    obtain ⟨k, q, hk, hq, hwq, l1, l2, s1, hMi, _⟩ := arr_room hf hM hp hw h14 hsz
    refine ⟨by rw [hk]; exact hall k q hq hwq, s1, l2, ?_⟩
    have := (meas_ok hf hM k q hq hwq).hi
    rw [hk]
    omega
set_option maxHeartbeats 16000000 in
theorem walk_ok (h : Tab B w b mb v rs ps) (hs : Small rs) (hf : FromOK rs) (hM : IsMeas (rowsOf rs) M) {i : Nat} {p : Rw × Value} (hp : rs[i]? = some p) (hwh : wholeR p.1 = true) (hgt : (M i).size ≤ 16384)
    {x : Value} {l : List Hp} (hl : HopIn w x l) (hbig : l.length ≤ 9223372036854775807) :
    Calls Tryz.prog 17 #[.pointer (some ⟨b, 0, none⟩), .int .i64 i, x] w fun e w' => e = .returned (.tuple #[.agg (plV ((walkP rs M ⟨0, i, 0, 0, 0⟩ l).getD pl0)), .int .i64 (walkC (walkP rs M ⟨0, i, 0, 0, 0⟩ l))]) ∧ Below w.heap.size w w' := by
  have b0 := below1 w (.cells #[.int .i64 0, .int .i64 0, .int .i64 0, .int .i64 0, .int .i64 0] TPl)
  have E0 := heap_r0 w (.cells #[.int .i64 0, .int .i64 0, .int .i64 0, .int .i64 0, .int .i64 0] TPl)
  have hz0 : (w.alloc (.cells #[.int .i64 0, .int .i64 0, .int .i64 0, .int .i64 0, .int .i64 0] TPl)).heap.size = w.heap.size + 1 := by simp
  have hT := h.keptB b0
  have c := open_ok hT hs hf hM hp hwh hgt
  have hA0 := at_first hf hM hp hwh
  have hbz : ∀ Y : World, (Instr.build TPl #[]).run Tryz.prog Y = .ok (.agg #[.int .i64 0, .int .i64 0, .int .i64 0, .int .i64 0, .int .i64 0]) Y := fun Y => by kernel_rfl
  have hbi : ∀ (j : Int) (Y : World), (Instr.build TPl #[(1, .int .i64 j)]).run Tryz.prog Y = .ok (.agg #[.int .i64 0, .int .i64 j, .int .i64 0, .int .i64 0, .int .i64 0]) Y := fun j Y => by kernel_rfl
  have HN : Hid (∀ (rb m : Nat) (W : World) (a : Pl) (nm : ByteArray) (idx : Int) (j : Nat) (q : Rw × Value), RU (w.alloc (.cells #[.int .i64 0, .int .i64 0, .int .i64 0, .int .i64 0, .int .i64 0] TPl)) b rb m rs M W → w.heap.size + 1 ≤ m → rb ≠ m → AtOK rs M (M i).size a → a.type = j → rs[j]? = some q →
      Calls Tryz.prog 38 #[.pointer (some ⟨rb, 0, none⟩), .agg #[.int .i64 a.mem, .int .i64 a.type, .int .i64 a.off, .int .i64 a.bit, .int .i64 a.bits], .agg #[.string nm, .int .i64 idx]] W fun e w' => e = .returned (.tuple #[.agg (plV (hopP M q.1 a nm idx).1), .bool (hopP M q.1 a nm idx).2]) ∧ RU (w.alloc (.cells #[.int .i64 0, .int .i64 0, .int .i64 0, .int .i64 0, .int .i64 0] TPl)) b rb m rs M w' ∧ Turned W w' (fun k => k = m)) :=
    fun rb m W a nm idx j q hU h1 h2 hA hj hq => hop_any hT hs hf hM hU (by rw [hz0]; exact h1) h2 hgt hA hj hq nm idx
  have HNX : Hid (∀ (a : Pl) (nm : ByteArray) (idx : Int) (j : Nat) (q : Rw × Value), AtOK rs M (M i).size a → a.type = j → rs[j]? = some q → (hopP M q.1 a nm idx).2 = true → AtOK rs M (M i).size (hopP M q.1 a nm idx).1) :=
    fun a nm idx j q hA hj hq hh => hop_at hf hM hgt hA hj hq nm idx hh
  obtain ⟨RES, hRES⟩ : ∃ x, x = walkP rs M ⟨0, i, 0, 0, 0⟩ l := ⟨_, rfl⟩
  rw [← hRES]
  obtain ⟨sp, cap, rfl, hcell⟩ := hopIn_cells hl
  have HCL : Hid (∀ j m, l[j]? = some m → ∃ g o, sp = some ⟨g, o, none⟩ ∧ l.length ≤ cap ∧ ∀ Y, Below w.heap.size w Y → ∀ k, k < 2 → Y.cell? ⟨g, o + j * 2 + k, none⟩ = (hpCells m)[k]?) := hcell
  have HRES : Hid (RES = walkP rs M ⟨0, i, 0, 0, 0⟩ l) := hRES
  have HA0 : Hid (AtOK rs M (M i).size ⟨0, i, 0, 0, 0⟩) := hA0
  have HB0 : Hid (_) := b0
  clear h hs hf hM hp hwh hgt hl hT hA0 hcell hRES
  generalize hex : M i = ex at *
  clear hex
  go_enter Tryz.func17, Tryz.ntmps17
  go_wp2_with fail
  refine c.mono ?_
  rintro e w2 ⟨rb, m, rfl, U2, hm0, hrm⟩
  rw [hz0] at hm0
  have hold := heap_r0 w2 (.cells #[.int .i64 0, .int .i64 0] TX)
  have b3 := below1 w2 (.cells #[.int .i64 ex.size, .int .i64 ex.align] TX)
  have U3 : Hid (RU _ b rb m rs M (w2.alloc (.cells #[.int .i64 ex.size, .int .i64 ex.align] TX))) := U2.kept b3
  have E3 : Hid (_ = _) := blk_b (blk_b E0 U2.below) b3
  clear c U2 b3 E0 b0
  go_upto_region 4 with (first | ((with_reducible apply step_store hold); rfl; rfl; kernel_rfl; rfl; kernel_rfl; rw [World.setRow_alloc_new]) | fail)
  generalize w2.alloc (.cells #[.int .i64 ex.size, .int .i64 ex.align] TX) = W3 at *
  have hold3 := heap_r0 W3 (.cells #[.int .i64 0, .int .i64 0, .int .i64 0, .int .i64 0, .int .i64 0] TPl)
  have b4 := below1 W3 (.cells #[.int .i64 0, .int .i64 (i : Int), .int .i64 0, .int .i64 0, .int .i64 0] TPl)
  have N4 : Hid (_ = _) := heap_r0 W3 (.cells #[.int .i64 0, .int .i64 (i : Int), .int .i64 0, .int .i64 0, .int .i64 0] TPl)
  have U4 : Hid (RU _ b rb m rs M (W3.alloc (.cells #[.int .i64 0, .int .i64 (i : Int), .int .i64 0, .int .i64 0, .int .i64 0] TPl))) := U3.out.kept b4
  have E4 : Hid (_ = _) := blk_b E3.out b4
  have hg6 : w.heap.size < W3.heap.size := lt_of_heap E3.out
  have hrb : rb < W3.heap.size := lt_of_heap U3.out.ru
  have hmb : m < W3.heap.size := U3.out.lt
  clear b4 U3 E3 hold
  go_wp2_with (first | ((with_reducible apply step_store hold3); rfl; rfl; kernel_rfl; rfl; kernel_rfl; rw [World.setRow_alloc_new]) | fail)
  generalize w.alloc (.cells #[.int .i64 0, .int .i64 0, .int .i64 0, .int .i64 0, .int .i64 0] TPl) = W0 at *
  go_loopw [31] (fun iv wr => ∃ (k : Nat) (a : Pl), k ≤ l.length ∧ iv = .int .i64 k ∧ Hid (RES = walkP rs M a (l.drop k)) ∧ Hid (AtOK rs M ex.size a) ∧ Hid (RU W0 b rb m rs M wr) ∧ Hid (wr.heap[w.heap.size]? = some (.cells #[.int .i64 0, .int .i64 0, .int .i64 0, .int .i64 0, .int .i64 0] TPl (0, 0))) ∧ Hid (wr.heap[W3.heap.size]? = some (.cells #[.int .i64 a.mem, .int .i64 a.type, .int .i64 a.off, .int .i64 a.bit, .int .i64 a.bits] TPl (0, 0)))) (fun iv _ => l.length - (intOf iv).toNat)
  case atStart => exact ⟨0, ⟨0, i, 0, 0, 0⟩, Nat.zero_le _, rfl, HRES, HA0, U4, E4, N4⟩
  case round =>
    obtain ⟨k, a, hk, rfl, HW, HA, HU, HE, HG⟩ := hrel
    have HBW : Hid (Below w.heap.size w wr) := HB0.out.trans (HU.out.below.mono HB0.out.size)
    clear HRES HA0 U4 E4 N4 hold3
    by_cases hlt : k < l.length
    · obtain ⟨⟨nm, idx⟩, hx⟩ : ∃ h, l[k]? = some h := ⟨_, List.getElem?_eq_getElem hlt⟩
      obtain ⟨g, o, hsp, hcap, hcell⟩ := HCL.out k _ hx
      subst hsp
      have c0 := hcell wr HBW.out 0 (by omega)
      have c1 := hcell wr HBW.out 1 (by omega)
      simp only [hpCells, Nat.add_zero, List.getElem?_cons_zero, List.getElem?_cons_succ] at c0 c1
      obtain ⟨j, q, hj, hq, _, _⟩ := HA.out.ex
      have HDR : Hid (l.drop k = (nm, idx) :: l.drop (k + 1)) := drop_at hx
      have hq2 : rs[a.type.toNat]? = some q := by rw [hj]; simpa using hq
      have HST : Hid (RES = if (hopP M q.1 a nm idx).2 = true then walkP rs M (hopP M q.1 a nm idx).1 (l.drop (k + 1)) else none) := by
        show RES = _
        rw [HW.out, HDR.out, walkP, hq2]
      have hnx := HNX.out a nm idx j q HA.out hj hq
      have hold5 := heap_r0 wr (.cells #[.string ⟨#[]⟩, .int .i64 0] THop)
      have b5 := below1 wr (.cells #[.string nm, .int .i64 idx] THop)
      have N5 := heap_r0 wr (.cells #[.string nm, .int .i64 idx] THop)
      have A5 := blk_b HG.out b5
      have d0 := Lib.cell_of_heap A5 0
      have d1 := Lib.cell_of_heap A5 1
      have d2 := Lib.cell_of_heap A5 2
      have d3 := Lib.cell_of_heap A5 3
      have d4 := Lib.cell_of_heap A5 4
      have n0 := Lib.cell_of_heap N5 0
      have n1 := Lib.cell_of_heap N5 1
      simp only [List.getElem?_toArray, List.getElem?_cons_zero, List.getElem?_cons_succ] at d0 d1 d2 d3 d4 n0 n1
      have cc := HN.out rb m _ a nm idx j q (HU.out.kept b5) hm0 hrm HA.out hj hq
      have HAA : Hid (_ = _) := A5
      have HEE : Hid (_ = _) := blk_b HE.out b5
      generalize hRR : hopP M q.1 a nm idx = RR at *
      clear hRR
      obtain ⟨P, ok⟩ := RR
      clear hcell hj hq hq2 N5 A5 HDR HW HE HG HU HA HN HCL HNX hx b5
      simp only at cc hnx HST
      go_wp2_with (first | ((with_reducible apply step_store hold5); rfl; rfl; kernel_rfl; rfl; kernel_rfl; rw [World.setRow_alloc_new]) | fail)
      refine cc.mono ?_
      rintro e y ⟨rfl, U6, t6⟩
      have A6 := blk_t HAA.out t6 (by omega)
      have E6 := blk_t HEE.out t6 (by omega)
      have hold7 := heap_r0 y (.cells #[.int .i64 0, .int .i64 0, .int .i64 0, .int .i64 0, .int .i64 0] TPl)
      have b7 := below1 y (.cells #[.int .i64 P.mem, .int .i64 P.type, .int .i64 P.off, .int .i64 P.bit, .int .i64 P.bits] TPl)
      have N7 := heap_r0 y (.cells #[.int .i64 P.mem, .int .i64 P.type, .int .i64 P.off, .int .i64 P.bit, .int .i64 P.bits] TPl)
      have A7 := blk_b A6 b7
      have E7 := blk_b E6 b7
      have U7 : Hid (RU W0 b rb m rs M (y.alloc (.cells #[.int .i64 P.mem, .int .i64 P.type, .int .i64 P.off, .int .i64 P.bit, .int .i64 P.bits] TPl))) := U6.kept b7
      have HA7 : Hid (_ = _) := A7
      have HE7 : Hid (_ = _) := E7
      have z0 := Lib.cell_of_heap N7 0
      have z1 := Lib.cell_of_heap N7 1
      have z2 := Lib.cell_of_heap N7 2
      have z3 := Lib.cell_of_heap N7 3
      have z4 := Lib.cell_of_heap N7 4
      simp only [List.getElem?_toArray, List.getElem?_cons_zero, List.getElem?_cons_succ] at z0 z1 z2 z3 z4
      clear cc U6 t6 A6 E6 b7 N7 HAA HEE d0 d1 d2 d3 d4 n0 n1 c0 c1 hold5
      cases ok with
      | false =>
        have HR2 : Hid (RES = none) := by show RES = _; rw [HST.out]; rfl
        clear HST hnx
        go_wp2_with (first | ((with_reducible apply step_store hold7); rfl; rfl; kernel_rfl; rfl; kernel_rfl; rw [World.setRow_alloc_new]) | ((with_reducible apply step_store E7); rfl; rfl; kernel_rfl; rfl; kernel_rfl) | fail)
        rw [HR2.out]
        refine (?_ : bodyPost _ _ _ _ _ _)
        refine ret_p2 (p := 6) (q := 7) (cs := #[.int .i64 0, .int .i64 0, .int .i64 0, .int .i64 0, .int .i64 0]) rfl rfl (setRow_heap _ _ _ _ _ _ HE7.out) rfl ?_
        exact ⟨rfl, below_setRow (HB0.out.trans (U7.out.below.mono HB0.out.size)) (Nat.le_refl _) _⟩
      | true =>
        have HR2 : Hid (RES = walkP rs M P (l.drop (k + 1))) := by show RES = _; rw [HST.out]; rfl
        have HP : Hid (AtOK rs M ex.size P) := hnx rfl
        clear HST hnx
        go_wp2_with (first | ((with_reducible apply step_store hold7); rfl; rfl; kernel_rfl; rfl; kernel_rfl; rw [World.setRow_alloc_new]) | ((with_reducible apply step_store A7); rfl; rfl; kernel_rfl; rfl; kernel_rfl) | fail)
        refine ⟨⟨k + 1, P, by omega, by go_num, HR2, HP, ?_, ?_, ?_⟩, by simp [intOf]; omega⟩
        · exact U7.out.turned (Turned.setRow _ _ _ (S := fun k => k = W3.heap.size) rfl) (fun k e => by omega) (fun e => by omega) (fun e => by omega)
        · exact (setRow_other _ _ _ _ (by omega)).trans HE7.out
        · exact setRow_heap _ _ _ _ _ _ HA7.out
    · obtain rfl : k = l.length := by omega
      have HR2 : Hid (RES = some a) := by show RES = _; rw [HW.out, List.drop_length]; rfl
      have d0 := Lib.cell_of_heap HG.out 0
      have d1 := Lib.cell_of_heap HG.out 1
      have d2 := Lib.cell_of_heap HG.out 2
      have d3 := Lib.cell_of_heap HG.out 3
      have d4 := Lib.cell_of_heap HG.out 4
      simp only [List.getElem?_toArray, List.getElem?_cons_zero, List.getElem?_cons_succ] at d0 d1 d2 d3 d4
      have E7 := HE.out
      clear HW HN HNX HCL
      go_wp2_with (first | ((with_reducible apply step_store E7); rfl; rfl; kernel_rfl; rfl; kernel_rfl) | fail)
      rw [HR2.out]
      refine (?_ : bodyPost _ _ _ _ _ _)
      refine ret_p2 (p := 6) (q := 7) (cs := #[.int .i64 a.mem, .int .i64 a.type, .int .i64 a.off, .int .i64 a.bit, .int .i64 a.bits]) rfl rfl (setRow_heap _ _ _ _ _ _ HE.out) rfl ?_
      exact ⟨rfl, below_setRow HBW.out (Nat.le_refl _) _⟩
/-- What Walk answers of any type. -/
def walkR (rs : List (Rw × Value)) (M : Int → Ex) (id : Int) (l : List Hp) : Pl × Int :=
  if openE rs M id = 0 then ((walkP rs M ⟨0, id, 0, 0, 0⟩ l).getD pl0, walkC (walkP rs M ⟨0, id, 0, 0, 0⟩ l)) else (pl0, openE rs M id)
theorem walk_any (h : Tab B w b mb v rs ps) (h0 : 0 < rs.length) (hs : Small rs) (hf : FromOK rs) (hM : IsMeas (rowsOf rs) M) (id : Int) {x : Value} {l : List Hp} (hl : HopIn w x l) (hbig : l.length ≤ 9223372036854775807) :
    Calls Tryz.prog 17 #[.pointer (some ⟨b, 0, none⟩), .int .i64 id, x] w fun e w' => e = .returned (.tuple #[.agg (plV (walkR rs M id l).1), .int .i64 (walkR rs M id l).2]) ∧ Below w.heap.size w w' := by
  have hT := h.keptB (below1 w (.cells #[.int .i64 0, .int .i64 0, .int .i64 0, .int .i64 0, .int .i64 0] TPl))
  have key : ∀ er : Int, openE rs M id = er → (er != 0) = true → walkR rs M id l = (pl0, er) := fun er he hne => by
    unfold walkR
    rw [if_neg (by rw [he]; simpa using hne), he]
  cases hh : hasP rs.length id with
  | false =>
    rw [key 30 (openE_none (M := M) hh).1 (by decide)]
    exact walk_err id x 30 (by decide) none ⟨0, 0⟩ (open_none hT h0 id hh)
  | true =>
    obtain ⟨i, p, rfl, hp⟩ := has_at hh
    have hwP := wholeP_at hp
    cases hw : wholeR p.1 with
    | false =>
      rw [hw] at hwP
      rw [key 50 (openE_inc (M := M) hh hwP).1 (by decide)]
      exact walk_err i x 50 (by decide) none ⟨0, 0⟩ (open_inc hT hs hp hw)
    | true =>
      rw [hw] at hwP
      by_cases hg : 16384 < (M i).size
      · rw [key 51 (openE_large hh hwP hg).1 (by decide)]
        exact walk_err i x 51 (by decide) none ⟨0, 0⟩ (open_large hT hs hf hM hp hw hg)
      · have he := (openE_ok hh hwP (by omega : (M i).size ≤ 16384)).1
        have e1 : walkR rs M i l = ((walkP rs M ⟨0, i, 0, 0, 0⟩ l).getD pl0, walkC (walkP rs M ⟨0, i, 0, 0, 0⟩ l)) := by unfold walkR; rw [if_pos he]
        rw [e1]
        exact walk_ok h hs hf hM hp hw (by omega) hl hbig
end
end Go.Proofs.YtlcghlfmaohfeaaGreat
namespace Go.Proofs.YtlcghlfmaohfeaaGreat
open Go.RowKit Go.Maps
set_option linter.unusedVariables false
set_option maxRecDepth 100000
section
variable {rs : List (Rw × Value)} {M : Int → Ex}
theorem walkR_some (hf : FromOK rs) (hM : IsMeas (rowsOf rs) M) {id : Int} {l : List Hp} (h : (walkR rs M id l).2 = 0) : openE rs M id = 0 ∧ walkP rs M ⟨0, id, 0, 0, 0⟩ l = some (walkR rs M id l).1 ∧ (M id).size ≤ 16384 ∧ AtOK rs M (M id).size (walkR rs M id l).1 := by
  unfold walkR at h ⊢
  by_cases he : openE rs M id = 0
  · rw [if_pos he] at h ⊢
    have hhh : hasP rs.length id = true := by
      cases hh : hasP rs.length id with
      | true => rfl
      | false => rw [(openE_none (M := M) hh).1] at he; cases he
    obtain ⟨i, p, rfl, hp⟩ := has_at hhh
    have hwP := wholeP_at hp
    cases hw : wholeR p.1 with
    | false => rw [hw] at hwP; rw [(openE_inc (M := M) hhh hwP).1] at he; cases he
    | true =>
      rw [hw] at hwP
      have hg : (M i).size ≤ 16384 := by
        refine Int.not_lt.1 fun hg => ?_
        rw [(openE_large hhh hwP hg).1] at he
        cases he
      cases ho : walkP rs M ⟨0, i, 0, 0, 0⟩ l with
      | none => rw [ho] at h; cases h
      | some P => exact ⟨he, rfl, hg, walk_at hf hM hg l (at_first hf hM hp hw) ho⟩
  · rw [if_neg he] at h
    exact absurd h he
theorem at_open (hf : FromOK rs) (hM : IsMeas (rowsOf rs) M) {S : Int} (hS : S ≤ 16384) {a : Pl} (h : AtOK rs M S a) : openE rs M a.type = 0 := by
  have hsz := at_size hf hM h hS
  obtain ⟨i, p, e, hp, hw, _⟩ := h.ex
  have hlt : i < rs.length := (List.getElem?_eq_some_iff.1 hp).1
  rw [e] at hsz ⊢
  exact (openE_ok (by simp [hasP]; omega) (by rw [wholeP_at hp]; exact hw) hsz).1
/-- The places add up. -/
theorem walks_on (hf : FromOK rs) (hM : IsMeas (rowsOf rs) M) {id : Int} {f : List Hp} (s : List Hp) (h : (walkR rs M id f).2 = 0) (hb : (walkR rs M id f).1.bits ≤ 0) :
    (walkR rs M (walkR rs M id f).1.type s = (pl0, 30) ∧ walkR rs M id (f ++ s) = (pl0, 30)) ∨
    ∃ x y, walkR rs M (walkR rs M id f).1.type s = (y, 0) ∧ walkR rs M id (f ++ s) = (x, 0) ∧ x.off = (walkR rs M id f).1.off + y.off ∧ x.bit = y.bit ∧ x.bits = y.bits ∧ x.type = y.type ∧ 0 ≤ x.off ∧ x.off ≤ 16384 := by
  obtain ⟨he, hw, hg, hA⟩ := walkR_some hf hM h
  generalize (walkR rs M id f).1 = P at *
  have heP := at_open hf hM hg hA
  have hz : P.bits = 0 ∧ P.bit = 0 := by rcases hA.bz with hz | hz; exact hz; omega
  have hfar : Far P.off P ⟨0, P.type, 0, 0, 0⟩ := ⟨rfl, hz.2, hz.1, by show P.off = 0 + P.off; omega⟩
  have happ := walk_append (rs := rs) (M := M) f s ⟨0, id, 0, 0, 0⟩
  rw [hw] at happ
  have happ2 : walkP rs M ⟨0, id, 0, 0, 0⟩ (f ++ s) = walkP rs M P s := happ
  unfold walkR
  rw [if_pos he, if_pos heP, happ2]
  rcases walk_far (rs := rs) (M := M) s hfar with ⟨h1, h2⟩ | ⟨x, y, h1, h2, hF⟩
  · left
    rw [h1, h2]
    exact ⟨rfl, rfl⟩
  · right
    rw [h1, h2]
    have hx := walk_at hf hM hg s hA h1
    have := hF.off
    exact ⟨x, y, rfl, rfl, by omega, hF.bit, hF.bits, hF.ty, hx.lo, by have := hx.hi; omega⟩
end
def hopsC (l : List Hp) : List Value := l.flatMap hpCells
theorem hopsC_length (l : List Hp) : (hopsC l).length = l.length * 2 := by
  induction l with
  | nil => rfl
  | cons a l ih =>
    show (hpCells a ++ hopsC l).length = _
    rw [List.length_append, ih]
    simp only [hpCells, List.length_cons, List.length_nil]
    omega
theorem hopsC_at : ∀ (l : List Hp) (i : Nat) (h : Hp), l[i]? = some h → ∀ k, k < 2 → (hopsC l)[i * 2 + k]? = (hpCells h)[k]?
  | [], i, h, hh, _, _ => by simp at hh
  | a :: l, 0, h, hh, k, hk => by
    simp only [List.getElem?_cons_zero, Option.some.injEq] at hh
    subst hh
    simp only [hopsC, List.flatMap_cons, Nat.zero_mul, Nat.zero_add]
    rw [List.getElem?_append_left (by simpa [hpCells] using hk)]
  | a :: l, i + 1, h, hh, k, hk => by
    simp only [List.getElem?_cons_succ] at hh
    have := hopsC_at l i h hh k hk
    simp only [hopsC, List.flatMap_cons]
    rw [List.getElem?_append_right (by simp [hpCells]; omega), show (i + 1) * 2 + k - (hpCells a).length = i * 2 + k by simp [hpCells]; omega]
    exact this
theorem hopsC_one (l : List Hp) : ∀ u ∈ hopsC l, u.oneCell' = true := by
  intro u hu
  simp only [hopsC, List.mem_flatMap] at hu
  obtain ⟨h, _, hu⟩ := hu
  simp only [hpCells, List.mem_cons, List.not_mem_nil, or_false] at hu
  rcases hu with rfl | rfl <;> rfl
theorem hopsC_append (f s : List Hp) : hopsC f ++ hopsC s = hopsC (f ++ s) := by simp [hopsC]
theorem HopSl.of_own {w : World} {B : Nat} {s : Value} {l : List Hp} (h : w.ownsRow B THop 2 s l.length (hopsC l)) : HopSl w s l := by
  obtain ⟨h1, ⟨rfl, h2⟩ | ⟨g, cap, cur, rfl, hb, hg, hc, hm, hsz, ht⟩⟩ := h
  · exact .inl ⟨rfl, List.eq_nil_of_length_eq_zero h2⟩
  · refine .inr ⟨g, 0, cap, rfl, hc, lt_of_heap hg, fun i m hi j hj => ?_⟩
    have hil := (List.getElem?_eq_some_iff.1 hi).1
    have e := hopsC_at l i m hi j hj
    rw [← ht, List.getElem?_take, if_pos (by omega)] at e
    rw [Lib.cell_of_heap hg, Nat.zero_add]
    simpa using e
theorem infoHop : (Tryz.prog.info? THop).map (fun i => (i.zero, i.size, i.bytes)) = some (some (.agg #[.string ⟨#[]⟩, .int .i64 0]), 2, 24) := by kernel_rfl
/-- append of hops that came in, or were made, to hops that the call made. -/
theorem append_hops {ops : Array Oper} {rest : List Oper} {o : Oper} {a : Act} {Q : Exit → Act → World → Prop} {w : World} (hgd : o.guard = none) (s x : Operand)
    (ho : o.op = .call { callee := .builtin .append, args := #[s, x], argTypes := #[47, 47] }) (base : Nat) (v : Value) (n : Nat) (xs : List Value) (hs : a.eval s = v) (hown : w.ownsRow base THop 2 v n xs)
    {xv : Value} {l : List Hp} (hx : a.eval x = xv) (hin : HopIn w xv l) (hb : (n + l.length) * 24 ≤ 140737488355328) (hbase : base ≤ w.heap.size)
    (h : ∀ v' w', w'.ownsRow base THop 2 v' (n + l.length) (xs ++ hopsC l) → w.grownBy w' v.ownBlock → wpList Tryz.prog ops Q rest (a.put o.dst v') w') : wpList Tryz.prog ops Q (o :: rest) a w := by
  obtain ⟨i0, hi, hz0, hz1, hz2⟩ := info_parts infoHop
  rcases hin with (⟨rfl, rfl⟩ | ⟨g, of, cap, rfl, hc, hg, hcell⟩) | ⟨ad, c, rfl, rfl⟩
  · refine wpList_append_own_none hgd s x 47 ho base THop i0 2 Tryz.underlying47 hi v n xs hs hown hx ?_
    exact h v w (by simpa [hopsC] using hown) ⟨rfl, rfl, rfl, Nat.le_refl _, fun _ _ _ => rfl⟩
  · refine wpList_append_own _ hgd s x 47 ho base THop i0 _ 2 24 Tryz.underlying47 hi hz0 hz1 hz2 rfl (by decide) v n xs hs hown ⟨g, of, none⟩ l.length cap (hopsC l) hx (hopsC_length l) ?_ (hopsC_one l) (by unfold maxLen; omega) hb hbase (fun v' w' h1 h2 _ => h v' w' h1 h2)
    intro j u hj
    have hjl := (List.getElem?_eq_some_iff.1 hj).1
    rw [hopsC_length] at hjl
    obtain ⟨m, hm⟩ : ∃ m, l[j / 2]? = some m := ⟨_, List.getElem?_eq_getElem (by omega)⟩
    have e := hopsC_at l (j / 2) m hm (j % 2) (Nat.mod_lt _ (by decide))
    have c := hcell (j / 2) m hm (j % 2) (Nat.mod_lt _ (by decide))
    rw [show j / 2 * 2 + j % 2 = j by omega, hj] at e
    rw [← e, show of + j / 2 * 2 + j % 2 = of + j by omega] at c
    rw [Addr.add_lit]
    exact c
  · exact wpList_append_own _ hgd s x 47 ho base THop i0 _ 2 24 Tryz.underlying47 hi hz0 hz1 hz2 rfl (by decide) v n xs hs hown ad 0 c [] hx rfl (fun j u hj => by simp at hj) (fun u hu => by cases hu) (by unfold maxLen; simp at hb; omega) hb hbase (fun v' w' h1 h2 _ => h v' w' h1 h2)
end Go.Proofs.YtlcghlfmaohfeaaGreat
namespace Go.Proofs.YtlcghlfmaohfeaaGreat
open Go.RowKit Go.Maps
set_option linter.unusedVariables false
section
variable {rs : List (Rw × Value)} {M : Int → Ex}
/-- A place of bits has a type without parts. -/
def Flat (rs : List (Rw × Value)) (a : Pl) : Prop := 0 < a.bits → ∀ q, rs[a.type.toNat]? = some q → recK q.1.kind = false ∧ q.1.kind ≠ 14
theorem flat_hop (hf : FromOK rs) (hM : IsMeas (rowsOf rs) M) {S : Int} (hS : S ≤ 16384) {a : Pl} (h : AtOK rs M S a) {i : Nat} {p : Rw × Value} (hi : a.type = i) (hp : rs[i]? = some p) (nm : ByteArray) (idx : Int)
    (hh : (hopP M p.1 a nm idx).2 = true) : Flat rs (hopP M p.1 a nm idx).1 := by
  have hsz := at_size hf hM h hS
  obtain ⟨i', p', e, hp', hw, ho⟩ := h.ex
  have hii : i = i' := by omega
  subst hii
  obtain rfl : p = p' := Option.some.inj (hp.symm.trans hp')
  rw [hi] at hsz
  unfold hopP at hh ⊢
  by_cases hn : (!nm.toList.isEmpty) = true
  · rw [if_pos hn] at hh ⊢
    simp only at hh ⊢
    have hin := found_mem hh
    generalize (foundS p.1.mem nm (pl0, false) (placesS (p.1.kind == 16) M ls0 0 p.1.mem)).1 = P at *
    cases hk : recK p.1.kind with
    | false => rw [no_mem hf hp hk] at hin; simp [placesS] at hin
    | true =>
      obtain ⟨q1, q2, m, q3, q4, q5⟩ := place_within hf hM hp hw hk hsz P hin
      have h14 : ¬ p.1.kind = 14 := by intro e; rw [e] at hk; exact absurd hk (by decide)
      have hd : p.1.done = true := by
        unfold wholeR at hw
        rw [if_neg h14, if_pos hk] at hw
        exact hw
      have hmm := ok_members hf hp hk hd
      obtain ⟨q, hq, hwq, x0, xl⟩ := whole_at (hmm m q3).1
      have hxe : m.type = (m.type.toNat : Int) := by omega
      intro hb q' hq'
      simp only at hb hq'
      rw [q4, hq] at hq'
      obtain rfl := Option.some.inj hq'
      have hbb := (hmm m q3).2
      rw [hxe, kindP_some hq] at hbb
      simp only [bitsP, Bool.or_eq_true, beq_iff_eq, Bool.and_eq_true, decide_eq_true_eq] at hbb
      rcases hbb with hb1 | ⟨⟨hb1, _⟩, _⟩
      · have := (q5 hb1).1; omega
      · simp [intK] at hb1
        refine ⟨?_, by omega⟩
        simp [recK]
        omega
  · rw [if_neg hn] at hh ⊢
    by_cases ha : p.1.kind = 14 ∧ 0 ≤ idx ∧ idx < p.1.len
    · rw [if_pos ha]
      intro hb
      simp at hb
    · rw [if_neg ha] at hh; cases hh
/-- A hop from bits leads nowhere. -/
theorem flat_stop (hf : FromOK rs) {a : Pl} (h : Flat rs a) (hb : 0 < a.bits) {i : Nat} {p : Rw × Value} (hi : a.type = i) (hp : rs[i]? = some p) (nm : ByteArray) (idx : Int) : (hopP M p.1 a nm idx).2 = false := by
  obtain ⟨h1, h2⟩ := h hb p (by rw [hi]; simpa using hp)
  unfold hopP
  by_cases hn : (!nm.toList.isEmpty) = true
  · rw [if_pos hn, no_mem hf hp h1]
    rfl
  · rw [if_neg hn, if_neg (by intro e; exact h2 e.1)]
theorem at_openW (hf : FromOK rs) (hM : IsMeas (rowsOf rs) M) {S : Int} (hS : S ≤ 16384) {a : Pl} (h : AtOK rs M S a) : openE rs M a.type = 0 := by
  have hsz := at_size hf hM h hS
  obtain ⟨i, p, e, hp, hw, _⟩ := h.ex
  rw [e] at hsz ⊢
  exact (openE_ok (by have := (List.getElem?_eq_some_iff.1 hp).1; simp [hasP]; omega) (by rw [wholeP_at hp]; exact hw) hsz).1
/-- A hop by a name. -/
theorem hop_name (hf : FromOK rs) (hM : IsMeas (rowsOf rs) M) {S : Int} (hS : S ≤ 16384) {a : Pl} (h : AtOK rs M S a) {i : Nat} {p : Rw × Value} (hi : a.type = i) (hp : rs[i]? = some p) (nm : ByteArray) (idx : Int) (hn : (!nm.toList.isEmpty) = true) :
    (plE rs M a.type = 0 ∧ hopP M p.1 a nm idx = (⟨(fnS rs M a.type nm).1.mem, (fnS rs M a.type nm).1.type, (fnS rs M a.type nm).1.off + a.off, (fnS rs M a.type nm).1.bit, (fnS rs M a.type nm).1.bits⟩, (fnS rs M a.type nm).2)) ∨ (plE rs M a.type = 30 ∧ (hopP M p.1 a nm idx).2 = false) := by
  have ho := at_openW hf hM hS h
  rw [hi] at ho ⊢
  cases hk : recK p.1.kind with
  | true =>
    left
    obtain ⟨e1, e2⟩ := plE_ok ho hp hk
    have e3 : fnS rs M i nm = foundS p.1.mem nm (pl0, false) (placesS (p.1.kind == 16) M ls0 0 p.1.mem) := by unfold fnS; rw [if_pos e1, Int.toNat_natCast, hp, e2]
    refine ⟨e1, ?_⟩
    unfold hopP
    rw [if_pos hn, e3]
  | false =>
    right
    obtain ⟨e1, e2⟩ := plE_not ho hp hk
    refine ⟨e1, ?_⟩
    unfold hopP
    rw [if_pos hn, no_mem hf hp hk]
    rfl
/-- A hop by an index. -/
theorem hop_index (hf : FromOK rs) (hM : IsMeas (rowsOf rs) M) {S : Int} (hS : S ≤ 16384) {a : Pl} (h : AtOK rs M S a) (hbit : ¬ 0 < a.bits) {i : Nat} {p : Rw × Value} (hi : a.type = i) (hp : rs[i]? = some p) (nm : ByteArray) (idx : Int) (hn : (!nm.toList.isEmpty) = false) :
    ((p.1.kind = 14 ∧ 0 ≤ idx ∧ idx < p.1.len) ∧ (openX rs M p.1.elem).size = (M p.1.elem).size ∧ 0 ≤ (M p.1.elem).size ∧ (M p.1.elem).size ≤ 16384 ∧ p.1.len ≤ 16384 ∧ hopP M p.1 a nm idx = (⟨a.mem, p.1.elem, a.off + idx * (M p.1.elem).size, a.bit, a.bits⟩, true)) ∨ (¬ (p.1.kind = 14 ∧ 0 ≤ idx ∧ idx < p.1.len) ∧ (hopP M p.1 a nm idx).2 = false) := by
  have hsz := at_size hf hM h hS
  obtain ⟨i', p', e, hp', hw, ho⟩ := h.ex
  have hii : i = i' := by omega
  subst hii
  obtain rfl : p = p' := Option.some.inj (hp.symm.trans hp')
  rw [hi] at hsz
  unfold hopP
  rw [if_neg (by rw [hn]; decide)]
  by_cases ha : p.1.kind = 14 ∧ 0 ≤ idx ∧ idx < p.1.len
  · left
    rw [if_pos ha]
    obtain ⟨k, q, hk, hq, hwq, l1, l2, s1, hMi, _⟩ := arr_room hf hM hp hw ha.1 hsz
    have hle : (M p.1.elem).size ≤ (M i).size := by
      rw [hMi]
      have := Int.mul_le_mul_of_nonneg_right l1 (by omega : 0 ≤ (M p.1.elem).size)
      omega
    have hx : openX rs M p.1.elem = M p.1.elem := by
      rw [hk]
      exact (openE_ok (by have := (List.getElem?_eq_some_iff.1 hq).1; simp [hasP]; omega) (by rw [wholeP_at hq]; exact hwq) (by rw [← hk]; omega)).2
    rcases h.bz with ⟨b1, b2⟩ | b
    · exact ⟨ha, by rw [hx], by omega, by omega, l2, by rw [b1, b2]⟩
    · exact absurd b hbit
  · right
    rw [if_neg ha]
    exact ⟨ha, rfl⟩
end
end Go.Proofs.YtlcghlfmaohfeaaGreat
namespace Go.Proofs.YtlcghlfmaohfeaaGreat
open Go.RowKit Go.Maps
set_option linter.unusedVariables false
set_option maxRecDepth 100000
section
variable {w : World} {M : Int → Ex} {rb : Nat} {rv : Value} {rs rs2 : List (Rw × Value)}
set_option maxHeartbeats 8000000 in
theorem rWalk_err (h : RT w rb rv rs2) (hrows : rs2.map (·.1) = rs.map (·.1)) (hf : FromOK rs) (hM : IsMeas (rowsOf rs) M) (hs : ∀ p ∈ rs, Sane p.1) (h1 : 0 < rs.length) (id : Int) (x : Value) (he : ¬ openE rs M id = 0) :
    Calls Tryz.prog 18 #[.pointer (some ⟨rb, 0, none⟩), .int .i64 id, x] w fun e w' => e = .returned (.tuple #[.agg (plV pl0), .int .i64 (openE rs M id)]) ∧ Below w.heap.size w w' := by
  have hb0 := below1 w PZ
  have E0 := heap_r0 w PZ
  have hz : ∀ Y : World, (Instr.build TPl #[]).run Tryz.prog Y = .ok (.agg #[.int .i64 0, .int .i64 0, .int .i64 0, .int .i64 0, .int .i64 0]) Y := fun Y => by kernel_rfl
  have c := asked_c (h.below hb0) hrows hf hM hs h1 id
  have HB0 : Hid (Below w.heap.size w (w.alloc PZ)) := hb0
  have HE0 : Hid ((w.alloc PZ).heap[w.heap.size]? = some (.cells #[.int .i64 0, .int .i64 0, .int .i64 0, .int .i64 0, .int .i64 0] TPl (0, 0))) := E0
  have e0 : (openE rs M id != 0) = true := by simpa using he
  clear h hrows hf hM hs hb0 E0
  go_enter Tryz.func18, Tryz.ntmps18
  go_wp2_with (first | (go_at_call 29; refine c.mono ?_; rintro e w5 ⟨sz, al, lp, lc, pl, f, rfl, hb5, how, hsz, hal, hpl⟩; have hold5 := heap_r0 w5 (.cells #[.int .i64 0, .int .i64 0, .slice none 0 0, .bool false] TLy); have hbN := below1 w5 (.cells #[.int .i64 sz, .int .i64 al, .slice lp pl.length lc, .bool f] TLy); have hX5 := blk_b (blk_b HE0.out hb5) hbN; have HB5 : Hid (Below w.heap.size w (w5.alloc (.cells #[.int .i64 sz, .int .i64 al, .slice lp pl.length lc, .bool f] TLy))) := (HB0.out.trans (hb5.mono HB0.out.size)).trans (hbN.mono (Nat.le_trans HB0.out.size hb5.size)); have HX5 : Hid (_ = _) := hX5; clear hb5 how hsz hal hpl c hbN) | ((with_reducible apply step_store hold5); rfl; rfl; kernel_rfl; rfl; kernel_rfl; rw [World.setRow_alloc_new]) | ((with_reducible apply step_store hX5); rfl; rfl; kernel_rfl; rfl; kernel_rfl) | fail)
  refine (?_ : bodyPost _ _ _ _ _ _)
  refine ret_p2 (p := 6) (q := 7) (cs := #[.int .i64 0, .int .i64 0, .int .i64 0, .int .i64 0, .int .i64 0]) rfl rfl (setRow_heap _ _ _ _ _ _ HX5.out) rfl ?_
  exact ⟨rfl, below_setRow HB5.out (Nat.le_refl _) _⟩
set_option maxHeartbeats 16000000 in
theorem rWalk_ok (h : RT w rb rv rs2) (hrows : rs2.map (·.1) = rs.map (·.1)) (hf : FromOK rs) (hM : IsMeas (rowsOf rs) M) (hs : ∀ p ∈ rs, Sane p.1) (h1 : 0 < rs.length) {i : Nat} {p : Rw × Value} (hp : rs[i]? = some p) (hwh : wholeR p.1 = true) (hgt : (M i).size ≤ 16384) (he : openE rs M i = 0)
    {x : Value} {l : List Hp} (hl : HopIn w x l) (hbig : l.length ≤ 9223372036854775807) :
    Calls Tryz.prog 18 #[.pointer (some ⟨rb, 0, none⟩), .int .i64 i, x] w fun e w' => e = .returned (.tuple #[.agg (plV ((walkP rs M ⟨0, i, 0, 0, 0⟩ l).getD pl0)), .int .i64 (walkC (walkP rs M ⟨0, i, 0, 0, 0⟩ l))]) ∧ Below w.heap.size w w' := by
  have hb0 := below1 w PZ
  have E0 := heap_r0 w PZ
  have hz : ∀ Y : World, (Instr.build TPl #[]).run Tryz.prog Y = .ok (.agg #[.int .i64 0, .int .i64 0, .int .i64 0, .int .i64 0, .int .i64 0]) Y := fun Y => by kernel_rfl
  have hbi : ∀ (j : Int) (Y : World), (Instr.build TPl #[(1, .int .i64 j)]).run Tryz.prog Y = .ok (.agg #[.int .i64 0, .int .i64 j, .int .i64 0, .int .i64 0, .int .i64 0]) Y := fun j Y => by kernel_rfl
  have c := asked_c (h.below hb0) hrows hf hM hs h1 i
  rw [he] at c
  have HB0 : Hid (Below w.heap.size w (w.alloc PZ)) := hb0
  have HE0 : Hid ((w.alloc PZ).heap[w.heap.size]? = some (.cells #[.int .i64 0, .int .i64 0, .int .i64 0, .int .i64 0, .int .i64 0] TPl (0, 0))) := E0
  have HA0 : Hid (AtOK rs M (M i).size ⟨0, i, 0, 0, 0⟩) := at_first hf hM hp hwh
  have HFL0 : Hid (Flat rs ⟨0, i, 0, 0, 0⟩) := fun hb => absurd hb (Int.lt_irrefl 0)
  have HF : Hid (FromOK rs) := hf
  have HM : Hid (IsMeas (rowsOf rs) M) := hM
  have HGT : Hid ((M i).size ≤ 16384) := hgt
  have HRT : Hid (RT w rb rv rs2) := h
  have HROWS : Hid (rs2.map (·.1) = rs.map (·.1)) := hrows
  have HSZ : Hid (∀ (W : World) (t : Int), Below w.heap.size w W → Calls Tryz.prog 8 #[.pointer (some ⟨rb, 0, none⟩), .int .i64 t] W fun e w' => e = .returned (.tuple #[.int .i64 (openX rs M t).size, .int .i64 (openE rs M t)]) ∧ Below W.heap.size W w') := fun W t hW => rSize_c (h.below hW) hrows hf hM hs h1 t
  have HFD : Hid (∀ (W : World) (t : Int) (nm : ByteArray), Below w.heap.size w W → Calls Tryz.prog 14 #[.pointer (some ⟨rb, 0, none⟩), .int .i64 t, .string nm] W fun e w' => e = .returned (.tuple #[.agg (plV (fnS rs M t nm).1), .bool (fnS rs M t nm).2, .int .i64 (plE rs M t)]) ∧ Below W.heap.size W w') := fun W t nm hW => rFind_c (h.below hW) hrows hf hM hs h1 t nm
  obtain ⟨RES, hRES⟩ : ∃ x, x = walkP rs M ⟨0, i, 0, 0, 0⟩ l := ⟨_, rfl⟩
  rw [← hRES]
  obtain ⟨sp, cap, rfl, hcell⟩ := hopIn_cells hl
  have HCL : Hid (∀ j m, l[j]? = some m → ∃ g o, sp = some ⟨g, o, none⟩ ∧ l.length ≤ cap ∧ ∀ Y, Below w.heap.size w Y → ∀ k, k < 2 → Y.cell? ⟨g, o + j * 2 + k, none⟩ = (hpCells m)[k]?) := hcell
  have HRES : Hid (RES = walkP rs M ⟨0, i, 0, 0, 0⟩ l) := hRES
  clear h hrows hf hM hs hp hwh hgt hl hcell hRES hb0 E0 he
  go_enter Tryz.func18, Tryz.ntmps18
  go_upto_region 4 with (first | (go_at_call 29; refine c.mono ?_; rintro e w5 ⟨sz, al, lp, lc, pl, f, rfl, hb5, how, hsz, hal, hpl⟩; have hold5 := heap_r0 w5 (.cells #[.int .i64 0, .int .i64 0, .slice none 0 0, .bool false] TLy); have hbN := below1 w5 (.cells #[.int .i64 sz, .int .i64 al, .slice lp pl.length lc, .bool f] TLy); have HX5 : Hid (_ = _) := blk_b (blk_b HE0.out hb5) hbN; have HB5 : Hid (Below w.heap.size w (w5.alloc (.cells #[.int .i64 sz, .int .i64 al, .slice lp pl.length lc, .bool f] TLy))) := (HB0.out.trans (hb5.mono HB0.out.size)).trans (hbN.mono (Nat.le_trans HB0.out.size hb5.size)); clear hb5 how hsz hal hpl c hbN) | ((with_reducible apply step_store hold5); rfl; rfl; kernel_rfl; rfl; kernel_rfl; rw [World.setRow_alloc_new]) | fail)
  generalize w5.alloc (.cells #[.int .i64 sz, .int .i64 al, .slice lp pl.length lc, .bool f] TLy) = W5 at *
  clear hold5 HE0 HB0
  have hold3 := heap_r0 W5 (.cells #[.int .i64 0, .int .i64 0, .int .i64 0, .int .i64 0, .int .i64 0] TPl)
  have b4 := below1 W5 (.cells #[.int .i64 0, .int .i64 (i : Int), .int .i64 0, .int .i64 0, .int .i64 0] TPl)
  have N4 : Hid (_ = _) := heap_r0 W5 (.cells #[.int .i64 0, .int .i64 (i : Int), .int .i64 0, .int .i64 0, .int .i64 0] TPl)
  have E4 : Hid (_ = _) := blk_b HX5.out b4
  have B4 : Hid (Below w.heap.size w (W5.alloc (.cells #[.int .i64 0, .int .i64 (i : Int), .int .i64 0, .int .i64 0, .int .i64 0] TPl))) := HB5.out.trans (b4.mono HB5.out.size)
  have hg6 : w.heap.size < W5.heap.size := lt_of_heap HX5.out
  clear b4
  go_wp2_with (first | ((with_reducible apply step_store hold3); rfl; rfl; kernel_rfl; rfl; kernel_rfl; rw [World.setRow_alloc_new]) | fail)
  generalize W5.alloc (.cells #[.int .i64 0, .int .i64 (i : Int), .int .i64 0, .int .i64 0, .int .i64 0] TPl) = W6 at *
  generalize hgx : W5.heap.size = gx at *
  clear hgx hold3 HX5 HB5
  go_loopw [11] (fun iv wr => ∃ (k : Nat) (a : Pl), k ≤ l.length ∧ iv = .int .i64 k ∧ Hid (RES = walkP rs M a (l.drop k)) ∧ Hid (AtOK rs M (M i).size a) ∧ Hid (Flat rs a) ∧ Hid (Below w.heap.size w wr) ∧ Hid (wr.heap[w.heap.size]? = some (.cells #[.int .i64 0, .int .i64 0, .int .i64 0, .int .i64 0, .int .i64 0] TPl (0, 0))) ∧ Hid (wr.heap[gx]? = some (.cells #[.int .i64 a.mem, .int .i64 a.type, .int .i64 a.off, .int .i64 a.bit, .int .i64 a.bits] TPl (0, 0)))) (fun iv _ => l.length - (intOf iv).toNat)
  case atStart => exact ⟨0, ⟨0, i, 0, 0, 0⟩, Nat.zero_le _, rfl, HRES, HA0, HFL0, B4, E4, N4⟩
  case round =>
    obtain ⟨k, a, hk, rfl, HW, HA, HFL, HBW, HE, HG⟩ := hrel
    clear HRES HA0 HFL0 B4 E4 N4
    by_cases hlt : k < l.length
    · obtain ⟨⟨nm, idx⟩, hx⟩ : ∃ h, l[k]? = some h := ⟨_, List.getElem?_eq_getElem hlt⟩
      obtain ⟨g, o, hsp, hcap, hcell⟩ := HCL.out k _ hx
      subst hsp
      have c0 := hcell wr HBW.out 0 (by omega)
      have c1 := hcell wr HBW.out 1 (by omega)
      simp only [hpCells, Nat.add_zero, List.getElem?_cons_zero, List.getElem?_cons_succ] at c0 c1
      obtain ⟨j, q, hj, hq, _, _⟩ := HA.out.ex
      have HDR : Hid (l.drop k = (nm, idx) :: l.drop (k + 1)) := drop_at hx
      have hq2 : rs[a.type.toNat]? = some q := by rw [hj]; simpa using hq
      have HST : Hid (RES = if (hopP M q.1 a nm idx).2 = true then walkP rs M (hopP M q.1 a nm idx).1 (l.drop (k + 1)) else none) := by
        show RES = _
        rw [HW.out, HDR.out, walkP, hq2]
      have HNO : Hid ((hopP M q.1 a nm idx).2 = false → RES = none) := fun hh => by rw [HST.out, hh]; rfl
      have HYES : Hid (∀ P, hopP M q.1 a nm idx = (P, true) → RES = walkP rs M P (l.drop (k + 1)) ∧ AtOK rs M (M i).size P ∧ Flat rs P) := fun P hh => by
        have h2 : (hopP M q.1 a nm idx).2 = true := by rw [hh]
        have u1 := hop_at HF.out HM.out HGT.out HA.out hj hq nm idx h2
        have u2 := flat_hop HF.out HM.out HGT.out HA.out hj hq nm idx h2
        have u3 := HST.out
        rw [hh] at u1 u2 u3
        exact ⟨u3, u1, u2⟩
      have HFS : Hid (0 < a.bits → (hopP M q.1 a nm idx).2 = false) := fun hb => flat_stop HF.out HFL.out hb hj hq nm idx
      have HNM : Hid ((!nm.toList.isEmpty) = true → (plE rs M a.type = 0 ∧ hopP M q.1 a nm idx = (⟨(fnS rs M a.type nm).1.mem, (fnS rs M a.type nm).1.type, (fnS rs M a.type nm).1.off + a.off, (fnS rs M a.type nm).1.bit, (fnS rs M a.type nm).1.bits⟩, (fnS rs M a.type nm).2)) ∨ (plE rs M a.type = 30 ∧ (hopP M q.1 a nm idx).2 = false)) := fun hn => hop_name HF.out HM.out HGT.out HA.out hj hq nm idx hn
      have HIX : Hid (¬ 0 < a.bits → (!nm.toList.isEmpty) = false → ((q.1.kind = 14 ∧ 0 ≤ idx ∧ idx < q.1.len) ∧ (openX rs M q.1.elem).size = (M q.1.elem).size ∧ 0 ≤ (M q.1.elem).size ∧ (M q.1.elem).size ≤ 16384 ∧ q.1.len ≤ 16384 ∧ hopP M q.1 a nm idx = (⟨a.mem, q.1.elem, a.off + idx * (M q.1.elem).size, a.bit, a.bits⟩, true)) ∨ (¬ (q.1.kind = 14 ∧ 0 ≤ idx ∧ idx < q.1.len) ∧ (hopP M q.1 a nm idx).2 = false)) := fun hb hn => hop_index HF.out HM.out HGT.out HA.out hb hj hq nm idx hn
      have HLO : Hid (0 ≤ a.off ∧ a.off ≤ 16384) := ⟨HA.out.lo, by have := HA.out.hi; have := HGT.out; omega⟩
      obtain ⟨q', hq', hqq⟩ := same_at HROWS.out.symm hq
      obtain ⟨gr, og, cr, hv, hcap2, _⟩ := HRT.out.at hq'
      have HROW : Hid (∀ Y, Below w.heap.size w Y → Y.cell? ⟨rb, 0, none⟩ = some (.slice (some ⟨gr, og, none⟩) rs2.length cr) ∧ ∀ k, k < 6 → Y.cell? ⟨gr, og + j * 6 + k, none⟩ = (rwCells q.1 q'.2)[k]?) := fun Y hY => by
        have hR := HRT.out.below hY
        obtain ⟨g', o', c', hv', _, hc'⟩ := hR.at hq'
        rw [hv] at hv'
        injection hv' with a1 a2 a3
        injection a1 with a1
        injection a1 with a1 a4
        subst a1 a4
        refine ⟨by rw [hR.cell, hv], ?_⟩
        rw [← hqq]
        exact hc'
      obtain ⟨ms, mc, hmsl, _⟩ := memSl_cells (HRT.out.rows.2 q' (List.mem_of_getElem? hq'))
      have hj2 : j < rs2.length := (List.getElem?_eq_some_iff.1 hq').1
      have h512 := HRT.out.len
      have HG' := HG.out
      rw [hj] at HG'
      have hold5 := heap_r0 wr (.cells #[.string ⟨#[]⟩, .int .i64 0] THop)
      have b5 := below1 wr (.cells #[.string nm, .int .i64 idx] THop)
      have N5 : Hid (_ = _) := heap_r0 wr (.cells #[.string nm, .int .i64 idx] THop)
      have A5 : Hid (_ = _) := blk_b HG' b5
      have E5 : Hid (_ = _) := blk_b HE.out b5
      have B5 : Hid (Below w.heap.size w (wr.alloc (.cells #[.string nm, .int .i64 idx] THop))) := HBW.out.trans (b5.mono HBW.out.size)
      have hgxl : gx < wr.heap.size := lt_of_heap HG.out
      clear b5 HG' hcell hx hq hq2 HDR HST HCL hqq hq' hv
      go_upto_region 9 with (first | ((with_reducible apply step_store hold5); rfl; rfl; kernel_rfl; rfl; kernel_rfl; rw [World.setRow_alloc_new]) | fail)
      clear hold5 c0 c1
      generalize wr.alloc (.cells #[.string nm, .int .i64 idx] THop) = W7 at *
      generalize wr.heap.size = gh at *
      by_cases hb : 0 < a.bits
      · have HR2 : Hid (RES = none) := HNO.out (HFS.out hb)
        have d4 := Lib.cell_of_heap A5.out 4
        simp only [List.getElem?_toArray, List.getElem?_cons_zero, List.getElem?_cons_succ] at d4
        have hX := E5.out
        have hgt0 : decide (a.bits > 0) = true := by simpa using hb
        go_wp2_with (first | ((with_reducible apply step_store hX); rfl; rfl; kernel_rfl; rfl; kernel_rfl) | fail)
        rw [HR2.out]
        refine (?_ : bodyPost _ _ _ _ _ _)
        refine ret_p2 (p := 6) (q := 7) (cs := #[.int .i64 0, .int .i64 0, .int .i64 0, .int .i64 0, .int .i64 0]) rfl rfl (setRow_heap _ _ _ _ _ _ E5.out) rfl ?_
        exact ⟨rfl, below_setRow B5.out (Nat.le_refl _) _⟩
      · have d4 := Lib.cell_of_heap A5.out 4
        simp only [List.getElem?_toArray, List.getElem?_cons_zero, List.getElem?_cons_succ] at d4
        go_upto_region 11 with fail
        clear d4
        have HSH : SH W7 W7 := Below.refl _ _
        have HGB : Hid (∀ Y, SH W7 Y → Below w.heap.size w Y) := fun Y h => B5.out.trans (Below.mono h B5.out.size)
        obtain ⟨⟨kd, el, ln, tg, mm, dn⟩, s0⟩ := q
        obtain ⟨q1, s1⟩ := q'
        simp only at hmsl
        subst hmsl
        generalize q1.mem.length = ml at *
        simp only [rwCells] at HROW HNO HYES HFS HNM HIX
        have L0 : ∀ Y, SH W7 Y → Y.cell? ⟨rb, 0, none⟩ = some (.slice (some ⟨gr, og, none⟩) rs2.length cr) := fun Y h => (HROW.out Y (HGB.out Y h)).1
        have L1 : ∀ Y, SH W7 Y → Y.cell? ⟨gx, 1, none⟩ = some (.int .i64 (j : Int)) := fun Y h => SH.cell h A5.out (Lib.cell_of_heap A5.out 1)
        have L2 : ∀ Y, SH W7 Y → Y.cell? ⟨gr, og + j * 6, none⟩ = some (.int .i64 kd) := fun Y h => (HROW.out Y (HGB.out Y h)).2 0 (by omega)
        have L3 : ∀ Y, SH W7 Y → Y.cell? ⟨gr, og + j * 6 + 1, none⟩ = some (.int .i64 el) := fun Y h => (HROW.out Y (HGB.out Y h)).2 1 (by omega)
        have L4 : ∀ Y, SH W7 Y → Y.cell? ⟨gr, og + j * 6 + 2, none⟩ = some (.int .i64 ln) := fun Y h => (HROW.out Y (HGB.out Y h)).2 2 (by omega)
        have L5 : ∀ Y, SH W7 Y → Y.cell? ⟨gr, og + j * 6 + 3, none⟩ = some (.string tg) := fun Y h => (HROW.out Y (HGB.out Y h)).2 3 (by omega)
        have L6 : ∀ Y, SH W7 Y → Y.cell? ⟨gr, og + j * 6 + 4, none⟩ = some (.slice ms ml mc) := fun Y h => (HROW.out Y (HGB.out Y h)).2 4 (by omega)
        have L7 : ∀ Y, SH W7 Y → Y.cell? ⟨gr, og + j * 6 + 5, none⟩ = some (.bool dn) := fun Y h => (HROW.out Y (HGB.out Y h)).2 5 (by omega)
        go_region_held3 (fun Y => SH W7 Y) (first | assumption | (with_reducible refine SH.drew ?_; assumption) | (with_reducible exact SH.alloc HSH _) | (with_reducible exact SH.alloc (SH.drew HSH) _) | (with_reducible exact SH.drew (SH.alloc HSH _))) (fail)
        rename_i hHeld
        have HK6 : Hid ((W7.alloc (.cells #[.int .i64 kd, .int .i64 el, .int .i64 ln, .string tg, .slice ms ml mc, .bool dn] TR)).drew.heap[W7.heap.size]? = _) := heap_r0 W7 (.cells #[.int .i64 kd, .int .i64 el, .int .i64 ln, .string tg, .slice ms ml mc, .bool dn] TR)
        have HN6 : Hid ((W7.alloc (.cells #[.int .i64 kd, .int .i64 el, .int .i64 ln, .string tg, .slice ms ml mc, .bool dn] TR)).drew.heap[gh]? = _) := blk_b N5.out hHeld
        have HA6 : Hid ((W7.alloc (.cells #[.int .i64 kd, .int .i64 el, .int .i64 ln, .string tg, .slice ms ml mc, .bool dn] TR)).drew.heap[gx]? = _) := blk_b A5.out hHeld
        have HE6 : Hid ((W7.alloc (.cells #[.int .i64 kd, .int .i64 el, .int .i64 ln, .string tg, .slice ms ml mc, .bool dn] TR)).drew.heap[w.heap.size]? = _) := blk_b E5.out hHeld
        have HB6 : Hid (Below w.heap.size w (W7.alloc (.cells #[.int .i64 kd, .int .i64 el, .int .i64 ln, .string tg, .slice ms ml mc, .bool dn] TR)).drew) := HGB.out _ hHeld
        have hgn : gx < W7.heap.size := lt_of_heap A5.out
        clear hHeld L0 L1 L2 L3 L4 L5 L6 L7 HSH HGB N5 A5 E5 B5 HROW
        refine (?_ : Exit.then _ _ _ _ (W7.alloc (.cells #[.int .i64 kd, .int .i64 el, .int .i64 ln, .string tg, .slice ms ml mc, .bool dn] TR)).drew)
        generalize (W7.alloc (.cells #[.int .i64 kd, .int .i64 el, .int .i64 ln, .string tg, .slice ms ml mc, .bool dn] TR)).drew = Y6 at *
        generalize W7.heap.size = gn at *
        have n0 := Lib.cell_of_heap HN6.out 0
        have n1 := Lib.cell_of_heap HN6.out 1
        have d0 := Lib.cell_of_heap HA6.out 0
        have d1 := Lib.cell_of_heap HA6.out 1
        have d2 := Lib.cell_of_heap HA6.out 2
        have k0 := Lib.cell_of_heap HK6.out 0
        have k1 := Lib.cell_of_heap HK6.out 1
        have k2 := Lib.cell_of_heap HK6.out 2
        simp only [List.getElem?_toArray, List.getElem?_cons_zero, List.getElem?_cons_succ] at n0 n1 d0 d1 d2 k0 k1 k2
        by_cases hnm : (!nm.toList.isEmpty) = true
        · have hnm1 : nm.toList.isEmpty = false := by simpa using hnm
          have hnam := HNM.out hnm
          rw [hj] at hnam
          have cF := HFD.out Y6 j nm HB6.out
          generalize fnS rs M (j : Int) nm = FR at *
          generalize plE rs M (j : Int) = PE at *
          obtain ⟨⟨pm, pt, po, pbt, pbs⟩, fd⟩ := FR
          simp only [plV] at hnam cF
          have HNAM : Hid (_ ∨ _) := hnam
          clear hnam HNM HIX HFS
          clear n1 d0 k0 k1 k2
          go_upto_region 19 with (first | (go_at_call 14; refine cF.mono ?_; rintro e y7 ⟨rfl, hb7⟩; have hold7 := heap_r0 y7 (.cells #[.int .i64 0, .int .i64 0, .int .i64 0, .int .i64 0, .int .i64 0] TPl)) | ((with_reducible apply step_store hold7); rfl; rfl; kernel_rfl; rfl; kernel_rfl; rw [World.setRow_alloc_new]) | fail)
          have b8 := below1 y7 (.cells #[.int .i64 pm, .int .i64 pt, .int .i64 po, .int .i64 pbt, .int .i64 pbs] TPl)
          have HQ8 : Hid ((y7.alloc (.cells #[.int .i64 pm, .int .i64 pt, .int .i64 po, .int .i64 pbt, .int .i64 pbs] TPl)).heap[y7.heap.size]? = some (.cells #[.int .i64 pm, .int .i64 pt, .int .i64 po, .int .i64 pbt, .int .i64 pbs] TPl (0, 0))) := heap_r0 y7 _
          have HA8 : Hid ((y7.alloc (.cells #[.int .i64 pm, .int .i64 pt, .int .i64 po, .int .i64 pbt, .int .i64 pbs] TPl)).heap[gx]? = _) := blk_b (blk_b HA6.out hb7) b8
          have HE8 : Hid ((y7.alloc (.cells #[.int .i64 pm, .int .i64 pt, .int .i64 po, .int .i64 pbt, .int .i64 pbs] TPl)).heap[w.heap.size]? = _) := blk_b (blk_b HE6.out hb7) b8
          have HB8 : Hid (Below w.heap.size w (y7.alloc (.cells #[.int .i64 pm, .int .i64 pt, .int .i64 po, .int .i64 pbt, .int .i64 pbs] TPl))) := (HB6.out.trans (hb7.mono HB6.out.size)).trans (b8.mono (Nat.le_trans HB6.out.size hb7.size))
          have hgq : gx < y7.heap.size := Nat.lt_of_lt_of_le (lt_of_heap HA6.out) hb7.size
          clear b8 hb7 hold7 cF n0 d1 d2 HA6 HE6 HB6 HK6 HN6
          generalize y7.alloc (.cells #[.int .i64 pm, .int .i64 pt, .int .i64 po, .int .i64 pbt, .int .i64 pbs] TPl) = y8 at *
          generalize y7.heap.size = gq at *
          have hX := HE8.out
          rcases HNAM.out with ⟨hPE, hhop⟩ | ⟨hPE, hhop⟩
          · subst hPE
            cases fd with
            | false =>
              have HR2 : Hid (RES = none) := HNO.out (by rw [hhop])
              clear HNAM HNO HYES hhop
              go_wp2_with (first | ((with_reducible apply step_store hX); rfl; rfl; kernel_rfl; rfl; kernel_rfl) | fail)
              rw [HR2.out]
              refine (?_ : bodyPost _ _ _ _ _ _)
              refine ret_p2 (p := 6) (q := 7) (cs := #[.int .i64 0, .int .i64 0, .int .i64 0, .int .i64 0, .int .i64 0]) rfl rfl (setRow_heap _ _ _ _ _ _ HE8.out) rfl ?_
              exact ⟨rfl, below_setRow HB8.out (Nat.le_refl _) _⟩
            | true =>
              obtain ⟨u1, u2, u3⟩ := HYES.out _ hhop
              have HU1 : Hid (RES = walkP rs M ⟨pm, pt, po + a.off, pbt, pbs⟩ (l.drop (k + 1))) := u1
              have HU2 : Hid (AtOK rs M (M i).size ⟨pm, pt, po + a.off, pbt, pbs⟩) := u2
              have HU3 : Hid (Flat rs ⟨pm, pt, po + a.off, pbt, pbs⟩) := u3
              have l1 : 0 ≤ po + a.off := u2.lo
              have l2 : po + a.off ≤ 16384 := Int.le_trans u2.hi HGT.out
              have hwr : IntKind.i64.wrap (po + a.off) = po + a.off := wrap_id (by omega) (by omega)
              have x2 := Lib.cell_of_heap HQ8.out 2
              have y2 := Lib.cell_of_heap HA8.out 2
              have f2 := frozen_of HQ8.out 2
              simp only [List.getElem?_toArray, List.getElem?_cons_zero, List.getElem?_cons_succ] at x2 y2
              have HQ9 : Hid ((y8.setCell ⟨gq, 2, none⟩ (.int .i64 (po + a.off))).heap[gq]? = some (.cells #[.int .i64 pm, .int .i64 pt, .int .i64 (po + a.off), .int .i64 pbt, .int .i64 pbs] TPl (0, 0))) := (heap_setCell (j := 2) HQ8.out _).trans rfl
              have HA9 : Hid ((y8.setCell ⟨gq, 2, none⟩ (.int .i64 (po + a.off))).heap[gx]? = some (.cells #[.int .i64 a.mem, .int .i64 (j : Int), .int .i64 a.off, .int .i64 a.bit, .int .i64 a.bits] TPl (0, 0))) := mx_set HA8.out (by omega)
              have HE9 : Hid ((y8.setCell ⟨gq, 2, none⟩ (.int .i64 (po + a.off))).heap[w.heap.size]? = some (.cells #[.int .i64 0, .int .i64 0, .int .i64 0, .int .i64 0, .int .i64 0] TPl (0, 0))) := mx_set HE8.out (by omega)
              have HB9 : Hid (Below w.heap.size w (y8.setCell ⟨gq, 2, none⟩ (.int .i64 (po + a.off)))) := Below.setCell HB8.out (p := ⟨gq, 2, none⟩) (by simp only; omega) _
              clear u1 u2 u3 hhop HNAM HNO HYES hX
              go_upto_region 22 with fail
              refine (?_ : Code.wp _ _ _ _ (y8.setCell ⟨gq, 2, none⟩ (.int .i64 (po + a.off))))
              generalize y8.setCell ⟨gq, 2, none⟩ (.int .i64 (po + a.off)) = y9 at *
              clear x2 y2 f2 hwr HQ8 HA8 HE8 HB8
              have z0 := Lib.cell_of_heap HQ9.out 0
              have z1 := Lib.cell_of_heap HQ9.out 1
              have z2 := Lib.cell_of_heap HQ9.out 2
              have z3 := Lib.cell_of_heap HQ9.out 3
              have z4 := Lib.cell_of_heap HQ9.out 4
              simp only [List.getElem?_toArray, List.getElem?_cons_zero, List.getElem?_cons_succ] at z0 z1 z2 z3 z4
              have A9 := HA9.out
              go_wp2_with (first | ((with_reducible apply step_store A9); rfl; rfl; kernel_rfl; rfl; kernel_rfl) | fail)
              refine ⟨⟨k + 1, ⟨pm, pt, po + a.off, pbt, pbs⟩, by omega, by go_num, HU1, HU2, HU3, ?_, ?_, ?_⟩, by simp [intOf]; omega⟩
              · exact below_setRow HB9.out (by omega) _
              · exact (setRow_other _ _ _ _ (by omega)).trans HE9.out
              · exact setRow_heap _ _ _ _ _ _ HA9.out
          · subst hPE
            have HR2 : Hid (RES = none) := HNO.out hhop
            clear HNAM HNO HYES hhop
            go_wp2_with (first | ((with_reducible apply step_store hX); rfl; rfl; kernel_rfl; rfl; kernel_rfl) | fail)
            rw [HR2.out]
            refine (?_ : bodyPost _ _ _ _ _ _)
            refine ret_p2 (p := 6) (q := 7) (cs := #[.int .i64 0, .int .i64 0, .int .i64 0, .int .i64 0, .int .i64 0]) rfl rfl (setRow_heap _ _ _ _ _ _ HE8.out) rfl ?_
            exact ⟨rfl, below_setRow HB8.out (Nat.le_refl _) _⟩
        · have hnm0 : (!nm.toList.isEmpty) = false := by simpa using hnm
          have hnm1 : nm.toList.isEmpty = true := by simpa using hnm
          rcases HIX.out hb hnm0 with ⟨⟨hk14, hi0, hi1⟩, hsz, hs0, hs1, hln, hhop⟩ | ⟨hno, hhop⟩
          · obtain ⟨u1, u2, u3⟩ := HYES.out _ hhop
            have HU1 : Hid (RES = walkP rs M ⟨a.mem, el, a.off + idx * (M el).size, a.bit, a.bits⟩ (l.drop (k + 1))) := u1
            have HU2 : Hid (AtOK rs M (M i).size ⟨a.mem, el, a.off + idx * (M el).size, a.bit, a.bits⟩) := u2
            have HU3 : Hid (Flat rs ⟨a.mem, el, a.off + idx * (M el).size, a.bit, a.bits⟩) := u3
            have cS := HSZ.out Y6 el HB6.out
            rw [hsz] at cS
            subst hk14
            have hmul : 0 ≤ idx * (M el).size ∧ idx * (M el).size ≤ 16384 * 16384 := ⟨Int.mul_nonneg hi0 hs0, Int.mul_le_mul (by omega) hs1 hs0 (by omega)⟩
            obtain ⟨o1, o2⟩ := HLO.out
            have hw1 : IntKind.i64.wrap (idx * (M el).size) = idx * (M el).size := wrap_id (by omega) (by omega)
            have hw2 : IntKind.i64.wrap (a.off + idx * (M el).size) = a.off + idx * (M el).size := wrap_id (by omega) (by omega)
            generalize (M el).size = es at *
            clear u1 u2 u3 hhop hsz HIX HNM HFS HNO HYES HLO
            have t2 : decide (idx < 0) = false := by simp; omega
            have t3 : decide (ln ≤ idx) = false := by simp; omega
            go_upto_region 16 with (first | (go_at_call 8; refine cS.mono ?_; rintro e y7 ⟨rfl, hb7⟩) | fail)
            have HA7 : Hid (_ = _) := blk_b HA6.out hb7
            have HE7 : Hid (_ = _) := blk_b HE6.out hb7
            have HB7 : Hid (Below w.heap.size w y7) := HB6.out.trans (hb7.mono HB6.out.size)
            have m1 := (hb7.cell (p := ⟨gh, 1, none⟩) (lt_of_heap HN6.out)).trans n1
            have m2 := (hb7.cell (p := ⟨gn, 1, none⟩) (lt_of_heap HK6.out)).trans k1
            have m3 := (hb7.cell (p := ⟨gx, 2, none⟩) (lt_of_heap HA6.out)).trans d2
            have f2 := frozen_of HA7.out 2
            have W8A : Hid ((y7.setCell ⟨gx, 2, none⟩ (.int .i64 (a.off + idx * es))).heap[gx]? = some (.cells #[.int .i64 a.mem, .int .i64 (j : Int), .int .i64 (a.off + idx * es), .int .i64 a.bit, .int .i64 a.bits] TPl (0, 0))) := (heap_setCell (j := 2) HA7.out _).trans rfl
            have W8E : Hid ((y7.setCell ⟨gx, 2, none⟩ (.int .i64 (a.off + idx * es))).heap[w.heap.size]? = some (.cells #[.int .i64 0, .int .i64 0, .int .i64 0, .int .i64 0, .int .i64 0] TPl (0, 0))) := mx_set HE7.out (by omega)
            have W8B : Hid (Below w.heap.size w (y7.setCell ⟨gx, 2, none⟩ (.int .i64 (a.off + idx * es)))) := Below.setCell HB7.out (p := ⟨gx, 2, none⟩) (by simp only; omega) _
            have m2' : (y7.setCell ⟨gx, 2, none⟩ (.int .i64 (a.off + idx * es))).cell? ⟨gn, 1, none⟩ = some (.int .i64 el) := by rw [World.cell?_setCell_other]; exact m2; intro e; cases e
            clear n0 n1 d0 d1 d2 k0 k1 k2 hb7 cS HA6 HE6 HB6
            go_upto_region 17 with fail
            refine (?_ : Code.wp _ _ _ _ (y7.setCell ⟨gx, 2, none⟩ (.int .i64 (a.off + idx * es))))
            generalize y7.setCell ⟨gx, 2, none⟩ (.int .i64 (a.off + idx * es)) = y8 at *
            have x1 := Lib.cell_of_heap W8A.out 1
            simp only [List.getElem?_toArray, List.getElem?_cons_zero, List.getElem?_cons_succ] at x1
            have f1 := frozen_of W8A.out 1
            clear m1 m2 m3 f2 HA7 HE7 HB7 hw1 hw2
            go_wp2
            refine ⟨⟨k + 1, ⟨a.mem, el, a.off + idx * es, a.bit, a.bits⟩, by omega, by go_num, HU1, HU2, HU3, ?_, ?_, ?_⟩, by simp [intOf]; omega⟩
            · exact Below.setCell W8B.out (p := ⟨gx, 1, none⟩) (by simp only; omega) _
            · exact mx_set W8E.out (by omega)
            · exact (heap_setCell (j := 1) W8A.out _).trans rfl
          · have HR2 : Hid (RES = none) := HNO.out hhop
            have hX := HE6.out
            clear HIX HNM HFS HYES HNO
            by_cases hk14 : kd = 14
            · subst hk14
              by_cases hi0 : idx < 0
              · have t2 : decide (idx < 0) = true := by simpa using hi0
                go_wp2_with (first | ((with_reducible apply step_store hX); rfl; rfl; kernel_rfl; rfl; kernel_rfl) | fail)
                rw [HR2.out]
                refine (?_ : bodyPost _ _ _ _ _ _)
                refine ret_p2 (p := 6) (q := 7) (cs := #[.int .i64 0, .int .i64 0, .int .i64 0, .int .i64 0, .int .i64 0]) rfl rfl (setRow_heap _ _ _ _ _ _ HE6.out) rfl ?_
                exact ⟨rfl, below_setRow HB6.out (Nat.le_refl _) _⟩
              · have t2 : decide (idx < 0) = false := by simpa using hi0
                have t3 : decide (ln ≤ idx) = true := by simp; omega
                go_wp2_with (first | ((with_reducible apply step_store hX); rfl; rfl; kernel_rfl; rfl; kernel_rfl) | fail)
                rw [HR2.out]
                refine (?_ : bodyPost _ _ _ _ _ _)
                refine ret_p2 (p := 6) (q := 7) (cs := #[.int .i64 0, .int .i64 0, .int .i64 0, .int .i64 0, .int .i64 0]) rfl rfl (setRow_heap _ _ _ _ _ _ HE6.out) rfl ?_
                exact ⟨rfl, below_setRow HB6.out (Nat.le_refl _) _⟩
            · have t1 : (kd != 14) = true := by simpa using hk14
              go_wp2_with (first | ((with_reducible apply step_store hX); rfl; rfl; kernel_rfl; rfl; kernel_rfl) | fail)
              rw [HR2.out]
              refine (?_ : bodyPost _ _ _ _ _ _)
              refine ret_p2 (p := 6) (q := 7) (cs := #[.int .i64 0, .int .i64 0, .int .i64 0, .int .i64 0, .int .i64 0]) rfl rfl (setRow_heap _ _ _ _ _ _ HE6.out) rfl ?_
              exact ⟨rfl, below_setRow HB6.out (Nat.le_refl _) _⟩
    · obtain rfl : k = l.length := by omega
      have HR2 : Hid (RES = some a) := by show RES = _; rw [HW.out, List.drop_length]; rfl
      have d0 := Lib.cell_of_heap HG.out 0
      have d1 := Lib.cell_of_heap HG.out 1
      have d2 := Lib.cell_of_heap HG.out 2
      have d3 := Lib.cell_of_heap HG.out 3
      have d4 := Lib.cell_of_heap HG.out 4
      simp only [List.getElem?_toArray, List.getElem?_cons_zero, List.getElem?_cons_succ] at d0 d1 d2 d3 d4
      have E7 := HE.out
      clear HW HCL
      go_wp2_with (first | ((with_reducible apply step_store E7); rfl; rfl; kernel_rfl; rfl; kernel_rfl) | fail)
      rw [HR2.out]
      refine (?_ : bodyPost _ _ _ _ _ _)
      refine ret_p2 (p := 6) (q := 7) (cs := #[.int .i64 a.mem, .int .i64 a.type, .int .i64 a.off, .int .i64 a.bit, .int .i64 a.bits]) rfl rfl (setRow_heap _ _ _ _ _ _ HE.out) rfl ?_
      exact ⟨rfl, below_setRow HBW.out (Nat.le_refl _) _⟩
theorem rWalk_c (h : RT w rb rv rs2) (hrows : rs2.map (·.1) = rs.map (·.1)) (hf : FromOK rs) (hM : IsMeas (rowsOf rs) M) (hs : ∀ p ∈ rs, Sane p.1) (h1 : 0 < rs.length) (id : Int) {x : Value} {l : List Hp} (hl : HopIn w x l) (hbig : l.length ≤ 9223372036854775807) :
    Calls Tryz.prog 18 #[.pointer (some ⟨rb, 0, none⟩), .int .i64 id, x] w fun e w' => e = .returned (.tuple #[.agg (plV (walkR rs M id l).1), .int .i64 (walkR rs M id l).2]) ∧ Below w.heap.size w w' := by
  unfold walkR
  by_cases he : openE rs M id = 0
  · rw [if_pos he]
    obtain ⟨i, p, rfl, hp, hwh, hgt⟩ := openE_at he
    exact rWalk_ok h hrows hf hM hs h1 hp hwh hgt he hl hbig
  · rw [if_neg he]
    exact rWalk_err h hrows hf hM hs h1 id x he
end
end Go.Proofs.YtlcghlfmaohfeaaGreat
