/-
  Rows and members that came in: what they hold, and how great they are.
  Both: two tables of rows that came in.
-/
import Derived.Test.YtlcghlfmaohfeaaGreatHDuoNew
import Derived.Test.YtlcghlfmaohfeaaGreatHRefCopy
import Derived.Test.YtlcghlfmaohfeaaGreatHEnter
import Derived.Test.YtlcghlfmaohfeaaGreatRows
import Derived.ProofKit
import Derived.OpenShut
import Derived.Deep.Slices
import Derived.SizedLaws
namespace Go.Proofs.YtlcghlfmaohfeaaGreat
open Go.RowKit Go.Maps
set_option linter.unusedVariables false
set_option maxRecDepth 100000

section
variable {w : World}
def BothPost (w w' : World) (e : Ending) : Prop :=
  e = .returned (.tuple #[.pointer none, .pointer none, .bool false]) ∨
  ∃ b mb v rs rb rv rs2, e = .returned (.tuple #[.pointer (some ⟨b, 0, none⟩), .pointer (some ⟨rb, 0, none⟩), .bool true]) ∧ Duo w.heap.size w' b mb v rs rb rv rs2

set_option maxHeartbeats 4000000 in
theorem both_c {v : Value} {rs : List (Rw × Value)} (h : RowIn w v rs) (hl : rs.length * 72 ≤ 140737488355328) (hO : ∀ p ∈ rs, Okay p.1) :
    Calls Tryz.prog 5 #[v] w fun e w' => BothPost w w' e ∧ Below w.heap.size w w' := by
  obtain ⟨sp, sc, hv, hsc⟩ : ∃ sp sc, v = .slice sp rs.length sc ∧ rs.length ≤ sc := by
    rcases h.1 with ⟨e, hh⟩ | ⟨a, c, e, hh⟩ | ⟨g, o, cap, hv, hc, _⟩
    · rw [hh]; exact ⟨none, 0, e, Nat.le_refl _⟩
    · rw [hh]; exact ⟨_, _, e, Nat.zero_le _⟩
    · exact ⟨_, _, hv, hc⟩
  by_cases hn : 11 ≤ rs.length ∧ rs.length ≤ 512
  · have c1 := rFrom_c h hn.1 hn.2 hO
    by_cases hok : RefOK rs
    · have c1' : Calls Tryz.prog 22 #[v] w fun e w' => ∃ rb rv rs2, e = .returned (.tuple #[.pointer (some ⟨rb, 0, none⟩), .int .i64 0]) ∧ rs2.map (·.1) = rs.map (·.1) ∧ RTab w.heap.size w' rb rv rs2 ∧ Below w.heap.size w w' := by
        refine c1.mono ?_
        rintro e w' ⟨⟨hno, _⟩ | ⟨_, rb, rv, rs2, he, hf, hR⟩, hb⟩
        · exact absurd hok hno
        · exact ⟨rb, rv, rs2, he, hf, hR, hb⟩
      have hbt : ∀ (W : World), (Instr.build TT #[(0, v)]).run Tryz.prog W = .ok (.agg #[v]) W := fun W => by rw [hv]; kernel_rfl
      have cC : Hid (∀ X, Below w.heap.size w X → Calls Tryz.prog 24 #[.pointer (some ⟨X.heap.size, 0, none⟩)] (X.alloc (.cells #[v] TT)) fun e w' => ∃ b v' rs', e = .returned (.pointer (some ⟨b, 0, none⟩)) ∧ rs'.map (·.1) = rs.map (·.1) ∧ RTab (X.alloc (.cells #[v] TT)).heap.size w' b v' rs' ∧ Below (X.alloc (.cells #[v] TT)).heap.size (X.alloc (.cells #[v] TT)) w') := by
        intro X hX
        exact refCopy_c (by rw [Lib.cell_of_heap (heap_r0 X _)]; rfl) (h.below (hX.alloc hX.size _)) hl (fun p hp => (hO p hp).mem)
      have HO : Hid (∀ p ∈ rs, Okay p.1) := hO
      have HOK : Hid (RefOK rs) := hok
      rw [hv] at hbt cC c1' ⊢
      clear h hO hok c1 hv
      go_enter Tryz.func5, Tryz.ntmps5
      go_wp2_with fail
      refine c1'.mono ?_
      rintro e w1 ⟨rb, rv, rs2, rfl, hf, hR, hb1⟩
      have HR : Hid (RTab w.heap.size w1 rb rv rs2) := hR
      have HF : Hid (rs2.map (·.1) = rs.map (·.1)) := hf
      have HB1 : Hid (Below w.heap.size w w1) := hb1
      have c2 := cC.out w1 hb1
      clear c1' hR hf hb1 cC
      go_wp2_with fail
      refine c2.mono ?_
      rintro e w2 ⟨b2, v', rs', rfl, hf2, hR2, hb2⟩
      have hl2 : rs'.length = rs.length := fst_len hf2
      have hO' : ∀ p ∈ rs', Okay p.1 := by
        intro p hp
        have hm : p.1 ∈ rs'.map (·.1) := List.mem_map.2 ⟨p, hp, rfl⟩
        rw [hf2] at hm
        obtain ⟨q, hq, hq2⟩ := List.mem_map.1 hm
        rw [← hq2]; exact HO.out q hq
      have hq0 : w2.cell? ⟨b2, 0, none⟩ = some v' := hR2.c0
      have c3 : Calls Tryz.prog 23 #[v'] w2 fun e w' => ∃ b mb tv rs3, e = .returned (.tuple #[.pointer (some ⟨b, 0, none⟩), .int .i64 0]) ∧ rs3.map (·.1) = rs'.map (·.1) ∧ Tab w2.heap.size w' b mb tv rs3 (pairs (rowsOf rs3)) ∧ FromOK rs3 ∧ Below w2.heap.size w2 w' := by
        refine (from_c hR2.rowSl (by omega) (by omega) hO').mono ?_
        rintro e w' ⟨⟨hno, _⟩ | ⟨hyes, b, mb, tv, rs3, he, hf3, hT⟩, hb⟩
        · exact absurd (ok_same.2 (RefOK_fst hf2 HOK.out)) hno
        · exact ⟨b, mb, tv, rs3, he, hf3, hT, FromOK_fst hf3 hyes, hb⟩
      have HB2 : Hid (Below w1.heap.size w1 w2) := ((Below.refl _ w1).alloc (Nat.le_refl _) _).trans (hb2.mono (by simp))
      have HF2 : Hid (rs'.map (·.1) = rs.map (·.1)) := hf2
      obtain ⟨p', c', hv'⟩ := hR2.sl
      rw [hv'] at hq0 c3
      clear c2 hf2 hR2 hb2 hO' hv' hl2
      go_wp2_with fail
      refine c3.mono ?_
      rintro e w3 ⟨b, mb, tv, rs3, rfl, hf3, hT3, hok3, hb3⟩
      have HD : Hid (Duo w.heap.size w3 b mb tv rs3 rb rv rs2) := duo_from (HR.out.keptB HB2.out) hb3 hT3 (HF.out.trans (hf3.trans HF2.out).symm) (by have h1 := fst_len hf3; have h2 := fst_len HF2.out; omega) hok3
      have HB3 : Hid (Below w.heap.size w w3) := HB1.out.trans ((HB2.out.trans (hb3.mono HB2.out.size)).mono HB1.out.size)
      clear c3 hf3 hT3 hok3 hb3 hq0
      go_wp2
      go_ret3
      exact ⟨Or.inr ⟨b, mb, tv, rs3, rb, rv, rs2, rfl, HD.out⟩, HB3.out⟩
    · have c1' : Calls Tryz.prog 22 #[v] w fun e w' => e = .returned (.tuple #[.pointer none, .int .i64 30]) ∧ Below w.heap.size w w' := by
        refine c1.mono ?_
        rintro e w' ⟨⟨_, he⟩ | ⟨hyes, _⟩, hb⟩
        · exact ⟨he, hb⟩
        · exact absurd hyes hok
      rw [hv] at c1' ⊢
      clear h hO c1 hv
      go_enter Tryz.func5, Tryz.ntmps5
      go_wp2_with fail
      refine c1'.mono ?_
      rintro e w1 ⟨rfl, hb1⟩
      go_wp2
      go_ret3
      exact ⟨Or.inl rfl, hb1⟩
  · have c1' := rFrom_len (w := w) hv (by omega) (by omega)
    rw [hv] at c1' ⊢
    clear h hO hv
    go_enter Tryz.func5, Tryz.ntmps5
    go_wp2_with fail
    refine c1'.mono ?_
    rintro e w1 ⟨rfl, rfl⟩
    go_wp2
    go_ret3
    exact ⟨Or.inl rfl, Below.refl _ _⟩
end
end Go.Proofs.YtlcghlfmaohfeaaGreat
namespace Go.Proofs.YtlcghlfmaohfeaaGreat
open Go.ChangeShapes Go.WideShapes Go.ChangeAt Go.RowKit
set_option linter.unusedVariables false

theorem cells_kind : Tryz.prog.cellsOf 85 = 1 := by kernel_rfl
theorem cells_str : Tryz.prog.cellsOf 9 = 1 := by kernel_rfl
theorem cells_int : Tryz.prog.cellsOf 3 = 1 := by kernel_rfl
theorem cells_bool : Tryz.prog.cellsOf 4 = 1 := by kernel_rfl
theorem cells_sl : Tryz.prog.cellsOf 73 = 1 := by kernel_rfl
theorem cells_mem : Tryz.prog.cellsOf TM = 3 := by kernel_rfl
theorem cells_row : Tryz.prog.cellsOf TR = 6 := by kernel_rfl
theorem bytes_mem : Tryz.prog.bytesOf TM = 32 := by kernel_rfl
theorem bytes_row : Tryz.prog.bytesOf TR = 72 := by kernel_rfl

section
variable {H : Type} {enc : TypeId × Value → H} {w : World} {base : Nat} {spare : Nat → Bool} {held : Bool}
def Mb.data (m : Mb) : DataW H := .agg [.lit (.string m.name.data.toList), .lit (.int .i64 m.type), .lit (.int .i64 m.bits)]

theorem list6 {α : Type} : ∀ {l : List α}, l.length = 6 → ∃ a b c d e f, l = [a, b, c, d, e, f]
  | [a, b, c, d, e, f], _ => ⟨a, b, c, d, e, f, rfl⟩
theorem list3 {α : Type} : ∀ {l : List α}, l.length = 3 → ∃ a b c, l = [a, b, c]
  | [a, b, c], _ => ⟨a, b, c, rfl⟩

theorem open_mem {fuel : Nat} {cs : List Value} {x : DataW H × List MemPlace} (h : DataW.trod enc Tryz.prog w base spare held fuel TM cs = some x) :
    ∃ m : Mb, cs = mbCells m ∧ x.1 = m.data ∧ m.name.size ≤ maxLen := by
  obtain ⟨xs, n, rfl, rfl, hl, hlen, hf⟩ := DataW.trod_struct Tryz.underlying72 h
  rw [cells_mem] at hl
  have f0 : DataW.trod enc Tryz.prog w base spare held n 9 ((cs.drop 0).take (Tryz.prog.cellsOf 9)) = xs[0]? := hf 0 _ rfl
  have f1 : DataW.trod enc Tryz.prog w base spare held n 3 ((cs.drop 1).take (Tryz.prog.cellsOf 3)) = xs[1]? := hf 1 _ rfl
  have f2 : DataW.trod enc Tryz.prog w base spare held n 3 ((cs.drop 2).take (Tryz.prog.cellsOf 3)) = xs[2]? := hf 2 _ rfl
  rw [cells_str] at f0
  rw [cells_int] at f1 f2
  obtain ⟨c0, c1, c2, rfl⟩ := list3 hl
  obtain ⟨y0, y1, y2, rfl⟩ := list3 hlen
  simp only [List.drop_zero, List.drop_succ_cons, List.take_succ_cons, List.take_zero, List.getElem?_cons_zero, List.getElem?_cons_succ] at f0 f1 f2
  obtain ⟨s, e0, d0, w0⟩ := DataW.trod_string Tryz.underlying9 f0
  obtain ⟨a, e1, d1, w1⟩ := DataW.trod_int Tryz.underlying3 f1
  obtain ⟨b, e2, d2, w2⟩ := DataW.trod_int Tryz.underlying3 f2
  cases e0; cases e1; cases e2
  subst d0 d1 d2
  exact ⟨⟨s, a, b⟩, rfl, rfl, w0⟩

theorem open_mems {fuel : Nat} {cs : List Value} {x : DataW H × List MemPlace} (h : DataW.trod enc Tryz.prog w base spare held fuel 73 cs = some x) :
    ∃ (s : Value) (l : List Mb), cs = [s] ∧ MemIn w s l ∧ (∀ m ∈ l, m.name.size ≤ maxLen) ∧ (x.1 = .nil ∧ l = [] ∨ ∃ rest, x.1 = .slice (l.map Mb.data) rest) := by
  rcases Deep.open_slice Tryz.underlying73 h with ⟨rfl, rfl⟩ | ⟨a, len, cap, m, n, D, Pl, rfl, hb, hl, hm, hmm, rfl, hx⟩
  · exact ⟨_, [], rfl, Or.inl (Or.inl ⟨rfl, rfl⟩), fun m hm => (by cases hm), Or.inl ⟨rfl, rfl⟩⟩
  have hlm : len ≤ m := by rw [hmm]; split <;> omega
  obtain ⟨V, hV⟩ := @Deep.choose_lt Mb ⟨⟨⟨#[]⟩, 0, 0⟩⟩ len (fun i t => D i = t.data ∧ t.name.size ≤ maxLen ∧ ∀ j u, (mbCells t)[j]? = some u → w.cell? (a.add (i * 3 + j)) = some u) (fun i hi => by
    obtain ⟨cs', h1, h2⟩ := hx i (by omega)
    rw [cells_mem] at h1
    obtain ⟨t, rfl, ht, hs⟩ := open_mem h2
    obtain ⟨_, _, h3⟩ := World.cells?_some h1
    refine ⟨t, ht, hs, fun j u hj => ?_⟩
    have hj6 : j < 3 := by have := (List.getElem?_eq_some_iff.1 hj).1; simpa [mbCells] using this
    have := h3 j hj6
    rw [Deep.add_add] at this
    rw [this, hj])
  have hat : ∀ j t, ((List.range len).map V)[j]? = some t → j < len ∧ t = V j := by
    intro j t hj
    rw [List.getElem?_map] at hj
    rcases hr : (List.range len)[j]? with _ | i
    · rw [hr] at hj; cases hj
    · rw [hr] at hj
      simp only [Option.map_some, Option.some.injEq] at hj
      obtain ⟨hjl, hji⟩ := List.getElem?_eq_some_iff.1 hr
      simp only [List.getElem_range] at hji
      subst hji
      exact ⟨by simpa using hjl, hj.symm⟩
  refine ⟨_, (List.range len).map V, rfl, ?_, ?_, Or.inr ⟨(List.range (m - len)).map fun j => D (len + j), ?_⟩⟩
  · by_cases h0 : len = 0
    · subst h0; exact Or.inr ⟨a, cap, rfl, rfl⟩
    · left; right
      obtain ⟨b, off, spot⟩ := a
      have hc := (hV 0 (by omega)).2.2 0 _ rfl
      have hspot : spot = none := by simpa [Addr.add] using World.cell?_spot hc
      subst hspot
      have hlt : b < w.heap.size := by
        have := World.block_lt_of_cell? w _ hc
        simpa [Addr.add] using this
      refine ⟨b, off, cap, by simp, by simpa using hl, hlt, fun i t hi j hj => ?_⟩
      obtain ⟨hil, rfl⟩ := hat i t hi
      cases hu : (mbCells (V i))[j]? with
      | none => simp [mbCells] at hu; omega
      | some u =>
        have := (hV i hil).2.2 j u hu
        rw [Addr.add_lit, ← Nat.add_assoc] at this
        exact this
  · intro t ht
    obtain ⟨j, hj⟩ := List.mem_iff_getElem?.1 ht
    obtain ⟨hjl, rfl⟩ := hat j t hj
    exact (hV j hjl).2.1
  · show DataW.slice _ _ = _
    congr 1
    rw [List.map_map]
    refine List.map_congr_left fun i hi => ?_
    exact (hV i (by simpa using hi)).1

/-- A row's reading: its members are nil or a slice. -/
def RowData (r : Rw) (d : DataW H) : Prop := ∃ md, d = .agg [.lit (.int .i64 r.kind), .lit (.int .i64 r.elem), .lit (.int .i64 r.len), .lit (.string r.tag.data.toList), md, .lit (.bool r.done)] ∧ (md = .nil ∧ r.mem = [] ∨ ∃ rest, md = .slice (r.mem.map Mb.data) rest)

theorem open_row {fuel : Nat} {cs : List Value} {x : DataW H × List MemPlace} (h : DataW.trod enc Tryz.prog w base spare held fuel TR cs = some x) :
    ∃ (r : Rw) (s : Value), cs = rwCells r s ∧ MemIn w s r.mem ∧ RowData r x.1 ∧ wf64 r.kind ∧ wf64 r.elem ∧ wf64 r.len ∧ r.tag.size ≤ maxLen ∧ ∀ m ∈ r.mem, m.name.size ≤ maxLen := by
  obtain ⟨xs, n, rfl, rfl, hl, hlen, hf⟩ := DataW.trod_struct Tryz.underlying87 h
  rw [cells_row] at hl
  have f0 : DataW.trod enc Tryz.prog w base spare held n 85 ((cs.drop 0).take (Tryz.prog.cellsOf 85)) = xs[0]? := hf 0 _ rfl
  have f1 : DataW.trod enc Tryz.prog w base spare held n 3 ((cs.drop 1).take (Tryz.prog.cellsOf 3)) = xs[1]? := hf 1 _ rfl
  have f2 : DataW.trod enc Tryz.prog w base spare held n 3 ((cs.drop 2).take (Tryz.prog.cellsOf 3)) = xs[2]? := hf 2 _ rfl
  have f3 : DataW.trod enc Tryz.prog w base spare held n 9 ((cs.drop 3).take (Tryz.prog.cellsOf 9)) = xs[3]? := hf 3 _ rfl
  have f4 : DataW.trod enc Tryz.prog w base spare held n 73 ((cs.drop 4).take (Tryz.prog.cellsOf 73)) = xs[4]? := hf 4 _ rfl
  have f5 : DataW.trod enc Tryz.prog w base spare held n 4 ((cs.drop 5).take (Tryz.prog.cellsOf 4)) = xs[5]? := hf 5 _ rfl
  rw [cells_kind] at f0
  rw [cells_int] at f1 f2
  rw [cells_str] at f3
  rw [cells_sl] at f4
  rw [cells_bool] at f5
  obtain ⟨c0, c1, c2, c3, c4, c5, rfl⟩ := list6 hl
  obtain ⟨y0, y1, y2, y3, y4, y5, rfl⟩ := list6 hlen
  simp only [List.drop_zero, List.drop_succ_cons, List.take_succ_cons, List.take_zero, List.getElem?_cons_zero, List.getElem?_cons_succ] at f0 f1 f2 f3 f4 f5
  obtain ⟨kd, e0, d0, w0⟩ := DataW.trod_int Tryz.underlying85 f0
  obtain ⟨el, e1, d1, w1⟩ := DataW.trod_int Tryz.underlying3 f1
  obtain ⟨ln, e2, d2, w2⟩ := DataW.trod_int Tryz.underlying3 f2
  obtain ⟨tg, e3, d3, w3⟩ := DataW.trod_string Tryz.underlying9 f3
  obtain ⟨s, l, e4, hM, hN, hD⟩ := open_mems f4
  obtain ⟨dn, e5, d5⟩ := DataW.trod_bool Tryz.underlying4 f5
  cases e0; cases e1; cases e2; cases e3; cases e4; cases e5
  subst d0 d1 d2 d3 d5
  exact ⟨⟨kd, el, ln, tg, l, dn⟩, c4, rfl, hM, ⟨y4.1, rfl, hD⟩, w0, w1, w2, w3, hN⟩

structure RowFit (w : World) (p : Rw × Value) (d : DataW H) : Prop where
  data : RowData p.1 d
  mem : MemIn w p.2 p.1.mem
  kind : wf64 p.1.kind
  elem : wf64 p.1.elem
  len : wf64 p.1.len
  tag : p.1.tag.size ≤ maxLen
  names : ∀ m ∈ p.1.mem, m.name.size ≤ maxLen

theorem open_rows {fuel : Nat} {cs : List Value} {x : DataW H × List MemPlace} (h : DataW.trod enc Tryz.prog w base spare held fuel 22 cs = some x) :
    ∃ (v : Value) (rs : List (Rw × Value)), cs = [v] ∧ RowIn w v rs ∧ (x.1 = .nil ∧ rs = [] ∨ ∃ ds rest, x.1 = .slice ds rest ∧ ds.length = rs.length ∧ ∀ (i : Nat) (p : Rw × Value), rs[i]? = some p → ∃ d, ds[i]? = some d ∧ RowFit w p d) := by
  rcases Deep.open_slice Tryz.underlying22 h with ⟨rfl, rfl⟩ | ⟨a, len, cap, m, n, D, Pl, rfl, hb, hl, hm, hmm, rfl, hx⟩
  · exact ⟨_, [], rfl, ⟨Or.inl ⟨rfl, rfl⟩, fun p hp => (by cases hp)⟩, Or.inl ⟨rfl, rfl⟩⟩
  have hlm : len ≤ m := by rw [hmm]; split <;> omega
  obtain ⟨V, hV⟩ := @Deep.choose_lt (Rw × Value) ⟨(⟨0, 0, 0, ⟨#[]⟩, [], false⟩, .slice none 0 0)⟩ len (fun i t => RowFit w t (D i) ∧ ∀ j u, (rwCells t.1 t.2)[j]? = some u → w.cell? (a.add (i * 6 + j)) = some u) (fun i hi => by
    obtain ⟨cs', h1, h2⟩ := hx i (by omega)
    rw [cells_row] at h1
    obtain ⟨r, s, rfl, k1, k2, k3, k4, k5, k6, k7⟩ := open_row h2
    obtain ⟨_, _, h3⟩ := World.cells?_some h1
    refine ⟨(r, s), ⟨k2, k1, k3, k4, k5, k6, k7⟩, fun j u hj => ?_⟩
    have hj6 : j < 6 := by have := (List.getElem?_eq_some_iff.1 hj).1; simpa [rwCells] using this
    have := h3 j hj6
    rw [Deep.add_add] at this
    rw [this, hj])
  have hat : ∀ j t, ((List.range len).map V)[j]? = some t → j < len ∧ t = V j := by
    intro j t hj
    rw [List.getElem?_map] at hj
    rcases hr : (List.range len)[j]? with _ | i
    · rw [hr] at hj; cases hj
    · rw [hr] at hj
      simp only [Option.map_some, Option.some.injEq] at hj
      obtain ⟨hjl, hji⟩ := List.getElem?_eq_some_iff.1 hr
      simp only [List.getElem_range] at hji
      subst hji
      exact ⟨by simpa using hjl, hj.symm⟩
  refine ⟨_, (List.range len).map V, rfl, ⟨?_, ?_⟩, Or.inr ⟨(List.range len).map D, (List.range (m - len)).map fun j => D (len + j), rfl, by simp, ?_⟩⟩
  · by_cases h0 : len = 0
    · subst h0; exact Or.inr (Or.inl ⟨a, cap, rfl, rfl⟩)
    · right; right
      obtain ⟨b, off, spot⟩ := a
      have hc := (hV 0 (by omega)).2 0 _ rfl
      have hspot : spot = none := by simpa [Addr.add] using World.cell?_spot hc
      subst hspot
      have hlt : b < w.heap.size := by
        have := World.block_lt_of_cell? w _ hc
        simpa [Addr.add] using this
      refine ⟨b, off, cap, by simp, by simpa using hl, hlt, fun i t hi j hj => ?_⟩
      obtain ⟨hil, rfl⟩ := hat i t hi
      cases hu : (rwCells (V i).1 (V i).2)[j]? with
      | none => simp [rwCells] at hu; omega
      | some u =>
        have := (hV i hil).2 j u hu
        rw [Addr.add_lit, ← Nat.add_assoc] at this
        exact this
  · intro t ht
    obtain ⟨j, hj⟩ := List.mem_iff_getElem?.1 ht
    obtain ⟨hjl, rfl⟩ := hat j t hj
    exact (hV j hjl).1.mem
  · intro i p hp
    obtain ⟨hil, rfl⟩ := hat i p hp
    exact ⟨D i, by simp [hil], (hV i hil).1⟩

theorem weightsAll_mem {P : Program} {e : TypeId} : ∀ {l : List (DataW H)} {d : DataW H}, d ∈ l → ∀ x ∈ d.weights P e, x ∈ DataW.weightsAll P e l
  | a :: r, d, hd, x, hx => by
    simp only [DataW.weightsAll, List.mem_append]
    rcases List.mem_cons.1 hd with rfl | hd
    · exact Or.inl hx
    · exact Or.inr (weightsAll_mem hd x hx)

/-- The sizes of rows that came in. -/
theorem rows_sized {ds rest : List (DataW H)} (h : ((DataW.slice ds rest).weights Tryz.prog 22).all (· ≤ reachBytes) = true) :
    ds.length * 72 ≤ reachBytes ∧ ∀ d ∈ ds, ∀ r, RowData r d → r.mem.length * 32 ≤ reachBytes := by
  rw [List.all_eq_true] at h
  have hu := Tryz.underlying22
  simp only [DataW.weights, hu, bytes_row] at h
  constructor
  · have := h _ (List.mem_cons_self ..)
    simp at this
    omega
  · intro d hd r hr
    obtain ⟨md, rfl, hmd⟩ := hr
    rcases hmd with ⟨rfl, h0⟩ | ⟨rs2, rfl⟩
    · rw [h0]; simp
    · have hx : (r.mem.length + rs2.length) * 32 ∈ (DataW.agg [.lit (.int .i64 r.kind), .lit (.int .i64 r.elem), .lit (.int .i64 r.len), .lit (.string r.tag.data.toList), .slice (r.mem.map Mb.data) rs2, .lit (.bool r.done)] : DataW H).weights Tryz.prog TR := by
        have hu2 := Tryz.underlying87
        have hu3 := Tryz.underlying73
        simp only [DataW.weights, hu2]
        simp [DataW.weightsEach, DataW.weights, hu3, bytes_mem]
      have := h _ (List.mem_cons_of_mem _ (List.mem_append_left _ (weightsAll_mem hd _ hx)))
      simp at this
      omega
theorem okay_of {p : Rw × Value} {d : DataW H} (h : RowFit w p d) (hm : p.1.mem.length * 32 ≤ reachBytes) : Okay p.1 :=
  ⟨h.kind, h.elem, h.len, by have := h.tag; unfold maxLen at this; omega, by simp [reachBytes] at hm; omega, fun m hmm => by have := h.names m hmm; unfold maxLen at this; omega⟩
end
end Go.Proofs.YtlcghlfmaohfeaaGreat
