/-
  Programs that came in: slots, functions, relocations, objects: what they hold, and how great they are.
  Arguments that came in: instructions, functions, objects, programs: what they hold, and how great they are.
-/
import Derived.Test.YtaaphipbkpjkjaaGreatDoorKK
import Derived.ProofKit
import Derived.OpenShut
import Derived.Deep.Slices
import Derived.SizedLaws
namespace Go.Proofs.YtaaphipbkpjkjaaGreatDoor
open Go.ChangeShapes Go.WideShapes Go.ChangeAt Go.RowKit
set_option linter.unusedVariables false
set_option linter.unusedSimpArgs false
set_option maxRecDepth 100000

theorem li2 {α : Type} : ∀ {l : List α}, l.length = 2 → ∃ a0 a1, l = [a0, a1]
  | [a0, a1], _ => ⟨a0, a1, rfl⟩
theorem li3 {α : Type} : ∀ {l : List α}, l.length = 3 → ∃ a0 a1 a2, l = [a0, a1, a2]
  | [a0, a1, a2], _ => ⟨a0, a1, a2, rfl⟩
theorem li4 {α : Type} : ∀ {l : List α}, l.length = 4 → ∃ a0 a1 a2 a3, l = [a0, a1, a2, a3]
  | [a0, a1, a2, a3], _ => ⟨a0, a1, a2, a3, rfl⟩
theorem li5 {α : Type} : ∀ {l : List α}, l.length = 5 → ∃ a0 a1 a2 a3 a4, l = [a0, a1, a2, a3, a4]
  | [a0, a1, a2, a3, a4], _ => ⟨a0, a1, a2, a3, a4, rfl⟩
theorem li6 {α : Type} : ∀ {l : List α}, l.length = 6 → ∃ a0 a1 a2 a3 a4 a5, l = [a0, a1, a2, a3, a4, a5]
  | [a0, a1, a2, a3, a4, a5], _ => ⟨a0, a1, a2, a3, a4, a5, rfl⟩
theorem li10 {α : Type} : ∀ {l : List α}, l.length = 10 → ∃ a0 a1 a2 a3 a4 a5 a6 a7 a8 a9, l = [a0, a1, a2, a3, a4, a5, a6, a7, a8, a9]
  | [a0, a1, a2, a3, a4, a5, a6, a7, a8, a9], _ => ⟨a0, a1, a2, a3, a4, a5, a6, a7, a8, a9, rfl⟩
theorem li12 {α : Type} : ∀ {l : List α}, l.length = 12 → ∃ a0 a1 a2 a3 a4 a5 a6 a7 a8 a9 a10 a11, l = [a0, a1, a2, a3, a4, a5, a6, a7, a8, a9, a10, a11]
  | [a0, a1, a2, a3, a4, a5, a6, a7, a8, a9, a10, a11], _ => ⟨a0, a1, a2, a3, a4, a5, a6, a7, a8, a9, a10, a11, rfl⟩
theorem ce_kind : Tryz.prog.cellsOf 37 = 1 := by kernel_rfl
theorem ce_u32 : Tryz.prog.cellsOf 38 = 1 := by kernel_rfl
theorem ce_int : Tryz.prog.cellsOf 3 = 1 := by kernel_rfl
theorem ce_str : Tryz.prog.cellsOf 9 = 1 := by kernel_rfl
theorem ce_bool : Tryz.prog.cellsOf 4 = 1 := by kernel_rfl
theorem ce_op : Tryz.prog.cellsOf 35 = 1 := by kernel_rfl
theorem ce_bin : Tryz.prog.cellsOf 36 = 1 := by kernel_rfl
theorem ce_args : Tryz.prog.cellsOf TArs = 1 := by kernel_rfl
theorem ce_arg : Tryz.prog.cellsOf TAr = 2 := by kernel_rfl
theorem ce_slots : Tryz.prog.cellsOf 29 = 1 := by kernel_rfl
theorem ce_code : Tryz.prog.cellsOf TIns = 1 := by kernel_rfl
theorem ce_relocs : Tryz.prog.cellsOf 68 = 1 := by kernel_rfl
theorem ce_data : Tryz.prog.cellsOf 70 = 2 := by kernel_rfl
theorem ce_objs : Tryz.prog.cellsOf 22 = 1 := by kernel_rfl
theorem ce_fns : Tryz.prog.cellsOf 23 = 1 := by kernel_rfl
theorem cs_ins : Tryz.prog.cellsOf TIn = 12 := by kernel_rfl
theorem cs_slot : Tryz.prog.cellsOf 94 = 2 := by kernel_rfl
theorem cs_func : Tryz.prog.cellsOf 32 = 6 := by kernel_rfl
theorem cs_rel : Tryz.prog.cellsOf 78 = 3 := by kernel_rfl
theorem cs_obj : Tryz.prog.cellsOf 72 = 5 := by kernel_rfl
theorem cs_dat : Tryz.prog.cellsOf 70 = 2 := by kernel_rfl
theorem cs_prog : Tryz.prog.cellsOf 25 = 3 := by kernel_rfl
theorem by_arg : Tryz.prog.bytesOf TAr = 16 := by kernel_rfl
theorem by_ins : Tryz.prog.bytesOf TIn = 112 := by kernel_rfl
theorem by_slot : Tryz.prog.bytesOf 94 = 16 := by kernel_rfl
theorem by_func : Tryz.prog.bytesOf 32 = 88 := by kernel_rfl
theorem by_rel : Tryz.prog.bytesOf 78 = 24 := by kernel_rfl
theorem by_obj : Tryz.prog.bytesOf 72 = 80 := by kernel_rfl
section
variable {H : Type}
instance : Inhabited Ar := ⟨⟨0, 0⟩⟩
instance : Inhabited In := ⟨⟨0, 0, 0, ⟨0, 0⟩, ⟨0, 0⟩, 0, 0, 0, false, []⟩⟩
instance : Inhabited Iw := ⟨⟨default, none, 0⟩⟩
/-- An operand's reading. -/
def ArE (a : Ar) (d : DataW H) : Prop := d = .agg [.lit (.int .i64 a.kind), .lit (.int .u32 a.n)] ∧ ArOK a
/-- A slice's reading, as far as its length goes. -/
def SlD (n : Nat) (d : DataW H) : Prop := (d = .nil ∧ n = 0) ∨ ∃ ds rest, d = .slice ds rest ∧ ds.length = n
/-- An instruction's reading. -/
def IwD (q : Iw) (d : DataW H) : Prop := ∃ ad, d = .agg [.lit (.int .i64 q.x.op), .lit (.int .i64 q.x.bin), .lit (.int .i64 q.x.d), .agg [.lit (.int .i64 q.x.a.kind), .lit (.int .u32 q.x.a.n)], .agg [.lit (.int .i64 q.x.b.kind), .lit (.int .u32 q.x.b.n)], .lit (.int .i64 q.x.n), .lit (.int .i64 q.x.off), .lit (.int .i64 q.x.width), .lit (.bool q.x.sg), ad] ∧ SlD q.x.args.length ad
def I64' (n : Int) : Prop := -9223372036854775808 ≤ n ∧ n ≤ 9223372036854775807
structure IwE (w : World) (q : Iw) (d : DataW H) : Prop where
  dat : IwD q d
  ar : ArgV w (.slice q.xp q.x.args.length q.xc) q.x.args
  a : ArOK q.x.a
  b : ArOK q.x.b
  ao : ∀ a ∈ q.x.args, ArOK a
  d0 : I64' q.x.d
  n0 : I64' q.x.n
  off : I64' q.x.off
  wd : I64' q.x.width
  op : I64' q.x.op
  bi : I64' q.x.bin
/-- What is asked of an instruction that came in. -/
structure IwG (w : World) (q : Iw) : Prop where
  ok : InOK w q.x q.xp q.xc
  sz : (2 + q.x.args.length) * 16 ≤ 140737488355328
  d0 : I64' q.x.d
  n0 : I64' q.x.n
end
section
variable {H : Type} {enc : TypeId × Value → H} {w : World} {base : Nat} {spare : Nat → Bool} {held : Bool}
/-- A slice that came in, whose elements have k cells. -/
theorem open_sl {α : Type} [Inhabited α] {C : α → List Value} {k : Nat} {e t : TypeId} {E : α → DataW H → Prop} (ht : Tryz.prog.underlying t = some (.slice e)) (hk : Tryz.prog.cellsOf e = k) (hk0 : 0 < k) (hC : ∀ a, (C a).length = k)
    (hE : ∀ (fuel : Nat) (cs : List Value) (x : DataW H × List MemPlace), DataW.trod enc Tryz.prog w base spare held fuel e cs = some x → ∃ a, cs = C a ∧ E a x.1)
    {fuel : Nat} {cs : List Value} {x : DataW H × List MemPlace} (h : DataW.trod enc Tryz.prog w base spare held fuel t cs = some x) :
    ∃ p cap, ∃ l : List α, cs = [.slice p l.length cap] ∧ RowV C k w p cap l ∧ (x.1 = .nil ∧ l = [] ∨ ∃ ds rest, x.1 = .slice ds rest ∧ ds.length = l.length ∧ ∀ (i : Nat) (a : α), l[i]? = some a → ∃ d, ds[i]? = some d ∧ E a d) := by
  rcases Deep.open_slice ht h with ⟨rfl, rfl⟩ | ⟨a, len, cap, m, n, D, Pl, rfl, hb, hl, hm, hmm, rfl, hx⟩
  · exact ⟨none, 0, [], rfl, ⟨⟨Nat.le_refl _, fun _ => rfl⟩, fun i a h => (by simp at h)⟩, Or.inl ⟨rfl, rfl⟩⟩
  have hlm : len ≤ m := by rw [hmm]; split <;> omega
  obtain ⟨V, hV⟩ := @Deep.choose_lt α _ len (fun i t => E t (D i) ∧ ∀ j u, (C t)[j]? = some u → w.cell? (a.add (i * k + j)) = some u) (fun i hi => by
    obtain ⟨cs', h1, h2⟩ := hx i (by omega)
    rw [hk] at h1
    obtain ⟨t, rfl, ht⟩ := hE _ _ _ h2
    obtain ⟨_, _, h3⟩ := World.cells?_some h1
    refine ⟨t, ht, fun j u hj => ?_⟩
    have hj6 : j < k := by have := (List.getElem?_eq_some_iff.1 hj).1; rwa [hC] at this
    have := h3 j hj6
    rw [Deep.add_add] at this
    rw [this, hj])
  have hat : ∀ j t, ((List.range len).map V)[j]? = some t → j < len ∧ t = V j := by
    intro j t hj
    rw [List.getElem?_map] at hj
    rcases hr : (List.range len)[j]? with _ | i
    · rw [hr] at hj; cases hj
    · rw [hr] at hj
      simp only [Option.map_some, Option.some.injEq] at hj
      obtain ⟨hjl, hji⟩ := List.getElem?_eq_some_iff.1 hr
      simp only [List.getElem_range] at hji
      subst hji
      exact ⟨by simpa using hjl, hj.symm⟩
  refine ⟨some a, cap, (List.range len).map V, by simp, ⟨⟨by simpa using hl, fun e => by cases e⟩, fun i t hi => ?_⟩, Or.inr ⟨(List.range len).map D, (List.range (m - len)).map fun j => D (len + j), rfl, by simp, ?_⟩⟩
  · obtain ⟨hil, rfl⟩ := hat i t hi
    have h0 : 0 < (C (V 0)).length := by rw [hC]; exact hk0
    obtain ⟨b, off, spot⟩ := a
    have hc := (hV 0 (by omega)).2 0 _ (List.getElem?_eq_getElem h0)
    have hspot : spot = none := by simpa [Addr.add] using World.cell?_spot hc
    subst hspot
    have hlt : b < w.heap.size := by
      have := World.block_lt_of_cell? w _ hc
      simpa [Addr.add] using this
    refine ⟨b, off, rfl, hlt, fun j hj => ?_⟩
    cases hu : (C (V i))[j]? with
    | none => rw [List.getElem?_eq_none_iff, hC] at hu; omega
    | some u =>
      have := (hV i hil).2 j u hu
      rw [Addr.add_lit, ← Nat.add_assoc] at this
      exact this
  · intro i p hp
    obtain ⟨hil, rfl⟩ := hat i p hp
    exact ⟨D i, by simp [hil], (hV i hil).1⟩
theorem weightsAll_mem {P : Program} {e : TypeId} : ∀ {l : List (DataW H)} {d : DataW H}, d ∈ l → ∀ x ∈ d.weights P e, x ∈ DataW.weightsAll P e l
  | a :: r, d, hd, x, hx => by
    simp only [DataW.weightsAll, List.mem_append]
    rcases List.mem_cons.1 hd with rfl | hd
    · exact Or.inl hx
    · exact Or.inr (weightsAll_mem hd x hx)
/-- The sizes of a slice that came in, and of its elements. -/
theorem sl_sized {t e : TypeId} {b : Nat} (ht : Tryz.prog.underlying t = some (.slice e)) (hb : Tryz.prog.bytesOf e = b) {ds rest : List (DataW H)} (h : ((DataW.slice ds rest).weights Tryz.prog t).all (· ≤ reachBytes) = true) :
    ds.length * b ≤ reachBytes ∧ ∀ d ∈ ds, (d.weights Tryz.prog e).all (· ≤ reachBytes) = true := by
  rw [List.all_eq_true] at h
  simp only [DataW.weights, ht, hb] at h
  constructor
  · have := h _ (List.mem_cons_self ..)
    simp at this
    exact Nat.le_trans (Nat.mul_le_mul_right _ (Nat.le_add_right _ _)) this
  · intro d hd
    rw [List.all_eq_true]
    intro x hx
    exact h _ (List.mem_cons_of_mem _ (List.mem_append_left _ (weightsAll_mem hd _ hx)))
theorem sld {α : Type} {l : List α} {d : DataW H} {P : List (DataW H) → Prop} (h : d = .nil ∧ l = [] ∨ ∃ ds rest, d = .slice ds rest ∧ ds.length = l.length ∧ P ds) : SlD l.length d := by
  rcases h with ⟨h, rfl⟩ | ⟨ds, rest, h1, h2, _⟩
  · exact Or.inl ⟨h, rfl⟩
  · exact Or.inr ⟨ds, rest, h1, h2⟩
theorem open_ar {fuel : Nat} {cs : List Value} {x : DataW H × List MemPlace} (h : DataW.trod enc Tryz.prog w base spare held fuel TAr cs = some x) :
    ∃ a : Ar, cs = arCells a ∧ ArE a x.1 := by
  obtain ⟨xs, n, rfl, rfl, hl, hlen, hf⟩ := DataW.trod_struct Tryz.underlying40 h
  rw [ce_arg] at hl
  have f0 : DataW.trod enc Tryz.prog w base spare held n 37 ((cs.drop 0).take (Tryz.prog.cellsOf 37)) = xs[0]? := hf 0 _ rfl
  rw [ce_kind] at f0
  have f1 : DataW.trod enc Tryz.prog w base spare held n 38 ((cs.drop 1).take (Tryz.prog.cellsOf 38)) = xs[1]? := hf 1 _ rfl
  rw [ce_u32] at f1
  obtain ⟨z0, z1, rfl⟩ := li2 hl
  obtain ⟨y0, y1, rfl⟩ := li2 hlen
  simp only [List.drop_zero, List.drop_succ_cons, List.take_succ_cons, List.take_zero, List.getElem?_cons_zero, List.getElem?_cons_succ] at f0 f1
  obtain ⟨k0, e0, d0, w0⟩ := DataW.trod_int Tryz.underlying37 f0
  obtain ⟨k1, e1, d1, w1⟩ := DataW.trod_int Tryz.underlying38 f1
  cases e0; cases e1
  subst d0 d1
  exact ⟨⟨k0, k1⟩, rfl, rfl, by have := bounds_u32 w1; exact ⟨this.1, Int.lt_of_le_of_lt this.2 (by decide)⟩⟩
theorem open_args {fuel : Nat} {cs : List Value} {x : DataW H × List MemPlace} (h : DataW.trod enc Tryz.prog w base spare held fuel TArs cs = some x) :
    ∃ p cap, ∃ l : List Ar, cs = [.slice p l.length cap] ∧ RowV arCells 2 w p cap l ∧ (x.1 = .nil ∧ l = [] ∨ ∃ ds rest, x.1 = .slice ds rest ∧ ds.length = l.length ∧ ∀ (i : Nat) (a : Ar), l[i]? = some a → ∃ d, ds[i]? = some d ∧ ArE a d) :=
  open_sl (E := ArE) Tryz.underlying41 ce_arg (by decide) (fun a => rfl) (fun _ _ _ h => open_ar h) h
theorem open_iw {fuel : Nat} {cs : List Value} {x : DataW H × List MemPlace} (h : DataW.trod enc Tryz.prog w base spare held fuel TIn cs = some x) :
    ∃ q : Iw, cs = iwC q ∧ IwE w q x.1 := by
  obtain ⟨xs, n, rfl, rfl, hl, hlen, hf⟩ := DataW.trod_struct Tryz.underlying43 h
  rw [cs_ins] at hl
  have f0 : DataW.trod enc Tryz.prog w base spare held n 35 ((cs.drop 0).take (Tryz.prog.cellsOf 35)) = xs[0]? := hf 0 _ rfl
  rw [ce_op] at f0
  have f1 : DataW.trod enc Tryz.prog w base spare held n 36 ((cs.drop 1).take (Tryz.prog.cellsOf 36)) = xs[1]? := hf 1 _ rfl
  rw [ce_bin] at f1
  have f2 : DataW.trod enc Tryz.prog w base spare held n 3 ((cs.drop 2).take (Tryz.prog.cellsOf 3)) = xs[2]? := hf 2 _ rfl
  rw [ce_int] at f2
  have f3 : DataW.trod enc Tryz.prog w base spare held n TAr ((cs.drop 3).take (Tryz.prog.cellsOf TAr)) = xs[3]? := hf 3 _ rfl
  rw [ce_arg] at f3
  have f4 : DataW.trod enc Tryz.prog w base spare held n TAr ((cs.drop 5).take (Tryz.prog.cellsOf TAr)) = xs[4]? := hf 4 _ rfl
  rw [ce_arg] at f4
  have f5 : DataW.trod enc Tryz.prog w base spare held n 3 ((cs.drop 7).take (Tryz.prog.cellsOf 3)) = xs[5]? := hf 5 _ rfl
  rw [ce_int] at f5
  have f6 : DataW.trod enc Tryz.prog w base spare held n 3 ((cs.drop 8).take (Tryz.prog.cellsOf 3)) = xs[6]? := hf 6 _ rfl
  rw [ce_int] at f6
  have f7 : DataW.trod enc Tryz.prog w base spare held n 3 ((cs.drop 9).take (Tryz.prog.cellsOf 3)) = xs[7]? := hf 7 _ rfl
  rw [ce_int] at f7
  have f8 : DataW.trod enc Tryz.prog w base spare held n 4 ((cs.drop 10).take (Tryz.prog.cellsOf 4)) = xs[8]? := hf 8 _ rfl
  rw [ce_bool] at f8
  have f9 : DataW.trod enc Tryz.prog w base spare held n TArs ((cs.drop 11).take (Tryz.prog.cellsOf TArs)) = xs[9]? := hf 9 _ rfl
  rw [ce_args] at f9
  obtain ⟨z0, z1, z2, z3, z4, z5, z6, z7, z8, z9, z10, z11, rfl⟩ := li12 hl
  obtain ⟨y0, y1, y2, y3, y4, y5, y6, y7, y8, y9, rfl⟩ := li10 hlen
  simp only [List.drop_zero, List.drop_succ_cons, List.take_succ_cons, List.take_zero, List.getElem?_cons_zero, List.getElem?_cons_succ] at f0 f1 f2 f3 f4 f5 f6 f7 f8 f9
  obtain ⟨k0, e0, d0, w0⟩ := DataW.trod_int Tryz.underlying35 f0
  obtain ⟨k1, e1, d1, w1⟩ := DataW.trod_int Tryz.underlying36 f1
  obtain ⟨k2, e2, d2, w2⟩ := DataW.trod_int Tryz.underlying3 f2
  obtain ⟨v3, e3, E3⟩ := open_ar f3
  obtain ⟨v4, e4, E4⟩ := open_ar f4
  obtain ⟨k5, e5, d5, w5⟩ := DataW.trod_int Tryz.underlying3 f5
  obtain ⟨k6, e6, d6, w6⟩ := DataW.trod_int Tryz.underlying3 f6
  obtain ⟨k7, e7, d7, w7⟩ := DataW.trod_int Tryz.underlying3 f7
  obtain ⟨k8, e8, d8⟩ := DataW.trod_bool Tryz.underlying4 f8
  obtain ⟨p9, c9, l9, e9, R9, E9⟩ := open_args f9
  cases e0; cases e1; cases e2; cases e3; cases e4; cases e5; cases e6; cases e7; cases e8; cases e9
  subst d0 d1 d2 d5 d6 d7 d8
  obtain ⟨hA1, hA2⟩ := E3
  obtain ⟨hB1, hB2⟩ := E4
  have hao : ∀ a ∈ l9, ArOK a := fun a ha => by
    rcases E9 with ⟨_, rfl⟩ | ⟨ds, rest, _, hl, hd⟩
    · cases ha
    · obtain ⟨i, hi⟩ := List.mem_iff_getElem?.1 ha
      obtain ⟨d, _, hE⟩ := hd i a hi
      exact hE.2
  refine ⟨⟨⟨k0, k1, k2, v3, v4, k5, k6, k7, k8, l9⟩, p9, c9⟩, rfl, ⟨y9.1, ?_, sld E9⟩, ⟨p9, c9, rfl, R9.1, R9.2⟩, hA2, hB2, hao, bounds_i64 w2, bounds_i64 w5, bounds_i64 w6, bounds_i64 w7, bounds_i64 w0, bounds_i64 w1⟩
  show DataW.agg [_, _, _, y3.1, y4.1, _, _, _, _, y9.1] = _
  rw [hA1, hB1]
theorem len_iwC (q : Iw) : (iwC q).length = 12 := rfl
theorem open_code {fuel : Nat} {cs : List Value} {x : DataW H × List MemPlace} (h : DataW.trod enc Tryz.prog w base spare held fuel TIns cs = some x) :
    ∃ p cap, ∃ l : List Iw, cs = [.slice p l.length cap] ∧ RowV iwC 12 w p cap l ∧ (x.1 = .nil ∧ l = [] ∨ ∃ ds rest, x.1 = .slice ds rest ∧ ds.length = l.length ∧ ∀ (i : Nat) (a : Iw), l[i]? = some a → ∃ d, ds[i]? = some d ∧ IwE w a d) :=
  open_sl (E := IwE w) Tryz.underlying30 cs_ins (by decide) len_iwC (fun _ _ _ h => open_iw h) h
/-- How great an instruction that came in is. -/
theorem iw_sized {q : Iw} {d : DataW H} (hD : IwD q d) (h : (d.weights Tryz.prog TIn).all (· ≤ reachBytes) = true) : q.x.args.length * 16 ≤ reachBytes := by
  obtain ⟨ad, rfl, hs⟩ := hD
  rcases hs with ⟨rfl, h0⟩ | ⟨ds, rest, rfl, hl⟩
  · rw [h0]; simp
  · rw [← hl]
    refine (sl_sized Tryz.underlying41 by_arg (rest := rest) ?_).1
    rw [List.all_eq_true] at h ⊢
    intro x hx
    refine h x ?_
    have hu := Tryz.underlying43
    simp only [DataW.weights, hu]
    simp only [DataW.weightsEach, List.map_cons, List.mem_append, List.map_nil]
    simp [hx]
/-- Code that came in: each instruction is as Check wants it, and small enough for Reads. -/
theorem code_sized {l : List Iw} {d : DataW H} (hd : d = .nil ∧ l = [] ∨ ∃ ds rest, d = .slice ds rest ∧ ds.length = l.length ∧ ∀ (i : Nat) (a : Iw), l[i]? = some a → ∃ d, ds[i]? = some d ∧ IwE w a d) (h : (d.weights Tryz.prog TIns).all (· ≤ reachBytes) = true) :
    l.length * 112 ≤ reachBytes ∧ ∀ q ∈ l, IwG w q := by
  rcases hd with ⟨rfl, rfl⟩ | ⟨ds, rest, rfl, hl, he⟩
  · exact ⟨by simp, fun q hq => (by cases hq)⟩
  obtain ⟨h1, h2⟩ := sl_sized Tryz.underlying30 by_ins h
  refine ⟨hl ▸ h1, fun q hq => ?_⟩
  obtain ⟨i, hi⟩ := List.mem_iff_getElem?.1 hq
  obtain ⟨d, hd, hE⟩ := he i q hi
  exact ⟨⟨hE.a, hE.b, hE.off, hE.ar, hE.ao, by have := iw_sized hE.dat (h2 d (List.mem_of_getElem? hd)); simp only [reachBytes] at this; omega⟩, by have := iw_sized hE.dat (h2 d (List.mem_of_getElem? hd)); simp only [reachBytes] at this; omega, hE.d0, hE.n0⟩
end
end Go.Proofs.YtaaphipbkpjkjaaGreatDoor
namespace Go.Proofs.YtaaphipbkpjkjaaGreatDoor
open Go.ChangeShapes Go.WideShapes Go.ChangeAt Go.RowKit
set_option linter.unusedVariables false
set_option linter.unusedSimpArgs false
set_option maxRecDepth 100000
section
variable {H : Type}
instance : Inhabited Slt := ⟨⟨0, 0⟩⟩
instance : Inhabited Rl := ⟨⟨0, 0, 0⟩⟩
instance : Inhabited Fg := ⟨⟨⟨⟨#[]⟩, 0, 0, false, none, 0, 0, none, 0, 0⟩, [], []⟩⟩
instance : Inhabited Og := ⟨⟨⟨⟨#[]⟩, 0, 0, none, 0, 0, none, 0, 0⟩, [], []⟩⟩
/-- A slice's reading, by its elements. -/
def SlE {α : Type} (l : List α) (E : α → DataW H → Prop) (d : DataW H) : Prop := (d = .nil ∧ l = []) ∨ ∃ ds rest, d = .slice ds rest ∧ ds.length = l.length ∧ ∀ (i : Nat) (a : α), l[i]? = some a → ∃ d, ds[i]? = some d ∧ E a d
def TrueE {α : Type} (a : α) (d : DataW H) : Prop := True
structure FgE (w : World) (q : Fg) (d : DataW H) : Prop where
  dat : ∃ sd cd, d = .agg [.lit (.string q.f.nm.data.toList), .lit (.int .i64 q.f.pr), .lit (.int .i64 q.f.tp), .lit (.bool q.f.gv), sd, cd] ∧ SlE q.sls TrueE sd ∧ SlE q.code (IwE w) cd
  nm : q.f.nm.size ≤ maxLen
  sn : q.f.sn = q.sls.length
  cn : q.f.cn = q.code.length
  sl : RowV slC 2 w q.f.sp q.f.sc q.sls
  cr : RowV iwC 12 w q.f.cp q.f.cc q.code
  pr : I64' q.f.pr
  tp : I64' q.f.tp
  ss : ∀ s ∈ q.sls, I64' s.size ∧ I64' s.align
structure OgE (w : World) (q : Og) (d : DataW H) : Prop where
  dat : ∃ bd rd, d = .agg [.lit (.string q.o.nm.data.toList), .lit (.int .i64 q.o.size), .lit (.int .i64 q.o.align), .agg [bd, rd]] ∧ SlE q.bs TrueE bd ∧ SlE q.rls TrueE rd
  nm : q.o.nm.size ≤ maxLen
  bn : q.o.bn = q.bs.length
  rn : q.o.rn = q.rls.length
  br : RowV byC 1 w q.o.bp q.o.bc q.bs
  rr : RowV rlC 3 w q.o.rp q.o.rc q.rls
  si : I64' q.o.size
  al : I64' q.o.align
/-- What is asked of a function that came in, and of a program. -/
structure FgG (w : World) (q : Fg) : Prop where
  ok : FgOK w q
  ins : ∀ i ∈ q.code, IwG w i
  cl : q.code.length ≤ 100000000000000
  pr : I64' q.f.pr
  tp : I64' q.f.tp
structure PgG (w : World) (x : Pg) (a : Pw) : Prop where
  ok : PgOK w x a
  fs : ∀ q ∈ x.fns, FgG w q
  fl : x.fns.length ≤ 100000000000000
  mn : I64' x.mn
end
theorem ce_bytes : Tryz.prog.cellsOf 67 = 1 := by kernel_rfl
theorem by_byte : Tryz.prog.bytesOf 5 = 1 := by kernel_rfl
section
variable {H : Type} {enc : TypeId × Value → H} {w : World} {base : Nat} {spare : Nat → Bool} {held : Bool}
theorem open_slot {fuel : Nat} {cs : List Value} {x : DataW H × List MemPlace} (h : DataW.trod enc Tryz.prog w base spare held fuel 94 cs = some x) :
    ∃ a : Slt, cs = slC a ∧ (I64' a.size ∧ I64' a.align) := by
  obtain ⟨xs, n, rfl, rfl, hl, hlen, hf⟩ := DataW.trod_struct Tryz.underlying94 h
  rw [cs_slot] at hl
  have f0 : DataW.trod enc Tryz.prog w base spare held n 3 ((cs.drop 0).take (Tryz.prog.cellsOf 3)) = xs[0]? := hf 0 _ rfl
  rw [ce_int] at f0
  have f1 : DataW.trod enc Tryz.prog w base spare held n 3 ((cs.drop 1).take (Tryz.prog.cellsOf 3)) = xs[1]? := hf 1 _ rfl
  rw [ce_int] at f1
  obtain ⟨z0, z1, rfl⟩ := li2 hl
  obtain ⟨y0, y1, rfl⟩ := li2 hlen
  simp only [List.drop_zero, List.drop_succ_cons, List.take_succ_cons, List.take_zero, List.getElem?_cons_zero, List.getElem?_cons_succ] at f0 f1
  obtain ⟨k0, e0, d0, w0⟩ := DataW.trod_int Tryz.underlying3 f0
  obtain ⟨k1, e1, d1, w1⟩ := DataW.trod_int Tryz.underlying3 f1
  cases e0; cases e1
  subst d0 d1
  exact ⟨⟨k0, k1⟩, rfl, bounds_i64 w0, bounds_i64 w1⟩
theorem open_rel {fuel : Nat} {cs : List Value} {x : DataW H × List MemPlace} (h : DataW.trod enc Tryz.prog w base spare held fuel 78 cs = some x) :
    ∃ a : Rl, cs = rlC a ∧ True := by
  obtain ⟨xs, n, rfl, rfl, hl, hlen, hf⟩ := DataW.trod_struct Tryz.underlying78 h
  rw [cs_rel] at hl
  have f0 : DataW.trod enc Tryz.prog w base spare held n 3 ((cs.drop 0).take (Tryz.prog.cellsOf 3)) = xs[0]? := hf 0 _ rfl
  rw [ce_int] at f0
  have f1 : DataW.trod enc Tryz.prog w base spare held n 3 ((cs.drop 1).take (Tryz.prog.cellsOf 3)) = xs[1]? := hf 1 _ rfl
  rw [ce_int] at f1
  have f2 : DataW.trod enc Tryz.prog w base spare held n 3 ((cs.drop 2).take (Tryz.prog.cellsOf 3)) = xs[2]? := hf 2 _ rfl
  rw [ce_int] at f2
  obtain ⟨z0, z1, z2, rfl⟩ := li3 hl
  obtain ⟨y0, y1, y2, rfl⟩ := li3 hlen
  simp only [List.drop_zero, List.drop_succ_cons, List.take_succ_cons, List.take_zero, List.getElem?_cons_zero, List.getElem?_cons_succ] at f0 f1 f2
  obtain ⟨k0, e0, d0, w0⟩ := DataW.trod_int Tryz.underlying3 f0
  obtain ⟨k1, e1, d1, w1⟩ := DataW.trod_int Tryz.underlying3 f1
  obtain ⟨k2, e2, d2, w2⟩ := DataW.trod_int Tryz.underlying3 f2
  cases e0; cases e1; cases e2
  subst d0 d1 d2
  exact ⟨⟨k0, k1, k2⟩, rfl, trivial⟩
theorem open_byte {fuel : Nat} {cs : List Value} {x : DataW H × List MemPlace} (h : DataW.trod enc Tryz.prog w base spare held fuel 5 cs = some x) :
    ∃ a : UInt8, cs = byC a ∧ True := by
  obtain ⟨n, e0, d0, w0⟩ := DataW.trod_int Tryz.underlying5 h
  have hb := bounds_u8 w0
  refine ⟨UInt8.ofNat n.toNat, ?_, trivial⟩
  rw [e0]
  have : ((UInt8.ofNat n.toNat).toNat : Int) = n := by
    simp only [UInt8.toNat_ofNat']
    have h1 : n.toNat < 256 := by omega
    rw [Nat.mod_eq_of_lt h1]
    omega
  show [Value.int .u8 n] = [Value.int .u8 _]
  rw [this]
theorem open_slots {fuel : Nat} {cs : List Value} {x : DataW H × List MemPlace} (h : DataW.trod enc Tryz.prog w base spare held fuel 29 cs = some x) :
    ∃ p cap, ∃ l : List Slt, cs = [.slice p l.length cap] ∧ RowV slC 2 w p cap l ∧ SlE l (fun (a : Slt) _ => I64' a.size ∧ I64' a.align) x.1 :=
  open_sl (E := fun (a : Slt) _ => I64' a.size ∧ I64' a.align) Tryz.underlying29 cs_slot (by decide) (fun a => rfl) (fun _ _ _ h => open_slot h) h
theorem open_relocs {fuel : Nat} {cs : List Value} {x : DataW H × List MemPlace} (h : DataW.trod enc Tryz.prog w base spare held fuel 68 cs = some x) :
    ∃ p cap, ∃ l : List Rl, cs = [.slice p l.length cap] ∧ RowV rlC 3 w p cap l ∧ SlE l TrueE x.1 :=
  open_sl (E := TrueE) Tryz.underlying68 cs_rel (by decide) (fun a => rfl) (fun _ _ _ h => open_rel h) h
theorem ce_byte1 : Tryz.prog.cellsOf 5 = 1 := by kernel_rfl
theorem open_bytes {fuel : Nat} {cs : List Value} {x : DataW H × List MemPlace} (h : DataW.trod enc Tryz.prog w base spare held fuel 67 cs = some x) :
    ∃ p cap, ∃ l : List UInt8, cs = [.slice p l.length cap] ∧ RowV byC 1 w p cap l ∧ SlE l TrueE x.1 :=
  open_sl (E := TrueE) Tryz.underlying67 ce_byte1 (by decide) (fun a => rfl) (fun _ _ _ h => open_byte h) h
theorem SlE.all {α : Type} {l : List α} {E : α → DataW H → Prop} {d : DataW H} (h : SlE l E d) {P : α → Prop} (hE : ∀ a d, E a d → P a) : ∀ a ∈ l, P a := fun a ha => by
  rcases h with ⟨_, rfl⟩ | ⟨ds, rest, _, _, hd⟩
  · cases ha
  · obtain ⟨i, hi⟩ := List.mem_iff_getElem?.1 ha
    obtain ⟨d, _, hE'⟩ := hd i a hi
    exact hE a d hE'
theorem SlE.imp {α : Type} {l : List α} {E F : α → DataW H → Prop} {d : DataW H} (h : SlE l E d) (hE : ∀ a d, E a d → F a d) : SlE l F d := by
  rcases h with h | ⟨ds, rest, h1, h2, h3⟩
  · exact Or.inl h
  · exact Or.inr ⟨ds, rest, h1, h2, fun i a ha => by obtain ⟨d, hd, he⟩ := h3 i a ha; exact ⟨d, hd, hE _ _ he⟩⟩
theorem open_func {fuel : Nat} {cs : List Value} {x : DataW H × List MemPlace} (h : DataW.trod enc Tryz.prog w base spare held fuel 32 cs = some x) :
    ∃ q : Fg, cs = fgC q ∧ FgE w q x.1 := by
  obtain ⟨xs, n, rfl, rfl, hl, hlen, hf⟩ := DataW.trod_struct Tryz.underlying32 h
  rw [cs_func] at hl
  have f0 : DataW.trod enc Tryz.prog w base spare held n 9 ((cs.drop 0).take (Tryz.prog.cellsOf 9)) = xs[0]? := hf 0 _ rfl
  rw [ce_str] at f0
  have f1 : DataW.trod enc Tryz.prog w base spare held n 3 ((cs.drop 1).take (Tryz.prog.cellsOf 3)) = xs[1]? := hf 1 _ rfl
  rw [ce_int] at f1
  have f2 : DataW.trod enc Tryz.prog w base spare held n 3 ((cs.drop 2).take (Tryz.prog.cellsOf 3)) = xs[2]? := hf 2 _ rfl
  rw [ce_int] at f2
  have f3 : DataW.trod enc Tryz.prog w base spare held n 4 ((cs.drop 3).take (Tryz.prog.cellsOf 4)) = xs[3]? := hf 3 _ rfl
  rw [ce_bool] at f3
  have f4 : DataW.trod enc Tryz.prog w base spare held n 29 ((cs.drop 4).take (Tryz.prog.cellsOf 29)) = xs[4]? := hf 4 _ rfl
  rw [ce_slots] at f4
  have f5 : DataW.trod enc Tryz.prog w base spare held n TIns ((cs.drop 5).take (Tryz.prog.cellsOf TIns)) = xs[5]? := hf 5 _ rfl
  rw [ce_code] at f5
  obtain ⟨z0, z1, z2, z3, z4, z5, rfl⟩ := li6 hl
  obtain ⟨y0, y1, y2, y3, y4, y5, rfl⟩ := li6 hlen
  simp only [List.drop_zero, List.drop_succ_cons, List.take_succ_cons, List.take_zero, List.getElem?_cons_zero, List.getElem?_cons_succ] at f0 f1 f2 f3 f4 f5
  obtain ⟨k0, e0, d0, w0⟩ := DataW.trod_string Tryz.underlying9 f0
  obtain ⟨k1, e1, d1, w1⟩ := DataW.trod_int Tryz.underlying3 f1
  obtain ⟨k2, e2, d2, w2⟩ := DataW.trod_int Tryz.underlying3 f2
  obtain ⟨k3, e3, d3⟩ := DataW.trod_bool Tryz.underlying4 f3
  obtain ⟨p4, c4, l4, e4, R4, E4⟩ := open_slots f4
  obtain ⟨p5, c5, l5, e5, R5, E5⟩ := open_code f5
  cases e0; cases e1; cases e2; cases e3; cases e4; cases e5
  subst d0 d1 d2 d3
  exact ⟨⟨⟨k0, k1, k2, k3, p4, l4.length, c4, p5, l5.length, c5⟩, l4, l5⟩, rfl, ⟨y4.1, y5.1, rfl, SlE.imp E4 (fun _ _ _ => trivial), E5⟩, w0, rfl, rfl, R4, R5, bounds_i64 w1, bounds_i64 w2, SlE.all E4 (fun _ _ h => h)⟩
theorem open_dat {fuel : Nat} {cs : List Value} {x : DataW H × List MemPlace} (h : DataW.trod enc Tryz.prog w base spare held fuel 70 cs = some x) :
    ∃ q : Option Addr × List UInt8 × Nat × Option Addr × List Rl × Nat, cs = [.slice q.1 q.2.1.length q.2.2.1, .slice q.2.2.2.1 q.2.2.2.2.1.length q.2.2.2.2.2] ∧ (RowV byC 1 w q.1 q.2.2.1 q.2.1 ∧ RowV rlC 3 w q.2.2.2.1 q.2.2.2.2.2 q.2.2.2.2.1 ∧ ∃ bd rd, x.1 = .agg [bd, rd] ∧ SlE q.2.1 TrueE bd ∧ SlE q.2.2.2.2.1 TrueE rd) := by
  obtain ⟨xs, n, rfl, rfl, hl, hlen, hf⟩ := DataW.trod_struct Tryz.underlying70 h
  rw [cs_dat] at hl
  have f0 : DataW.trod enc Tryz.prog w base spare held n 67 ((cs.drop 0).take (Tryz.prog.cellsOf 67)) = xs[0]? := hf 0 _ rfl
  rw [ce_bytes] at f0
  have f1 : DataW.trod enc Tryz.prog w base spare held n 68 ((cs.drop 1).take (Tryz.prog.cellsOf 68)) = xs[1]? := hf 1 _ rfl
  rw [ce_relocs] at f1
  obtain ⟨z0, z1, rfl⟩ := li2 hl
  obtain ⟨y0, y1, rfl⟩ := li2 hlen
  simp only [List.drop_zero, List.drop_succ_cons, List.take_succ_cons, List.take_zero, List.getElem?_cons_zero, List.getElem?_cons_succ] at f0 f1
  obtain ⟨p0, c0, l0, e0, R0, E0⟩ := open_bytes f0
  obtain ⟨p1, c1, l1, e1, R1, E1⟩ := open_relocs f1
  cases e0; cases e1
  exact ⟨(p0, l0, c0, p1, l1, c1), rfl, R0, R1, y0.1, y1.1, rfl, E0, E1⟩
theorem open_obj {fuel : Nat} {cs : List Value} {x : DataW H × List MemPlace} (h : DataW.trod enc Tryz.prog w base spare held fuel 72 cs = some x) :
    ∃ q : Og, cs = ogC q ∧ OgE w q x.1 := by
  obtain ⟨xs, n, rfl, rfl, hl, hlen, hf⟩ := DataW.trod_struct Tryz.underlying72 h
  rw [cs_obj] at hl
  have f0 : DataW.trod enc Tryz.prog w base spare held n 9 ((cs.drop 0).take (Tryz.prog.cellsOf 9)) = xs[0]? := hf 0 _ rfl
  rw [ce_str] at f0
  have f1 : DataW.trod enc Tryz.prog w base spare held n 3 ((cs.drop 1).take (Tryz.prog.cellsOf 3)) = xs[1]? := hf 1 _ rfl
  rw [ce_int] at f1
  have f2 : DataW.trod enc Tryz.prog w base spare held n 3 ((cs.drop 2).take (Tryz.prog.cellsOf 3)) = xs[2]? := hf 2 _ rfl
  rw [ce_int] at f2
  have f3 : DataW.trod enc Tryz.prog w base spare held n 70 ((cs.drop 3).take (Tryz.prog.cellsOf 70)) = xs[3]? := hf 3 _ rfl
  rw [ce_data] at f3
  obtain ⟨z0, z1, z2, z3, z4, rfl⟩ := li5 hl
  obtain ⟨y0, y1, y2, y3, rfl⟩ := li4 hlen
  simp only [List.drop_zero, List.drop_succ_cons, List.take_succ_cons, List.take_zero, List.getElem?_cons_zero, List.getElem?_cons_succ] at f0 f1 f2 f3
  obtain ⟨k0, e0, d0, w0⟩ := DataW.trod_string Tryz.underlying9 f0
  obtain ⟨k1, e1, d1, w1⟩ := DataW.trod_int Tryz.underlying3 f1
  obtain ⟨k2, e2, d2, w2⟩ := DataW.trod_int Tryz.underlying3 f2
  obtain ⟨u3, e3, E3⟩ := open_dat f3
  cases e0; cases e1; cases e2; cases e3
  subst d0 d1 d2
  obtain ⟨bp, bl, bc, rp, rl, rc⟩ := u3
  obtain ⟨R1, R2, bd, rd, hx, hb, hr⟩ := E3
  exact ⟨⟨⟨k0, k1, k2, bp, bl.length, bc, rp, rl.length, rc⟩, bl, rl⟩, rfl, ⟨bd, rd, by show DataW.agg [_, _, _, y3.1] = _; rw [hx], hb, hr⟩, w0, rfl, rfl, R1, R2, bounds_i64 w1, bounds_i64 w2⟩
theorem open_fns {fuel : Nat} {cs : List Value} {x : DataW H × List MemPlace} (h : DataW.trod enc Tryz.prog w base spare held fuel 23 cs = some x) :
    ∃ p cap, ∃ l : List Fg, cs = [.slice p l.length cap] ∧ RowV fgC 6 w p cap l ∧ SlE l (FgE w) x.1 :=
  open_sl (E := FgE w) Tryz.underlying23 cs_func (by decide) (fun a => rfl) (fun _ _ _ h => open_func h) h
theorem open_objs {fuel : Nat} {cs : List Value} {x : DataW H × List MemPlace} (h : DataW.trod enc Tryz.prog w base spare held fuel 22 cs = some x) :
    ∃ p cap, ∃ l : List Og, cs = [.slice p l.length cap] ∧ RowV ogC 5 w p cap l ∧ SlE l (OgE w) x.1 :=
  open_sl (E := OgE w) Tryz.underlying22 cs_obj (by decide) (fun a => rfl) (fun _ _ _ h => open_obj h) h
theorem open_prog {fuel : Nat} {cs : List Value} {x : DataW H × List MemPlace} (h : DataW.trod enc Tryz.prog w base spare held fuel 25 cs = some x) :
    ∃ (y : Pg) (a : Pw), cs = [.slice a.op y.obs.length a.oc, .slice a.fp y.fns.length a.fc, .int .i64 y.mn] ∧ RowV ogC 5 w a.op a.oc y.obs ∧ RowV fgC 6 w a.fp a.fc y.fns ∧ I64' y.mn ∧ ∃ od fd, x.1 = .agg [od, fd, .lit (.int .i64 y.mn)] ∧ SlE y.obs (OgE w) od ∧ SlE y.fns (FgE w) fd := by
  obtain ⟨xs, n, rfl, rfl, hl, hlen, hf⟩ := DataW.trod_struct Tryz.underlying25 h
  rw [cs_prog] at hl
  have f0 : DataW.trod enc Tryz.prog w base spare held n 22 ((cs.drop 0).take (Tryz.prog.cellsOf 22)) = xs[0]? := hf 0 _ rfl
  rw [ce_objs] at f0
  have f1 : DataW.trod enc Tryz.prog w base spare held n 23 ((cs.drop 1).take (Tryz.prog.cellsOf 23)) = xs[1]? := hf 1 _ rfl
  rw [ce_fns] at f1
  have f2 : DataW.trod enc Tryz.prog w base spare held n 3 ((cs.drop 2).take (Tryz.prog.cellsOf 3)) = xs[2]? := hf 2 _ rfl
  rw [ce_int] at f2
  obtain ⟨z0, z1, z2, rfl⟩ := li3 hl
  obtain ⟨y0, y1, y2, rfl⟩ := li3 hlen
  simp only [List.drop_zero, List.drop_succ_cons, List.take_succ_cons, List.take_zero, List.getElem?_cons_zero, List.getElem?_cons_succ] at f0 f1 f2
  obtain ⟨p0, c0, l0, e0, R0, E0⟩ := open_objs f0
  obtain ⟨p1, c1, l1, e1, R1, E1⟩ := open_fns f1
  obtain ⟨k2, e2, d2, w2⟩ := DataW.trod_int Tryz.underlying3 f2
  cases e0; cases e1; cases e2
  subst d2
  exact ⟨⟨l0, l1, k2⟩, ⟨p0, c0, p1, c1⟩, rfl, R0, R1, bounds_i64 w2, y0.1, y1.1, rfl, E0, E1⟩
theorem all_part {t : TypeId} {l : List (DataW H)} {e : TypeId} {d : DataW H} (hd : ∀ x ∈ d.weights Tryz.prog e, x ∈ (DataW.agg l).weights Tryz.prog t) (h : ((DataW.agg l).weights Tryz.prog t).all (· ≤ reachBytes) = true) : (d.weights Tryz.prog e).all (· ≤ reachBytes) = true := by
  rw [List.all_eq_true] at h ⊢
  exact fun x hx => h x (hd x hx)
theorem slE_sized {α : Type} {l : List α} {E : α → DataW H → Prop} {d : DataW H} {t e : TypeId} {b : Nat} (ht : Tryz.prog.underlying t = some (.slice e)) (hb : Tryz.prog.bytesOf e = b) (hd : SlE l E d) (h : (d.weights Tryz.prog t).all (· ≤ reachBytes) = true) :
    l.length * b ≤ reachBytes ∧ ∀ a ∈ l, ∃ d, E a d ∧ (d.weights Tryz.prog e).all (· ≤ reachBytes) = true := by
  rcases hd with ⟨rfl, rfl⟩ | ⟨ds, rest, rfl, hl, he⟩
  · exact ⟨by simp, fun q hq => (by cases hq)⟩
  obtain ⟨h1, h2⟩ := sl_sized ht hb h
  refine ⟨hl ▸ h1, fun q hq => ?_⟩
  obtain ⟨i, hi⟩ := List.mem_iff_getElem?.1 hq
  obtain ⟨d, hd, hE⟩ := he i q hi
  exact ⟨d, hE, h2 d (List.mem_of_getElem? hd)⟩
theorem func_sized {q : Fg} {d : DataW H} (hE : FgE w q d) (h : (d.weights Tryz.prog 32).all (· ≤ reachBytes) = true) : FgG w q := by
  obtain ⟨sd, cd, rfl, hs, hc⟩ := hE.dat
  have hu := Tryz.underlying32
  have h1 := all_part (d := sd) (e := 29) (fun x hx => by
    simp only [DataW.weights, hu]
    simp only [DataW.weightsEach, List.map_cons, List.mem_append, List.map_nil]
    simp [hx]) h
  have h2 := all_part (d := cd) (e := 30) (fun x hx => by
    simp only [DataW.weights, hu]
    simp only [DataW.weightsEach, List.map_cons, List.mem_append, List.map_nil]
    simp [hx]) h
  have s1 := (slE_sized Tryz.underlying29 by_slot hs h1).1
  obtain ⟨s2, s3⟩ := code_sized hc h2
  simp only [reachBytes] at s1 s2
  exact ⟨⟨hE.nm, hE.sl, hE.sn, by omega, hE.cr, hE.cn, by omega, fun i hi => (s3 i hi).ok⟩, s3, by omega, hE.pr, hE.tp⟩
theorem obj_sized {q : Og} {d : DataW H} (hE : OgE w q d) (h : (d.weights Tryz.prog 72).all (· ≤ reachBytes) = true) : OgOK w q := by
  obtain ⟨bd, rd, rfl, hb, hr⟩ := hE.dat
  have hu := Tryz.underlying72
  have hu2 := Tryz.underlying70
  have h1 := all_part (d := bd) (e := 67) (fun x hx => by
    simp only [DataW.weights, hu]
    simp only [DataW.weightsEach, List.map_cons, List.mem_append, List.map_nil]
    simp only [DataW.weights, hu2]
    simp only [DataW.weightsEach, List.map_cons, List.mem_append, List.map_nil]
    simp [hx]) h
  have h2 := all_part (d := rd) (e := 68) (fun x hx => by
    simp only [DataW.weights, hu]
    simp only [DataW.weightsEach, List.map_cons, List.mem_append, List.map_nil]
    simp only [DataW.weights, hu2]
    simp only [DataW.weightsEach, List.map_cons, List.mem_append, List.map_nil]
    simp [hx]) h
  have s1 := (slE_sized Tryz.underlying67 by_byte hb h1).1
  have s2 := (slE_sized Tryz.underlying68 by_rel hr h2).1
  have s3 := hE.nm
  simp only [reachBytes] at s1 s2
  unfold maxLen at s3
  exact ⟨by omega, hE.bn, hE.rn, by omega, by omega, hE.br, hE.rr⟩
theorem prog_arg {W0 : World} {cs : Array Value} {d : DataW H} {ps : List MemPlace} (h : DataW.Trod enc Tryz.prog W0 base spare held 25 (.agg cs) d ps) (hcs : (Value.agg cs).cells = cs) (hw : (d.weights Tryz.prog 25).all (· ≤ reachBytes) = true) :
    ∃ (x : Pg) (a : Pw), Value.agg cs = pgV x a ∧ PgG W0 x a := by
  obtain ⟨n, hn⟩ := h
  obtain ⟨y, a, e, hO, hF, hm, od, fd, hx, ho, hf⟩ := open_prog hn
  simp only at hx
  subst hx
  have hu := Tryz.underlying25
  have h1 := all_part (d := od) (e := 22) (fun x hx => by
    simp only [DataW.weights, hu]
    simp only [DataW.weightsEach, List.map_cons, List.mem_append, List.map_nil]
    simp [hx]) hw
  have h2 := all_part (d := fd) (e := 23) (fun x hx => by
    simp only [DataW.weights, hu]
    simp only [DataW.weightsEach, List.map_cons, List.mem_append, List.map_nil]
    simp [hx]) hw
  obtain ⟨s1, s2⟩ := slE_sized Tryz.underlying22 by_obj ho h1
  obtain ⟨s3, s4⟩ := slE_sized Tryz.underlying23 by_func hf h2
  simp only [reachBytes] at s1 s3
  have hG : ∀ q ∈ y.fns, FgG W0 q := fun q hq => by obtain ⟨d, hE, hd⟩ := s4 q hq; exact func_sized hE hd
  refine ⟨y, a, ?_, ⟨hO, by omega, fun q hq => by obtain ⟨d, hE, hd⟩ := s2 q hq; exact obj_sized hE hd, hF, by omega, fun q hq => (hG q hq).ok⟩, hG, by omega, hm⟩
  rw [hcs] at e
  show Value.agg cs = Value.agg _
  congr 1
  exact Array.ext' e
end
end Go.Proofs.YtaaphipbkpjkjaaGreatDoor
