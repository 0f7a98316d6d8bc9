/-
  A member lies within its struct or union. (Pure.)
  find: where the member of a name lies.
  Find.
-/
import Derived.Test.YtlcghlfmaohfeaaGreatHLyK
import Derived.Test.YtlcghlfmaohfeaaGreatHLyL
import Derived.Test.YtlcghlfmaohfeaaGreatHLyA
namespace Go.Proofs.YtlcghlfmaohfeaaGreat
open Go.RowKit Go.Maps
set_option linter.unusedVariables false
set_option maxRecDepth 100000
def hitP (mem : List Mb) (nm : ByteArray) (p : Pl) : Bool :=
  !nm.toList.isEmpty && (match mem[p.mem.toNat]? with | some x => x.name.toList == nm.toList | none => false)
/-- The place of a name, and whether there is one. -/
def foundS (mem : List Mb) (nm : ByteArray) (s : Pl × Bool) (l : List Pl) : Pl × Bool := l.foldl (fun s p => if hitP mem nm p then (p, true) else s) s
def pl0 : Pl := ⟨0, 0, 0, 0, 0⟩
theorem foundS_snoc (mem : List Mb) (nm : ByteArray) (s : Pl × Bool) (l : List Pl) (p : Pl) : foundS mem nm s (l ++ [p]) = if hitP mem nm p then (p, true) else foundS mem nm s l := by simp [foundS]
theorem spot_mem' (q : Int) (j : Nat) (x : Mb) (e : Ex) : (spotP q j x e).mem = j := by unfold spotP; split <;> rfl
section
variable {B : Nat} {w : World} {b mb : Nat} {v : Value} {rs : List (Rw × Value)} {ps : List (Value × Value)} {M : Int → Ex}
theorem FnB.turned {nb gb ab fb : Nat} {nm : ByteArray} {row : Array Value} {a : Pl} {f : Bool} {w w' : World} {S : Nat → Prop} (h : FnB nb gb ab fb nm row a f w) (ht : Turned w w' S) (h1 : ¬ S nb) (h2 : ¬ S gb) (h3 : ¬ S ab) (h4 : ¬ S fb) : FnB nb gb ab fb nm row a f w' :=
  ⟨blk_t h.nm ht h1, blk_t h.row ht h2, blk_t h.at' ht h3, blk_t h.found ht h4⟩
theorem FnB.below {nb gb ab fb : Nat} {nm : ByteArray} {row : Array Value} {a : Pl} {f : Bool} {w w' : World} (h : FnB nb gb ab fb nm row a f w) (ht : Below w.heap.size w w') : FnB nb gb ab fb nm row a f w' :=
  h.turned (Turned.of_below ht (fun _ => False)) id id id id
theorem tag_ne {w : World} {g k : Nat} {c d : Array Value} {t u : TypeId} (h1 : w.heap[g]? = some (.cells c t (0, 0))) (h2 : w.heap[k]? = some (.cells d u (0, 0))) (htu : t ≠ u) : g ≠ k := by
  rintro rfl
  rw [h1] at h2
  injection h2 with q1
  injection q1 with _ q2
  exact htu q2
/-- lay, with the closure of find. -/
theorem lay_found {w0 : World} {rb m nb gb ab fb : Nat} {nm : ByteArray} {wE : World} (hRU : RU w0 b rb m rs M wE) (hw0 : w0.heap.size ≤ m) (hrm : rb ≠ m) (r : Rw) {sp : Option Addr} {sc bs : Nat} (hown : wE.ownsRow bs TM 3 (.slice sp r.mem.length sc) r.mem.length (memCells r.mem)) (hn : r.mem.length ≤ 64)
    (hmem : ∀ x ∈ r.mem, MC w0 b rb m rs M x.type ∧ ExOK (M x.type) ∧ BitsOK x (M x.type)) (hal : w0.heap.size ≤ ab) (hfl : w0.heap.size ≤ fb)
    (hB : FnB nb gb ab fb nm #[.int .i64 r.kind, .int .i64 r.elem, .int .i64 r.len, .string r.tag, .slice sp r.mem.length sc, .bool r.done] pl0 false wE) :
    Calls Tryz.prog 31 #[.pointer (some ⟨rb, 0, none⟩), .agg #[.int .i64 r.kind, .int .i64 r.elem, .int .i64 r.len, .string r.tag, .slice sp r.mem.length sc, .bool r.done], .func (.func 68) #[] #[.pointer (some ⟨nb, 0, none⟩), .pointer (some ⟨gb, 0, none⟩), .pointer (some ⟨ab, 0, none⟩), .pointer (some ⟨fb, 0, none⟩)]] wE
      fun e w' => e = .returned (exV (endP (layS (r.kind == 16) M ls0 r.mem))) ∧ RU w0 b rb m rs M w' ∧ FnB nb gb ab fb nm #[.int .i64 r.kind, .int .i64 r.elem, .int .i64 r.len, .string r.tag, .slice sp r.mem.length sc, .bool r.done] (foundS r.mem nm (pl0, false) (placesS (r.kind == 16) M ls0 0 r.mem)).1 (foundS r.mem nm (pl0, false) (placesS (r.kind == 16) M ls0 0 r.mem)).2 w' ∧ Turned wE w' (fun k => k = m ∨ k = ab ∨ k = fb) := by
  have hm := hRU.lt
  have hmn : ∀ {g : Nat} {c : Array Value} {t : TypeId}, wE.heap[g]? = some (.cells c t (0, 0)) → g ≠ m := by
    intro g c t hg
    obtain ⟨es, ck, h1, _⟩ := hRU.kn
    rintro rfl
    rw [hg] at h1; cases h1
  have n1 := hmn hB.nm
  have n2 := hmn hB.row
  have n3 := hmn hB.at'
  have n4 := hmn hB.found
  have l3 := lt_of_heap hB.at'
  have l4 := lt_of_heap hB.found
  have r3 : ab ≠ rb := tag_ne hB.at' hRU.ru (by decide)
  have r4 : fb ≠ rb := tag_ne hB.found hRU.ru (by decide)
  have hslb : ∀ k, (Value.slice sp r.mem.length sc).ownBlock = some k → k ≠ m ∧ k ≠ ab ∧ k ≠ fb := by
    intro k hk
    obtain ⟨_, cur, hc⟩ := ownsRow_at hown hk
    exact ⟨hmn hc, tag_ne hc hB.at' (by decide), tag_ne hc hB.found (by decide)⟩
  refine (lay_find hRU hw0 hrm r (MemSl.of_own hown) hn hmem (nb := nb) (gb := gb) (ab := ab) (fb := fb) (fun k => k = m ∨ k = ab ∨ k = fb) (.inl rfl) (fun k hk => by omega) ?_
    (fun j W => FnB nb gb ab fb nm #[.int .i64 r.kind, .int .i64 r.elem, .int .i64 r.len, .string r.tag, .slice sp r.mem.length sc, .bool r.done] (foundS r.mem nm (pl0, false) (placesS (r.kind == 16) M ls0 0 (r.mem.take j))).1 (foundS r.mem nm (pl0, false) (placesS (r.kind == 16) M ls0 0 (r.mem.take j))).2 W ∧ W.ownsRow bs TM 3 (.slice sp r.mem.length sc) r.mem.length (memCells r.mem)) ⟨hB, hown⟩ ?_ ?_ ?_).mono ?_
  · rintro g o rfl hg
    have := hslb g (by rfl)
    omega
  · rintro j w1 w2 ⟨h1, h2⟩ ht
    have tx : ∀ {g : Nat} {c : Array Value} {t : TypeId}, w1.heap[g]? = some (.cells c t (0, 0)) → t ≠ TX → g ≠ m → ¬ (g = m ∨ ∃ cs, w1.heap[g]? = some (.cells cs TX (0, 0))) := by
      rintro g c t hg ht1 hgm (e | ⟨cs, e⟩)
      · exact hgm e
      · exact tag_ne hg e ht1 rfl
    refine ⟨h1.turned ht (tx h1.nm (by decide) n1) (tx h1.row (by decide) n2) (tx h1.at' (by decide) n3) (tx h1.found (by decide) n4), ownsRow_turned h2 ht (fun k hk => ?_)⟩
    obtain ⟨_, cur, hc⟩ := ownsRow_at h2 hk
    exact tx hc (by decide) (hslb k hk).1
  · rintro j x w1 hx hb ⟨h1, h2⟩
    refine ⟨?_, h2⟩
    rw [take_snoc hx, placesS_snoc, if_pos hb, List.append_nil]
    exact h1
  · rintro j x w1 hx hb hU ⟨h1, h2⟩ ht
    have hlt : j < r.mem.length := (List.getElem?_eq_some_iff.1 hx).1
    have hsp := spot_mem' (beginP (if (r.kind == 16) = true then 0 else (layS (r.kind == 16) M ls0 (List.take j r.mem)).place) x (M x.type)) j x (M x.type)
    rw [take_snoc hx, placesS_snoc, if_neg hb, List.length_take, Nat.min_eq_left (by omega), Nat.zero_add, foundS_snoc]
    generalize spotP (beginP (if (r.kind == 16) = true then 0 else (layS (r.kind == 16) M ls0 (List.take j r.mem)).place) x (M x.type)) j x (M x.type) = P at *
    have hat : r.mem[P.mem.toNat]? = some x := by rw [hsp, Int.toNat_natCast]; exact hx
    have stay : ∀ w2, Below w1.heap.size w1 w2 → hitP r.mem nm P = false → (FnB nb gb ab fb nm #[.int .i64 r.kind, .int .i64 r.elem, .int .i64 r.len, .string r.tag, .slice sp r.mem.length sc, .bool r.done] (if hitP r.mem nm P = true then (P, true) else foundS r.mem nm (pl0, false) (placesS (r.kind == 16) M ls0 0 (r.mem.take j))).1 (if hitP r.mem nm P = true then (P, true) else foundS r.mem nm (pl0, false) (placesS (r.kind == 16) M ls0 0 (r.mem.take j))).2 w2 ∧ w2.ownsRow bs TM 3 (.slice sp r.mem.length sc) r.mem.length (memCells r.mem)) := by
      intro w2 hb2 hh
      rw [hh, if_neg (by decide)]
      exact ⟨h1.below hb2, ownsRow_turned h2 (Turned.of_below hb2 (fun _ => False)) (fun _ _ h => h.elim)⟩
    cases hnm : (!nm.toList.isEmpty) with
    | false =>
      refine (find1_e P _ h1 hnm).mono ?_
      rintro e w2 ⟨rfl, hb2⟩
      exact ⟨rfl, hU.kept hb2, stay w2 hb2 (by simp [hitP, hnm]), Turned.of_below hb2 _⟩
    | true =>
      cases hne : (x.name.toList == nm.toList) with
      | false =>
        refine (find1_m P r h1 (MemSl.of_own h2) hsp hx hn hnm hne).mono ?_
        rintro e w2 ⟨rfl, hb2⟩
        exact ⟨rfl, hU.kept hb2, stay w2 hb2 (by simp only [hitP, hat, hne, Bool.and_false]), Turned.of_below hb2 _⟩
      | true =>
        have hh : hitP r.mem nm P = true := by simp only [hitP, hat, hne, hnm, Bool.and_self]
        refine (find1_h P r h1 (MemSl.of_own h2) hsp hx hn hnm hne).mono ?_
        rintro e w2 ⟨rfl, hA, hF, ht2⟩
        refine ⟨rfl, hU.turned ht2 (fun k hk => by omega) (by omega) (by omega), ?_, ht2.mono (fun k hk => .inl (.inr hk))⟩
        rw [hh, if_pos rfl]
        refine ⟨⟨blk_t h1.nm ht2 ?_, blk_t h1.row ht2 ?_, hA, hF⟩, ownsRow_turned h2 ht2 (fun k hk => by have := hslb k hk; omega)⟩
        · have q1 := tag_ne h1.nm h1.at' (by decide)
          have q2 := tag_ne h1.nm h1.found (by decide)
          omega
        · have q1 := tag_ne h1.row h1.at' (by decide)
          have q2 := tag_ne h1.row h1.found (by decide)
          omega
  · rintro e w2 ⟨rfl, hU, ⟨hI, _⟩, ht⟩
    rw [List.take_of_length_le (Nat.le_refl _)] at hI
    exact ⟨rfl, hU, hI, ht⟩
theorem turned5 (Y : World) (g : Nat) (x0 x1 x2 x3 x4 : Value) : Turned Y (((((Y.setCell ⟨g, 0, none⟩ x0).setCell ⟨g, 1, none⟩ x1).setCell ⟨g, 2, none⟩ x2).setCell ⟨g, 3, none⟩ x3).setCell ⟨g, 4, none⟩ x4) (fun k => k = g) :=
  ((((Turned.setCell (S := fun k => k = g) Y g 0 x0 rfl).trans (Turned.setCell (S := fun k => k = g) _ _ _ _ rfl) (fun _ _ e => e)).trans (Turned.setCell (S := fun k => k = g) _ _ _ _ rfl) (fun _ _ e => e)).trans (Turned.setCell (S := fun k => k = g) _ _ _ _ rfl) (fun _ _ e => e)).trans (Turned.setCell (S := fun k => k = g) _ _ _ _ rfl) (fun _ _ e => e)
theorem results_two {fn : Func} {p q : Tmp} {ty tz : TypeId} (h : fn.results = #[.cell p ty, .cell q tz]) (tmps : Array Value) (P : Program) (w : World) :
    (results fn tmps).run P w =
      ((asAddr (tmps.getD p undef)).run P w).andThen fun a w₁ => ((loadVar ty a).run P w₁).andThen fun x w₂ => ((asAddr (tmps.getD q undef)).run P w₂).andThen fun c w₃ => ((loadVar tz c).run P w₃).andThen fun y w₄ => .ok (.tuple #[x, y]) w₄ := by
  simp only [results, h]
  simp [Sem.run_bind, Result.andThen]
theorem load_bool {w : World} {g : Nat} {f : Bool} (hg : w.heap[g]? = some (.cells #[.bool f] 4 (0, 0))) : (loadVar 4 ⟨g, 0, none⟩).run Tryz.prog w = .ok (.bool f) w := by
  have hc : w.cell? ⟨g, 0, none⟩ = some (.bool f) := by rw [Lib.cell_of_heap hg]; rfl
  have hu : Tryz.prog.underlying 4 = some .bool := by kernel_rfl
  simp [loadVar, Sem.run_bind, isAgg, run_underlying hu, hc]
set_option maxHeartbeats 8000000 in
theorem find_c {w0 : World} {rb m : Nat} (hRU : RU w0 b rb m rs M w) (hw0 : w0.heap.size ≤ m) (hrm : rb ≠ m) (r : Rw) {sp : Option Addr} {sc bs : Nat} (nm : ByteArray) (hown : w.ownsRow bs TM 3 (.slice sp r.mem.length sc) r.mem.length (memCells r.mem)) (hn : r.mem.length ≤ 64)
    (hmem : ∀ x ∈ r.mem, MC w0 b rb m rs M x.type ∧ ExOK (M x.type) ∧ BitsOK x (M x.type)) :
    Calls Tryz.prog 34 #[.pointer (some ⟨rb, 0, none⟩), .agg #[.int .i64 r.kind, .int .i64 r.elem, .int .i64 r.len, .string r.tag, .slice sp r.mem.length sc, .bool r.done], .string nm] w fun e w' => e = .returned (.tuple #[.agg (plV (foundS r.mem nm (pl0, false) (placesS (r.kind == 16) M ls0 0 r.mem)).1), .bool (foundS r.mem nm (pl0, false) (placesS (r.kind == 16) M ls0 0 r.mem)).2]) ∧ RU w0 b rb m rs M w' ∧ Turned w w' (fun k => k = m) := by
  have hz1 : (w.alloc (.cells #[.int .i64 r.kind, .int .i64 r.elem, .int .i64 r.len, .string r.tag, .slice sp r.mem.length sc, .bool r.done] TR)).heap.size = w.heap.size + 1 := by simp
  have hz2 : ((w.alloc (.cells #[.int .i64 r.kind, .int .i64 r.elem, .int .i64 r.len, .string r.tag, .slice sp r.mem.length sc, .bool r.done] TR)).alloc (.cells #[.string nm] 9)).heap.size = w.heap.size + 1 + 1 := by simp
  have hz3 : (((w.alloc (.cells #[.int .i64 r.kind, .int .i64 r.elem, .int .i64 r.len, .string r.tag, .slice sp r.mem.length sc, .bool r.done] TR)).alloc (.cells #[.string nm] 9)).alloc (.cells #[.int .i64 0, .int .i64 0, .int .i64 0, .int .i64 0, .int .i64 0] TPl)).heap.size = w.heap.size + 1 + 1 + 1 := by simp
  have b1 := below1 w (.cells #[.int .i64 r.kind, .int .i64 r.elem, .int .i64 r.len, .string r.tag, .slice sp r.mem.length sc, .bool r.done] TR)
  have b2 := below1 (w.alloc (.cells #[.int .i64 r.kind, .int .i64 r.elem, .int .i64 r.len, .string r.tag, .slice sp r.mem.length sc, .bool r.done] TR)) (.cells #[.string nm] 9)
  have b3 := below1 ((w.alloc (.cells #[.int .i64 r.kind, .int .i64 r.elem, .int .i64 r.len, .string r.tag, .slice sp r.mem.length sc, .bool r.done] TR)).alloc (.cells #[.string nm] 9)) (.cells #[.int .i64 0, .int .i64 0, .int .i64 0, .int .i64 0, .int .i64 0] TPl)
  have b4 := below1 (((w.alloc (.cells #[.int .i64 r.kind, .int .i64 r.elem, .int .i64 r.len, .string r.tag, .slice sp r.mem.length sc, .bool r.done] TR)).alloc (.cells #[.string nm] 9)).alloc (.cells #[.int .i64 0, .int .i64 0, .int .i64 0, .int .i64 0, .int .i64 0] TPl)) (.cells #[.bool false] 4)
  have g1 := blk_b (blk_b (blk_b (heap_r0 w (.cells #[.int .i64 r.kind, .int .i64 r.elem, .int .i64 r.len, .string r.tag, .slice sp r.mem.length sc, .bool r.done] TR)) b2) b3) b4
  have g2 := blk_b (blk_b (heap_r0 (w.alloc (.cells #[.int .i64 r.kind, .int .i64 r.elem, .int .i64 r.len, .string r.tag, .slice sp r.mem.length sc, .bool r.done] TR)) (.cells #[.string nm] 9)) b3) b4
  have g3 := blk_b (heap_r0 ((w.alloc (.cells #[.int .i64 r.kind, .int .i64 r.elem, .int .i64 r.len, .string r.tag, .slice sp r.mem.length sc, .bool r.done] TR)).alloc (.cells #[.string nm] 9)) (.cells #[.int .i64 0, .int .i64 0, .int .i64 0, .int .i64 0, .int .i64 0] TPl)) b4
  have g4 := heap_r0 (((w.alloc (.cells #[.int .i64 r.kind, .int .i64 r.elem, .int .i64 r.len, .string r.tag, .slice sp r.mem.length sc, .bool r.done] TR)).alloc (.cells #[.string nm] 9)).alloc (.cells #[.int .i64 0, .int .i64 0, .int .i64 0, .int .i64 0, .int .i64 0] TPl)) (.cells #[.bool false] 4)
  rw [hz1] at g2
  rw [hz2] at g3
  rw [hz3] at g4
  have hB : Below w.heap.size w ((((w.alloc (.cells #[.int .i64 r.kind, .int .i64 r.elem, .int .i64 r.len, .string r.tag, .slice sp r.mem.length sc, .bool r.done] TR)).alloc (.cells #[.string nm] 9)).alloc (.cells #[.int .i64 0, .int .i64 0, .int .i64 0, .int .i64 0, .int .i64 0] TPl)).alloc (.cells #[.bool false] 4)) := ((b1.trans (b2.mono (by omega))).trans (b3.mono (by omega))).trans (b4.mono (by omega))
  have HFB : Hid (FnB (w.heap.size + 1) w.heap.size (w.heap.size + 1 + 1) (w.heap.size + 1 + 1 + 1) nm #[.int .i64 r.kind, .int .i64 r.elem, .int .i64 r.len, .string r.tag, .slice sp r.mem.length sc, .bool r.done] pl0 false ((((w.alloc (.cells #[.int .i64 r.kind, .int .i64 r.elem, .int .i64 r.len, .string r.tag, .slice sp r.mem.length sc, .bool r.done] TR)).alloc (.cells #[.string nm] 9)).alloc (.cells #[.int .i64 0, .int .i64 0, .int .i64 0, .int .i64 0, .int .i64 0] TPl)).alloc (.cells #[.bool false] 4))) := ⟨g2, g1, g3, g4⟩
  have HU : Hid (RU w0 b rb m rs M ((((w.alloc (.cells #[.int .i64 r.kind, .int .i64 r.elem, .int .i64 r.len, .string r.tag, .slice sp r.mem.length sc, .bool r.done] TR)).alloc (.cells #[.string nm] 9)).alloc (.cells #[.int .i64 0, .int .i64 0, .int .i64 0, .int .i64 0, .int .i64 0] TPl)).alloc (.cells #[.bool false] 4))) := hRU.kept hB
  have HOW : Hid (((((w.alloc (.cells #[.int .i64 r.kind, .int .i64 r.elem, .int .i64 r.len, .string r.tag, .slice sp r.mem.length sc, .bool r.done] TR)).alloc (.cells #[.string nm] 9)).alloc (.cells #[.int .i64 0, .int .i64 0, .int .i64 0, .int .i64 0, .int .i64 0] TPl)).alloc (.cells #[.bool false] 4)).ownsRow bs TM 3 (.slice sp r.mem.length sc) r.mem.length (memCells r.mem)) := ownsRow_turned hown (Turned.of_below hB (fun _ => False)) (fun _ _ h => h.elim)
  have HT : Hid (Turned w ((((w.alloc (.cells #[.int .i64 r.kind, .int .i64 r.elem, .int .i64 r.len, .string r.tag, .slice sp r.mem.length sc, .bool r.done] TR)).alloc (.cells #[.string nm] 9)).alloc (.cells #[.int .i64 0, .int .i64 0, .int .i64 0, .int .i64 0, .int .i64 0] TPl)).alloc (.cells #[.bool false] 4)) (fun k => k = m)) := Turned.of_below hB _
  have h0 := hRU.below.size
  have hrl := lt_of_heap hRU.ru
  have hml := hRU.lt
  have hmf : ∀ (x y z u : Nat) (Y : World), (Instr.makeFunc (.func 68) #[] #[.pointer (some ⟨x, 0, none⟩), .pointer (some ⟨y, 0, none⟩), .pointer (some ⟨z, 0, none⟩), .pointer (some ⟨u, 0, none⟩)]).run Tryz.prog Y = .ok (.func (.func 68) #[] #[.pointer (some ⟨x, 0, none⟩), .pointer (some ⟨y, 0, none⟩), .pointer (some ⟨z, 0, none⟩), .pointer (some ⟨u, 0, none⟩)]) Y := fun x y z u Y => by kernel_rfl
  have HMEM : Hid (∀ x ∈ r.mem, MC w0 b rb m rs M x.type ∧ ExOK (M x.type) ∧ BitsOK x (M x.type)) := hmem
  have k0 := Lib.cell_of_heap g1 0
  have k1 := Lib.cell_of_heap g1 1
  have k2 := Lib.cell_of_heap g1 2
  have k3 := Lib.cell_of_heap g1 3
  have k4 := Lib.cell_of_heap g1 4
  have k5 := Lib.cell_of_heap g1 5
  simp only [List.getElem?_toArray, List.getElem?_cons_succ, List.getElem?_cons_zero] at k0 k1 k2 k3 k4 k5
  clear hRU hown hmem hz1 hz2 hz3 b1 b2 b3 b4 g1 g2 g3 g4 hB
  go_enter Tryz.func34, Tryz.ntmps34
  go_upto_region 1 with (fail)
  refine (?_ : Code.wp _ _ _ _ ((((w.alloc (.cells #[.int .i64 r.kind, .int .i64 r.elem, .int .i64 r.len, .string r.tag, .slice sp r.mem.length sc, .bool r.done] TR)).alloc (.cells #[.string nm] 9)).alloc (.cells #[.int .i64 0, .int .i64 0, .int .i64 0, .int .i64 0, .int .i64 0] TPl)).alloc (.cells #[.bool false] 4)))
  generalize ((((w.alloc (.cells #[.int .i64 r.kind, .int .i64 r.elem, .int .i64 r.len, .string r.tag, .slice sp r.mem.length sc, .bool r.done] TR)).alloc (.cells #[.string nm] 9)).alloc (.cells #[.int .i64 0, .int .i64 0, .int .i64 0, .int .i64 0, .int .i64 0] TPl)).alloc (.cells #[.bool false] 4)) = W4 at *
  go_wp2_with fail
  refine (lay_found HU.out hw0 hrm r HOW.out hn HMEM.out (by omega) (by omega) HFB.out).mono ?_
  rintro e w5 ⟨rfl, U5, F5, t5⟩
  have HU5 : Hid (RU w0 b rb m rs M w5) := U5
  have HF5 : Hid (_) := F5
  have HT5 : Hid (Turned w w5 (fun k => k = m)) := HT.out.trans t5 (fun i hi e => by omega)
  clear U5 F5 t5 HU HOW HT HFB HMEM k0 k1 k2 k3 k4 k5 hmf
  obtain ⟨P, f, hPf⟩ : ∃ P f, foundS r.mem nm (pl0, false) (placesS (r.kind == 16) M ls0 0 r.mem) = (P, f) := ⟨_, _, rfl⟩
  rw [hPf] at HF5
  have HPF : Hid (_ = _) := hPf
  simp only at HF5
  clear hPf
  have x0 := Lib.cell_of_heap HF5.out.at' 0
  have x1 := Lib.cell_of_heap HF5.out.at' 1
  have x2 := Lib.cell_of_heap HF5.out.at' 2
  have x3 := Lib.cell_of_heap HF5.out.at' 3
  have x4 := Lib.cell_of_heap HF5.out.at' 4
  have y0 := Lib.cell_of_heap HF5.out.found 0
  simp only [List.getElem?_toArray, List.getElem?_cons_succ, List.getElem?_cons_zero] at x0 x1 x2 x3 x4 y0
  have f0 := frozen_of HF5.out.at' 0
  have f1 := frozen_of HF5.out.at' 1
  have f2 := frozen_of HF5.out.at' 2
  have f3 := frozen_of HF5.out.at' 3
  have f4 := frozen_of HF5.out.at' 4
  have h0f := frozen_of HF5.out.found 0
  go_wp2
  go_region
  have T1 := turned5 w5 (w.heap.size + 1 + 1) (.int .i64 P.mem) (.int .i64 P.type) (.int .i64 P.off) (.int .i64 P.bit) (.int .i64 P.bits)
  have A1 := five_set (x0 := .int .i64 P.mem) (x1 := .int .i64 P.type) (x2 := .int .i64 P.off) (x3 := .int .i64 P.bit) (x4 := .int .i64 P.bits) rfl HF5.out.at'
  have F1 := blk_t HF5.out.found T1 (by omega)
  generalize ((((w5.setCell ⟨w.heap.size + 1 + 1, 0, none⟩ (.int .i64 P.mem)).setCell ⟨w.heap.size + 1 + 1, 1, none⟩ (.int .i64 P.type)).setCell ⟨w.heap.size + 1 + 1, 2, none⟩ (.int .i64 P.off)).setCell ⟨w.heap.size + 1 + 1, 3, none⟩ (.int .i64 P.bit)).setCell ⟨w.heap.size + 1 + 1, 4, none⟩ (.int .i64 P.bits) = W6 at *
  have T2 : Turned W6 (W6.setCell ⟨w.heap.size + 1 + 1 + 1, 0, none⟩ (.bool f)) (fun k => k = w.heap.size + 1 + 1 + 1) := Turned.setCell _ _ _ _ rfl
  have A2 := blk_t A1 T2 (by omega)
  have F2 := heap_setCell (j := 0) F1 (.bool f)
  have T3 : Turned w5 (W6.setCell ⟨w.heap.size + 1 + 1 + 1, 0, none⟩ (.bool f)) (fun k => k = w.heap.size + 1 + 1 ∨ k = w.heap.size + 1 + 1 + 1) := (T1.mono (fun _ => Or.inl)).trans T2 (fun _ _ e => Or.inr e)
  have T4 := T3.trans (Turned.of_below (Below.refl _ _).drew (fun _ => False)) (fun _ _ h => h.elim)
  have HU6 : Hid (RU w0 b rb m rs M (W6.setCell ⟨w.heap.size + 1 + 1 + 1, 0, none⟩ (.bool f)).drew) := HU5.out.turned T4 (fun k hk => by omega) (by omega) (by omega)
  have HT6 : Hid (Turned w (W6.setCell ⟨w.heap.size + 1 + 1 + 1, 0, none⟩ (.bool f)).drew (fun k => k = m)) := HT5.out.trans T4 (fun i hi e => by omega)
  have HA2 : Hid (_ = _) := A2
  have HF2 : Hid (_ = _) := F2
  clear T1 A1 F1 T2 A2 F2 T3 T4 x0 x1 x2 x3 x4 y0 f0 f1 f2 f3 f4 h0f
  go_wp2
  refine (?_ : bodyPost _ _ _ _ _ _)
  refine bodyPost_ret (v := .tuple #[.agg (plV P), .bool f]) ?_ rfl ⟨by rw [HPF.out], HU6.out, HT6.out⟩
  rw [results_two (p := 6) (q := 7) (ty := TPl) (tz := 4) rfl]
  have l1 : (loadVar TPl ⟨w.heap.size + 1 + 1, 0, none⟩).run Tryz.prog (W6.setCell ⟨w.heap.size + 1 + 1 + 1, 0, none⟩ (.bool f)).drew = .ok (.agg (plV P)) _ := load_Pl HA2.out rfl
  have l2 : (loadVar 4 ⟨w.heap.size + 1 + 1 + 1, 0, none⟩).run Tryz.prog (W6.setCell ⟨w.heap.size + 1 + 1 + 1, 0, none⟩ (.bool f)).drew = .ok (.bool f) _ := load_bool HF2.out
  simp [asAddr, Result.andThen, l1, l2]
end
end Go.Proofs.YtlcghlfmaohfeaaGreat
namespace Go.Proofs.YtlcghlfmaohfeaaGreat
open Go.RowKit Go.Maps
set_option linter.unusedVariables false
set_option maxRecDepth 100000
theorem results_c3 {fn : Func} {p u s : Tmp} {ty : TypeId} (h : fn.results = #[.cell p ty, .tmp u, .tmp s]) (tmps : Array Value) (P : Program) (w : World) :
    (results fn tmps).run P w =
      ((asAddr (tmps.getD p undef)).run P w).andThen fun a w₁ => ((loadVar ty a).run P w₁).andThen fun x w₂ => .ok (.tuple #[x, tmps.getD u undef, tmps.getD s undef]) w₂ := by
  simp only [results, h]
  simp [Sem.run_bind, Result.andThen]
theorem ret_p3 {fn : Func} {R : Ending → World → Prop} {tmps : Array Value} {w : World} {g p q s : Nat} {cs : Array Value}
    (hres : fn.results = #[.cell p TPl, .tmp q, .tmp s]) (hp : tmps.getD p undef = .pointer (some ⟨g, 0, none⟩)) (hg : w.heap[g]? = some (.cells cs TPl (0, 0))) (hcs : cs.size = 5)
    (hR : R (.returned (.tuple #[.agg cs, tmps.getD q undef, tmps.getD s undef])) w) : bodyPost Tryz.prog fn R .ret ⟨tmps, []⟩ w := by
  refine bodyPost_ret ?_ rfl hR
  rw [results_c3 hres]
  simp only [hp]
  simp [asAddr, Result.andThen, load_Pl hg hcs]
section
variable {B : Nat} {w : World} {b mb : Nat} {v : Value} {rs : List (Rw × Value)} {ps : List (Value × Value)} {M : Int → Ex}
/-- What is known of the members of a struct or a union that is whole. -/
theorem rec_mem {w0 : World} {rb m : Nat} (h : Tab B w0 b mb v rs ps) (hs : Small rs) (hf : FromOK rs) (hM : IsMeas (rowsOf rs) M) (h1 : w0.heap.size ≤ m) (h2 : rb ≠ m) {i : Nat} {p : Rw × Value} (hp : rs[i]? = some p) (hwh : wholeR p.1 = true) (hk : recK p.1.kind = true) :
    1 ≤ p.1.mem.length ∧ p.1.mem.length ≤ 64 ∧ ∀ x ∈ p.1.mem, MC w0 b rb m rs M x.type ∧ ExOK (M x.type) ∧ BitsOK x (M x.type) := by
  have hlt : i < rs.length := (List.getElem?_eq_some_iff.1 hp).1
  have h14 : ¬ p.1.kind = 14 := by intro e; rw [e] at hk; exact absurd hk (by decide)
  have hd : p.1.done = true := by
    unfold wholeR at hwh
    rw [if_neg h14, if_pos hk] at hwh
    exact hwh
  have hmem := ok_members hf hp hk hd
  have hA := measure_all h hs hf hM h1 h2
  refine ⟨ok_mem1 hf hp hk hd, by have := (enter_parts (hf.1 i p hlt hp) hlt).2; omega, fun x hx => ?_⟩
  obtain ⟨q, hq, hwq, x0, xl⟩ := whole_at (hmem x hx).1
  have hxe : x.type = (x.type.toNat : Int) := by omega
  have hb := bits_ok hf hM (hmem x hx).1 (hmem x hx).2
  refine ⟨?_, ?_, hb⟩
  · rw [hxe]; exact hA _ q hq hwq
  · rw [hxe]; exact meas_ok hf hM _ q hq hwq
set_option maxHeartbeats 8000000 in
theorem find_err (id : Int) (nm : ByteArray) (er : Int) (hne : (er != 0) = true)
    (c : Calls Tryz.prog 30 #[.pointer (some ⟨b, 0, none⟩), .int .i64 id] (w.alloc (.cells #[.int .i64 0, .int .i64 0, .int .i64 0, .int .i64 0, .int .i64 0] TPl)) fun e w' => e = .returned (.tuple #[.pointer none, .agg #[.int .i64 0, .int .i64 0, .int .i64 0, .string ⟨#[]⟩, .slice none 0 0, .bool false], .int .i64 er]) ∧ Below (w.alloc (.cells #[.int .i64 0, .int .i64 0, .int .i64 0, .int .i64 0, .int .i64 0] TPl)).heap.size (w.alloc (.cells #[.int .i64 0, .int .i64 0, .int .i64 0, .int .i64 0, .int .i64 0] TPl)) w') :
    Calls Tryz.prog 13 #[.pointer (some ⟨b, 0, none⟩), .int .i64 id, .string nm] w fun e w' => e = .returned (.tuple #[.agg (plV pl0), .bool false, .int .i64 er]) ∧ Below w.heap.size w w' := by
  have hbz : ∀ Y : World, (Instr.build TPl #[]).run Tryz.prog Y = .ok (.agg #[.int .i64 0, .int .i64 0, .int .i64 0, .int .i64 0, .int .i64 0]) Y := fun Y => by kernel_rfl
  have hb0 := below1 w (.cells #[.int .i64 0, .int .i64 0, .int .i64 0, .int .i64 0, .int .i64 0] TPl)
  have E0 := heap_r0 w (.cells #[.int .i64 0, .int .i64 0, .int .i64 0, .int .i64 0, .int .i64 0] TPl)
  go_enter Tryz.func13, Tryz.ntmps13
  go_wp2_with fail
  refine c.mono ?_
  rintro e w2 ⟨rfl, hb2⟩
  have hold := heap_r0 w2 (.cells #[.int .i64 0, .int .i64 0, .int .i64 0, .string ⟨#[]⟩, .slice none 0 0, .bool false] TR)
  have hb3 := below1 w2 (.cells #[.int .i64 0, .int .i64 0, .int .i64 0, .string ⟨#[]⟩, .slice none 0 0, .bool false] TR)
  have E3 := blk_b (blk_b E0 hb2) hb3
  have HE3 : Hid (_ = _) := E3
  have HB : Hid (Below w.heap.size w (w2.alloc (.cells #[.int .i64 0, .int .i64 0, .int .i64 0, .string ⟨#[]⟩, .slice none 0 0, .bool false] TR))) := (hb0.trans (hb2.mono hb0.size)).trans (hb3.mono (Nat.le_trans hb0.size hb2.size))
  clear c hb2 hb3 E0 hb0
  go_wp2_with (first | ((with_reducible apply step_store hold); rfl; rfl; kernel_rfl; rfl; kernel_rfl; rw [World.setRow_alloc_new]) | ((with_reducible apply step_store E3); rfl; rfl; kernel_rfl; rfl; kernel_rfl))
  refine (?_ : bodyPost _ _ _ _ _ _)
  refine ret_p3 (p := 6) (q := 7) (s := 8) (cs := #[.int .i64 0, .int .i64 0, .int .i64 0, .int .i64 0, .int .i64 0]) rfl rfl (setRow_heap _ _ _ _ _ _ HE3.out) rfl ?_
  exact ⟨rfl, below_setRow HB.out (Nat.le_refl _) _⟩
set_option maxHeartbeats 8000000 in
theorem find_ok (h : Tab B w b mb v rs ps) (hs : Small rs) (hf : FromOK rs) (hM : IsMeas (rowsOf rs) M) {i : Nat} {p : Rw × Value} (hp : rs[i]? = some p) (hwh : wholeR p.1 = true) (hgt : (M i).size ≤ 16384) (hk : recK p.1.kind = true) (nm : ByteArray) :
    Calls Tryz.prog 13 #[.pointer (some ⟨b, 0, none⟩), .int .i64 i, .string nm] w fun e w' => e = .returned (.tuple #[.agg (plV (foundS p.1.mem nm (pl0, false) (placesS (p.1.kind == 16) M ls0 0 p.1.mem)).1), .bool (foundS p.1.mem nm (pl0, false) (placesS (p.1.kind == 16) M ls0 0 p.1.mem)).2, .int .i64 0]) ∧ Below w.heap.size w w' := by
  have hb0 := below1 w (.cells #[.int .i64 0, .int .i64 0, .int .i64 0, .int .i64 0, .int .i64 0] TPl)
  have E0 := heap_r0 w (.cells #[.int .i64 0, .int .i64 0, .int .i64 0, .int .i64 0, .int .i64 0] TPl)
  have hT := h.keptB hb0
  have c := openR_ok hT hs hf hM hp hwh hgt hk
  have HL : Hid (∀ (rb m : Nat) (sp : Option Addr) (sc bs : Nat) (W : World), RU (w.alloc (.cells #[.int .i64 0, .int .i64 0, .int .i64 0, .int .i64 0, .int .i64 0] TPl)) b rb m rs M W → (w.alloc (.cells #[.int .i64 0, .int .i64 0, .int .i64 0, .int .i64 0, .int .i64 0] TPl)).heap.size ≤ m → rb ≠ m → W.ownsRow bs TM 3 (.slice sp p.1.mem.length sc) p.1.mem.length (memCells p.1.mem) →
      Calls Tryz.prog 34 #[.pointer (some ⟨rb, 0, none⟩), .agg #[.int .i64 p.1.kind, .int .i64 p.1.elem, .int .i64 p.1.len, .string p.1.tag, .slice sp p.1.mem.length sc, .bool p.1.done], .string nm] W
      fun e w' => e = .returned (.tuple #[.agg (plV (foundS p.1.mem nm (pl0, false) (placesS (p.1.kind == 16) M ls0 0 p.1.mem)).1), .bool (foundS p.1.mem nm (pl0, false) (placesS (p.1.kind == 16) M ls0 0 p.1.mem)).2]) ∧ RU (w.alloc (.cells #[.int .i64 0, .int .i64 0, .int .i64 0, .int .i64 0, .int .i64 0] TPl)) b rb m rs M w' ∧ Turned W w' (fun k => k = m)) := fun rb m sp sc bs W hU h1 h2 how => by
    obtain ⟨_, q2, q3⟩ := rec_mem hT hs hf hM h1 h2 hp hwh hk
    exact find_c hU h1 h2 p.1 nm how q2 q3
  generalize foundS p.1.mem nm (pl0, false) (placesS (p.1.kind == 16) M ls0 0 p.1.mem) = F at *
  obtain ⟨P, f⟩ := F
  obtain ⟨⟨kd, el, ln, tg, mm, dn⟩, s0⟩ := p
  simp only at c HL ⊢
  clear h hs hf hM hp hwh hgt hk hT
  go_enter Tryz.func13, Tryz.ntmps13
  go_wp2_with fail
  refine c.mono ?_
  rintro e w2 ⟨rb, m, sp, sc, rfl, U2, hm0, hrm, how⟩
  have hz0 : (w.alloc (.cells #[.int .i64 0, .int .i64 0, .int .i64 0, .int .i64 0, .int .i64 0] TPl)).heap.size = w.heap.size + 1 := by simp
  have hold := heap_r0 w2 (.cells #[.int .i64 0, .int .i64 0, .int .i64 0, .string ⟨#[]⟩, .slice none 0 0, .bool false] TR)
  have hb3 := below1 w2 (.cells #[.int .i64 kd, .int .i64 el, .int .i64 ln, .string tg, .slice sp mm.length sc, .bool dn] TR)
  have U3 : Hid (_) := U2.kept hb3
  have E3 : Hid (_ = _) := blk_b (blk_b E0 U2.below) hb3
  have O3 : Hid (World.ownsRow (w2.alloc (.cells #[.int .i64 kd, .int .i64 el, .int .i64 ln, .string tg, .slice sp mm.length sc, .bool dn] TR)) _ TM 3 (.slice sp mm.length sc) mm.length (memCells mm)) := ownsRow_turned how (Turned.of_below hb3 (fun _ => False)) (fun _ _ h => h.elim)
  have N3 := heap_r0 w2 (.cells #[.int .i64 kd, .int .i64 el, .int .i64 ln, .string tg, .slice sp mm.length sc, .bool dn] TR)
  have k0 := Lib.cell_of_heap N3 0
  have k1 := Lib.cell_of_heap N3 1
  have k2 := Lib.cell_of_heap N3 2
  have k3 := Lib.cell_of_heap N3 3
  have k4 := Lib.cell_of_heap N3 4
  have k5 := Lib.cell_of_heap N3 5
  simp only [List.getElem?_toArray, List.getElem?_cons_succ, List.getElem?_cons_zero] at k0 k1 k2 k3 k4 k5
  clear c U2 hb3 how N3 E0
  go_wp2_with (first | ((with_reducible apply step_store hold); rfl; rfl; kernel_rfl; rfl; kernel_rfl; rw [World.setRow_alloc_new]) | fail)
  generalize w2.alloc (.cells #[.int .i64 kd, .int .i64 el, .int .i64 ln, .string tg, .slice sp mm.length sc, .bool dn] TR) = W3 at *
  refine (HL.out rb m sp sc _ W3 U3.out hm0 hrm O3.out).mono ?_
  rintro e w4 ⟨rfl, U4, t4⟩
  have hl3 := lt_of_heap E3.out
  have E4 := blk_t E3.out t4 (by omega)
  have hold4 := heap_r0 w4 (.cells #[.int .i64 0, .int .i64 0, .int .i64 0, .int .i64 0, .int .i64 0] TPl)
  have hb5 := below1 w4 (.cells #[.int .i64 P.mem, .int .i64 P.type, .int .i64 P.off, .int .i64 P.bit, .int .i64 P.bits] TPl)
  have U5 : Hid (_) := U4.kept hb5
  have E5 := blk_b E4 hb5
  have N5 := heap_r0 w4 (.cells #[.int .i64 P.mem, .int .i64 P.type, .int .i64 P.off, .int .i64 P.bit, .int .i64 P.bits] TPl)
  have x0 := Lib.cell_of_heap N5 0
  have x1 := Lib.cell_of_heap N5 1
  have x2 := Lib.cell_of_heap N5 2
  have x3 := Lib.cell_of_heap N5 3
  have x4 := Lib.cell_of_heap N5 4
  simp only [List.getElem?_toArray, List.getElem?_cons_succ, List.getElem?_cons_zero] at x0 x1 x2 x3 x4
  have HE5 : Hid (_ = _) := E5
  clear HL U3 O3 t4 U4 hb5 N5 k0 k1 k2 k3 k4 k5
  go_wp2_with (first | ((with_reducible apply step_store hold4); rfl; rfl; kernel_rfl; rfl; kernel_rfl; rw [World.setRow_alloc_new]) | ((with_reducible apply step_store E5); rfl; rfl; kernel_rfl; rfl; kernel_rfl))
  refine (?_ : bodyPost _ _ _ _ _ _)
  refine ret_p3 (p := 6) (q := 7) (s := 8) (cs := #[.int .i64 P.mem, .int .i64 P.type, .int .i64 P.off, .int .i64 P.bit, .int .i64 P.bits]) rfl rfl (setRow_heap _ _ _ _ _ _ HE5.out) rfl ?_
  exact ⟨rfl, below_setRow (hb0.trans (U5.out.below.mono hb0.size)) (Nat.le_refl _) _⟩
end
end Go.Proofs.YtlcghlfmaohfeaaGreat
namespace Go.Proofs.YtlcghlfmaohfeaaGreat
open Go.RowKit Go.Maps
set_option linter.unusedVariables false
theorem rup_mul (n a : Int) : rup n (8 * a) = 8 * ((n + 8 * a - 1) / (8 * a) * a) := by
  unfold rup
  rw [Int.mul_left_comm]
theorem fin_step {un : Bool} {M : Int → Ex} (s : Ls) (m : Mb) : s.fin ≤ (stepP un M s m).fin := by
  show s.fin ≤ max s.fin _
  omega
theorem fin_mono {un : Bool} {M : Int → Ex} : ∀ (l : List Mb) (s : Ls), s.fin ≤ (layS un M s l).fin
  | [], _ => by simp [layS]
  | m :: l, s => by
    have h1 := fin_step (un := un) (M := M) s m
    have h2 := fin_mono (un := un) (M := M) l (stepP un M s m)
    simp only [layS]
    omega
theorem place_in {un : Bool} {M : Int → Ex} : ∀ (l : List Mb) (n : Nat) (s : Ls) (i : Nat), LsOK n s → (∀ m ∈ l, ExOK (M m.type) ∧ BitsOK m (M m.type)) →
    ∀ P ∈ placesS un M s i l, 0 ≤ P.off ∧ 8 * P.off ≤ (layS un M s l).fin ∧ ∃ m ∈ l, P.type = m.type ∧ (m.bits = -1 → P.bits = 0 ∧ P.bit = 0 ∧ 8 * (P.off + (M m.type).size) ≤ (layS un M s l).fin)
  | [], _, _, _, _, _, P, hP => by simp [placesS] at hP
  | m :: l, n, s, i, hs, hm, P, hP => by
    obtain ⟨hE, hB⟩ := hm m (by simp)
    have hs1 := step_ok (un := un) hs hE hB
    have hmono := fin_mono (un := un) (M := M) l (stepP un M s m)
    simp only [placesS, List.mem_append] at hP
    rcases hP with hP | hP
    · by_cases hb : m.bits = 0
      · rw [if_pos hb] at hP; simp at hP
      · rw [if_neg hb] at hP
        have hp0 : 0 ≤ (if un = true then 0 else s.place) := by split; exact Int.le_refl _; exact hs.p0
        have hq := begin_bd (m := m) hE hp0
        have hfin : beginP (if un = true then 0 else s.place) m (M m.type) + takenP m (M m.type) ≤ (stepP un M s m).fin := by
          show _ ≤ max s.fin (beginP (if un = true then 0 else s.place) m (M m.type) + takenP m (M m.type))
          omega
        have ht := taken_bd hE hB
        have e1 := hE.lo
        simp only [List.mem_singleton] at hP
        subst hP
        simp only [layS]
        by_cases h1 : m.bits = -1
        · have hmul : ∃ k, beginP (if un = true then 0 else s.place) m (M m.type) = 8 * k := by
            unfold beginP
            rw [if_pos h1, rup_mul]
            exact ⟨_, rfl⟩
          obtain ⟨k, hk⟩ := hmul
          have htk : takenP m (M m.type) = 8 * (M m.type).size := by unfold takenP; rw [if_pos h1]
          generalize beginP (if un = true then 0 else s.place) m (M m.type) = q at *
          unfold spotP
          rw [if_pos h1]
          simp only
          refine ⟨by omega, by omega, m, by simp, rfl, fun _ => ⟨by trivial, by trivial, by omega⟩⟩
        · generalize beginP (if un = true then 0 else s.place) m (M m.type) = q at *
          unfold spotP
          rw [if_neg h1]
          simp only
          have hd := Int.ediv_nonneg (show 0 ≤ q by omega) (show 0 ≤ 8 * (M m.type).size by omega)
          have hx := Int.mul_ediv_add_emod q (8 * (M m.type).size)
          have hmod := Int.emod_nonneg q (show 8 * (M m.type).size ≠ 0 by omega)
          rw [Int.mul_assoc] at hx
          have hn := Int.mul_nonneg (show 0 ≤ (M m.type).size by omega) hd
          refine ⟨hn, by omega, m, by simp, rfl, fun e => absurd e h1⟩
    · obtain ⟨q1, q2, m', hm', q3, q4⟩ := place_in l (n + 1) (stepP un M s m) (i + 1) hs1 (fun x hx => hm x (by simp [hx])) P hP
      simp only [layS]
      exact ⟨q1, q2, m', by simp [hm'], q3, q4⟩
theorem end_fin {i : Nat} {s : Ls} (h : LsOK i s) : s.fin ≤ 8 * (endP s).size := by
  have e1 := rup_bd s.fin 8 h.f0 (by decide)
  have hal := h.al
  have e3 := rup_bd (max (rup s.fin 8 / 8) 1) s.align (by omega) (by omega)
  have e4 : rup s.fin 8 = 8 * ((s.fin + 8 - 1) / 8) := by unfold rup; omega
  show s.fin ≤ 8 * rup (max (rup s.fin 8 / 8) 1) s.align
  omega
section
variable {rs : List (Rw × Value)} {M : Int → Ex}
/-- The place of a member of a struct or a union that is whole and not too large. -/
theorem place_within (hf : FromOK rs) (hM : IsMeas (rowsOf rs) M) {i : Nat} {p : Rw × Value} (hp : rs[i]? = some p) (hwh : wholeR p.1 = true) (hk : recK p.1.kind = true) (hgt : (M i).size ≤ 16384) :
    ∀ P ∈ placesS (p.1.kind == 16) M ls0 0 p.1.mem, 0 ≤ P.off ∧ P.off ≤ (M i).size ∧ ∃ m ∈ p.1.mem, P.type = m.type ∧ (m.bits = -1 → P.bits = 0 ∧ P.bit = 0 ∧ P.off + (M m.type).size ≤ (M i).size) := by
  have hlt : i < rs.length := (List.getElem?_eq_some_iff.1 hp).1
  have h14 : ¬ p.1.kind = 14 := by intro e; rw [e] at hk; exact absurd hk (by decide)
  have hd : p.1.done = true := by
    unfold wholeR at hwh
    rw [if_neg h14, if_pos hk] at hwh
    exact hwh
  have hmem := ok_members hf hp hk hd
  have hall : ∀ m ∈ p.1.mem, ExOK (M m.type) ∧ BitsOK m (M m.type) := fun m hm => by
    obtain ⟨q, hq, hwq, x0, xl⟩ := whole_at (hmem m hm).1
    have hxe : m.type = (m.type.toNat : Int) := by omega
    refine ⟨?_, bits_ok hf hM (hmem m hm).1 (hmem m hm).2⟩
    rw [hxe]; exact meas_ok hf hM _ q hq hwq
  have h0 : LsOK 0 ls0 := ⟨by decide, by decide, by decide, by decide, by decide⟩
  have hls := layS_ok (un := p.1.kind == 16) (M := M) p.1.mem 0 ls0 h0 hall
  have hfin := end_fin hls
  have hMi : (M i).size = min (endP (layS (p.1.kind == 16) M ls0 p.1.mem)).size 16385 := by
    rw [hM i p.1 (rows_at hp)]
    unfold roomP clampE
    rw [if_neg h14, if_pos hk]
  intro P hP
  obtain ⟨q1, q2, m, q3, q4, q5⟩ := place_in p.1.mem 0 ls0 0 h0 hall P hP
  refine ⟨q1, by omega, m, q3, q4, fun e => ?_⟩
  obtain ⟨a1, a2, a3⟩ := q5 e
  exact ⟨a1, a2, by omega⟩
end
end Go.Proofs.YtlcghlfmaohfeaaGreat
