/-
  hop: a step into an object.
-/
import Derived.Test.YtkobggbipoappaaHLyNo
import Derived.Test.YtkobggbipoappaaLyWk
import Derived.Test.YtkobggbipoappaaLyHi
import Derived.Deep.RegionHeld3
namespace Go.Proofs.Ytkobggbipoappaa
open Go.RowKit Go.Maps
set_option linter.unusedVariables false
set_option maxRecDepth 100000
theorem upon_skip {P : Program} {o : Oper} {a : Act} {K : Act → World → Prop} {Q : Exit → Act → World → Prop} {R : Result Next} {w' : World} (h : R = .ok .skip w') (hk : K (a.put o.dst undef) w') : Oper.upon P o a K Q R := by
  subst h; exact hk
/-- Nothing but one block has turned since. -/
def SH (W0 : World) (Y : World) : Prop := Below W0.heap.size W0 Y
theorem SH.drew {W0 Y : World} (h : SH W0 Y) : SH W0 Y.drew := Below.drew h
theorem SH.below {W0 Y Z : World} (h : SH W0 Y) (hb : Below Y.heap.size Y Z) : SH W0 Z := Below.trans h (hb.mono (Below.size h))
theorem SH.alloc {W0 Y : World} (h : SH W0 Y) (o : Obj) : SH W0 (Y.alloc o) := Below.alloc h (Below.size h) o
theorem SH.six {W0 Y : World} (h : SH W0 Y) (x0 x1 x2 x3 x4 x5 : Value) : SH W0 ((((((Y.setCell ⟨W0.heap.size, 0, none⟩ x0).setCell ⟨W0.heap.size, 1, none⟩ x1).setCell ⟨W0.heap.size, 2, none⟩ x2).setCell ⟨W0.heap.size, 3, none⟩ x3).setCell ⟨W0.heap.size, 4, none⟩ x4).setCell ⟨W0.heap.size, 5, none⟩ x5) :=
  ((((((Below.setCell h (p := ⟨W0.heap.size, 0, none⟩) (Nat.le_refl _) x0).setCell (p := ⟨W0.heap.size, 1, none⟩) (Nat.le_refl _) x1).setCell (p := ⟨W0.heap.size, 2, none⟩) (Nat.le_refl _) x2).setCell (p := ⟨W0.heap.size, 3, none⟩) (Nat.le_refl _) x3).setCell (p := ⟨W0.heap.size, 4, none⟩) (Nat.le_refl _) x4).setCell (p := ⟨W0.heap.size, 5, none⟩) (Nat.le_refl _) x5)
theorem cell_past {Y : World} {g i j : Nat} {x : Value} {v : Value} (h : i ≠ j) (hc : Y.cell? ⟨g, j, none⟩ = some v) : (Y.setCell ⟨g, i, none⟩ x).cell? ⟨g, j, none⟩ = some v := by
  rw [World.cell?_setCell_other]
  · exact hc
  · intro e; cases e; exact h rfl
theorem six_facts {Y : World} {g : Nat} {z0 z1 z2 z3 z4 z5 : Value} {t : TypeId} (HN : Y.heap[g]? = some (.cells #[z0, z1, z2, z3, z4, z5] t (0, 0))) (x0 x1 x2 x3 x4 : Value) :
    World.cell? Y ⟨g, 0, none⟩ = some z0 ∧ World.cell? (Y.setCell ⟨g, 0, none⟩ x0) ⟨g, 1, none⟩ = some z1 ∧ World.cell? ((Y.setCell ⟨g, 0, none⟩ x0).setCell ⟨g, 1, none⟩ x1) ⟨g, 2, none⟩ = some z2 ∧ World.cell? (((Y.setCell ⟨g, 0, none⟩ x0).setCell ⟨g, 1, none⟩ x1).setCell ⟨g, 2, none⟩ x2) ⟨g, 3, none⟩ = some z3 ∧ World.cell? ((((Y.setCell ⟨g, 0, none⟩ x0).setCell ⟨g, 1, none⟩ x1).setCell ⟨g, 2, none⟩ x2).setCell ⟨g, 3, none⟩ x3) ⟨g, 4, none⟩ = some z4 ∧ World.cell? (((((Y.setCell ⟨g, 0, none⟩ x0).setCell ⟨g, 1, none⟩ x1).setCell ⟨g, 2, none⟩ x2).setCell ⟨g, 3, none⟩ x3).setCell ⟨g, 4, none⟩ x4) ⟨g, 5, none⟩ = some z5 :=
  ⟨(Lib.cell_of_heap HN 0).trans rfl, cell_past (by decide) ((Lib.cell_of_heap HN 1).trans rfl), cell_past (by decide) (cell_past (by decide) ((Lib.cell_of_heap HN 2).trans rfl)), cell_past (by decide) (cell_past (by decide) (cell_past (by decide) ((Lib.cell_of_heap HN 3).trans rfl))), cell_past (by decide) (cell_past (by decide) (cell_past (by decide) (cell_past (by decide) ((Lib.cell_of_heap HN 4).trans rfl)))), cell_past (by decide) (cell_past (by decide) (cell_past (by decide) (cell_past (by decide) (cell_past (by decide) ((Lib.cell_of_heap HN 5).trans rfl)))))⟩
theorem SH.cell {W0 Y : World} {g j : Nat} {v : Value} {o : Obj} (h : SH W0 Y) (hg : W0.heap[g]? = some o) (hc : W0.cell? ⟨g, j, none⟩ = some v) : Y.cell? ⟨g, j, none⟩ = some v :=
  (Below.cell h (p := ⟨g, j, none⟩) (lt_of_heap hg)).trans hc
theorem cell_new (w : World) (cs : Array Value) (t : TypeId) (j : Nat) : (w.alloc (.cells cs t)).cell? ⟨w.heap.size, j, none⟩ = cs[j]? := Lib.cell_of_heap (heap_r0 w _) j
theorem frozen_new (w : World) (cs : Array Value) (t : TypeId) : ∀ j, (w.alloc (.cells cs t)).frozen? ⟨w.heap.size, j, none⟩ = false := fun j => frozen_of (heap_r0 w _) j
section
variable {B : Nat} {w w0 : World} {b mb rb m : Nat} {v : Value} {rs : List (Rw × Value)} {ps : List (Value × Value)} {M : Int → Ex}
set_option maxHeartbeats 16000000 in
theorem hop_c (h0 : Tab B w0 b mb v rs ps) (hs : Small rs) (hRU : RU w0 b rb m rs M w) (hw0 : w0.heap.size ≤ m) (hrm : rb ≠ m) (a : Pl) (nm : ByteArray) (idx : Int) {i : Nat} (hty : a.type = i) {p : Rw × Value} (hp : rs[i]? = some p)
    (hn : p.1.mem.length ≤ 64) (hmem : ∀ x ∈ p.1.mem, MC w0 b rb m rs M x.type ∧ ExOK (M x.type) ∧ BitsOK x (M x.type))
    (ho : 0 ≤ a.off ∧ a.off ≤ 16384) (hfo : 0 ≤ (foundS p.1.mem nm (pl0, false) (placesS (p.1.kind == 16) M ls0 0 p.1.mem)).1.off ∧ (foundS p.1.mem nm (pl0, false) (placesS (p.1.kind == 16) M ls0 0 p.1.mem)).1.off ≤ 16384)
    (harr : p.1.kind = 14 → MC w0 b rb m rs M p.1.elem ∧ 1 ≤ (M p.1.elem).size ∧ p.1.len ≤ 16384 ∧ (M p.1.elem).size ≤ 16385) :
    Calls Try.prog 30 #[.pointer (some ⟨rb, 0, none⟩), .agg (plV a), .agg #[.string nm, .int .i64 idx]] w fun e w' => e = .returned (.tuple #[.agg (plV (hopP M p.1 a nm idx).1), .bool (hopP M p.1 a nm idx).2]) ∧ RU w0 b rb m rs M w' ∧ Turned w w' (fun k => k = m) := by
  have hz1 : (w.alloc (.cells #[.int .i64 a.mem, .int .i64 (i : Int), .int .i64 a.off, .int .i64 a.bit, .int .i64 a.bits] TPl)).heap.size = w.heap.size + 1 := by simp
  have hz2 : ((w.alloc (.cells #[.int .i64 a.mem, .int .i64 (i : Int), .int .i64 a.off, .int .i64 a.bit, .int .i64 a.bits] TPl)).alloc (.cells #[.string nm, .int .i64 idx] THop)).heap.size = w.heap.size + 1 + 1 := by simp
  have b1 := below1 w (.cells #[.int .i64 a.mem, .int .i64 (i : Int), .int .i64 a.off, .int .i64 a.bit, .int .i64 a.bits] TPl)
  have b2 := below1 (w.alloc (.cells #[.int .i64 a.mem, .int .i64 (i : Int), .int .i64 a.off, .int .i64 a.bit, .int .i64 a.bits] TPl)) (.cells #[.string nm, .int .i64 idx] THop)
  have b3 := below1 ((w.alloc (.cells #[.int .i64 a.mem, .int .i64 (i : Int), .int .i64 a.off, .int .i64 a.bit, .int .i64 a.bits] TPl)).alloc (.cells #[.string nm, .int .i64 idx] THop)) (.cells #[.int .i64 0, .int .i64 0, .int .i64 0, .int .i64 0, .int .i64 0] TPl)
  have g1 := blk_b (blk_b (heap_r0 w (.cells #[.int .i64 a.mem, .int .i64 (i : Int), .int .i64 a.off, .int .i64 a.bit, .int .i64 a.bits] TPl)) b2) b3
  have g2 := blk_b (heap_r0 (w.alloc (.cells #[.int .i64 a.mem, .int .i64 (i : Int), .int .i64 a.off, .int .i64 a.bit, .int .i64 a.bits] TPl)) (.cells #[.string nm, .int .i64 idx] THop)) b3
  have g3 := heap_r0 ((w.alloc (.cells #[.int .i64 a.mem, .int .i64 (i : Int), .int .i64 a.off, .int .i64 a.bit, .int .i64 a.bits] TPl)).alloc (.cells #[.string nm, .int .i64 idx] THop)) (.cells #[.int .i64 0, .int .i64 0, .int .i64 0, .int .i64 0, .int .i64 0] TPl)
  rw [hz1] at g2
  rw [hz2] at g3
  have hB : Below w.heap.size w (((w.alloc (.cells #[.int .i64 a.mem, .int .i64 (i : Int), .int .i64 a.off, .int .i64 a.bit, .int .i64 a.bits] TPl)).alloc (.cells #[.string nm, .int .i64 idx] THop)).alloc (.cells #[.int .i64 0, .int .i64 0, .int .i64 0, .int .i64 0, .int .i64 0] TPl)) := (b1.trans (b2.mono (by omega))).trans (b3.mono (by omega))
  have HU3 : Hid (RU w0 b rb m rs M (((w.alloc (.cells #[.int .i64 a.mem, .int .i64 (i : Int), .int .i64 a.off, .int .i64 a.bit, .int .i64 a.bits] TPl)).alloc (.cells #[.string nm, .int .i64 idx] THop)).alloc (.cells #[.int .i64 0, .int .i64 0, .int .i64 0, .int .i64 0, .int .i64 0] TPl))) := hRU.kept hB
  have HT3 : Hid (Turned w (((w.alloc (.cells #[.int .i64 a.mem, .int .i64 (i : Int), .int .i64 a.off, .int .i64 a.bit, .int .i64 a.bits] TPl)).alloc (.cells #[.string nm, .int .i64 idx] THop)).alloc (.cells #[.int .i64 0, .int .i64 0, .int .i64 0, .int .i64 0, .int .i64 0] TPl)) (fun k => k = m)) := Turned.of_below hB _
  have hlm := hRU.lt
  have hlr := lt_of_heap hRU.ru
  have HRC : Hid (∀ W, Below w0.heap.size w0 W → Calls Try.prog 53 #[.pointer (some ⟨b, 0, none⟩), .int .i64 (i : Int)] W fun e w' => ∃ s', e = .returned (.tuple #[.agg (rwCells p.1 s').toArray, .bool true]) ∧ w'.ownsRow W.heap.size TM 3 s' p.1.mem.length (memCells p.1.mem) ∧ Below W.heap.size W w') := fun W hW => row_c (h0.keptB hW) hp hs
  have HF : Hid (∀ (sp : Option Addr) (sc bs : Nat) (W : World), RU w0 b rb m rs M W → W.ownsRow bs TM 3 (.slice sp p.1.mem.length sc) p.1.mem.length (memCells p.1.mem) → Calls Try.prog 50 #[.pointer (some ⟨rb, 0, none⟩), .agg #[.int .i64 p.1.kind, .int .i64 p.1.elem, .int .i64 p.1.len, .string p.1.tag, .slice sp p.1.mem.length sc, .bool p.1.done], .string nm] W fun e w' => e = .returned (.tuple #[.agg (plV (foundS p.1.mem nm (pl0, false) (placesS (p.1.kind == 16) M ls0 0 p.1.mem)).1), .bool (foundS p.1.mem nm (pl0, false) (placesS (p.1.kind == 16) M ls0 0 p.1.mem)).2]) ∧ RU w0 b rb m rs M w' ∧ Turned W w' (fun k => k = m)) := fun sp sc bs W hU how => find_c hU hw0 hrm p.1 nm how hn hmem
  obtain ⟨RES, hRES⟩ : ∃ x, x = hopP M p.1 a nm idx := ⟨_, rfl⟩
  rw [← hRES]
  unfold hopP at hRES
  generalize foundS p.1.mem nm (pl0, false) (placesS (p.1.kind == 16) M ls0 0 p.1.mem) = F at *
  obtain ⟨P, fd⟩ := F
  obtain ⟨pm, pt, po, pbt, pbs⟩ := P
  have HARR : Hid (p.1.kind = 14 → MC w0 b rb m rs M p.1.elem ∧ 1 ≤ (M p.1.elem).size ∧ p.1.len ≤ 16384 ∧ (M p.1.elem).size ≤ 16385) := harr
  have hat : plV a = #[.int .i64 a.mem, .int .i64 (i : Int), .int .i64 a.off, .int .i64 a.bit, .int .i64 a.bits] := by rw [show (plV a) = #[.int .i64 a.mem, .int .i64 a.type, .int .i64 a.off, .int .i64 a.bit, .int .i64 a.bits] from rfl, hty]
  rw [hat]
  obtain ⟨⟨kd, el, ln, tg, mm, dn⟩, s0⟩ := p
  simp only [rwCells] at HRC HF hfo HARR hRES hn ⊢
  have HRES : Hid (RES = _) := hRES
  clear hRES
  have HG1 : Hid (_ = _) := g1
  have HG2 : Hid (_ = _) := g2
  have HG3 : Hid (_ = _) := g3
  clear h0 hs hRU hp hz1 hz2 b1 b2 b3 g1 g2 g3 hB hmem harr hat
  go_enter Try.func30, Try.ntmps30
  go_upto_region 1 with (fail)
  refine (?_ : Code.wp _ _ _ _ (((w.alloc (.cells #[.int .i64 a.mem, .int .i64 (i : Int), .int .i64 a.off, .int .i64 a.bit, .int .i64 a.bits] TPl)).alloc (.cells #[.string nm, .int .i64 idx] THop)).alloc (.cells #[.int .i64 0, .int .i64 0, .int .i64 0, .int .i64 0, .int .i64 0] TPl)))
  generalize (((w.alloc (.cells #[.int .i64 a.mem, .int .i64 (i : Int), .int .i64 a.off, .int .i64 a.bit, .int .i64 a.bits] TPl)).alloc (.cells #[.string nm, .int .i64 idx] THop)).alloc (.cells #[.int .i64 0, .int .i64 0, .int .i64 0, .int .i64 0, .int .i64 0] TPl)) = W3 at *
  go_cut [8] (fun s8 wx => ∃ (g8 : Nat) (sp : Option Addr) (sc bs : Nat), s8 = .pointer (some ⟨g8, 0, none⟩) ∧ Hid (wx.heap[g8]? = some (.cells #[.int .i64 kd, .int .i64 el, .int .i64 ln, .string tg, .slice sp mm.length sc, .bool dn] TR (0, 0))) ∧ Hid (World.ownsRow wx bs TM 3 (.slice sp mm.length sc) mm.length (memCells mm)) ∧ Hid (SH W3 wx))
  case first =>
    have L0 : ∀ Y, SH W3 Y → Y.cell? ⟨rb, 0, none⟩ = some (.pointer (some ⟨b, 0, none⟩)) := fun Y h => h.cell HU3.out.ru (Lib.cell_of_heap HU3.out.ru 0)
    have L1 : ∀ Y, SH W3 Y → Y.cell? ⟨w.heap.size, 1, none⟩ = some (.int .i64 (i : Int)) := fun Y h => h.cell HG1.out (Lib.cell_of_heap HG1.out 1)
    have HSH : SH W3 W3 := Below.refl _ _
    go_region_held3 (fun Y => SH W3 Y) (with_reducible first | assumption | (refine SH.six ?_ _ _ _ _ _ _; assumption) | (refine SH.drew ?_; assumption) | (refine SH.below ?_ (by assumption); assumption) | (refine SH.alloc ?_ _; assumption) | (refine SH.drew ?_; refine SH.alloc ?_ _; assumption)) (first
      | (go_at_call 53; refine (HRC.out _ ?_).mono ?_; exact HU3.out.below.drew; rintro e y1 ⟨s', rfl, hown, hb1⟩; obtain ⟨sp, sc, rfl⟩ := slice_of_own hown; have HY1 : SH W3 y1 := SH.below (SH.drew HSH) hb1; have HOW : Hid (World.ownsRow y1 W3.drew.heap.size TM 3 (.slice sp mm.length sc) mm.length (memCells mm)) := hown; have k0 := cell_new y1 #[.int .i64 0, .int .i64 0, .int .i64 0, .string ⟨#[]⟩, .slice none 0 0, .bool false] TR 0; have k1 := cell_new y1 #[.int .i64 0, .int .i64 0, .int .i64 0, .string ⟨#[]⟩, .slice none 0 0, .bool false] TR 1; have k2 := cell_new y1 #[.int .i64 0, .int .i64 0, .int .i64 0, .string ⟨#[]⟩, .slice none 0 0, .bool false] TR 2; have k3 := cell_new y1 #[.int .i64 0, .int .i64 0, .int .i64 0, .string ⟨#[]⟩, .slice none 0 0, .bool false] TR 3; have k4 := cell_new y1 #[.int .i64 0, .int .i64 0, .int .i64 0, .string ⟨#[]⟩, .slice none 0 0, .bool false] TR 4; have k5 := cell_new y1 #[.int .i64 0, .int .i64 0, .int .i64 0, .string ⟨#[]⟩, .slice none 0 0, .bool false] TR 5; simp only [List.getElem?_toArray, List.getElem?_cons_succ, List.getElem?_cons_zero] at k0 k1 k2 k3 k4 k5; have f0 := frozen_new y1 #[.int .i64 0, .int .i64 0, .int .i64 0, .string ⟨#[]⟩, .slice none 0 0, .bool false] TR; clear hown)
      | (go_at_call 53; refine (HRC.out _ ?_).mono ?_; exact (HU3.out.below.alloc HU3.out.below.size _).drew; rintro e y1 ⟨s', rfl, hown, hb1⟩; obtain ⟨sp, sc, rfl⟩ := slice_of_own hown; have HOW : Hid (World.ownsRow y1 (W3.alloc (.cells #[.int .i64 0, .int .i64 0, .int .i64 0, .string ⟨#[]⟩, .slice none 0 0, .bool false] TR)).drew.heap.size TM 3 (.slice sp mm.length sc) mm.length (memCells mm)) := hown; have HN : y1.heap[W3.heap.size]? = some (.cells #[.int .i64 0, .int .i64 0, .int .i64 0, .string ⟨#[]⟩, .slice none 0 0, .bool false] TR (0, 0)) := blk_b (w := (W3.alloc (.cells #[.int .i64 0, .int .i64 0, .int .i64 0, .string ⟨#[]⟩, .slice none 0 0, .bool false] TR)).drew) (heap_r0 W3 (.cells #[.int .i64 0, .int .i64 0, .int .i64 0, .string ⟨#[]⟩, .slice none 0 0, .bool false] TR)) hb1; have HNN : Hid (y1.heap[W3.heap.size]? = some (.cells #[.int .i64 0, .int .i64 0, .int .i64 0, .string ⟨#[]⟩, .slice none 0 0, .bool false] TR (0, 0))) := HN; have HY1 : SH W3 y1 := SH.below (SH.drew (SH.alloc HSH _)) hb1; clear hown HN hb1)
      | (have hnn := HNN.out; have FZ : ∀ j, World.frozen? y1 ⟨W3.heap.size, j, none⟩ = false := fun j => frozen_of hnn j; obtain ⟨e0, e1, e2, e3, e4, e5⟩ := six_facts hnn (.int .i64 kd) (.int .i64 el) (.int .i64 ln) (.string tg) (.slice sp mm.length sc); clear hnn; with_reducible refine upon_skip (w' := ((((((y1.setCell ⟨W3.heap.size, 0, none⟩ (.int .i64 kd)).setCell ⟨W3.heap.size, 1, none⟩ (.int .i64 el)).setCell ⟨W3.heap.size, 2, none⟩ (.int .i64 ln)).setCell ⟨W3.heap.size, 3, none⟩ (.string tg)).setCell ⟨W3.heap.size, 4, none⟩ (.slice sp mm.length sc)).setCell ⟨W3.heap.size, 5, none⟩ (.bool dn))) ?_ ?_; (simp only [e0, FZ, Bool.false_eq_true, if_false, Result.andThen_ok]); (simp only [e1, FZ, World.frozen?_setCell, Bool.false_eq_true, if_false, Result.andThen_ok]); (simp only [e2, FZ, World.frozen?_setCell, Bool.false_eq_true, if_false, Result.andThen_ok]); (simp only [e3, FZ, World.frozen?_setCell, Bool.false_eq_true, if_false, Result.andThen_ok]); (simp only [e4, FZ, World.frozen?_setCell, Bool.false_eq_true, if_false, Result.andThen_ok]); (simp only [e5, Result.andThen_ok]); clear e0 e1 e2 e3 e4 e5 FZ; have HN2 := HNN; clear HNN))
    · go_wp2_with fail
      go_meet
      exact ⟨y1.heap.size, sp, sc, _, rfl, heap_r0 y1 _, ownsRow_turned HOW.out (Turned.of_below (below1 y1 _) (fun _ => False)) (fun _ _ h => h.elim), show SH W3 _ by with_reducible assumption⟩
    · go_wp2_with fail
      go_meet
      exact ⟨W3.heap.size, sp, sc, _, rfl, (heap_setCell (j := 5) (heap_setCell (j := 4) (heap_setCell (j := 3) (heap_setCell (j := 2) (heap_setCell (j := 1) (heap_setCell (j := 0) HN2.out _) _) _) _) _) _).trans rfl,
        ownsRow_turned HOW.out (turned6 _ _ _ _ _ _ _ _) (fun k hk e => by subst e; have hb := (ownsRow_at HOW.out hk).1; simp at hb; omega), show SH W3 _ by with_reducible assumption⟩
  case rest =>
    obtain ⟨g8, sp, sc, bs, rfl, H8, HOW, HSH⟩ := hcut
    have HU : Hid (RU w0 b rb m rs M wc) := HU3.out.kept HSH.out
    have HTx : Hid (Turned w wc (fun k => k = m)) := HT3.out.trans (Turned.of_below HSH.out (fun k => k = m)) (fun _ _ e => e)
    have G1 : Hid (_ = _) := blk_b HG1.out HSH.out
    have G2 : Hid (_ = _) := blk_b HG2.out HSH.out
    have G3 := blk_b HG3.out HSH.out
    have HGR : Hid (_ = _) := G3
    have n0 := Lib.cell_of_heap G2.out 0
    have n1 := Lib.cell_of_heap G2.out 1
    have k0 := Lib.cell_of_heap H8.out 0
    have k1 := Lib.cell_of_heap H8.out 1
    have k2 := Lib.cell_of_heap H8.out 2
    have k3 := Lib.cell_of_heap H8.out 3
    have k4 := Lib.cell_of_heap H8.out 4
    have k5 := Lib.cell_of_heap H8.out 5
    simp only [List.getElem?_toArray, List.getElem?_cons_succ, List.getElem?_cons_zero] at n0 n1 k0 k1 k2 k3 k4 k5
    have hbz : ∀ Y : World, (Instr.build TPl #[]).run Try.prog Y = .ok (.agg #[.int .i64 0, .int .i64 0, .int .i64 0, .int .i64 0, .int .i64 0]) Y := fun Y => by kernel_rfl
    clear HG1 HG2 HG3 HU3 HT3 HRC
    by_cases hnm : (!nm.toList.isEmpty) = true
    · have HR2 : Hid (RES = (⟨pm, pt, po + a.off, pbt, pbs⟩, fd)) := by rw [HRES.out, if_pos hnm]; rfl
      have hwr : IntKind.i64.wrap (po + a.off) = po + a.off := wrap_id (by omega) (by omega)
      clear HRES HARR
      go_wp2_with fail
      refine (HF.out sp sc bs wc HU.out HOW.out).mono ?_
      rintro e y ⟨rfl, U4, t4⟩
      have A4 := blk_t G1.out t4 (by omega)
      have R4 := blk_t HGR.out t4 (by omega)
      have hold := heap_r0 y (.cells #[.int .i64 0, .int .i64 0, .int .i64 0, .int .i64 0, .int .i64 0] TPl)
      have b5 := below1 y (.cells #[.int .i64 pm, .int .i64 pt, .int .i64 po, .int .i64 pbt, .int .i64 pbs] TPl)
      have N5 := heap_r0 y (.cells #[.int .i64 pm, .int .i64 pt, .int .i64 po, .int .i64 pbt, .int .i64 pbs] TPl)
      have A5 := blk_b A4 b5
      have b6 := below1 y (.cells #[.int .i64 pm, .int .i64 pt, .int .i64 (po + a.off), .int .i64 pbt, .int .i64 pbs] TPl)
      have N6 := heap_r0 y (.cells #[.int .i64 pm, .int .i64 pt, .int .i64 (po + a.off), .int .i64 pbt, .int .i64 pbs] TPl)
      have R6 := blk_b R4 b6
      have HR6 : Hid (_ = _) := R6
      have U6 : Hid (RU w0 b rb m rs M (y.alloc (.cells #[.int .i64 pm, .int .i64 pt, .int .i64 (po + a.off), .int .i64 pbt, .int .i64 pbs] TPl))) := U4.kept b6
      have T6 : Hid (Turned w (y.alloc (.cells #[.int .i64 pm, .int .i64 pt, .int .i64 (po + a.off), .int .i64 pbt, .int .i64 pbs] TPl)) (fun k => k = m)) := (HTx.out.trans t4 (fun _ _ e => e)).trans (Turned.of_below b6 (fun k => k = m)) (fun _ _ e => e)
      have x2 := Lib.cell_of_heap N5 2
      have y2 := Lib.cell_of_heap A5 2
      have z0 := Lib.cell_of_heap N6 0
      have z1 := Lib.cell_of_heap N6 1
      have z2 := Lib.cell_of_heap N6 2
      have z3 := Lib.cell_of_heap N6 3
      have z4 := Lib.cell_of_heap N6 4
      have f2 := frozen_of N5 2
      simp only [List.getElem?_toArray, List.getElem?_cons_succ, List.getElem?_cons_zero] at x2 y2 z0 z1 z2 z3 z4
      clear U4 t4 A4 R4 b5 b6 HU HTx HF HOW HSH G1 G2 G3 HGR H8 n1 k0 k1 k2 k3 k4 k5 n0 N5 N6 A5
      go_wp2_with (first | ((with_reducible apply step_store hold); rfl; rfl; kernel_rfl; rfl; kernel_rfl; rw [World.setRow_alloc_new]) | ((with_reducible apply step_store R6); rfl; rfl; kernel_rfl; rfl; kernel_rfl) | fail)
      rw [HR2.out]
      refine (?_ : bodyPost _ _ _ _ _ _)
      refine ret_p2 (p := 6) (q := 7) (cs := #[.int .i64 pm, .int .i64 pt, .int .i64 (po + a.off), .int .i64 pbt, .int .i64 pbs]) rfl rfl (setRow_heap _ _ _ _ _ _ HR6.out) rfl ?_
      exact ⟨rfl, U6.out.turned (Turned.setRow _ _ _ (S := fun k => k = w.heap.size + 1 + 1) rfl) (fun k e => by omega) (fun e => by omega) (fun e => by omega), T6.out.trans (Turned.setRow _ _ _ (S := fun k => k = w.heap.size + 1 + 1) rfl) (fun k h e => by omega)⟩
    · have hnm0 : (!nm.toList.isEmpty) = false := by simpa using hnm
      by_cases hok : kd = 14 ∧ 0 ≤ idx ∧ idx < ln
      · obtain ⟨hkd, hi0, hi1⟩ := hok
        obtain ⟨hMC, hs1, hl1, hs2⟩ := HARR.out hkd
        have hmul : idx * (M el).size ≤ 16384 * 16385 := Int.mul_le_mul (by omega) hs2 (by omega) (by omega)
        have hmul0 : 0 ≤ idx * (M el).size := Int.mul_nonneg hi0 (by omega)
        have hwm : IntKind.i64.wrap (idx * (M el).size) = idx * (M el).size := wrap_id hmul0 (by omega)
        have hwa : IntKind.i64.wrap (a.off + idx * (M el).size) = a.off + idx * (M el).size := wrap_id (by omega) (by omega)
        have HR2 : Hid (RES = (⟨a.mem, el, a.off + idx * (M el).size, 0, 0⟩, true)) := by show RES = _; rw [HRES.out, if_neg hnm, if_pos ⟨hkd, hi0, hi1⟩]
        have HMC : Hid (∀ W, RU w0 b rb m rs M W → Calls Try.prog 54 #[.pointer (some ⟨rb, 0, none⟩), .int .i64 el] W fun e w' => e = .returned (.agg #[.int .i64 (M el).size, .int .i64 (M el).align]) ∧ RU w0 b rb m rs M w' ∧ Turned W w' (fun k => k = m)) := fun W hW => hMC W hW
        have hk1 : (kd != 14) = false := by simp [hkd]
        have hk2 : decide (idx < 0) = false := by simp; omega
        have hk3 : decide (ln ≤ idx) = false := by simp; omega
        have hbv : ∀ (x y z : Int) (Y : World), (Instr.build TPl #[(0, .int .i64 x), (1, .int .i64 y), (2, .int .i64 z)]).run Try.prog Y = .ok (.agg #[.int .i64 x, .int .i64 y, .int .i64 z, .int .i64 0, .int .i64 0]) Y := fun x y z Y => by kernel_rfl
        have hfd : ∀ (x y : Int) (Y : World), (Instr.field TX (.agg #[.int .i64 x, .int .i64 y]) 0).run Try.prog Y = .ok (.int .i64 x) Y := fun x y Y => by kernel_rfl
        have HMUL : Hid (0 ≤ idx * (M el).size ∧ idx * (M el).size ≤ 16384 * 16385) := ⟨hmul0, hmul⟩
        clear HRES HARR hMC hmul hmul0 hkd
        generalize M el = ex at *
        go_upto_region 8 with (fail)
        have N8 : ¬ (g8 = m ∨ g8 = m) := by have := HU.out.ne_m H8.out; omega
        have F0 : ∀ Y, SM wc m m Y → Y.cell? ⟨w.heap.size, 0, none⟩ = some (.int .i64 a.mem) := fun Y h => h.cell G1.out (by omega) (Lib.cell_of_heap G1.out 0)
        have F2 : ∀ Y, SM wc m m Y → Y.cell? ⟨w.heap.size, 2, none⟩ = some (.int .i64 a.off) := fun Y h => h.cell G1.out (by omega) (Lib.cell_of_heap G1.out 2)
        have F3 : ∀ Y, SM wc m m Y → Y.cell? ⟨w.heap.size + 1, 1, none⟩ = some (.int .i64 idx) := fun Y h => h.cell G2.out (by omega) (Lib.cell_of_heap G2.out 1)
        have F4 : ∀ Y, SM wc m m Y → Y.cell? ⟨g8, 1, none⟩ = some (.int .i64 el) := fun Y h => h.cell H8.out N8 (Lib.cell_of_heap H8.out 1)
        have HUD : Hid (RU w0 b rb m rs M wc.drew) := HU.out.kept (Below.refl _ _).drew
        have HSM : SM wc m m wc := Turned.refl _ _
        clear n0 n1 k0 k1 k2 k3 k4 k5 HF G3
        go_region_held3 (fun Y => SM wc m m Y) (with_reducible first | assumption | (refine SM.drew ?_; assumption) | (refine SM.meas ?_ (by assumption); assumption)) (first
          | (go_at_call 54; refine (HMC.out _ HUD.out).mono ?_; rintro e y1 ⟨rfl, hU1, ht1⟩; have HU1 : Hid (RU w0 b rb m rs M y1) := hU1; clear hU1))
        rename_i hHeld
        have x0 := F0 _ hHeld
        have x4 := F4 _ hHeld
        have R1 := blk_t HGR.out hHeld (by omega)
        have HR1 : Hid (_ = _) := R1
        have T1 : Hid (Turned w y1 (fun k => k = m)) := HTx.out.trans hHeld (fun _ _ e => by omega)
        clear hHeld HSM F0 F2 F3 F4 HUD HU HTx HMC ht1 G1 G2 HGR H8 HOW HSH
        go_wp2_with (first | ((with_reducible apply step_store R1); rfl; rfl; kernel_rfl; rfl; kernel_rfl) | fail)
        rw [HR2.out]
        refine (?_ : bodyPost _ _ _ _ _ _)
        refine ret_p2 (p := 6) (q := 7) (cs := #[.int .i64 a.mem, .int .i64 el, .int .i64 (a.off + idx * ex.size), .int .i64 0, .int .i64 0]) rfl rfl (setRow_heap _ _ _ _ _ _ HR1.out) rfl ?_
        exact ⟨rfl, HU1.out.turned (Turned.setRow _ _ _ (S := fun k => k = w.heap.size + 1 + 1) rfl) (fun k e => by omega) (fun e => by omega) (fun e => by omega), T1.out.trans (Turned.setRow _ _ _ (S := fun k => k = w.heap.size + 1 + 1) rfl) (fun k h e => by omega)⟩
      · have HR2 : Hid (RES = (pl0, false)) := by show RES = _; rw [HRES.out, if_neg hnm, if_neg hok]
        clear HRES HARR HF
        have hcs : (kd != 14) = true ∨ (kd != 14) = false ∧ (decide (idx < 0) = true ∨ decide (idx < 0) = false ∧ decide (ln ≤ idx) = true) := by
          by_cases h1 : kd = 14
          · right
            refine ⟨by simp [h1], ?_⟩
            by_cases h2 : idx < 0
            · left; simp [h2]
            · right
              exact ⟨by simp; omega, by simp only [decide_eq_true_eq]; exact Int.not_lt.1 fun h3 => hok ⟨h1, by omega, h3⟩⟩
          · left; simp [h1]
        rcases hcs with hk1 | ⟨hk1, hk2 | ⟨hk2, hk3⟩⟩
        all_goals
          clear hok
          go_wp2_with (first | ((with_reducible apply step_store G3); rfl; rfl; kernel_rfl; rfl; kernel_rfl) | fail)
          rw [HR2.out]
          refine (?_ : bodyPost _ _ _ _ _ _)
          refine ret_p2 (p := 6) (q := 7) (cs := #[.int .i64 0, .int .i64 0, .int .i64 0, .int .i64 0, .int .i64 0]) rfl rfl (setRow_heap _ _ _ _ _ _ HGR.out) rfl ?_
          exact ⟨rfl, HU.out.turned (Turned.setRow _ _ _ (S := fun k => k = w.heap.size + 1 + 1) rfl) (fun k e => by omega) (fun e => by omega) (fun e => by omega), HTx.out.trans (Turned.setRow _ _ _ (S := fun k => k = w.heap.size + 1 + 1) rfl) (fun k h e => by omega)⟩
end
end Go.Proofs.Ytkobggbipoappaa
