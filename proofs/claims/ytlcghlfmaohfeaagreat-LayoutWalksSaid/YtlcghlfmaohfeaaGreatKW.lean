/-
  The memo as Bits makes it.
  The given answer's lay (bits laid over others) and SameGaps.
  The given answer's memo of bits: rows of bools, each type's once.
  The bits of an array, of a record and of a bit-field as the given answer puts them together, one step after another. (Pure.)
  The given answer's bitsOf: what it knows already.
  The given answer's bitsOf of a type without parts.
  The given answer's bitsOf of an array.
-/
import Derived.Test.YtlcghlfmaohfeaaGreatKG
namespace Go.Proofs.YtlcghlfmaohfeaaGreat
open Go.RowKit Go.Maps
set_option linter.unusedVariables false
set_option maxRecDepth 100000
/-- Bits laid over others, up to so many. -/
def laidF (f h : Nat → Bool) (at_ n j : Nat) : Bool := f j || (decide (at_ ≤ j) && decide (j < at_ + n) && h (j - at_))
theorem laidF_zero (f h : Nat → Bool) (at_ j : Nat) : laidF f h at_ 0 j = f j := by
  unfold laidF
  have : (decide (at_ ≤ j) && decide (j < at_ + 0)) = false := by rw [Bool.and_eq_false_iff]; simp; omega
  rw [this]; simp
theorem laidF_step (f h : Nat → Bool) (at_ k j : Nat) : laidF f h at_ (k + 1) j = if j = at_ + k then (laidF f h at_ k (at_ + k) || h k) else laidF f h at_ k j := by
  unfold laidF
  by_cases e : j = at_ + k
  · subst e
    rw [if_pos rfl]
    have h1 : decide (at_ ≤ at_ + k) = true := by simp
    have h2 : decide (at_ + k < at_ + (k + 1)) = true := by simp
    have h3 : decide (at_ + k < at_ + k) = false := by simp
    rw [h1, h2, h3, show at_ + k - at_ = k by omega]
    simp
  · rw [if_neg e]
    have : decide (j < at_ + (k + 1)) = decide (j < at_ + k) := by rw [decide_eq_decide]; omega
    rw [this]
set_option maxHeartbeats 4000000 in
theorem rLay_c {w : World} {go ge N n c at_ : Nat} {f h : Nat → Bool} (h1 : BoR w go N f) (h2 : BoR w ge n h) (hne : go ≠ ge) (hat : at_ + n ≤ N) (hN : N ≤ 200000) (hc : n ≤ c) :
    Calls Tryz.prog 93 #[.slice (some ⟨go, 0, none⟩) N N, .slice (some ⟨ge, 0, none⟩) n c, .int .i64 (at_ : Int)] w fun e w' => e = .returned (.tuple #[]) ∧ BoR w' go N (laidF f h at_ n) ∧ Turned w w' (fun k => k = go) := by
  have H1 : Hid (BoR w go N f) := h1
  have H2 : Hid (BoR w ge n h) := h2
  clear h1 h2
  go_enter Tryz.func93, Tryz.ntmps93
  go_wp2
  go_loopw [6] (fun iv wr => ∃ k : Nat, iv = .int .i64 k ∧ k ≤ n ∧ Hid (BoR wr go N (laidF f h at_ k)) ∧ Hid (Turned w wr (fun k => k = go))) (fun iv _ => n - (intOf iv).toNat)
  case atStart => exact ⟨0, rfl, Nat.zero_le _, H1.out.congr (fun j _ => laidF_zero f h at_ j), Turned.refl _ _⟩
  case round =>
    obtain ⟨k, rfl, hkn, HB, HT⟩ := hrel
    by_cases hlt : k < n
    · have g1 := HB.out.cell (k := at_ + k) (by omega)
      have gf := HB.out.frozen (at_ + k)
      have g2 := (H2.out.turned HT.out (fun e => hne e.symm)).cell hlt
      have iw : IntKind.i64.wrap ((at_ : Int) + (k : Int)) = at_ + k := wrap_id (by omega) (by omega)
      have HS : Hid (∀ j, j < N → laidF f h at_ (k + 1) j = if j = at_ + k then (laidF f h at_ k (at_ + k) || h k) else laidF f h at_ k j) := fun j _ => laidF_step f h at_ k j
      cases hf : laidF f h at_ k (at_ + k) with
      | true =>
        rw [hf] at g1 HS
        have HB2 : Hid (BoR (wr.setCell ⟨go, at_ + k, none⟩ (.bool true)) go N (laidF f h at_ (k + 1))) := HB.out.set true (fun j hj => by rw [HS.out j hj]; simp)
        clear hf
        go_wp2
        exact ⟨⟨k + 1, by go_num, by omega, HB2, HT.out.trans (Turned.setCell (S := fun k => k = go) _ _ _ _ rfl) (fun _ _ h => h)⟩, by simp [intOf]; omega⟩
      | false =>
        rw [hf] at g1 HS
        have HB2 : Hid (BoR (wr.setCell ⟨go, at_ + k, none⟩ (.bool (h k))) go N (laidF f h at_ (k + 1))) := HB.out.set (h k) (fun j hj => by rw [HS.out j hj]; simp)
        clear hf
        generalize h k = b at *
        go_wp2
        exact ⟨⟨k + 1, by go_num, by omega, HB2, HT.out.trans (Turned.setCell (S := fun k => k = go) _ _ _ _ rfl) (fun _ _ h => h)⟩, by simp [intOf]; omega⟩
    · obtain rfl : k = n := by omega
      go_wp2
      go_end0
      exact ⟨rfl, HB.out, HT.out⟩
theorem neGp (a b : Int) (Y : World) : (binOp .neq TG (.agg #[.int .i64 a, .int .i64 b]) (.agg #[.int .i64 a, .int .i64 b])).run Tryz.prog Y = .ok (.bool false) Y := by
  have hT : Tryz.prog.underlying TG = some (.struct (Tryz.prog.fieldsOf TG)) := by kernel_rfl
  have hp : Tryz.prog.stoodInHeld TG = false := by kernel_rfl
  have h3 := Tryz.underlying3
  rw [run_neq_struct, run_equalIn_agg _ 9999 _ _ _ hT hp]
  simp only [Program.fieldsOf, Tryz.underlying75]
  go_simp
set_option maxHeartbeats 4000000 in
theorem rSameG_c {w : World} {l : List Gp} {b1 b2 c1 c2 : Nat} {p1 p2 : Option Addr} (hl : l.length ≤ 200000) (h1 : w.ownsRow b1 TG 2 (.slice p1 l.length c1) l.length (gpCells l)) (h2 : w.ownsRow b2 TG 2 (.slice p2 l.length c2) l.length (gpCells l)) :
    Calls Tryz.prog 21 #[.slice p1 l.length c1, .slice p2 l.length c2] w fun e w' => e = .returned (.bool true) ∧ Below w.heap.size w w' := by
  have hnn : ((l.length : Int) != (l.length : Int)) = false := by simp
  have H1 : Hid (w.ownsRow b1 TG 2 (.slice p1 l.length c1) l.length (gpCells l)) := h1
  have H2 : Hid (w.ownsRow b2 TG 2 (.slice p2 l.length c2) l.length (gpCells l)) := h2
  clear h1 h2
  go_enter Tryz.func21, Tryz.ntmps21
  go_wp2
  go_loopw [5] (fun iv wr => ∃ k : Nat, iv = .int .i64 k ∧ k ≤ l.length ∧ Hid (Below w.heap.size w wr)) (fun iv _ => l.length - (intOf iv).toNat)
  case atStart => exact ⟨0, rfl, Nat.zero_le _, Below.refl _ _⟩
  case round =>
    obtain ⟨k, rfl, hkl, HBr⟩ := hrel
    by_cases hlt : k < l.length
    · obtain ⟨P, hP⟩ : ∃ P, l[k]? = some P := ⟨_, List.getElem?_eq_getElem hlt⟩
      obtain ⟨g1, d1, e1, _, g1l, g1c, g1x, _⟩ := own_cell H1.out (by omega)
      obtain ⟨g2, d2, e2, _, g2l, g2c, g2x, _⟩ := own_cell H2.out (by omega)
      injection e1 with x1 x2 x3
      injection e2 with y1 y2 y3
      subst x1 x3 y1 y3
      obtain ⟨u1, u2⟩ := gp_at l k P hP
      have a0 := (HBr.out.cell (p := ⟨g1, k * 2, none⟩) g1l).trans (g1x (k * 2) _ u1)
      have a1 := (HBr.out.cell (p := ⟨g1, k * 2 + 1, none⟩) g1l).trans (g1x (k * 2 + 1) _ u2)
      have b0 := (HBr.out.cell (p := ⟨g2, k * 2, none⟩) g2l).trans (g2x (k * 2) _ u1)
      have b1 := (HBr.out.cell (p := ⟨g2, k * 2 + 1, none⟩) g2l).trans (g2x (k * 2 + 1) _ u2)
      have ne1 := neGp (P.from_ : Int) (P.bits : Int)
      clear g1x g2x hP x2 y2 u1 u2
      go_wp2
      go_quiet (fail)
      go_wp2
      exact ⟨⟨k + 1, by go_num, by omega, HBr.out.trans ⟨rfl, rfl, rfl, Nat.le_refl _, fun _ _ => rfl⟩⟩, by simp [intOf]; omega⟩
    · obtain rfl : k = l.length := by omega
      go_wp2
      go_ret
      exact ⟨rfl, HBr.out⟩
end Go.Proofs.YtlcghlfmaohfeaaGreat
namespace Go.Proofs.YtlcghlfmaohfeaaGreat
open Go.RowKit Go.Maps
set_option linter.unusedVariables false
set_option maxRecDepth 100000
abbrev TBs : TypeId := 105
/-- How many bits a type has. -/
def nB (M : Int → Ex) (k : Nat) : Nat := (8 * (M k).size).toNat
section
variable {M : Int → Ex} {H : Int → Nat → Bool} {W W' : World} {gm n : Nat} {A A' : Nat → Prop}
/-- What the memo holds of a type: nothing, or its bits in a block of their own. -/
def MeE (M : Int → Ex) (H : Int → Nat → Bool) (W : World) (gm : Nat) (A : Nat → Prop) (k : Nat) (u : Value) : Prop :=
  u = .slice none 0 0 ∨ ∃ g, u = .slice (some ⟨g, 0, none⟩) (nB M k) (nB M k) ∧ 0 < nB M k ∧ g ≠ gm ∧ ¬ A g ∧ BoR W g (nB M k) (H k)
def MeR (M : Int → Ex) (H : Int → Nat → Bool) (W : World) (gm n : Nat) (A : Nat → Prop) : Prop :=
  ∃ cs : Array Value, W.heap[gm]? = some (.cells cs TBs (0, 0)) ∧ cs.size = n ∧ ∀ k u, cs[k]? = some u → MeE M H W gm A k u
theorem MeR.lt (h : MeR M H W gm n A) : gm < W.heap.size := by
  obtain ⟨_, h, _⟩ := h; exact lt_of_heap h
theorem MeR.below (h : MeR M H W gm n A) (hb : Below W.heap.size W W') : MeR M H W' gm n A := by
  obtain ⟨cs, h1, h2, h3⟩ := h
  refine ⟨cs, blk_b h1 hb, h2, fun k u hu => ?_⟩
  rcases h3 k u hu with h | ⟨g, e1, e2, e3, e4, e5⟩
  · exact .inl h
  · exact .inr ⟨g, e1, e2, e3, e4, e5.below hb⟩
theorem MeR.turned {S : Nat → Prop} (h : MeR M H W gm n A) (ht : Turned W W' S) (hg : ¬ S gm) (hS : ∀ g, S g → A g) : MeR M H W' gm n A := by
  obtain ⟨cs, h1, h2, h3⟩ := h
  refine ⟨cs, blk_t h1 ht hg, h2, fun k u hu => ?_⟩
  rcases h3 k u hu with h | ⟨g, e1, e2, e3, e4, e5⟩
  · exact .inl h
  · exact .inr ⟨g, e1, e2, e3, e4, e5.turned ht (fun s => e4 (hS g s))⟩
theorem MeR.weak (h : MeR M H W gm n A) (hA : ∀ g, A' g → A g) : MeR M H W gm n A' := by
  obtain ⟨cs, h1, h2, h3⟩ := h
  refine ⟨cs, h1, h2, fun k u hu => ?_⟩
  rcases h3 k u hu with h | ⟨g, e1, e2, e3, e4, e5⟩
  · exact .inl h
  · exact .inr ⟨g, e1, e2, e3, fun a => e4 (hA g a), e5⟩
/-- A block that is not there yet. -/
theorem MeR.more (h : MeR M H W gm n A) {on : Nat} (ho : W.heap.size ≤ on) : MeR M H W gm n (fun k => A k ∨ k = on) := by
  obtain ⟨cs, h1, h2, h3⟩ := h
  refine ⟨cs, h1, h2, fun k u hu => ?_⟩
  rcases h3 k u hu with h | ⟨g, e1, e2, e3, e4, e5⟩
  · exact .inl h
  · refine .inr ⟨g, e1, e2, e3, fun a => ?_, e5⟩
    have := e5.lt
    rcases a with a | a
    · exact e4 a
    · omega
theorem MeR.cell (h : MeR M H W gm n A) {k : Nat} (hk : k < n) : ∃ u, W.cell? ⟨gm, k, none⟩ = some u ∧ MeE M H W gm A k u := by
  obtain ⟨cs, h1, h2, h3⟩ := h
  obtain ⟨u, hu⟩ : ∃ u, cs[k]? = some u := ⟨_, Array.getElem?_eq_getElem (by omega)⟩
  exact ⟨u, (Lib.cell_of_heap h1 k).trans hu, h3 k u hu⟩
theorem MeR.frozen (h : MeR M H W gm n A) (k : Nat) : W.frozen? ⟨gm, k, none⟩ = false := by
  obtain ⟨cs, h1, h2, h3⟩ := h
  exact frozen_of h1 k
/-- A type's bits are put there. -/
theorem MeR.put (h : MeR M H W gm n A) {k g : Nat} (hB : BoR W g (nB M k) (H k)) (h0 : 0 < nB M k) (hg : g ≠ gm) (hA : ¬ A g) :
    MeR M H (W.setCell ⟨gm, k, none⟩ (.slice (some ⟨g, 0, none⟩) (nB M k) (nB M k))) gm n A := by
  have ht : Turned W (W.setCell ⟨gm, k, none⟩ (.slice (some ⟨g, 0, none⟩) (nB M k) (nB M k))) (fun b => b = gm) := Turned.setCell (S := fun b => b = gm) _ _ _ _ rfl
  obtain ⟨cs, h1, h2, h3⟩ := h
  refine ⟨_, heap_setCell (j := k) h1 _, by simpa using h2, fun t u hu => ?_⟩
  rw [Array.getElem?_setIfInBounds] at hu
  by_cases e : k = t
  · subst e
    rw [if_pos rfl] at hu
    split at hu
    · obtain rfl := Option.some.inj hu
      exact .inr ⟨g, rfl, h0, hg, hA, hB.turned ht hg⟩
    · cases hu
  · rw [if_neg e] at hu
    rcases h3 t u hu with h | ⟨g', e1, e2, e3, e4, e5⟩
    · exact .inl h
    · exact .inr ⟨g', e1, e2, e3, e4, e5.turned ht e3⟩
/-- The memo as Bits makes it. -/
theorem MeR.made (W : World) (n : Nat) (A : Nat → Prop) : MeR M H (W.alloc (.cells (madeCells #[.slice none 0 0] n) TBs)) W.heap.size n A := by
  refine ⟨_, heap_r0 W _, by rw [size_madeCells], fun k u hu => .inl ?_⟩
  exact made_at n k u hu
end
end Go.Proofs.YtlcghlfmaohfeaaGreat
namespace Go.Proofs.YtlcghlfmaohfeaaGreat
open Go.RowKit Go.Maps
set_option linter.unusedVariables false
/-- An array's bits when so many elements are laid. -/
def arrF (h : Nat → Bool) (n t k : Nat) : Bool := decide (k < t * n) && h (k % n)
theorem arrF_zero (h : Nat → Bool) (n k : Nat) : arrF h n 0 k = false := by simp [arrF]
theorem arrF_step (h : Nat → Bool) {n : Nat} (hn : 0 < n) (t k : Nat) : arrF h n (t + 1) k = laidF (arrF h n t) h (t * n) n k := by
  unfold laidF
  simp only [arrF]
  rw [Nat.add_mul, Nat.one_mul]
  by_cases h1 : k < t * n
  · have a : decide (k < t * n + n) = true := by simp; omega
    have b : decide (k < t * n) = true := by simp; omega
    have c : decide (t * n ≤ k) = false := by simp; omega
    rw [a, b, c]; simp
  · by_cases h2 : k < t * n + n
    · have a : decide (k < t * n + n) = true := by simp; omega
      have b : decide (k < t * n) = false := by simp; omega
      have c : decide (t * n ≤ k) = true := by simp; omega
      have e : k % n = k - t * n := by
        have : k = (k - t * n) + t * n := by omega
        rw [this, Nat.add_mul_mod_self_right, Nat.mod_eq_of_lt (by omega)]
        omega
      rw [a, b, c, e]; simp
    · have a : decide (k < t * n + n) = false := by simp; omega
      have b : decide (k < t * n) = false := by simp; omega
      rw [a, b]; simp
/-- Bits set one after another. -/
def runF (f : Nat → Bool) (at_ c k : Nat) : Bool := f k || (decide (at_ ≤ k) && decide (k < at_ + c))
theorem runF_zero (f : Nat → Bool) (at_ k : Nat) : runF f at_ 0 k = f k := by
  unfold runF
  have : (decide (at_ ≤ k) && decide (k < at_ + 0)) = false := by rw [Bool.and_eq_false_iff]; simp; omega
  rw [this, Bool.or_false]
theorem runF_step (f : Nat → Bool) (at_ c k : Nat) : runF f at_ (c + 1) k = if k = at_ + c then true else runF f at_ c k := by
  unfold runF
  by_cases e : k = at_ + c
  · subst e
    rw [if_pos rfl]
    have a : decide (at_ ≤ at_ + c) = true := by simp
    have b : decide (at_ + c < at_ + (c + 1)) = true := by simp
    rw [a, b]; simp
  · rw [if_neg e]
    have : decide (k < at_ + (c + 1)) = decide (k < at_ + c) := by rw [decide_eq_decide]; omega
    rw [this]
section
variable {M : Int → Ex} {H : Int → Nat → Bool}
theorem hadW_zero (mem : List Mb) (k : Nat) : hadW M H mem [] k = false := rfl
theorem hadW_step {mem : List Mb} {l : List Pl} {t : Nat} {P : Pl} (h : l[t]? = some P) (k : Nat) : hadW M H mem (l.take (t + 1)) k = (hadW M H mem (l.take t) k || hitsW M H mem P k) := by
  unfold hadW
  rw [take_snoc1 h, List.any_append]
  simp
/-- A member that is no bit-field. -/
theorem hadW_lay {mem : List Mb} {l : List Pl} {t : Nat} {P : Pl} (h : l[t]? = some P) (hb : ¬ 0 < P.bits) {o s : Nat} (ho : P.off = o) {q : Nat} (hq : P.type = q) (hs : (M q).size = s) (k : Nat) :
    hadW M H mem (l.take (t + 1)) k = laidF (hadW M H mem (l.take t)) (H q) (8 * o) (nB M q) k := by
  rw [hadW_step h]
  unfold hitsW laidF nB
  rw [if_neg hb, ho, hq, hs]
  have a : decide (8 * (o : Int) ≤ k) = decide (8 * o ≤ k) := by rw [decide_eq_decide]; omega
  have b : decide ((k : Int) < 8 * ((o : Int) + s)) = decide (k < 8 * o + (8 * (s : Int)).toNat) := by rw [decide_eq_decide]; omega
  have c : (8 * (o : Int)).toNat = 8 * o := by omega
  rw [a, b, c]
/-- A bit-field with a name. -/
theorem hadW_run {mem : List Mb} {l : List Pl} {t : Nat} {P : Pl} (h : l[t]? = some P) (hb : 0 < P.bits) {m : Mb} (hm : mem[P.mem.toNat]? = some m) (hn : (m.name.toList == []) = false) {a c : Nat} (ha : 8 * P.off + P.bit = a) (hc : P.bits = c) (k : Nat) :
    hadW M H mem (l.take (t + 1)) k = runF (hadW M H mem (l.take t)) a c k := by
  rw [hadW_step h]
  unfold hitsW runF
  rw [if_pos hb, hm, ha, hc]
  have x : decide ((a : Int) ≤ k) = decide (a ≤ k) := by rw [decide_eq_decide]; omega
  have y : decide ((k : Int) < (a : Int) + c) = decide (k < a + c) := by rw [decide_eq_decide]; omega
  simp only [hn, Bool.not_false, Bool.true_and, x, y]
/-- A bit-field without a name. -/
theorem hadW_skip {mem : List Mb} {l : List Pl} {t : Nat} {P : Pl} (h : l[t]? = some P) (hb : 0 < P.bits) {m : Mb} (hm : mem[P.mem.toNat]? = some m) (hn : (m.name.toList == []) = true) (k : Nat) :
    hadW M H mem (l.take (t + 1)) k = hadW M H mem (l.take t) k := by
  rw [hadW_step h]
  unfold hitsW
  rw [if_pos hb, hm]
  simp only [hn, Bool.not_true, Bool.false_and, Bool.or_false]
end
end Go.Proofs.YtlcghlfmaohfeaaGreat
namespace Go.Proofs.YtlcghlfmaohfeaaGreat
open Go.RowKit Go.Maps
set_option linter.unusedVariables false
set_option maxRecDepth 100000
section
variable {M : Int → Ex} {H : Int → Nat → Bool} {W W' : World} {gm n : Nat} {A A' : Nat → Prop}
set_option maxHeartbeats 8000000 in
theorem rBits_hit {i rb g : Nat} {all : Value} (hi : i < n) (hn : n ≤ 512) (h0 : 0 < nB M i) (hnb : nB M i ≤ 200000) (hc : W.cell? ⟨gm, i, none⟩ = some (.slice (some ⟨g, 0, none⟩) (nB M i) (nB M i))) :
    Calls Tryz.prog 71 #[.pointer (some ⟨rb, 0, none⟩), all, .int .i64 i, .slice (some ⟨gm, 0, none⟩) n n] W fun e w' => e = .returned (.slice (some ⟨g, 0, none⟩) (nB M i) (nB M i)) ∧ w' = W := by
  generalize nB M i = N at *
  have hd : decide ((N : Int) > 0) = true := by simp; omega
  go_enter Tryz.func71, Tryz.ntmps71
  go_wp2
  go_ret
  exact ⟨rfl, rfl⟩
end
end Go.Proofs.YtlcghlfmaohfeaaGreat
namespace Go.Proofs.YtlcghlfmaohfeaaGreat
open Go.RowKit Go.Maps
set_option linter.unusedVariables false
set_option maxRecDepth 100000
theorem infoBoolW : (Tryz.prog.info? 4).map (fun i => (i.zero, i.size, i.bytes)) = some (some (.bool false), 1, 1) := by kernel_rfl
theorem make_boolsW (n : Int) (N : Nat) (hn : n = N) (hN : N ≤ 131072) (u : World) : (Instr.makeSlice 105 (.int .i64 n) (.int .i64 n)).run Tryz.prog u = .ok (.slice (some ⟨u.heap.size, 0, none⟩) N N) (u.alloc (.cells (madeCells #[.bool false] N) 4)) := by
  obtain ⟨i0, hi, hz0, hz1, hz2⟩ := info_parts infoBoolW
  have h := run_make (P := Tryz.prog) u 105 4 i0 (.bool false) Tryz.underlying105 hi hz0 .i64 .i64 n n (by omega) (by omega) (by rw [hz2]; omega) (by omega)
  have e : n.toNat = N := by omega
  rw [e] at h
  simpa [hz1, Value.cells] using h
section
variable {M : Int → Ex} {H : Int → Nat → Bool} {W W' : World} {gm n : Nat} {A A' : Nat → Prop} {rb ga base : Nat} {rv : Value} {rs2 : List (Rw × Value)} {ys : List Ly}
set_option maxHeartbeats 8000000 in
theorem rBits_flat (h : RT W rb rv rs2) {i : Nat} {q : Rw × Value} (hq : rs2[i]? = some q) (hn : n = rs2.length) (hk : q.1.kind ≠ 14) (hr : recK q.1.kind = false) (hL : LyR base W ga ys) {y : Ly} (hy : ys[i]? = some y) (hys : ys.length = rs2.length) (hsz : 8 * y.size = nB M i) (h0 : 0 < nB M i) (hnb : nB M i ≤ 131072)
    (hH : ∀ k, H i k = true) (hMe : MeR M H W gm n A) (hA : ∀ k, A k → k < W.heap.size) (hc : W.cell? ⟨gm, i, none⟩ = some (.slice none 0 0)) :
    Calls Tryz.prog 71 #[.pointer (some ⟨rb, 0, none⟩), .slice (some ⟨ga, 0, none⟩) n n, .int .i64 i, .slice (some ⟨gm, 0, none⟩) n n] W fun e w' => ∃ g, e = .returned (.slice (some ⟨g, 0, none⟩) (nB M i) (nB M i)) ∧ W.heap.size ≤ g ∧ BoR w' g (nB M i) (H i) ∧ MeR M H w' gm n A ∧ Turned W w' (fun k => k = gm) := by
  have hi : i < rs2.length := (List.getElem?_eq_some_iff.1 hq).1
  have h512 := h.len
  subst hn
  obtain ⟨gr, og, cr, rfl, hcap, hrow⟩ := h.at hq
  obtain ⟨ms, mc, hmsl, _⟩ := memSl_cells (h.rows.2 q (List.mem_of_getElem? hq))
  have hrb := h.cell
  have cR := fun Y (hY : Below W.heap.size W Y) => rRecord_c (h.below hY) (i : Int)
  rw [kindP_some hq, hr] at cR
  have HCR : Hid (∀ Y, Below W.heap.size W Y → Calls Tryz.prog 33 #[.pointer (some ⟨rb, 0, none⟩), .int .i64 (i : Int)] Y fun e w' => e = .returned (.bool false) ∧ w' = Y) := cR
  obtain ⟨⟨kd, el, ln, tg, mm, dn⟩, s1⟩ := q
  simp only at hmsl hk
  subst hmsl
  have r0 := hrow 0 (by omega)
  have r1 := hrow 1 (by omega)
  have r2 := hrow 2 (by omega)
  have r3 := hrow 3 (by omega)
  have r4 := hrow 4 (by omega)
  have r5 := hrow 5 (by omega)
  simp only [rwCells, Nat.add_zero, List.getElem?_cons_zero, List.getElem?_cons_succ] at r0 r1 r2 r3 r4 r5
  have hkd : (kd == 14) = false := by simpa using hk
  have hold := heap_r0 W (.cells #[.int .i64 0, .int .i64 0, .int .i64 0, .string ⟨#[]⟩, .slice none 0 0, .bool false] TR)
  have b1 := below1 W (.cells #[.int .i64 kd, .int .i64 el, .int .i64 ln, .string tg, .slice ms mm.length mc, .bool dn] TR)
  have HN1 : Hid (_ = _) := heap_r0 W (.cells #[.int .i64 kd, .int .i64 el, .int .i64 ln, .string tg, .slice ms mm.length mc, .bool dn] TR)
  have HB1 : Hid (Below W.heap.size W (W.alloc (.cells #[.int .i64 kd, .int .i64 el, .int .i64 ln, .string tg, .slice ms mm.length mc, .bool dn] TR))) := b1
  have HL : Hid (LyR base W ga ys) := hL
  have HY : Hid (ys[i]? = some y) := hy
  have HME : Hid (MeR M H W gm rs2.length A) := hMe
  have HA : Hid (∀ k, A k → k < W.heap.size) := hA
  have HH : Hid (∀ k, H i k = true) := hH
  have HC : Hid (W.cell? ⟨gm, i, none⟩ = some (.slice none 0 0)) := hc
  have hmk := fun u => make_boolsW ((nB M i : Nat) : Int) (nB M i) rfl hnb u
  have hgm := hMe.lt
  clear h hq hr hL hy hMe hA hrow cR hH b1 hk
  go_enter Tryz.func71, Tryz.ntmps71
  go_upto_region 4 with (first | ((with_reducible apply step_store hold); rfl; rfl; kernel_rfl; rfl; kernel_rfl; rw [World.setRow_alloc_new]) | fail)
  have hz1 : (W.alloc (.cells #[.int .i64 kd, .int .i64 el, .int .i64 ln, .string tg, .slice ms mm.length mc, .bool dn] TR)).heap.size = W.heap.size + 1 := by simp
  generalize W.alloc (.cells #[.int .i64 kd, .int .i64 el, .int .i64 ln, .string tg, .slice ms mm.length mc, .bool dn] TR) = W1 at *
  clear r0 r1 r2 r3 r4 r5 hold hrb hc
  have a0 := (HL.out.below HB1.out).cell HY.out (k := 0) (by omega)
  simp only [lyC, Nat.add_zero, List.getElem?_cons_zero] at a0
  have hw8 : IntKind.i64.wrap (8 * y.size) = 8 * y.size := wrap_id (by omega) (by omega)
  have b2 := below1 W1 (.cells (madeCells #[.bool false] (nB M i)) 4)
  have hz2 : (W1.alloc (.cells (madeCells #[.bool false] (nB M i)) 4)).heap.size = W1.heap.size + 1 := by simp
  have HO2 : Hid (BoR (W1.alloc (.cells (madeCells #[.bool false] (nB M i)) 4)) W1.heap.size (nB M i) (runF (fun _ => false) 0 0)) := (BoR.made W1 (nB M i)).congr (fun j _ => runF_zero _ _ _)
  have HB2 : Hid (Below W.heap.size W (W1.alloc (.cells (madeCells #[.bool false] (nB M i)) 4))) := HB1.out.trans (b2.mono HB1.out.size)
  have k0 := Lib.cell_of_heap (blk_b HN1.out b2) 0
  simp only [List.getElem?_toArray, List.getElem?_cons_zero] at k0
  clear b2
  go_wp2_with (first | (go_at_call 33; refine (HCR.out _ HB2.out).mono ?_; rintro e w' ⟨rfl, hw⟩; rw [hw]; clear hw w') | fail)
  rw [hz1] at HO2
  generalize W1.alloc (.cells (madeCells #[.bool false] (nB M i)) 4) = W2 at *
  clear k0 a0 hw8 hmk HN1 HB1 HCR
  go_loopw [16] (fun iv wr => ∃ k : Nat, iv = .int .i64 k ∧ k ≤ nB M i ∧ Hid (BoR wr (W.heap.size + 1) (nB M i) (runF (fun _ => false) 0 k)) ∧ Hid (Below W.heap.size W wr)) (fun iv _ => nB M i - (intOf iv).toNat)
  case atStart => exact ⟨0, rfl, Nat.zero_le _, HO2, HB2⟩
  case round =>
    obtain ⟨k, rfl, hkn, HBO, HBW⟩ := hrel
    by_cases hlt : k < nB M i
    · have c0 := HBO.out.cell hlt
      have cf := HBO.out.frozen k
      have HB3 : Hid (BoR (wr.setCell ⟨W.heap.size + 1, k, none⟩ (.bool true)) (W.heap.size + 1) (nB M i) (runF (fun _ => false) 0 (k + 1))) := HBO.out.set true (fun j _ => by rw [runF_step, Nat.zero_add])
      have HB4 : Hid (Below W.heap.size W (wr.setCell ⟨W.heap.size + 1, k, none⟩ (.bool true))) := Below.setCell HBW.out (p := ⟨W.heap.size + 1, k, none⟩) (by simp only; omega) _
      generalize runF (fun _ => false) 0 k k = b at *
      go_wp2
      exact ⟨⟨k + 1, by go_num, by omega, HB3, HB4⟩, by simp [intOf]; omega⟩
    · obtain rfl : k = nB M i := by omega
      have c0 := (HBW.out.cell (p := ⟨gm, i, none⟩) hgm).trans HC.out
      have HMW := HME.out.below HBW.out
      have cf := HMW.frozen i
      have HBF : Hid (BoR wr (W.heap.size + 1) (nB M i) (H i)) := HBO.out.congr (fun j hj => by rw [HH.out j]; unfold runF; simp; omega)
      have HMP : Hid (MeR M H (wr.setCell ⟨gm, i, none⟩ (.slice (some ⟨W.heap.size + 1, 0, none⟩) (nB M i) (nB M i))) gm rs2.length A) := HMW.put HBF.out h0 (by omega) (fun a => by have := HA.out _ a; omega)
      have HTS : Hid (Turned wr (wr.setCell ⟨gm, i, none⟩ (.slice (some ⟨W.heap.size + 1, 0, none⟩) (nB M i) (nB M i))) (fun k => k = gm)) := Turned.setCell (S := fun k => k = gm) _ _ _ _ rfl
      clear HMW
      go_wp2
      go_ret
      exact ⟨W.heap.size + 1, rfl, by omega, HBF.out.turned HTS.out (by omega), HMP.out, (Turned.of_below HBW.out (fun k => k = gm)).trans HTS.out (fun _ _ e => e)⟩
end
end Go.Proofs.YtlcghlfmaohfeaaGreat
namespace Go.Proofs.YtlcghlfmaohfeaaGreat
open Go.RowKit Go.Maps
set_option linter.unusedVariables false
set_option maxRecDepth 100000
section
variable {M : Int → Ex} {H : Int → Nat → Bool} {W W' : World} {gm n : Nat} {A A' : Nat → Prop} {rb ga base : Nat} {rv : Value} {rs2 : List (Rw × Value)} {ys : List Ly}
/-- What bitsOf of a part answers. -/
def BSub (M : Int → Ex) (H : Int → Nat → Bool) (W : World) (rb ga n gm t : Nat) : Prop := ∀ (A : Nat → Prop) (Y : World), Turned W Y (fun k => k = gm) → MeR M H Y gm n A → (∀ k, A k → k < Y.heap.size) →
  Calls Tryz.prog 71 #[.pointer (some ⟨rb, 0, none⟩), .slice (some ⟨ga, 0, none⟩) n n, .int .i64 (t : Int), .slice (some ⟨gm, 0, none⟩) n n] Y fun e w' => ∃ g, e = .returned (.slice (some ⟨g, 0, none⟩) (nB M t) (nB M t)) ∧ g ≠ gm ∧ ¬ A g ∧ BoR w' g (nB M t) (H t) ∧ MeR M H w' gm n A ∧ Turned Y w' (fun k => k = gm)
set_option maxHeartbeats 8000000 in
theorem rBits_arr (h : RT W rb rv rs2) {i : Nat} {q : Rw × Value} (hq : rs2[i]? = some q) (hn : n = rs2.length) (hk : q.1.kind = 14) {t : Nat} (ht : q.1.elem = t) {c : Nat} (hcn : q.1.len = c) (hnt : nB M i = c * nB M t) (ht0 : 0 < nB M t) (hL : LyR base W ga ys) {y : Ly} (hy : ys[i]? = some y) (hys : ys.length = rs2.length) (hsz : 8 * y.size = nB M i) (h0 : 0 < nB M i) (hnb : nB M i ≤ 131072)
    (hH : ∀ k, H i k = H t (k % nB M t)) (hMe : MeR M H W gm n A) (hA : ∀ k, A k → k < W.heap.size) (hc : W.cell? ⟨gm, i, none⟩ = some (.slice none 0 0)) (hsub : BSub M H W rb ga n gm t) :
    Calls Tryz.prog 71 #[.pointer (some ⟨rb, 0, none⟩), .slice (some ⟨ga, 0, none⟩) n n, .int .i64 i, .slice (some ⟨gm, 0, none⟩) n n] W fun e w' => ∃ g, e = .returned (.slice (some ⟨g, 0, none⟩) (nB M i) (nB M i)) ∧ g ≠ gm ∧ W.heap.size ≤ g ∧ BoR w' g (nB M i) (H i) ∧ MeR M H w' gm n A ∧ Turned W w' (fun k => k = gm) := by
  have hi : i < rs2.length := (List.getElem?_eq_some_iff.1 hq).1
  have h512 := h.len
  subst hn
  obtain ⟨gr, og, cr, rfl, hcap, hrow⟩ := h.at hq
  obtain ⟨ms, mc, hmsl, _⟩ := memSl_cells (h.rows.2 q (List.mem_of_getElem? hq))
  have hrb := h.cell
  have HSUB : Hid (BSub M H W rb ga rs2.length gm t) := hsub
  obtain ⟨⟨kd, el, ln, tg, mm, dn⟩, s1⟩ := q
  simp only at hmsl hk ht hcn
  subst hmsl hk ht hcn
  have r0 := hrow 0 (by omega)
  have r1 := hrow 1 (by omega)
  have r2 := hrow 2 (by omega)
  have r3 := hrow 3 (by omega)
  have r4 := hrow 4 (by omega)
  have r5 := hrow 5 (by omega)
  simp only [rwCells, Nat.add_zero, List.getElem?_cons_zero, List.getElem?_cons_succ] at r0 r1 r2 r3 r4 r5
  have hold := heap_r0 W (.cells #[.int .i64 0, .int .i64 0, .int .i64 0, .string ⟨#[]⟩, .slice none 0 0, .bool false] TR)
  have b1 := below1 W (.cells #[.int .i64 14, .int .i64 (t : Int), .int .i64 (c : Int), .string tg, .slice ms mm.length mc, .bool dn] TR)
  have HN1 : Hid (_ = _) := heap_r0 W (.cells #[.int .i64 14, .int .i64 (t : Int), .int .i64 (c : Int), .string tg, .slice ms mm.length mc, .bool dn] TR)
  have HB1 : Hid (Below W.heap.size W (W.alloc (.cells #[.int .i64 14, .int .i64 (t : Int), .int .i64 (c : Int), .string tg, .slice ms mm.length mc, .bool dn] TR))) := b1
  have HL : Hid (LyR base W ga ys) := hL
  have HY : Hid (ys[i]? = some y) := hy
  have HME : Hid (MeR M H W gm rs2.length A) := hMe
  have HA : Hid (∀ k, A k → k < W.heap.size) := hA
  have HH : Hid (∀ k, H i k = H t (k % nB M t)) := hH
  have HC : Hid (W.cell? ⟨gm, i, none⟩ = some (.slice none 0 0)) := hc
  have hmk := fun u => make_boolsW ((nB M i : Nat) : Int) (nB M i) rfl hnb u
  have hgm := hMe.lt
  have HNT : Hid (nB M i = c * nB M t) := hnt
  clear h hq hL hy hMe hA hrow hH b1 hsub hnt
  go_enter Tryz.func71, Tryz.ntmps71
  go_upto_region 4 with (first | ((with_reducible apply step_store hold); rfl; rfl; kernel_rfl; rfl; kernel_rfl; rw [World.setRow_alloc_new]) | fail)
  have hz1 : (W.alloc (.cells #[.int .i64 14, .int .i64 (t : Int), .int .i64 (c : Int), .string tg, .slice ms mm.length mc, .bool dn] TR)).heap.size = W.heap.size + 1 := by simp
  generalize W.alloc (.cells #[.int .i64 14, .int .i64 (t : Int), .int .i64 (c : Int), .string tg, .slice ms mm.length mc, .bool dn] TR) = W1 at *
  clear r0 r1 r2 r3 r4 r5 hold hrb hc
  have a0 := (HL.out.below HB1.out).cell HY.out (k := 0) (by omega)
  simp only [lyC, Nat.add_zero, List.getElem?_cons_zero] at a0
  have hw8 : IntKind.i64.wrap (8 * y.size) = 8 * y.size := wrap_id (by omega) (by omega)
  have b2 := below1 W1 (.cells (madeCells #[.bool false] (nB M i)) 4)
  have hz2 : (W1.alloc (.cells (madeCells #[.bool false] (nB M i)) 4)).heap.size = W1.heap.size + 1 := by simp
  have HO2 : Hid (BoR (W1.alloc (.cells (madeCells #[.bool false] (nB M i)) 4)) W1.heap.size (nB M i) (arrF (H t) (nB M t) 0)) := (BoR.made W1 (nB M i)).congr (fun j _ => arrF_zero _ _ _)
  have HB2 : Hid (Below W.heap.size W (W1.alloc (.cells (madeCells #[.bool false] (nB M i)) 4))) := HB1.out.trans (b2.mono HB1.out.size)
  have HK2 : Hid (_ = _) := blk_b HN1.out b2
  have k0 := Lib.cell_of_heap HK2.out 0
  have k1 := Lib.cell_of_heap HK2.out 1
  simp only [List.getElem?_toArray, List.getElem?_cons_zero, List.getElem?_cons_succ] at k0 k1
  have hme2 : MeR M H (W1.alloc (.cells (madeCells #[.bool false] (nB M i)) 4)) gm rs2.length (fun k => A k ∨ k = W.heap.size + 1) := (HME.out.more (on := W.heap.size + 1) (by omega)).below HB2.out
  have cE := HSUB.out (fun k => A k ∨ k = W.heap.size + 1) _ (Turned.of_below HB2.out (fun k => k = gm)) hme2 (fun k hk => Or.elim hk (fun hk => by have := HA.out k hk; omega) (fun hk => by omega))
  clear b2 hme2
  go_wp2_with (first | (go_at_call 71; refine cE.mono ?_; rintro e w3 ⟨ge, rfl, hgm3, hna, hbe, hme3, ht3⟩) | fail)
  have HO3 : Hid (BoR w3 (W.heap.size + 1) (nB M i) (arrF (H t) (nB M t) 0)) := by rw [hz1] at HO2; exact HO2.out.turned ht3 (by omega)
  have HK3 : Hid (_ = _) := blk_t HK2.out ht3 (by omega)
  have HT3 : Hid (Turned W w3 (fun k => k = gm)) := (Turned.of_below HB2.out (fun k => k = gm)).trans ht3 (fun _ _ e => e)
  have HE3 : Hid (BoR w3 ge (nB M t) (H t)) := hbe
  have HM3 : Hid (MeR M H w3 gm rs2.length (fun k => A k ∨ k = W.heap.size + 1)) := hme3
  have hne : W.heap.size + 1 ≠ ge := fun e => hna (.inr e.symm)
  have hlt3 : ge < w3.heap.size := hbe.lt
  clear cE ht3 hbe hme3 hna HO2 HK2 HB2 k0 k1 hmk a0 hw8
  go_loopw [12] (fun iv wr => ∃ k : Nat, iv = .int .i64 k ∧ k ≤ c ∧ Hid (BoR wr (W.heap.size + 1) (nB M i) (arrF (H t) (nB M t) k)) ∧ Hid (Turned w3 wr (fun k => k = W.heap.size + 1))) (fun iv _ => c - (intOf iv).toNat)
  case atStart => exact ⟨0, rfl, Nat.zero_le _, HO3, Turned.refl _ _⟩
  case round =>
    obtain ⟨k, rfl, hkc, HBO, HTW⟩ := hrel
    have k2 := Lib.cell_of_heap (blk_t HK3.out HTW.out (by omega)) 2
    simp only [List.getElem?_toArray, List.getElem?_cons_zero, List.getElem?_cons_succ] at k2
    have hcb : c ≤ 131072 := by
      have := Nat.le_mul_of_pos_right c ht0
      have := HNT.out
      omega
    by_cases hlt : k < c
    · have hle : k * nB M t + nB M t ≤ nB M i := by
        rw [HNT.out]
        have := Nat.mul_le_mul_right (nB M t) (show k + 1 ≤ c by omega)
        rw [Nat.add_mul, Nat.one_mul] at this
        exact this
      have hwm : IntKind.i64.wrap ((k : Int) * ((nB M t : Nat) : Int)) = ((k * nB M t : Nat) : Int) := by rw [← Int.natCast_mul, wrap_id (by omega) (by omega)]
      have cL := rLay_c HBO.out (HE3.out.turned HTW.out (fun e => hne e.symm)) hne hle (by omega) (Nat.le_refl _)
      have HLE : Hid (k * nB M t + nB M t ≤ nB M i) := hle
      clear hle
      go_wp2_with (first | (go_at_call 93; refine cL.mono ?_; rintro e w5 ⟨rfl, hb5, ht5⟩; have HB5 : Hid (BoR w5 (W.heap.size + 1) (nB M i) (arrF (H t) (nB M t) (k + 1))) := hb5.congr (fun j _ => arrF_step _ ht0 _ _); have HT5 : Hid (Turned w3 w5 (fun k => k = W.heap.size + 1)) := HTW.out.trans ht5 (fun _ _ e => e); clear hb5 ht5 cL) | fail)
      exact ⟨⟨k + 1, by go_num, by omega, HB5, HT5⟩, by simp [intOf]; omega⟩
    · obtain rfl : k = c := by omega
      have HMW := HM3.out.turned HTW.out (by omega) (fun g e => .inr e)
      obtain ⟨u, c0, _⟩ := HMW.cell hi
      have cf := HMW.frozen i
      have HBF : Hid (BoR wr (W.heap.size + 1) (nB M i) (H i)) := HBO.out.congr (fun j hj => by rw [HH.out j]; unfold arrF; rw [HNT.out] at hj; simp [hj])
      have HMP : Hid (MeR M H (wr.setCell ⟨gm, i, none⟩ (.slice (some ⟨W.heap.size + 1, 0, none⟩) (nB M i) (nB M i))) gm rs2.length A) := (HMW.weak (A' := A) (fun g e => .inl e)).put HBF.out h0 (by omega) (fun a => by have := HA.out _ a; omega)
      have HTS : Hid (Turned wr (wr.setCell ⟨gm, i, none⟩ (.slice (some ⟨W.heap.size + 1, 0, none⟩) (nB M i) (nB M i))) (fun k => k = gm)) := Turned.setCell (S := fun k => k = gm) _ _ _ _ rfl
      have HTA : Hid (Turned W wr (fun k => k = gm)) := HT3.out.trans HTW.out (fun k hk e => by omega)
      clear HMW
      go_wp2
      go_ret
      exact ⟨W.heap.size + 1, rfl, by omega, by omega, HBF.out.turned HTS.out (by omega), HMP.out, HTA.out.trans HTS.out (fun _ _ e => e)⟩
end
end Go.Proofs.YtlcghlfmaohfeaaGreat
namespace Go.Proofs.YtlcghlfmaohfeaaGreat
open Go.RowKit Go.Maps
set_option linter.unusedVariables false
theorem infoTBs : (Tryz.prog.info? TBs).map (fun i => (i.zero, i.size, i.bytes)) = some (some (.slice none 0 0), 1, 24) := by kernel_rfl
theorem make_memo (W : World) (n : Nat) (hn : n ≤ 512) : (Instr.makeSlice 137 (.int .i64 (n : Int)) (.int .i64 (n : Int))).run Tryz.prog W = .ok (.slice (some ⟨W.heap.size, 0, none⟩) n n) (W.alloc (.cells (madeCells (Value.slice none 0 0).cells n) TBs)) := by
  obtain ⟨i0, hi, hz0, hz1, hz2⟩ := info_parts infoTBs
  have h := run_make (P := Tryz.prog) W 137 TBs i0 (.slice none 0 0) Tryz.underlying137 hi hz0 .i64 .i64 (n : Int) (n : Int) (by omega) (by omega) (by rw [hz2]; omega) (by omega)
  have e : (n : Int).toNat = n := by omega
  rw [e] at h
  simpa [hz1] using h
end Go.Proofs.YtlcghlfmaohfeaaGreat
