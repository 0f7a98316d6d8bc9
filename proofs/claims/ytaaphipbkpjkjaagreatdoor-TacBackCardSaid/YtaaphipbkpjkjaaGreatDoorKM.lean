/-
  The words of an instruction's fields: target, operands of package tac.
  A text that is written line by line: the writer of package tac: full, line.
  A line is written: line of package tac's writer.
  Numbers as text: strconv.Itoa, strconv.FormatUint at base 10.
-/
import Derived.Test.YtaaphipbkpjkjaaGreatDoorKA
import Derived.Lib.AppendStr
import Derived.Laws.AppendOwn
import Derived.Test.YtaaphipbkpjkjaaGreatDoorShelf
import Derived.Lib.ItoaMem
import Derived.Lib.Walk
import Derived.Lib.LaidTab
import Derived.Test.YtaaphipbkpjkjaaGreatDoorKC
import Derived.Lib.ItoaLen
import Derived.Laws.Concat
namespace Go.Proofs.YtaaphipbkpjkjaaGreatDoor
open Go.RowKit Go.Maps
set_option linter.unusedVariables false
set_option linter.unusedSimpArgs false
set_option maxRecDepth 100000
abbrev TWr : TypeId := 81
abbrev TStr : TypeId := 9
abbrev TBy : TypeId := 5
def byV (t : List UInt8) : List Value := t.map fun b => Value.int .u8 b.toNat
theorem byV_length (t : List UInt8) : (byV t).length = t.length := by simp [byV]
theorem byV_append (a b : List UInt8) : byV (a ++ b) = byV a ++ byV b := by simp [byV]
theorem byV_one (t : List UInt8) : ∀ u ∈ byV t, u.oneCell' = true := by
  intro u hu
  simp only [byV, List.mem_map] at hu
  obtain ⟨b, _, rfl⟩ := hu
  rfl
/-- Nothing but the writer's block and blocks of bytes from B on has turned. -/
structure Kp (B b : Nat) (w w' : World) : Prop where
  os : w'.os = w.os
  tape : w'.tape = w.tape
  output : w'.output = w.output
  size : w.heap.size ≤ w'.heap.size
  block : ∀ k, k < w.heap.size → (k < B ∨ (k ≠ b ∧ ∀ cs, w.heap[k]? ≠ some (.cells cs TBy (0, 0)))) → w'.heap[k]? = w.heap[k]?
theorem Kp.refl (B b : Nat) (w : World) : Kp B b w w := ⟨rfl, rfl, rfl, Nat.le_refl _, fun _ _ _ => rfl⟩
theorem Kp.trans {B b : Nat} {x y z : World} (h : Kp B b x y) (k : Kp B b y z) : Kp B b x z :=
  ⟨k.os.trans h.os, k.tape.trans h.tape, k.output.trans h.output, Nat.le_trans h.size k.size, fun i hi hc => by
    have e := h.block i hi hc
    refine (k.block i (Nat.lt_of_lt_of_le hi h.size) ?_).trans e
    rcases hc with hc | ⟨h1, h2⟩
    · exact Or.inl hc
    · exact Or.inr ⟨h1, fun cs => by rw [e]; exact h2 cs⟩⟩
theorem Kp.of_below {B b : Nat} {w w' : World} (h : Below w.heap.size w w') : Kp B b w w' := ⟨h.os, h.tape, h.output, h.size, fun k hk _ => h.block k hk⟩
theorem Kp.below {B b : Nat} {w w' : World} (h : Kp B b w w') (hB : B ≤ w.heap.size) : Below B w w' :=
  ⟨h.os, h.tape, h.output, h.size, fun k hk => h.block k (Nat.lt_of_lt_of_le hk hB) (Or.inl hk)⟩
theorem Kp.blk {B b : Nat} {w w' : World} (h : Kp B b w w') {k : Nat} {cs : Array Value} {t : TypeId} {fr : Nat × Nat} (hk : w.heap[k]? = some (.cells cs t fr)) (hkb : k ≠ b) (ht : t ≠ TBy) : w'.heap[k]? = some (.cells cs t fr) :=
  (h.block k (lt_of_heap hk) (Or.inr ⟨hkb, fun c e => by rw [hk] at e; injection e with e; injection e with _ e; exact ht e⟩)).trans hk
/-- The writer in block b has written t. -/
structure WrT (B b : Nat) (t : List UInt8) (w : World) : Prop where
  hb : B ≤ b
  ex : ∃ v, w.heap[b]? = some (.cells #[v] TWr (0, 0)) ∧ w.ownsRow B TBy 1 v t.length (byV t)
theorem own_ne {w : World} {B b n : Nat} {v u : Value} {xs : List Value} (hg : w.heap[b]? = some (.cells #[u] TWr (0, 0))) (ho : w.ownsRow B TBy 1 v n xs) : v.ownBlock ≠ some b := by
  intro e
  obtain ⟨_, cur, hc⟩ := ownsRow_at ho e
  rw [hc] at hg
  injection hg with q
  injection q with _ q2
  exact absurd q2 (by decide)
theorem WrT.below {B b : Nat} {t : List UInt8} {w w' : World} (h : WrT B b t w) (hb : Below w.heap.size w w') : WrT B b t w' := by
  obtain ⟨h0, v, hg, ho⟩ := h
  exact ⟨h0, v, blk_b hg hb, ownsRow_turned ho (Turned.of_below hb (fun _ => False)) (fun _ _ h => h)⟩
/-- What a row of strings holds. -/
def StrV (w : World) (p : Option Addr) (cap : Nat) (l : List ByteArray) : Prop :=
  (l.length ≤ cap ∧ (p = none → cap = 0)) ∧ (l ≠ [] → ∃ g o cs, p = some ⟨g, o, none⟩ ∧ w.heap[g]? = some (.cells cs TStr (0, 0)) ∧ ∀ i s, l[i]? = some s → cs[o + i]? = some (.string s))
theorem StrV.kp {B b : Nat} {w w' : World} {p : Option Addr} {cap : Nat} {l : List ByteArray} (h : StrV w p cap l) (hk : Kp B b w w') {v : Value} (hg : w.heap[b]? = some (.cells #[v] TWr (0, 0))) : StrV w' p cap l :=
  ⟨h.1, fun hn => by
    obtain ⟨g, o, cs, e, h1, h2⟩ := h.2 hn
    exact ⟨g, o, cs, e, hk.blk h1 (tag_ne h1 hg (by decide)) (by decide), h2⟩⟩
def sepW (i : Nat) (s : ByteArray) : List UInt8 := (if i = 0 then [] else [32]) ++ s.data.toList
def wT : Nat → List ByteArray → List UInt8
  | _, [] => []
  | i, s :: r => sepW i s ++ wT (i + 1) r
theorem wT_snoc (s : ByteArray) : ∀ (l : List ByteArray) (i : Nat), wT i (l ++ [s]) = wT i l ++ sepW (i + l.length) s
  | [], i => by simp [wT]
  | a :: l, i => by simp only [List.cons_append, wT, wT_snoc s l (i + 1), List.append_assoc, List.length_cons]; congr 3; omega
def lineT (ws : List ByteArray) : List UInt8 := wT 0 ws ++ [10]
def lineS (t : List UInt8) (ws : List ByteArray) : List UInt8 := if 1048576 < t.length then t else t ++ lineT ws
section
variable {w : World} {B b : Nat} {t : List UInt8}
theorem full_c (hT : WrT B b t w) (hl : t.length ≤ 9223372036854775807) :
    Calls Tryz.prog 39 #[.pointer (some ⟨b, 0, none⟩)] w fun e w' => e = .returned (.bool (decide (1048576 < t.length))) ∧ w' = w := by
  obtain ⟨h0, v, hg, ho⟩ := hT
  obtain ⟨p, cap, rfl⟩ := slice_of_own ho
  have c0 := (Lib.cell_of_heap hg 0).trans rfl
  have HE : Hid (decide (1048576 < t.length) = decide ((1048576 : Int) < (t.length : Int))) := by show _ = _; rw [Bool.eq_iff_iff]; simp; omega
  rw [HE.out]
  clear hg ho HE
  go_enter Tryz.func39, Tryz.ntmps39
  go_wp2
  go_ret
  exact ⟨rfl, rfl⟩
end
theorem infoB : (Tryz.prog.info? TBy).map (fun i => (i.zero, i.size, i.bytes)) = some (some (.int .u8 0), 1, 1) := by kernel_rfl
theorem wr_put {B b : Nat} {w w2 : World} {v v' : Value} {n : Nat} {xs : List Value} {t' : List UInt8} (h0 : B ≤ b) (hg : w.heap[b]? = some (.cells #[v] TWr (0, 0))) (ho : w.ownsRow B TBy 1 v n xs) (hgr : w.grownBy w2 v.ownBlock)
    (ho2 : w2.ownsRow B TBy 1 v' t'.length (byV t')) : WrT B b t' (w2.setCell ⟨b, 0, none⟩ v') ∧ Kp B b w (w2.setCell ⟨b, 0, none⟩ v') := by
  have hne := own_ne hg ho
  have hg2 : w2.heap[b]? = some (.cells #[v] TWr (0, 0)) := (hgr.block b (lt_of_heap hg) (fun e => hne e.symm)).trans hg
  have ht : Turned w2 (w2.setCell ⟨b, 0, none⟩ v') (fun k => k = b) := Turned.setCell w2 b 0 v' rfl
  refine ⟨⟨h0, v', heap_setCell hg2 v', ownsRow_turned ho2 ht (fun k hk e => own_ne hg2 ho2 (by rw [hk, e]))⟩, ht.os.trans hgr.os, ht.tape.trans hgr.tape, ht.output.trans hgr.output, Nat.le_trans hgr.size ht.size, fun k hk hc => ?_⟩
  have hkb : k ≠ b := by
    rcases hc with hc | hc
    · omega
    · exact hc.1
  refine (ht.block k (Nat.lt_of_lt_of_le hk hgr.size) hkb).trans (hgr.block k hk fun e => ?_)
  obtain ⟨hB, cur, hcur⟩ := ownsRow_at ho e.symm
  rcases hc with hc | hc
  · omega
  · exact hc.2 cur hcur
end Go.Proofs.YtaaphipbkpjkjaaGreatDoor
namespace Go.Proofs.YtaaphipbkpjkjaaGreatDoor
open Go.RowKit Go.Maps
set_option linter.unusedVariables false
set_option linter.unusedSimpArgs false
set_option maxRecDepth 100000
theorem byV_str (t : List UInt8) (s : ByteArray) : byV t ++ Lib.strCells s = byV (t ++ s.data.toList) := by simp [byV, Lib.strCells]
theorem len_str (t : List UInt8) (s : ByteArray) : t.length + s.size = (t ++ s.data.toList).length := by simp
theorem take_succ {α : Type} {l : List α} {k : Nat} {a : α} (h : l[k]? = some a) : l.take (k + 1) = l.take k ++ [a] := by rw [List.take_add_one, h]; rfl
theorem wT_take_le {ws : List ByteArray} (k : Nat) : (wT 0 (ws.take k)).length ≤ (wT 0 ws).length := by
  have key : ∀ (l r : List ByteArray) (i : Nat), (wT i l).length ≤ (wT i (l ++ r)).length := by
    intro l
    induction l with
    | nil => intro r i; simp [wT]
    | cons a l ih => intro r i; simp only [List.cons_append, wT, List.length_append]; have := ih r (i + 1); omega
  have := key (ws.take k) (ws.drop k) 0
  rwa [List.take_append_drop] at this
section
variable {w : World} {B b : Nat} {t : List UInt8}
set_option maxHeartbeats 4000000 in
theorem line_c (hT : WrT B b t w) (hB : B ≤ w.heap.size) {p : Option Addr} {cap : Nat} {ws : List ByteArray} (hS : StrV w p cap ws) (hl : t.length + (lineT ws).length ≤ 100000000000000) (hn : ws.length ≤ 1000000000) :
    Calls Tryz.prog 62 #[.pointer (some ⟨b, 0, none⟩), .slice p ws.length cap] w fun e w' => e = .returned (.tuple #[]) ∧ WrT B b (lineS t ws) w' ∧ Kp B b w w' := by
  have cF := full_c hT (by omega)
  have HT0 : Hid (WrT B b t w) := hT
  by_cases hf : 1048576 < t.length
  · have e0 : decide (1048576 < t.length) = true := by simpa using hf
    have HV : Hid (lineS t ws = t) := by show _ = _; unfold lineS; rw [if_pos hf]
    rw [e0] at cF
    clear hT e0 hf
    go_enter Tryz.func62, Tryz.ntmps62
    go_wp2_with (first | (go_at_call 39; refine cF.mono ?_; rintro e w' ⟨rfl, hw⟩; rw [hw]; clear hw w' cF) | fail)
    refine bodyPost_ret (results_none rfl _ _ _) rfl ?_
    exact ⟨rfl, by rw [HV.out]; exact HT0.out, Kp.refl _ _ _⟩
  · have e0 : decide (1048576 < t.length) = false := by simpa using hf
    have HV : Hid (lineS t ws = t ++ wT 0 ws ++ [10]) := by show _ = _; unfold lineS lineT; rw [if_neg hf, List.append_assoc]
    rw [e0] at cF
    have hl2 : t.length + (wT 0 ws).length + 1 ≤ 100000000000000 := by unfold lineT at hl; simp at hl; omega
    have HS : Hid (StrV w p cap ws) := hS
    have hcap := hS.1.1
    obtain ⟨i0, hi, hz0, hz1, hz2⟩ := info_parts infoB
    clear hT e0 hf hl hS
    go_enter Tryz.func62, Tryz.ntmps62
    go_wp2_with (first | (go_at_call 39; refine cF.mono ?_; rintro e w' ⟨rfl, hw⟩; rw [hw]; clear hw w' cF) | fail)
    go_loopw [10] (fun iv wr => ∃ k : Nat, iv = .int .i64 k ∧ k ≤ ws.length ∧ Hid (WrT B b (t ++ wT 0 (ws.take k)) wr) ∧ Hid (Kp B b w wr)) (fun iv _ => ws.length - (intOf iv).toNat)
    case atStart => exact ⟨0, rfl, Nat.zero_le _, by simpa [wT] using HT0, Kp.refl _ _ _⟩
    case round =>
      obtain ⟨k, rfl, hk, HT, HK⟩ := hrel
      have hBr : B ≤ wr.heap.size := Nat.le_trans hB HK.out.size
      by_cases hlt : k < ws.length
      · obtain ⟨s, hs⟩ : ∃ s, ws[k]? = some s := ⟨_, List.getElem?_eq_getElem hlt⟩
        obtain ⟨h0, v, hg, ho⟩ := HT.out
        obtain ⟨_, v00, hg00, _⟩ := HT0.out
        obtain ⟨gs, os, cs, rfl, hgs, hcs⟩ := (HS.out.kp HK.out hg00).2 (by intro e; rw [e] at hlt; simp at hlt)
        have a0 := (Lib.cell_of_heap hgs (os + k)).trans (hcs k s hs)
        have HGS : Hid (wr.heap[gs]? = some (.cells cs TStr (0, 0))) := hgs
        have HTS : Hid (ws.take (k + 1) = ws.take k ++ [s]) := take_succ hs
        have hwl : Hid ((wT 0 (ws.take (k + 1))).length ≤ (wT 0 ws).length) := wT_take_le (k + 1)
        have HW : Hid (wT 0 (ws.take (k + 1)) = wT 0 (ws.take k) ++ sepW k s) := by
          show _ = _
          rw [HTS.out, wT_snoc]
          congr 2
          simp; omega
        obtain ⟨pv, cv, rfl⟩ := slice_of_own ho
        have c0 := (Lib.cell_of_heap hg 0).trans rfl
        generalize hT' : t ++ wT 0 (ws.take k) = T0 at *
        have HG : Hid (wr.heap[b]? = some (.cells #[.slice pv T0.length cv] TWr (0, 0))) := hg
        have HO : Hid (wr.ownsRow B TBy 1 (.slice pv T0.length cv) T0.length (byV T0)) := ho
        have hlS : Hid (T0.length + (sepW k s).length + 1 ≤ 100000000000000) := by
          show _ ≤ _
          have := hwl.out
          rw [HW.out, List.length_append] at this
          rw [← hT']; simp only [List.length_append]; omega
        have HF : Hid (t ++ wT 0 (ws.take (k + 1)) = T0 ++ sepW k s) := by show _ = _; rw [HW.out, ← List.append_assoc, hT']
        clear hgs hcs hg00 hg ho hs HTS hwl HW hT'
        by_cases hk0 : k = 0
        · have HSE : Hid (sepW k s = s.data.toList) := by show _ = _; unfold sepW; rw [if_pos hk0]; rfl
          have dk : decide ((0 : Int) < (k : Int)) = false := by simp; omega
          have dk2 : ¬ (0 < k) := by omega
          clear hk0
          go_wp2_with (first | (at_builtin; refine Lib.wpList_append_own_string _ rfl _ _ 67 9 rfl B TBy i0 Tryz.underlying67 Tryz.underlying9 hi hz0 hz1 hz2 _ _ _ rfl HO.out s rfl ?c3 ?c4 hBr ?_) | fail)
          case c3 => have := hlS.out; rw [HSE.out] at this; simp at this; unfold maxLen; omega
          case c4 => have := hlS.out; rw [HSE.out] at this; simp at this; omega
          intro v' w2 ho2 hgr _
          rw [byV_str, len_str] at ho2
          have HP : Hid _ := wr_put h0 HG.out HO.out hgr ho2
          obtain ⟨pv', cv', rfl⟩ := slice_of_own ho2
          have hg2 : w2.heap[b]? = some (.cells #[.slice pv T0.length cv] TWr (0, 0)) := (hgr.block b (lt_of_heap HG.out) (fun e => own_ne HG.out HO.out e.symm)).trans HG.out
          have f2 := frozen_of hg2 0
          have d2 := (Lib.cell_of_heap hg2 0).trans rfl
          have hln : (T0 ++ s.data.toList).length = T0.length + s.size := (len_str T0 s).symm
          rw [hln] at HP
          clear hg2 hgr ho2 hln
          go_wp2
          exact ⟨⟨k + 1, by go_num, by omega, by show WrT _ _ _ _; rw [HF.out, HSE.out]; exact HP.out.1, HK.out.trans HP.out.2⟩, by simp [intOf]; omega⟩
        · have dk : decide ((0 : Int) < (k : Int)) = true := by simp; omega
          have dk2 : 0 < k := by omega
          have HSE : Hid (T0 ++ sepW k s = (T0 ++ [32]) ++ s.data.toList) := by show _ = _; unfold sepW; rw [if_neg hk0]; simp
          have hl3 : Hid ((T0 ++ [32]).length + s.size + 1 ≤ 100000000000000) := by
            show _ ≤ _
            have := hlS.out
            unfold sepW at this
            rw [if_neg hk0] at this
            simp at this ⊢
            omega
          have b1 := below1 wr (.cells #[.int .u8 32] TBy)
          have HO1 : Hid ((wr.alloc (.cells #[.int .u8 32] TBy)).ownsRow B TBy 1 (.slice pv T0.length cv) T0.length (byV T0)) := ownsRow_turned HO.out (Turned.of_below b1 (fun _ => False)) (fun _ _ h => h)
          have HG1 : Hid ((wr.alloc (.cells #[.int .u8 32] TBy)).heap[b]? = some (.cells #[.slice pv T0.length cv] TWr (0, 0))) := blk_b HG.out b1
          have HK1 : Hid (Kp B b wr (wr.alloc (.cells #[.int .u8 32] TBy))) := Kp.of_below b1
          have hB1 : B ≤ (wr.alloc (.cells #[.int .u8 32] TBy)).heap.size := Nat.le_trans hBr b1.size
          have nw := cells_new wr #[.int .u8 32] TBy
          clear b1 hk0
          go_wp2_with (first | (at_builtin; refine wpList_append_own _ rfl _ _ 67 rfl B TBy i0 (.int .u8 0) 1 1 Tryz.underlying67 hi hz0 hz1 hz2 rfl (by decide) _ _ _ rfl HO1.out ⟨wr.heap.size, 0, none⟩ 1 1 [.int .u8 32] rfl rfl nw (by intro u hu; simp at hu; subst hu; rfl) ?c3 ?c4 hB1 ?_) | fail)
          case c3 => have := hlS.out; unfold maxLen; omega
          case c4 => have := hlS.out; omega
          intro v' w2 ho2 hgr _
          have ho2' : w2.ownsRow B TBy 1 v' (T0 ++ [32]).length (byV (T0 ++ [32])) := by simpa [byV] using ho2
          have HP := wr_put h0 HG1.out HO1.out hgr ho2'
          obtain ⟨pv', cv', rfl⟩ := slice_of_own ho2'
          have hg2 : w2.heap[b]? = some (.cells #[.slice pv T0.length cv] TWr (0, 0)) := (hgr.block b (lt_of_heap HG1.out) (fun e => own_ne HG1.out HO1.out e.symm)).trans HG1.out
          have f2 := frozen_of hg2 0
          have d2 := (Lib.cell_of_heap hg2 0).trans rfl
          have hne2 := own_ne hg2 ho2'
          have HG3 : Hid ((w2.setCell ⟨b, 0, none⟩ (.slice pv' (T0 ++ [32]).length cv')).heap[b]? = some (.cells #[.slice pv' (T0 ++ [32]).length cv'] TWr (0, 0))) := heap_setCell hg2 _
          have HO3 : Hid ((w2.setCell ⟨b, 0, none⟩ (.slice pv' (T0 ++ [32]).length cv')).ownsRow B TBy 1 (.slice pv' (T0 ++ [32]).length cv') (T0 ++ [32]).length (byV (T0 ++ [32]))) :=
            ownsRow_turned ho2' (Turned.setCell w2 b 0 _ (S := fun k => k = b) rfl) (fun k hk e => hne2 (by rw [hk, e]))
          have HK3 : Hid (Kp B b w (w2.setCell ⟨b, 0, none⟩ (.slice pv' (T0 ++ [32]).length cv'))) := HK.out.trans (HK1.out.trans HP.2)
          have hB3 : B ≤ (w2.setCell ⟨b, 0, none⟩ (.slice pv' (T0 ++ [32]).length cv')).heap.size := Nat.le_trans hB HK3.out.size
          have d3 := (Lib.cell_of_heap HG3.out 0).trans rfl
          have hln : (T0 ++ [32]).length = T0.length + 1 := by simp
          rw [hln] at HG3 HO3 HK3 hB3 d3
          have hl4 : Hid (T0.length + 1 + s.size + 1 ≤ 100000000000000) := by have := hl3.out; rw [hln] at this; exact this
          clear hg2 hgr ho2 ho2' HP hne2 hl3 hln
          go_wp2_with (first | (at_builtin; refine Lib.wpList_append_own_string _ rfl _ _ 67 9 rfl B TBy i0 Tryz.underlying67 Tryz.underlying9 hi hz0 hz1 hz2 _ _ _ rfl HO3.out s rfl ?c3 ?c4 hB3 ?_) | fail)
          case c3 => have := hl4.out; unfold maxLen; omega
          case c4 => have := hl4.out; omega
          intro v' w3 ho4 hgr4 _
          have ho4' : w3.ownsRow B TBy 1 v' ((T0 ++ [32]) ++ s.data.toList).length (byV ((T0 ++ [32]) ++ s.data.toList)) := by rw [← byV_str, ← len_str]; simpa using ho4
          have HP : Hid _ := wr_put h0 HG3.out HO3.out hgr4 ho4'
          obtain ⟨pv2, cv2, rfl⟩ := slice_of_own ho4'
          have hg4 := (hgr4.block b (lt_of_heap HG3.out) (fun e => own_ne HG3.out HO3.out e.symm)).trans HG3.out
          have f4 := frozen_of hg4 0
          have d4 := (Lib.cell_of_heap hg4 0).trans rfl
          have hln : (T0 ++ [32] ++ s.data.toList).length = T0.length + (s.size + 1) := by rw [← len_str]; simp; omega
          rw [hln] at HP
          clear hg4 hgr4 ho4 ho4' hln
          go_wp2
          exact ⟨⟨k + 1, by go_num, by omega, by show WrT _ _ _ _; rw [HF.out, HSE.out]; exact HP.out.1, HK3.out.trans HP.out.2⟩, by simp [intOf]; omega⟩
      · obtain rfl : k = ws.length := by omega
        obtain ⟨h0, v, hg, ho⟩ := HT.out
        rw [List.take_length] at ho
        obtain ⟨pv, cv, rfl⟩ := slice_of_own ho
        have c0 := (Lib.cell_of_heap hg 0).trans rfl
        generalize hT' : t ++ wT 0 ws = T0 at *
        have hlT : T0.length + 1 ≤ 100000000000000 := by rw [← hT']; simp only [List.length_append]; omega
        have b1 := below1 wr (.cells #[.int .u8 10] TBy)
        have HO1 : Hid ((wr.alloc (.cells #[.int .u8 10] TBy)).ownsRow B TBy 1 (.slice pv T0.length cv) T0.length (byV T0)) := ownsRow_turned ho (Turned.of_below b1 (fun _ => False)) (fun _ _ h => h)
        have HG1 : Hid ((wr.alloc (.cells #[.int .u8 10] TBy)).heap[b]? = some (.cells #[.slice pv T0.length cv] TWr (0, 0))) := blk_b hg b1
        have HK1 : Hid (Kp B b wr (wr.alloc (.cells #[.int .u8 10] TBy))) := Kp.of_below b1
        have hB1 : B ≤ (wr.alloc (.cells #[.int .u8 10] TBy)).heap.size := Nat.le_trans hBr b1.size
        have nw := cells_new wr #[.int .u8 10] TBy
        clear b1 hT' hg ho hl2 HT
        go_wp2_with (first | (at_builtin; refine wpList_append_own _ rfl _ _ 67 rfl B TBy i0 (.int .u8 0) 1 1 Tryz.underlying67 hi hz0 hz1 hz2 rfl (by decide) _ _ _ rfl HO1.out ⟨wr.heap.size, 0, none⟩ 1 1 [.int .u8 10] rfl rfl nw (by intro u hu; simp at hu; subst hu; rfl) ?c3 ?c4 hB1 ?_) | fail)
        case c3 => unfold maxLen; omega
        case c4 => omega
        intro v' w2 ho2 hgr _
        have ho2' : w2.ownsRow B TBy 1 v' (T0 ++ [10]).length (byV (T0 ++ [10])) := by simpa [byV] using ho2
        have HP : Hid _ := wr_put h0 HG1.out HO1.out hgr ho2'
        obtain ⟨pv', cv', rfl⟩ := slice_of_own ho2'
        have hg2 : w2.heap[b]? = some (.cells #[.slice pv T0.length cv] TWr (0, 0)) := (hgr.block b (lt_of_heap HG1.out) (fun e => own_ne HG1.out HO1.out e.symm)).trans HG1.out
        have f2 := frozen_of hg2 0
        have d2 := (Lib.cell_of_heap hg2 0).trans rfl
        clear hg2 hgr ho2 ho2'
        have hln : (T0 ++ [10]).length = T0.length + 1 := by simp
        rw [hln] at HP
        clear hln
        go_wp2
        go_end0
        exact ⟨rfl, by rw [HV.out]; exact HP.out.1, HK.out.trans (HK1.out.trans HP.out.2)⟩
end
end Go.Proofs.YtaaphipbkpjkjaaGreatDoor
namespace Go.Proofs.YtaaphipbkpjkjaaGreatDoor
open Go.RowKit Go.Maps Go.Sort
set_option linter.unusedVariables false
set_option linter.unusedSimpArgs false
set_option maxRecDepth 100000
abbrev Tabs (w : World) : Prop := Lib.TabIs Tryz.prog w "internal/strconv.uint64pow10" .u64 Lib.pow10Tab
theorem Tabs.below {w w' : World} (h : Tabs w) (hb : Below w.heap.size w w') : Tabs w' := by
  unfold Tabs Lib.TabIs World.var? at h ⊢
  rcases hg : Tryz.prog.globalNamed "internal/strconv.uint64pow10" with _ | g
  · rw [hg] at h; cases h
  · rw [hg] at h
    simp only [Option.bind_some] at h ⊢
    have hlt : g < w.heap.size := by
      rcases Nat.lt_or_ge g w.heap.size with h' | h'
      · exact h'
      · rw [Array.getElem?_eq_none h'] at h; cases h
    rw [hb.block g hlt]; exact h
def decS (n : Int) : ByteArray := ⟨(Lib.itoa n).toArray⟩
def natS (u : Nat) : ByteArray := ⟨(Lib.decDigits u).toArray⟩
theorem below_grow (w : World) (k : Nat) (os : Array Obj) : Below w.heap.size w (grow (w.drewN k) os) :=
  ⟨rfl, rfl, rfl, by simp [grow, World.drewN], fun i hi => by simp [grow, World.drewN, Array.getElem?_append, hi]⟩
theorem itoa_c {w : World} (h : Tabs w) (n : Int) (h0 : -9223372036854775808 ≤ n) (h1 : n ≤ 9223372036854775807) :
    Calls Tryz.prog 63 #[.int .i64 n] w fun e w' => e = .returned (.string (decS n)) ∧ Below w.heap.size w w' :=
  (Tryz.strconv_Itoa n h0 h1 w h).mono (by rintro e w' ⟨rfl, k, os, rfl⟩; exact ⟨rfl, below_grow w k os⟩)
set_option maxHeartbeats 4000000 in
theorem fmtUintIn_c {w : World} (htab : Tabs w) (u : Nat) (hu : u < 18446744073709551616) :
    Calls Tryz.prog 163 #[.int .u64 u, .int .i64 10] w fun e w' => e = .returned (.string (natS u)) ∧ Below w.heap.size w w' := by
  unfold natS
  by_cases hs : u < 100
  · have cs := Tryz.internal_strconv_small u hs w
    have d1 : decide ((u : Int) < 100) = true := by simp; omega
    have d2 : IntKind.i64.wrap (u : Int) = (u : Int) := wrap_id (by omega) (by omega)
    go_enter Tryz.func163, Tryz.ntmps163
    go_wp2_with (first | (go_at_call 133; refine cs.mono ?_; rintro e w' ⟨rfl, hw⟩; rw [hw]; clear hw w') | fail)
    go_ret
    exact ⟨rfl, Below.refl _ _⟩
  · have hu1 : 1 ≤ u := by omega
    have d1 : decide ((u : Int) < 100) = false := by simp; omega
    have hnd20 : Lib.nDigits u ≤ 20 := by have := Lib.numDigits_eq u hu1 hu; split at this <;> omega
    have hb3 : Lib.nDigits u ≤ 24 := by omega
    have hal : Tryz.prog.arrayLen 164 = 24 := by kernel_rfl
    have hsl1 : ∀ W, (Instr.sliceAt 164 (.pointer (some ⟨w.heap.size, 0, none⟩)) none (some (.int .i64 (Lib.nDigits u : Int))) none).run Tryz.prog W = .ok (.slice (some ⟨w.heap.size, 0, none⟩) (Lib.nDigits u) 24) W := fun W => by
      rw [run_sliceAt_array_h W 164 ⟨w.heap.size, 0, none⟩ (by kernel_rfl) .i64 (Lib.nDigits u : Int) (by omega) (by rw [hal]; omega)]
      go_simp
    have hH0 : Holds (fun (b : UInt8) => Value.int .u8 (b.toNat : Int)) (w.alloc (.cells Lib.zeros24 164)) w.heap.size 0 (Array.replicate (Lib.nDigits u) 0) := fun j hj => by
      have hj' : j < Lib.nDigits u := by simpa using hj
      refine ⟨?_, World.frozen?_alloc_new _ _ _ _⟩
      rw [World.cell?_alloc_new, Lib.zeros24_at _ (by omega), getElem!_pos _ j hj]
      simp
    have hfmt := Tryz.internal_strconv_formatBase10 w.heap.size 0 24 u (Array.replicate (Lib.nDigits u) 0) (w.alloc (.cells Lib.zeros24 164)) hH0 (by rw [Array.size_replicate]; exact Lib.lt_pow_nDigits u) hu (by rw [Array.size_replicate]; omega)
    rw [Array.size_replicate] at hfmt
    have HH0 := Lib.hid hH0
    clear hH0 hal
    go_enter Tryz.func163, Tryz.ntmps163
    go_wp2_with (first | (go_at_call 134; refine (Tryz.internal_strconv_numDigits u hu1 hu _ (Lib.tabIs_alloc htab _)).mono ?_; rintro e w' ⟨rfl, hw⟩; rw [hw]; clear hw w') | fail)
    go_at_call 135
    refine hfmt.mono ?_
    rintro e w' ⟨rfl, k, v', dk, rfl, hF⟩
    have hcv : (convert 67 9 (.slice (some ⟨w.heap.size, 0, none⟩) (Lib.nDigits u) 24)).run Tryz.prog ((putRow (fun (b : UInt8) => Value.int .u8 (b.toNat : Int)) (w.alloc (.cells Lib.zeros24 164)) w.heap.size 0 dk).drewN k) = .ok (.string ⟨(Lib.decDigits u).toArray⟩) ((putRow (fun (b : UInt8) => Value.int .u8 (b.toNat : Int)) (w.alloc (.cells Lib.zeros24 164)) w.heap.size 0 dk).drewN k) := by
      have h := run_convert_bytes_back (P := Tryz.prog) ((putRow (fun (b : UInt8) => Value.int .u8 (b.toNat : Int)) (w.alloc (.cells Lib.zeros24 164)) w.heap.size 0 dk).drewN k) 67 9 5 ⟨w.heap.size, 0, none⟩ 24 (Lib.decDigits u) Tryz.underlying67 Tryz.underlying5 Tryz.underlying9 (fun j hj => by
        rw [Lib.row_is_numeral hF j hj, Lib.add_plain, World.cell?_drewN]
        exact cell?_putRow (fun (b : UInt8) => Value.int .u8 (b.toNat : Int)) _ w.heap.size 0 _ dk HH0.out (by rw [hF.size, Array.size_replicate]) j (by rw [hF.size]; rw [Lib.decDigits_length] at hj; exact hj))
      rw [Lib.decDigits_length] at h
      exact h
    go_wp2
    go_ret
    obtain ⟨os, eo⟩ : ∃ os, (putRow (fun (b : UInt8) => Value.int .u8 (b.toNat : Int)) (w.alloc (.cells Lib.zeros24 164)) w.heap.size 0 dk).drewN k = grow (w.drewN k) os := by
      rw [alloc_eq_grow]
      obtain ⟨os', _, e⟩ := putRow_grow_new (fun (b : UInt8) => Value.int .u8 (b.toNat : Int)) w #[.cells Lib.zeros24 164] w.heap.size 0 dk (Nat.le_refl _)
      exact ⟨os', by rw [e]; rfl⟩
    exact ⟨rfl, by rw [eo]; exact below_grow w k os⟩
theorem fmtUint_c {w : World} (htab : Tabs w) (u : Nat) (hu : u < 18446744073709551616) :
    Calls Tryz.prog 145 #[.int .u64 u, .int .i64 10] w fun e w' => e = .returned (.string (natS u)) ∧ Below w.heap.size w w' := by
  have c := fmtUintIn_c htab u hu
  go_enter Tryz.func145, Tryz.ntmps145
  go_wp2_with (first | (go_at_call 163; refine c.mono ?_; rintro e w' ⟨rfl, hw⟩) | fail)
  go_ret
  exact ⟨rfl, hw⟩
end Go.Proofs.YtaaphipbkpjkjaaGreatDoor
namespace Go.Proofs.YtaaphipbkpjkjaaGreatDoor
open Go.RowKit Go.Maps
set_option linter.unusedVariables false
set_option linter.unusedSimpArgs false
set_option maxRecDepth 100000
def pre (c : UInt8) (s : ByteArray) : ByteArray := ⟨#[c]⟩ ++ s
theorem pre_size (c : UInt8) (s : ByteArray) : (pre c s).size = 1 + s.size := by unfold pre; simp [ByteArray.size_append]; rfl
theorem run_pre (c : UInt8) (s : ByteArray) (h : s.size ≤ 1000) (W : World) : (Op.stringOp .add ⟨#[c]⟩ s).run Tryz.prog W = .ok (.string (pre c s)) W := by
  rw [run_string_add_sum W ⟨#[c]⟩ s (by show 1 + s.size ≤ _; omega)]; rfl
theorem natS_size (u : Nat) (h : u < 18446744073709551616) : (natS u).size ≤ 20 := by
  show (Lib.decDigits u).toArray.size ≤ 20
  rw [List.size_toArray, Lib.decDigits_length]
  by_cases h0 : 1 ≤ u
  · have := Lib.numDigits_eq u h0 h; split at this <;> omega
  · obtain rfl : u = 0 := by omega
    decide +kernel
theorem decS_size (n : Int) (h0 : -9223372036854775808 ≤ n) (h1 : n ≤ 9223372036854775807) : (decS n).size ≤ 21 := by
  show (Lib.itoa n).toArray.size ≤ 21
  rw [List.size_toArray]
  unfold Lib.itoa
  have key : ∀ u : Nat, u < 18446744073709551616 → (Lib.decDigits u).length ≤ 20 := fun u hu => by have := natS_size u hu; simpa [natS, ByteArray.size] using this
  split
  · have := key n.natAbs (by omega); simp; omega
  · have := key n.toNat (by omega); omega
def tgtW (d : Int) : ByteArray := if d < 0 then ⟨#[45]⟩ else pre 116 (decS d)
def opW (a : Ar) : List ByteArray := if a.kind = 1 then [pre 116 (natS a.n.toNat)] else if a.kind = 2 then [pre 35 (natS a.n.toNat)] else []
def opsW (l : List Ar) : List ByteArray := l.flatMap opW
theorem opsW_take {l : List Ar} {k : Nat} {a : Ar} (h : l[k]? = some a) : opsW (l.take (k + 1)) = opsW (l.take k) ++ opW a := by
  rw [take_succ h]; simp [opsW]
theorem opW_len (a : Ar) : (opW a).length ≤ 1 := by unfold opW; (repeat' split) <;> simp
theorem opsW_len : ∀ l : List Ar, (opsW l).length ≤ l.length
  | [] => by simp [opsW]
  | a :: l => by have := opsW_len l; have := opW_len a; unfold opsW at *; simp only [List.flatMap_cons, List.length_append, List.length_cons]; omega
def stV (l : List ByteArray) : List Value := l.map .string
theorem infoS : (Tryz.prog.info? TStr).map (fun i => (i.zero, i.size, i.bytes)) = some (some (.string ⟨#[]⟩), 1, 16) := by kernel_rfl
theorem stV_one (l : List ByteArray) : ∀ u ∈ stV l, u.oneCell' = true := by
  intro u hu
  simp only [stV, List.mem_map] at hu
  obtain ⟨b, _, rfl⟩ := hu
  rfl
/-- A new row of strings, or none. -/
def NewS (w w' : World) (v : Value) (l : List ByteArray) : Prop := Below w.heap.size w w' ∧ w'.ownsRow w.heap.size TStr 1 v l.length (stV l)
theorem NewS.strV {w w' : World} {v : Value} {l : List ByteArray} (h : NewS w w' v l) : ∃ p cap, v = .slice p l.length cap ∧ StrV w' p cap l := by
  obtain ⟨_, h1, ⟨rfl, h2⟩ | ⟨g, cap, cur, rfl, hb, hg, h3, h4, h5, h6⟩⟩ := h
  · have e : l = [] := List.eq_nil_of_length_eq_zero h2
    subst e
    exact ⟨none, 0, rfl, ⟨Nat.le_refl _, fun _ => rfl⟩, fun hn => absurd rfl hn⟩
  · refine ⟨_, cap, rfl, ⟨h3, fun e => by cases e⟩, fun hn => ⟨g, 0, cur, rfl, hg, fun i s hs => ?_⟩⟩
    have hi : (stV l)[i]? = some (.string s) := by simp [stV, hs]
    rw [← h6, List.getElem?_take] at hi
    split at hi
    · rw [Nat.zero_add, ← Array.getElem?_toList]; exact hi
    · cases hi
theorem newS_one {w w1 : World} (hb : Below w.heap.size w w1) (s : ByteArray) : NewS w (w1.alloc (.cells #[.string s] TStr)) (.slice (some ⟨w1.heap.size, 0, none⟩) 1 1) [s] :=
  ⟨hb.trans ((below1 w1 _).mono hb.size), by simp [stV], Or.inr ⟨w1.heap.size, 1, _, rfl, hb.size, heap_r0 _ _, by first | decide | simp | omega, by first | decide | simp | omega, by first | decide | simp | omega, by simp [stV]⟩⟩
theorem newS_nil {w w1 : World} (hb : Below w.heap.size w w1) : NewS w w1 (.slice none 0 0) [] := ⟨hb, by simp [stV], Or.inl ⟨rfl, rfl⟩⟩
section
variable {w : World}
theorem target_c (hX : Tabs w) (d : Int) (h0 : -9223372036854775808 ≤ d) (h1 : d ≤ 9223372036854775807) :
    Calls Tryz.prog 131 #[.int .i64 d] w fun e w' => e = .returned (.string (tgtW d)) ∧ Below w.heap.size w w' := by
  have cI := itoa_c hX d h0 h1
  have hs := decS_size d h0 h1
  have hp := run_pre 116 (decS d) (by omega)
  obtain ⟨R, hR⟩ : ∃ R, R = tgtW d := ⟨_, rfl⟩
  rw [← hR]
  unfold tgtW at hR
  clear hX h0 h1 hs
  by_cases hd : d < 0
  · rw [if_pos hd] at hR
    have HR : Hid (R = _) := hR
    have d1 : decide (d < 0) = true := by simpa using hd
    clear hR
    go_enter Tryz.func131, Tryz.ntmps131
    go_wp2
    go_ret
    exact ⟨by rw [HR.out]; rfl, Below.refl _ _⟩
  · rw [if_neg hd] at hR
    have HR : Hid (R = pre 116 (decS d)) := hR
    have d1 : decide (d < 0) = false := by simpa using hd
    clear hR
    generalize decS d = ds at *
    go_enter Tryz.func131, Tryz.ntmps131
    go_wp2_with (first | (go_at_call 63; refine cI.mono ?_; rintro e w' ⟨rfl, hw⟩; clear cI) | fail)
    go_ret
    exact ⟨by rw [HR.out]; rfl, hw⟩
set_option maxHeartbeats 4000000 in
theorem operands_c (hX : Tabs w) {s : Value} {l : List Ar} (hA : ArgV w s l) (hok : ∀ a ∈ l, ArOK a) (hl : l.length ≤ 1000000) :
    Calls Tryz.prog 132 #[s] w fun e w' => ∃ v, e = .returned v ∧ NewS w w' v (opsW l) := by
  obtain ⟨i0, hi0, hz0, hz1, hz2⟩ := info_parts infoS
  have HA : Hid (∀ Y, Below w.heap.size w Y → ArgV Y s l) := fun Y hY => hA.below hY
  have HX : Hid (∀ Y, Below w.heap.size w Y → Tabs Y) := fun Y hY => hX.below hY
  have HOK : Hid (∀ a ∈ l, ArOK a) := hok
  obtain ⟨ap, acap, rfl, ⟨x1, x3⟩, x2⟩ := hA
  clear x2 x3 hok hX
  go_enter Tryz.func132, Tryz.ntmps132
  go_wp2
  go_loopw [3, 9] (fun sv iv wr => ∃ k : Nat, iv = .int .i64 k ∧ k ≤ l.length ∧ Hid (NewS w wr sv (opsW (l.take k)))) (fun _ iv _ => l.length - (intOf iv).toNat)
  case atStart => exact ⟨0, rfl, Nat.zero_le _, newS_nil (Below.refl _ _)⟩
  case round =>
    obtain ⟨k, rfl, hk, HN⟩ := hrel
    obtain ⟨sp, scap, rfl⟩ := slice_of_own HN.out.2
    by_cases hlt : k < l.length
    · obtain ⟨a, ha⟩ : ∃ a, l[k]? = some a := ⟨_, List.getElem?_eq_getElem hlt⟩
      obtain ⟨_, _, e1, _, hrow⟩ := HA.out wr HN.out.1
      injection e1 with e1 e2 e3
      subst e1
      subst e3
      obtain ⟨g, o, rfl, hg, hc⟩ := hrow k a ha
      have a0 := hc 0 (by omega)
      have a1 := hc 1 (by omega)
      simp only [arCells, List.getElem?_cons_zero, List.getElem?_cons_succ, Nat.add_zero] at a0 a1
      have hao := HOK.out a (List.mem_of_getElem? ha)
      have HTK : Hid (opsW (l.take (k + 1)) = opsW (l.take k) ++ opW a) := opsW_take ha
      have hlk : Hid ((opsW (l.take k)).length ≤ 1000000) := Nat.le_trans (opsW_len _) (Nat.le_trans (by rw [List.length_take]; omega) hl)
      obtain ⟨ak, an⟩ := a
      obtain ⟨hao0, hao1⟩ := hao
      simp only at hao0 hao1 a0 a1
      obtain ⟨u, rfl⟩ : ∃ u : Nat, an = u := ⟨an.toNat, by omega⟩
      have hu : u < 18446744073709551616 := by omega
      have hw1 : IntKind.u64.wrap (u : Int) = (u : Int) := by simp [IntKind.wrap, IntKind.signed, IntKind.bits]; omega
      have hold := heap_r0 wr (.cells #[.int .i64 0, .int .u32 0] TAr)
      have N5 := heap_r0 wr (.cells #[.int .i64 ak, .int .u32 u] TAr)
      have b5 := below1 wr (.cells #[.int .i64 ak, .int .u32 u] TAr)
      have p0 := (Lib.cell_of_heap N5 0).trans rfl
      have p1 := (Lib.cell_of_heap N5 1).trans rfl
      have HB5 : Hid (Below w.heap.size w (wr.alloc (.cells #[.int .i64 ak, .int .u32 u] TAr))) := HN.out.1.trans (b5.mono HN.out.1.size)
      have HO5 : Hid ((wr.alloc (.cells #[.int .i64 ak, .int .u32 u] TAr)).ownsRow w.heap.size TStr 1 (.slice sp (opsW (l.take k)).length scap) (opsW (l.take k)).length (stV (opsW (l.take k)))) := ownsRow_turned HN.out.2 (Turned.of_below b5 (fun _ => False)) (fun _ _ h => h)
      have cF := fmtUint_c (HX.out _ HB5.out) u hu
      have hns := natS_size u hu
      have hp1 := run_pre 116 (natS u) (by omega)
      have hp2 := run_pre 35 (natS u) (by omega)
      have HNS : Hid (natS ((u : Int).toNat) = natS u) := by show _ = _; simp
      have HN5 : Hid ((wr.alloc (.cells #[.int .i64 ak, .int .u32 u] TAr)).heap[wr.heap.size]? = some (.cells #[.int .i64 ak, .int .u32 u] TAr (0, 0))) := N5
      clear ha hc hg hao0 hao1 hu hns b5 N5
      go_upto_region 5 with (first | ((with_reducible apply step_store hold); rfl; rfl; kernel_rfl; rfl; kernel_rfl; rw [World.setRow_alloc_new]) | fail)
      generalize wr.alloc (.cells #[.int .i64 ak, .int .u32 u] TAr) = W5 at *
      clear a0 a1 hold
      generalize hOL : opsW (l.take k) = OL at *
      generalize hNU : natS u = NU at *
      by_cases h1 : ak = 1
      · have e1 : (ak == 1) = true := by simpa using h1
        have HW : Hid (opsW (l.take (k + 1)) = OL ++ [pre 116 NU]) := by show _ = _; rw [HTK.out]; unfold opW; simp only [h1, if_pos]; rw [HNS.out]
        clear h1 HTK hNU HN
        go_wp2_with (first | (go_at_call 145; refine cF.mono ?_; rintro e w6 ⟨rfl, hb6⟩; have q0 := (Lib.cell_of_heap (blk_b HN5.out hb6) 0).trans rfl; have b7 := below1 w6 (.cells #[.string (pre 116 NU)] TStr); have HB6 : Hid (Below w.heap.size w (w6.alloc (.cells #[.string (pre 116 NU)] TStr))) := (HB5.out.trans (hb6.mono HB5.out.size)).trans (b7.mono (HB5.out.trans (hb6.mono HB5.out.size)).size); have HO6 : Hid ((w6.alloc (.cells #[.string (pre 116 NU)] TStr)).ownsRow w.heap.size TStr 1 (.slice sp OL.length scap) OL.length (stV OL)) := ownsRow_turned (ownsRow_turned HO5.out (Turned.of_below hb6 (fun _ => False)) (fun _ _ h => h)) (Turned.of_below b7 (fun _ => False)) (fun _ _ h => h); have nw := cells_new w6 #[.string (pre 116 NU)] TStr; clear hb6 cF b7) | (at_builtin; refine wpList_append_own _ rfl _ _ 83 rfl w.heap.size TStr i0 (.string ⟨#[]⟩) 1 16 Tryz.underlying83 hi0 hz0 hz1 hz2 rfl (by decide) _ _ _ rfl HO6.out ⟨w6.heap.size, 0, none⟩ 1 1 [.string (pre 116 NU)] rfl rfl nw (by intro u hu; simp at hu; subst hu; rfl) ?c3 ?c4 HB6.out.size ?_) | fail)
        case c3 => have := hlk.out; unfold maxLen; omega
        case c4 => have := hlk.out; omega
        intro v' w7 ho7 hgr _
        have HNW : Hid (NewS w w7 v' (opsW (l.take (k + 1)))) := by
          rw [HW.out]
          exact ⟨below_grown HB6.out HB6.out.size hgr (fun g e => (ownsRow_at HO6.out e).1), by simpa [stV] using ho7⟩
        clear ho7 hgr
        go_wp2
        exact ⟨⟨k + 1, by go_num, by omega, HNW⟩, by simp [intOf]; omega⟩
      · have e1 : (ak == 1) = false := by simpa using h1
        by_cases h2 : ak = 2
        · have e2 : (ak == 2) = true := by simpa using h2
          have HW : Hid (opsW (l.take (k + 1)) = OL ++ [pre 35 NU]) := by show _ = _; rw [HTK.out]; unfold opW; simp only [h2, if_pos]; rw [HNS.out]; rfl
          clear h1 h2 HTK hNU HN
          go_wp2_with (first | (go_at_call 145; refine cF.mono ?_; rintro e w6 ⟨rfl, hb6⟩; have q0 := (Lib.cell_of_heap (blk_b HN5.out hb6) 0).trans rfl; have b7 := below1 w6 (.cells #[.string (pre 35 NU)] TStr); have HB6 : Hid (Below w.heap.size w (w6.alloc (.cells #[.string (pre 35 NU)] TStr))) := (HB5.out.trans (hb6.mono HB5.out.size)).trans (b7.mono (HB5.out.trans (hb6.mono HB5.out.size)).size); have HO6 : Hid ((w6.alloc (.cells #[.string (pre 35 NU)] TStr)).ownsRow w.heap.size TStr 1 (.slice sp OL.length scap) OL.length (stV OL)) := ownsRow_turned (ownsRow_turned HO5.out (Turned.of_below hb6 (fun _ => False)) (fun _ _ h => h)) (Turned.of_below b7 (fun _ => False)) (fun _ _ h => h); have nw := cells_new w6 #[.string (pre 35 NU)] TStr; clear hb6 cF b7) | (at_builtin; refine wpList_append_own _ rfl _ _ 83 rfl w.heap.size TStr i0 (.string ⟨#[]⟩) 1 16 Tryz.underlying83 hi0 hz0 hz1 hz2 rfl (by decide) _ _ _ rfl HO6.out ⟨w6.heap.size, 0, none⟩ 1 1 [.string (pre 35 NU)] rfl rfl nw (by intro u hu; simp at hu; subst hu; rfl) ?c3 ?c4 HB6.out.size ?_) | fail)
          case c3 => have := hlk.out; unfold maxLen; omega
          case c4 => have := hlk.out; omega
          intro v' w7 ho7 hgr _
          have HNW : Hid (NewS w w7 v' (opsW (l.take (k + 1)))) := by
            rw [HW.out]
            exact ⟨below_grown HB6.out HB6.out.size hgr (fun g e => (ownsRow_at HO6.out e).1), by simpa [stV] using ho7⟩
          clear ho7 hgr
          go_wp2
          exact ⟨⟨k + 1, by go_num, by omega, HNW⟩, by simp [intOf]; omega⟩
        · have e2 : (ak == 2) = false := by simpa using h2
          have HW : Hid (opsW (l.take (k + 1)) = OL) := by show _ = _; rw [HTK.out]; unfold opW; simp only [if_neg h1, if_neg h2, List.append_nil]
          clear h1 h2 HTK hNU HN
          go_wp2_with (first | (go_at_call 145; refine cF.mono ?_; rintro e w6 ⟨rfl, hb6⟩; have q0 := (Lib.cell_of_heap (blk_b HN5.out hb6) 0).trans rfl; have HB6 : Hid (Below w.heap.size w w6) := HB5.out.trans (hb6.mono HB5.out.size); have HO6 : Hid (w6.ownsRow w.heap.size TStr 1 (.slice sp OL.length scap) OL.length (stV OL)) := ownsRow_turned HO5.out (Turned.of_below hb6 (fun _ => False)) (fun _ _ h => h); clear hb6 cF) | fail)
          exact ⟨⟨k + 1, by go_num, by omega, by show NewS _ _ _ _; rw [HW.out]; first | exact ⟨HB6.out, HO6.out⟩ | (rw [hOL]; exact ⟨HB6.out, HO6.out⟩)⟩, by simp [intOf]; omega⟩
    · obtain rfl : k = l.length := by omega
      go_wp2
      go_ret
      refine ⟨_, rfl, ?_⟩
      have h := HN.out
      show NewS w wr (.slice sp (opsW (List.take l.length l)).length scap) (opsW l)
      rw [List.take_length] at h ⊢
      exact h
end
end Go.Proofs.YtaaphipbkpjkjaaGreatDoor
