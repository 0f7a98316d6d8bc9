/-
  An operand is read: operand, target of package tac, where they do not give up.
  A text that is read line by line, word by word: the reader of package tac.
  Words of a line, taken one by one: want, done, word, flag, numberOf, number of package tac, where they do not give up.
-/
import Derived.Test.YtaaphipbkpjkjaaGreatDoorKO
import Derived.Test.YtaaphipbkpjkjaaGreatDoorShelg
namespace Go.Proofs.YtaaphipbkpjkjaaGreatDoor
open Go.RowKit Go.Maps
set_option linter.unusedVariables false
set_option linter.unusedSimpArgs false
set_option maxRecDepth 100000
abbrev TRd : TypeId := 124
def splitL (s : ByteArray) (c : UInt8) : List ByteArray := Lib.splitB ⟨#[c]⟩ 0 (Lib.countB s ⟨#[c]⟩) s
def cutW (s : ByteArray) : ByteArray := ⟨(Lib.cut s.data.toList [32]).1.toArray⟩
def firstW : List ByteArray → ByteArray
  | [] => ⟨#[]⟩
  | l :: _ => cutW l
/-- The library's number that searching reads. -/
def MaxIn (w : World) : Prop := ∃ m, w.cell? ⟨3, 0, none⟩ = some (.int .i64 m)
theorem MaxIn.below {w w' : World} (h : MaxIn w) (hb : Below w.heap.size w w') : MaxIn w' := by
  obtain ⟨m, h⟩ := h
  exact ⟨m, blk_cell h hb⟩
theorem MaxIn.turned {w w' : World} {rb : Nat} (h : MaxIn w) (hb : Turned w w' (fun k => k = rb)) (hr : 3 < rb) : MaxIn w' := by
  obtain ⟨m, h⟩ := h
  refine ⟨m, ?_⟩
  rw [← h]
  have hlt := World.block_lt_of_cell? w _ h
  unfold World.cell?
  rw [hb.block 3 hlt (by omega)]
/-- A reader in block rb: what is left of the text's lines, and of the line's words. -/
structure RdT (w : World) (rb mb : Nat) (ls ws : List ByteArray) : Prop where
  ex : ∃ lp lc wp wc, w.heap[rb]? = some (.cells #[.slice lp ls.length lc, .slice wp ws.length wc, .map (some mb)] TRd (0, 0)) ∧ StrV w lp lc ls ∧ StrV w wp wc ws
  mp : MapI w mb opsL
  ll : ls.length ≤ 1000000000000 ∧ ∀ l ∈ ls, l.size < 4294967281
  wl : ws.length ≤ 1000000000000 ∧ ∀ l ∈ ws, l.size < 4294967281
theorem StrV.below {w w' : World} {p : Option Addr} {cap : Nat} {l : List ByteArray} (h : StrV w p cap l) (hb : Below w.heap.size w w') : StrV w' p cap l :=
  ⟨h.1, fun hn => by obtain ⟨g, o, cs, e, h1, h2⟩ := h.2 hn; exact ⟨g, o, cs, e, blk_b h1 hb, h2⟩⟩
theorem StrV.turned {w w' : World} {p : Option Addr} {cap : Nat} {l : List ByteArray} {rb : Nat} {cs0 : Array Value} (h : StrV w p cap l) (ht : Turned w w' (fun k => k = rb)) (hg : w.heap[rb]? = some (.cells cs0 TRd (0, 0))) : StrV w' p cap l :=
  ⟨h.1, fun hn => by obtain ⟨g, o, cs, e, h1, h2⟩ := h.2 hn; exact ⟨g, o, cs, e, blk_t h1 ht (tag_ne h1 hg (by decide)), h2⟩⟩
theorem RdT.below {w w' : World} {rb mb : Nat} {ls ws : List ByteArray} (h : RdT w rb mb ls ws) (hb : Below w.heap.size w w') : RdT w' rb mb ls ws := by
  obtain ⟨⟨lp, lc, wp, wc, h1, h2, h3⟩, h4, h5, h6⟩ := h
  exact ⟨⟨lp, lc, wp, wc, blk_b h1 hb, h2.below hb, h3.below hb⟩, h4.below hb, h5, h6⟩
theorem RdT.mb_ne {w : World} {rb mb : Nat} {ls ws : List ByteArray} (h : RdT w rb mb ls ws) : mb ≠ rb := by
  obtain ⟨⟨lp, lc, wp, wc, h1, _⟩, ⟨es, ck, hm, _⟩, _⟩ := h
  rintro rfl
  rw [hm] at h1
  cases h1
theorem StrV.tail {w : World} {p : Option Addr} {cap : Nat} {s : ByteArray} {r : List ByteArray} (h : StrV w p cap (s :: r)) : ∃ g o cs, p = some ⟨g, o, none⟩ ∧ 1 ≤ cap ∧ w.heap[g]? = some (.cells cs TStr (0, 0)) ∧ cs[o]? = some (.string s) ∧ StrV w (some ⟨g, o + 1, none⟩) (cap - 1) r := by
  obtain ⟨⟨h0, h00⟩, h1⟩ := h
  obtain ⟨g, o, cs, rfl, h2, h3⟩ := h1 (by simp)
  simp at h0
  refine ⟨g, o, cs, rfl, by omega, h2, by simpa using h3 0 s rfl, ⟨by omega, fun e => by cases e⟩, fun _ => ⟨g, o + 1, cs, rfl, h2, fun i x hx => ?_⟩⟩
  have := h3 (i + 1) x (by simpa using hx)
  rw [show o + 1 + i = o + (i + 1) by omega]
  exact this
theorem slice_tl (g o n cap : Nat) (h1 : 1 ≤ n) : ∃ a' : Addr, (∀ W, (Instr.sliceAt 83 (.slice (some ⟨g, o, none⟩) n cap) (some (.int .i64 1)) none none).run Tryz.prog W = .ok (.slice (some a') (n - 1) (cap - 1)) W) ∧ (cap ≠ 1 → a' = ⟨g, o + 1, none⟩) := by
  refine ⟨if cap = 1 then ⟨g, o, none⟩ else ⟨g, o + 1, none⟩, fun W => ?_, fun h => by rw [if_neg h]⟩
  have hu : Tryz.prog.underlying 83 = some (.slice (Tryz.prog.elem 83)) := by kernel_rfl
  have hs : (sizeOf (Tryz.prog.elem 83)).run Tryz.prog W = .ok 1 W := by kernel_rfl
  rw [run_sliceAt_slice W 83 _ _ _ _ hu, run_slice_l W 83 _ n cap hu .i64 1 (by omega) (by omega), hs]
  show Result.ok (sliced _ _ _ _ _) W = _
  unfold sliced
  simp only [Int.toNat_one, Nat.one_mul]
  by_cases h : cap = 1
  · rw [if_pos h, if_pos h]
  · rw [if_neg h, if_neg h]; rfl
theorem StrV.tl {w : World} {g o cap : Nat} {s : ByteArray} {r : List ByteArray} (h : StrV w (some ⟨g, o, none⟩) cap (s :: r)) {a' : Addr} (ha : cap ≠ 1 → a' = ⟨g, o + 1, none⟩) : StrV w (some a') (cap - 1) r := by
  by_cases hc : cap = 1
  · have h0 := h.1.1
    simp at h0
    have hr : r = [] := List.eq_nil_of_length_eq_zero (by omega)
    subst hr
    exact ⟨⟨by simp, fun e => by cases e⟩, fun hn => absurd rfl hn⟩
  · rw [ha hc]
    obtain ⟨g', o', cs, e, _, _, _, h5⟩ := h.tail
    injection e with e
    injection e with e1 e2
    subst e1 e2
    exact h5
section
variable {w : World} {rb mb : Nat} {ls ws : List ByteArray}
theorem below_drewN' (w : World) (n : Nat) : Below w.heap.size w (w.drewN n) := below_drewN _ w n
set_option maxHeartbeats 4000000 in
theorem first_d (hR : RdT w rb mb ls ws) (hM : MaxIn w) :
    Calls Tryz.prog 118 #[.pointer (some ⟨rb, 0, none⟩)] w fun e w' => e = .returned (.string (firstW ls)) ∧ ∃ n, w' = w.drewN n := by
  obtain ⟨⟨lp, lc, wp, wc, hg, hl, hw⟩, hm, hll, hwl⟩ := hR
  obtain ⟨m, hM⟩ := hM
  have c0 := (Lib.cell_of_heap hg 0).trans rfl
  cases ls with
  | nil =>
    clear hl hw hm hll hwl hg
    go_enter Tryz.func118, Tryz.ntmps118
    go_wp2
    go_ret
    exact ⟨rfl, 0, rfl⟩
  | cons l r =>
    obtain ⟨g, o, cs, rfl, hc1, hgs, ho, _⟩ := hl.tail
    have a0 := (Lib.cell_of_heap hgs o).trans ho
    have hlen : ((l :: r).length : Int) = (r.length : Int) + 1 := by simp
    have e0 : ((((l :: r).length : Nat) : Int) == 0) = false := by rw [hlen]; simp; omega
    have cC := Tryz.strings_Cut l ⟨#[32]⟩ m w (hll.2 l List.mem_cons_self) hM
    have HE : Hid (firstW (l :: r) = cutW l) := rfl
    rw [HE.out]
    unfold cutW
    have hlr : Hid ((l :: r).length ≤ 1000000000000) := hll.1
    have hl1 : 0 < (l :: r).length := by simp
    generalize hN : (l :: r).length = nl at *
    generalize (Lib.cut l.data.toList [32]).1 = x1 at *
    generalize (Lib.cut l.data.toList [32]).2.1 = x2 at *
    generalize (Lib.cut l.data.toList [32]).2.2 = x3 at *
    clear hl hw hm hll hwl hg hgs ho hlen hN hM
    go_enter Tryz.func118, Tryz.ntmps118
    go_wp2_with (first | (go_at_call 141; refine cC.mono ?_; rintro e w' ⟨rfl, n, hw⟩; have HB : Hid (∃ n, w' = w.drewN n) := ⟨n, hw⟩; clear hw cC) | fail)
    go_ret
    exact ⟨rfl, HB.out⟩
theorem first_c (hR : RdT w rb mb ls ws) (hM : MaxIn w) :
    Calls Tryz.prog 118 #[.pointer (some ⟨rb, 0, none⟩)] w fun e w' => e = .returned (.string (firstW ls)) ∧ Below w.heap.size w w' :=
  (first_d hR hM).mono (by rintro e w' ⟨rfl, n, rfl⟩; exact ⟨rfl, below_drewN' w n⟩)
theorem begins_no (hR : RdT w rb mb ls ws) (hM : MaxIn w) {f : ByteArray} (hf : ((firstW ls).toList == f.toList) = false) :
    Calls Tryz.prog 100 #[.pointer (some ⟨rb, 0, none⟩), .string f] w fun e w' => e = .returned (.bool false) ∧ Below w.heap.size w w' := by
  have cF := first_c hR hM
  generalize firstW ls = fw at *
  clear hR hM
  go_enter Tryz.func100, Tryz.ntmps100
  go_wp2_with (first | (go_at_call 118; refine cF.mono ?_; rintro e w' ⟨rfl, hb⟩; have HB : Hid (Below w.heap.size w w') := hb; clear hb cF) | fail)
  go_ret
  exact ⟨rfl, HB.out⟩
theorem splitL_length (s : ByteArray) (c : UInt8) : (splitL s c).length = Lib.countB s ⟨#[c]⟩ + 1 := Lib.splitB_all ⟨#[c]⟩ (by show 1 ≤ #[c].size; simp) 0 _ s rfl
theorem splitB_size (sep : ByteArray) (save : Nat) : ∀ (k : Nat) (s : ByteArray), ∀ x ∈ Lib.splitB sep save k s, x.size ≤ s.size
  | 0, s, x, hx => by rw [Lib.splitB_zero] at hx; simp at hx; subst hx; exact Nat.le_refl _
  | k + 1, s, x, hx => by
    unfold Lib.splitB at hx
    split at hx
    · simp at hx; subst hx; exact Nat.le_refl _
    · rcases List.mem_cons.1 hx with rfl | hx
      · rw [ByteArray.size_extract]; omega
      · have := splitB_size sep save k _ x hx
        rw [ByteArray.size_extract] at this; omega
theorem splitL_size (s : ByteArray) (c : UInt8) : ∀ x ∈ splitL s c, x.size ≤ s.size := splitB_size _ _ _ _
theorem strV_split (W : World) (s : ByteArray) (c : UInt8) : StrV (W.alloc (.cells ((Lib.splitB ⟨#[c]⟩ 0 (Lib.countB s ⟨#[c]⟩) s).map Value.string).toArray TStr)) (some ⟨W.heap.size, 0, none⟩) (Lib.countB s ⟨#[c]⟩ + 1) (splitL s c) := by
  refine ⟨⟨by rw [splitL_length]; omega, fun e => by cases e⟩, fun _ => ⟨W.heap.size, 0, _, rfl, heap_r0 _ _, fun i x hx => ?_⟩⟩
  show ((splitL s c).map Value.string).toArray[0 + i]? = _
  simp [hx]
theorem splitL_cons (s : ByteArray) (c : UInt8) : ∃ x r, splitL s c = x :: r := by
  cases h : splitL s c with
  | nil => have := splitL_length s c; rw [h] at this; simp at this
  | cons x r => exact ⟨x, r, rfl⟩
set_option maxHeartbeats 4000000 in
theorem begins_yes {l : ByteArray} {r : List ByteArray} (hR : RdT w rb mb (l :: r) ws) (hM : MaxIn w) {f : ByteArray} (hf : cutW l = f) :
    Calls Tryz.prog 100 #[.pointer (some ⟨rb, 0, none⟩), .string f] w fun e w' => e = .returned (.bool true) ∧ RdT w' rb mb r (splitL l 32).tail ∧ Turned w w' (fun k => k = rb) := by
  obtain ⟨x0, xr, hxr⟩ := splitL_cons l 32
  rw [hxr, List.tail_cons]
  have cF := first_c hR hM
  have HM : Hid (MaxIn w) := hM
  have HRR : Hid (RdT w rb mb (l :: r) ws) := hR
  rw [show firstW (l :: r) = f from hf] at cF
  clear hR hM hf
  go_enter Tryz.func100, Tryz.ntmps100
  go_upto_region 3 with (first | (go_at_call 118; refine cF.mono ?_; rintro e w1 ⟨rfl, hb⟩; have HB : Hid (Below w.heap.size w w1) := hb; clear hb cF) | fail)
  obtain ⟨⟨lp, lc, wp, wc, hg, hl, hw⟩, hm, hll, hwl⟩ := HRR.out.below HB.out
  obtain ⟨g, o, cs, rfl, hc1, hgs, ho, hlt⟩ := hl.tail
  obtain ⟨m, hM⟩ := HM.out.below HB.out
  have c0 := (Lib.cell_of_heap hg 0).trans rfl
  have a0 := (Lib.cell_of_heap hgs o).trans ho
  have hl1 : 0 < (l :: r).length := by simp
  have hln : (l :: r).length = r.length + 1 := rfl
  have cS := Tryz.strings_Split l ⟨#[32]⟩ m w1 (hll.2 l List.mem_cons_self) hM (by decide)
  have b2 := below1 w1 (.cells ((Lib.splitB ⟨#[32]⟩ 0 (Lib.countB l ⟨#[32]⟩) l).map Value.string).toArray TStr)
  have hS2 := strV_split w1 l 32
  rw [hxr] at hS2
  obtain ⟨a1, hs1, ha1⟩ := slice_tl w1.heap.size 0 (Lib.countB l ⟨#[32]⟩ + 1) (Lib.countB l ⟨#[32]⟩ + 1) (by omega)
  obtain ⟨a2, hs2, ha2⟩ := slice_tl g o (r.length + 1) lc (by omega)
  have hS3 := hS2.tl ha1
  have HG2 := blk_b hg b2
  have hgb : g ≠ rb := tag_ne hgs hg (by decide)
  have HL2 := (hl.tl ha2).below b2
  have HM2 := hm.below b2
  have hmb := HRR.out.mb_ne
  have hcl : Lib.countB l ⟨#[32]⟩ ≤ 4294967281 := Nat.le_trans (Lib.countB_le ⟨#[32]⟩ (by decide) _ l (Nat.le_refl _)) (Nat.le_of_lt (hll.2 l List.mem_cons_self))
  have hwn : xr.length = Lib.countB l ⟨#[32]⟩ := by have := splitL_length l 32; rw [hxr] at this; simpa using this
  have HWL : Hid (xr.length ≤ 1000000000000 ∧ ∀ x ∈ xr, x.size < 4294967281) := ⟨by omega, fun x hx => Nat.lt_of_le_of_lt (splitL_size l 32 x (by rw [hxr]; exact List.mem_cons_of_mem _ hx)) (hll.2 l List.mem_cons_self)⟩
  have HLL : Hid (r.length ≤ 1000000000000 ∧ ∀ x ∈ r, x.size < 4294967281) := ⟨by have := hll.1; rw [hln] at this; omega, fun x hx => hll.2 x (List.mem_cons_of_mem _ hx)⟩
  have hrl : r.length ≤ 1000000000000 := HLL.out.1
  rw [hln] at hg c0 HG2
  generalize Lib.countB l ⟨#[32]⟩ = cn at *
  subst hwn
  simp only [Nat.add_sub_cancel] at hs1 hs2 hS3
  generalize w1.alloc (.cells ((Lib.splitB ⟨#[32]⟩ 0 xr.length l).map Value.string).toArray TStr) = w2 at *
  have c2 := (Lib.cell_of_heap HG2 0).trans rfl
  have c3 := (Lib.cell_of_heap HG2 1).trans rfl
  have f3 := frozen_of HG2 1
  have t3 : Turned w2 (w2.setCell ⟨rb, 1, none⟩ (.slice (some a1) xr.length xr.length)) (fun k => k = rb) := Turned.setCell w2 rb 1 _ rfl
  have g3 := heap_setCell (j := 1) HG2 (.slice (some a1) xr.length xr.length)
  have d0 := (Lib.cell_of_heap g3 0).trans rfl
  have f4 := frozen_of g3 0
  have t4 : Turned (w2.setCell ⟨rb, 1, none⟩ (.slice (some a1) xr.length xr.length)) ((w2.setCell ⟨rb, 1, none⟩ (.slice (some a1) xr.length xr.length)).setCell ⟨rb, 0, none⟩ (.slice (some a2) r.length (lc - 1))) (fun k => k = rb) := Turned.setCell _ rb 0 _ rfl
  have g4 := heap_setCell (j := 0) g3 (.slice (some a2) r.length (lc - 1))
  have t24 := t3.trans t4 (fun _ _ h => h)
  have HT : Hid (Turned w ((w2.setCell ⟨rb, 1, none⟩ (.slice (some a1) xr.length xr.length)).setCell ⟨rb, 0, none⟩ (.slice (some a2) r.length (lc - 1))) (fun k => k = rb)) :=
    ((Turned.of_below HB.out _).trans (Turned.of_below b2 _) (fun _ _ h => h)).trans t24 (fun _ _ h => h)
  have HR4 : Hid (RdT ((w2.setCell ⟨rb, 1, none⟩ (.slice (some a1) xr.length xr.length)).setCell ⟨rb, 0, none⟩ (.slice (some a2) r.length (lc - 1))) rb mb r xr) :=
    ⟨⟨_, _, _, _, g4, HL2.turned t24 HG2, hS3.turned t24 HG2⟩, HM2.turned t24 hmb, HLL.out, HWL.out⟩
  clear hg hgs ho hl hlt hm hll hwl hw b2 hS2 hS3 HG2 HL2 HM2 t3 g3 t4 g4 t24 hM HWL HLL hln hl1 hgb hmb HM HRR HB hxr ha1 ha2
  go_wp2_with (first | (go_at_call 70; refine cS.mono ?_; rintro e w' ⟨rfl, hw⟩; rw [hw]; clear hw w' cS) | fail)
  go_ret
  exact ⟨rfl, HR4.out, HT.out⟩
end
end Go.Proofs.YtaaphipbkpjkjaaGreatDoor
namespace Go.Proofs.YtaaphipbkpjkjaaGreatDoor
open Go.RowKit Go.Maps
set_option linter.unusedVariables false
set_option linter.unusedSimpArgs false
set_option maxRecDepth 100000
theorem want_c (w : World) : Calls Tryz.prog 69 #[.bool true] w fun e w' => e = .returned (.tuple #[]) ∧ w' = w := by
  go_enter Tryz.func69, Tryz.ntmps69
  go_wp2
  go_end0
  exact ⟨rfl, rfl⟩
/-- The number that a word is. -/
def numOf (s : ByteArray) : Option Int := match Lib.atoiAll s.data.toList with
  | .ok v => if (decS v).toList == s.toList then some v else none
  | _ => none
theorem bytesW_below (w : World) (t : ByteArray) : Below w.heap.size w (Lib.bytesWorld w 5 t) :=
  ⟨rfl, rfl, rfl, by rw [Lib.bytesWorld_size]; omega, fun k hk => Lib.bytesWorld_at_old w 5 t k hk⟩
section
variable {w : World} {rb mb : Nat} {ls ws : List ByteArray}
theorem done_c (hR : RdT w rb mb ls []) :
    Calls Tryz.prog 104 #[.pointer (some ⟨rb, 0, none⟩)] w fun e w' => e = .returned (.tuple #[]) ∧ w' = w := by
  obtain ⟨⟨lp, lc, wp, wc, hg, hl, hw⟩, hm, hll, hwl⟩ := hR
  have c1 := (Lib.cell_of_heap hg 1).trans rfl
  have cW := want_c w
  clear hg hl hw hm hll hwl
  go_enter Tryz.func104, Tryz.ntmps104
  go_wp2_with (first | (go_at_call 69; refine cW.mono ?_; rintro e w' ⟨rfl, hw⟩; rw [hw]; clear hw w' cW) | fail)
  go_end0
  exact ⟨rfl, rfl⟩
set_option maxHeartbeats 4000000 in
theorem word_c {s : ByteArray} {r : List ByteArray} (hR : RdT w rb mb ls (s :: r)) :
    Calls Tryz.prog 119 #[.pointer (some ⟨rb, 0, none⟩)] w fun e w' => e = .returned (.string s) ∧ RdT w' rb mb ls r ∧ Turned w w' (fun k => k = rb) := by
  have hmb := hR.mb_ne
  obtain ⟨⟨lp, lc, wp, wc, hg, hl, hw⟩, hm, hll, hwl⟩ := hR
  obtain ⟨g, o, cs, rfl, hc1, hgs, ho, _⟩ := hw.tail
  obtain ⟨a1, hs1, ha1⟩ := slice_tl g o (r.length + 1) wc (by omega)
  have hln : (s :: r).length = r.length + 1 := rfl
  rw [hln] at hg
  have c1 := (Lib.cell_of_heap hg 1).trans rfl
  have a0 := (Lib.cell_of_heap hgs o).trans ho
  have f1 := frozen_of hg 1
  have cW := want_c w
  have hrl : r.length ≤ 1000000000000 := by have := hwl.1; rw [hln] at this; omega
  have t1 : Turned w (w.setCell ⟨rb, 1, none⟩ (.slice (some a1) r.length (wc - 1))) (fun k => k = rb) := Turned.setCell w rb 1 _ rfl
  have g1 := heap_setCell (j := 1) hg (.slice (some a1) r.length (wc - 1))
  have HR1 : Hid (RdT (w.setCell ⟨rb, 1, none⟩ (.slice (some a1) r.length (wc - 1))) rb mb ls r) := ⟨⟨_, _, _, _, g1, hl.turned t1 hg, (hw.tl ha1).turned t1 hg⟩, hm.turned t1 hmb, hll, hrl, fun x hx => hwl.2 x (List.mem_cons_of_mem _ hx)⟩
  have HT1 : Hid (Turned w (w.setCell ⟨rb, 1, none⟩ (.slice (some a1) r.length (wc - 1))) (fun k => k = rb)) := t1
  simp only [Nat.add_sub_cancel] at hs1
  have d1 : decide ((0 : Int) < ((r.length : Int) + 1)) = true := by first | (simp; omega) | simp
  clear hg hgs ho hl hw hm hll hwl t1 g1 ha1 hln hmb
  go_enter Tryz.func119, Tryz.ntmps119
  go_wp2_with (first | (go_at_call 69; refine cW.mono ?_; rintro e w' ⟨rfl, hw⟩; rw [hw]; clear hw w' cW) | fail)
  go_ret
  exact ⟨rfl, HR1.out, HT1.out⟩
theorem flag_none (hR : RdT w rb mb ls []) (f : ByteArray) :
    Calls Tryz.prog 121 #[.pointer (some ⟨rb, 0, none⟩), .string f] w fun e w' => e = .returned (.bool false) ∧ w' = w := by
  obtain ⟨⟨lp, lc, wp, wc, hg, hl, hw⟩, hm, hll, hwl⟩ := hR
  have c1 := (Lib.cell_of_heap hg 1).trans rfl
  clear hg hl hw hm hll hwl
  go_enter Tryz.func121, Tryz.ntmps121
  go_wp2
  go_ret
  exact ⟨rfl, rfl⟩
set_option maxHeartbeats 4000000 in
theorem flag_yes {s : ByteArray} {r : List ByteArray} (hR : RdT w rb mb ls (s :: r)) {f : ByteArray} (hf : s = f) :
    Calls Tryz.prog 121 #[.pointer (some ⟨rb, 0, none⟩), .string f] w fun e w' => e = .returned (.bool true) ∧ RdT w' rb mb ls r ∧ Turned w w' (fun k => k = rb) := by
  subst hf
  have cW := word_c hR
  obtain ⟨⟨lp, lc, wp, wc, hg, hl, hw⟩, hm, hll, hwl⟩ := hR
  have hln : (s :: r).length = r.length + 1 := rfl
  rw [hln] at hg
  have c1 := (Lib.cell_of_heap hg 1).trans rfl
  have e0 : (((r.length : Int) + 1) == 0) = false := by first | (simp; omega) | simp
  clear hg hl hw hm hll hwl hln
  go_enter Tryz.func121, Tryz.ntmps121
  go_wp2_with (first | (go_at_call 119; refine cW.mono ?_; rintro e w1 ⟨rfl, hR1, hT1⟩; have HR1 : Hid (RdT w1 rb mb ls r) := hR1; have HT1 : Hid (Turned w w1 (fun k => k = rb)) := hT1; have cN := want_c w1; clear hR1 hT1 cW) | (go_at_call 69; refine cN.mono ?_; rintro e w' ⟨rfl, hw⟩; rw [hw]; clear hw w' cN) | fail)
  go_ret
  exact ⟨rfl, HR1.out, HT1.out⟩
theorem atoi_c {s : ByteArray} {n : Int} (h : Lib.atoiAll s.data.toList = .ok n) (hs : s.size < 4294967281) :
    Calls Tryz.prog 144 #[.string s] w fun e w' => e = .returned (.tuple #[.int .i64 n, .nilIface]) ∧ Below w.heap.size w w' :=
  (Tryz.strconv_Atoi_ok s (by omega) n h w).mono (by
    rintro e w' ⟨rfl, rfl | ⟨t, rfl⟩⟩
    · exact ⟨rfl, Below.refl _ _⟩
    · exact ⟨rfl, bytesW_below w t⟩)
theorem eqNilErr (W : World) : (binOp .eql 176 .nilIface .nilIface).run Tryz.prog W = .ok (.bool true) W := by kernel_rfl
set_option maxHeartbeats 4000000 in
theorem numberOf_c (hX : Tabs w) {s : ByteArray} {n : Int} (h : numOf s = some n) (hs : s.size < 4294967281) (hn0 : -9223372036854775808 ≤ n) (hn1 : n ≤ 9223372036854775807) :
    Calls Tryz.prog 123 #[.string s] w fun e w' => e = .returned (.int .i64 n) ∧ Below w.heap.size w w' := by
  unfold numOf at h
  split at h
  · rename_i v hv
    split at h
    · rename_i heq
      injection h with h
      subst h
      have cA := atoi_c (w := w) hv hs
      have HX : Hid (Tabs w) := hX
      have HCI : Hid (∀ Y, Tabs Y → Calls Tryz.prog 63 #[.int .i64 v] Y fun e w' => e = .returned (.string (decS v)) ∧ Below Y.heap.size Y w') := fun Y hY => itoa_c hY v hn0 hn1
      have hen := eqNilErr
      generalize decS v = ds at *
      clear hX hv hs hn0 hn1
      go_enter Tryz.func123, Tryz.ntmps123
      go_wp2_with (first | (go_at_call 144; refine cA.mono ?_; rintro e w1 ⟨rfl, hb1⟩; have HB1 : Hid (Below w.heap.size w w1) := hb1; have cI := HCI.out w1 (HX.out.below hb1); clear hb1 cA) | (go_at_call 63; refine cI.mono ?_; rintro e w2 ⟨rfl, hb2⟩; have HB2 : Hid (Below w.heap.size w w2) := HB1.out.trans (hb2.mono HB1.out.size); have cN := want_c w2; clear hb2 cI) | (go_at_call 69; refine cN.mono ?_; rintro e w' ⟨rfl, hw⟩; rw [hw]; clear hw w' cN) | fail)
      go_ret
      exact ⟨rfl, HB2.out⟩
    · cases h
  · cases h
theorem Turned.bel {w w1 w2 : World} {S : Nat → Prop} (h : Turned w w1 S) (hb : Below w1.heap.size w1 w2) : Turned w w2 S := h.trans (Turned.of_below hb S) (fun _ _ h => h)
theorem Tabs.turned {w w' : World} {rb : Nat} (h : Tabs w) (ht : Turned w w' (fun k => k = rb)) (hr : 10 ≤ rb) : Tabs w' := by
  unfold Tabs Lib.TabIs World.var? at h ⊢
  have hg : Tryz.prog.globalNamed "internal/strconv.uint64pow10" = some 2 := by kernel_rfl
  rw [hg] at h ⊢
  simp only [Option.bind_some] at h ⊢
  have hlt : 2 < w.heap.size := by
    rcases Nat.lt_or_ge 2 w.heap.size with h' | h'
    · exact h'
    · rw [Array.getElem?_eq_none h'] at h; cases h
  rw [ht.block _ hlt (by omega)]; exact h
set_option maxHeartbeats 4000000 in
theorem number_c (hX : Tabs w) (hrb : 10 ≤ rb) {s : ByteArray} {r : List ByteArray} (hR : RdT w rb mb ls (s :: r)) {n : Int} (h : numOf s = some n) (hn0 : -9223372036854775808 ≤ n) (hn1 : n ≤ 9223372036854775807) :
    Calls Tryz.prog 103 #[.pointer (some ⟨rb, 0, none⟩)] w fun e w' => e = .returned (.int .i64 n) ∧ RdT w' rb mb ls r ∧ Turned w w' (fun k => k = rb) := by
  have cW := word_c hR
  have HX : Hid (Tabs w) := hX
  have HCN : Hid (∀ Y, Tabs Y → Calls Tryz.prog 123 #[.string s] Y fun e w' => e = .returned (.int .i64 n) ∧ Below Y.heap.size Y w') := fun Y hY => numberOf_c hY h (hR.wl.2 s List.mem_cons_self) hn0 hn1
  clear hX hR h hn0 hn1
  go_enter Tryz.func103, Tryz.ntmps103
  go_wp2_with (first | (go_at_call 119; refine cW.mono ?_; rintro e w1 ⟨rfl, hR1, hT1⟩; have HR1 : Hid (RdT w1 rb mb ls r) := hR1; have HT1 : Hid (Turned w w1 (fun k => k = rb)) := hT1; have cN := HCN.out w1 (HX.out.turned hT1 hrb); clear hR1 hT1 cW) | (go_at_call 123; refine cN.mono ?_; rintro e w2 ⟨rfl, hb2⟩; have HR2 : Hid (RdT w2 rb mb ls r) := HR1.out.below hb2; have HT2 : Hid (Turned w w2 (fun k => k = rb)) := HT1.out.bel hb2; clear hb2 cN) | fail)
  go_ret
  exact ⟨rfl, HR2.out, HT2.out⟩
/-- The temporary that a word is. -/
def tmpOf (s : ByteArray) : Option Int := if Lib.hasPrefix s.data.toList [116] then (match numOf ⟨(Lib.trimPrefix s.data.toList [116]).toArray⟩ with | some n => if 0 ≤ n then some n else none | none => none) else none
theorem trim_le (s : ByteArray) (p : List UInt8) : (⟨(Lib.trimPrefix s.data.toList p).toArray⟩ : ByteArray).size ≤ s.size := by
  have := Lib.trimPrefix_le s.data.toList p
  show (Lib.trimPrefix s.data.toList p).toArray.size ≤ s.data.size
  rw [List.size_toArray]
  exact Nat.le_trans this (by rw [Array.length_toList]; exact Nat.le_refl _)
set_option maxHeartbeats 4000000 in
theorem temp2_c (hX : Tabs w) (hrb : 10 ≤ rb) {s : ByteArray} {r : List ByteArray} (hR : RdT w rb mb ls (s :: r)) {n : Int} (h : tmpOf s = some n) (hn1 : n ≤ 9223372036854775807) :
    Calls Tryz.prog 158 #[.pointer (some ⟨rb, 0, none⟩)] w fun e w' => e = .returned (.int .i64 n) ∧ RdT w' rb mb ls r ∧ Turned w w' (fun k => k = rb) := by
  unfold tmpOf at h
  split at h
  · rename_i hpre
    split at h
    · rename_i v hv
      split at h
      · rename_i hpos
        injection h with h
        subst h
        have cW := word_c hR
        have HX : Hid (Tabs w) := hX
        have hsz : (⟨(Lib.trimPrefix s.data.toList [116]).toArray⟩ : ByteArray).size < 4294967281 := Nat.lt_of_le_of_lt (trim_le s [116]) (hR.wl.2 s List.mem_cons_self)
        have HCN : Hid (∀ Y, Tabs Y → Calls Tryz.prog 123 #[.string ⟨(Lib.trimPrefix s.data.toList [116]).toArray⟩] Y fun e w' => e = .returned (.int .i64 v) ∧ Below Y.heap.size Y w') := fun Y hY => numberOf_c hY hv hsz (by omega) hn1
        have HCP : Hid (∀ Y, Calls Tryz.prog 168 #[.string s, .string ⟨#[116]⟩] Y fun e w' => e = .returned (.tuple #[.string ⟨(Lib.trimPrefix s.data.toList [116]).toArray⟩, .bool (Lib.hasPrefix s.data.toList [116])]) ∧ w' = Y) := fun Y => Tryz.strings_CutPrefix s ⟨#[116]⟩ Y
        rw [hpre] at HCP
        generalize (⟨(Lib.trimPrefix s.data.toList [116]).toArray⟩ : ByteArray) = tr at *
        have d1 : decide (0 ≤ v) = true := by simpa using hpos
        clear hX hR hv hsz hpre hn1 hpos
        go_enter Tryz.func158, Tryz.ntmps158
        go_wp2_with (first | (go_at_call 119; refine cW.mono ?_; rintro e w1 ⟨rfl, hR1, hT1⟩; have HR1 : Hid (RdT w1 rb mb ls r) := hR1; have HT1 : Hid (Turned w w1 (fun k => k = rb)) := hT1; have cN := HCN.out w1 (HX.out.turned hT1 hrb); have cP := HCP.out w1; have cV := want_c w1; clear hR1 hT1 cW) | (go_at_call 168; refine cP.mono ?_; rintro e w' ⟨rfl, hw⟩; rw [hw]; clear hw w' cP) | (go_at_call 69; refine cV.mono ?_; rintro e w' ⟨rfl, hw⟩; rw [hw]; clear hw w' cV) | (go_at_call 123; refine cN.mono ?_; rintro e w2 ⟨rfl, hb2⟩; have HR2 : Hid (RdT w2 rb mb ls r) := HR1.out.below hb2; have HT2 : Hid (Turned w w2 (fun k => k = rb)) := HT1.out.bel hb2; have cV2 := want_c w2; clear hb2 cN) | (go_at_call 69; refine cV2.mono ?_; rintro e w' ⟨rfl, hw⟩; rw [hw]; clear hw w' cV2) | fail)
        go_ret
        exact ⟨rfl, HR2.out, HT2.out⟩
      · cases h
    · cases h
  · cases h
/-- The 32 bits that a word is. -/
def bitOf (s : ByteArray) : Option Nat := match Lib.parseUintB 32 s.data.toList with
  | .ok u => if (natS u).toList == s.toList then (if u < 4294967296 then some u else none) else none
  | _ => none
set_option maxHeartbeats 4000000 in
theorem bitsOf_c (hX : Tabs w) {s : ByteArray} {u : Nat} (h : bitOf s = some u) (hs : s.size < 4294967281) :
    Calls Tryz.prog 169 #[.string s] w fun e w' => e = .returned (.int .u32 u) ∧ Below w.heap.size w w' := by
  unfold bitOf at h
  split at h
  · rename_i v hv
    split at h
    · rename_i heq
      split at h
      · rename_i hlt
        injection h with h
        subst h
        have cA : Calls Tryz.prog 176 #[.string s, .int .i64 10, .int .i64 32] w fun e w' => e = .returned (.tuple #[.int .u64 v, .nilIface]) ∧ Below w.heap.size w w' :=
          (Tryz.strconv_ParseUint_10_at32_ok s (by omega) v hv w).mono (by
            rintro e w' ⟨rfl, rfl | rfl⟩
            · exact ⟨rfl, Below.refl _ _⟩
            · exact ⟨rfl, bytesW_below w s⟩)
        have HX : Hid (Tabs w) := hX
        have HCI : Hid (∀ Y, Tabs Y → Calls Tryz.prog 145 #[.int .u64 v, .int .i64 10] Y fun e w' => e = .returned (.string (natS v)) ∧ Below Y.heap.size Y w') := fun Y hY => fmtUint_c hY v (by omega)
        have hen := eqNilErr
        have hw1 : IntKind.u32.wrap (v : Int) = (v : Int) := by simp [IntKind.wrap, IntKind.signed, IntKind.bits]; omega
        generalize natS v = ds at *
        clear hX hv hs hlt
        go_enter Tryz.func169, Tryz.ntmps169
        go_wp2_with (first | (go_at_call 176; refine cA.mono ?_; rintro e w1 ⟨rfl, hb1⟩; have HB1 : Hid (Below w.heap.size w w1) := hb1; have cI := HCI.out w1 (HX.out.below hb1); clear hb1 cA) | (go_at_call 145; refine cI.mono ?_; rintro e w2 ⟨rfl, hb2⟩; have HB2 : Hid (Below w.heap.size w w2) := HB1.out.trans (hb2.mono HB1.out.size); have cN := want_c w2; clear hb2 cI) | (go_at_call 69; refine cN.mono ?_; rintro e w' ⟨rfl, hw⟩; rw [hw]; clear hw w' cN) | fail)
        go_ret
        exact ⟨rfl, HB2.out⟩
      · cases h
    · cases h
  · cases h
end
end Go.Proofs.YtaaphipbkpjkjaaGreatDoor
namespace Go.Proofs.YtaaphipbkpjkjaaGreatDoor
open Go.RowKit Go.Maps
set_option linter.unusedVariables false
set_option linter.unusedSimpArgs false
set_option maxRecDepth 100000
/-- The operand that a word is. -/
def opOf (s : ByteArray) : Option Ar :=
  if Lib.hasPrefix s.data.toList [35] then (bitOf ⟨(Lib.trimPrefix s.data.toList [35]).toArray⟩).map fun u => ⟨2, (u : Int)⟩
  else if Lib.hasPrefix s.data.toList [116] then (bitOf ⟨(Lib.trimPrefix s.data.toList [116]).toArray⟩).map fun u => ⟨1, (u : Int)⟩ else none
theorem Turned.two {w w1 w2 : World} {rb b : Nat} (h : Turned w w1 (fun k => k = rb)) (ht : Turned w1 w2 (fun k => k = rb ∨ k = b)) (hb : w.heap.size ≤ b) : Turned w w2 (fun k => k = rb) :=
  h.trans ht (fun i hi e => by rcases e with e | e; exact e; omega)
theorem RdT.off {w w' : World} {rb mb b : Nat} {ls ws : List ByteArray} {cs : Array Value} {ty : TypeId} (h : RdT w rb mb ls ws) (ht : Turned w w' (fun k => k = b)) (hb : w.heap[b]? = some (.cells cs ty (0, 0))) (h1 : ty ≠ TRd) (h2 : ty ≠ TStr) : RdT w' rb mb ls ws := by
  obtain ⟨⟨lp, lc, wp, wc, hg, hl, hw⟩, hm, hll, hwl⟩ := h
  have sv : ∀ {p : Option Addr} {cap : Nat} {l : List ByteArray}, StrV w p cap l → StrV w' p cap l := fun h =>
    ⟨h.1, fun hn => by obtain ⟨g, o, cs, e, q1, q2⟩ := h.2 hn; exact ⟨g, o, cs, e, blk_t q1 ht (tag_ne q1 hb h2.symm), q2⟩⟩
  refine ⟨⟨lp, lc, wp, wc, blk_t hg ht (tag_ne hg hb h1.symm), sv hl, sv hw⟩, hm.turned ht ?_, hll, hwl⟩
  obtain ⟨es, ck, q, _⟩ := hm
  rintro rfl
  rw [q] at hb
  cases hb
theorem set2 {w : World} {b : Nat} {x y : Value} {t : TypeId} (h : w.heap[b]? = some (.cells #[x, y] t (0, 0))) (u v : Value) :
    ((w.setCell ⟨b, 0, none⟩ u).setCell ⟨b, 1, none⟩ v).heap[b]? = some (.cells #[u, v] t (0, 0)) ∧ Turned w ((w.setCell ⟨b, 0, none⟩ u).setCell ⟨b, 1, none⟩ v) (fun k => k = b) :=
  ⟨heap_setCell (j := 1) (heap_setCell (j := 0) h u) v, (Turned.setCell w b 0 u (S := fun k => k = b) rfl).trans (Turned.setCell _ b 1 v (S := fun k => k = b) rfl) (fun _ _ h => h)⟩
section
variable {w : World} {rb mb : Nat} {ls ws : List ByteArray}
set_option maxHeartbeats 4000000 in
theorem operandR_c (hX : Tabs w) (hrb : 10 ≤ rb) {s : ByteArray} {r : List ByteArray} (hR : RdT w rb mb ls (s :: r)) {a : Ar} (h : opOf s = some a) :
    Calls Tryz.prog 160 #[.pointer (some ⟨rb, 0, none⟩)] w fun e w' => e = .returned (arV a) ∧ RdT w' rb mb ls r ∧ Turned w w' (fun k => k = rb) := by
  have b1 := below1 w (.cells #[.int .i64 0, .int .u32 0] TAr)
  have N1 := heap_r0 w (.cells #[.int .i64 0, .int .u32 0] TAr)
  have hrl : rb < w.heap.size := by obtain ⟨⟨_, _, _, _, hg, _⟩, _⟩ := hR; exact lt_of_heap hg
  have cW := word_c (hR.below b1)
  have hss := hR.wl.2 s List.mem_cons_self
  have HX : Hid (Tabs w) := hX
  have HB1 : Hid (Below w.heap.size w (w.alloc (.cells #[.int .i64 0, .int .u32 0] TAr))) := b1
  have HN1 : Hid ((w.alloc (.cells #[.int .i64 0, .int .u32 0] TAr)).heap[w.heap.size]? = some (.cells #[.int .i64 0, .int .u32 0] TAr (0, 0))) := N1
  have HCP1 : Hid (∀ Y, Calls Tryz.prog 168 #[.string s, .string ⟨#[35]⟩] Y fun e w' => e = .returned (.tuple #[.string ⟨(Lib.trimPrefix s.data.toList [35]).toArray⟩, .bool (Lib.hasPrefix s.data.toList [35])]) ∧ w' = Y) := fun Y => Tryz.strings_CutPrefix s ⟨#[35]⟩ Y
  have HCP2 : Hid (∀ Y, Calls Tryz.prog 168 #[.string s, .string ⟨#[116]⟩] Y fun e w' => e = .returned (.tuple #[.string ⟨(Lib.trimPrefix s.data.toList [116]).toArray⟩, .bool (Lib.hasPrefix s.data.toList [116])]) ∧ w' = Y) := fun Y => Tryz.strings_CutPrefix s ⟨#[116]⟩ Y
  have hs1 := Nat.lt_of_le_of_lt (trim_le s [35]) hss
  have hs2 := Nat.lt_of_le_of_lt (trim_le s [116]) hss
  unfold opOf at h
  unfold arV
  split at h
  · rename_i hp
    rw [hp] at HCP1
    cases hb : bitOf ⟨(Lib.trimPrefix s.data.toList [35]).toArray⟩ with
    | none => rw [hb] at h; cases h
    | some u =>
      rw [hb] at h
      obtain rfl : (⟨2, (u : Int)⟩ : Ar) = a := Option.some.inj h
      have HCB : Hid (∀ Y, Tabs Y → Calls Tryz.prog 169 #[.string ⟨(Lib.trimPrefix s.data.toList [35]).toArray⟩] Y fun e w' => e = .returned (.int .u32 u) ∧ Below Y.heap.size Y w') := fun Y hY => bitsOf_c hY hb hs1
      generalize (⟨(Lib.trimPrefix s.data.toList [35]).toArray⟩ : ByteArray) = tr at *
      clear HCP2 hb hp hs1 hs2 hss hX hR b1 N1
      go_enter Tryz.func160, Tryz.ntmps160
      go_upto_region 1 with (fail)
      refine (?_ : Code.wp _ _ _ _ (w.alloc (.cells #[.int .i64 0, .int .u32 0] TAr)))
      generalize w.alloc (.cells #[.int .i64 0, .int .u32 0] TAr) = W1 at *
      go_wp2_with (first | (go_at_call 119; refine cW.mono ?_; rintro e w1 ⟨rfl, hR1, hT1⟩; have HR1 : Hid (RdT w1 rb mb ls r) := hR1; have HT1 : Hid (Turned W1 w1 (fun k => k = rb)) := hT1; have cP := HCP1.out w1; have cB := HCB.out w1 ((HX.out.below HB1.out).turned hT1 hrb); clear hR1 hT1 cW) | (go_at_call 168; refine cP.mono ?_; rintro e w' ⟨rfl, hw⟩; rw [hw]; clear hw w' cP) | (go_at_call 169; refine cB.mono ?_; rintro e w2 ⟨rfl, hb2⟩; have HR2 : Hid (RdT w2 rb mb ls r) := HR1.out.below hb2; have hT2 := HT1.out.bel hb2; have hN2 := blk_t HN1.out hT2 (by omega); have z0 := (Lib.cell_of_heap hN2 0).trans rfl; have z1 := (Lib.cell_of_heap hN2 1).trans rfl; have y0 := frozen_of hN2 0; have y1 := frozen_of hN2 1; have HN2 : Hid (w2.heap[w.heap.size]? = some (.cells #[.int .i64 0, .int .u32 0] TAr (0, 0))) := hN2; have HT2 : Hid (Turned W1 w2 (fun k => k = rb)) := hT2; clear hb2 cB hT2 hN2) | fail)
      obtain ⟨g3, t3⟩ := set2 HN2.out (.int .i64 2) (.int .u32 (u : Int))
      have q0 := (Lib.cell_of_heap g3 0).trans rfl
      have q1 := (Lib.cell_of_heap g3 1).trans rfl
      refine bodyPost_ret (v := .agg #[.int .i64 2, .int .u32 (u : Int)]) (by simp [results, Tryz.results160, go_sem, q0, q1]) rfl ⟨rfl, HR2.out.off t3 HN2.out (by decide) (by decide), ?_⟩
      exact ((Turned.of_below HB1.out _).trans HT2.out (fun _ _ h => h)).trans t3 (fun i hi e => by omega)
  · rename_i hp
    have hp' : Lib.hasPrefix s.data.toList [35] = false := by simpa using hp
    rw [hp'] at HCP1
    split at h
    · rename_i hq
      rw [hq] at HCP2
      cases hb : bitOf ⟨(Lib.trimPrefix s.data.toList [116]).toArray⟩ with
      | none => rw [hb] at h; cases h
      | some u =>
        rw [hb] at h
        obtain rfl : (⟨1, (u : Int)⟩ : Ar) = a := Option.some.inj h
        have HCB : Hid (∀ Y, Tabs Y → Calls Tryz.prog 169 #[.string ⟨(Lib.trimPrefix s.data.toList [116]).toArray⟩] Y fun e w' => e = .returned (.int .u32 u) ∧ Below Y.heap.size Y w') := fun Y hY => bitsOf_c hY hb hs2
        generalize (⟨(Lib.trimPrefix s.data.toList [116]).toArray⟩ : ByteArray) = tr at *
        generalize (⟨(Lib.trimPrefix s.data.toList [35]).toArray⟩ : ByteArray) = tr0 at *
        clear hb hp hq hp' hs1 hs2 hss hX hR b1 N1
        go_enter Tryz.func160, Tryz.ntmps160
        go_upto_region 1 with (fail)
        refine (?_ : Code.wp _ _ _ _ (w.alloc (.cells #[.int .i64 0, .int .u32 0] TAr)))
        generalize w.alloc (.cells #[.int .i64 0, .int .u32 0] TAr) = W1 at *
        go_upto_region 4 with (first | (go_at_call 119; refine cW.mono ?_; rintro e w1 ⟨rfl, hR1, hT1⟩; have HR1 : Hid (RdT w1 rb mb ls r) := hR1; have HT1 : Hid (Turned W1 w1 (fun k => k = rb)) := hT1; have cP := HCP1.out w1; have cP2 := HCP2.out w1; have cV := want_c w1; have cB := HCB.out w1 ((HX.out.below HB1.out).turned hT1 hrb); clear hR1 hT1 cW) | (go_at_call 168; refine cP.mono ?_; rintro e w' ⟨rfl, hw⟩; rw [hw]; clear hw w' cP) | fail)
        go_wp2_with (first | (go_at_call 168; refine cP2.mono ?_; rintro e w' ⟨rfl, hw⟩; rw [hw]; clear hw w' cP2) | (go_at_call 69; refine cV.mono ?_; rintro e w' ⟨rfl, hw⟩; rw [hw]; clear hw w' cV) | (go_at_call 169; refine cB.mono ?_; rintro e w2 ⟨rfl, hb2⟩; have HR2 : Hid (RdT w2 rb mb ls r) := HR1.out.below hb2; have hT2 := HT1.out.bel hb2; have hN2 := blk_t HN1.out hT2 (by omega); have z0 := (Lib.cell_of_heap hN2 0).trans rfl; have z1 := (Lib.cell_of_heap hN2 1).trans rfl; have y0 := frozen_of hN2 0; have y1 := frozen_of hN2 1; have HN2 : Hid (w2.heap[w.heap.size]? = some (.cells #[.int .i64 0, .int .u32 0] TAr (0, 0))) := hN2; have HT2 : Hid (Turned W1 w2 (fun k => k = rb)) := hT2; clear hb2 cB hT2 hN2) | fail)
        obtain ⟨g3, t3⟩ := set2 HN2.out (.int .i64 1) (.int .u32 (u : Int))
        have q0 := (Lib.cell_of_heap g3 0).trans rfl
        have q1 := (Lib.cell_of_heap g3 1).trans rfl
        refine bodyPost_ret (v := .agg #[.int .i64 1, .int .u32 (u : Int)]) (by simp [results, Tryz.results160, go_sem, q0, q1]) rfl ⟨rfl, HR2.out.off t3 HN2.out (by decide) (by decide), ?_⟩
        exact ((Turned.of_below HB1.out _).trans HT2.out (fun _ _ h => h)).trans t3 (fun i hi e => by omega)
    · cases h
end
end Go.Proofs.YtaaphipbkpjkjaaGreatDoor
