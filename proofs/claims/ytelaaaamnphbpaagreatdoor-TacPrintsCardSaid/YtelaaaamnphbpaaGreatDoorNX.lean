/- The law that package tac's Print answers as the document's, at every program that came in. -/
import Derived.Test.YtelaaaamnphbpaaGreatDoorTjG
import Derived.Test.YtelaaaamnphbpaaGreatDoorThN
import Derived.Test.YtelaaaamnphbpaaGreatDoorNY
import Derived.Test.YtelaaaamnphbpaaGreatDoorNZ
import Derived.Test.YtelaaaamnphbpaaGreatDoorTcJ
namespace Go.Proofs.YtelaaaamnphbpaaGreatDoor
set_option maxHeartbeats 16000000
open Go.RowKit Go.Maps
set_option linter.unusedVariables false
set_option linter.unusedSimpArgs false
set_option maxRecDepth 100000
def catL (l : List ByteArray) : List UInt8 := l.flatMap fun s => s.data.toList ++ [10]
theorem catL_len : ∀ l : List ByteArray, (catL l).length = lenL l
 | [] => rfl
 | a :: l => by
  have h := catL_len l
  simp only [catL, lenL, List.flatMap_cons, List.length_append, List.map_cons, List.sum_cons, List.length_cons, List.length_nil] at h ⊢
  have e : a.data.toList.length = a.size := by rw [Array.length_toList]; rfl
  rw [h, e]
theorem catL_take {l : List ByteArray} {k : Nat} {s : ByteArray} (h : l[k]? = some s) : catL (l.take (k + 1)) = catL (l.take k) ++ s.data.toList ++ [10] := by
 rw [take_succ h]; simp [catL]
theorem catL_le (l : List ByteArray) (k : Nat) : (catL (l.take k)).length ≤ (catL l).length := by
 have h : catL l = catL (l.take k) ++ catL (l.drop k) := by
  unfold catL
  rw [← List.flatMap_append, List.take_append_drop]
 rw [h, List.length_append]; omega
theorem LL_len : ∀ l : List ByteArray, l.length ≤ lenL l
 | [] => Nat.le_refl _
 | a :: l => by
  have h := LL_len l
  simp only [lenL, List.map_cons, List.sum_cons, List.length_cons] at h ⊢
  omega
def rprE (x : Pg) : Int := if checkB x then (if lenL (LN x) ≤ 1048576 then 0 else 2) else 130
def rprT (x : Pg) : ByteArray := if checkB x then (if lenL (LN x) ≤ 1048576 then sB (catL (LN x)) else ⟨#[]⟩) else ⟨#[]⟩
theorem LN_pos (x : Pg) : 0 < (LN x).length := by unfold LN; simp only [List.length_append, List.length_cons]; omega
section
variable {w : World}
theorem rPrint_c {x : Pg} {a : Pw} (hx : PgOK w x a) (hN : NamesIn w) (hg : checkB x = true → PgR x) :
 Calls Tryz.prog 22 #[pgV x a] w fun e w' => e = .returned (.tuple #[.string (rprT x), .int .i64 (rprE x)]) ∧ Below w.heap.size w w' := by
 obtain ⟨W1, hW1, N1, b1⟩ := uno_ex w (.cells #[.slice a.op x.obs.length a.oc, .slice a.fp x.fns.length a.fc, .int .i64 x.mn] TPg)
 have c0 := (Lib.cell_of_heap N1 0).trans rfl
 have c1 := (Lib.cell_of_heap N1 1).trans rfl
 have c2 := (Lib.cell_of_heap N1 2).trans rfl
 have cK := rCheck_c (hx.below b1) (hN.below b1)
 have HG1 : Hid (_ = _) := N1
 have HB1 : Hid (Below w.heap.size w W1) := b1
 unfold pgV at cK ⊢
 cases hck : checkB x with
 | false =>
  rw [hck] at cK
  have HE : Hid (rprE x = 130) := by show _ = _; unfold rprE; rw [hck]; rfl
  have HTx : Hid (rprT x = ⟨#[]⟩) := by show _ = _; unfold rprT; rw [hck]; rfl
  rw [HE.out, HTx.out]
  clear b1 N1 hx hN hg hck HE HTx
  simp only [Bool.false_eq_true, if_false] at cK
  go_enter Tryz.func22, Tryz.ntmps22
  go_upto_region 1 with (fail)
  refine wp_at hW1 ?_
  clear hW1
  go_wp2_with (first | (go_at_call 15; refine cK.mono ?_; rintro e w2 ⟨rfl, hb2⟩; have HB2 : Hid (Below w.heap.size w w2) := HB1.out.trans (hb2.mono HB1.out.size); clear hb2 cK) | fail)
  go_ret2
  exact ⟨rfl, HB2.out⟩
 | true =>
  rw [hck] at cK
  have HCL : Hid (∀ Y, Below w.heap.size w Y → Calls Tryz.prog 40 #[.agg #[.slice a.op x.obs.length a.oc, .slice a.fp x.fns.length a.fc, .int .i64 x.mn]] Y fun e w' => ∃ p c, e = .returned (.tuple #[.slice p (LN x).length c, .bool (decide (lenL (LN x) ≤ 1048576))]) ∧ OwnS Y.heap.size w' p c (LN x) ∧ Below Y.heap.size Y w') := fun Y hY => lines_c (hx.below hY) (hg hck)
  have HLS : Hid (∀ s ∈ LN x, s.size ≤ 300000000) := LN_size (hg hck)
  have hpos := LN_pos x
  have HE : Hid (rprE x = if lenL (LN x) ≤ 1048576 then 0 else 2) := by show _ = _; unfold rprE; rw [hck]; rfl
  have HTx : Hid (rprT x = if lenL (LN x) ≤ 1048576 then sB (catL (LN x)) else ⟨#[]⟩) := by show _ = _; unfold rprT; rw [hck]; rfl
  have hcl := catL_len (LN x)
  generalize LN x = LL at *
  simp only [if_true] at cK
  clear b1 N1 hx hN hg hck
  by_cases hl : lenL LL ≤ 1048576
  ·have HE2 : Hid (rprE x = 0) := HE.out.trans (if_pos hl)
   have HT2 : Hid (rprT x = sB (catL LL)) := HTx.out.trans (if_pos hl)
   have hdl : decide (lenL LL ≤ 1048576) = true := by simpa using hl
   rw [hdl] at HCL
   rw [HE2.out, HT2.out]
   clear HE HTx HE2 HT2 hdl
   have hcm : (catL LL).length ≤ 1048576 := by omega
   have hcp : 0 < (catL LL).length := by
    obtain ⟨s, hs⟩ : ∃ s, LL[0]? = some s := ⟨_, List.getElem?_eq_getElem hpos⟩
    have h1 := catL_take (k := 0) hs
    have h2 := catL_le LL 1
    rw [h1] at h2
    simp only [List.length_append, List.length_cons] at h2
    omega
   clear hcl hl
   go_enter Tryz.func22, Tryz.ntmps22
   go_upto_region 1 with (fail)
   refine wp_at hW1 ?_
   clear hW1
   go_wp2_with (first
    | (go_at_call 15; refine cK.mono ?_; rintro e w2 ⟨rfl, hb2⟩; have HB2 : Hid (Below w.heap.size w w2) := HB1.out.trans (hb2.mono HB1.out.size); have N2 := blk_b HG1.out hb2; clear c0 c1 c2; have c0 := (Lib.cell_of_heap N2 0).trans rfl; have c1 := (Lib.cell_of_heap N2 1).trans rfl; have c2 := (Lib.cell_of_heap N2 2).trans rfl; clear hb2 cK N2)
    | (go_at_call 40; refine (HCL.out _ HB2.out).mono ?_; rintro e w3 ⟨p3, c3, rfl, ho3, hb3⟩; have HB3 : Hid (Below w.heap.size w w3) := HB2.out.trans (hb3.mono HB2.out.size); have HO3 : Hid (OwnS w2.heap.size w3 p3 c3 LL) := ho3; clear hb3 ho3 c0 c1 c2)
    | fail)
   have hll : LL.length ≤ 1048576 := by
    have h := LL_len LL
    have h2 := catL_len LL
    omega
   obtain ⟨g9, cap9, hv9, hb9, hlt9, hcp9, hcell, _⟩ := own_cell HO3.out hpos
   injection hv9 with hv1 hv2 hv3
   subst hv1 hv3
   have HCE : Hid (∀ Y, SH w3 Y → ∀ j s, LL[j]? = some s → Y.cell? ⟨g9, j, none⟩ = some (.string s)) := fun Y h j s hs => (Below.cell h (p := ⟨g9, j, none⟩) hlt9).trans (hcell j _ (by simp [stV, hs]))
   clear hcell
   go_loopw [6, 7] (fun ov iv wr => ∃ (k : Nat) (p : Option Addr) (c : Nat), iv = .int .i64 k ∧ k ≤ LL.length ∧ ov = .slice p (catL (LL.take k)).length c ∧ Hid (wr.ownsRow w3.heap.size TBy 1 (.slice p (catL (LL.take k)).length c) (catL (LL.take k)).length (byV (catL (LL.take k)))) ∧ Hid (SH w3 wr)) (fun _ iv _ => LL.length - (intOf iv).toNat)
   case atStart => exact ⟨0, none, 0, rfl, Nat.zero_le _, rfl, World.ownsRow_nil w3 _ TBy 1, SH.refl w3⟩
   case round =>
    obtain ⟨k, p, c, rfl, hk, rfl, HO, HS⟩ := hrel
    by_cases hlt : k < LL.length
    ·obtain ⟨s, hs⟩ : ∃ s, LL[k]? = some s := ⟨_, List.getElem?_eq_getElem hlt⟩
     have a0 := HCE.out wr HS.out k s hs
     have HT : Hid (catL (LL.take (k + 1)) = catL (LL.take k) ++ s.data.toList ++ [10]) := catL_take hs
     have hle := catL_le LL (k + 1)
     rw [HT.out] at hle
     have hss : s.data.toList.length = s.size := by rw [Array.length_toList]; rfl
     simp only [List.length_append, List.length_cons, List.length_nil, hss] at hle
     generalize catL (LL.take k) = T0 at *
     obtain ⟨i0, hi, hz0, hz1, hz2⟩ := info_parts infoB
     have hBr : w3.heap.size ≤ wr.heap.size := Below.size HS.out
     clear hs
     go_wp2_with (first | (at_builtin; refine Lib.wpList_append_own_string _ rfl _ _ 67 9 rfl w3.heap.size TBy i0 Tryz.underlying67 Tryz.underlying9 hi hz0 hz1 hz2 _ _ _ rfl HO.out s rfl (by unfold maxLen; omega) (by omega) hBr ?_) | fail)
     intro v' w5 ho5 hgr _
     rw [byV_str, len_str] at ho5
     have HS5 : Hid (SH w3 w5) := below_grown HS.out hBr hgr (fun g e => (ownsRow_at HO.out e).1)
     obtain ⟨p5, c5, rfl⟩ := slice_of_own ho5
     have hT1 : Hid (T0 ++ s.data.toList ++ [10] = (T0 ++ s.data.toList) ++ [10]) := rfl
     have hl1 : (T0 ++ s.data.toList).length ≤ 1048576 := by have := (len_str T0 s).symm; omega
     have HO6 : Hid ((w5.alloc (.cells #[.int .u8 10] TBy)).ownsRow w3.heap.size TBy 1 (.slice p5 (T0 ++ s.data.toList).length c5) (T0 ++ s.data.toList).length (byV (T0 ++ s.data.toList))) := ownsRow_turned ho5 (Turned.of_below (below1 w5 _) (fun _ => False)) (fun _ _ h => h)
     have HS6 : Hid (SH w3 (w5.alloc (.cells #[.int .u8 10] TBy))) := SH.alloc HS5.out _
     have nw := cells_new w5 #[.int .u8 10] TBy
     have hB6 : w3.heap.size ≤ (w5.alloc (.cells #[.int .u8 10] TBy)).heap.size := Below.size HS6.out
     generalize T0 ++ s.data.toList = T1 at *
     clear ho5 hgr a0
     go_wp2_with (first | (at_builtin; refine wpList_append_own _ rfl _ _ 67 rfl w3.heap.size TBy i0 (.int .u8 0) 1 1 Tryz.underlying67 hi hz0 hz1 hz2 rfl (by decide) _ _ _ rfl HO6.out ⟨w5.heap.size, 0, none⟩ 1 1 [.int .u8 10] rfl rfl nw (by intro u hu; simp at hu; subst hu; rfl) (by unfold maxLen; omega) (by omega) hB6 ?_) | fail)
     intro v' w7 ho7 hgr _
     have HS7 : Hid (SH w3 w7) := below_grown HS6.out hB6 hgr (fun g e => (ownsRow_at HO6.out e).1)
     have ho8 : w7.ownsRow w3.heap.size TBy 1 v' (T1 ++ [10]).length (byV (T1 ++ [10])) := by simpa [byV] using ho7
     obtain ⟨p7, c7, rfl⟩ := slice_of_own ho8
     have HO7 : Hid (World.ownsRow _ _ _ _ _ _ _) := ho8
     clear ho7 ho8 hgr
     go_wp2
     refine ⟨⟨k + 1, p7, c7, by go_num, by omega, by rw [HT.out], Lib.hid (by rw [HT.out]; exact HO7.out), HS7⟩, by simp [intOf]; omega⟩
    ·obtain rfl : k = LL.length := by omega
     rw [List.take_length] at HO
     rw [List.take_length]
     have hcv := conv_text HO.out hcp
     go_wp2
     go_ret2
     exact ⟨rfl, HB3.out.trans (Below.mono HS.out HB3.out.size)⟩
  ·have HE2 : Hid (rprE x = 2) := HE.out.trans (if_neg hl)
   have HT2 : Hid (rprT x = ⟨#[]⟩) := HTx.out.trans (if_neg hl)
   have hdl : decide (lenL LL ≤ 1048576) = false := by simpa using hl
   rw [hdl] at HCL
   rw [HE2.out, HT2.out]
   clear HE HTx HE2 HT2 hdl hl hcl
   go_enter Tryz.func22, Tryz.ntmps22
   go_upto_region 1 with (fail)
   refine wp_at hW1 ?_
   clear hW1
   go_wp2_with (first
    | (go_at_call 15; refine cK.mono ?_; rintro e w2 ⟨rfl, hb2⟩; have HB2 : Hid (Below w.heap.size w w2) := HB1.out.trans (hb2.mono HB1.out.size); have N2 := blk_b HG1.out hb2; clear c0 c1 c2; have c0 := (Lib.cell_of_heap N2 0).trans rfl; have c1 := (Lib.cell_of_heap N2 1).trans rfl; have c2 := (Lib.cell_of_heap N2 2).trans rfl; clear hb2 cK N2)
    | (go_at_call 40; refine (HCL.out _ HB2.out).mono ?_; rintro e w3 ⟨p3, c3, rfl, ho3, hb3⟩; have HB3 : Hid (Below w.heap.size w w3) := HB2.out.trans (hb3.mono HB2.out.size); clear hb3 ho3 c0 c1 c2)
    | fail)
   go_ret2
   exact ⟨rfl, HB3.out⟩
end
end Go.Proofs.YtelaaaamnphbpaaGreatDoor
namespace Go.Proofs.YtelaaaamnphbpaaGreatDoor
set_option maxHeartbeats 16000000
open Go.RowKit Go.Maps
set_option linter.unusedVariables false
set_option linter.unusedSimpArgs false
set_option maxRecDepth 100000
theorem funL_mem {obs : List Ob} {fns : List Fn} : ∀ {seen : List (List UInt8)} {l : List Fg}, funL obs fns seen l = true → ∀ q ∈ l, fun1 obs fns q = true
 | _, [], _, q, hq => by cases hq
 | seen, a :: r, h, q, hq => by
  unfold funL at h
  rw [Bool.and_eq_true, Bool.and_eq_true] at h
  rcases List.mem_cons.1 hq with rfl | hq
  ·exact h.2.1
  ·exact funL_mem h.2.2 q hq
theorem linS_full {t : List UInt8} (h : 1048576 < t.length) : ∀ ls : List (List ByteArray), linS t ls = t
 | [] => rfl
 | a :: r => by
  have e : linS t (a :: r) = linS (lineS t a) r := rfl
  have e2 : lineS t a = t := by unfold lineS; rw [if_pos h]
  rw [e, e2, linS_full h r]
theorem linS_fits : ∀ (ls : List (List ByteArray)) (t : List UInt8), (t ++ ls.flatMap lineT).length ≤ 1048576 → linS t ls = t ++ ls.flatMap lineT
 | [], t, _ => by simp [linS]
 | a :: r, t, h => by
  have e : linS t (a :: r) = linS (lineS t a) r := rfl
  have e3 : t ++ (a :: r).flatMap lineT = (t ++ lineT a) ++ r.flatMap lineT := by simp
  rw [e3] at h ⊢
  have ht : ¬ 1048576 < t.length := by simp only [List.length_append] at h; omega
  have e2 : lineS t a = t ++ lineT a := by unfold lineS; rw [if_neg ht]
  rw [e, e2, linS_fits r _ h]
theorem linS_more : ∀ (ls : List (List ByteArray)) (t : List UInt8), 1048576 < (t ++ ls.flatMap lineT).length → 1048576 < (linS t ls).length
 | [], t, h => by simpa [linS] using h
 | a :: r, t, h => by
  have e : linS t (a :: r) = linS (lineS t a) r := rfl
  by_cases ht : 1048576 < t.length
  ·rw [linS_full ht]; exact ht
  ·have e2 : lineS t a = t ++ lineT a := by unfold lineS; rw [if_neg ht]
   have e3 : t ++ (a :: r).flatMap lineT = (t ++ lineT a) ++ r.flatMap lineT := by simp
   rw [e3] at h
   rw [e, e2]
   exact linS_more r _ h
theorem relB_len {align size : Int} {obs : List Ob} {bs : List UInt8} : ∀ {l : List Rl} {free : Int}, relB align size obs bs free l = true → l = [] ∨ free + 4 * (l.length : Int) ≤ size
 | [], _, _ => Or.inl rfl
 | r :: l, free, h => by
  simp only [relB, rel1, withinP, Bool.and_eq_true, decide_eq_true_eq] at h
  obtain ⟨⟨_, ⟨h1, h2⟩, _⟩, _, _, h3⟩ := h
  refine Or.inr ?_
  simp only [List.length_cons]
  rcases relB_len h3 with rfl | h4
  ·simp; omega
  ·omega
theorem relB_all {align size : Int} {obs : List Ob} {bs : List UInt8} : ∀ {l : List Rl} {free : Int}, 0 ≤ free → relB align size obs bs free l = true → ∀ r ∈ l, (0 ≤ r.off ∧ r.off ≤ size - 4) ∧ (0 ≤ r.glob ∧ r.glob ≤ (obs.length : Int) - 1) ∧ (0 ≤ r.add ∧ r.add ≤ szO obs r.glob)
 | [], _, _, _, r, hr => by cases hr
 | r :: l, free, h0, h, q, hq => by
  simp only [relB, rel1, rel2, withinP, Bool.and_eq_true, decide_eq_true_eq] at h
  obtain ⟨⟨_, ⟨h1, h2⟩, _⟩, ⟨⟨h3, h4⟩, h5, h6⟩, _, h7⟩ := h
  rcases List.mem_cons.1 hq with rfl | hq
  ·exact ⟨⟨by omega, h2⟩, ⟨h3, h4⟩, h5, h6⟩
  ·exact relB_all (free := r.off + 4) (by omega) h7 q hq
theorem tagP_len {l : List UInt8} (h : tagP l = true) : l.length ≤ 63 := by
 unfold tagP at h
 rcases Bool.or_eq_true _ _ ▸ h with h | h
 ·unfold nameP at h
  cases l with
  | nil => simp
  | cons c r =>
   simp only [Bool.and_eq_true, decide_eq_true_eq] at h
   exact h.1.1
 ·unfold numbP at h
  simp only [Bool.and_eq_true, decide_eq_true_eq] at h
  omega
theorem szO_le {l : List Ob} (h : ∀ o ∈ l, o.size ≤ 16384) (n : Int) : szO l n ≤ 16384 := by
 unfold szO
 cases e : l[n.toNat]? with
 | none => show (0 : Int) ≤ 16384; decide
 | some o => exact h o (List.mem_of_getElem? e)
theorem szS_le {l : List Slt} (h : ∀ o ∈ l, o.size ≤ 16384) (n : Int) : szS l n ≤ 16384 := by
 unfold szS
 cases e : l[n.toNat]? with
 | none => show (0 : Int) ≤ 16384; decide
 | some o => exact h o (List.mem_of_getElem? e)
theorem roomB_le {s a : Int} (h : roomB s a = true) : (1 ≤ s ∧ s ≤ 16384) ∧ (1 ≤ a ∧ a ≤ 4) := by
 simp only [roomB, widthB, withinP, Bool.and_eq_true, Bool.or_eq_true, beq_iff_eq, decide_eq_true_eq] at h
 omega
theorem str_len (s : ByteArray) : s.data.toList.length = s.size := by rw [Array.length_toList]; rfl
theorem obj1_ok {obs : List Ob} {q : Og} (hs : ∀ o ∈ obs, o.size ≤ 16384) (ho : obs.length ≤ 256) (h : obj1 obs q = true) : OgR q ∧ OgP q := by
 simp only [obj1, Bool.and_eq_true, beq_iff_eq] at h
 obtain ⟨h1, h2, h3, h4⟩ := h
 have k1 := tagP_len h1
 rw [str_len] at k1
 have k2 := roomB_le h2
 have k3 := relB_all (Int.le_refl 0) h4
 have k4 := relB_len h4
 have hl : q.rls.length ≤ 100000 := by
  rcases k4 with e | e
  ·rw [e]; simp
  ·omega
 have kr : ∀ r ∈ q.rls, Sm r.off ∧ Sm r.glob ∧ Sm r.add := fun r hr => by
  have := k3 r hr
  have h9 := szO_le hs r.glob
  refine ⟨⟨by omega, by omega⟩, ⟨by omega, by omega⟩, ⟨by omega, by omega⟩⟩
 exact ⟨⟨by omega, ⟨by omega, by omega⟩, ⟨by omega, by omega⟩, by omega, hl, kr⟩, ⟨by omega, ⟨by omega, by omega⟩, ⟨by omega, by omega⟩, by omega, fun r hr => by
  obtain ⟨a, b, c⟩ := kr r hr
  exact ⟨⟨by have := a.1; omega, by have := a.2; omega⟩, ⟨by have := b.1; omega, by have := b.2; omega⟩, ⟨by have := c.1; omega, by have := c.2; omega⟩⟩⟩⟩
theorem GdI.inn {x : In} (h : GdI x) : InN x := by
 have := h.d.1; have := h.d.2; have := h.n.1; have := h.n.2; have := h.off.1; have := h.off.2; have := h.wd.1; have := h.wd.2
 refine ⟨by omega, by omega, by omega, by omega, by omega, by omega, by omega, by omega, h.al, ?_⟩
 intro a ha
 rcases List.mem_cons.1 ha with rfl | ha
 ·exact h.a
 rcases List.mem_cons.1 ha with rfl | ha
 ·exact h.b
 ·exact h.ao a ha
theorem fun1_ok {obs : List Ob} {fns : List Fn} {q : Fg} (hs : ∀ o ∈ obs, o.size ≤ 16384) (ho : obs.length ≤ 256) (hf : fns.length ≤ 64) (hp : ∀ f ∈ fns, f.pr ≤ 8) (hi : ∀ i ∈ q.code, ArOK i.x.a ∧ ArOK i.x.b ∧ ∀ a ∈ i.x.args, ArOK a) (h : fun1 obs fns q = true) :
 FgR q ∧ FgP q ∧ ∀ i ∈ q.code, wT 0 (wordsP i.x) = (lnT i.x).data.toList := by
 simp only [fun1, frameB, codeB, withinP, Bool.and_eq_true, decide_eq_true_eq, List.all_eq_true] at h
 obtain ⟨h1, ⟨⟨p0, p1⟩, ⟨t0, t1⟩, h3, h4⟩, ⟨c0, c1⟩, _, h6⟩ := h
 have k1 := tagP_len h1
 rw [str_len] at k1
 have ks : ∀ s ∈ q.sls, Sm s.size ∧ Sm s.align := fun s hs => by
  have := roomB_le (h4 s hs)
  exact ⟨⟨by omega, by omega⟩, ⟨by omega, by omega⟩⟩
 have B : Bd q.f.tp q.code.length q.sls obs fns := ⟨by omega, by omega, by omega, ho, hf, szS_le fun s hs => (roomB_le (h4 s hs)).1.2, szO_le hs, hp⟩
 have kc : ∀ i ∈ q.code, GdI i.x ∧ wT 0 (wordsP i.x) = (lnT i.x).data.toList := fun i h => right_text B (hi i h).1 (hi i h).2.1 (hi i h).2.2 (h6 i h)
 refine ⟨⟨by omega, ⟨by omega, by omega⟩, ⟨by omega, by omega⟩, by omega, ks, by omega, fun i h => (kc i h).1⟩, ⟨by omega, ⟨by omega, by omega⟩, ⟨by omega, by omega⟩, fun s hs => ?_, fun i h => ⟨(kc i h).1.inn, by have := (kc i h).1.o1; omega, by have := (kc i h).1.o2; omega⟩⟩, fun i h => (kc i h).2⟩
 obtain ⟨a, b⟩ := ks s hs
 exact ⟨⟨by have := a.1; omega, by have := a.2; omega⟩, ⟨by have := b.1; omega, by have := b.2; omega⟩⟩
theorem checkB_ok {w : World} {x : Pg} {a : Pw} (hx : PgOK w x a) (h : checkB x = true) : PgR x ∧ PgP x ∧ (∀ q ∈ x.obs, OgP q) ∧ ∀ q ∈ x.fns, ∀ i ∈ q.code, wT 0 (wordsP i.x) = (lnT i.x).data.toList := by
 simp only [checkB, objB, funsB, mainB, withinP, Bool.and_eq_true, decide_eq_true_eq, List.all_eq_true] at h
 obtain ⟨⟨ho, h1⟩, ⟨⟨f0, f1⟩, h2⟩, ⟨m0, m1⟩, _⟩ := h
 have hs : ∀ o ∈ x.obs.map Og.o, o.size ≤ 16384 := fun o ho => by
  obtain ⟨q, hq, rfl⟩ := List.mem_map.1 ho
  have := h1 q hq
  simp only [obj1, Bool.and_eq_true] at this
  exact (roomB_le this.2.1).1.2
 have hl : (x.obs.map Og.o).length ≤ 256 := by rw [List.length_map]; exact ho
 have h3 := funL_mem h2
 have hp : ∀ f ∈ x.fns.map Fg.f, f.pr ≤ 8 := fun f hf => by
  obtain ⟨q, hq, rfl⟩ := List.mem_map.1 hf
  have := h3 q hq
  simp only [fun1, frameB, withinP, Bool.and_eq_true, decide_eq_true_eq] at this
  exact this.2.1.1.2
 have hfl : (x.fns.map Fg.f).length ≤ 64 := by rw [List.length_map]; omega
 have ko : ∀ q ∈ x.obs, OgR q ∧ OgP q := fun q hq => obj1_ok hs hl (h1 q hq)
 have kf := fun q hq => fun1_ok hs hl hfl hp (q := q) (fun i hi => ⟨((hx.fi q hq).ci i hi).a, ((hx.fi q hq).ci i hi).b, ((hx.fi q hq).ci i hi).ao⟩) (h3 q hq)
 exact ⟨⟨ho, fun q hq => (ko q hq).1, by omega, fun q hq => (kf q hq).1, ⟨by omega, by omega⟩⟩, ⟨fun q hq => (kf q hq).2.1, ⟨by omega, by omega⟩⟩, fun q hq => (ko q hq).2, fun q hq => (kf q hq).2.2⟩
def txW (l : List (List ByteArray)) : List (List UInt8) := l.map (wT 0)
def txL (l : List ByteArray) : List (List UInt8) := l.map fun s => s.data.toList
theorem txW_append (a b : List (List ByteArray)) : txW (a ++ b) = txW a ++ txW b := List.map_append
theorem txL_append (a b : List ByteArray) : txL (a ++ b) = txL a ++ txL b := List.map_append
theorem tx_data (bs : List UInt8) : txW (dataW bs) = txL (dtL bs) := by
 unfold dataW dtL dataT
 by_cases h : fillN bs bs.length = 0
 ·rw [if_neg (by omega), if_pos h, if_pos rfl]; rfl
 ·rw [if_pos (by omega), if_neg h]
  have hn : ¬ sB ([100, 97, 116, 97, 32] ++ hexT (bs.take (fillN bs bs.length))) = ⟨#[]⟩ := by
   intro e
   have := congrArg ByteArray.size e
   rw [sB_size, List.length_append] at this
   have e2 : (⟨#[]⟩ : ByteArray).size = 0 := rfl
   rw [e2] at this
   simp only [List.length_cons] at this
   omega
  rw [if_neg hn]
  simp [txW, txL, wT, sepW, sB]
theorem tx_obj (q : Og) : txW (obLines q) = txL (obT q) := by
 unfold obLines obT
 rw [txW_append, txW_append, txL_append, txL_append, tx_data]
 congr 1
 ·congr 1
  simp [txW, txL, obHeadW, hdT, wT, sepW, sB, dtl]
 ·unfold txW txL
  rw [List.map_map, List.map_map]
  refine List.map_congr_left fun r _ => ?_
  simp [relW, rlT, wT, sepW, sB, dtl]
theorem tx_fun {q : Fg} (h : ∀ i ∈ q.code, wT 0 (wordsP i.x) = (lnT i.x).data.toList) : txW (fnLines q) = txL (fnT q) := by
 unfold fnLines fnT
 rw [txW_append, txW_append, txL_append, txL_append]
 congr 1
 ·congr 1
  ·unfold fnHeadW fhT f0T
   cases q.f.gv <;> simp [txW, txL, wT, sepW, sB, dtl]
  ·unfold txW txL
   rw [List.map_map, List.map_map]
   refine List.map_congr_left fun r _ => ?_
   simp [slotW, slT, wT, sepW, sB, dtl]
 ·unfold txW txL
  rw [List.map_map, List.map_map]
  exact List.map_congr_left fun i hi => h i hi
theorem tx_flat {α : Type} {f : α → List (List ByteArray)} {g : α → List ByteArray} : ∀ {l : List α}, (∀ a ∈ l, txW (f a) = txL (g a)) → txW (l.flatMap f) = txL (l.flatMap g)
 | [], _ => rfl
 | a :: l, h => by
  rw [List.flatMap_cons, List.flatMap_cons, txW_append, txL_append, h a List.mem_cons_self, tx_flat (fun b hb => h b (List.mem_cons_of_mem _ hb))]
theorem tx_lines : ∀ {l : List (List ByteArray)} {m : List ByteArray}, txW l = txL m → l.flatMap lineT = catL m
 | [], [], _ => rfl
 | [], _ :: _, h => by simp [txW, txL] at h
 | _ :: _, [], h => by simp [txW, txL] at h
 | a :: l, b :: m, h => by
  simp only [txW, txL, List.map_cons, List.cons.injEq] at h
  have e := tx_lines (l := l) (m := m) h.2
  show lineT a ++ l.flatMap lineT = (b.data.toList ++ [10]) ++ catL m
  rw [e]
  unfold lineT
  rw [h.1]
theorem print_text {x : Pg} (h : ∀ q ∈ x.fns, ∀ i ∈ q.code, wT 0 (wordsP i.x) = (lnT i.x).data.toList) : (pgLines x).flatMap lineT = catL (LN x) := by
 apply tx_lines
 unfold pgLines LN
 rw [txW_append, txW_append, txL_append, txL_append, tx_flat (fun q _ => tx_obj q), tx_flat (fun q hq => tx_fun (h q hq))]
 congr 1
 simp [txW, txL, mainW, mnT, wT, sepW, sB, dtl]
theorem print_same {w : World} {x : Pg} {a : Pw} (hx : PgOK w x a) : printE x = rprE x ∧ printT x = rprT x := by
 unfold printE rprE printT rprT
 cases hc : checkB x with
 | false => exact ⟨rfl, rfl⟩
 | true =>
  have hk := print_text (checkB_ok hx hc).2.2.2
  have hl := catL_len (LN x)
  simp only [if_true]
  by_cases hm : lenL (LN x) ≤ 1048576
  ·have e : printS x = catL (LN x) := by
    have := linS_fits (pgLines x) [] (by rw [List.nil_append, hk]; omega)
    rw [List.nil_append, hk] at this
    exact this
   rw [if_pos hm, if_pos hm, e, if_neg (by omega), if_neg (by omega)]
   exact ⟨rfl, rfl⟩
  ·have e : 1048576 < (printS x).length := linS_more (pgLines x) [] (by rw [List.nil_append, hk]; omega)
   rw [if_neg hm, if_neg hm, if_pos e, if_pos e]
   exact ⟨rfl, rfl⟩
end Go.Proofs.YtelaaaamnphbpaaGreatDoor
namespace Go.Proofs.YtelaaaamnphbpaaGreatDoor
set_option maxHeartbeats 16000000
open Go.RowKit Go.Maps
set_option linter.unusedVariables false
set_option linter.unusedSimpArgs false
set_option maxRecDepth 100000
section
variable {w : World}
theorem tacPrints_c {x : Pg} {a : Pw} (hx : PgOK w x a) (hP : PrW w) (hM : MaxIn w) (hg : 10 ≤ w.heap.size) :
 Calls Tryz.prog 6 #[pgV x a] w fun e w' => e = .returned (.bool true) ∧ Below w.heap.size w w' := by
 obtain ⟨W1, hW1, n1, b1⟩ := uno_ex w (.cells #[.slice a.op x.obs.length a.oc, .slice a.fp x.fns.length a.fc, .int .i64 x.mn] TPg)
 have N1 : Hid (_ = _) := n1
 have HB1 : Hid (Below w.heap.size w W1) := b1
 clear n1 b1
 have HX : Hid (∀ Y, Below w.heap.size w Y → PgOK Y x a) := fun Y hY => hx.below hY
 have HPR : Hid (∀ Y, Below w.heap.size w Y → PrW Y ∧ MaxIn Y ∧ 10 ≤ Y.heap.size) := fun Y hY => ⟨hP.below hY, hM.below hY, Nat.le_trans hg hY.size⟩
 have HOK : Hid (checkB x = true → PgR x ∧ PgP x ∧ ∀ q ∈ x.obs, OgP q) := fun h => ⟨(checkB_ok hx h).1, (checkB_ok hx h).2.1, (checkB_ok hx h).2.2.1⟩
 have HSM : Hid (printE x = rprE x ∧ printT x = rprT x) := print_same hx
 have C1 : Hid (∀ Y, Below w.heap.size w Y → Calls Tryz.prog 21 #[pgV x a] Y fun e w' => e = .returned (.tuple #[.string (printT x), .int .i64 (printE x)]) ∧ Below Y.heap.size Y w') := fun Y hY =>
  print_c (HPR.out Y hY).1 (HX.out Y hY) (fun h => (HOK.out h).2.1) (fun h q hq Z hZ => wobj_c ((HPR.out Z (hY.trans (hZ.mono hY.size))).1) ((HX.out Z (hY.trans (hZ.mono hY.size))).oi q hq) ((HOK.out h).2.2 q hq))
 have C2 : Hid (∀ Y, Below w.heap.size w Y → Calls Tryz.prog 22 #[pgV x a] Y fun e w' => e = .returned (.tuple #[.string (printT x), .int .i64 (printE x)]) ∧ Below Y.heap.size Y w') := fun Y hY => by
  rw [HSM.out.1, HSM.out.2]
  exact rPrint_c (HX.out Y hY) (HPR.out Y hY).1.names (fun h => (HOK.out h).1)
 have C3 : Hid (∀ Y, Below w.heap.size w Y → Calls Tryz.prog 10 #[] Y fun e w' => e = .returned (.bool true) ∧ Below Y.heap.size Y w') := fun Y hY => heads_c (HPR.out Y hY).1 (HPR.out Y hY).2.1 (HPR.out Y hY).2.2
 have c0 := (Lib.cell_of_heap N1.out 0).trans rfl
 have c1 := (Lib.cell_of_heap N1.out 1).trans rfl
 have c2 := (Lib.cell_of_heap N1.out 2).trans rfl
 generalize printT x = S at *
 generalize printE x = E at *
 have s0 : (S.toList == S.toList) = true := by simp
 have s1 : (E == E) = true := by simp
 unfold pgV at C1 C2 ⊢
 clear hx hP hM hg HSM HOK HPR HX
 go_enter Tryz.func6, Tryz.ntmps6
 go_upto_region 1 with (fail)
 refine wp_at hW1 ?_
 clear hW1
 go_wp2_with (first
  | (go_at_call 21; refine (C1.out _ HB1.out).mono ?_; rintro e w2 ⟨rfl, hb2⟩; have HB2 : Hid (Below w.heap.size w w2) := HB1.out.trans (hb2.mono HB1.out.size); have N2 := blk_b N1.out hb2; clear c0 c1 c2; have c0 := (Lib.cell_of_heap N2 0).trans rfl; have c1 := (Lib.cell_of_heap N2 1).trans rfl; have c2 := (Lib.cell_of_heap N2 2).trans rfl; clear hb2 N2)
  | (go_at_call 22; refine (C2.out _ HB2.out).mono ?_; rintro e w3 ⟨rfl, hb3⟩; have HB3 : Hid (Below w.heap.size w w3) := HB2.out.trans (hb3.mono HB2.out.size); clear hb3 c0 c1 c2)
  | (go_at_call 10; refine (C3.out _ HB3.out).mono ?_; rintro e w4 ⟨rfl, hb4⟩; have HB4 : Hid (Below w.heap.size w w4) := HB3.out.trans (hb4.mono HB3.out.size); clear hb4)
  | fail)
 go_ret
 exact ⟨rfl, HB4.out⟩
end
end Go.Proofs.YtelaaaamnphbpaaGreatDoor