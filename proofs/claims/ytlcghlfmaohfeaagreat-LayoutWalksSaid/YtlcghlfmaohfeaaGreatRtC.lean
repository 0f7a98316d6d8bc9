/-
  The given answer's 'union': a union's members.
-/
import Derived.Test.YtlcghlfmaohfeaaGreatRtB0
namespace Go.Proofs.YtlcghlfmaohfeaaGreat
open Go.RowKit Go.Maps
set_option linter.unusedVariables false
set_option maxRecDepth 100000
/-- While a union's members are gone through. -/
structure US (w W : World) (sz al : Int) (Ls : Value) (PK : List Pl) (f : Bool) : Prop where
  below : Below w.heap.size w W
  res : W.heap[w.heap.size]? = some (.cells #[.int .i64 0, .int .i64 0, .slice none 0 0, .bool false] TLy (0, 0))
  y : W.heap[w.heap.size + 1]? = some (.cells #[.int .i64 sz, .int .i64 al, Ls, .bool f] TLy (0, 0))
  own : W.ownsRow (w.heap.size + 2) TPl 5 Ls PK.length (plCells PK)
namespace US
variable {w W W' : World} {sz al : Int} {Ls : Value} {PK : List Pl} {f : Bool}
theorem bel (h : US w W sz al Ls PK f) (hb : Below W.heap.size W W') : US w W' sz al Ls PK f :=
  ⟨h.below.trans (hb.mono h.below.size), blk_b h.res hb, blk_b h.y hb, ownsRow_turned h.own (Turned.of_below hb (fun _ => False)) (fun _ _ h => h.elim)⟩
theorem drew (h : US w W sz al Ls PK f) : US w W.drew sz al Ls PK f := h.bel (Below.refl _ W).drew
theorem setc (h : US w W sz al Ls PK f) (j : Nat) (v : Value) {sz' al' : Int} {f' : Bool} (hy : (#[.int .i64 sz, .int .i64 al, Ls, .bool f] : Array Value).set! j v = #[.int .i64 sz', .int .i64 al', Ls, .bool f']) : US w (W.setCell ⟨w.heap.size + 1, j, none⟩ v) sz' al' Ls PK f' :=
  ⟨h.below.setCell (p := ⟨w.heap.size + 1, j, none⟩) (by show w.heap.size ≤ w.heap.size + 1; omega) _, (heap_setCell_other W ⟨w.heap.size + 1, j, none⟩ w.heap.size v (by show w.heap.size ≠ w.heap.size + 1; omega)).trans h.res,
    (heap_setCell (j := j) h.y v).trans (by rw [← hy]; rfl), ownsRow_turned h.own (Turned.setCell (S := fun k => k = w.heap.size + 1) _ _ _ _ rfl) (fun k hk e => by have := (ownsRow_at h.own hk).1; omega)⟩
theorem cells (h : US w W sz al Ls PK f) : (W.cell? ⟨w.heap.size + 1, 0, none⟩ = some (.int .i64 sz) ∧ W.cell? ⟨w.heap.size + 1, 1, none⟩ = some (.int .i64 al) ∧ W.cell? ⟨w.heap.size + 1, 2, none⟩ = some Ls ∧ W.cell? ⟨w.heap.size + 1, 3, none⟩ = some (.bool f)) ∧ ∀ j, W.frozen? ⟨w.heap.size + 1, j, none⟩ = false :=
  ⟨⟨(Lib.cell_of_heap h.y 0).trans rfl, (Lib.cell_of_heap h.y 1).trans rfl, (Lib.cell_of_heap h.y 2).trans rfl, (Lib.cell_of_heap h.y 3).trans rfl⟩, fun j => frozen_of h.y j⟩
theorem lt (h : US w W sz al Ls PK f) : w.heap.size + 1 < W.heap.size := lt_of_heap h.y
end US
theorem mx_set {W : World} {g mx j : Nat} {v : Value} {o : Obj} (h : W.heap[mx]? = some o) (hne : mx ≠ g) : (W.setCell ⟨g, j, none⟩ v).heap[mx]? = some o := (heap_setCell_other W ⟨g, j, none⟩ mx v (by show mx ≠ g; exact hne)).trans h
theorem ly_cells {W : World} {g : Nat} {a b c d : Value} (h : W.heap[g]? = some (.cells #[a, b, c, d] TLy (0, 0))) : W.cell? ⟨g, 0, none⟩ = some a ∧ W.cell? ⟨g, 1, none⟩ = some b ∧ W.cell? ⟨g, 2, none⟩ = some c ∧ W.cell? ⟨g, 3, none⟩ = some d :=
  ⟨(Lib.cell_of_heap h 0).trans rfl, (Lib.cell_of_heap h 1).trans rfl, (Lib.cell_of_heap h 2).trans rfl, (Lib.cell_of_heap h 3).trans rfl⟩
/-- What is known of a union's members so far. -/
def UI (M : Int → Ex) (l : List Mb) (sz al : Int) (f : Bool) : Prop := 1 ≤ al ∧ (f = true ↔ ∀ m ∈ l, (M m.type).size ≤ 16384) ∧ (f = true → sz = max (rup (layS true M ls0 l).fin 8 / 8) 1 ∧ al = (layS true M ls0 l).align)
theorem UI.zero (M : Int → Ex) : UI M [] 1 1 true := ⟨by decide, by simp, fun _ => ⟨by show (1 : Int) = max (rup 0 8 / 8) 1; decide, rfl⟩⟩
theorem begin0 {m : Mb} {e : Ex} (hE : ExOK e) (hB : BitsOK m e) : beginP 0 m e = 0 := by
  have h1 := hE.lo
  have h2 := hE.al
  unfold beginP rup
  rcases hB with h | ⟨h, h'⟩
  · rw [if_pos h, Int.ediv_eq_zero_of_lt (by omega) (by omega), Int.zero_mul]
  · rw [if_neg (by omega)]
    split
    · rw [Int.ediv_eq_zero_of_lt (by omega) (by omega), Int.zero_mul]
    · rfl
section
variable {M : Int → Ex} {l : List Mb} {sz al : Int} {f : Bool} {nm : ByteArray} {ty bt ysz yal : Int} {yf : Bool}
theorem UI.step (h : UI M l sz al f) {sz' al' : Int} (hyf : yf = decide ((M ty).size ≤ 16384)) (ha : 1 ≤ al') (hv : yf = true → f = true → sz' = max (rup (layS true M ls0 (l ++ [⟨nm, ty, bt⟩])).fin 8 / 8) 1 ∧ al' = (layS true M ls0 (l ++ [⟨nm, ty, bt⟩])).align) : UI M (l ++ [⟨nm, ty, bt⟩]) sz' al' (f && yf) := by
  obtain ⟨h1, h2, h3⟩ := h
  refine ⟨ha, ?_, fun hh => ?_⟩
  · rw [Bool.and_eq_true, h2, hyf, decide_eq_true_iff]
    constructor
    · rintro ⟨a, b⟩ m hm
      rcases List.mem_append.1 hm with c | c
      · exact a m c
      · obtain rfl := List.mem_singleton.1 c
        exact b
    · intro a
      exact ⟨fun m hm => a m (List.mem_append.2 (Or.inl hm)), a ⟨nm, ty, bt⟩ (List.mem_append.2 (Or.inr (List.mem_singleton.2 rfl)))⟩
  · rw [Bool.and_eq_true] at hh
    exact hv hh.2 hh.1
theorem lay1 (hE : ExOK (M ty)) (hB : BitsOK ⟨nm, ty, bt⟩ (M ty)) : (layS true M ls0 (l ++ [⟨nm, ty, bt⟩])).fin = max (layS true M ls0 l).fin (takenP ⟨nm, ty, bt⟩ (M ty)) ∧ (layS true M ls0 (l ++ [⟨nm, ty, bt⟩])).align = (if nm.toList == [] then (layS true M ls0 l).align else max (layS true M ls0 l).align (M ty).align) := by
  rw [layS_snoc]
  unfold stepP
  simp only [if_true]
  rw [begin0 hE hB, Int.zero_add]
  constructor <;> first | rfl | trivial
theorem place1 (hE : ExOK (M ty)) (hB : BitsOK ⟨nm, ty, bt⟩ (M ty)) (hb : bt ≠ 0) : placesS true M ls0 0 (l ++ [⟨nm, ty, bt⟩]) = placesS true M ls0 0 l ++ [⟨(l.length : Int), ty, 0, 0, max 0 bt⟩] := by
  rw [placesS_snoc, if_neg hb]
  simp only [if_true]
  rw [begin0 hE hB, Nat.zero_add]
  unfold spotP
  rcases hB with h | ⟨h, h'⟩
  · simp only at h
    subst h
    rfl
  · simp only at h h'
    rw [if_neg (by show ¬ bt = -1; omega)]
    simp only [Int.zero_ediv, Int.mul_zero, Int.zero_emod]
    rw [show max 0 bt = bt by omega]
theorem place0 (hb : bt = 0) : placesS true M ls0 0 (l ++ [⟨nm, ty, bt⟩]) = placesS true M ls0 0 l := by
  rw [placesS_snoc, if_pos hb, List.append_nil]
end
section
variable {w : World} {M : Int → Ex} {base : Nat}
theorem rup_val (n o : Int) (o0 : 1 ≤ o) : ∃ r, ∀ w : World, Calls Tryz.prog 117 #[.int .i64 n, .int .i64 o] w fun e w' => e = .returned (.int .i64 r) ∧ w' = w := by
  have ho : o ≠ 0 := by omega
  have ho2 : (o == 0) = false := by simpa using ho
  refine ⟨wrap64 (wrap64 ((wrap64 (wrap64 (n + o) - 1)).tdiv o) * o), fun w => ?_⟩
  go_enter Tryz.func117, Tryz.ntmps117
  go_wp2
  go_ret
  exact ⟨rfl, rfl⟩
theorem rup_any (n o : Int) (o0 : 1 ≤ o) (w : World) : Calls Tryz.prog 117 #[.int .i64 n, .int .i64 o] w fun e w' => ∃ r, e = .returned (.int .i64 r) ∧ w' = w := by
  have ho : o ≠ 0 := by omega
  have ho2 : (o == 0) = false := by simpa using ho
  go_enter Tryz.func117, Tryz.ntmps117
  go_wp2
  go_ret
  exact ⟨_, rfl, rfl⟩
end
section
variable {w : World} {M : Int → Ex} {base : Nat}
set_option maxHeartbeats 16000000 in
theorem refUni_c {x : Value} {mem : List Mb} (hx : MemSl w x mem) (hn : mem.length ≤ 64) {g : Nat} {ys : List Ly} (hy : LyR base w g ys) (hl : ys.length ≤ 512) (hm : ∀ m ∈ mem, MemK M ys m) :
    Calls Tryz.prog 106 #[x, .slice (some ⟨g, 0, none⟩) ys.length ys.length] w fun e w' => ∃ y : Ly, e = .returned (.agg (lyC y).toArray) ∧ Below w.heap.size w w' ∧ w'.ownsRow w.heap.size TPl 5 y.L y.pl.length (plCells y.pl) ∧
      ((∀ m ∈ mem, (M m.type).size ≤ 16384) → y.fine = true ∧ y.size = (endP (layS true M ls0 mem)).size ∧ y.align = (layS true M ls0 mem).align ∧ y.pl = placesS true M ls0 0 mem) ∧ (¬ (∀ m ∈ mem, (M m.type).size ≤ 16384) → y.fine = false) := by
  obtain ⟨sp, cap, rfl, hcell⟩ := memSl_cells hx
  have HCL : Hid (∀ j m, mem[j]? = some m → ∃ g o, sp = some ⟨g, o, none⟩ ∧ mem.length ≤ cap ∧ ∀ Y, Below w.heap.size w Y → ∀ k, k < 3 → Y.cell? ⟨g, o + j * 3 + k, none⟩ = (mbCells m)[k]?) := hcell
  have HY : Hid (LyR base w g ys) := hy
  have HM : Hid (∀ m ∈ mem, MemK M ys m) := hm
  have hgl := hy.lt
  have hbd : ∀ Y : World, (Instr.build TLy #[(1, .int .i64 1), (3, .bool true), (0, .int .i64 1)]).run Tryz.prog Y = .ok (.agg #[.int .i64 1, .int .i64 1, .slice none 0 0, .bool true]) Y := fun Y => by kernel_rfl
  have nt := not_t
  have nf := not_f
  have b1 := below1 w (.cells #[.int .i64 0, .int .i64 0, .slice none 0 0, .bool false] TLy)
  have E1 := heap_r0 w (.cells #[.int .i64 0, .int .i64 0, .slice none 0 0, .bool false] TLy)
  have hz1 : (w.alloc (.cells #[.int .i64 0, .int .i64 0, .slice none 0 0, .bool false] TLy)).heap.size = w.heap.size + 1 := by simp
  have hold := heap_r0 (w.alloc (.cells #[.int .i64 0, .int .i64 0, .slice none 0 0, .bool false] TLy)) (.cells #[.int .i64 0, .int .i64 0, .slice none 0 0, .bool false] TLy)
  have b2 := below1 (w.alloc (.cells #[.int .i64 0, .int .i64 0, .slice none 0 0, .bool false] TLy)) (.cells #[.int .i64 1, .int .i64 1, .slice none 0 0, .bool true] TLy)
  have E2 := blk_b E1 b2
  have Y2 := heap_r0 (w.alloc (.cells #[.int .i64 0, .int .i64 0, .slice none 0 0, .bool false] TLy)) (.cells #[.int .i64 1, .int .i64 1, .slice none 0 0, .bool true] TLy)
  rw [hz1] at Y2
  have HU0 : Hid (US w ((w.alloc (.cells #[.int .i64 0, .int .i64 0, .slice none 0 0, .bool false] TLy)).alloc (.cells #[.int .i64 1, .int .i64 1, .slice none 0 0, .bool true] TLy)) 1 1 (.slice none 0 0) [] true) := ⟨b1.trans (b2.mono b1.size), E2, Y2, World.ownsRow_nil _ _ _ _⟩
  clear hx hcell hy hm b1 b2 E1 E2 Y2 hz1
  go_enter Tryz.func106, Tryz.ntmps106
  go_wp2_with (first | ((with_reducible apply step_store hold); rfl; rfl; kernel_rfl; rfl; kernel_rfl; rw [World.setRow_alloc_new]) | fail)
  generalize (w.alloc (.cells #[.int .i64 0, .int .i64 0, .slice none 0 0, .bool false] TLy)).alloc (.cells #[.int .i64 1, .int .i64 1, .slice none 0 0, .bool true] TLy) = W2 at *
  go_loopw [6] (fun iv wr => ∃ (k : Nat) (sz al : Int) (Ls : Value) (f : Bool), k ≤ mem.length ∧ iv = .int .i64 k ∧ Hid (US w wr sz al Ls (placesS true M ls0 0 (mem.take k)) f) ∧ Hid (UI M (mem.take k) sz al f)) (fun iv _ => mem.length - (intOf iv).toNat)
  case atStart => exact ⟨0, 1, 1, .slice none 0 0, true, Nat.zero_le _, rfl, HU0, UI.zero M⟩
  case round =>
    obtain ⟨k, sz, al, Ls, f, hk, rfl, HU, HI⟩ := hrel
    have hlk : (mem.take k).length = k := by simp; omega
    have hpkl : (placesS true M ls0 0 (mem.take k)).length ≤ 64 := Nat.le_trans (placesS_len _ _ _) (by rw [hlk]; omega)
    obtain ⟨lp, lc, rfl⟩ := slice_of_own HU.out.own
    clear HU0
    by_cases hlt : k < mem.length
    · obtain ⟨m, hm⟩ : ∃ m, mem[k]? = some m := ⟨_, List.getElem?_eq_getElem hlt⟩
      obtain ⟨hEx, hBi, hn1, hn0, t, y, hty, hyt, hyf, hyv⟩ := HM.out m (List.mem_of_getElem? hm)
      obtain ⟨gm, om, hsp, hcap, hcell⟩ := HCL.out k m hm
      subst hsp
      have HAA : Hid (∀ Y, Below w.heap.size w Y → Y.cell? ⟨gm, om + k * 3, none⟩ = some (.string m.name) ∧ Y.cell? ⟨gm, om + k * 3 + 1, none⟩ = some (.int .i64 m.type) ∧ Y.cell? ⟨gm, om + k * 3 + 2, none⟩ = some (.int .i64 m.bits)) := fun Y hY => ⟨by have q := hcell Y hY 0 (by omega); simpa [mbCells] using q, by have q := hcell Y hY 1 (by omega); simpa [mbCells] using q, by have q := hcell Y hY 2 (by omega); simpa [mbCells] using q⟩
      have htk : mem.take (k + 1) = mem.take k ++ [m] := by rw [List.take_add_one, hm]; rfl
      have hc := fun j hj => (HY.out.below HU.out.below).cell hyt (k := j) hj
      have c0 := hc 0 (by omega)
      have c1 := hc 1 (by omega)
      have c2 := hc 2 (by omega)
      have c3 := hc 3 (by omega)
      have hyl : t < ys.length := (List.getElem?_eq_some_iff.1 hyt).1
      obtain ⟨nm, ty, bt⟩ := m
      obtain ⟨ysz, yal, yL, ypl, yf⟩ := y
      simp only [lyC, Nat.add_zero, List.getElem?_cons_zero, List.getElem?_cons_succ] at c0 c1 c2 c3 hty hyf hyv hEx hBi hn1 hn0 HAA
      subst hty
      have HYO := (HY.out.own _ (List.mem_of_getElem? hyt))
      obtain ⟨yp, yc, hyL⟩ := slice_of_own HYO
      simp only at hyL
      subst hyL
      obtain ⟨a0, a1, a2⟩ := HAA.out wr HU.out.below
      have HTK : Hid (mem.take (k + 1) = mem.take k ++ [⟨nm, (t : Int), bt⟩]) := htk
      have HLK : Hid ((mem.take k).length = k) := hlk
      have HYF : Hid (yf = decide ((M (t : Int)).size ≤ 16384)) := hyf
      have HYV : Hid (yf = true → ysz = (M (t : Int)).size ∧ yal = (M (t : Int)).align) := hyv
      have HEX : Hid (ExOK (M (t : Int))) := hEx
      have HBI : Hid (BitsOK ⟨nm, (t : Int), bt⟩ (M (t : Int))) := hBi
      have HN1 : Hid (bt = -1 → (nm.toList == []) = false) := hn1
      have HN0 : Hid (bt = 0 → (nm.toList == []) = true) := hn0
      clear hc hcell hm htk HYO hyt hyf hyv hlk hEx hn1 hn0
      generalize hPK : (placesS true M ls0 0 (mem.take k)) = PK at *
      have HPK : Hid (placesS true M ls0 0 (mem.take k) = PK) := hPK
      clear hPK
      have hold3 := heap_r0 wr (.cells #[.int .i64 0, .int .i64 0, .slice none 0 0, .bool false] TLy)
      have N3 : Hid (_ = _) := heap_r0 wr (.cells #[.int .i64 ysz, .int .i64 yal, .slice yp ypl.length yc, .bool yf] TLy)
      have U3 : Hid (US w (wr.alloc (.cells #[.int .i64 ysz, .int .i64 yal, .slice yp ypl.length yc, .bool yf] TLy)) sz al (.slice lp PK.length lc) PK f) := HU.out.bel (below1 wr (.cells #[.int .i64 ysz, .int .i64 yal, .slice yp ypl.length yc, .bool yf] TLy))
      have hmx : w.heap.size + 1 < wr.heap.size := HU.out.lt
      clear HU
      go_upto_region 6 with (first | ((with_reducible apply step_store hold3); rfl; rfl; kernel_rfl; rfl; kernel_rfl; rw [World.setRow_alloc_new]) | fail)
      clear hold3 a0 a1 a2 c0 c1 c2 c3
      generalize wr.alloc (.cells #[.int .i64 ysz, .int .i64 yal, .slice yp ypl.length yc, .bool yf] TLy) = W3 at *
      generalize wr.heap.size = mx at *
      go_cut [7] (fun s7 wx => s7 = .pointer (some ⟨mx, 0, none⟩) ∧ Hid (US w wx sz al (.slice lp PK.length lc) PK (f && yf)) ∧ Hid (wx.heap[mx]? = some (.cells #[.int .i64 ysz, .int .i64 yal, .slice yp ypl.length yc, .bool yf] TLy (0, 0))))
      case first =>
        obtain ⟨⟨q0, q1, q2, q3⟩, qf⟩ := U3.out.cells
        have qf3 := qf 3
        obtain ⟨n0, n1, n2, n3⟩ := ly_cells N3.out
        clear qf q0 q1 q2 n0 n1 n2
        cases f with
        | false =>
          go_wp2_with fail
          go_meet
          exact ⟨rfl, U3.out.setc 3 (.bool false) rfl, mx_set N3.out (by omega)⟩
        | true =>
          go_wp2_with fail
          go_meet
          exact ⟨rfl, U3.out.setc 3 (.bool yf) rfl, mx_set N3.out (by omega)⟩
      case rest =>
      obtain ⟨rfl, U4, N4⟩ := hcut
      rename World => W4
      obtain ⟨a0, a1, a2⟩ := HAA.out W4 U4.out.below
      by_cases hz : bt = 0
      · have z1 : (bt == 0) = true := by simpa using hz
        have HZ : Hid (bt = 0) := hz
        clear hz hBi
        go_wp2
        refine ⟨⟨k + 1, sz, al, .slice lp PK.length lc, f && yf, by omega, by go_num, ?_, ?_⟩, by simp [intOf]; omega⟩
        · show US w _ _ _ _ _ _
          rw [HTK.out, place0 HZ.out, HPK.out]; exact U4.out
        · show UI _ _ _ _ _
          rw [HTK.out]
          refine HI.out.step HYF.out HI.out.1 (fun h1 h2 => ?_)
          obtain ⟨e1, e2⟩ := lay1 (l := mem.take k) HEX.out HBI.out
          obtain ⟨i1, i2⟩ := HI.out.2.2 h2
          rw [e1, e2, HN0.out HZ.out, if_pos rfl]
          have hf0 : 0 ≤ (layS true M ls0 (mem.take k)).fin := (layS_ok (un := true) (M := M) (mem.take k) 0 ls0 ⟨by decide, by decide, by decide, by decide, by decide⟩ (fun m hm => ⟨(HM.out m (List.mem_of_mem_take hm)).1, (HM.out m (List.mem_of_mem_take hm)).2.1⟩)).f0
          refine ⟨?_, i2⟩
          rw [i1]
          unfold takenP
          rw [if_neg (by show ¬ bt = -1; have := HZ.out; omega)]
          show _ = max (rup (max _ bt) 8 / 8) 1
          rw [HZ.out, show max (layS true M ls0 (mem.take k)).fin 0 = (layS true M ls0 (mem.take k)).fin by omega]
      · have z1 : (bt == 0) = false := by simpa using hz
        have HZ : Hid (bt ≠ 0) := hz
        clear hz hBi
        go_upto_region 9 with fail
        go_cut [8] (fun s8 wx => s8 = .int .i64 bt ∧ ∃ (p' : Option Addr) (cap' : Nat), Hid (US w wx sz al (.slice p' (PK.length + 1) cap') (PK ++ [⟨(k : Int), (t : Int), 0, 0, max 0 bt⟩]) (f && yf)) ∧ Hid (wx.heap[mx]? = some (.cells #[.int .i64 ysz, .int .i64 yal, .slice yp ypl.length yc, .bool yf] TLy (0, 0))))
        case first =>
          obtain ⟨i0, hi, hz0, hz1, hz2⟩ := info_parts infoTPl
          have hbp : ∀ (x y z : Int) (Y : World), (Instr.build TPl #[(0, .int .i64 x), (1, .int .i64 y), (4, .int .i64 z)]).run Tryz.prog Y = .ok (.agg #[.int .i64 x, .int .i64 y, .int .i64 0, .int .i64 0, .int .i64 z]) Y := fun x y z Y => by kernel_rfl
          have b5 : Below W4.heap.size W4 (W4.alloc (.cells #[.int .i64 (k : Int), .int .i64 (t : Int), .int .i64 0, .int .i64 0, .int .i64 (max 0 bt)] TPl)).drew := (below1 W4 _).drew
          have U5 : Hid (US w (W4.alloc (.cells #[.int .i64 (k : Int), .int .i64 (t : Int), .int .i64 0, .int .i64 0, .int .i64 (max 0 bt)] TPl)).drew sz al (.slice lp PK.length lc) PK (f && yf)) := U4.out.bel b5
          have N5 : Hid ((W4.alloc (.cells #[.int .i64 (k : Int), .int .i64 (t : Int), .int .i64 0, .int .i64 0, .int .i64 (max 0 bt)] TPl)).drew.heap[mx]? = some (.cells #[.int .i64 ysz, .int .i64 yal, .slice yp ypl.length yc, .bool yf] TLy (0, 0))) := blk_b N4.out b5
          have hz5 : w.heap.size + 2 ≤ (W4.alloc (.cells #[.int .i64 (k : Int), .int .i64 (t : Int), .int .i64 0, .int .i64 0, .int .i64 (max 0 bt)] TPl)).drew.heap.size := by have := lt_of_heap N4.out; have := b5.size; omega
          clear b5
          have hc5 : (W4.alloc (.cells #[.int .i64 (k : Int), .int .i64 (t : Int), .int .i64 0, .int .i64 0, .int .i64 (max 0 bt)] TPl)).cell? ⟨w.heap.size + 1, 2, none⟩ = some (.slice lp PK.length lc) := (Lib.cell_of_heap U5.out.y 2).trans rfl
          have y2 : W4.cell? ⟨w.heap.size + 1, 2, none⟩ = some (.slice lp PK.length lc) := U4.out.cells.1.2.2.1
          go_region_law ((with_reducible refine (?_ : @ite Prop (Region.wanted (Oper.mk (some 50) _ _ _ _ _) _ = true) _ _ _)); refine step_append_own_at rfl (.tmp 39) (.tmp 49) 33 rfl (w.heap.size + 2) TPl i0 _ 5 40 Tryz.underlying33 hi hz0 hz1 hz2 rfl (by decide) (.slice lp PK.length lc) PK.length _ rfl U5.out.own ⟨W4.heap.size, 0, none⟩ 1 1 (#[.int .i64 (k : Int), .int .i64 (t : Int), .int .i64 0, .int .i64 0, .int .i64 (max 0 bt)]).toList rfl rfl (fun j u h => cells_new W4 _ _ j u h) (by simp [Value.oneCell']) (by unfold maxLen; omega) (by omega) hz5 ?_; intro v' w6 hown hgrow hnil hat; obtain ⟨p', cap', rfl⟩ := slice_of_own hown; have LB : Hid (w6.heap[w.heap.size + 1]? = some (.cells #[.int .i64 sz, .int .i64 al, .slice lp PK.length lc, .bool (f && yf)] TLy (0, 0))) := (hgrow.block (w.heap.size + 1) (lt_of_heap U5.out.y) (fun e => by have := (ownsRow_at U5.out.own e.symm).1; omega)).trans U5.out.y; have hc6 : w6.cell? ⟨w.heap.size + 1, 2, none⟩ = some (.slice lp PK.length lc) := (Lib.cell_of_heap LB.out 2).trans rfl; have hf6 : w6.frozen? ⟨w.heap.size + 1, 2, none⟩ = false := frozen_of LB.out 2; have HO6 : Hid (w6.ownsRow (w.heap.size + 2) TPl 5 (.slice p' (PK.length + 1) cap') (PK.length + 1) (plCells PK ++ (#[.int .i64 (k : Int), .int .i64 (t : Int), .int .i64 0, .int .i64 0, .int .i64 (max 0 bt)]).toList)) := hown; have HG6 : Hid (World.grownBy (W4.alloc (.cells #[.int .i64 (k : Int), .int .i64 (t : Int), .int .i64 0, .int .i64 0, .int .i64 (max 0 bt)] TPl)).drew w6 (Value.slice lp PK.length lc).ownBlock) := hgrow; clear hown hgrow hnil hat)
          all_goals
            go_wp2_with fail
            go_meet
            refine ⟨rfl, p', cap', ⟨?_, ?_, ?_, ?_⟩, ?_⟩
            · exact Below.setCell (below_grow U5.out.below U5.out.below.size HG6.out (fun k e => by have := (ownsRow_at U5.out.own e).1; omega)) (p := ⟨w.heap.size + 1, 2, none⟩) (by show w.heap.size ≤ w.heap.size + 1; omega) _
            · exact (heap_setCell_other _ ⟨w.heap.size + 1, 2, none⟩ w.heap.size _ (by show w.heap.size ≠ w.heap.size + 1; omega)).trans ((HG6.out.block w.heap.size (lt_of_heap U5.out.res) (fun e => by have := (ownsRow_at U5.out.own e.symm).1; omega)).trans U5.out.res)
            · exact (heap_setCell (j := 2) LB.out _).trans rfl
            · rw [List.length_append, show plCells (PK ++ [⟨(k : Int), (t : Int), 0, 0, max 0 bt⟩]) = plCells PK ++ (#[.int .i64 (k : Int), .int .i64 (t : Int), .int .i64 0, .int .i64 0, .int .i64 (max 0 bt)]).toList by simp [plCells]]
              exact ownsRow_turned HO6.out (Turned.setCell (S := fun k => k = w.heap.size + 1) _ _ _ _ rfl) (fun k hk e => by have := (ownsRow_at HO6.out hk).1; omega)
            · exact mx_set ((HG6.out.block mx (lt_of_heap N5.out) (fun e => by obtain ⟨_, cur, hc⟩ := ownsRow_at U5.out.own e.symm; exact tag_ne hc N5.out (by decide) rfl)).trans N5.out) (by omega)
        case rest =>
        obtain ⟨rfl, p', cap', U6, N6⟩ := hcut
        rename World => W6
        have HPN : Hid (placesS true M ls0 0 (mem.take (k + 1)) = (PK ++ [⟨(k : Int), (t : Int), 0, 0, max 0 bt⟩])) := by
          show _ = _
          rw [HTK.out, place1 HEX.out HBI.out HZ.out, HPK.out, HLK.out]
        have hf0 : 0 ≤ (layS true M ls0 (mem.take k)).fin := (layS_ok (un := true) (M := M) (mem.take k) 0 ls0 ⟨by decide, by decide, by decide, by decide, by decide⟩ (fun m hm => ⟨(HM.out m (List.mem_of_mem_take hm)).1, (HM.out m (List.mem_of_mem_take hm)).2.1⟩)).f0
        have HF0 : Hid (0 ≤ (layS true M ls0 (mem.take k)).fin) := hf0
        clear hf0 U4 N4 a0 a1 a2
        generalize (PK ++ [⟨(k : Int), (t : Int), 0, 0, max 0 bt⟩]) = PQ at *
        by_cases hneg : bt = -1
        · have d1 : decide (bt < 0) = true := by rw [decide_eq_true_iff]; omega
          have HNG : Hid (bt = -1) := hneg
          clear hneg
          obtain ⟨⟨q0, q1, q2, q3⟩, qf⟩ := U6.out.cells
          have qf0 := qf 0
          obtain ⟨n0, n1, n2, n3⟩ := ly_cells N6.out
          have U7 : Hid (US w (W6.setCell ⟨w.heap.size + 1, 0, none⟩ (.int .i64 (max sz ysz))) (max sz ysz) al (.slice p' (PK.length + 1) cap') PQ (f && yf)) := U6.out.setc 0 _ rfl
          have N7 : Hid ((W6.setCell ⟨w.heap.size + 1, 0, none⟩ (.int .i64 (max sz ysz))).heap[mx]? = some (.cells #[.int .i64 ysz, .int .i64 yal, .slice yp ypl.length yc, .bool yf] TLy (0, 0))) := mx_set N6.out (by omega)
          clear qf q1 q2 q3 n1 n2 n3
          go_upto_region 13 with fail
          refine (?_ : Code.wp _ _ _ _ (W6.setCell ⟨w.heap.size + 1, 0, none⟩ (.int .i64 (max sz ysz))))
          generalize W6.setCell ⟨w.heap.size + 1, 0, none⟩ (.int .i64 (max sz ysz)) = W7 at *
          clear q0 qf0 n0
          obtain ⟨⟨q0, q1, q2, q3⟩, qf⟩ := U7.out.cells
          have qf1 := qf 1
          obtain ⟨n0, n1, n2, n3⟩ := ly_cells N7.out
          clear qf q0 q2 q3 n0 n2 n3
          go_wp2
          refine ⟨⟨k + 1, max sz ysz, max al yal, .slice p' (PK.length + 1) cap', f && yf, by omega, by go_num, ?_, ?_⟩, by simp [intOf]; omega⟩
          · show US w _ _ _ _ _ _
            rw [HPN.out]
            exact U7.out.setc 1 _ rfl
          · show UI _ _ _ _ _
            rw [HTK.out]
            refine HI.out.step HYF.out (by have := HI.out.1; omega) (fun h1 h2 => ?_)
            obtain ⟨e1, e2⟩ := lay1 (l := mem.take k) HEX.out HBI.out
            obtain ⟨i1, i2⟩ := HI.out.2.2 h2
            obtain ⟨v1, v2⟩ := HYV.out h1
            have hf0 := HF0.out
            have hlo := HEX.out.lo
            rw [e1, e2, HN1.out HNG.out]
            refine ⟨?_, by rw [i2, v2]; rfl⟩
            rw [i1, v1]
            unfold takenP rup
            rw [if_pos HNG.out]
            omega
        · have d1 : decide (bt < 0) = false := by
            have h := HBI.out
            unfold BitsOK at h
            rw [decide_eq_false_iff_not]
            simp only at h
            omega
          have hb0 : 1 ≤ bt ∧ bt ≤ 8 * (M (t : Int)).size := by
            have h := HBI.out
            have h2 := HZ.out
            unfold BitsOK at h
            simp only at h
            omega
          have HBT : Hid (1 ≤ bt ∧ bt ≤ 8 * (M (t : Int)).size) := hb0
          have hhi := HEX.out.hi
          have cU := fun Y => rup_c bt 8 (by omega) (by omega) (by omega) (by omega) Y
          have hrb := rup_bd bt 8 (by omega) (by omega)
          generalize hrr : rup bt 8 = rr at cU hrb
          have HRR : Hid (rup bt 8 = rr) := hrr
          have htd : rr.tdiv 8 = rr / 8 := Int.tdiv_eq_ediv_of_nonneg (by omega)
          have hwq : IntKind.i64.wrap (rr / 8) = rr / 8 := wrap_id (by omega) (by omega)
          have HNG : Hid (¬ bt = -1) := hneg
          clear hneg hb0 hrr hhi
          go_upto_region 12 with fail
          go_cut [8] (fun s8 wx => s8 = .int .i64 bt ∧ Hid (US w wx (max sz (rr / 8)) al (.slice p' (PK.length + 1) cap') PQ (f && yf)) ∧ Hid (wx.heap[mx]? = some (.cells #[.int .i64 ysz, .int .i64 yal, .slice yp ypl.length yc, .bool yf] TLy (0, 0))))
          case first =>
            have U6d : Hid (US w W6.drew sz al (.slice p' (PK.length + 1) cap') PQ (f && yf)) := U6.out.drew
            obtain ⟨⟨q0, q1, q2, q3⟩, qf⟩ := U6.out.cells
            obtain ⟨⟨p0, p1, p2, p3⟩, pf⟩ := U6d.out.cells
            have qf0 := qf 0
            have pf0 := pf 0
            clear qf pf q1 q2 q3 p1 p2 p3
            go_region_with (go_at_call 117; refine (cU _).mono ?_; rintro e w' ⟨rfl, hw⟩; rw [hw]; clear hw w')
            all_goals
              go_wp2_with fail
              go_meet
              exact ⟨rfl, by first | exact U6d.out.setc 0 _ rfl | exact (U6.out.setc 0 _ rfl).drew, by first | exact mx_set (W := W6.drew) N6.out (by omega) | exact mx_set (W := W6) N6.out (by omega)⟩
          case rest =>
          obtain ⟨rfl, U7, N7⟩ := hcut
          rename World => W7
          obtain ⟨⟨q0, q1, q2, q3⟩, qf⟩ := U7.out.cells
          have qf1 := qf 1
          obtain ⟨n0, n1, n2, n3⟩ := ly_cells N7.out
          obtain ⟨a0, a1, a2⟩ := HAA.out W7 U7.out.below
          clear qf q0 q2 q3 n0 n2 n3 cU hrb htd hwq
          have hszv : f = true → max sz (rr / 8) = max (rup (max (layS true M ls0 (mem.take k)).fin (takenP ⟨nm, (t : Int), bt⟩ (M (t : Int)))) 8 / 8) 1 := fun h2 => by
            obtain ⟨i1, i2⟩ := HI.out.2.2 h2
            have hf0 := HF0.out
            rw [i1, ← HRR.out]
            have := HBT.out.1
            unfold takenP rup
            rw [if_neg HNG.out]
            simp only
            omega
          have HSZV : Hid (f = true → max sz (rr / 8) = max (rup (max (layS true M ls0 (mem.take k)).fin (takenP ⟨nm, (t : Int), bt⟩ (M (t : Int)))) 8 / 8) 1) := hszv
          clear hszv
          by_cases hnm : (!nm.toList.isEmpty) = true
          · have HNM : Hid ((nm.toList == []) = false) := by show (nm.toList == []) = false; cases h : nm.toList with | nil => rw [h] at hnm; cases hnm | cons x l => rfl
            go_wp2
            refine ⟨⟨k + 1, max sz (rr / 8), max al yal, .slice p' (PK.length + 1) cap', f && yf, by omega, by go_num, ?_, ?_⟩, by simp [intOf]; omega⟩
            · show US w _ _ _ _ _ _
              rw [HPN.out]
              exact U7.out.setc 1 _ rfl
            · show UI _ _ _ _ _
              rw [HTK.out]
              refine HI.out.step HYF.out (by have := HI.out.1; omega) (fun h1 h2 => ?_)
              obtain ⟨e1, e2⟩ := lay1 (l := mem.take k) HEX.out HBI.out
              obtain ⟨i1, i2⟩ := HI.out.2.2 h2
              obtain ⟨v1, v2⟩ := HYV.out h1
              rw [e1, e2, HNM.out]
              exact ⟨HSZV.out h2, by rw [i2, v2]; rfl⟩
          · have hnm0 : (!nm.toList.isEmpty) = false := by simpa using hnm
            have HNM : Hid ((nm.toList == []) = true) := by show (nm.toList == []) = true; cases h : nm.toList with | nil => rfl | cons x l => rw [h] at hnm0; cases hnm0
            go_wp2
            refine ⟨⟨k + 1, max sz (rr / 8), al, .slice p' (PK.length + 1) cap', f && yf, by omega, by go_num, ?_, ?_⟩, by simp [intOf]; omega⟩
            · show US w _ _ _ _ _ _
              rw [HPN.out]
              exact U7.out
            · show UI _ _ _ _ _
              rw [HTK.out]
              refine HI.out.step HYF.out HI.out.1 (fun h1 h2 => ?_)
              obtain ⟨e1, e2⟩ := lay1 (l := mem.take k) HEX.out HBI.out
              obtain ⟨i1, i2⟩ := HI.out.2.2 h2
              rw [e1, e2, HNM.out]
              exact ⟨HSZV.out h2, by rw [i2]; rfl⟩
    · obtain rfl : k = mem.length := by omega
      have hls := layS_ok (un := true) (M := M) mem 0 ls0 ⟨by decide, by decide, by decide, by decide, by decide⟩ (fun m hm => ⟨(HM.out m hm).1, (HM.out m hm).2.1⟩)
      simp only [List.take_length] at *
      generalize hPE : placesS true M ls0 0 mem = PK at *
      have HPE : Hid (placesS true M ls0 0 mem = PK) := hPE
      have HLS : Hid (LsOK (0 + mem.length) (layS true M ls0 mem)) := hls
      have hal := HI.out.1
      have HUU : Hid (∃ r, (f = true → r = (endP (layS true M ls0 mem)).size) ∧ ∀ Y, Calls Tryz.prog 117 #[.int .i64 sz, .int .i64 al] Y fun e w' => e = .returned (.int .i64 r) ∧ w' = Y) := by
        show ∃ r, _
        cases hf : f with
        | true =>
          obtain ⟨i1, i2⟩ := HI.out.2.2 hf
          have h0 := HLS.out.f0
          have h1 := HLS.out.f1
          have h2 := HLS.out.al
          have hr := rup_bd (layS true M ls0 mem).fin 8 h0 (by omega)
          refine ⟨_, fun _ => ?_, fun Y => rup_c sz al (by omega) (by omega) (by omega) (by omega) Y⟩
          rw [i1, i2]; rfl
        | false =>
          obtain ⟨r, hr⟩ := rup_val sz al hal
          exact ⟨r, fun h => (by cases h), hr⟩
      obtain ⟨r, hrv, cU⟩ := HUU.out
      have HRV : Hid (f = true → r = (endP (layS true M ls0 mem)).size) := hrv
      obtain ⟨⟨q0, q1, q2, q3⟩, qf⟩ := HU.out.cells
      have qf0 := qf 0
      have U7 : Hid (US w (wr.setCell ⟨w.heap.size + 1, 0, none⟩ (.int .i64 r)) r al (.slice lp PK.length lc) PK f) := HU.out.setc 0 _ rfl
      clear hPE hls hrv qf q2 q3 HUU
      go_upto_region 16 with (go_at_call 117; refine (cU _).mono ?_; rintro e w' ⟨rfl, hw⟩; rw [hw]; clear hw w')
      refine (?_ : Code.wp _ _ _ _ (wr.setCell ⟨w.heap.size + 1, 0, none⟩ (.int .i64 r)))
      generalize wr.setCell ⟨w.heap.size + 1, 0, none⟩ (.int .i64 r) = W7 at *
      clear q0 q1 qf0
      have hE4 := U7.out.res
      have HE4 : Hid (_ = _) := hE4
      obtain ⟨⟨q0, q1, q2, q3⟩, qf⟩ := U7.out.cells
      clear qf
      go_wp2_with (first | ((with_reducible apply step_store hE4); rfl; rfl; kernel_rfl; rfl; kernel_rfl) | fail)
      refine (?_ : bodyPost _ _ _ _ _ _)
      refine ret_c1 (p := 4) (cs := #[.int .i64 r, .int .i64 al, .slice lp PK.length lc, .bool f]) rfl rfl (load_Ly (setRow_heap _ _ _ _ _ _ HE4.out) rfl) ?_
      refine ⟨⟨r, al, .slice lp PK.length lc, PK, f⟩, rfl, below_setRow U7.out.below (Nat.le_refl _) _, ?_, fun hh => ?_, fun hh => ?_⟩
      · exact ownsRow_base (ownsRow_turned U7.out.own (Turned.setRow _ _ _ (S := fun k => k = w.heap.size) rfl) (fun k hk e => by have := (ownsRow_at U7.out.own hk).1; omega)) (by omega)
      · have hf := HI.out.2.1.2 hh
        exact ⟨hf, HRV.out hf, (HI.out.2.2 hf).2, by rw [HPE.out]⟩
      · show f = false
        cases hf : f with
        | false => rfl
        | true => exact absurd (HI.out.2.1.1 hf) hh
end
end Go.Proofs.YtlcghlfmaohfeaaGreat
