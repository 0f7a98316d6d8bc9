/-
  The given answer's 'ready' and 'of'.
-/
import Derived.Test.YtlcghlfmaohfeaaGreatRtB
import Derived.Test.YtlcghlfmaohfeaaGreatRtC
import Derived.Test.YtlcghlfmaohfeaaGreatLyWp
namespace Go.Proofs.YtlcghlfmaohfeaaGreat
open Go.RowKit Go.Maps
set_option linter.unusedVariables false
set_option maxRecDepth 100000
theorem row_cells {W : World} {g : Nat} {r : Rw} {s : Value} (h : W.heap[g]? = some (.cells #[.int .i64 r.kind, .int .i64 r.elem, .int .i64 r.len, .string r.tag, s, .bool r.done] TR (0, 0))) : W.cell? ⟨g, 0, none⟩ = some (.int .i64 r.kind) ∧ W.cell? ⟨g, 1, none⟩ = some (.int .i64 r.elem) ∧ W.cell? ⟨g, 2, none⟩ = some (.int .i64 r.len) ∧ W.cell? ⟨g, 4, none⟩ = some s :=
  ⟨(Lib.cell_of_heap h 0).trans rfl, (Lib.cell_of_heap h 1).trans rfl, (Lib.cell_of_heap h 2).trans rfl, (Lib.cell_of_heap h 4).trans rfl⟩
def readyP (r : Rw) (kn : Nat → Bool) : Bool := if r.kind = 14 then kn r.elem.toNat else r.mem.all fun m => kn m.type.toNat
section
variable {w : World} {M : Int → Ex} {base : Nat}
set_option maxHeartbeats 4000000 in
theorem ready_c {r : Rw} {s : Value} (hs : MemSl w s r.mem) (hn : r.mem.length ≤ 64) {g N : Nat} {kn : Nat → Bool} (hk : BoR w g N kn) (hN : N ≤ 512) (hp : ∀ x ∈ partsR r, 0 ≤ x ∧ x.toNat < N) :
    Calls Tryz.prog 88 #[.agg (rwCells r s).toArray, .slice (some ⟨g, 0, none⟩) N N] w fun e w' => e = .returned (.bool (readyP r kn)) ∧ Below w.heap.size w w' := by
  obtain ⟨sp, cap, rfl, hcell⟩ := memSl_cells hs
  have hb := below1 w (.cells #[.int .i64 r.kind, .int .i64 r.elem, .int .i64 r.len, .string r.tag, .slice sp r.mem.length cap, .bool r.done] TR)
  have hrow := heap_r0 w (.cells #[.int .i64 r.kind, .int .i64 r.elem, .int .i64 r.len, .string r.tag, .slice sp r.mem.length cap, .bool r.done] TR)
  obtain ⟨r0, r1, r2, r4⟩ := row_cells hrow
  have HB0 : Hid (Below w.heap.size w (w.alloc (.cells #[.int .i64 r.kind, .int .i64 r.elem, .int .i64 r.len, .string r.tag, .slice sp r.mem.length cap, .bool r.done] TR))) := hb
  have HROW : Hid ((w.alloc (.cells #[.int .i64 r.kind, .int .i64 r.elem, .int .i64 r.len, .string r.tag, .slice sp r.mem.length cap, .bool r.done] TR)).heap[w.heap.size]? = some (.cells #[.int .i64 r.kind, .int .i64 r.elem, .int .i64 r.len, .string r.tag, .slice sp r.mem.length cap, .bool r.done] TR (0, 0))) := hrow
  have nt := not_t
  have nf := not_f
  unfold rwCells
  by_cases h14 : r.kind = 14
  · have HK14 : Hid ((r.kind == 14) = true) := by show (r.kind == 14) = true; simpa using h14
    obtain ⟨e0, e1⟩ := hp r.elem (by unfold partsR; rw [if_pos h14]; simp)
    obtain ⟨t, ht⟩ : ∃ t : Nat, r.elem = t := ⟨r.elem.toNat, by omega⟩
    have htN : t < N := by rw [ht] at e1; simpa using e1
    have kc := (hk.below hb).cell htN
    have HR : Hid (readyP r kn = kn t) := by show readyP r kn = kn t; unfold readyP; rw [if_pos h14, ht]; rfl
    rw [HR.out]
    have HT : Hid (r.elem = t) := ht
    clear hs hcell hk hp h14 e0 e1 hb hrow r2 r4 ht
    go_enter Tryz.func88, Tryz.ntmps88
    go_upto_region 1 with fail
    generalize w.alloc (.cells #[.int .i64 r.kind, .int .i64 r.elem, .int .i64 r.len, .string r.tag, .slice sp r.mem.length cap, .bool r.done] TR) = W0 at *
    have k14 := HK14.out
    rw [HT.out] at r1
    go_wp2
    go_ret
    exact ⟨rfl, HB0.out⟩
  · have k14 : (r.kind == 14) = false := by simpa using h14
    have HP : Hid (∀ m ∈ r.mem, 0 ≤ m.type ∧ m.type.toNat < N) := fun m hm => hp m.type (by unfold partsR; rw [if_neg h14]; exact List.mem_map.2 ⟨m, hm, rfl⟩)
    have HR : Hid (readyP r kn = r.mem.all fun m => kn m.type.toNat) := by show readyP r kn = _; unfold readyP; rw [if_neg h14]
    have HCL : Hid (∀ j m, r.mem[j]? = some m → ∃ g o, sp = some ⟨g, o, none⟩ ∧ r.mem.length ≤ cap ∧ ∀ Y, Below w.heap.size w Y → ∀ k, k < 3 → Y.cell? ⟨g, o + j * 3 + k, none⟩ = (mbCells m)[k]?) := hcell
    have HK : Hid (BoR w g N kn) := hk
    rw [HR.out]
    clear hs hcell hk hp h14 hb hrow r1 r2
    go_enter Tryz.func88, Tryz.ntmps88
    go_upto_region 1 with fail
    generalize w.alloc (.cells #[.int .i64 r.kind, .int .i64 r.elem, .int .i64 r.len, .string r.tag, .slice sp r.mem.length cap, .bool r.done] TR) = W0 at *
    go_wp2
    go_loopw [5] (fun iv wr => ∃ k : Nat, iv = .int .i64 k ∧ k ≤ r.mem.length ∧ wr = W0 ∧ Hid (∀ j m, j < k → r.mem[j]? = some m → kn m.type.toNat = true)) (fun iv _ => r.mem.length - (intOf iv).toNat)
    case atStart => exact ⟨0, rfl, Nat.zero_le _, rfl, fun j m hj => by omega⟩
    case round =>
      obtain ⟨k, rfl, hkl, hwr, HA⟩ := hrel
      rw [hwr]
      clear hwr
      by_cases hlt : k < r.mem.length
      · obtain ⟨m, hm⟩ : ∃ m, r.mem[k]? = some m := ⟨_, List.getElem?_eq_getElem hlt⟩
        obtain ⟨gm, om, hsp, hcap, hc⟩ := HCL.out k m hm
        subst hsp
        obtain ⟨t0, t1⟩ := HP.out m (List.mem_of_getElem? hm)
        obtain ⟨t, ht⟩ : ∃ t : Nat, m.type = t := ⟨m.type.toNat, by omega⟩
        have htN : t < N := by rw [ht] at t1; simpa using t1
        have a1 := hc W0 HB0.out 1 (by omega)
        simp only [mbCells, List.getElem?_cons_zero, List.getElem?_cons_succ] at a1
        rw [ht] at a1
        have kc := (HK.out.below HB0.out).cell htN
        have HMK : Hid (r.mem[k]? = some m) := hm
        have HT : Hid (m.type = t) := ht
        clear hc ht t0 t1 hm
        cases hkt : kn t with
        | true =>
          rw [hkt] at kc
          have HKT : Hid (kn t = true) := hkt
          clear hkt
          go_wp2
          refine ⟨⟨k + 1, by go_num, by omega, by first | rfl | trivial, fun j m' hj hm' => ?_⟩, by simp [intOf]; omega⟩
          by_cases hjk : j < k
          · exact HA.out j m' hjk hm'
          · obtain rfl : j = k := by omega
            rw [HMK.out] at hm'
            injection hm' with hm'
            rw [← hm', HT.out]
            exact HKT.out
        | false =>
          rw [hkt] at kc
          have HKT : Hid (kn t = false) := hkt
          clear hkt
          go_wp2
          go_ret
          refine ⟨?_, HB0.out⟩
          have : (r.mem.all fun m => kn m.type.toNat) = false := by
            rw [List.all_eq_false]
            exact ⟨m, List.mem_of_getElem? HMK.out, by rw [HT.out]; simp [HKT.out]⟩
          rw [this]; rfl
      · obtain rfl : k = r.mem.length := by omega
        go_wp2
        go_ret
        refine ⟨?_, HB0.out⟩
        have : (r.mem.all fun m => kn m.type.toNat) = true := by
          rw [List.all_eq_true]
          intro m hm
          obtain ⟨j, hj⟩ := List.getElem?_of_mem hm
          exact HA.out j m (List.getElem?_eq_some_iff.1 hj).1 hj
        rw [this]; rfl
end
/-- While a type is told. -/
structure OS (w W : World) (r : Rw) (s : Value) (sz al : Int) (Ls : Value) (f : Bool) : Prop where
  below : Below w.heap.size w W
  row : W.heap[w.heap.size]? = some (.cells #[.int .i64 r.kind, .int .i64 r.elem, .int .i64 r.len, .string r.tag, s, .bool r.done] TR (0, 0))
  res : W.heap[w.heap.size + 1]? = some (.cells #[.int .i64 0, .int .i64 0, .slice none 0 0, .bool false] TLy (0, 0))
  y : W.heap[w.heap.size + 2]? = some (.cells #[.int .i64 sz, .int .i64 al, Ls, .bool f] TLy (0, 0))
namespace OS
variable {w W W' : World} {r : Rw} {s : Value} {sz al : Int} {Ls : Value} {f : Bool}
theorem bel (h : OS w W r s sz al Ls f) (hb : Below W.heap.size W W') : OS w W' r s sz al Ls f :=
  ⟨h.below.trans (hb.mono h.below.size), blk_b h.row hb, blk_b h.res hb, blk_b h.y hb⟩
theorem setc (h : OS w W r s sz al Ls f) (j : Nat) (v : Value) {sz' al' : Int} {f' : Bool} (hy : (#[.int .i64 sz, .int .i64 al, Ls, .bool f] : Array Value).set! j v = #[.int .i64 sz', .int .i64 al', Ls, .bool f']) : OS w (W.setCell ⟨w.heap.size + 2, j, none⟩ v) r s sz' al' Ls f' :=
  ⟨h.below.setCell (p := ⟨w.heap.size + 2, j, none⟩) (by show w.heap.size ≤ w.heap.size + 2; omega) _, (heap_setCell_other W ⟨w.heap.size + 2, j, none⟩ w.heap.size v (by show w.heap.size ≠ w.heap.size + 2; omega)).trans h.row,
    (heap_setCell_other W ⟨w.heap.size + 2, j, none⟩ (w.heap.size + 1) v (by show w.heap.size + 1 ≠ w.heap.size + 2; omega)).trans h.res, (heap_setCell (j := j) h.y v).trans (by rw [← hy]; rfl)⟩
theorem setr (h : OS w W r s sz al Ls f) (sz' al' : Int) (Ls' : Value) (f' : Bool) : OS w (W.setRow (w.heap.size + 2) #[.int .i64 sz', .int .i64 al', Ls', .bool f']) r s sz' al' Ls' f' := by
  have ht : Turned W (W.setRow (w.heap.size + 2) #[.int .i64 sz', .int .i64 al', Ls', .bool f']) (fun k => k = w.heap.size + 2) := Turned.setRow _ _ _ rfl
  exact ⟨below_setRow h.below (by omega) _, (ht.block _ (lt_of_heap h.row) (by omega)).trans h.row, (ht.block _ (lt_of_heap h.res) (by omega)).trans h.res, setRow_heap _ _ _ _ _ _ h.y⟩
theorem cells (h : OS w W r s sz al Ls f) : (W.cell? ⟨w.heap.size + 2, 0, none⟩ = some (.int .i64 sz) ∧ W.cell? ⟨w.heap.size + 2, 1, none⟩ = some (.int .i64 al) ∧ W.cell? ⟨w.heap.size + 2, 2, none⟩ = some Ls ∧ W.cell? ⟨w.heap.size + 2, 3, none⟩ = some (.bool f)) ∧ ∀ j, W.frozen? ⟨w.heap.size + 2, j, none⟩ = false :=
  ⟨⟨(Lib.cell_of_heap h.y 0).trans rfl, (Lib.cell_of_heap h.y 1).trans rfl, (Lib.cell_of_heap h.y 2).trans rfl, (Lib.cell_of_heap h.y 3).trans rfl⟩, fun j => frozen_of h.y j⟩
end OS
/-- A row of places that a call made. -/
def OwnP (w W : World) (Ls : Value) (pl : List Pl) : Prop := W.ownsRow w.heap.size TPl 5 Ls pl.length (plCells pl)
theorem OwnP.setC {w W : World} {Ls : Value} {pl : List Pl} {g j : Nat} {v : Value} {cs : Array Value} (h : OwnP w W Ls pl) (hg : W.heap[g]? = some (.cells cs TLy (0, 0))) : OwnP w (W.setCell ⟨g, j, none⟩ v) Ls pl :=
  ownsRow_turned h (Turned.setCell (S := fun k => k = g) _ _ _ _ rfl) (fun k hk e => by obtain ⟨_, cur, hc⟩ := ownsRow_at h hk; exact tag_ne hc hg (by decide) e)
theorem OwnP.setR {w W : World} {Ls : Value} {pl : List Pl} {g : Nat} {row cs : Array Value} (h : OwnP w W Ls pl) (hg : W.heap[g]? = some (.cells cs TLy (0, 0))) : OwnP w (W.setRow g row) Ls pl :=
  ownsRow_turned h (Turned.setRow _ _ _ (S := fun k => k = g) rfl) (fun k hk e => by obtain ⟨_, cur, hc⟩ := ownsRow_at h hk; exact tag_ne hc hg (by decide) e)
/-- What the given answer knows of a type's room. -/
def Told (M : Int → Ex) (r : Rw) (y : Ly) : Prop := y.fine = decide ((roomP M r).size ≤ 16384) ∧ (y.fine = true → y.size = (roomP M r).size ∧ y.align = (roomP M r).align ∧ (recK r.kind = true → y.pl = placesS (r.kind == 16) M ls0 0 r.mem))
section
variable {w : World} {M : Int → Ex} {base : Nat}
set_option maxHeartbeats 16000000 in
theorem of_c {r : Rw} {s : Value} (hs : MemSl w s r.mem) (hn : r.mem.length ≤ 64) {g : Nat} {ys : List Ly} (hy : LyR base w g ys) (hl : ys.length ≤ 512)
    (harr : r.kind = 14 → ∃ (t : Nat) (y : Ly), r.elem = t ∧ ys[t]? = some y ∧ y.fine = decide ((M r.elem).size ≤ 16384) ∧ (y.fine = true → y.size = (M r.elem).size ∧ y.align = (M r.elem).align) ∧ ExOK (M r.elem) ∧ 1 ≤ r.len ∧ r.len ≤ 16384)
    (hrec : recK r.kind = true → ∀ m ∈ r.mem, MemK M ys m) (hbig : recK r.kind = true → (roomP M r).size ≤ 16384 → ∀ m ∈ r.mem, (M m.type).size ≤ 16384) (hint : ¬ r.kind = 14 → recK r.kind = false → widthP r.kind ≤ 16384) :
    Calls Tryz.prog 89 #[.agg (rwCells r s).toArray, .slice (some ⟨g, 0, none⟩) ys.length ys.length] w fun e w' => ∃ y : Ly, e = .returned (.agg (lyC y).toArray) ∧ Below w.heap.size w w' ∧ OwnP w w' y.L y.pl ∧ Told M r y := by
  obtain ⟨sp, cap, rfl, _⟩ := memSl_cells hs
  have HMS : Hid (MemSl w (.slice sp r.mem.length cap) r.mem) := hs
  have HLY : Hid (LyR base w g ys) := hy
  have HARR : Hid (r.kind = 14 → ∃ (t : Nat) (y : Ly), r.elem = t ∧ ys[t]? = some y ∧ y.fine = decide ((M r.elem).size ≤ 16384) ∧ (y.fine = true → y.size = (M r.elem).size ∧ y.align = (M r.elem).align) ∧ ExOK (M r.elem) ∧ 1 ≤ r.len ∧ r.len ≤ 16384) := harr
  have HREC0 : Hid (recK r.kind = true → ∀ m ∈ r.mem, MemK M ys m) := hrec
  have HBG0 : Hid (recK r.kind = true → (roomP M r).size ≤ 16384 → ∀ m ∈ r.mem, (M m.type).size ≤ 16384) := hbig
  have HINT : Hid (¬ r.kind = 14 → recK r.kind = false → widthP r.kind ≤ 16384) := hint
  have hbd : ∀ Y : World, (Instr.build TLy #[(1, .int .i64 1), (3, .bool true)]).run Tryz.prog Y = .ok (.agg #[.int .i64 0, .int .i64 1, .slice none 0 0, .bool true]) Y := fun Y => by kernel_rfl
  have nt := not_t
  have nf := not_f
  have hgl := hy.lt
  have b1 := below1 w (.cells #[.int .i64 r.kind, .int .i64 r.elem, .int .i64 r.len, .string r.tag, .slice sp r.mem.length cap, .bool r.done] TR)
  have b2 := below1 (w.alloc (.cells #[.int .i64 r.kind, .int .i64 r.elem, .int .i64 r.len, .string r.tag, .slice sp r.mem.length cap, .bool r.done] TR)) (.cells #[.int .i64 0, .int .i64 0, .slice none 0 0, .bool false] TLy)
  have b3 := below1 ((w.alloc (.cells #[.int .i64 r.kind, .int .i64 r.elem, .int .i64 r.len, .string r.tag, .slice sp r.mem.length cap, .bool r.done] TR)).alloc (.cells #[.int .i64 0, .int .i64 0, .slice none 0 0, .bool false] TLy)) (.cells #[.int .i64 0, .int .i64 1, .slice none 0 0, .bool true] TLy)
  have z1 : (w.alloc (.cells #[.int .i64 r.kind, .int .i64 r.elem, .int .i64 r.len, .string r.tag, .slice sp r.mem.length cap, .bool r.done] TR)).heap.size = w.heap.size + 1 := by simp
  have z2 : ((w.alloc (.cells #[.int .i64 r.kind, .int .i64 r.elem, .int .i64 r.len, .string r.tag, .slice sp r.mem.length cap, .bool r.done] TR)).alloc (.cells #[.int .i64 0, .int .i64 0, .slice none 0 0, .bool false] TLy)).heap.size = w.heap.size + 2 := by simp
  have E1 := heap_r0 w (.cells #[.int .i64 r.kind, .int .i64 r.elem, .int .i64 r.len, .string r.tag, .slice sp r.mem.length cap, .bool r.done] TR)
  have E2 := heap_r0 (w.alloc (.cells #[.int .i64 r.kind, .int .i64 r.elem, .int .i64 r.len, .string r.tag, .slice sp r.mem.length cap, .bool r.done] TR)) (.cells #[.int .i64 0, .int .i64 0, .slice none 0 0, .bool false] TLy)
  have E3 := heap_r0 ((w.alloc (.cells #[.int .i64 r.kind, .int .i64 r.elem, .int .i64 r.len, .string r.tag, .slice sp r.mem.length cap, .bool r.done] TR)).alloc (.cells #[.int .i64 0, .int .i64 0, .slice none 0 0, .bool false] TLy)) (.cells #[.int .i64 0, .int .i64 1, .slice none 0 0, .bool true] TLy)
  have hold := heap_r0 ((w.alloc (.cells #[.int .i64 r.kind, .int .i64 r.elem, .int .i64 r.len, .string r.tag, .slice sp r.mem.length cap, .bool r.done] TR)).alloc (.cells #[.int .i64 0, .int .i64 0, .slice none 0 0, .bool false] TLy)) (.cells #[.int .i64 0, .int .i64 0, .slice none 0 0, .bool false] TLy)
  rw [z1] at E2
  rw [z2] at E3
  have HO3 : Hid (OS w (((w.alloc (.cells #[.int .i64 r.kind, .int .i64 r.elem, .int .i64 r.len, .string r.tag, .slice sp r.mem.length cap, .bool r.done] TR)).alloc (.cells #[.int .i64 0, .int .i64 0, .slice none 0 0, .bool false] TLy)).alloc (.cells #[.int .i64 0, .int .i64 1, .slice none 0 0, .bool true] TLy)) r (.slice sp r.mem.length cap) 0 1 (.slice none 0 0) true) := ⟨(b1.trans (b2.mono b1.size)).trans (b3.mono (by omega)), blk_b (blk_b E1 b2) b3, blk_b E2 b3, E3⟩
  clear hs hy harr hrec hbig hint b1 b2 b3 z1 E1 E2 E3
  unfold rwCells
  go_enter Tryz.func89, Tryz.ntmps89
  go_upto_region 2 with (first | ((with_reducible apply step_store hold); rfl; rfl; kernel_rfl; rfl; kernel_rfl; rw [World.setRow_alloc_new]) | fail)
  clear hold z2
  generalize ((w.alloc (.cells #[.int .i64 r.kind, .int .i64 r.elem, .int .i64 r.len, .string r.tag, .slice sp r.mem.length cap, .bool r.done] TR)).alloc (.cells #[.int .i64 0, .int .i64 0, .slice none 0 0, .bool false] TLy)).alloc (.cells #[.int .i64 0, .int .i64 1, .slice none 0 0, .bool true] TLy) = W3 at *
  obtain ⟨r0, r1, r2, r4⟩ := row_cells HO3.out.row
  clear r1 r2 r4
  by_cases h14 : r.kind = 14
  · have k14 : (r.kind == 14) = true := by simpa using h14
    have HK14 : Hid (r.kind = 14) := h14
    clear h14
    obtain ⟨t, y, ht, hyt, hyf, hyv, hEx, hl1, hl2⟩ := HARR.out HK14.out
    have hc := fun j hj => (HLY.out.below HO3.out.below).cell hyt (k := j) hj
    have c0 := hc 0 (by omega)
    have c1 := hc 1 (by omega)
    have c2 := hc 2 (by omega)
    have c3 := hc 3 (by omega)
    have hyl : t < ys.length := (List.getElem?_eq_some_iff.1 hyt).1
    obtain ⟨ysz, yal, yL, ypl, yf⟩ := y
    simp only [lyC, Nat.add_zero, List.getElem?_cons_zero, List.getElem?_cons_succ] at c0 c1 c2 c3 hyf hyv
    have HYO := (HLY.out.own _ (List.mem_of_getElem? hyt))
    obtain ⟨yp, yc, hyL⟩ := slice_of_own HYO
    simp only at hyL
    subst hyL
    have HYF : Hid (yf = decide ((M r.elem).size ≤ 16384)) := hyf
    have HYV : Hid (yf = true → ysz = (M r.elem).size ∧ yal = (M r.elem).align) := hyv
    have HEX : Hid (ExOK (M r.elem)) := hEx
    have HL1 : Hid (1 ≤ r.len) := hl1
    have HL2 : Hid (r.len ≤ 16384) := hl2
    have HT : Hid (r.elem = t) := ht
    clear r0
    obtain ⟨r0, r1, r2, r4⟩ := row_cells HO3.out.row
    rw [ht] at r1
    clear hc HYO hyt hyf hyv hEx hl1 hl2 ht
    have hold3 := heap_r0 W3 (.cells #[.int .i64 0, .int .i64 0, .slice none 0 0, .bool false] TLy)
    have O4 : Hid (OS w (W3.alloc (.cells #[.int .i64 ysz, .int .i64 yal, .slice yp ypl.length yc, .bool yf] TLy)) r (.slice sp r.mem.length cap) 0 1 (.slice none 0 0) true) := HO3.out.bel (below1 W3 _)
    have N4 : Hid ((W3.alloc (.cells #[.int .i64 ysz, .int .i64 yal, .slice yp ypl.length yc, .bool yf] TLy)).heap[W3.heap.size]? = some (.cells #[.int .i64 ysz, .int .i64 yal, .slice yp ypl.length yc, .bool yf] TLy (0, 0))) := heap_r0 W3 _
    have hmx : w.heap.size + 2 < W3.heap.size := lt_of_heap HO3.out.y
    go_upto_region 7 with (first | ((with_reducible apply step_store hold3); rfl; rfl; kernel_rfl; rfl; kernel_rfl; rw [World.setRow_alloc_new]) | fail)
    clear hold3 c0 c1 c2 c3 r0 r1 r2 r4
    generalize W3.alloc (.cells #[.int .i64 ysz, .int .i64 yal, .slice yp ypl.length yc, .bool yf] TLy) = W4 at *
    generalize W3.heap.size = mx at *
    obtain ⟨n0, n1, n2, n3⟩ := ly_cells N4.out
    obtain ⟨⟨q0, q1, q2, q3⟩, qf⟩ := O4.out.cells
    have qf1 := qf 1
    have O4a : Hid (OS w (W4.setCell ⟨w.heap.size + 2, 1, none⟩ (.int .i64 yal)) r (.slice sp r.mem.length cap) 0 yal (.slice none 0 0) true) := O4.out.setc 1 _ rfl
    have N4a : Hid ((W4.setCell ⟨w.heap.size + 2, 1, none⟩ (.int .i64 yal)).heap[mx]? = some (.cells #[.int .i64 ysz, .int .i64 yal, .slice yp ypl.length yc, .bool yf] TLy (0, 0))) := mx_set N4.out (by omega)
    clear qf n0 n2 n3 q0 q2 q3
    go_upto_region 8 with fail
    refine (?_ : Code.wp _ _ _ _ (W4.setCell ⟨w.heap.size + 2, 1, none⟩ (.int .i64 yal)))
    generalize W4.setCell ⟨w.heap.size + 2, 1, none⟩ (.int .i64 yal) = W4a at *
    clear n1 q1 qf1
    obtain ⟨n0, n1, n2, n3⟩ := ly_cells N4a.out
    obtain ⟨⟨q0, q1, q2, q3⟩, qf⟩ := O4a.out.cells
    have qf0 := qf 0
    obtain ⟨r0, r1, r2, r4⟩ := row_cells O4a.out.row
    obtain ⟨pz, hpz⟩ : ∃ pz, pz = IntKind.i64.wrap (r.len * ysz) := ⟨_, rfl⟩
    have hpz' := hpz.symm
    have HPZ : Hid (pz = IntKind.i64.wrap (r.len * ysz)) := hpz
    have O4b : Hid (OS w (W4a.setCell ⟨w.heap.size + 2, 0, none⟩ (.int .i64 pz)) r (.slice sp r.mem.length cap) pz yal (.slice none 0 0) true) := O4a.out.setc 0 _ rfl
    have N4b : Hid ((W4a.setCell ⟨w.heap.size + 2, 0, none⟩ (.int .i64 pz)).heap[mx]? = some (.cells #[.int .i64 ysz, .int .i64 yal, .slice yp ypl.length yc, .bool yf] TLy (0, 0))) := mx_set N4a.out (by omega)
    clear qf n1 n2 n3 q1 q2 q3 r0 r1 r4 hpz
    go_upto_region 9 with fail
    refine (?_ : Code.wp _ _ _ _ (W4a.setCell ⟨w.heap.size + 2, 0, none⟩ (.int .i64 pz)))
    generalize W4a.setCell ⟨w.heap.size + 2, 0, none⟩ (.int .i64 pz) = W4b at *
    clear n0 q0 qf0 r2 hpz'
    obtain ⟨n0, n1, n2, n3⟩ := ly_cells N4b.out
    obtain ⟨⟨q0, q1, q2, q3⟩, qf⟩ := O4b.out.cells
    have qf3 := qf 3
    have O5 : Hid (OS w (W4b.setCell ⟨w.heap.size + 2, 3, none⟩ (.bool yf)) r (.slice sp r.mem.length cap) pz yal (.slice none 0 0) yf) := O4b.out.setc 3 _ rfl
    clear qf n0 n1 n2 q0 q1 q2
    go_upto_region 14 with fail
    refine (?_ : Code.wp _ _ _ _ (W4b.setCell ⟨w.heap.size + 2, 3, none⟩ (.bool yf)))
    generalize W4b.setCell ⟨w.heap.size + 2, 3, none⟩ (.bool yf) = W5 at *
    clear n3 q3 qf3
    have HW5 : Hid (OwnP w W5 (.slice none 0 0) []) := World.ownsRow_nil _ _ _ _
    have hlen := HL2.out
    cases yf with
    | true =>
      obtain ⟨rfl, rfl⟩ := HYV.out rfl
      have hz : (M r.elem).size ≤ 16384 := by have := HYF.out; simpa using this.symm
      have hlo := HEX.out.lo
      have hmul : 0 ≤ r.len * (M r.elem).size ∧ r.len * (M r.elem).size ≤ 16384 * 16384 := ⟨Int.mul_nonneg (by have := HL1.out; omega) (by omega), Int.mul_le_mul hlen hz (by omega) (by omega)⟩
      have hpe : pz = r.len * (M r.elem).size := by rw [HPZ.out, wrap_id (by omega) (by omega)]
      have HROOM : Hid (roomP M r = ⟨r.len * (M r.elem).size, (M r.elem).align⟩) := by show roomP M r = _; unfold roomP; rw [if_pos HK14.out]
      rw [hpe] at O5 ⊢
      clear hpe hz hlo hmul hlen HPZ
      obtain ⟨⟨q0, q1, q2, q3⟩, qf⟩ := O5.out.cells
      have qf3 := qf 3
      have qf0 := qf 0
      clear qf
      by_cases hsz : (r.len * (M r.elem).size) ≤ 16384
      · have hd : decide ((r.len * (M r.elem).size) ≤ 16384) = true := by simpa using hsz
        have O9 : Hid (OS w (W5.setCell ⟨w.heap.size + 2, 3, none⟩ (.bool true)) r (.slice sp r.mem.length cap) ((r.len * (M r.elem).size)) ((M r.elem).align) ((.slice none 0 0)) true) := O5.out.setc 3 _ rfl
        have HW9 : Hid (OwnP w (W5.setCell ⟨w.heap.size + 2, 3, none⟩ (.bool true)) ((.slice none 0 0)) ([])) := HW5.out.setC O5.out.y
        have HBND : Hid ((r.len * (M r.elem).size) ≤ 16384) := hsz
        clear hsz
        go_upto_region 15 with fail
        refine (?_ : Code.wp _ _ _ _ (W5.setCell ⟨w.heap.size + 2, 3, none⟩ (.bool true)))
        generalize W5.setCell ⟨w.heap.size + 2, 3, none⟩ (.bool true) = W9 at *
        clear q0 q1 q2 q3 qf3 qf0 hd
        have hE9 := O9.out.res
        have HE9 : Hid (_ = _) := hE9
        obtain ⟨⟨s0, s1, s2, s3⟩, sf⟩ := O9.out.cells
        clear sf
        go_wp2_with (first | ((with_reducible apply step_store hE9); rfl; rfl; kernel_rfl; rfl; kernel_rfl) | fail)
        refine (?_ : bodyPost _ _ _ _ _ _)
        refine ret_c1 (p := 4) (cs := #[.int .i64 ((r.len * (M r.elem).size)), .int .i64 ((M r.elem).align), (.slice none 0 0), .bool true]) rfl rfl (load_Ly (setRow_heap _ _ _ _ _ _ HE9.out) rfl) ?_
        refine ⟨⟨(r.len * (M r.elem).size), (M r.elem).align, (.slice none 0 0), [], true⟩, rfl, below_setRow O9.out.below (by omega) _, HW9.out.setR O9.out.res, ?_⟩
        exact ⟨by rw [HROOM.out]; simp [HBND.out], fun _ => ⟨by rw [HROOM.out], by rw [HROOM.out], fun h => absurd h (by rw [show recK r.kind = false from by rw [HK14.out]; rfl]; decide)⟩⟩
      · have hd : decide ((r.len * (M r.elem).size) ≤ 16384) = false := by simpa using hsz
        have O6 : Hid (OS w (W5.setCell ⟨w.heap.size + 2, 3, none⟩ (.bool false)) r (.slice sp r.mem.length cap) ((r.len * (M r.elem).size)) ((M r.elem).align) ((.slice none 0 0)) false) := O5.out.setc 3 _ rfl
        have HW6 : Hid (OwnP w (W5.setCell ⟨w.heap.size + 2, 3, none⟩ (.bool false)) ((.slice none 0 0)) ([])) := HW5.out.setC O5.out.y
        have HBND : Hid (¬ (r.len * (M r.elem).size) ≤ 16384) := hsz
        clear hsz
        go_upto_region 15 with fail
        refine (?_ : Code.wp _ _ _ _ (W5.setCell ⟨w.heap.size + 2, 3, none⟩ (.bool false)))
        generalize W5.setCell ⟨w.heap.size + 2, 3, none⟩ (.bool false) = W6 at *
        clear q0 q1 q2 q3 qf3 qf0 hd
        obtain ⟨⟨q0, q1, q2, q3⟩, qf⟩ := O6.out.cells
        have qf0 := qf 0
        clear qf
        have O9 : Hid (OS w (W6.setCell ⟨w.heap.size + 2, 0, none⟩ (.int .i64 0)) r (.slice sp r.mem.length cap) 0 ((M r.elem).align) ((.slice none 0 0)) false) := O6.out.setc 0 _ rfl
        have HW9 : Hid (OwnP w (W6.setCell ⟨w.heap.size + 2, 0, none⟩ (.int .i64 0)) ((.slice none 0 0)) ([])) := HW6.out.setC O6.out.y
        go_upto_region 17 with fail
        refine (?_ : Code.wp _ _ _ _ (W6.setCell ⟨w.heap.size + 2, 0, none⟩ (.int .i64 0)))
        generalize W6.setCell ⟨w.heap.size + 2, 0, none⟩ (.int .i64 0) = W9 at *
        clear q0 q1 q2 q3 qf0
        have hE9 := O9.out.res
        have HE9 : Hid (_ = _) := hE9
        obtain ⟨⟨s0, s1, s2, s3⟩, sf⟩ := O9.out.cells
        clear sf
        go_wp2_with (first | ((with_reducible apply step_store hE9); rfl; rfl; kernel_rfl; rfl; kernel_rfl) | fail)
        refine (?_ : bodyPost _ _ _ _ _ _)
        refine ret_c1 (p := 4) (cs := #[.int .i64 (0), .int .i64 ((M r.elem).align), (.slice none 0 0), .bool false]) rfl rfl (load_Ly (setRow_heap _ _ _ _ _ _ HE9.out) rfl) ?_
        refine ⟨⟨0, (M r.elem).align, (.slice none 0 0), [], false⟩, rfl, below_setRow O9.out.below (by omega) _, HW9.out.setR O9.out.res, ?_⟩
        exact ⟨by rw [HROOM.out]; simp [HBND.out], fun h => by cases h⟩
    | false =>
      have HBIG : Hid (16384 < (roomP M r).size) := by
        show 16384 < (roomP M r).size
        have hz : ¬ (M r.elem).size ≤ 16384 := by have := HYF.out; simpa using this.symm
        unfold roomP
        rw [if_pos HK14.out]
        show 16384 < r.len * (M r.elem).size
        have := Int.mul_le_mul HL1.out (show (16385 : Int) ≤ (M r.elem).size by omega) (by omega) (by have := HL1.out; omega)
        omega
      clear hlen
      obtain ⟨⟨q0, q1, q2, q3⟩, qf⟩ := O5.out.cells
      have qf3 := qf 3
      have qf0 := qf 0
      clear qf
      have O6 : Hid (OS w (W5.setCell ⟨w.heap.size + 2, 3, none⟩ (.bool false)) r (.slice sp r.mem.length cap) (pz) (yal) ((.slice none 0 0)) false) := O5.out.setc 3 _ rfl
      have HW6 : Hid (OwnP w (W5.setCell ⟨w.heap.size + 2, 3, none⟩ (.bool false)) ((.slice none 0 0)) ([])) := HW5.out.setC O5.out.y
      go_upto_region 15 with fail
      refine (?_ : Code.wp _ _ _ _ (W5.setCell ⟨w.heap.size + 2, 3, none⟩ (.bool false)))
      generalize W5.setCell ⟨w.heap.size + 2, 3, none⟩ (.bool false) = W6 at *
      clear q0 q1 q2 q3 qf3 qf0
      obtain ⟨⟨q0, q1, q2, q3⟩, qf⟩ := O6.out.cells
      have qf0 := qf 0
      clear qf
      have O9 : Hid (OS w (W6.setCell ⟨w.heap.size + 2, 0, none⟩ (.int .i64 0)) r (.slice sp r.mem.length cap) 0 (yal) ((.slice none 0 0)) false) := O6.out.setc 0 _ rfl
      have HW9 : Hid (OwnP w (W6.setCell ⟨w.heap.size + 2, 0, none⟩ (.int .i64 0)) ((.slice none 0 0)) ([])) := HW6.out.setC O6.out.y
      go_upto_region 17 with fail
      refine (?_ : Code.wp _ _ _ _ (W6.setCell ⟨w.heap.size + 2, 0, none⟩ (.int .i64 0)))
      generalize W6.setCell ⟨w.heap.size + 2, 0, none⟩ (.int .i64 0) = W9 at *
      clear q0 q1 q2 q3 qf0
      have hE9 := O9.out.res
      have HE9 : Hid (_ = _) := hE9
      obtain ⟨⟨s0, s1, s2, s3⟩, sf⟩ := O9.out.cells
      clear sf
      go_wp2_with (first | ((with_reducible apply step_store hE9); rfl; rfl; kernel_rfl; rfl; kernel_rfl) | fail)
      refine (?_ : bodyPost _ _ _ _ _ _)
      refine ret_c1 (p := 4) (cs := #[.int .i64 (0), .int .i64 (yal), (.slice none 0 0), .bool false]) rfl rfl (load_Ly (setRow_heap _ _ _ _ _ _ HE9.out) rfl) ?_
      refine ⟨⟨0, yal, (.slice none 0 0), [], false⟩, rfl, below_setRow O9.out.below (by omega) _, HW9.out.setR O9.out.res, ?_⟩
      exact ⟨by have := HBIG.out; simp; omega, fun h => by cases h⟩
  · have k14 : (r.kind == 14) = false := by simpa using h14
    have HK14 : Hid (¬ r.kind = 14) := h14
    by_cases h15 : r.kind = 15
    · have k15 : (r.kind == 15) = true := by simpa using h15
      have HKR : Hid (recK r.kind = true) := by show recK r.kind = true; rw [h15]; rfl
      have HKU : Hid ((r.kind == 16) = false) := by show (r.kind == 16) = false; rw [h15]; rfl
      have HREC : Hid (∀ m ∈ r.mem, MemK M ys m) := HREC0.out HKR.out
      have HBG : Hid ((roomP M r).size ≤ 16384 → ∀ m ∈ r.mem, (M m.type).size ≤ 16384) := HBG0.out HKR.out
      clear h14 h15
      have cR : Calls Tryz.prog 105 #[.slice sp r.mem.length cap, .slice (some ⟨g, 0, none⟩) ys.length ys.length] W3 (fun e w' => ∃ (sz al : Int) (lp : Option Addr) (lc : Nat) (pl : List Pl) (f : Bool), e = .returned (.agg #[.int .i64 sz, .int .i64 al, .slice lp pl.length lc, .bool f]) ∧ Below W3.heap.size W3 w' ∧ w'.ownsRow W3.heap.size TPl 5 (.slice lp pl.length lc) pl.length (plCells pl) ∧ ((∀ m ∈ r.mem, (M m.type).size ≤ 16384) → f = true ∧ sz = (endP (layS false M ls0 r.mem)).size ∧ al = (layS false M ls0 r.mem).align ∧ pl = placesS false M ls0 0 r.mem) ∧ (¬ (∀ m ∈ r.mem, (M m.type).size ≤ 16384) → f = false)) := (refRec_c (M := M) (HMS.out.below HO3.out.below) hn (HLY.out.below HO3.out.below) hl HREC.out).mono (fun e w' ⟨⟨sz, al, Ls, pl, f⟩, he, hb, how, hy, hno⟩ => by obtain ⟨lp, lc, hL⟩ := slice_of_own how; simp only at hL; subst hL; exact ⟨sz, al, lp, lc, pl, f, he, hb, how, hy, hno⟩)
      have r4 := (row_cells HO3.out.row).2.2.2
      go_upto_region 14 with (first | (go_at_call 105; refine cR.mono ?_; rintro e w4 ⟨sz, al, lp, lc, pl, f, rfl, hb4, how, hyes, hno⟩; have O4 : Hid (OS w w4 r (.slice sp r.mem.length cap) 0 1 (.slice none 0 0) true) := HO3.out.bel hb4; have HW4 : Hid (OwnP w w4 (.slice lp pl.length lc) pl) := ownsRow_base how HO3.out.below.size; have HYES : Hid ((∀ m ∈ r.mem, (M m.type).size ≤ 16384) → f = true ∧ sz = (endP (layS false M ls0 r.mem)).size ∧ al = (layS false M ls0 r.mem).align ∧ pl = placesS false M ls0 0 r.mem) := hyes; have HNO : Hid (¬ (∀ m ∈ r.mem, (M m.type).size ≤ 16384) → f = false) := hno; have hy4 := O4.out.y; clear hb4 how hyes hno cR) | ((with_reducible apply step_store hy4); rfl; rfl; kernel_rfl; rfl; kernel_rfl) | fail)
      refine (?_ : Code.wp _ _ _ _ (w4.setRow (w.heap.size + 2) #[.int .i64 sz, .int .i64 al, .slice lp pl.length lc, .bool f]))
      have O5 : Hid (OS w (w4.setRow (w.heap.size + 2) #[.int .i64 sz, .int .i64 al, .slice lp pl.length lc, .bool f]) r (.slice sp r.mem.length cap) sz al (.slice lp pl.length lc) f) := O4.out.setr sz al (.slice lp pl.length lc) f
      have HW5 : Hid (OwnP w (w4.setRow (w.heap.size + 2) #[.int .i64 sz, .int .i64 al, .slice lp pl.length lc, .bool f]) (.slice lp pl.length lc) pl) := HW4.out.setR O4.out.y
      generalize w4.setRow (w.heap.size + 2) #[.int .i64 sz, .int .i64 al, .slice lp pl.length lc, .bool f] = W5 at *
      clear hy4
      by_cases hall : ∀ m ∈ r.mem, (M m.type).size ≤ 16384
      · obtain ⟨rfl, rfl, rfl, rfl⟩ := HYES.out hall
        have HROOM : Hid (roomP M r = endP (layS false M ls0 r.mem)) := by show roomP M r = _; unfold roomP; rw [if_neg HK14.out, if_pos HKR.out, HKU.out]
        clear hall
        obtain ⟨⟨q0, q1, q2, q3⟩, qf⟩ := O5.out.cells
        have qf3 := qf 3
        have qf0 := qf 0
        clear qf
        by_cases hsz : (endP (layS false M ls0 r.mem)).size ≤ 16384
        · have hd : decide ((endP (layS false M ls0 r.mem)).size ≤ 16384) = true := by simpa using hsz
          have O9 : Hid (OS w (W5.setCell ⟨w.heap.size + 2, 3, none⟩ (.bool true)) r (.slice sp r.mem.length cap) ((endP (layS false M ls0 r.mem)).size) ((layS false M ls0 r.mem).align) ((.slice lp (placesS false M ls0 0 r.mem).length lc)) true) := O5.out.setc 3 _ rfl
          have HW9 : Hid (OwnP w (W5.setCell ⟨w.heap.size + 2, 3, none⟩ (.bool true)) ((.slice lp (placesS false M ls0 0 r.mem).length lc)) ((placesS false M ls0 0 r.mem))) := HW5.out.setC O5.out.y
          have HBND : Hid ((endP (layS false M ls0 r.mem)).size ≤ 16384) := hsz
          clear hsz
          go_upto_region 15 with fail
          refine (?_ : Code.wp _ _ _ _ (W5.setCell ⟨w.heap.size + 2, 3, none⟩ (.bool true)))
          generalize W5.setCell ⟨w.heap.size + 2, 3, none⟩ (.bool true) = W9 at *
          clear q0 q1 q2 q3 qf3 qf0 hd
          have hE9 := O9.out.res
          have HE9 : Hid (_ = _) := hE9
          obtain ⟨⟨s0, s1, s2, s3⟩, sf⟩ := O9.out.cells
          clear sf
          go_wp2_with (first | ((with_reducible apply step_store hE9); rfl; rfl; kernel_rfl; rfl; kernel_rfl) | fail)
          refine (?_ : bodyPost _ _ _ _ _ _)
          refine ret_c1 (p := 4) (cs := #[.int .i64 ((endP (layS false M ls0 r.mem)).size), .int .i64 ((layS false M ls0 r.mem).align), (.slice lp (placesS false M ls0 0 r.mem).length lc), .bool true]) rfl rfl (load_Ly (setRow_heap _ _ _ _ _ _ HE9.out) rfl) ?_
          refine ⟨⟨(endP (layS false M ls0 r.mem)).size, (layS false M ls0 r.mem).align, (.slice lp (placesS false M ls0 0 r.mem).length lc), (placesS false M ls0 0 r.mem), true⟩, rfl, below_setRow O9.out.below (by omega) _, HW9.out.setR O9.out.res, ?_⟩
          exact ⟨by rw [HROOM.out]; simp [HBND.out], fun _ => ⟨by rw [HROOM.out], by rw [HROOM.out]; rfl, fun _ => by rw [HKU.out]⟩⟩
        · have hd : decide ((endP (layS false M ls0 r.mem)).size ≤ 16384) = false := by simpa using hsz
          have O6 : Hid (OS w (W5.setCell ⟨w.heap.size + 2, 3, none⟩ (.bool false)) r (.slice sp r.mem.length cap) ((endP (layS false M ls0 r.mem)).size) ((layS false M ls0 r.mem).align) ((.slice lp (placesS false M ls0 0 r.mem).length lc)) false) := O5.out.setc 3 _ rfl
          have HW6 : Hid (OwnP w (W5.setCell ⟨w.heap.size + 2, 3, none⟩ (.bool false)) ((.slice lp (placesS false M ls0 0 r.mem).length lc)) ((placesS false M ls0 0 r.mem))) := HW5.out.setC O5.out.y
          have HBND : Hid (¬ (endP (layS false M ls0 r.mem)).size ≤ 16384) := hsz
          clear hsz
          go_upto_region 15 with fail
          refine (?_ : Code.wp _ _ _ _ (W5.setCell ⟨w.heap.size + 2, 3, none⟩ (.bool false)))
          generalize W5.setCell ⟨w.heap.size + 2, 3, none⟩ (.bool false) = W6 at *
          clear q0 q1 q2 q3 qf3 qf0 hd
          obtain ⟨⟨q0, q1, q2, q3⟩, qf⟩ := O6.out.cells
          have qf0 := qf 0
          clear qf
          have O9 : Hid (OS w (W6.setCell ⟨w.heap.size + 2, 0, none⟩ (.int .i64 0)) r (.slice sp r.mem.length cap) 0 ((layS false M ls0 r.mem).align) ((.slice lp (placesS false M ls0 0 r.mem).length lc)) false) := O6.out.setc 0 _ rfl
          have HW9 : Hid (OwnP w (W6.setCell ⟨w.heap.size + 2, 0, none⟩ (.int .i64 0)) ((.slice lp (placesS false M ls0 0 r.mem).length lc)) ((placesS false M ls0 0 r.mem))) := HW6.out.setC O6.out.y
          go_upto_region 17 with fail
          refine (?_ : Code.wp _ _ _ _ (W6.setCell ⟨w.heap.size + 2, 0, none⟩ (.int .i64 0)))
          generalize W6.setCell ⟨w.heap.size + 2, 0, none⟩ (.int .i64 0) = W9 at *
          clear q0 q1 q2 q3 qf0
          have hE9 := O9.out.res
          have HE9 : Hid (_ = _) := hE9
          obtain ⟨⟨s0, s1, s2, s3⟩, sf⟩ := O9.out.cells
          clear sf
          go_wp2_with (first | ((with_reducible apply step_store hE9); rfl; rfl; kernel_rfl; rfl; kernel_rfl) | fail)
          refine (?_ : bodyPost _ _ _ _ _ _)
          refine ret_c1 (p := 4) (cs := #[.int .i64 (0), .int .i64 ((layS false M ls0 r.mem).align), (.slice lp (placesS false M ls0 0 r.mem).length lc), .bool false]) rfl rfl (load_Ly (setRow_heap _ _ _ _ _ _ HE9.out) rfl) ?_
          refine ⟨⟨0, (layS false M ls0 r.mem).align, (.slice lp (placesS false M ls0 0 r.mem).length lc), (placesS false M ls0 0 r.mem), false⟩, rfl, below_setRow O9.out.below (by omega) _, HW9.out.setR O9.out.res, ?_⟩
          exact ⟨by rw [HROOM.out]; simp [HBND.out], fun h => by cases h⟩
      · obtain rfl := HNO.out hall
        have HBIG : Hid (16384 < (roomP M r).size) := by
          show 16384 < (roomP M r).size
          by_cases hh : (roomP M r).size ≤ 16384
          · exact absurd (HBG.out hh) hall
          · omega
        clear hall
        obtain ⟨⟨q0, q1, q2, q3⟩, qf⟩ := O5.out.cells
        have qf3 := qf 3
        have qf0 := qf 0
        clear qf
        have O6 : Hid (OS w (W5.setCell ⟨w.heap.size + 2, 3, none⟩ (.bool false)) r (.slice sp r.mem.length cap) (sz) (al) ((.slice lp pl.length lc)) false) := O5.out.setc 3 _ rfl
        have HW6 : Hid (OwnP w (W5.setCell ⟨w.heap.size + 2, 3, none⟩ (.bool false)) ((.slice lp pl.length lc)) (pl)) := HW5.out.setC O5.out.y
        go_upto_region 15 with fail
        refine (?_ : Code.wp _ _ _ _ (W5.setCell ⟨w.heap.size + 2, 3, none⟩ (.bool false)))
        generalize W5.setCell ⟨w.heap.size + 2, 3, none⟩ (.bool false) = W6 at *
        clear q0 q1 q2 q3 qf3 qf0
        obtain ⟨⟨q0, q1, q2, q3⟩, qf⟩ := O6.out.cells
        have qf0 := qf 0
        clear qf
        have O9 : Hid (OS w (W6.setCell ⟨w.heap.size + 2, 0, none⟩ (.int .i64 0)) r (.slice sp r.mem.length cap) 0 (al) ((.slice lp pl.length lc)) false) := O6.out.setc 0 _ rfl
        have HW9 : Hid (OwnP w (W6.setCell ⟨w.heap.size + 2, 0, none⟩ (.int .i64 0)) ((.slice lp pl.length lc)) (pl)) := HW6.out.setC O6.out.y
        go_upto_region 17 with fail
        refine (?_ : Code.wp _ _ _ _ (W6.setCell ⟨w.heap.size + 2, 0, none⟩ (.int .i64 0)))
        generalize W6.setCell ⟨w.heap.size + 2, 0, none⟩ (.int .i64 0) = W9 at *
        clear q0 q1 q2 q3 qf0
        have hE9 := O9.out.res
        have HE9 : Hid (_ = _) := hE9
        obtain ⟨⟨s0, s1, s2, s3⟩, sf⟩ := O9.out.cells
        clear sf
        go_wp2_with (first | ((with_reducible apply step_store hE9); rfl; rfl; kernel_rfl; rfl; kernel_rfl) | fail)
        refine (?_ : bodyPost _ _ _ _ _ _)
        refine ret_c1 (p := 4) (cs := #[.int .i64 (0), .int .i64 (al), (.slice lp pl.length lc), .bool false]) rfl rfl (load_Ly (setRow_heap _ _ _ _ _ _ HE9.out) rfl) ?_
        refine ⟨⟨0, al, (.slice lp pl.length lc), pl, false⟩, rfl, below_setRow O9.out.below (by omega) _, HW9.out.setR O9.out.res, ?_⟩
        exact ⟨by have := HBIG.out; simp; omega, fun h => by cases h⟩
    · have k15 : (r.kind == 15) = false := by simpa using h15
      by_cases h16 : r.kind = 16
      · have k16 : (r.kind == 16) = true := by simpa using h16
        have HKR : Hid (recK r.kind = true) := by show recK r.kind = true; rw [h16]; rfl
        have HKU : Hid ((r.kind == 16) = true) := k16
        have HREC : Hid (∀ m ∈ r.mem, MemK M ys m) := HREC0.out HKR.out
        have HBG : Hid ((roomP M r).size ≤ 16384 → ∀ m ∈ r.mem, (M m.type).size ≤ 16384) := HBG0.out HKR.out
        clear h14 h15 h16
        have cR : Calls Tryz.prog 106 #[.slice sp r.mem.length cap, .slice (some ⟨g, 0, none⟩) ys.length ys.length] W3 (fun e w' => ∃ (sz al : Int) (lp : Option Addr) (lc : Nat) (pl : List Pl) (f : Bool), e = .returned (.agg #[.int .i64 sz, .int .i64 al, .slice lp pl.length lc, .bool f]) ∧ Below W3.heap.size W3 w' ∧ w'.ownsRow W3.heap.size TPl 5 (.slice lp pl.length lc) pl.length (plCells pl) ∧ ((∀ m ∈ r.mem, (M m.type).size ≤ 16384) → f = true ∧ sz = (endP (layS true M ls0 r.mem)).size ∧ al = (layS true M ls0 r.mem).align ∧ pl = placesS true M ls0 0 r.mem) ∧ (¬ (∀ m ∈ r.mem, (M m.type).size ≤ 16384) → f = false)) := (refUni_c (M := M) (HMS.out.below HO3.out.below) hn (HLY.out.below HO3.out.below) hl HREC.out).mono (fun e w' ⟨⟨sz, al, Ls, pl, f⟩, he, hb, how, hy, hno⟩ => by obtain ⟨lp, lc, hL⟩ := slice_of_own how; simp only at hL; subst hL; exact ⟨sz, al, lp, lc, pl, f, he, hb, how, hy, hno⟩)
        have r4 := (row_cells HO3.out.row).2.2.2
        go_upto_region 14 with (first | (go_at_call 106; refine cR.mono ?_; rintro e w4 ⟨sz, al, lp, lc, pl, f, rfl, hb4, how, hyes, hno⟩; have O4 : Hid (OS w w4 r (.slice sp r.mem.length cap) 0 1 (.slice none 0 0) true) := HO3.out.bel hb4; have HW4 : Hid (OwnP w w4 (.slice lp pl.length lc) pl) := ownsRow_base how HO3.out.below.size; have HYES : Hid ((∀ m ∈ r.mem, (M m.type).size ≤ 16384) → f = true ∧ sz = (endP (layS true M ls0 r.mem)).size ∧ al = (layS true M ls0 r.mem).align ∧ pl = placesS true M ls0 0 r.mem) := hyes; have HNO : Hid (¬ (∀ m ∈ r.mem, (M m.type).size ≤ 16384) → f = false) := hno; have hy4 := O4.out.y; clear hb4 how hyes hno cR) | ((with_reducible apply step_store hy4); rfl; rfl; kernel_rfl; rfl; kernel_rfl) | fail)
        refine (?_ : Code.wp _ _ _ _ (w4.setRow (w.heap.size + 2) #[.int .i64 sz, .int .i64 al, .slice lp pl.length lc, .bool f]))
        have O5 : Hid (OS w (w4.setRow (w.heap.size + 2) #[.int .i64 sz, .int .i64 al, .slice lp pl.length lc, .bool f]) r (.slice sp r.mem.length cap) sz al (.slice lp pl.length lc) f) := O4.out.setr sz al (.slice lp pl.length lc) f
        have HW5 : Hid (OwnP w (w4.setRow (w.heap.size + 2) #[.int .i64 sz, .int .i64 al, .slice lp pl.length lc, .bool f]) (.slice lp pl.length lc) pl) := HW4.out.setR O4.out.y
        generalize w4.setRow (w.heap.size + 2) #[.int .i64 sz, .int .i64 al, .slice lp pl.length lc, .bool f] = W5 at *
        clear hy4
        by_cases hall : ∀ m ∈ r.mem, (M m.type).size ≤ 16384
        · obtain ⟨rfl, rfl, rfl, rfl⟩ := HYES.out hall
          have HROOM : Hid (roomP M r = endP (layS true M ls0 r.mem)) := by show roomP M r = _; unfold roomP; rw [if_neg HK14.out, if_pos HKR.out, HKU.out]
          clear hall
          obtain ⟨⟨q0, q1, q2, q3⟩, qf⟩ := O5.out.cells
          have qf3 := qf 3
          have qf0 := qf 0
          clear qf
          by_cases hsz : (endP (layS true M ls0 r.mem)).size ≤ 16384
          · have hd : decide ((endP (layS true M ls0 r.mem)).size ≤ 16384) = true := by simpa using hsz
            have O9 : Hid (OS w (W5.setCell ⟨w.heap.size + 2, 3, none⟩ (.bool true)) r (.slice sp r.mem.length cap) ((endP (layS true M ls0 r.mem)).size) ((layS true M ls0 r.mem).align) ((.slice lp (placesS true M ls0 0 r.mem).length lc)) true) := O5.out.setc 3 _ rfl
            have HW9 : Hid (OwnP w (W5.setCell ⟨w.heap.size + 2, 3, none⟩ (.bool true)) ((.slice lp (placesS true M ls0 0 r.mem).length lc)) ((placesS true M ls0 0 r.mem))) := HW5.out.setC O5.out.y
            have HBND : Hid ((endP (layS true M ls0 r.mem)).size ≤ 16384) := hsz
            clear hsz
            go_upto_region 15 with fail
            refine (?_ : Code.wp _ _ _ _ (W5.setCell ⟨w.heap.size + 2, 3, none⟩ (.bool true)))
            generalize W5.setCell ⟨w.heap.size + 2, 3, none⟩ (.bool true) = W9 at *
            clear q0 q1 q2 q3 qf3 qf0 hd
            have hE9 := O9.out.res
            have HE9 : Hid (_ = _) := hE9
            obtain ⟨⟨s0, s1, s2, s3⟩, sf⟩ := O9.out.cells
            clear sf
            go_wp2_with (first | ((with_reducible apply step_store hE9); rfl; rfl; kernel_rfl; rfl; kernel_rfl) | fail)
            refine (?_ : bodyPost _ _ _ _ _ _)
            refine ret_c1 (p := 4) (cs := #[.int .i64 ((endP (layS true M ls0 r.mem)).size), .int .i64 ((layS true M ls0 r.mem).align), (.slice lp (placesS true M ls0 0 r.mem).length lc), .bool true]) rfl rfl (load_Ly (setRow_heap _ _ _ _ _ _ HE9.out) rfl) ?_
            refine ⟨⟨(endP (layS true M ls0 r.mem)).size, (layS true M ls0 r.mem).align, (.slice lp (placesS true M ls0 0 r.mem).length lc), (placesS true M ls0 0 r.mem), true⟩, rfl, below_setRow O9.out.below (by omega) _, HW9.out.setR O9.out.res, ?_⟩
            exact ⟨by rw [HROOM.out]; simp [HBND.out], fun _ => ⟨by rw [HROOM.out], by rw [HROOM.out]; rfl, fun _ => by rw [HKU.out]⟩⟩
          · have hd : decide ((endP (layS true M ls0 r.mem)).size ≤ 16384) = false := by simpa using hsz
            have O6 : Hid (OS w (W5.setCell ⟨w.heap.size + 2, 3, none⟩ (.bool false)) r (.slice sp r.mem.length cap) ((endP (layS true M ls0 r.mem)).size) ((layS true M ls0 r.mem).align) ((.slice lp (placesS true M ls0 0 r.mem).length lc)) false) := O5.out.setc 3 _ rfl
            have HW6 : Hid (OwnP w (W5.setCell ⟨w.heap.size + 2, 3, none⟩ (.bool false)) ((.slice lp (placesS true M ls0 0 r.mem).length lc)) ((placesS true M ls0 0 r.mem))) := HW5.out.setC O5.out.y
            have HBND : Hid (¬ (endP (layS true M ls0 r.mem)).size ≤ 16384) := hsz
            clear hsz
            go_upto_region 15 with fail
            refine (?_ : Code.wp _ _ _ _ (W5.setCell ⟨w.heap.size + 2, 3, none⟩ (.bool false)))
            generalize W5.setCell ⟨w.heap.size + 2, 3, none⟩ (.bool false) = W6 at *
            clear q0 q1 q2 q3 qf3 qf0 hd
            obtain ⟨⟨q0, q1, q2, q3⟩, qf⟩ := O6.out.cells
            have qf0 := qf 0
            clear qf
            have O9 : Hid (OS w (W6.setCell ⟨w.heap.size + 2, 0, none⟩ (.int .i64 0)) r (.slice sp r.mem.length cap) 0 ((layS true M ls0 r.mem).align) ((.slice lp (placesS true M ls0 0 r.mem).length lc)) false) := O6.out.setc 0 _ rfl
            have HW9 : Hid (OwnP w (W6.setCell ⟨w.heap.size + 2, 0, none⟩ (.int .i64 0)) ((.slice lp (placesS true M ls0 0 r.mem).length lc)) ((placesS true M ls0 0 r.mem))) := HW6.out.setC O6.out.y
            go_upto_region 17 with fail
            refine (?_ : Code.wp _ _ _ _ (W6.setCell ⟨w.heap.size + 2, 0, none⟩ (.int .i64 0)))
            generalize W6.setCell ⟨w.heap.size + 2, 0, none⟩ (.int .i64 0) = W9 at *
            clear q0 q1 q2 q3 qf0
            have hE9 := O9.out.res
            have HE9 : Hid (_ = _) := hE9
            obtain ⟨⟨s0, s1, s2, s3⟩, sf⟩ := O9.out.cells
            clear sf
            go_wp2_with (first | ((with_reducible apply step_store hE9); rfl; rfl; kernel_rfl; rfl; kernel_rfl) | fail)
            refine (?_ : bodyPost _ _ _ _ _ _)
            refine ret_c1 (p := 4) (cs := #[.int .i64 (0), .int .i64 ((layS true M ls0 r.mem).align), (.slice lp (placesS true M ls0 0 r.mem).length lc), .bool false]) rfl rfl (load_Ly (setRow_heap _ _ _ _ _ _ HE9.out) rfl) ?_
            refine ⟨⟨0, (layS true M ls0 r.mem).align, (.slice lp (placesS true M ls0 0 r.mem).length lc), (placesS true M ls0 0 r.mem), false⟩, rfl, below_setRow O9.out.below (by omega) _, HW9.out.setR O9.out.res, ?_⟩
            exact ⟨by rw [HROOM.out]; simp [HBND.out], fun h => by cases h⟩
        · obtain rfl := HNO.out hall
          have HBIG : Hid (16384 < (roomP M r).size) := by
            show 16384 < (roomP M r).size
            by_cases hh : (roomP M r).size ≤ 16384
            · exact absurd (HBG.out hh) hall
            · omega
          clear hall
          obtain ⟨⟨q0, q1, q2, q3⟩, qf⟩ := O5.out.cells
          have qf3 := qf 3
          have qf0 := qf 0
          clear qf
          have O6 : Hid (OS w (W5.setCell ⟨w.heap.size + 2, 3, none⟩ (.bool false)) r (.slice sp r.mem.length cap) (sz) (al) ((.slice lp pl.length lc)) false) := O5.out.setc 3 _ rfl
          have HW6 : Hid (OwnP w (W5.setCell ⟨w.heap.size + 2, 3, none⟩ (.bool false)) ((.slice lp pl.length lc)) (pl)) := HW5.out.setC O5.out.y
          go_upto_region 15 with fail
          refine (?_ : Code.wp _ _ _ _ (W5.setCell ⟨w.heap.size + 2, 3, none⟩ (.bool false)))
          generalize W5.setCell ⟨w.heap.size + 2, 3, none⟩ (.bool false) = W6 at *
          clear q0 q1 q2 q3 qf3 qf0
          obtain ⟨⟨q0, q1, q2, q3⟩, qf⟩ := O6.out.cells
          have qf0 := qf 0
          clear qf
          have O9 : Hid (OS w (W6.setCell ⟨w.heap.size + 2, 0, none⟩ (.int .i64 0)) r (.slice sp r.mem.length cap) 0 (al) ((.slice lp pl.length lc)) false) := O6.out.setc 0 _ rfl
          have HW9 : Hid (OwnP w (W6.setCell ⟨w.heap.size + 2, 0, none⟩ (.int .i64 0)) ((.slice lp pl.length lc)) (pl)) := HW6.out.setC O6.out.y
          go_upto_region 17 with fail
          refine (?_ : Code.wp _ _ _ _ (W6.setCell ⟨w.heap.size + 2, 0, none⟩ (.int .i64 0)))
          generalize W6.setCell ⟨w.heap.size + 2, 0, none⟩ (.int .i64 0) = W9 at *
          clear q0 q1 q2 q3 qf0
          have hE9 := O9.out.res
          have HE9 : Hid (_ = _) := hE9
          obtain ⟨⟨s0, s1, s2, s3⟩, sf⟩ := O9.out.cells
          clear sf
          go_wp2_with (first | ((with_reducible apply step_store hE9); rfl; rfl; kernel_rfl; rfl; kernel_rfl) | fail)
          refine (?_ : bodyPost _ _ _ _ _ _)
          refine ret_c1 (p := 4) (cs := #[.int .i64 (0), .int .i64 (al), (.slice lp pl.length lc), .bool false]) rfl rfl (load_Ly (setRow_heap _ _ _ _ _ _ HE9.out) rfl) ?_
          refine ⟨⟨0, al, (.slice lp pl.length lc), pl, false⟩, rfl, below_setRow O9.out.below (by omega) _, HW9.out.setR O9.out.res, ?_⟩
          exact ⟨by have := HBIG.out; simp; omega, fun h => by cases h⟩
      · have k16 : (r.kind == 16) = false := by simpa using h16
        have HKR : Hid (recK r.kind = false) := by show recK r.kind = false; unfold recK; rw [k15, k16]; rfl
        have HW16 : Hid (widthP r.kind ≤ 16384) := HINT.out h14 HKR.out
        clear h14 h15 h16
        have cW := rWidth_c r.kind
        obtain ⟨⟨q0, q1, q2, q3⟩, qf⟩ := HO3.out.cells
        have qf0 := qf 0
        obtain ⟨r0, r1, r2, r4⟩ := row_cells HO3.out.row
        have O4 : Hid (OS w (W3.setCell ⟨w.heap.size + 2, 0, none⟩ (.int .i64 (widthP r.kind))) r (.slice sp r.mem.length cap) (widthP r.kind) 1 (.slice none 0 0) true) := HO3.out.setc 0 _ rfl
        clear qf q1 q2 q3 r1 r2 r4
        go_upto_region 4 with (go_at_call 107; refine (cW _).mono ?_; rintro e w' ⟨rfl, hw⟩; rw [hw]; clear hw w')
        refine (?_ : Code.wp _ _ _ _ (W3.setCell ⟨w.heap.size + 2, 0, none⟩ (.int .i64 (widthP r.kind))))
        generalize W3.setCell ⟨w.heap.size + 2, 0, none⟩ (.int .i64 (widthP r.kind)) = W4 at *
        clear q0 qf0 r0 cW
        obtain ⟨⟨q0, q1, q2, q3⟩, qf⟩ := O4.out.cells
        have qf1 := qf 1
        have O5 : Hid (OS w (W4.setCell ⟨w.heap.size + 2, 1, none⟩ (.int .i64 (widthP r.kind))) r (.slice sp r.mem.length cap) (widthP r.kind) (widthP r.kind) (.slice none 0 0) true) := O4.out.setc 1 _ rfl
        clear qf q2 q3
        go_upto_region 14 with fail
        refine (?_ : Code.wp _ _ _ _ (W4.setCell ⟨w.heap.size + 2, 1, none⟩ (.int .i64 (widthP r.kind))))
        generalize W4.setCell ⟨w.heap.size + 2, 1, none⟩ (.int .i64 (widthP r.kind)) = W5 at *
        clear q0 q1 qf1
        have HW5 : Hid (OwnP w W5 (.slice none 0 0) []) := World.ownsRow_nil _ _ _ _
        have HROOM : Hid (roomP M r = ⟨widthP r.kind, widthP r.kind⟩) := by show roomP M r = _; unfold roomP; rw [if_neg HK14.out, if_neg (by rw [HKR.out]; decide)]
        obtain ⟨⟨q0, q1, q2, q3⟩, qf⟩ := O5.out.cells
        have qf3 := qf 3
        have qf0 := qf 0
        clear qf
        by_cases hsz : (widthP r.kind) ≤ 16384
        · have hd : decide ((widthP r.kind) ≤ 16384) = true := by simpa using hsz
          have O9 : Hid (OS w (W5.setCell ⟨w.heap.size + 2, 3, none⟩ (.bool true)) r (.slice sp r.mem.length cap) ((widthP r.kind)) ((widthP r.kind)) ((.slice none 0 0)) true) := O5.out.setc 3 _ rfl
          have HW9 : Hid (OwnP w (W5.setCell ⟨w.heap.size + 2, 3, none⟩ (.bool true)) ((.slice none 0 0)) ([])) := HW5.out.setC O5.out.y
          have HBND : Hid ((widthP r.kind) ≤ 16384) := hsz
          clear hsz
          go_upto_region 15 with fail
          refine (?_ : Code.wp _ _ _ _ (W5.setCell ⟨w.heap.size + 2, 3, none⟩ (.bool true)))
          generalize W5.setCell ⟨w.heap.size + 2, 3, none⟩ (.bool true) = W9 at *
          clear q0 q1 q2 q3 qf3 qf0 hd
          have hE9 := O9.out.res
          have HE9 : Hid (_ = _) := hE9
          obtain ⟨⟨s0, s1, s2, s3⟩, sf⟩ := O9.out.cells
          clear sf
          go_wp2_with (first | ((with_reducible apply step_store hE9); rfl; rfl; kernel_rfl; rfl; kernel_rfl) | fail)
          refine (?_ : bodyPost _ _ _ _ _ _)
          refine ret_c1 (p := 4) (cs := #[.int .i64 ((widthP r.kind)), .int .i64 ((widthP r.kind)), (.slice none 0 0), .bool true]) rfl rfl (load_Ly (setRow_heap _ _ _ _ _ _ HE9.out) rfl) ?_
          refine ⟨⟨(widthP r.kind), (widthP r.kind), (.slice none 0 0), [], true⟩, rfl, below_setRow O9.out.below (by omega) _, HW9.out.setR O9.out.res, ?_⟩
          exact ⟨by rw [HROOM.out]; simp [HBND.out], fun _ => ⟨by rw [HROOM.out], by rw [HROOM.out], fun h => absurd h (by rw [HKR.out]; decide)⟩⟩
        · have hd : decide ((widthP r.kind) ≤ 16384) = false := by simpa using hsz
          have O6 : Hid (OS w (W5.setCell ⟨w.heap.size + 2, 3, none⟩ (.bool false)) r (.slice sp r.mem.length cap) ((widthP r.kind)) ((widthP r.kind)) ((.slice none 0 0)) false) := O5.out.setc 3 _ rfl
          have HW6 : Hid (OwnP w (W5.setCell ⟨w.heap.size + 2, 3, none⟩ (.bool false)) ((.slice none 0 0)) ([])) := HW5.out.setC O5.out.y
          have HBND : Hid (¬ (widthP r.kind) ≤ 16384) := hsz
          clear hsz
          go_upto_region 15 with fail
          refine (?_ : Code.wp _ _ _ _ (W5.setCell ⟨w.heap.size + 2, 3, none⟩ (.bool false)))
          generalize W5.setCell ⟨w.heap.size + 2, 3, none⟩ (.bool false) = W6 at *
          clear q0 q1 q2 q3 qf3 qf0 hd
          obtain ⟨⟨q0, q1, q2, q3⟩, qf⟩ := O6.out.cells
          have qf0 := qf 0
          clear qf
          have O9 : Hid (OS w (W6.setCell ⟨w.heap.size + 2, 0, none⟩ (.int .i64 0)) r (.slice sp r.mem.length cap) 0 ((widthP r.kind)) ((.slice none 0 0)) false) := O6.out.setc 0 _ rfl
          have HW9 : Hid (OwnP w (W6.setCell ⟨w.heap.size + 2, 0, none⟩ (.int .i64 0)) ((.slice none 0 0)) ([])) := HW6.out.setC O6.out.y
          go_upto_region 17 with fail
          refine (?_ : Code.wp _ _ _ _ (W6.setCell ⟨w.heap.size + 2, 0, none⟩ (.int .i64 0)))
          generalize W6.setCell ⟨w.heap.size + 2, 0, none⟩ (.int .i64 0) = W9 at *
          clear q0 q1 q2 q3 qf0
          have hE9 := O9.out.res
          have HE9 : Hid (_ = _) := hE9
          obtain ⟨⟨s0, s1, s2, s3⟩, sf⟩ := O9.out.cells
          clear sf
          go_wp2_with (first | ((with_reducible apply step_store hE9); rfl; rfl; kernel_rfl; rfl; kernel_rfl) | fail)
          refine (?_ : bodyPost _ _ _ _ _ _)
          refine ret_c1 (p := 4) (cs := #[.int .i64 (0), .int .i64 ((widthP r.kind)), (.slice none 0 0), .bool false]) rfl rfl (load_Ly (setRow_heap _ _ _ _ _ _ HE9.out) rfl) ?_
          refine ⟨⟨0, (widthP r.kind), (.slice none 0 0), [], false⟩, rfl, below_setRow O9.out.below (by omega) _, HW9.out.setR O9.out.res, ?_⟩
          exact absurd HW16.out (by have := HBND.out; omega)
end
end Go.Proofs.YtlcghlfmaohfeaaGreat
