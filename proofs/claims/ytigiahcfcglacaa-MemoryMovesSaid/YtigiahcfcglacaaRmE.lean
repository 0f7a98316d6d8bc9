/-
  The given answer: Zero.
-/
import Derived.Test.YtigiahcfcglacaaRmD
namespace Go.Proofs.Ytigiahcfcglacaa
open Go.RowKit Go.Maps
set_option linter.unusedVariables false
set_option maxRecDepth 100000
/-- The given answer's memory w whose block i has other cells by now. -/
def AfterR (w : World) (rb : Nat) (ys : List Ry) (R : Nat → Prop) (i : Nat) (y : Ry) (bk : Bk) (wr : World) : Prop := RX wr rb (ys.set i { y with bk := some bk }) R ∧ Turned w wr R
namespace AfterR
variable {w wr : World} {rb : Nat} {ys : List Ry} {R : Nat → Prop} {i : Nat} {y : Ry} {k bk : Bk}
theorem start (h : RX w rb ys R) (hy : ys[i]? = some y) (hk : y.bk = some k) : AfterR w rb ys R i y k w := by
  have e : ({ y with bk := some k } : Ry) = y := by cases y; simp at hk; subst hk; rfl
  refine ⟨?_, Turned.refl _ _⟩
  rw [e, set_self hy]; exact h
theorem below (h : AfterR w rb ys R i y bk wr) {w' : World} (hb : Below wr.heap.size wr w') : AfterR w rb ys R i y bk w' := ⟨h.1.keptB hb, h.2.trans (Turned.of_below hb R) (fun _ _ h => h)⟩
theorem put (h : AfterR w rb ys R i y bk wr) (hi : i < ys.length) {j : Nat} (hj : j < bk.size) (c : Cl) : AfterR w rb ys R i y (bk.put j c) (set4 wr y.g (j * 4) c) := by
  have := h.1.put (i := i) (y := { y with bk := some bk }) (k := bk) (List.getElem?_set_self hi) rfl hj c
  refine ⟨?_, h.2.trans this.2 (fun _ _ h => h)⟩
  have t := this.1
  rw [List.set_set] at t
  exact t
theorem cell (h : AfterR w rb ys R i y bk wr) {g : Nat} (hg : g < w.heap.size) (hP : ¬ R g) (j : Nat) : wr.cell? ⟨g, j, none⟩ = w.cell? ⟨g, j, none⟩ := World.cell?_of_block (h.2.block g hg hP)
/-- What a round reads. -/
theorem facts (h : AfterR w rb ys R i y bk wr) (hi : i < ys.length) : ∃ g cap, wr.cell? ⟨rb, 0, none⟩ = some (.slice (some ⟨g, 0, none⟩) ys.length cap) ∧ wr.cell? ⟨g, i * 3 + 2, none⟩ = some (.slice (some ⟨y.g, 0, none⟩) bk.size bk.size) ∧ ys.length ≤ cap ∧ CellsAt wr y.g bk.size bk.cell := by
  have hy : (ys.set i { y with bk := some bk })[i]? = some { y with bk := some bk } := List.getElem?_set_self hi
  obtain ⟨g, cap, c0, c1, _, _, hcap, e0, e1, e2⟩ := h.1.row hy
  obtain ⟨ow, ho⟩ := h.1.own
  have hb := ho i _ bk hy rfl
  rw [List.length_set] at c0 hcap
  exact ⟨g, cap, c0, e2, hcap, hb.cells⟩
end AfterR
section
variable {w : World} {rb : Nat} {ys : List Ry} {R : Nat → Prop}
theorem roomS_some {st : List (Option Bk)} {p : Vl} {n w : Int} {k : Bk} (h : roomS st p n w = some k) : p.v ≤ k.size ∧ (∃ i : Nat, p.block = (i : Int) + 1 ∧ st[i]? = some (some k)) ∧ isW w = true ∧ w ≤ k.align ∧ p.v % w = 0 ∧ 1 ≤ n ∧ n ≤ k.size - p.v := by
  obtain ⟨h1, h2, h3, h4, h5, h6⟩ := roomG_some h
  obtain ⟨_, g2, g3⟩ := goodG_some h1
  exact ⟨g2, g3, h2, h3, h4, h5, h6⟩
set_option maxHeartbeats 1000000 in
theorem zeroR_bad (h : RX w rb ys R) (p : Vl) (hp : VlOK p) (n : Int) (n0 : -9223372036854775808 ≤ n) (n1 : n < 9223372036854775808) (hr : roomS (stR ys) p n 1 = none) :
    Calls Try.prog 43 #[.pointer (some ⟨rb, 0, none⟩), .agg #[.int .i64 p.kind, .int .u32 p.v, .int .i64 p.block], .int .i64 n] w fun e w' => e = .returned (.int .i64 3) ∧ Below w.heap.size w w' := by
  have hB : Below w.heap.size w (w.alloc (.cells #[.int .i64 p.kind, .int .u32 p.v, .int .i64 p.block] TV)) := (Below.refl _ w).alloc (Nat.le_refl _) _
  have c := atR_c (h.keptB hB) p hp n 1 n0 n1
  have HB : Hid (Below w.heap.size w (w.alloc (.cells #[.int .i64 p.kind, .int .u32 p.v, .int .i64 p.block] TV))) := hB
  obtain ⟨a0, a1, a2⟩ := box_cells w p
  have n3 := not_f
  rw [hr] at c
  simp only [Option.isSome_none] at c
  clear h hB hr
  go_enter Try.func43, Try.ntmps43
  go_wp2_with fail
  refine c.mono ?_; rintro e w1 ⟨rfl, hb1⟩
  have HB1 : Hid (Below w.heap.size w w1) := HB.out.trans (hb1.mono (by simp))
  clear hb1 c
  go_wp2
  go_ret
  exact ⟨rfl, HB1.out⟩
set_option maxHeartbeats 4000000 in
theorem zeroR_ok (h : RX w rb ys R) (p : Vl) (hp : VlOK p) (v n : Nat) (hv : p.v = v) (k : Bk) (i : Nat) (y : Ry) (hr : roomS (stR ys) p n 1 = some k) (hpb : p.block = (i : Int) + 1) (hy : ys[i]? = some y) (hyk : y.bk = some k) :
    Calls Try.prog 43 #[.pointer (some ⟨rb, 0, none⟩), .agg #[.int .i64 p.kind, .int .u32 p.v, .int .i64 p.block], .int .i64 n] w fun e w' => e = .returned (.int .i64 0) ∧ AfterR w rb ys R i y (k.fill v (fun _ => byte0) n) w' := by
  have hB : Below w.heap.size w (w.alloc (.cells #[.int .i64 p.kind, .int .u32 p.v, .int .i64 p.block] TV)) := (Below.refl _ w).alloc (Nat.le_refl _) _
  obtain ⟨hvs, _, _, _, _, hn1, hn2⟩ := roomS_some hr
  obtain ⟨ow, ho⟩ := h.own
  have hmx := (ho i y k hy hyk).max
  have hlen := h.len
  have hil : i < ys.length := (List.getElem?_eq_some_iff.1 hy).1
  have c := atR_c (h.keptB hB) p hp n 1 (by omega) (by omega)
  have HB : Hid (Below w.heap.size w (w.alloc (.cells #[.int .i64 p.kind, .int .u32 p.v, .int .i64 p.block] TV))) := hB
  obtain ⟨a0, a1, a2⟩ := box_cells w p
  have n3 := not_t
  rw [hr] at c
  simp only [Option.isSome_some] at c
  have H : Hid (RX w rb ys R) := h
  have HY : Hid (ys[i]? = some y) := hy
  have HYK : Hid (y.bk = some k) := hyk
  have hbc : ∀ W : World, (Instr.build TC #[(0, .int .i64 1)]).run Try.prog W = .ok (.agg #[.int .i64 1, .int .u32 0, .int .i64 0, .int .i64 0]) W := fun W => by kernel_rfl
  rw [hv, hpb] at a1 c a0 a2 HB ⊢
  have hvn : v + n ≤ k.size := by omega
  have w0_ : ((i : Int) + 1 - 1) = (i : Int) := by omega
  clear h hB hr hy hv hpb hyk ho
  go_enter Try.func43, Try.ntmps43
  go_wp2_with fail
  refine c.mono ?_; rintro e w1 ⟨rfl, hb1⟩
  have HB1 : Hid (Below w.heap.size w w1) := HB.out.trans (hb1.mono (by simp))
  have k1 := (hb1.cell (p := ⟨w.heap.size, 1, none⟩) (by simp)).trans a1
  have k2 := (hb1.cell (p := ⟨w.heap.size, 2, none⟩) (by simp)).trans a2
  have hlt : w.heap.size < w1.heap.size := World.block_lt_of_cell? w1 _ k1
  have hP : ¬ R w.heap.size := fun hp => absurd (H.out.lt _ hp) (by omega)
  have HA : Hid (AfterR w1 rb ys R i y (k.fill v (fun _ => byte0) 0) w1) := by
    show AfterR _ _ _ _ _ _ _ _
    rw [fill_zero]; exact AfterR.start (H.out.keptB HB1.out) HY.out HYK.out
  clear hb1 c a0 a1 a2 HB
  go_wp2
  go_loopw [7] (fun i_ wr => ∃ (j : Nat), i_ = .int .i64 j ∧ j ≤ n ∧ Hid (AfterR w1 rb ys R i y (k.fill v (fun _ => byte0) j) wr)) (fun i_ _ => n - (intOf i_).toNat)
  case atStart => exact ⟨0, rfl, Nat.zero_le _, HA⟩
  case round =>
    obtain ⟨j, rfl, hj, HR⟩ := hrel
    by_cases hlt2 : j < n
    · have q1 := (HR.out.cell hlt hP 1).trans k1
      have q2 := (HR.out.cell hlt hP 2).trans k2
      obtain ⟨g, cap, f0, f1, hcap, fc⟩ := HR.out.facts hil
      have hvk : v + j < k.size := by omega
      have hszk : (k.fill v (fun _ => byte0) j).size = k.size := rfl
      rw [hszk] at f1 fc
      obtain ⟨d0, d1, d2, d3⟩ := fc.cell hvk
      have ff := fc.frozen
      have w1_ := wrap_id (n := (v : Int)) (by omega) (by omega)
      have w2_ := wrap_id (n := (v : Int) + (j : Int)) (by omega) (by omega)
      have HP : Hid (AfterR w1 rb ys R i y (k.fill v (fun _ => byte0) (j + 1)) (set4 wr y.g ((v + j) * 4) byte0)) := by
        show AfterR _ _ _ _ _ _ _ _
        rw [fill_succ]; exact HR.out.put hil hvk byte0
      unfold set4 byte0 at HP
      clear fc hszk
      go_wp2
      go_region
      go_wp2
      exact ⟨⟨j + 1, by go_num, by omega, HP.out.below (Below.refl _ _).drew⟩, by simp [intOf]; omega⟩
    · obtain rfl : j = n := by omega
      go_wp2
      go_ret
      refine ⟨rfl, HR.out.1, (Turned.of_below HB1.out R).trans HR.out.2 (fun _ _ h => h)⟩
end
end Go.Proofs.Ytigiahcfcglacaa
