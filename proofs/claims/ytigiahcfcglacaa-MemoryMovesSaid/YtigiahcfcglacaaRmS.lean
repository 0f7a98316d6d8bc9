/-
  The given answer: Load.
-/
import Derived.Test.YtigiahcfcglacaaRmE
import Derived.Test.YtigiahcfcglacaaMmQ
import Derived.Maps.AppendAt
namespace Go.Proofs.Ytigiahcfcglacaa
open Go.RowKit Go.Maps
set_option linter.unusedVariables false
set_option maxRecDepth 100000
def bl (k : Bk) (v : Nat) : Nat → List Value
  | 0 => []
  | j + 1 => if (k.cell (v + j)).kind = 1 then bl k v j ++ [.int .u8 (fByte k v j)] else bl k v j
def bn (k : Bk) (v : Nat) : Nat → Nat
  | 0 => 0
  | j + 1 => if (k.cell (v + j)).kind = 1 then bn k v j + 1 else bn k v j
def pj (k : Bk) (v : Nat) : Nat → Bool
  | 0 => true
  | j + 1 => pj k v j && sameC (k.cell (v + j)) ⟨2, (k.cell v).v, (k.cell v).block, j⟩
theorem bn_le (k : Bk) (v : Nat) : ∀ j, bn k v j ≤ j
  | 0 => Nat.le_refl _
  | j + 1 => by have := bn_le k v j; unfold bn; split <;> omega
theorem bn_all {k : Bk} {v : Nat} : ∀ {j : Nat}, (∀ t, t < j → (k.cell (v + t)).kind = 1) → bn k v j = j ∧ bl k v j = bytesL (fByte k v) j
  | 0, _ => ⟨rfl, rfl⟩
  | j + 1, h => by
    obtain ⟨h1, h2⟩ := bn_all (j := j) (fun t ht => h t (by omega))
    have := h j (by omega)
    unfold bn bl
    rw [if_pos this, if_pos this, h1, h2, bytesL_succ]
    exact ⟨rfl, rfl⟩
theorem bn_not {k : Bk} {v : Nat} : ∀ {j : Nat}, bn k v j = j → ∀ t, t < j → (k.cell (v + t)).kind = 1
  | 0, _, t, ht => by omega
  | j + 1, h, t, ht => by
    have hl := bn_le k v j
    unfold bn at h
    by_cases e : (k.cell (v + j)).kind = 1
    · rw [if_pos e] at h
      by_cases et : t = j
      · subst et; exact e
      · exact bn_not (j := j) (by omega) t (by omega)
    · rw [if_neg e] at h; omega
theorem pj_all {k : Bk} {v : Nat} : pj k v 4 = allPart k v := by
  simp only [pj, allPart, List.range, List.range.loop, List.all_cons, List.all_nil, Bool.true_and, Bool.and_true, Nat.add_zero]
  rw [Bool.and_assoc, Bool.and_assoc]
section
variable {w : World} {rb : Nat} {ys : List Ry} {R : Nat → Prop}
theorem ZW_size (w : World) (p : Vl) : (ZW w p).heap.size = w.heap.size + 2 := box2_size w p vlZ
set_option maxHeartbeats 1000000 in
theorem loadR_none (h : RX w rb ys R) (p : Vl) (hp : VlOK p) (n : Int) (s : Bool) (n0 : -9223372036854775808 ≤ n) (n1 : n < 9223372036854775808) (hr : roomS (stR ys) p n n = none) :
    Calls Try.prog 39 #[.pointer (some ⟨rb, 0, none⟩), .agg #[.int .i64 p.kind, .int .u32 p.v, .int .i64 p.block], .int .i64 n, .bool s] w fun e w' => e = .returned (.tuple #[.agg #[.int .i64 0, .int .u32 0, .int .i64 0], .int .i64 3]) ∧ Below w.heap.size w w' := by
  have hB : Below w.heap.size w (ZW w p) := box2_below w p vlZ
  have c := atR_c (h.keptB hB) p hp n n n0 n1
  obtain ⟨⟨a0, a1, a2⟩, _, _, _⟩ := box2_cells w p vlZ
  rw [← ZW_box] at a0 a1 a2
  have HB : Hid (Below w.heap.size w (ZW w p)) := hB
  have hsz := ZW_size w p
  have HZ : Hid ((ZW w p).heap[w.heap.size + 1]? = some (.cells #[.int .i64 0, .int .u32 0, .int .i64 0] TV (0, 0))) := ZW_heap w p
  have n3 := not_f
  have hbz := zeroV_box
  rw [hr] at c
  simp only [Option.isSome_none] at c
  clear h hB hr
  unfold ZW at a0 a1 a2 c hsz
  go_enter Try.func39, Try.ntmps39
  go_wp2_with fail
  refine c.mono ?_; rintro e w1 ⟨rfl, hb1⟩
  have hs1 : w.heap.size + 2 ≤ w1.heap.size := by have := hb1.size; omega
  have HB1 : Hid (Below w.heap.size w w1) := HB.out.trans (hb1.mono (by omega))
  have hr1 : w1.heap[w.heap.size + 1]? = some (.cells #[.int .i64 0, .int .u32 0, .int .i64 0] TV (0, 0)) := (hb1.block _ (by omega)).trans HZ.out
  obtain ⟨tf, t0, t1, t2⟩ := zero_facts hr1
  clear hb1 c hr1
  go_wp2
  exact bodyPost_ret (v := .tuple #[.agg #[.int .i64 0, .int .u32 0, .int .i64 0], .int .i64 3]) (by simp [results, Try.results39, go_sem, t0, t1, t2]) rfl ⟨rfl, (by repeat (first | exact HB1.out | refine Below.setCell ?_ (by simp) _))⟩
/-- The state of Load's loop. -/
def LdI (w1 : World) (k : Bk) (v j : Nat) (q : Option Addr) (cap : Nat) (wr : World) : Prop :=
  wr.ownsRow w1.heap.size 5 1 (.slice q (bn k v j) cap) (bn k v j) (bl k v j) ∧ Below w1.heap.size w1 wr
set_option maxHeartbeats 8000000 in
theorem loadR_any (h : RX w rb ys R) (p : Vl) (hp : VlOK p) (v n : Nat) (s : Bool) (hv : p.v = v) (k : Bk) (i : Nat) (y : Ry) (hr : roomS (stR ys) p n n = some k) (hpb : p.block = (i : Int) + 1) (hy : ys[i]? = some y) (hyk : y.bk = some k) :
    Calls Try.prog 39 #[.pointer (some ⟨rb, 0, none⟩), .agg #[.int .i64 p.kind, .int .u32 p.v, .int .i64 p.block], .int .i64 n, .bool s] w fun e w' => Below w.heap.size w w' ∧
      ((bn k v n = n ∧ e = .returned (.tuple #[.agg #[.int .i64 1, .int .u32 (W.ext n s (valP (fByte k v) n)), .int .i64 0], .int .i64 0])) ∨
       (¬ bn k v n = n ∧ n = 4 ∧ pj k v n = true ∧ e = .returned (.tuple #[.agg #[.int .i64 2, .int .u32 (k.cell v).v, .int .i64 (k.cell v).block], .int .i64 0])) ∨
       (¬ bn k v n = n ∧ (¬ n = 4 ∨ pj k v n = false) ∧ e = .returned (.tuple #[.agg #[.int .i64 0, .int .u32 0, .int .i64 0], .int .i64 3]))) := by
  obtain ⟨pk, pv, pbl⟩ := p
  simp only at hv hpb
  subst hv hpb
  obtain ⟨i0, hi0, hz0, hz1, hz2⟩ := info_parts info_u8
  have hB : Below w.heap.size w (ZW w ⟨pk, v, (i : Int) + 1⟩) := box2_below w ⟨pk, v, (i : Int) + 1⟩ vlZ
  obtain ⟨hvs, _, hW, _, _, hn1, hn2⟩ := roomS_some hr
  obtain ⟨ow, ho⟩ := h.own
  have hmx := (ho i y k hy hyk).max
  have hlen := h.len
  have hil : i < ys.length := (List.getElem?_eq_some_iff.1 hy).1
  simp only at hvs hn2
  have c := atR_c (h.keptB hB) ⟨pk, v, (i : Int) + 1⟩ hp n n (by omega) (by omega)
  obtain ⟨⟨a0, a1, a2⟩, _, _, _⟩ := box2_cells w ⟨pk, v, (i : Int) + 1⟩ vlZ
  rw [← ZW_box] at a0 a1 a2
  have HB : Hid (Below w.heap.size w (ZW w ⟨pk, v, (i : Int) + 1⟩)) := hB
  have hsz := ZW_size w ⟨pk, v, (i : Int) + 1⟩
  have HZ : Hid ((ZW w ⟨pk, v, (i : Int) + 1⟩).heap[w.heap.size + 1]? = some (.cells #[.int .i64 0, .int .u32 0, .int .i64 0] TV (0, 0))) := ZW_heap w ⟨pk, v, (i : Int) + 1⟩
  have n3 := not_t
  have hbz := zeroV_box
  have hbV := build_V
  have hbN : ∀ (x : Int) (W : World), (Instr.build TV #[(0, .int .i64 1), (1, .int .u32 x)]).run Try.prog W = .ok (.agg #[.int .i64 1, .int .u32 x, .int .i64 0]) W := fun x W => by kernel_rfl
  rw [hr] at c
  simp only [Option.isSome_some] at c
  have H : Hid (RX w rb ys R) := h
  have HY : Hid (ys[i]? = some y) := hy
  have HYK : Hid (y.bk = some k) := hyk
  have HN : Hid (n = 1 ∨ n = 2 ∨ n = 4) := (by unfold isW at hW; simp at hW; show _ ∨ _ ∨ _; omega)
  simp only at a0 a1 a2 c
  have hvn : v + n ≤ k.size := by omega
  have hn1' : 1 ≤ n := by omega
  have hn4 : n ≤ 4 := by have := HN.out; omega
  have w0_ : ((i : Int) + 1 - 1) = (i : Int) := by omega
  have w1_ := wrap_id (n := (v : Int)) (by omega) (by omega)
  have w2_ := wrap_id (n := (v : Int) + (n : Int)) (by omega) (by omega)
  clear h hB hr hy hyk ho hW hp
  unfold ZW at a0 a1 a2 c hsz
  go_enter Try.func39, Try.ntmps39
  go_wp2_with fail
  refine c.mono ?_; rintro e w1 ⟨rfl, hb1⟩
  have hs1 : w.heap.size + 2 ≤ w1.heap.size := by have := hb1.size; omega
  have HB1 : Hid (Below w.heap.size w w1) := HB.out.trans (hb1.mono (by omega))
  have k1 := (hb1.cell (p := ⟨w.heap.size, 1, none⟩) (by simp; omega)).trans a1
  have k2 := (hb1.cell (p := ⟨w.heap.size, 2, none⟩) (by simp; omega)).trans a2
  have HZ1 : Hid (w1.heap[w.heap.size + 1]? = some (.cells #[.int .i64 0, .int .u32 0, .int .i64 0] TV (0, 0))) := (hb1.block _ (by omega)).trans HZ.out
  obtain ⟨g, cap, c0, c1, _, _, hcap, e0, e1, e2⟩ := (H.out.keptB HB1.out).row HY.out
  obtain ⟨ow, ho⟩ := (H.out.keptB HB1.out).own
  have HC : Hid (CellsAt w1 y.g k.size k.cell) := (ho i y k HY.out HYK.out).cells
  unfold ryS at e2
  rw [HYK.out] at e2
  simp only [] at e2
  clear hb1 c a0 a1 a2 HB HZ c1 e0 e1 ho
  go_wp2
  go_quiet (fail)
  go_wp2
  have hvv : v + n - v = n := by omega
  rw [hvv]
  have HB2 : Hid (Below w1.heap.size w1 (w1.drewN nq)) := ⟨rfl, rfl, rfl, Nat.le_refl _, fun _ _ => rfl⟩
  have HI0 : Hid (LdI w1 k v 0 none 0 (w1.drewN nq)) := ⟨World.ownsRow_nil _ _ _ _, HB2.out⟩
  clear c0 e2 k1 k2 hvv HB2
  have hgy : y.g < w1.heap.size := HC.out.lt
  go_loopw [11, 12, 13] (fun q_ pr_ i_ wr => ∃ (j : Nat) (q : Option Addr) (cap : Nat), i_ = .int .i64 j ∧ j ≤ n ∧ q_ = .slice q (bn k v j) cap ∧ pr_ = .bool (pj k v j) ∧ Hid (LdI w1 k v j q cap wr)) (fun _ _ i_ _ => n - (intOf i_).toNat)
  case atStart => exact ⟨0, none, 0, rfl, Nat.zero_le _, rfl, rfl, HI0⟩
  case round =>
    obtain ⟨j, q, cap, rfl, hj, rfl, rfl, HI⟩ := hrel
    have fc : CellsAt wr y.g k.size k.cell := HC.out.kept (Turned.of_below HI.out.2 (fun _ => False)) (fun h => h)
    obtain ⟨f0, f1, f2, f3⟩ := fc.cell (i := v) (by omega)
    have hsw : w1.heap.size ≤ wr.heap.size := HI.out.2.size
    have hbl := bn_le k v j
    by_cases hlt : j < n
    · obtain ⟨d0, d1, d2, d3⟩ := fc.cell (i := v + j) (by omega)
      rw [Nat.add_mul] at d0 d1 d2 d3
      have HBN : Hid (∀ c, c = k.cell (v + j) → bn k v (j + 1) = if c.kind = 1 then bn k v j + 1 else bn k v j) := fun c hc => by rw [hc]; rfl
      have HBL : Hid (∀ c, c = k.cell (v + j) → bl k v (j + 1) = if c.kind = 1 then bl k v j ++ [.int .u8 (c.v % 256)] else bl k v j) := fun c hc => by rw [hc]; rfl
      have HPJ : Hid (∀ c z, c = k.cell (v + j) → z = k.cell v → pj k v (j + 1) = (pj k v j && sameC c ⟨2, z.v, z.block, j⟩)) := fun c z hc hz => by rw [hc, hz]; rfl
      obtain ⟨c, hc⟩ : ∃ c, c = k.cell (v + j) := ⟨_, rfl⟩
      obtain ⟨z, hz⟩ : ∃ z, z = k.cell v := ⟨_, rfl⟩
      rw [← hc] at d0 d1 d2 d3
      rw [← hz] at f0 f1 f2 f3
      have hbn := HBN.out c hc
      have hbL := HBL.out c hc
      have hpj := HPJ.out c z hc hz
      obtain ⟨m, hm⟩ : ∃ m, m = bn k v j := ⟨_, rfl⟩
      obtain ⟨b0, hb0⟩ : ∃ b0, b0 = pj k v j := ⟨_, rfl⟩
      have hI1 := HI.out.1
      rw [← hm] at hbn hI1 hbl ⊢
      rw [← hb0] at hpj ⊢
      have HO : Hid (wr.ownsRow w1.heap.size 5 1 (.slice q m cap) m (bl k v j)) := hI1
      have HW : Hid (Below w1.heap.size w1 wr) := HI.out.2
      have HBN1 : Hid (bn k v (j + 1) = if c.kind = 1 then m + 1 else m) := hbn
      have HBL1 : Hid (bl k v (j + 1) = if c.kind = 1 then bl k v j ++ [.int .u8 (c.v % 256)] else bl k v j) := hbL
      have HPJ1 : Hid (pj k v (j + 1) = (b0 && sameC c ⟨2, z.v, z.block, j⟩)) := hpj
      clear hbn hbL hpj HBN HBL HPJ hc hz hm hb0 hI1 HI fc
      by_cases hk1 : c.kind = 1
      · have hkb : (c.kind == 1) = true := by simpa using hk1
        have hkb2 : (c.kind == 2) = false := by simp; omega
        have HK1 : Hid (c.kind = 1) := hk1
        have HN1 : Hid (bn k v (j + 1) = m + 1) := by show _ = _; rw [HBN1.out, if_pos hk1]
        have HN2 : Hid (bl k v (j + 1) = bl k v j ++ [.int .u8 (c.v % 256)]) := by show _ = _; rw [HBL1.out, if_pos hk1]
        have HN3 : Hid (pj k v (j + 1) = false) := by show _ = _; rw [HPJ1.out]; unfold sameC; rw [hkb2]; simp
        clear hk1 HBN1 HBL1 HPJ1
        have HO1 : Hid (World.ownsRow (wr.alloc (.cells #[.int .u8 (c.v % 256)] 5)) w1.heap.size 5 1 (.slice q m cap) m (bl k v j)) := HO.out.alloc _
        go_wp2_with (at_builtin; go_must (refine wpList_append_own_at _ rfl (.tmp 54) (.tmp 61) 112 rfl w1.heap.size 5 i0 _ 1 1 Try.underlying112 hi0 hz0 hz1 hz2 rfl (by decide) (.slice q m cap) m _ rfl HO1.out ⟨wr.heap.size, 0, none⟩ 1 1 _ rfl rfl (cells_new _ _ _) (by simp [Value.oneCell']) (by unfold maxLen; omega) (by omega) (by simp; omega) ?_); intro v' w' hown hgrow hnil hat; obtain ⟨p', cap', rfl⟩ := slice_of_own hown; have HO2 : Hid (w'.ownsRow w1.heap.size 5 1 (.slice p' (m + 1) cap') (m + 1) (bl k v j ++ [.int .u8 (c.v % 256)])) := hown; have HB2 : Hid (Below w1.heap.size w1 w') := (HW.out.alloc hsw _).grown hgrow (by simp; omega) (own_base HO1.out); clear hown hgrow hnil hat)
        have g0 : w'.cell? ⟨y.g, v * 4 + j * 4, none⟩ = some (.int .i64 c.kind) := (HB2.out.cell (p := ⟨y.g, v * 4 + j * 4, none⟩) hgy).trans ((HW.out.cell (p := ⟨y.g, v * 4 + j * 4, none⟩) hgy).symm.trans d0)
        clear d0 d1 d2 d3 f0 f1 f2 f3
        cases b0
        · go_quiet (fail)
          go_wp2
          exact ⟨⟨j + 1, p', cap', by go_num, by omega, by rw [HN1.out], by rw [HN3.out], by show World.ownsRow _ _ _ _ _ _ _; rw [HN1.out, HN2.out]; exact HO2.out, HB2.out.trans ⟨rfl, rfl, rfl, Nat.le_refl _, fun _ _ => rfl⟩⟩, by simp [intOf]; omega⟩
        · go_quiet (fail)
          go_wp2
          exact ⟨⟨j + 1, p', cap', by go_num, by omega, by rw [HN1.out], by rw [HN3.out], by show World.ownsRow _ _ _ _ _ _ _; rw [HN1.out, HN2.out]; exact HO2.out, HB2.out.trans ⟨rfl, rfl, rfl, Nat.le_refl _, fun _ _ => rfl⟩⟩, by simp [intOf]; omega⟩
      · have hkb : (c.kind == 1) = false := by simpa using hk1
        have HN1 : Hid (bn k v (j + 1) = m) := by show _ = _; rw [HBN1.out, if_neg hk1]
        have HN2 : Hid (bl k v (j + 1) = bl k v j) := by show _ = _; rw [HBL1.out, if_neg hk1]
        clear hk1 HBN1 HBL1
        cases b0
        · have HN3 : Hid (pj k v (j + 1) = false) := by show _ = _; rw [HPJ1.out]; rfl
          clear HPJ1
          go_wp2
          go_quiet (fail)
          go_wp2
          exact ⟨⟨j + 1, q, cap, by go_num, by omega, by rw [HN1.out], by rw [HN3.out], by show World.ownsRow _ _ _ _ _ _ _; rw [HN1.out, HN2.out]; exact HO.out, HW.out.trans ⟨rfl, rfl, rfl, Nat.le_refl _, fun _ _ => rfl⟩⟩, by simp [intOf]; omega⟩
        · have HP2 : Hid (pj k v (j + 1) = ((c.kind == 2) && ((c.v == z.v) && ((c.block == z.block) && (c.part == (j : Int)))))) := by show _ = _; rw [HPJ1.out]; rfl
          clear HPJ1
          cases t2 : (c.kind == 2)
          · have HN3 : Hid (pj k v (j + 1) = false) := by show _ = _; rw [HP2.out, t2]; rfl
            clear HP2
            go_wp2
            go_quiet (fail)
            go_wp2
            exact ⟨⟨j + 1, q, cap, by go_num, by omega, by rw [HN1.out], by rw [HN3.out], by show World.ownsRow _ _ _ _ _ _ _; rw [HN1.out, HN2.out]; exact HO.out, HW.out.trans ⟨rfl, rfl, rfl, Nat.le_refl _, fun _ _ => rfl⟩⟩, by simp [intOf]; omega⟩
          · cases t3 : (c.part == (j : Int))
            · have HN3 : Hid (pj k v (j + 1) = false) := by show _ = _; rw [HP2.out, t3]; simp
              clear HP2
              go_wp2
              go_quiet (fail)
              go_wp2
              exact ⟨⟨j + 1, q, cap, by go_num, by omega, by rw [HN1.out], by rw [HN3.out], by show World.ownsRow _ _ _ _ _ _ _; rw [HN1.out, HN2.out]; exact HO.out, HW.out.trans ⟨rfl, rfl, rfl, Nat.le_refl _, fun _ _ => rfl⟩⟩, by simp [intOf]; omega⟩
            · cases t4 : (c.v == z.v)
              · have HN3 : Hid (pj k v (j + 1) = false) := by show _ = _; rw [HP2.out, t4]; simp
                clear HP2
                go_wp2
                go_quiet (fail)
                go_wp2
                exact ⟨⟨j + 1, q, cap, by go_num, by omega, by rw [HN1.out], by rw [HN3.out], by show World.ownsRow _ _ _ _ _ _ _; rw [HN1.out, HN2.out]; exact HO.out, HW.out.trans ⟨rfl, rfl, rfl, Nat.le_refl _, fun _ _ => rfl⟩⟩, by simp [intOf]; omega⟩
              · have HN3 : Hid (pj k v (j + 1) = (c.block == z.block)) := by show _ = _; rw [HP2.out, t2, t3, t4]; simp
                clear HP2
                go_wp2
                go_quiet (fail)
                go_wp2
                exact ⟨⟨j + 1, q, cap, by go_num, by omega, by rw [HN1.out], by rw [HN3.out], by show World.ownsRow _ _ _ _ _ _ _; rw [HN1.out, HN2.out]; exact HO.out, HW.out.trans ⟨rfl, rfl, rfl, Nat.le_refl _, fun _ _ => rfl⟩⟩, by simp [intOf]; omega⟩
    · obtain rfl : j = n := by omega
      have HO : Hid (wr.ownsRow w1.heap.size 5 1 (.slice q (bn k v j) cap) (bn k v j) (bl k v j)) := HI.out.1
      have HW : Hid (Below w1.heap.size w1 wr) := HI.out.2
      have HWW : Hid (Below w.heap.size w wr) := HB1.out.trans (HW.out.mono (by omega))
      have hr1 : wr.heap[w.heap.size + 1]? = some (.cells #[.int .i64 0, .int .u32 0, .int .i64 0] TV (0, 0)) := (HW.out.block _ (by omega)).trans HZ1.out
      obtain ⟨tf, t0, t1, t2⟩ := zero_facts hr1
      clear HI fc hr1
      by_cases hbn : bn k v j = j
      · obtain ⟨_, hball⟩ := bn_all (bn_not hbn)
        rw [hball, hbn] at HO
        have HBn : Hid (bn k v j = j) := hbn
        obtain ⟨g', rfl, hgb⟩ : ∃ g, q = some ⟨g, 0, none⟩ ∧ w1.heap.size ≤ g := by
          obtain ⟨_, ⟨h1, h2⟩ | ⟨g, cap', cur, hv, hb, hg, r⟩⟩ := HO.out
          · omega
          · injection hv with e1; exact ⟨g, e1, hb⟩
        have cV := refvalue_c g' j cap s (fByte k v) wr HN.out (bytes_own HO.out) (fun t => by unfold fByte; omega)
        rw [hbn]
        have hjj : ((j : Int) == (j : Int)) = true := by simp
        generalize hev : W.ext (j : Int) s (valP (fByte k v) j) = ev at *
        have HEV : Hid (W.ext (j : Int) s (valP (fByte k v) j) = ev) := hev
        clear hev hbn hball
        go_wp2_with (go_at_call 63; refine cV.mono ?_; rintro e w' ⟨rfl, hw⟩; rw [hw]; clear hw w' cV)
        exact bodyPost_ret (v := .tuple #[.agg #[.int .i64 1, .int .u32 ev, .int .i64 0], .int .i64 0]) (by simp [results, Try.results39, go_sem, t0, t1, t2]) rfl ⟨(by repeat (first | exact HWW.out | refine Below.setCell ?_ (by simp) _)), Or.inl ⟨HBn.out, by rw [HEV.out]⟩⟩
      · have hjb : ((bn k v j : Int) == (j : Int)) = false := by simp; omega
        have HBn : Hid (¬ bn k v j = j) := hbn
        obtain ⟨m, hm⟩ : ∃ m, m = bn k v j := ⟨_, rfl⟩
        rw [← hm] at hjb ⊢
        clear hbn hm
        by_cases h4 : j = 4
        · have h4b : ((j : Int) == 4) = true := by simp; omega
          have H4 : Hid (j = 4) := h4
          cases hp : pj k v j
          · have HP : Hid (pj k v j = false) := hp
            clear hp h4
            go_wp2
            exact bodyPost_ret (v := .tuple #[.agg #[.int .i64 0, .int .u32 0, .int .i64 0], .int .i64 3]) (by simp [results, Try.results39, go_sem, t0, t1, t2]) rfl ⟨(by repeat (first | exact HWW.out | refine Below.setCell ?_ (by simp) _)), Or.inr (Or.inr ⟨HBn.out, Or.inr HP.out, rfl⟩)⟩
          · have HP : Hid (pj k v j = true) := hp
            clear hp h4
            go_wp2
            go_region
            go_wp2
            exact bodyPost_ret (v := .tuple #[.agg #[.int .i64 2, .int .u32 (k.cell v).v, .int .i64 (k.cell v).block], .int .i64 0]) (by simp [results, Try.results39, go_sem, t0, t1, t2]) rfl ⟨(by repeat (first | exact HWW.out | refine Below.drew ?_ | refine Below.setCell ?_ (by simp) _)), Or.inr (Or.inl ⟨HBn.out, H4.out, HP.out, rfl⟩)⟩
        · have h4b : ((j : Int) == 4) = false := by simp; omega
          have H4 : Hid (¬ j = 4) := h4
          clear h4
          go_wp2
          exact bodyPost_ret (v := .tuple #[.agg #[.int .i64 0, .int .u32 0, .int .i64 0], .int .i64 3]) (by simp [results, Try.results39, go_sem, t0, t1, t2]) rfl ⟨(by repeat (first | exact HWW.out | refine Below.setCell ?_ (by simp) _)), Or.inr (Or.inr ⟨HBn.out, Or.inl H4.out, rfl⟩)⟩
end
end Go.Proofs.Ytigiahcfcglacaa
