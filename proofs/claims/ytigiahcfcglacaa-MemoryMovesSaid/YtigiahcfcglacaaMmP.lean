/-
  Load: a number of bytes, a pointer of its parts.
-/
import Derived.Test.YtigiahcfcglacaaMmL
import Derived.Laws.StructEq
namespace Go.Proofs.Ytigiahcfcglacaa
open Go.RowKit Go.Maps
set_option linter.unusedVariables false
set_option maxRecDepth 100000
def sameC (x y : Cl) : Bool := x.kind == y.kind && (x.v == y.v && (x.block == y.block && x.part == y.part))
def sameV (x y : Vl) : Bool := x.kind == y.kind && (x.v == y.v && x.block == y.block)
theorem sameC_iff {x y : Cl} : sameC x y = true ↔ x = y := by
  cases x; cases y; simp [sameC]
theorem sameV_iff {x y : Vl} : sameV x y = true ↔ x = y := by
  cases x; cases y; simp [sameV]
theorem sameV_self (x : Vl) : sameV x x = true := sameV_iff.2 rfl
theorem sameC_self (x : Cl) : sameC x x = true := sameC_iff.2 rfl
theorem eqC (x y : Cl) (Y : World) : (binOp .eql TC (.agg #[.int .i64 x.kind, .int .u32 x.v, .int .i64 x.block, .int .i64 x.part]) (.agg #[.int .i64 y.kind, .int .u32 y.v, .int .i64 y.block, .int .i64 y.part])).run Try.prog Y = .ok (.bool (sameC x y)) Y := by
  have hT : Try.prog.underlying TC = some (.struct (Try.prog.fieldsOf TC)) := by kernel_rfl
  have hp : Try.prog.stoodInHeld TC = false := by kernel_rfl
  have h1 := Try.underlying23
  have h2 := Try.underlying24
  have h3 := Try.underlying3
  obtain ⟨xk, xv, xb, xp⟩ := x
  obtain ⟨yk, yv, yb, yp⟩ := y
  rw [run_eql_struct, run_equalIn_agg _ 9999 _ _ _ hT hp]
  unfold sameC
  rcases hk : (xk == yk) with _ | _ <;> rcases hv : (xv == yv) with _ | _ <;> rcases hb : (xb == yb) with _ | _ <;> rcases hq : (xp == yp) with _ | _
  all_goals simp only [Program.fieldsOf, Try.underlying43]
  all_goals go_simp
theorem neC (x y : Cl) (Y : World) : (binOp .neq TC (.agg #[.int .i64 x.kind, .int .u32 x.v, .int .i64 x.block, .int .i64 x.part]) (.agg #[.int .i64 y.kind, .int .u32 y.v, .int .i64 y.block, .int .i64 y.part])).run Try.prog Y = .ok (.bool (!sameC x y)) Y := by
  have hT : Try.prog.underlying TC = some (.struct (Try.prog.fieldsOf TC)) := by kernel_rfl
  have hp : Try.prog.stoodInHeld TC = false := by kernel_rfl
  have h1 := Try.underlying23
  have h2 := Try.underlying24
  have h3 := Try.underlying3
  obtain ⟨xk, xv, xb, xp⟩ := x
  obtain ⟨yk, yv, yb, yp⟩ := y
  rw [run_neq_struct, run_equalIn_agg _ 9999 _ _ _ hT hp]
  unfold sameC
  rcases hk : (xk == yk) with _ | _ <;> rcases hv : (xv == yv) with _ | _ <;> rcases hb : (xb == yb) with _ | _ <;> rcases hq : (xp == yp) with _ | _
  all_goals simp only [Program.fieldsOf, Try.underlying43]
  all_goals go_simp
theorem eqV (x y : Vl) (Y : World) : (binOp .eql TV (.agg #[.int .i64 x.kind, .int .u32 x.v, .int .i64 x.block]) (.agg #[.int .i64 y.kind, .int .u32 y.v, .int .i64 y.block])).run Try.prog Y = .ok (.bool (sameV x y)) Y := by
  have hT : Try.prog.underlying TV = some (.struct (Try.prog.fieldsOf TV)) := by kernel_rfl
  have hp : Try.prog.stoodInHeld TV = false := by kernel_rfl
  have h1 := Try.underlying23
  have h2 := Try.underlying24
  have h3 := Try.underlying3
  obtain ⟨xk, xv, xb⟩ := x
  obtain ⟨yk, yv, yb⟩ := y
  rw [run_eql_struct, run_equalIn_agg _ 9999 _ _ _ hT hp]
  unfold sameV
  rcases hk : (xk == yk) with _ | _ <;> rcases hv : (xv == yv) with _ | _ <;> rcases hb : (xb == yb) with _ | _
  all_goals simp only [Program.fieldsOf, Try.underlying26]
  all_goals go_simp
def valP (f : Nat → Int) (n : Nat) : Int := if n = 1 then f 0 else if n = 2 then f 0 + 256 * f 1 else f 0 + 256 * f 1 + 65536 * f 2 + 16777216 * f 3
theorem value_c (g n cap : Nat) (s : Bool) (f : Nat → Int) (w : World) (hn : n = 1 ∨ n = 2 ∨ n = 4) (hc : ∀ j, j < n → w.cell? ⟨g, j, none⟩ = some (.int .u8 (f j))) (hb : ∀ j, 0 ≤ f j ∧ f j < 256) :
    Calls Try.prog 73 #[.slice (some ⟨g, 0, none⟩) n cap, .bool s] w fun e w' => e = .returned (.tuple #[.int .u32 (W.ext n s (valP f n)), .int .i64 0]) ∧ w' = w := by
  rcases hn with rfl | rfl | rfl
  · exact W.value_1 g 0 cap s (f 0) w (hc 0 (by omega)) (hb 0)
  · exact W.value_2 g 0 cap s (f 0) (f 1) w (hc 0 (by omega)) (hc 1 (by omega)) (hb 0) (hb 1)
  · exact W.value_4 g 0 cap s (f 0) (f 1) (f 2) (f 3) w (hc 0 (by omega)) (hc 1 (by omega)) (hc 2 (by omega)) (hc 3 (by omega)) (hb 0) (hb 1) (hb 2) (hb 3)
theorem refvalue_c (g n cap : Nat) (s : Bool) (f : Nat → Int) (w : World) (hn : n = 1 ∨ n = 2 ∨ n = 4) (hc : ∀ j, j < n → w.cell? ⟨g, j, none⟩ = some (.int .u8 (f j))) (hb : ∀ j, 0 ≤ f j ∧ f j < 256) :
    Calls Try.prog 63 #[.slice (some ⟨g, 0, none⟩) n cap, .bool s] w fun e w' => e = .returned (.tuple #[.int .u32 (W.ext n s (valP f n)), .int .i64 0]) ∧ w' = w := by
  rcases hn with rfl | rfl | rfl
  · exact W.refvalue_1 g 0 cap s (f 0) w (hc 0 (by omega)) (hb 0)
  · exact W.refvalue_2 g 0 cap s (f 0) (f 1) w (hc 0 (by omega)) (hc 1 (by omega)) (hb 0) (hb 1)
  · exact W.refvalue_4 g 0 cap s (f 0) (f 1) (f 2) (f 3) w (hc 0 (by omega)) (hc 1 (by omega)) (hc 2 (by omega)) (hc 3 (by omega)) (hb 0) (hb 1) (hb 2) (hb 3)
def bytesL (f : Nat → Int) (k : Nat) : List Value := (List.range k).map (fun j => .int .u8 (f j))
theorem bytesL_succ (f : Nat → Int) (k : Nat) : bytesL f (k + 1) = bytesL f k ++ [.int .u8 (f k)] := by simp [bytesL, List.range_succ]
theorem bytes_own {w : World} {base g n cap : Nat} {f : Nat → Int} (h : w.ownsRow base 5 1 (.slice (some ⟨g, 0, none⟩) n cap) n (bytesL f n)) : ∀ j, j < n → w.cell? ⟨g, j, none⟩ = some (.int .u8 (f j)) := by
  intro j hj
  rw [h.cellAt j (by omega)]
  simp [bytesL, hj]
theorem info_u8 : (Try.prog.info? 5).map (fun i => (i.zero, i.size, i.bytes)) = some (some (.int .u8 0), 1, 1) := by kernel_rfl
def fByte (bk : Bk) (first j : Nat) : Int := (bk.cell (first + j)).v % 256
theorem zeroV_box : ∀ (W : World), (Instr.build TV #[]).run Try.prog W = .ok (.agg #[.int .i64 0, .int .u32 0, .int .i64 0]) W := fun W => by kernel_rfl
/-- The number's loop, up to k bytes. -/
def NumI (w : World) (x : Bx) (first n k : Nat) (q : Option Addr) (cap : Nat) (wr : World) : Prop :=
  wr.ownsRow (w.heap.size + 1) 5 1 (.slice q k cap) k (bytesL (fByte x.bk first) k) ∧ Below (w.heap.size + 1) (w.alloc (.cells #[.int .i64 0, .int .u32 0, .int .i64 0] TV)) wr
set_option maxHeartbeats 2000000 in
theorem number_any {w : World} {x : Bx} (h : BlkAt w x) (first n : Nat) (s : Bool) (hn : n = 1 ∨ n = 2 ∨ n = 4) (hf : first + n ≤ x.bk.size) :
    Calls Try.prog 49 #[.pointer (some ⟨x.bb, 0, none⟩), .int .i64 first, .int .i64 n, .bool s] w fun e w' => Below w.heap.size w w' ∧
      (((∀ j, j < n → (x.bk.cell (first + j)).kind = 1) ∧ e = .returned (.tuple #[.agg #[.int .i64 1, .int .u32 (W.ext n s (valP (fByte x.bk first) n)), .int .i64 0], .bool true])) ∨
       ((∃ j, j < n ∧ ¬ (x.bk.cell (first + j)).kind = 1) ∧ e = .returned (.tuple #[.agg #[.int .i64 0, .int .u32 0, .int .i64 0], .bool false]))) := by
  obtain ⟨i0, hi, hz0, hz1, hz2⟩ := info_parts info_u8
  have hB : Below w.heap.size w (w.alloc (.cells #[.int .i64 0, .int .u32 0, .int .i64 0] TV)) := (Below.refl _ w).alloc (Nat.le_refl _) _
  obtain ⟨w0, mk, mo, mg⟩ := run_make_own (P := Try.prog) (w.alloc (.cells #[.int .i64 0, .int .u32 0, .int .i64 0] TV)) (w.alloc (.cells #[.int .i64 0, .int .u32 0, .int .i64 0] TV)).heap.size 112 5 i0 _ 1 Try.underlying112 hi hz0 hz1 .i64 .i64 n (by rw [hz2]; omega) (by unfold maxLen; omega) (Nat.le_refl _)
  have hsz : (w.alloc (.cells #[.int .i64 0, .int .u32 0, .int .i64 0] TV)).heap.size = w.heap.size + 1 := by simp
  have hB1 : Below (w.alloc (.cells #[.int .i64 0, .int .u32 0, .int .i64 0] TV)).heap.size (w.alloc (.cells #[.int .i64 0, .int .u32 0, .int .i64 0] TV)) w0 := (Below.refl _ _).grown mg (Nat.le_refl _) (fun k hk => by cases hk)
  rw [hsz] at mk mo hB1
  have MO : Hid (NumI w x first n 0 (some ⟨w.heap.size + 1, 0, none⟩) n w0) := ⟨mo, hB1⟩
  have hbz := zeroV_box
  have HN : Hid (n = 1 ∨ n = 2 ∨ n = 4) := hn
  have hn1 : 1 ≤ n := by omega
  have hn4 : n ≤ 4 := by omega
  have hmx := h.max
  have H : Hid (BlkAt w x) := h
  have cN := fun (v : Int) Y => numberOf_c v Y
  have HBW : Hid (∀ Y, Below (w.heap.size + 1) (w.alloc (.cells #[.int .i64 0, .int .u32 0, .int .i64 0] TV)) Y → Below w.heap.size w Y) := fun Y hY => hB.trans (hY.mono (by omega))
  clear h hn mo mg hB hB1
  go_enter Try.func49, Try.ntmps49
  go_wp2
  clear mk
  go_loopw [10, 18] (fun v i wr => ∃ (k : Nat) (q : Option Addr) (cap : Nat), i = .int .i64 k ∧ k ≤ n ∧ v = .slice q k cap ∧ Hid (∀ j, j < k → (x.bk.cell (first + j)).kind = 1) ∧ Hid (NumI w x first n k q cap wr)) (fun _ i _ => n - (intOf i).toNat)
  case atStart => exact ⟨0, _, _, rfl, Nat.zero_le _, rfl, fun j hj => by omega, MO⟩
  case round =>
    obtain ⟨k, q, cap, rfl, hk, rfl, HK, HI⟩ := hrel
    have hwr : w.heap.size + 1 ≤ wr.heap.size := by have := HI.out.2.size; omega
    have HBr : Hid (Below w.heap.size w wr) := HBW.out _ HI.out.2
    have hr0 : wr.heap[w.heap.size]? = some (.cells #[.int .i64 0, .int .u32 0, .int .i64 0] TV (0, 0)) := (HI.out.2.block w.heap.size (by omega)).trans (heap_r0 w _)
    have HR0 : Hid (wr.heap[w.heap.size]? = some (.cells #[.int .i64 0, .int .u32 0, .int .i64 0] TV (0, 0))) := hr0
    clear hr0
    by_cases hlt : k < n
    · have ca := at_c (H.out.keptB HBr.out) (first + k) (by omega)
      rw [show ((first + k : Nat) : Int) = (first : Int) + (k : Int) by omega] at ca
      have HS : Hid (bytesL (fByte x.bk first) (k + 1) = bytesL (fByte x.bk first) k ++ [.int .u8 ((x.bk.cell (first + k)).v % 256)]) := bytesL_succ _ _
      have HKn : Hid (∀ c, c = x.bk.cell (first + k) → c.kind = 1 → ∀ j, j < k + 1 → (x.bk.cell (first + j)).kind = 1) := by
        intro c hc h1 j hj
        by_cases e : j < k
        · exact HK.out j e
        · obtain rfl : j = k := by omega
          rw [← hc]; exact h1
      have HE : Hid (first + k < x.bk.size) := (by show _ < _; omega)
      obtain ⟨c, hc⟩ : ∃ c, c = x.bk.cell (first + k) := ⟨_, rfl⟩
      rw [← hc] at ca HS
      have HC : Hid (c = x.bk.cell (first + k)) := hc
      clear hc
      by_cases hk1 : c.kind = 1
      · have hkb : (c.kind != 1) = false := by simpa using hk1
        have HK1 : Hid (c.kind = 1) := hk1
        clear hk1
        go_wp2_with (first | (go_at_call 35; refine ca.mono ?_; rintro e w1 ⟨rfl, hb1⟩; have HB1 : Hid (Below (w.heap.size + 1) (w.alloc (.cells #[.int .i64 0, .int .u32 0, .int .i64 0] TV)) w1) := HI.out.2.trans (hb1.mono hwr); have HO1 : Hid (World.ownsRow ((w1.alloc (.cells #[.int .i64 c.kind, .int .u32 c.v, .int .i64 c.block, .int .i64 c.part] TC)).alloc (.cells #[.int .u8 (c.v % 256)] 5)) (w.heap.size + 1) 5 1 (.slice q k cap) k (bytesL (fByte x.bk first) k)) := ((ownsRow_below HI.out.1 hb1).alloc _).alloc _; have hs1 : w.heap.size + 1 ≤ w1.heap.size := Nat.le_trans hwr hb1.size; clear hb1 ca) | (at_builtin; go_must (refine wpList_append_own_at _ rfl (.tmp 30) (.tmp 34) 112 rfl (w.heap.size + 1) 5 i0 _ 1 1 Try.underlying112 hi hz0 hz1 hz2 rfl (by decide) (.slice q k cap) k _ rfl HO1.out ⟨w1.heap.size + 1, 0, none⟩ 1 1 _ rfl rfl (by rw [show w1.heap.size + 1 = (w1.alloc (.cells #[.int .i64 c.kind, .int .u32 c.v, .int .i64 c.block, .int .i64 c.part] TC)).heap.size by simp]; exact cells_new _ _ _) (by simp [Value.oneCell']) (by unfold maxLen; omega) (by omega) (by simp; omega) ?_); intro v' w' hown hgrow hnil hat; obtain ⟨p', cap', rfl⟩ := slice_of_own hown; have HO2 : Hid (w'.ownsRow (w.heap.size + 1) 5 1 (.slice p' (k + 1) cap') (k + 1) (bytesL (fByte x.bk first) k ++ [.int .u8 (c.v % 256)])) := hown; have HB2 : Hid (Below (w.heap.size + 1) (w.alloc (.cells #[.int .i64 0, .int .u32 0, .int .i64 0] TV)) w') := ((HB1.out.alloc hs1 _).alloc (by simp; omega) _).grown hgrow (by simp; omega) (own_base HO1.out); clear hown hgrow hnil hat))
        refine ⟨⟨k + 1, p', cap', by go_num, by omega, rfl, HKn.out c HC.out HK1.out, ?_, HB2.out⟩, by simp [intOf]; omega⟩
        show World.ownsRow _ _ _ _ _ _ _
        rw [HS.out]; exact HO2.out
      · have hkb : (c.kind != 1) = true := by simpa using hk1
        have HK1 : Hid (¬ c.kind = 1) := hk1
        clear hk1
        have hwl : w.heap.size < wr.heap.size := by omega
        go_wp2_with (go_at_call 35; refine ca.mono ?_; rintro e w1 ⟨rfl, hb1⟩; have HB1 : Hid (Below w.heap.size w w1) := HBr.out.trans (hb1.mono HBr.out.size); have hr1 := (hb1.block w.heap.size hwl).trans HR0.out; have tf := frozen_of hr1; have t0 : w1.cell? ⟨w.heap.size, 0, none⟩ = some (.int .i64 0) := (Lib.cell_of_heap hr1 0).trans rfl; have t1 : w1.cell? ⟨w.heap.size, 1, none⟩ = some (.int .u32 0) := (Lib.cell_of_heap hr1 1).trans rfl; have t2 : w1.cell? ⟨w.heap.size, 2, none⟩ = some (.int .i64 0) := (Lib.cell_of_heap hr1 2).trans rfl; have hl1 : w.heap.size < w1.heap.size := World.block_lt_of_cell? w1 _ t0; clear hb1 ca hr1)
        exact bodyPost_ret (v := .tuple #[.agg #[.int .i64 0, .int .u32 0, .int .i64 0], .bool false]) (by simp [results, Try.results49, go_sem, t0, t1, t2, hl1]) rfl ⟨(by repeat (first | exact HB1.out | refine Below.setCell ?_ (by simp) _ | refine Below.alloc ?_ (by have := HB1.out.size; simp; omega) _)), Or.inr ⟨⟨k, hlt, by rw [← HC.out]; exact HK1.out⟩, rfl⟩⟩
    · obtain rfl : k = n := by omega
      obtain ⟨g, rfl, hgb⟩ : ∃ g, q = some ⟨g, 0, none⟩ ∧ w.heap.size + 1 ≤ g := by
        obtain ⟨_, ⟨h1, h2⟩ | ⟨g, cap', cur, hv, hb, hg, r⟩⟩ := HI.out.1
        · omega
        · injection hv with e1; exact ⟨g, e1, hb⟩
      have cV := value_c g k cap s (fByte x.bk first) wr HN.out (bytes_own HI.out.1) (fun j => by unfold fByte; omega)
      generalize hev : W.ext (k : Int) s (valP (fByte x.bk first) k) = ev at *
      have HEV : Hid (W.ext (k : Int) s (valP (fByte x.bk first) k) = ev) := hev
      clear hev
      go_wp2_with (first | (go_at_call 73; refine cV.mono ?_; rintro e w' ⟨rfl, hw⟩; rw [hw]; clear hw w' cV) | (go_at_call 53; refine (cN _ _).mono ?_; rintro e w1 ⟨rfl, hb1⟩; have HB1 : Hid (Below w.heap.size w w1) := HBr.out.trans (hb1.mono HBr.out.size); have hr1 := (hb1.block w.heap.size (by omega)).trans HR0.out; have tf := frozen_of hr1; have t0 : w1.cell? ⟨w.heap.size, 0, none⟩ = some (.int .i64 0) := (Lib.cell_of_heap hr1 0).trans rfl; have t1 : w1.cell? ⟨w.heap.size, 1, none⟩ = some (.int .u32 0) := (Lib.cell_of_heap hr1 1).trans rfl; have t2 : w1.cell? ⟨w.heap.size, 2, none⟩ = some (.int .i64 0) := (Lib.cell_of_heap hr1 2).trans rfl; have hl1 : w.heap.size < w1.heap.size := World.block_lt_of_cell? w1 _ t0; clear hb1 cN hr1))
      exact bodyPost_ret (v := .tuple #[.agg #[.int .i64 1, .int .u32 ev, .int .i64 0], .bool true]) (by simp [results, Try.results49, go_sem, t0, t1, t2]) rfl ⟨(by repeat (first | exact HB1.out | refine Below.setCell ?_ (by simp) _ | refine Below.alloc ?_ (by have := HB1.out.size; simp; omega) _)), Or.inl ⟨HK.out, by rw [HEV.out]⟩⟩
end Go.Proofs.Ytigiahcfcglacaa
