/-
  setBits: the bits of bytes; bits set in a block of bytes.
  bytes.Repeat of one byte or more, once or more.
-/
import Derived.Test.YtlcghlfmaohfeaaGreatHCopyRows
import Derived.Test.YtlcghlfmaohfeaaGreatShelf
import Derived.Lib.SlBuf
import Derived.Lib.MakeNoZero
import Derived.Lib.RepeatB
import Derived.Deep.LoopGhost
import Derived.WalkKit
import Derived.Deep.CutRange
import Derived.Deep.DeepCutAuto
import Derived.Deep.CutBlock
import Derived.Laws.Externs
import Derived.Laws.BitsAllLaws
namespace Go.Proofs.YtlcghlfmaohfeaaGreat
open Go.RowKit Go.Maps
set_option linter.unusedVariables false
set_option maxRecDepth 100000
abbrev TBy : TypeId := 103
theorem run_slice_head {P : Program} (W : World) (t e : TypeId) (ht : P.underlying t = some (.slice e)) (hz : ∀ w, (Go.sizeOf e).run P w = .ok 1 w) (h N k : Nat) (hk : k ≤ N) :
    (Instr.slice t (.slice (some ⟨h, 0, none⟩) N N) none (some (.int .i64 (k : Int))) none).run P W = .ok (.slice (some ⟨h, 0, none⟩) k N) W := by
  have ht' : P.underlying t = some (.slice (P.elem t)) := by simp [Program.elem, ht]
  have he : P.elem t = e := by simp [Program.elem, ht]
  rw [run_slice_h W t _ _ _ ht' .i64 _ (by omega) (by omega), he, hz]
  simp [Result.andThen, sliced, Addr.add]
theorem below_turned {w w1 w2 : World} {g : Nat} (h : Below w.heap.size w w1) (ht : Turned w1 w2 (fun j => j = g)) (hg : w.heap.size ≤ g := by first | exact Nat.le_refl _ | omega) : Below w.heap.size w w2 :=
  ⟨ht.os.trans h.os, ht.tape.trans h.tape, ht.output.trans h.output, Nat.le_trans h.size ht.size, fun k hk => (ht.block k (Nat.lt_of_lt_of_le hk h.size) (by omega)).trans (h.block k hk)⟩
/-- Bytes as cells. -/
abbrev byC (l : List UInt8) : List Value := l.map fun x => Value.int .u8 (x.toNat : Int)
/-- A block whose first cells are these bytes. -/
def ByB (w : World) (g : Nat) (N : Nat) (l : List UInt8) : Prop := ∃ cur : Array Value, w.heap[g]? = some (.cells cur 5 (0, 0)) ∧ N ≤ cur.size ∧ l.length ≤ N ∧ cur.toList.take l.length = byC l
theorem ByB.lt {w : World} {g N : Nat} {l : List UInt8} (h : ByB w g N l) : g < w.heap.size := by
  obtain ⟨_, h, _⟩ := h; exact lt_of_heap h
theorem ByB.turned {w w' : World} {g N : Nat} {l : List UInt8} {S : Nat → Prop} (h : ByB w g N l) (ht : Turned w w' S) (hS : ¬ S g) : ByB w' g N l := by
  obtain ⟨cur, h1, h2⟩ := h; exact ⟨cur, (ht.block g (lt_of_heap h1) hS).trans h1, h2⟩
theorem ByB.cell {w : World} {g N : Nat} {l : List UInt8} (h : ByB w g N l) {j : Nat} {x : UInt8} (hx : l[j]? = some x) : w.cell? ⟨g, j, none⟩ = some (.int .u8 (x.toNat : Int)) := by
  obtain ⟨cur, h1, h2, h3, h4⟩ := h
  rw [Lib.cell_of_heap h1]
  have hj : j < l.length := (List.getElem?_eq_some_iff.1 hx).1
  have e : (cur.toList.take l.length)[j]? = (byC l)[j]? := by rw [h4]
  rw [List.getElem?_take_of_lt hj, Array.getElem?_toList] at e
  rw [e]; simp [byC, hx]
theorem ByB.frozen {w : World} {g N : Nat} {l : List UInt8} (h : ByB w g N l) (j : Nat) : w.frozen? ⟨g, j, none⟩ = false := by
  obtain ⟨cur, h1, _⟩ := h
  simp [World.frozen?, h1]
theorem ByB.there {w : World} {g N : Nat} {l : List UInt8} (h : ByB w g N l) {j : Nat} (hj : j < N) : (w.cell? ⟨g, j, none⟩).isSome = true := by
  obtain ⟨cur, h1, h2, _⟩ := h
  rw [Lib.cell_of_heap h1, Array.getElem?_eq_getElem (by omega)]; rfl
/-- 'copy(b[bp:], s)' into it. -/
theorem copy_by {P : Program} (wr : World) (h N k cap : Nat) (a : Addr) (acc l : List UInt8) (t ty e : TypeId) (hu : P.underlying t = some (.slice e)) (hs : (P.info? e).map (·.size) = some 1)
    (hb : ByB wr h N acc) (hsrc : ∀ j x, l[j]? = some x → wr.cell? (a.add j) = some (.int .u8 (x.toNat : Int))) (hk : l.length = Nat.min k (N - acc.length)) (hN : acc.length < N) :
    ∃ wr', (Builtin.copy_ #[t, t] ty #[Lib.tailV h N acc.length, .slice (some a) k cap]).run P wr = .ok (.int .i64 (l.length : Int)) wr' ∧ ByB wr' h N (acc ++ l) ∧ Turned wr wr' (fun j => j = h) := by
  have hne : ¬ N = acc.length := by omega
  have hmin2 : l.length ≤ N - acc.length := by rw [hk]; exact Nat.min_le_right _ _
  have hr := run_copy_cells (P := P) wr t t ty e h acc.length (N - acc.length) (N - acc.length) a k cap (byC l) hu hs (by rw [List.length_map]; exact hk)
    (fun j u hj => by
      rw [List.getElem?_map] at hj
      obtain ⟨x, hx, rfl⟩ := Option.map_eq_some_iff.1 hj
      exact hsrc j x hx)
    (fun j hj => by rw [List.length_map] at hj; exact hb.there (by omega)) (fun j hj => hb.frozen _)
    (fun u hu' => by obtain ⟨x, _, rfl⟩ := List.mem_map.1 hu'; rfl)
  rw [List.length_map] at hr
  refine ⟨_, by unfold Lib.tailV; rw [if_neg hne]; exact hr, ?_, Turned.setCells h _ _ _ rfl⟩
  obtain ⟨cur, h1, h2, h3, h4⟩ := hb
  obtain ⟨cur', r1, r2⟩ := heap_setCells h (byC l) acc.length wr cur _ _ h1 (by rw [List.length_map]; omega)
  have hlen := congrArg List.length r2
  simp only [List.length_append, List.length_take, List.length_drop, List.length_map, Array.length_toList] at hlen
  refine ⟨cur', r1, by omega, by rw [List.length_append]; omega, ?_⟩
  have hle : acc.length ≤ cur.size := by omega
  rw [r2, h4, List.length_append, List.take_append_of_le_length (by simp), List.take_of_length_le (by simp)]
  simp [byC]
theorem by_drew {wr : World} {h N : Nat} {acc : List UInt8} (hb : ByB wr h N acc) : ByB wr.drew h N acc := hb
set_option maxHeartbeats 8000000 in
theorem repeat_c (l : List UInt8) (c : Nat) (a : Addr) (cap : Nat) (w : World) (hv : ∀ j x, l[j]? = some x → w.cell? (a.add j) = some (.int .u8 (x.toNat : Int))) (h1 : 1 ≤ l.length) (hc1 : 1 ≤ c) (hn0 : l.length * c ≤ 1000000000) :
    Calls Tryz.prog 91 #[.slice (some a) l.length cap, .int .i64 c] w fun e w' => e = .returned (.slice (some ⟨w.heap.size, 0, none⟩) (l.length * c) (l.length * c)) ∧ ByB w' w.heap.size (l.length * c) (Lib.repeatL l c) ∧ Below w.heap.size w w' := by
  have HV : Hid (∀ j x, l[j]? = some x → w.cell? (a.add j) = some (.int .u8 (x.toNat : Int))) := hv
  clear hv
  have hc9 : c ≤ 1000000000 := Nat.le_trans (Nat.le_mul_of_pos_left _ (by omega)) hn0
  have hl9 : l.length ≤ 1000000000 := Nat.le_trans (Nat.le_mul_of_pos_right _ (by omega)) hn0
  have hMul := Tryz.bits_Mul l.length c (by omega) (by omega) w
  rw [Nat.div_eq_of_lt (by omega : l.length * c < 18446744073709551616), Nat.mod_eq_of_lt (by omega : l.length * c < 18446744073709551616)] at hMul
  obtain ⟨d, hd⟩ : ∃ d, l.length = d := ⟨_, rfl⟩
  have HD : Hid (l.length = d) := hd
  obtain ⟨n, hn⟩ : ∃ n, d * c = n := ⟨_, rfl⟩
  have HN : Hid (d * c = n) := hn
  rw [hd] at hMul hn0 h1 hl9 ⊢
  rw [hn] at hMul hn0 ⊢
  have hdn : d ≤ n := by rw [← hn]; exact Nat.le_mul_of_pos_right _ (by omega)
  have hq8 : wrap64 (8192 / (d : Int) * (d : Int)) = ((8192 / d * d : Nat) : Int) := by
    have e : (8192 : Int) / (d : Int) * (d : Int) = ((8192 / d * d : Nat) : Int) := by
      rw [Int.natCast_mul, Int.natCast_ediv]
      rfl
    have hle : 8192 / d * d ≤ 8192 := Nat.div_mul_le_self 8192 d
    rw [e]
    unfold wrap64
    omega
  obtain ⟨cs, hrunM, hle, _⟩ := Lib.run_makeNoZero (P := Tryz.prog) w #[3] TBy 5 Tryz.underlying103 n (by omega)
  have hcall : (callFunc 109 #[.int .i64 (n : Int)]).run Tryz.prog w = .ok (.value (.slice (some ⟨w.heap.size, 0, none⟩) n cs.size)) ((w.alloc (.cells cs 5)).drewN 2) := by
    rw [run_callFunc_extern Tryz.func109 (by kernel_rfl) (by kernel_rfl) (by kernel_rfl) (e := Extern.BytealgMakeNoZero.makeNoZero #[3] #[TBy]) (by kernel_rfl), hrunM]
    rfl
  clear hrunM
  have i0 : (0 : Int) ≤ (n : Int) := by omega
  have i1 : (n : Int) ≤ (cs.size : Int) := by omega
  have B0 : ByB ((w.alloc (.cells cs 5)).drewN 2) w.heap.size n [] := ⟨cs, heap_r0 w _, hle, Nat.zero_le _, by simp [byC]⟩
  have hB0 : Below w.heap.size w ((w.alloc (.cells cs 5)).drewN 2) := ⟨rfl, rfl, rfl, by simp, fun k hk => heap_alloc_old w _ hk⟩
  have hz5 : ∀ w, (Go.sizeOf 5).run Tryz.prog w = .ok 1 w := fun w => by kernel_rfl
  have hs5 : (Tryz.prog.info? 5).map (·.size) = some 1 := by kernel_rfl
  obtain ⟨w1, hr1, B1, t1⟩ := copy_by (P := Tryz.prog) _ w.heap.size n l.length cap a [] l TBy 3 5 Tryz.underlying103 hs5 B0 (fun j x hx => Lib.Below.cellOf hB0 (HV.out j x hx) (Nat.le_refl _)) (by simp only [List.length_nil, Nat.sub_zero]; show _ = min _ _; omega) (by simp only [List.length_nil]; omega)
  rw [List.length_nil, Lib.tailV_zero, hd] at hr1
  rw [List.nil_append] at B1
  have HB1 : Hid (ByB w1 w.heap.size n l) := B1
  have HT1 : Hid (Below w.heap.size w w1) := below_turned hB0 t1
  clear B1 B0 hB0 t1 hn hd
  go_enter Tryz.func91, Tryz.ntmps91
  go_upto_if 42 with (go_at_call 108; refine hMul.mono ?_; rintro e w' ⟨rfl, hw⟩; rw [hw])
  clear hMul
  go_cut [8] (fun s8 wx => w = wx ∧ ∃ m : Nat, 1 ≤ m ∧ s8 = .int .i64 ((m * d : Nat) : Int))
  case first =>
    go_wp2
    · go_meet
      exact ⟨rfl, 1, Nat.le_refl _, by rw [Nat.one_mul]⟩
    · go_meet
      refine ⟨rfl, 8192 / d, ?_, by rw [hq8]⟩
      rcases Nat.eq_zero_or_pos (8192 / d) with hz | hz
      · rename_i hne
        have e0 : (8192 : Int) / (d : Int) = ((8192 / d : Nat) : Int) := by rw [Int.natCast_ediv]; rfl
        first | rw [hq8, hz] at hne | rw [e0, hz] at hne
        simp at hne
      · exact hz
    · go_meet
      exact ⟨rfl, c, by omega, by rw [Nat.mul_comm, HN.out]⟩
  case rest =>
    obtain ⟨rfl, m, hm1, rfl⟩ := hcut
    clear hq8
    obtain ⟨CM, hCM⟩ : ∃ CM, m * d = CM := ⟨_, rfl⟩
    rw [hCM]
    have HCM : Hid (m * d = CM) := hCM
    clear hCM
    go_wp2_with (at_builtin; refine Lib.wpList_copy_run _ rfl _ _ TBy TBy rfl _ _ rfl rfl hr1 ?_)
    have HR0 : Hid (ByB w1 w.heap.size n (Lib.repeatL l 1)) := by rw [Lib.repeatL_one]; exact HB1
    clear hr1 hcall HB1
    go_loopg [10] (c - 1) (fun g s10 wx => ∃ q : Nat, 1 ≤ q ∧ q + g = c ∧ s10 = .int .i64 ((q * d : Nat) : Int) ∧ Hid (ByB wx w.heap.size n (Lib.repeatL l q)) ∧ Hid (Below w.heap.size w wx))
    case atStart => exact ⟨1, Nat.le_refl _, by omega, by rw [Nat.one_mul], HR0, HT1⟩
    case round =>
      obtain ⟨q, hq1, hqg, rfl, HB, HT⟩ := hrel
      obtain ⟨Q, hQ⟩ : ∃ Q, q * d = Q := ⟨_, rfl⟩
      have HQ : Hid (q * d = Q) := hQ
      rw [hQ]
      have hlq : (Lib.repeatL l q).length = Q := by rw [Lib.repeatL_length, HD.out, hQ]
      have hnc : c * d = n := by rw [Nat.mul_comm]; exact HN.out
      cases gk with
      | zero =>
        obtain rfl : q = c := by omega
        have hQn : ¬ ((Q : Int) < (n : Int)) := by omega
        go_wp2
        go_ret
        exact ⟨rfl, HB.out, HT.out⟩
      | succ g =>
        have hqc : q < c := by omega
        obtain ⟨k, hk1, hkq, hkc, hmin⟩ := Lib.chunk_ok c q m d hq1 hqc hm1
        rw [hnc, hQ, HCM.out] at hmin
        obtain ⟨CH, hCH⟩ : ∃ CH, k * d = CH := ⟨_, rfl⟩
        rw [hCH] at hmin
        have hQn : (Q : Int) < (n : Int) := by
          have h1 : (q + 1) * d ≤ c * d := Nat.mul_le_mul_right _ hqc
          rw [Nat.succ_mul, hQ, hnc] at h1
          omega
        obtain ⟨C, hC⟩ : ∃ C, min Q CM = C := ⟨_, rfl⟩
        have hmin2 : ∀ (ts : Array TypeId) (t : TypeId) (W : World), (Builtin.min_ ts t #[.int .i64 (Q : Int), .int .i64 (CM : Int)]).run Tryz.prog W = .ok (.int .i64 (C : Int)) W := fun ts t W => by
          rw [run_min_int2]
          congr 2
          split <;> omega
        have hCQ : C ≤ Q := by omega
        have hsl1 : ∀ W, (Instr.slice TBy (.slice (some ⟨w.heap.size, 0, none⟩) n n) (some (.int .i64 (Q : Int))) none none).run Tryz.prog W = .ok (Lib.tailV w.heap.size n Q) W := fun W => Lib.run_slice_tailV W TBy 5 Tryz.underlying103 hz5 _ n Q (by omega)
        have hsl2 : ∀ W, (Instr.slice TBy (.slice (some ⟨w.heap.size, 0, none⟩) n n) none (some (.int .i64 (C : Int))) none).run Tryz.prog W = .ok (.slice (some ⟨w.heap.size, 0, none⟩) C n) W := fun W => run_slice_head W TBy 5 Tryz.underlying103 hz5 _ n C (by omega)
        have hkl : (Lib.repeatL l k).length = CH := by rw [Lib.repeatL_length, HD.out, hCH]
        obtain ⟨w2, hr2, B2, t2⟩ := copy_by (P := Tryz.prog) wr.drew w.heap.size n C n ⟨w.heap.size, 0, none⟩ (Lib.repeatL l q) (Lib.repeatL l k) TBy 3 5 Tryz.underlying103 hs5 (by_drew HB.out)
          (fun j x hx => by
            rw [show (⟨w.heap.size, 0, none⟩ : Addr).add j = ⟨w.heap.size, j, none⟩ by unfold Addr.add; split <;> simp_all]
            have hj : j < (Lib.repeatL l k).length := (List.getElem?_eq_some_iff.1 hx).1
            refine (by_drew HB.out).cell ?_
            rw [← Lib.repeatL_take l q k hkq, List.getElem?_take_of_lt (by rw [← Lib.repeatL_length]; exact hj)] at hx
            exact hx) (by rw [hkl, hlq]; show CH = min C (n - Q); omega) (by omega)
        rw [hlq, hkl] at hr2
        have HB2 : Hid (ByB w2 w.heap.size n (Lib.repeatL l (q + k))) := by rw [Lib.repeatL_add]; exact B2
        have HT2 : Hid (Below w.heap.size w w2) := below_turned HT.out.drew t2
        clear B2 t2 hmin hC hlq hkl
        have hsum : Q + CH ≤ n := by
          have h1 : (q + k) * d ≤ c * d := Nat.mul_le_mul_right _ hkc
          rw [Nat.add_mul, hQ, hCH, hnc] at h1
          exact h1
        have HCH : Hid (k * d = CH) := hCH
        clear hCH hQ hnc
        go_wp2
        go_region
        go_wp2
        go_roundg (c - (q + k))
        case measure => omega
        case rel => exact ⟨q + k, by omega, by omega, by rw [Nat.add_mul, HQ.out, HCH.out]; go_num, HB2, HT2⟩
end Go.Proofs.YtlcghlfmaohfeaaGreat
namespace Go.Proofs.YtlcghlfmaohfeaaGreat
open Go.RowKit Go.Maps
set_option linter.unusedVariables false
set_option maxRecDepth 100000
/-- A bit of bytes. -/
def bitB (l : List UInt8) (k : Nat) : Bool := ((l[k / 8]?).getD 0).toNat.testBit (k % 8)
theorem ByB.set {w : World} {g N : Nat} {l : List UInt8} (h : ByB w g N l) (j : Nat) (y : UInt8) : ByB (w.setCell ⟨g, j, none⟩ (.int .u8 (y.toNat : Int))) g N (l.set j y) := by
  obtain ⟨cur, h1, h2, h3, h4⟩ := h
  refine ⟨_, heap_setCell h1 _, by simpa using h2, by simpa using h3, ?_⟩
  rw [List.length_set]
  apply List.ext_getElem?
  intro i
  have e := congrArg (fun q => q[i]?) h4
  simp only [List.getElem?_take, byC, List.getElem?_map] at e
  simp only [List.getElem?_take, Array.getElem?_toList, Array.getElem?_setIfInBounds, byC, List.getElem?_map, List.getElem?_set]
  rw [Array.getElem?_toList] at e
  by_cases hi : i < l.length
  · rw [if_pos hi] at e ⊢
    by_cases hj : j = i
    · subst hj
      simp [hi, show j < cur.size by omega]
    · simp [hj, e]
  · have : ¬ (j = i ∧ j < l.length) := by omega
    by_cases hj : j = i
    · simp [hi, show ¬ j < l.length by omega]
    · simp [hi, hj]
theorem or_u8 (x y : UInt8) : bits .or .u8 (x.toNat : Int) (y.toNat : Int) = ((x ||| y).toNat : Int) := by
  rw [u8_or_nat _ _ x.toNat_lt y.toNat_lt, UInt8.toNat_or]
theorem bit_set {l : List UInt8} {q : Nat} {x : UInt8} (hx : l[q]? = some x) (y : UInt8) (k : Nat) : bitB (l.set q (x ||| y)) k = (bitB l k || (decide (k / 8 = q) && y.toNat.testBit (k % 8))) := by
  have hq : q < l.length := (List.getElem?_eq_some_iff.1 hx).1
  unfold bitB
  rw [List.getElem?_set]
  by_cases h : q = k / 8
  · subst h
    have hg : l[k / 8] = x := (List.getElem?_eq_some_iff.1 hx).2
    simp [hq, hg]
  · have h' : ¬ k / 8 = q := fun e => h e.symm
    simp [h, h']
theorem pow_u8 (e : Nat) (h : e < 8) : ((2 : Int) ^ e % 256) = (((UInt8.ofNat (2 ^ e)).toNat : Nat) : Int) ∧ ∀ i, (UInt8.ofNat (2 ^ e)).toNat.testBit i = decide (e = i) := by
  have h2 : 2 ^ e < 256 := Nat.lt_of_lt_of_le (Nat.pow_lt_pow_right (by decide) h) (by decide)
  have e1 : (UInt8.ofNat (2 ^ e)).toNat = 2 ^ e := by simp [UInt8.toNat_ofNat']; omega
  refine ⟨?_, fun i => by rw [e1, Nat.testBit_two_pow]⟩
  rw [e1]
  have : ((2 : Int) ^ e) = ((2 ^ e : Nat) : Int) := by simp
  rw [this]
  omega
set_option maxHeartbeats 4000000 in
theorem setBits_c (l : List UInt8) (f n : Nat) (g cap N : Nat) (w : World) (hB : ByB w g N l) (hf : f + n ≤ 8 * l.length) (hn : l.length ≤ 16385) :
    Calls Tryz.prog 111 #[.slice (some ⟨g, 0, none⟩) l.length cap, .int .i64 f, .int .i64 n] w fun e w' => e = .returned (.tuple #[]) ∧ Turned w w' (fun k => k = g) ∧ ∃ l', l'.length = l.length ∧ ByB w' g N l' ∧ ∀ k, bitB l' k = (bitB l k || (decide (f ≤ k) && decide (k < f + n))) := by
  have HB : Hid (ByB w g N l) := hB
  clear hB
  go_enter Tryz.func111, Tryz.ntmps111
  go_wp2
  go_loopw [6] (fun iv wr => ∃ (j : Nat) (l' : List UInt8), j ≤ n ∧ iv = .int .i64 ((f + j : Nat) : Int) ∧ l'.length = l.length ∧ Hid (ByB wr g N l') ∧ Hid (Turned w wr (fun k => k = g)) ∧ Hid (∀ k, bitB l' k = (bitB l k || (decide (f ≤ k) && decide (k < f + j))))) (fun iv _ => f + n - (intOf iv).toNat)
  case atStart => exact ⟨0, l, Nat.zero_le _, rfl, rfl, HB, Turned.refl _ _, fun k => by simp; omega⟩
  case round =>
    obtain ⟨j, l', hj, rfl, hl, HB', HT, HK⟩ := hrel
    by_cases hlt : j < n
    · have hq : (f + j) / 8 < l'.length := by omega
      obtain ⟨x, hx⟩ : ∃ x, l'[(f + j) / 8]? = some x := ⟨_, List.getElem?_eq_getElem hq⟩
      have c0 := HB'.out.cell hx
      have f0 := HB'.out.frozen ((f + j) / 8)
      obtain ⟨p1, p2⟩ := pow_u8 ((f + j) % 8) (Nat.mod_lt _ (by decide))
      have HP2 : Hid (∀ i, (UInt8.ofNat (2 ^ ((f + j) % 8))).toNat.testBit i = decide ((f + j) % 8 = i)) := p2
      generalize UInt8.ofNat (2 ^ ((f + j) % 8)) = y at *
      have HX : Hid (l'[(f + j) / 8]? = some x) := hx
      clear hx p2
      go_wp2
      go_region
      go_wp2
      refine ⟨⟨j + 1, l'.set ((f + j) / 8) (x ||| y), by omega, by go_num, by rw [List.length_set]; exact hl, ?_, ?_, ?_⟩, by simp [intOf]; omega⟩
      · show ByB _ g N _
        rw [or_u8]
        exact HB'.out.set _ _
      · have q := HT.out.trans (Turned.setCell (S := fun k => k = g) wr g ((f + j) / 8) (.int .u8 (bits .or .u8 (x.toNat : Int) (y.toNat : Int))) rfl) (fun _ _ e => e)
        exact ⟨q.os, q.tape, q.output, q.size, q.block⟩
      · intro k
        rw [bit_set HX.out, HK.out k, HP2.out]
        have hk : (decide (k / 8 = (f + j) / 8) && decide ((f + j) % 8 = k % 8)) = decide (k = f + j) := by
          rw [Bool.eq_iff_iff]; simp; omega
        rw [hk]
        by_cases h1 : k = f + j
        · subst h1; simp
        · have h2 : (decide (f ≤ k) && decide (k < f + (j + 1))) = (decide (f ≤ k) && decide (k < f + j)) := by
            rw [Bool.eq_iff_iff]; simp; omega
          rw [h2]; simp [h1]
    · obtain rfl : j = n := by omega
      go_wp2
      go_end0
      exact ⟨rfl, HT.out, l', hl, HB'.out, HK.out⟩
end Go.Proofs.YtlcghlfmaohfeaaGreat
