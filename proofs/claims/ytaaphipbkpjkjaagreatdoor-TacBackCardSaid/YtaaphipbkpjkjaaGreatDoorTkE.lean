/-
  A right instruction is read: instruction of package tac's reader, at the words that it is written as.
-/
import Derived.Test.YtaaphipbkpjkjaaGreatDoorPA
import Derived.Test.YtaaphipbkpjkjaaGreatDoorPB
import Derived.Test.YtaaphipbkpjkjaaGreatDoorNQ
namespace Go.Proofs.YtaaphipbkpjkjaaGreatDoor
open Go.RowKit Go.Maps
set_option linter.unusedVariables false
set_option linter.unusedSimpArgs false
set_option maxRecDepth 100000
/-- The slice of an instruction's operands, new. -/
def SlA (B : Nat) (w : World) (x : In) (s : Value) : Prop := ∃ sp sc, s = .slice sp x.args.length sc ∧ (x.args = [] → sp = none ∧ sc = 0) ∧ w.ownsRow B TAr 2 s x.args.length (argsC x.args)
theorem SlA.nil (B : Nat) (w : World) {x : In} (h : x.args = []) : SlA B w x (.slice none 0 0) := ⟨none, 0, by rw [h]; rfl, fun _ => ⟨rfl, rfl⟩, by rw [h]; exact ⟨rfl, Or.inl ⟨rfl, rfl⟩⟩⟩
theorem SlA.turned {B : Nat} {w w' : World} {x : In} {s : Value} {S : Nat → Prop} (h : SlA B w x s) (ht : Turned w w' S) (hS : Apart w S [TAr]) : SlA B w' x s := by
  obtain ⟨sp, sc, e, h1, h2⟩ := h
  exact ⟨sp, sc, e, h1, own_t h2 ht (hS.one (by simp))⟩
section
variable {w : World} {rb mb : Nat} {ls ws : List ByteArray}
set_option maxHeartbeats 8000000 in
theorem instruction_g (hX : Tabs w) (hF : FormsIn w) (hrb : 10 ≤ rb) {y : Nat → In} {vs : Nat → List ByteArray} (hR : RdT w rb mb ls (vs 0)) {k : Nat} (hk : (y 0).op = k) {l : List Nat} (hl : fieldTab[k]? = some l) (hv : vs l.length = []) (h00 : (y 0).args = [])
    (hC : ∀ (j c : Nat), l[j]? = some c → ∀ Y s, Turned w Y (fun k => k = rb) → Y.heap[w.heap.size]? = some (.cells (inCells (y j) s).toArray TIn (0, 0)) → SlA w.heap.size Y (y j) s → RdT Y rb mb ls (vs j) →
      Calls Tryz.prog 143 #[.pointer (some ⟨rb, 0, none⟩), .pointer (some ⟨w.heap.size, 0, none⟩), .int .i32 (c : Int)] Y fun e w' => e = .returned (.tuple #[]) ∧ ∃ s', FldP Y w' rb mb w.heap.size ls (vs (j + 1)) (y (j + 1)) s' ∧ SlA w.heap.size w' (y (j + 1)) s') :
    Calls Tryz.prog 122 #[.pointer (some ⟨rb, 0, none⟩), .agg (inCells (y 0) (.slice none 0 0)).toArray] w fun e w' => ∃ s', e = .returned (.agg (inCells (y l.length) s').toArray) ∧ SlA w.heap.size w' (y l.length) s' ∧ RdT w' rb mb ls [] ∧ Turned w w' (fun k => k = rb) := by
  obtain ⟨x, hx0⟩ : ∃ x, x = y 0 := ⟨_, rfl⟩
  rw [← hx0] at hk ⊢
  have HX00 : Hid (x = y 0) := hx0
  clear hx0
  have hC128 : Hid (∀ c ∈ l, c < 128) := by
    have : ∀ l ∈ fieldTab, ∀ c ∈ l, c < 128 := by decide
    exact this l (List.mem_of_getElem? hl)
  have HSL0 : Hid (∀ Y, SlA w.heap.size Y (y 0) (.slice none 0 0)) := fun Y => SlA.nil _ _ h00
  have HC : Hid (∀ (j c : Nat), l[j]? = some c → ∀ Y s, Turned w Y (fun k => k = rb) → Y.heap[w.heap.size]? = some (.cells (inCells (y j) s).toArray TIn (0, 0)) → SlA w.heap.size Y (y j) s → RdT Y rb mb ls (vs j) →
      Calls Tryz.prog 143 #[.pointer (some ⟨rb, 0, none⟩), .pointer (some ⟨w.heap.size, 0, none⟩), .int .i32 (c : Int)] Y fun e w' => e = .returned (.tuple #[]) ∧ ∃ s', FldP Y w' rb mb w.heap.size ls (vs (j + 1)) (y (j + 1)) s' ∧ SlA w.heap.size w' (y (j + 1)) s') := hC
  have hk15 : k < 15 := (List.getElem?_eq_some_iff.1 hl).1
  obtain ⟨_, hbyt⟩ := fieldTab_ok l (List.mem_of_getElem? hl)
  have hrl : rb < w.heap.size := by obtain ⟨⟨_, _, _, _, hg, _⟩, _⟩ := hR; exact lt_of_heap hg
  have hw0 : 0 < w.heap.size := by omega
  have b1 := below1 w (.cells (inCells x (.slice none 0 0)).toArray TIn)
  have N1 := heap_r0 w (.cells (inCells x (.slice none 0 0)).toArray TIn)
  have hz1 : (w.alloc (.cells (inCells x (.slice none 0 0)).toArray TIn)).heap.size = w.heap.size + 1 := by simp
  have b2 := below1 (w.alloc (.cells (inCells x (.slice none 0 0)).toArray TIn)) (.cells #[.int .i64 0, .int .i64 0, .int .i64 0, .int .i64 0, .int .u32 0, .int .i64 0, .int .u32 0, .int .i64 0, .int .i64 0, .int .i64 0, .bool false, .slice none 0 0] TIn)
  have N2 := heap_r0 (w.alloc (.cells (inCells x (.slice none 0 0)).toArray TIn)) (.cells #[.int .i64 0, .int .i64 0, .int .i64 0, .int .i64 0, .int .u32 0, .int .i64 0, .int .u32 0, .int .i64 0, .int .i64 0, .int .i64 0, .bool false, .slice none 0 0] TIn)
  rw [hz1] at N2
  have N12 := blk_b N1 b2
  have hb12 := b1.trans (b2.mono b1.size)
  have hz2 : ((w.alloc (.cells (inCells x (.slice none 0 0)).toArray TIn)).alloc (.cells #[.int .i64 0, .int .i64 0, .int .i64 0, .int .i64 0, .int .u32 0, .int .i64 0, .int .u32 0, .int .i64 0, .int .i64 0, .int .i64 0, .bool false, .slice none 0 0] TIn)).heap.size = w.heap.size + 2 := by simp
  have HX : Hid (Tabs w) := hX
  have HR0 : Hid (RdT w rb mb ls (vs 0)) := hR
  have HBYT : Hid (∀ k (h : k < (bytesOf l).size), k < l.length ∧ ((bytesOf l)[k]'h).toNat = l.getD k 0) := hbyt
  have hsz : (bytesOf l).size = l.length := by simp [bytesOf, ByteArray.size]
  have f0 := (hb12.cell (p := ⟨0, k * 2 + 1, none⟩) hw0).trans (hF k l hl)
  have c0 := (Lib.cell_of_heap N12 0).trans (show (inCells x (.slice none 0 0)).toArray[0]? = some (.int .i64 (k : Int)) by rw [← hk]; rfl)
  have HV : Hid (vs l.length = []) := hv
  have HB12 : Hid (Below w.heap.size w ((w.alloc (.cells (inCells x (.slice none 0 0)).toArray TIn)).alloc (.cells #[.int .i64 0, .int .i64 0, .int .i64 0, .int .i64 0, .int .u32 0, .int .i64 0, .int .u32 0, .int .i64 0, .int .i64 0, .int .i64 0, .bool false, .slice none 0 0] TIn))) := hb12
  have HN12 : Hid (_ = _) := N12
  have HN2 : Hid (_ = _) := N2
  clear b1 b2 N1 N2 N12 hb12 hbyt hC hX hF hR hl hk hz1 hv h00
  go_enter Tryz.func122, Tryz.ntmps122
  go_upto_region 1 with (fail)
  refine (?_ : Code.wp _ _ _ _ ((w.alloc (.cells (inCells x (.slice none 0 0)).toArray TIn)).alloc (.cells #[.int .i64 0, .int .i64 0, .int .i64 0, .int .i64 0, .int .u32 0, .int .i64 0, .int .u32 0, .int .i64 0, .int .i64 0, .int .i64 0, .bool false, .slice none 0 0] TIn)))
  generalize (w.alloc (.cells (inCells x (.slice none 0 0)).toArray TIn)).alloc (.cells #[.int .i64 0, .int .i64 0, .int .i64 0, .int .i64 0, .int .u32 0, .int .i64 0, .int .u32 0, .int .i64 0, .int .i64 0, .int .i64 0, .bool false, .slice none 0 0] TIn) = W1 at *
  go_wp2
  have HBI : Hid (Below w.heap.size w (W1.iter (bytesOf l) 0)) := HB12.out.trans ((below1 W1 _).mono HB12.out.size)
  have HI0 : Hid ((W1.iter (bytesOf l) 0).heap[w.heap.size + 2]? = some (.stringIter (bytesOf l) 0)) := by rw [← hz2]; exact World.iter_heap W1 _ 0
  have HX0 : Hid ((W1.iter (bytesOf l) 0).heap[w.heap.size]? = some (.cells (inCells x (.slice none 0 0)).toArray TIn (0, 0))) := blk_b HN12.out (below1 W1 _)
  have HZ0 : Hid ((W1.iter (bytesOf l) 0).heap[w.heap.size + 1]? = some (.cells #[.int .i64 0, .int .i64 0, .int .i64 0, .int .i64 0, .int .u32 0, .int .i64 0, .int .u32 0, .int .i64 0, .int .i64 0, .int .i64 0, .bool false, .slice none 0 0] TIn (0, 0))) := blk_b HN2.out (below1 W1 _)
  generalize W1.iter (bytesOf l) 0 = W2 at *
  clear HB12 HN12 HN2 c0 f0 hz2
  go_loopw [6] (fun v6 wr => ∃ (j : Nat) (s : Value), j ≤ l.length ∧ Hid (SlA w.heap.size wr (y j) s) ∧ Hid (wr.heap[w.heap.size + 2]? = some (.stringIter (bytesOf l) j)) ∧ Hid (wr.heap[w.heap.size]? = some (.cells (inCells (y j) s).toArray TIn (0, 0))) ∧ Hid (wr.heap[w.heap.size + 1]? = some (.cells #[.int .i64 0, .int .i64 0, .int .i64 0, .int .i64 0, .int .u32 0, .int .i64 0, .int .u32 0, .int .i64 0, .int .i64 0, .int .i64 0, .bool false, .slice none 0 0] TIn (0, 0))) ∧ Hid (RdT wr rb mb ls (vs j)) ∧ Hid (Turned w wr (fun k => k = rb))) (fun _ wr => l.length - wr.iterPos (w.heap.size + 2))
  case atStart => exact ⟨0, .slice none 0 0, Nat.zero_le _, HSL0.out _, HI0, by rw [← HX00.out]; exact HX0.out, HZ0, HR0.out.below HBI.out, Turned.of_below HBI.out _⟩
  case round =>
    obtain ⟨j, s0, hj, HSL, HI, HG, HZ, HRJ, HTJ⟩ := hrel
    by_cases hlt : j < l.length
    · have hjs : j < (bytesOf l).size := by omega
      obtain ⟨_, hcj⟩ := HBYT.out j hjs
      obtain ⟨c, hc⟩ : ∃ c, l[j]? = some c := ⟨_, List.getElem?_eq_getElem hlt⟩
      have hcd : l.getD j 0 = c := by simp [List.getD, hc]
      have hc128 : c < 128 := hC128.out c (List.mem_of_getElem? hc)
      have hnx := next_at HI.out hjs (by rw [hcj, hcd]; exact hc128)
      rw [hcj, hcd] at hnx
      have T1 := setIter_turned wr (w.heap.size + 2) (bytesOf l) (j + 1)
      have I1 := setIter_at (s := bytesOf l) (p := j + 1) (lt_of_heap HI.out)
      have hrr : RdT (World.setIter wr (w.heap.size + 2) (bytesOf l) (j + 1)) rb mb ls (vs j) := by
        obtain ⟨⟨lp, lc, wp, wc, hg, hll, hw⟩, hm, h5, h6⟩ := HRJ.out
        have sv : ∀ {p : Option Addr} {cap : Nat} {l' : List ByteArray}, StrV wr p cap l' → StrV (World.setIter wr (w.heap.size + 2) (bytesOf l) (j + 1)) p cap l' := fun h =>
          ⟨h.1, fun hn => by
            obtain ⟨g, o, cs, e, q1, q2⟩ := h.2 hn
            exact ⟨g, o, cs, e, blk_t q1 T1 (fun e => by rw [e, HI.out] at q1; cases q1), q2⟩⟩
        refine ⟨⟨lp, lc, wp, wc, blk_t hg T1 (fun e => by rw [e, HI.out] at hg; cases hg), sv hll, sv hw⟩, hm.turned T1 (fun e => ?_), h5, h6⟩
        obtain ⟨es, ck, q, _⟩ := hm
        rw [e, HI.out] at q; cases q
      have G1 := blk_t HG.out T1 (by omega)
      have Z1 : Hid ((World.setIter wr (w.heap.size + 2) (bytesOf l) (j + 1)).heap[w.heap.size + 1]? = _) := blk_t HZ.out T1 (by omega)
      have HT1 : Hid (Turned w (World.setIter wr (w.heap.size + 2) (bytesOf l) (j + 1)) (fun k => k = rb)) := HTJ.out.trans T1 (fun i hi e => by omega)
      have hsl : SlA w.heap.size (World.setIter wr (w.heap.size + 2) (bytesOf l) (j + 1)) (y j) s0 := by
        obtain ⟨sp, sc, e, q1, q2⟩ := HSL.out
        refine ⟨sp, sc, e, q1, ownsRow_turned q2 T1 (fun g hg hs => ?_)⟩
        obtain ⟨_, cur, hcur⟩ := ownsRow_at q2 hg
        rw [hs, HI.out] at hcur; cases hcur
      have cC := HC.out j c hc _ s0 HT1.out G1 hsl hrr
      have HI1 : Hid ((World.setIter wr (w.heap.size + 2) (bytesOf l) (j + 1)).heap[w.heap.size + 2]? = some (.stringIter (bytesOf l) (j + 1))) := I1
      have HP0 : Hid (wr.iterPos (w.heap.size + 2) = j) := by show World.iterPos wr _ = j; unfold World.iterPos; rw [HI.out]
      generalize World.setIter wr (w.heap.size + 2) (bytesOf l) (j + 1) = W5 at *
      clear hc128 hcd hc hcj T1 I1 G1 hrr hsl
      go_wp2_with (first | (go_at_call 143; refine cC.mono ?_; rintro e w6 ⟨rfl, s6, ⟨h61, h62, h63⟩, h64⟩; have H61 : Hid (w6.heap[w.heap.size]? = some (.cells (inCells (y (j + 1)) s6).toArray TIn (0, 0))) := h61; have H62 : Hid (RdT w6 rb mb ls (vs (j + 1))) := h62; have H63 : Hid (Turned W5 w6 (fun k => k = rb ∨ k = w.heap.size)) := h63; have H64 : Hid (SlA w.heap.size w6 (y (j + 1)) s6) := h64; clear h61 h62 h63 h64 cC) | fail)
      have I6 := blk_t HI1.out H63.out (by omega)
      refine ⟨⟨j + 1, s6, by omega, H64, I6, H61, blk_t Z1.out H63.out (by omega), H62, HT1.out.trans H63.out (fun i hi e => by omega)⟩, ?_⟩
      have : w6.iterPos (w.heap.size + 2) = j + 1 := by unfold World.iterPos; rw [I6]
      rw [HP0.out, this]; omega
    · obtain rfl : j = l.length := by omega
      have hnx := next_end HI.out (by omega)
      have HRE : Hid (RdT wr rb mb ls []) := by show RdT _ _ _ _ _; rw [← HV.out]; exact HRJ.out
      obtain ⟨sp, sc, rfl, hsn, hown⟩ := HSL.out
      have HOW : Hid (wr.ownsRow w.heap.size TAr 2 (.slice sp (y l.length).args.length sc) (y l.length).args.length (argsC (y l.length).args)) := hown
      have HSN : Hid ((y l.length).args = [] → sp = none ∧ sc = 0) := hsn
      have cD := done_c HRE.out
      obtain ⟨x', hx'⟩ : ∃ x', x' = y l.length := ⟨_, rfl⟩
      rw [← hx'] at HG HOW HSN
      have HXE : Hid (x' = y l.length) := hx'
      clear hx'
      obtain ⟨sn, hsn0⟩ : ∃ sn, sn = x'.args.length := ⟨_, rfl⟩
      rw [← hsn0] at HG HOW
      have HSL0 : Hid (sn = x'.args.length) := hsn0
      clear hsn0
      obtain ⟨x0, x1, x2, x3, x4, x5, x6, x7, x8, x9, x10, x11⟩ := cells12 HG.out
      have hzz := HZ.out
      clear HRJ hsn hown HSL
      go_wp2_with (first | (go_at_call 104; refine cD.mono ?_; rintro e w' ⟨rfl, hw⟩; rw [hw]; clear hw w' cD) | ((with_reducible apply step_store hzz); rfl; rfl; kernel_rfl; rfl; kernel_rfl) | fail)
      have g9 : (wr.setRow (w.heap.size + 1) #[.int .i64 x'.op, .int .i64 x'.bin, .int .i64 x'.d, .int .i64 x'.a.kind, .int .u32 x'.a.n, .int .i64 x'.b.kind, .int .u32 x'.b.n, .int .i64 x'.n, .int .i64 x'.off, .int .i64 x'.width, .bool x'.sg, .slice sp sn sc]).heap[w.heap.size + 1]? = some (.cells #[.int .i64 x'.op, .int .i64 x'.bin, .int .i64 x'.d, .int .i64 x'.a.kind, .int .u32 x'.a.n, .int .i64 x'.b.kind, .int .u32 x'.b.n, .int .i64 x'.n, .int .i64 x'.off, .int .i64 x'.width, .bool x'.sg, .slice sp sn sc] TIn (0, 0)) := setRow_heap _ _ _ _ _ _ hzz
      have t9 : Turned wr (wr.setRow (w.heap.size + 1) #[.int .i64 x'.op, .int .i64 x'.bin, .int .i64 x'.d, .int .i64 x'.a.kind, .int .u32 x'.a.n, .int .i64 x'.b.kind, .int .u32 x'.b.n, .int .i64 x'.n, .int .i64 x'.off, .int .i64 x'.width, .bool x'.sg, .slice sp sn sc]) (fun k => k = w.heap.size + 1) := Turned.setRow wr _ _ rfl
      obtain ⟨q0, q1, q2, q3, q4, q5, q6, q7, q8, q9, q10, q11⟩ := cells12 g9
      rw [← HXE.out]
      refine bodyPost_ret (v := .agg #[.int .i64 x'.op, .int .i64 x'.bin, .int .i64 x'.d, .int .i64 x'.a.kind, .int .u32 x'.a.n, .int .i64 x'.b.kind, .int .u32 x'.b.n, .int .i64 x'.n, .int .i64 x'.off, .int .i64 x'.width, .bool x'.sg, .slice sp sn sc]) (by simp [results, Tryz.results122, go_sem, q0, q1, q2, q3, q4, q5, q6, q7, q8, q9, q10, q11]) rfl ⟨.slice sp sn sc, rfl, ?_, HRE.out.off t9 hzz (by decide) (by decide), HTJ.out.trans t9 (fun i hi e => by omega)⟩
      refine ⟨sp, sc, by rw [HSL0.out], HSN.out, ?_⟩
      rw [← HSL0.out]
      refine ownsRow_turned HOW.out t9 (fun g hg hs => ?_)
      obtain ⟨_, cur, hcur⟩ := ownsRow_at HOW.out hg
      rw [hs, hzz] at hcur
      injection hcur with q1
      injection q1 with _ q2
      exact absurd q2 (by decide)
theorem fields8 : ∀ k : Nat, 1 ≤ k → k ≤ 14 → k ≠ 8 → ∀ c ∈ fieldTab.getD k [], c ∈ letters8 := by
  intro k h1 h2 h8
  have : ∀ k < 15, k ≠ 8 → ∀ c ∈ fieldTab.getD k [], c ∈ letters8 := by decide
  exact this k (by omega) h8
def yCall (d n : Int) (args : List Ar) : Nat → In
  | 0 => bareI 8 0
  | 1 => ⟨8, 0, d, ⟨0, 0⟩, ⟨0, 0⟩, 0, 0, 0, false, []⟩
  | 2 => ⟨8, 0, d, ⟨0, 0⟩, ⟨0, 0⟩, n, 0, 0, false, []⟩
  | _ => ⟨8, 0, d, ⟨0, 0⟩, ⟨0, 0⟩, n, 0, 0, false, args⟩
def vCall (d n : Int) (args : List Ar) : Nat → List ByteArray
  | 0 => tgtW d :: decS n :: opsW args
  | 1 => decS n :: opsW args
  | 2 => opsW args
  | _ => []
theorem sla_slice {B : Nat} {w : World} {x : In} {s : Value} (h : SlA B w x s) (hx : x.args = []) : s = .slice none 0 0 := by
  obtain ⟨sp, sc, e, h1, _⟩ := h
  obtain ⟨rfl, rfl⟩ := h1 hx
  rw [e, hx]; rfl
theorem instr_c (hX : Tabs w) (hF : FormsIn w) (hrb : 10 ≤ rb) {x : In} (hr : RtI x) (hR : RdT w rb mb ls (fldW (fldsOf x) x)) :
    Calls Tryz.prog 122 #[.pointer (some ⟨rb, 0, none⟩), .agg (inCells (bareI x.op x.bin) (.slice none 0 0)).toArray] w fun e w' => ∃ s, e = .returned (.agg (inCells x s).toArray) ∧ SlA w.heap.size w' x s ∧ RdT w' rb mb ls [] ∧ Turned w w' (fun k => k = rb) := by
  have h1 := hr.o1
  have h2 := hr.o2
  rcases hr.rd with ⟨h8, hf, ha⟩ | ⟨h8, ⟨d, n, args, rfl⟩, hd, hk⟩
  · have hko : x.op = (x.op.toNat : Int) := by omega
    have hlf : fieldTab[x.op.toNat]? = some (fldsOf x) := by
      unfold fldsOf
      have hlt : x.op.toNat < fieldTab.length := by show _ < 15; omega
      simp [List.getD, List.getElem?_eq_getElem hlt]
    refine (instruction_c hX hF hrb hR (x := bareI x.op x.bin) (x' := x) (sp := none) (sn := 0) (sc := 0) (k := x.op.toNat) hko hlf (fields8 _ (by omega) (by omega) (by omega)) hf).mono ?_
    rintro e w' ⟨rfl, hR1, hT1⟩
    exact ⟨_, rfl, SlA.nil _ _ ha, hR1, hT1⟩
  · have nn := hr.nn
    have hd1 := nn.d1
    have hn0 := nn.n0
    have hn1 := nn.n1
    have hal := nn.al
    have hA : ∀ a ∈ args, ArOK a ∧ (a.kind = 1 ∨ a.kind = 2) := fun a ha => ⟨nn.ok a (by simp [ha]), hk a ha⟩
    have hrl : rb < w.heap.size := by obtain ⟨⟨_, _, _, _, hg, _⟩, _⟩ := hR; exact lt_of_heap hg
    simp only at hd hd1 hn0 hn1 hal
    have e0 : fldW (fldsOf ⟨8, 0, d, ⟨0, 0⟩, ⟨0, 0⟩, n, 0, 0, false, args⟩) ⟨8, 0, d, ⟨0, 0⟩, ⟨0, 0⟩, n, 0, 0, false, args⟩ = vCall d n args 0 := by simp [fldW, fldsOf, fieldTab, fwW, vCall]
    rw [e0] at hR
    refine (instruction_g (y := yCall d n args) (vs := vCall d n args) hX hF hrb hR (k := 8) rfl (l := [84, 78, 76]) rfl rfl rfl ?_)
    intro j c hc Y s hY hx hs hRY
    have hXY := hX.turned hY hrb
    have hxr : w.heap.size ≠ rb := by omega
    rcases j with _ | _ | _ | j
    · obtain rfl : 84 = c := by simpa using hc
      obtain rfl := sla_slice hs rfl
      refine (field_84 hXY hrb hx hxr hd hd1 hRY (args := [])).mono ?_
      rintro e w' ⟨rfl, hP⟩
      exact ⟨rfl, _, hP, SlA.nil _ _ rfl⟩
    · obtain rfl : 78 = c := by simpa using hc
      obtain rfl := sla_slice hs rfl
      refine (field_78 hXY hrb hx hxr hRY (num64_dec ⟨hn0, hn1⟩) (args := [])).mono ?_
      rintro e w' ⟨rfl, hP⟩
      exact ⟨rfl, _, hP, SlA.nil _ _ rfl⟩
    · obtain rfl : 76 = c := by simpa using hc
      obtain rfl := sla_slice hs rfl
      refine (field_76 hXY hrb (by omega) hx hxr hA hal hRY).mono ?_
      rintro e w' ⟨rfl, sp, sc, q1, q2, q3, q4, q5⟩
      exact ⟨rfl, .slice sp args.length sc, ⟨q1, q4, q5⟩, sp, sc, rfl, q2, ownsRow_base q3 hY.size⟩
    · simp at hc
end
end Go.Proofs.YtaaphipbkpjkjaaGreatDoor
