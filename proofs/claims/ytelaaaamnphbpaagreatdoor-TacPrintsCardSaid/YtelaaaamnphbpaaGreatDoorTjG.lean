/- The given answer's lines. -/
import Derived.Test.YtelaaaamnphbpaaGreatDoorNZ
import Derived.Test.YtelaaaamnphbpaaGreatDoorNY
import Derived.Test.YtelaaaamnphbpaaGreatDoorKT
namespace Go.Proofs.YtelaaaamnphbpaaGreatDoor
set_option maxHeartbeats 64000000
open Go.RowKit Go.Maps
set_option linter.unusedVariables false
set_option linter.unusedSimpArgs false
set_option maxRecDepth 100000
def hdT (o : Ob) : ByteArray := (((((⟨#[111, 98, 106, 101, 99, 116, 32]⟩ ++ o.nm) ++ ⟨#[32]⟩) ++ decS o.size) ++ ⟨#[32]⟩) ++ decS o.align)
def rlT (r : Rl) : ByteArray := (((((⟨#[114, 101, 108, 111, 99, 32]⟩ ++ decS r.off) ++ ⟨#[32]⟩) ++ decS r.glob) ++ ⟨#[32]⟩) ++ decS r.add)
def dtL (bs : List UInt8) : List ByteArray := if dataT bs = ⟨#[]⟩ then [] else [dataT bs]
def obT (q : Og) : List ByteArray := [hdT q.o] ++ dtL q.bs ++ q.rls.map rlT
def f0T (f : Fn) : ByteArray := (((((⟨#[102, 117, 110, 99, 32]⟩ ++ f.nm) ++ ⟨#[32]⟩) ++ decS f.pr) ++ ⟨#[32]⟩) ++ decS f.tp)
def fhT (f : Fn) : ByteArray := if f.gv then f0T f ++ ⟨#[32, 103, 105, 118, 101, 115]⟩ else f0T f
def slT (s : Slt) : ByteArray := (((⟨#[115, 108, 111, 116, 32]⟩ ++ decS s.size) ++ ⟨#[32]⟩) ++ decS s.align)
def fnT (q : Fg) : List ByteArray := [fhT q.f] ++ q.sls.map slT ++ q.code.map fun i => lnT i.x
def mnT (n : Int) : ByteArray := ⟨#[109, 97, 105, 110, 32]⟩ ++ decS n
def LN (x : Pg) : List ByteArray := x.obs.flatMap obT ++ x.fns.flatMap fnT ++ [mnT x.mn]
def lenL (l : List ByteArray) : Nat := (l.map fun s => s.size + 1).sum
structure OgR (q : Og) : Prop where
 nm : q.o.nm.size ≤ 1000000
 sz : Sm q.o.size
 al : Sm q.o.align
 bn : q.bs.length ≤ 50000
 rn : q.rls.length ≤ 100000
 rl : ∀ r ∈ q.rls, Sm r.off ∧ Sm r.glob ∧ Sm r.add
structure FgR (q : Fg) : Prop where
 nm : q.f.nm.size ≤ 1000000
 pr : Sm q.f.pr
 tp : Sm q.f.tp
 sn : q.sls.length ≤ 100000
 sl : ∀ s ∈ q.sls, Sm s.size ∧ Sm s.align
 cn : q.code.length ≤ 100000
 ci : ∀ i ∈ q.code, GdI i.x
structure PgR (x : Pg) : Prop where
 on : x.obs.length ≤ 256
 ob : ∀ q ∈ x.obs, OgR q
 fn : x.fns.length ≤ 64
 fg : ∀ q ∈ x.fns, FgR q
 mn : Sm x.mn
theorem toList_no {s : ByteArray} (h : ¬ s = ⟨#[]⟩) : s.toList.isEmpty = false := by
 rw [ByteArray.toList_eq]
 cases e : s.data.toList with
 | cons a l => rfl
 | nil => exact absurd (Go.WideShapes.bytes_inj (b := ⟨#[]⟩) (by rw [e])) h
theorem flat_len {α : Type} {f : α → List ByteArray} {M : Nat} : ∀ {l : List α}, (∀ a ∈ l, (f a).length ≤ M) → ∀ k, ((l.take k).flatMap f).length ≤ l.length * M
 | [], _, k => by simp
 | a :: l, h, 0 => by simp
 | a :: l, h, k + 1 => by
  have h1 := flat_len (l := l) (fun b hb => h b (List.mem_cons_of_mem _ hb)) k
  have h2 := h a List.mem_cons_self
  simp only [List.take_succ_cons, List.flatMap_cons, List.length_append, List.length_cons, Nat.add_mul]
  omega
theorem f0T_size {q : Fg} (h : FgR q) : (f0T q.f).size ≤ 2000000 := by
 have h1 := h.nm
 have h2 := decS_sm h.pr
 have h3 := decS_sm h.tp
 unfold f0T
 simp only [ByteArray.size_append, mk_size, List.size_toArray, List.length_cons, List.length_nil]
 omega
theorem dtL_len (bs : List UInt8) : (dtL bs).length ≤ 1 := by unfold dtL; split <;> simp
theorem obT_len {q : Og} (h : OgR q) : (obT q).length ≤ 100002 := by
 have h1 := dtL_len q.bs
 have h2 := h.rn
 simp only [obT, List.length_append, List.length_map, List.length_cons, List.length_nil]
 omega
theorem fnT_len {q : Fg} (h : FgR q) : (fnT q).length ≤ 200001 := by
 have h1 := h.sn
 have h2 := h.cn
 simp only [fnT, List.length_append, List.length_map, List.length_cons, List.length_nil]
 omega
theorem dataT_size {l : List UInt8} (h : l.length ≤ 50000) : (dataT l).size ≤ 300000000 := by
 unfold dataT
 split
 ·show 0 ≤ _; omega
 ·rw [sB_size, List.length_append, hexT_length, List.length_take]
  have : [100, 97, 116, 97, (32 : UInt8)].length = 5 := rfl
  omega
theorem LN_size {x : Pg} (h : PgR x) : ∀ s ∈ LN x, s.size ≤ 300000000 := by
 intro s hs
 simp only [LN, List.mem_append, List.mem_flatMap, List.mem_cons, List.not_mem_nil, or_false] at hs
 rcases hs with (⟨q, hq, hs⟩ | ⟨q, hq, hs⟩) | rfl
 ·have g := h.ob q hq
  simp only [obT, List.mem_append, List.mem_map, List.mem_cons, List.not_mem_nil, or_false] at hs
  rcases hs with (rfl | hs) | ⟨r, hr, rfl⟩
  ·have h1 := g.nm
   have h2 := decS_sm g.sz
   have h3 := decS_sm g.al
   unfold hdT
   simp only [ByteArray.size_append, mk_size, List.size_toArray, List.length_cons, List.length_nil]
   omega
  ·have hd := dataT_size g.bn
   unfold dtL at hs
   split at hs
   ·cases hs
   ·simp only [List.mem_cons, List.not_mem_nil, or_false] at hs
    rw [hs]; exact hd
  ·have h1 := decS_sm (g.rl r hr).1
   have h2 := decS_sm (g.rl r hr).2.1
   have h3 := decS_sm (g.rl r hr).2.2
   unfold rlT
   simp only [ByteArray.size_append, mk_size, List.size_toArray, List.length_cons, List.length_nil]
   omega
 ·have g := h.fg q hq
  simp only [fnT, List.mem_append, List.mem_map, List.mem_cons, List.not_mem_nil, or_false] at hs
  rcases hs with (rfl | ⟨r, hr, rfl⟩) | ⟨r, hr, rfl⟩
  ·have h1 := f0T_size g
   unfold fhT
   by_cases hv : q.f.gv = true
   ·rw [if_pos hv]
    simp only [ByteArray.size_append, mk_size, List.size_toArray, List.length_cons, List.length_nil]
    omega
   ·rw [if_neg hv]; omega
  ·have h1 := decS_sm (g.sl r hr).1
   have h2 := decS_sm (g.sl r hr).2
   unfold slT
   simp only [ByteArray.size_append, mk_size, List.size_toArray, List.length_cons, List.length_nil]
   omega
  ·exact Nat.le_trans (lnT_size (g.ci r hr)) (by decide)
 ·have h1 := decS_sm h.mn
  unfold mnT
  simp only [ByteArray.size_append, mk_size, List.size_toArray, List.length_cons, List.length_nil]
  omega
theorem lenL_le : ∀ {l : List ByteArray} {n : Nat}, (∀ s ∈ l, s.size ≤ 300000000) → l.length ≤ n → lenL l ≤ n * 300000001
 | [], n, _, _ => by simp [lenL]
 | a :: l, n, h, hn => by
  have h1 := lenL_le (l := l) (n := n - 1) (fun s hs => h s (List.mem_cons_of_mem _ hs)) (by simp only [List.length_cons] at hn; omega)
  have h2 := h a List.mem_cons_self
  simp only [List.length_cons] at hn
  simp only [lenL, List.map_cons, List.sum_cons] at h1 ⊢
  omega
def SK (W0 W1 Y : World) : Prop := Below W0.heap.size W0 Y ∧ ∀ (g : Nat) (cs : Array Value) (ty : TypeId), W1.heap[g]? = some (.cells cs ty (0, 0)) → ty ≠ TStr → Y.heap[g]? = some (.cells cs ty (0, 0))
theorem SK.of_sh {W0 W1 Y : World} (h0 : SH W0 W1) (h : SH W1 Y) : SK W0 W1 Y := ⟨Below.trans h0 (Below.mono h (Below.size h0)), fun g cs ty hg _ => blk_b hg h⟩
theorem SK.drew {W0 W1 Y : World} (h : SK W0 W1 Y) : SK W0 W1 Y.drew := ⟨h.1.drew, h.2⟩
theorem SK.sh {W0 W1 Y Z : World} (h : SK W0 W1 Y) (hz : SH Y Z) : SK W0 W1 Z := ⟨h.1.trans (Below.mono hz h.1.size), fun g cs ty hg ht => blk_b (h.2 g cs ty hg ht) hz⟩
theorem SK.alloc {W0 W1 Y : World} (h : SK W0 W1 Y) (o : Obj) : SK W0 W1 (Y.alloc o) := h.sh (SH.alloc (Below.refl _ _) o)
section
variable {w : World}
theorem lines_c {x : Pg} {a : Pw} (hx : PgOK w x a) (hg : PgR x) :
 Calls Tryz.prog 40 #[pgV x a] w fun e w' => ∃ p c, e = .returned (.tuple #[.slice p (LN x).length c, .bool (decide (lenL (LN x) ≤ 1048576))]) ∧ OwnS w.heap.size w' p c (LN x) ∧ Below w.heap.size w w' := by
 have HG : Hid (PgR x) := hg
 have HX : Hid (∀ Y, Below w.heap.size w Y → PgOK Y x a) := fun Y hY => hx.below hY
 have hom := hx.om
 have hfm := hx.fm
 unfold pgV
 obtain ⟨obs, fns, mn⟩ := x
 obtain ⟨op, oc, fp, fc⟩ := a
 simp only at HG HX hom hfm ⊢
 have HLN : Hid (LN ⟨obs, fns, mn⟩ = obs.flatMap obT ++ fns.flatMap fnT ++ [mnT mn]) := rfl
 have N0 : Hid ((w.alloc (.cells #[.slice op obs.length oc, .slice fp fns.length fc, .int .i64 mn] TPg)).heap[w.heap.size]? = some (.cells #[.slice op obs.length oc, .slice fp fns.length fc, .int .i64 mn] TPg (0, 0))) := heap_r0 w _
 have HB0 : Hid (Below w.heap.size w (w.alloc (.cells #[.slice op obs.length oc, .slice fp fns.length fc, .int .i64 mn] TPg))) := below1 w _
 have HLS : Hid (∀ s ∈ LN ⟨obs, fns, mn⟩, s.size ≤ 300000000) := LN_size hg
 generalize LN ⟨obs, fns, mn⟩ = LL at *
 clear hx hg
 go_enter Tryz.func40, Tryz.ntmps40
 go_upto_region 1 with (fail)
 refine (?_ : Code.wp _ _ _ _ (w.alloc (.cells #[.slice op obs.length oc, .slice fp fns.length fc, .int .i64 mn] TPg)))
 generalize w.alloc (.cells #[.slice op obs.length oc, .slice fp fns.length fc, .int .i64 mn] TPg) = W0 at *
 go_upto_region 4 with (fail)
 go_loopw [4, 6] (fun lv iv wr => ∃ (k : Nat) (vp : Option Addr) (vc : Nat), iv = .int .i64 k ∧ k ≤ obs.length ∧ lv = .slice vp ((obs.take k).flatMap obT).length vc ∧ Hid (OwnS W0.heap.size wr vp vc ((obs.take k).flatMap obT)) ∧ Hid (SH W0 wr)) (fun _ iv _ => obs.length - (intOf iv).toNat)
 case atStart => exact ⟨0, none, 0, rfl, Nat.zero_le _, rfl, World.ownsRow_nil W0 _ TStr 1, SH.refl W0⟩
 case round =>
  obtain ⟨k, vp, vc, rfl, hk, rfl, HO, HS⟩ := hrel
  have k0 := (Lib.cell_of_heap (blk_b N0.out HS.out) 0).trans rfl
  have HBR : Hid (Below w.heap.size w wr) := HB0.out.trans (Below.mono HS.out HB0.out.size)
  by_cases hlt : k < obs.length
  ·obtain ⟨r, hs⟩ : ∃ s, obs[k]? = some s := ⟨_, List.getElem?_eq_getElem hlt⟩
   have hmem := List.mem_of_getElem? hs
   have hrow := (HX.out wr HBR.out).ob
   simp only at hrow
   obtain ⟨g, o, rfl, hgl, hc⟩ := hrow.2 k r hs
   have hcap := hrow.1.1
   have j0 := hc 0 (by omega)
   have j1 := hc 1 (by omega)
   have j2 := hc 2 (by omega)
   have j3 := hc 3 (by omega)
   have j4 := hc 4 (by omega)
   simp only [ogC, obC, List.getElem?_cons_zero, List.getElem?_cons_succ, Nat.add_zero] at j0 j1 j2 j3 j4
   have hbn := ((HX.out wr HBR.out).oi r hmem).bn
   have hrn := ((HX.out wr HBR.out).oi r hmem).rn
   rw [hbn] at j3
   rw [hrn] at j4
   have HQ : Hid (∀ Y, Below w.heap.size w Y → OgOK Y r) := fun Y hY => (HX.out Y hY).oi r hmem
   have HR : Hid (OgR r) := HG.out.ob r hmem
   have HL : Hid ((obs.take (k + 1)).flatMap obT = (obs.take k).flatMap obT ++ obT r) := by
    show _ = _
    rw [take_succ hs, List.flatMap_append]; simp
   have hfl : ((obs.take k).flatMap obT).length ≤ obs.length * 100002 := flat_len (fun q hq => obT_len (HG.out.ob q hq)) k
   have hob : obs.length ≤ 256 := HG.out.on
   have hln : ((obs.take k).flatMap obT).length ≤ 100000000 := Nat.le_trans hfl (by omega)
   clear hfl hob
   generalize (obs.take k).flatMap obT = L at *
   have hold := heap_r0 wr (.cells #[.string ⟨#[]⟩, .int .i64 0, .int .i64 0, .slice none 0 0, .slice none 0 0] TOb)
   have N1 : Hid ((wr.alloc (.cells #[.string r.o.nm, .int .i64 r.o.size, .int .i64 r.o.align, .slice r.o.bp r.bs.length r.o.bc, .slice r.o.rp r.rls.length r.o.rc] TOb)).heap[wr.heap.size]? = some (.cells #[.string r.o.nm, .int .i64 r.o.size, .int .i64 r.o.align, .slice r.o.bp r.bs.length r.o.bc, .slice r.o.rp r.rls.length r.o.rc] TOb (0, 0))) := heap_r0 wr _
   have b5 : SH wr (wr.alloc (.cells #[.string r.o.nm, .int .i64 r.o.size, .int .i64 r.o.align, .slice r.o.bp r.bs.length r.o.bc, .slice r.o.rp r.rls.length r.o.rc] TOb)) := below1 wr _
   have HO1 : Hid (OwnS W0.heap.size (wr.alloc (.cells #[.string r.o.nm, .int .i64 r.o.size, .int .i64 r.o.align, .slice r.o.bp r.bs.length r.o.bc, .slice r.o.rp r.rls.length r.o.rc] TOb)) vp vc L) := HO.out.below b5
   have HS1 : Hid (SH W0 (wr.alloc (.cells #[.string r.o.nm, .int .i64 r.o.size, .int .i64 r.o.align, .slice r.o.bp r.bs.length r.o.bc, .slice r.o.rp r.rls.length r.o.rc] TOb))) := SH.below HS.out b5
   have HW1 : Hid (W0.heap.size ≤ wr.heap.size) := Below.size HS.out
   clear hs hgl hc b5 hrow hmem hbn hrn
   go_upto_region 7 with (first | ((with_reducible apply step_store hold); rfl; rfl; kernel_rfl; rfl; kernel_rfl; rw [World.setRow_alloc_new]) | fail)
   refine (?_ : Code.wp _ _ _ _ (wr.alloc (.cells #[.string r.o.nm, .int .i64 r.o.size, .int .i64 r.o.align, .slice r.o.bp r.bs.length r.o.bc, .slice r.o.rp r.rls.length r.o.rc] TOb)))
   generalize wr.alloc (.cells #[.string r.o.nm, .int .i64 r.o.size, .int .i64 r.o.align, .slice r.o.bp r.bs.length r.o.bc, .slice r.o.rp r.rls.length r.o.rc] TOb) = W1 at *
   clear j0 j1 j2 j3 j4 hold k0
   go_cut [4] from 29 to 44 (fun lv wx => ∃ (p : Option Addr) (c : Nat), lv = .slice p (L ++ [hdT r.o]).length c ∧ Hid (OwnS W0.heap.size wx p c (L ++ [hdT r.o])) ∧ Hid (SK W0 W1 wx))
   case first =>
    have L0 : ∀ Y, SK W0 W1 Y → Y.cell? ⟨wr.heap.size, 0, none⟩ = some (.string r.o.nm) := fun Y h => (Lib.cell_of_heap (h.2 _ _ _ N1.out (by decide)) 0).trans rfl
    have L1 : ∀ Y, SK W0 W1 Y → Y.cell? ⟨wr.heap.size, 1, none⟩ = some (.int .i64 r.o.size) := fun Y h => (Lib.cell_of_heap (h.2 _ _ _ N1.out (by decide)) 1).trans rfl
    have L2 : ∀ Y, SK W0 W1 Y → Y.cell? ⟨wr.heap.size, 2, none⟩ = some (.int .i64 r.o.align) := fun Y h => (Lib.cell_of_heap (h.2 _ _ _ N1.out (by decide)) 2).trans rfl
    have C1 : Hid (∀ Y, Calls Tryz.prog 64 #[.int .i64 r.o.size] Y fun e w' => e = .returned (.string (decS r.o.size)) ∧ Below Y.heap.size Y w') := fun Y => rdec_c r.o.size Y HR.out.sz.1 HR.out.sz.2
    have C2 : Hid (∀ Y, Calls Tryz.prog 64 #[.int .i64 r.o.align] Y fun e w' => e = .returned (.string (decS r.o.align)) ∧ Below Y.heap.size Y w') := fun Y => rdec_c r.o.align Y HR.out.al.1 HR.out.al.2
    have z1 := decS_sm HR.out.sz
    have z2 := decS_sm HR.out.al
    have zn := HR.out.nm
    have HT : Hid (hdT r.o = (((((⟨#[111, 98, 106, 101, 99, 116, 32]⟩ ++ r.o.nm) ++ ⟨#[32]⟩) ++ decS r.o.size) ++ ⟨#[32]⟩) ++ decS r.o.align)) := rfl
    generalize hdT r.o = HD at *
    generalize decS r.o.size = D1 at *
    generalize decS r.o.align = D2 at *
    have y0 : ByteArray.size ⟨#[111, 98, 106, 101, 99, 116, 32]⟩ ≤ 100 := (by decide)
    obtain ⟨k0, y1⟩ := cat1 y0 zn (by decide)
    obtain ⟨k1, y2⟩ := cat1 (b := ⟨#[32]⟩) (n := 100) y1 (by decide) (by decide)
    obtain ⟨k2, y3⟩ := cat1 y2 z1 (by decide)
    obtain ⟨k3, y4⟩ := cat1 (b := ⟨#[32]⟩) (n := 100) y3 (by decide) (by decide)
    obtain ⟨k4, y5⟩ := cat1 y4 z2 (by decide)
    clear y0 y1 y2 y3 y4 y5
    have HSH : SH W1 W1 := SH.refl W1
    have HSK : SK W0 W1 W1 := SK.of_sh HS1.out HSH
    go_region_held3 (fun Y => SK W0 W1 Y) (with_reducible first | assumption | (refine SK.drew ?_; assumption) | (refine SK.alloc ?_ _; assumption) | (refine SK.drew ?_; refine SK.alloc ?_ _; assumption)) (first
     | (go_at_call_of 64 (Value.int .i64 r.o.size); refine (C1.out _).mono ?_; rintro e y1 ⟨rfl, hy1⟩; have HY1 : SH W1 y1 := SH.below (SH.drew HSH) hy1; have HK1 : SK W0 W1 y1 := SK.of_sh HS1.out HY1)
     | (go_at_call 64; refine (C2.out _).mono ?_; rintro e y2 ⟨rfl, hy2⟩; have HY2 : SH W1 y2 := SH.below HY1 hy2; have HK2 : SK W0 W1 y2 := SK.of_sh HS1.out HY2)
     | (refine step_append_str rfl (.tmp 29) (.tmp 43) rfl W0 W0.heap.size L vp vc rfl (HO1.out.below (SH.alloc HY2 _)) (SK.alloc HK2 _).1 (SK.alloc HK2 _).1.size HD y2.heap.size 1 rfl (by rw [HT.out]; exact cells_new y2 #[.string _] TStr) (by omega) ?_; intro p9 c9 w9 q1 q2 q3; have HQ1 : Hid (OwnS _ _ _ _ _) := q1; have HK9 : SK W0 W1 w9 := ⟨q2, fun g cs ty hg ht => q3 g cs ty ((SK.alloc HK2 _).2 g cs ty hg ht) ht⟩; clear q1 q2 q3))
    all_goals go_wp2_with fail
    go_meet
    exact ⟨_, _, by rw [List.length_append]; rfl, HQ1, HK9⟩
   case rest =>
    obtain ⟨p2, c2, rfl, HO2, HK2⟩ := hcut
    clear HO HO1 hcap
    have hbm := HR.out.bn
    have hlb := dtL_len r.bs
    have HD : Hid (dtL r.bs = if dataT r.bs = ⟨#[]⟩ then [] else [dataT r.bs]) := rfl
    have hln2 : (L ++ [hdT r.o]).length ≤ 100000001 := by simp only [List.length_append, List.length_cons, List.length_nil]; omega
    have HL2 : Hid (L ++ obT r = (L ++ [hdT r.o] ++ dtL r.bs) ++ r.rls.map rlT) := by show _ = _; simp [obT, List.append_assoc]
    rw [HL2.out] at HL
    generalize L ++ [hdT r.o] = L2 at *
    generalize dtL r.bs = DL at *
    have N2 : Hid (wc.heap[wr.heap.size]? = _) := HK2.out.2 _ _ _ N1.out (by decide)
    have x3 := (Lib.cell_of_heap N2.out 3).trans rfl
    have cD := rdata_c ((HQ.out wc (HB0.out.trans (HK2.out.1.mono HB0.out.size))).br) hbm
    generalize dataT r.bs = DT at *
    go_upto_if 50 with (first | (go_at_call 65; refine cD.mono ?_; rintro e w3 ⟨rfl, hb3⟩; have HB3 : Hid (SH wc w3) := hb3; clear hb3 cD) | fail)
    have HK3 : Hid (SK W0 W1 w3) := HK2.out.sh HB3.out
    have HO3 : Hid (OwnS W0.heap.size w3 p2 c2 L2) := HO2.out.below HB3.out
    clear x3
    go_cut [4] from 50 to 54 (fun lv wx => ∃ (p : Option Addr) (c : Nat), lv = .slice p (L2 ++ DL).length c ∧ Hid (OwnS W0.heap.size wx p c (L2 ++ DL)) ∧ Hid (SK W0 W1 wx))
    case first =>
     by_cases hd : DT = ⟨#[]⟩
     ·obtain rfl : DL = [] := HD.out.trans (if_pos hd)
      have d0 : DT.toList.isEmpty = true := by rw [hd]; decide +kernel
      rw [d0]
      clear hd
      go_wp2
      go_meet
      exact ⟨_, _, by rw [List.append_nil], Lib.hid (by rw [List.append_nil]; exact HO3.out), HK3⟩
     ·obtain rfl : DL = [DT] := HD.out.trans (if_neg hd)
      have d0 : DT.toList.isEmpty = false := toList_no hd
      have HOA : Hid (OwnS W0.heap.size (w3.alloc (.cells #[.string DT] TStr)) p2 c2 L2) := HO3.out.below (below1 w3 _)
      have HKA : Hid (SK W0 W1 (w3.alloc (.cells #[.string DT] TStr))) := HK3.out.alloc _
      have NC := cells_new w3 #[.string DT] TStr
      obtain ⟨i0, hi0, hz0, hz1, hz2⟩ := info_parts infoS
      rw [d0]
      clear hd d0
      go_wp2_with (first | (at_builtin; refine wpList_append_own _ rfl _ _ 83 rfl W0.heap.size TStr i0 (.string ⟨#[]⟩) 1 16 Tryz.underlying83 hi0 hz0 hz1 hz2 rfl (by decide) _ _ _ rfl HOA.out ⟨w3.heap.size, 0, none⟩ 1 1 [.string DT] rfl rfl NC (by intro u hu; simp at hu; subst hu; rfl) (by unfold maxLen; omega) (by omega) HKA.out.1.size ?_) | fail)
      intro v9 w9 q1 q2 _
      obtain ⟨p9, c9, rfl, k1, k2, k3⟩ := ownS_step HOA.out HKA.out.1 HKA.out.1.size q1 q2
      have HQ1 : Hid (OwnS _ _ _ _ _) := k1
      have HK9 : Hid (SK W0 W1 w9) := ⟨k2, fun g cs ty hg ht => k3 g cs ty (HKA.out.2 g cs ty hg ht) ht⟩
      clear q1 q2 k1 k2 k3
      go_wp2
      go_meet
      exact ⟨_, _, by rw [List.length_append]; rfl, HQ1, HK9⟩
    case rest =>
     obtain ⟨p4, c4, rfl, HO4, HK4⟩ := hcut
     have hln4 : (L2 ++ DL).length ≤ 100000002 := by rw [List.length_append]; omega
     generalize L2 ++ DL = L4 at *
     have hrm := HR.out.rn
     go_wp2
     clear HO2 HK2 HO3 HK3 HB3 N2 HD hlb
     go_loopw [4, 9] (fun lv iv wx => ∃ (j : Nat) (p : Option Addr) (c : Nat), iv = .int .i64 j ∧ j ≤ r.rls.length ∧ lv = .slice p (L4 ++ (r.rls.take j).map rlT).length c ∧ Hid (OwnS W0.heap.size wx p c (L4 ++ (r.rls.take j).map rlT)) ∧ Hid (SK W0 W1 wx)) (fun _ iv _ => r.rls.length - (intOf iv).toNat)
     case atStart => exact ⟨0, p4, c4, rfl, Nat.zero_le _, by simp, by simpa using HO4, HK4⟩
     case round =>
      rename World => wx
      obtain ⟨j, p5, c5, rfl, hj, rfl, HO5, HK5⟩ := hrel
      have N5 : Hid (wx.heap[wr.heap.size]? = _) := HK5.out.2 _ _ _ N1.out (by decide)
      have x4 := (Lib.cell_of_heap N5.out 4).trans rfl
      by_cases hlj : j < r.rls.length
      ·obtain ⟨y, hy⟩ : ∃ s, r.rls[j]? = some s := ⟨_, List.getElem?_eq_getElem hlj⟩
       have hmem := List.mem_of_getElem? hy
       have hrow := (HQ.out wx (HB0.out.trans (HK5.out.1.mono HB0.out.size))).rr
       obtain ⟨g2, o2, hrp, hgl, hc⟩ := hrow.2 j y hy
       have hcap2 := hrow.1.1
       have HRP : Hid (r.o.rp = some ⟨g2, o2, none⟩) := hrp
       rw [hrp] at x4
       have j0 := hc 0 (by omega)
       have j1 := hc 1 (by omega)
       have j2 := hc 2 (by omega)
       simp only [rlC, List.getElem?_cons_zero, List.getElem?_cons_succ, Nat.add_zero] at j0 j1 j2
       have HY : Hid (Sm y.off ∧ Sm y.glob ∧ Sm y.add) := HR.out.rl y hmem
       have HL5 : Hid (L4 ++ (r.rls.take (j + 1)).map rlT = L4 ++ (r.rls.take j).map rlT ++ [rlT y]) := by
        show _ = _
        rw [take_succ hy, List.map_append, ← List.append_assoc]; rfl
       have hln5 : (L4 ++ (r.rls.take j).map rlT).length ≤ 100100002 := by
        rw [List.length_append, List.length_map, List.length_take]
        omega
       generalize L4 ++ (r.rls.take j).map rlT = L5 at *
       have hold := heap_r0 wx (.cells #[.int .i64 0, .int .i64 0, .int .i64 0] TRl)
       have N6 : Hid ((wx.alloc (.cells #[.int .i64 y.off, .int .i64 y.glob, .int .i64 y.add] TRl)).heap[wx.heap.size]? = some (.cells #[.int .i64 y.off, .int .i64 y.glob, .int .i64 y.add] TRl (0, 0))) := heap_r0 wx _
       have b6 : SH wx (wx.alloc (.cells #[.int .i64 y.off, .int .i64 y.glob, .int .i64 y.add] TRl)) := below1 wx _
       have HO6 : Hid (OwnS W0.heap.size (wx.alloc (.cells #[.int .i64 y.off, .int .i64 y.glob, .int .i64 y.add] TRl)) p5 c5 L5) := HO5.out.below b6
       have HK6 : Hid (SK W0 W1 (wx.alloc (.cells #[.int .i64 y.off, .int .i64 y.glob, .int .i64 y.add] TRl))) := HK5.out.sh b6
       clear hy hmem hrow hgl hc hrp b6
       go_upto_region 15 with (first | ((with_reducible apply step_store hold); rfl; rfl; kernel_rfl; rfl; kernel_rfl; rw [World.setRow_alloc_new]) | fail)
       refine (?_ : Code.wp _ _ _ _ (wx.alloc (.cells #[.int .i64 y.off, .int .i64 y.glob, .int .i64 y.add] TRl)))
       generalize wx.alloc (.cells #[.int .i64 y.off, .int .i64 y.glob, .int .i64 y.add] TRl) = W6 at *
       clear j0 j1 j2 hold x4
       have L0 : ∀ Y, SK W0 W6 Y → Y.cell? ⟨wx.heap.size, 0, none⟩ = some (.int .i64 y.off) := fun Y h => (Lib.cell_of_heap (h.2 _ _ _ N6.out (by decide)) 0).trans rfl
       have L1 : ∀ Y, SK W0 W6 Y → Y.cell? ⟨wx.heap.size, 1, none⟩ = some (.int .i64 y.glob) := fun Y h => (Lib.cell_of_heap (h.2 _ _ _ N6.out (by decide)) 1).trans rfl
       have L2 : ∀ Y, SK W0 W6 Y → Y.cell? ⟨wx.heap.size, 2, none⟩ = some (.int .i64 y.add) := fun Y h => (Lib.cell_of_heap (h.2 _ _ _ N6.out (by decide)) 2).trans rfl
       have C1 : Hid (∀ Y, Calls Tryz.prog 64 #[.int .i64 y.off] Y fun e w' => e = .returned (.string (decS y.off)) ∧ Below Y.heap.size Y w') := fun Y => rdec_c y.off Y HY.out.1.1 HY.out.1.2
       have C2 : Hid (∀ Y, Calls Tryz.prog 64 #[.int .i64 y.glob] Y fun e w' => e = .returned (.string (decS y.glob)) ∧ Below Y.heap.size Y w') := fun Y => rdec_c y.glob Y HY.out.2.1.1 HY.out.2.1.2
       have C3 : Hid (∀ Y, Calls Tryz.prog 64 #[.int .i64 y.add] Y fun e w' => e = .returned (.string (decS y.add)) ∧ Below Y.heap.size Y w') := fun Y => rdec_c y.add Y HY.out.2.2.1 HY.out.2.2.2
       have z1 := decS_sm HY.out.1
       have z2 := decS_sm HY.out.2.1
       have z3 := decS_sm HY.out.2.2
       have HT : Hid (rlT y = (((((⟨#[114, 101, 108, 111, 99, 32]⟩ ++ decS y.off) ++ ⟨#[32]⟩) ++ decS y.glob) ++ ⟨#[32]⟩) ++ decS y.add)) := rfl
       generalize rlT y = HD at *
       generalize decS y.off = D1 at *
       generalize decS y.glob = D2 at *
       generalize decS y.add = D3 at *
       have y0 : ByteArray.size ⟨#[114, 101, 108, 111, 99, 32]⟩ ≤ 100 := (by decide)
       obtain ⟨k0, y1⟩ := cat1 y0 z1 (by decide)
       obtain ⟨k1, y2⟩ := cat1 (b := ⟨#[32]⟩) (n := 100) y1 (by decide) (by decide)
       obtain ⟨k2, y3⟩ := cat1 y2 z2 (by decide)
       obtain ⟨k3, y4⟩ := cat1 (b := ⟨#[32]⟩) (n := 100) y3 (by decide) (by decide)
       obtain ⟨k4, y5⟩ := cat1 y4 z3 (by decide)
       clear y0 y1 y2 y3 y4 y5
       have HSH : SH W6 W6 := SH.refl W6
       have H0K : SH W0 W6 := HK6.out.1
       have HSK : SK W0 W6 W6 := SK.of_sh H0K HSH
       go_region_held3 (fun Y => SK W0 W6 Y) (with_reducible first | assumption | (refine SK.drew ?_; assumption) | (refine SK.alloc ?_ _; assumption) | (refine SK.drew ?_; refine SK.alloc ?_ _; assumption)) (first
        | (go_at_call_of 64 (Value.int .i64 y.off); refine (C1.out _).mono ?_; rintro e y1 ⟨rfl, hy1⟩; have HY1 : SH W6 y1 := SH.below (SH.drew HSH) hy1; have HK1 : SK W0 W6 y1 := SK.of_sh H0K HY1)
        | (go_at_call_of 64 (Value.int .i64 y.glob); refine (C2.out _).mono ?_; rintro e y2 ⟨rfl, hy2⟩; have HY2 : SH W6 y2 := SH.below HY1 hy2; have HK2 : SK W0 W6 y2 := SK.of_sh H0K HY2)
        | (go_at_call 64; refine (C3.out _).mono ?_; rintro e y3 ⟨rfl, hy3⟩; have HY3 : SH W6 y3 := SH.below HY2 hy3; have HK3 : SK W0 W6 y3 := SK.of_sh H0K HY3)
        | (refine step_append_str rfl (.tmp 69) (.tmp 84) rfl W0 W0.heap.size L5 p5 c5 rfl (HO6.out.below (SH.alloc HY3 _)) (SK.alloc HK3 _).1 (SK.alloc HK3 _).1.size HD y3.heap.size 1 rfl (by rw [HT.out]; exact cells_new y3 #[.string _] TStr) (by omega) ?_; intro p9 c9 w9 q1 q2 q3; have HQ1 : Hid (OwnS _ _ _ _ _) := q1; have HK9 : SK W0 W6 w9 := ⟨q2, fun g cs ty hg ht => q3 g cs ty ((SK.alloc HK3 _).2 g cs ty hg ht) ht⟩; clear q1 q2 q3))
       all_goals go_wp2_with fail
       refine ⟨⟨j + 1, p9, c9, by go_num, by omega, by rw [HL5.out, List.length_append]; rfl, Lib.hid (by rw [HL5.out]; exact HQ1.out), ⟨HK9.1, fun g cs ty hg ht => HK9.2 g cs ty (HK6.out.2 g cs ty hg ht) ht⟩⟩, by simp [intOf]; omega⟩
      ·obtain rfl : j = r.rls.length := by omega
       rw [List.take_length] at HO5
       go_wp2
       refine ⟨⟨k + 1, p5, c5, by go_num, by omega, by rw [HL.out, List.take_length], Lib.hid (by rw [HL.out]; exact HO5.out), HK5.out.1⟩, by simp [intOf]; omega⟩
  ·obtain rfl : k = obs.length := by omega
   rw [List.take_length] at HO
   rw [List.take_length]
   have hfl : (obs.flatMap obT).length ≤ obs.length * 100002 := by simpa using flat_len (l := obs) (fun q hq => obT_len (HG.out.ob q hq)) obs.length
   have hob : obs.length ≤ 256 := HG.out.on
   have hlb : (obs.flatMap obT).length ≤ 30000000 := Nat.le_trans hfl (by omega)
   have hfn : fns.length ≤ 64 := HG.out.fn
   generalize obs.flatMap obT = LB at *
   clear hfl hob hlt hk
   go_wp2
   clear k0
   go_loopw [4, 11] (fun lv iv wr => ∃ (k : Nat) (vp : Option Addr) (vc : Nat), iv = .int .i64 k ∧ k ≤ fns.length ∧ lv = .slice vp (LB ++ (fns.take k).flatMap fnT).length vc ∧ Hid (OwnS W0.heap.size wr vp vc (LB ++ (fns.take k).flatMap fnT)) ∧ Hid (SH W0 wr)) (fun _ iv _ => fns.length - (intOf iv).toNat)
   case atStart => exact ⟨0, vp, vc, rfl, Nat.zero_le _, by simp, by simpa using HO, HS⟩
   clear HO HS HBR
   case round =>
    rename World => wr
    obtain ⟨k, vp, vc, rfl, hk, rfl, HO, HS⟩ := hrel
    have k1 := (Lib.cell_of_heap (blk_b N0.out HS.out) 1).trans rfl
    have HBR : Hid (Below w.heap.size w wr) := HB0.out.trans (Below.mono HS.out HB0.out.size)
    by_cases hlt : k < fns.length
    ·obtain ⟨r, hs⟩ : ∃ s, fns[k]? = some s := ⟨_, List.getElem?_eq_getElem hlt⟩
     have hmem := List.mem_of_getElem? hs
     have hrow := (HX.out wr HBR.out).fr
     simp only at hrow
     obtain ⟨g, o, rfl, hgl, hc⟩ := hrow.2 k r hs
     have hcap := hrow.1.1
     have j0 := hc 0 (by omega)
     have j1 := hc 1 (by omega)
     have j2 := hc 2 (by omega)
     have j3 := hc 3 (by omega)
     have j4 := hc 4 (by omega)
     have j5 := hc 5 (by omega)
     simp only [fgC, fnC, List.getElem?_cons_zero, List.getElem?_cons_succ, Nat.add_zero] at j0 j1 j2 j3 j4 j5
     have hsn := ((HX.out wr HBR.out).fi r hmem).sn
     have hcn := ((HX.out wr HBR.out).fi r hmem).cn
     rw [hsn] at j4
     rw [hcn] at j5
     have HQ : Hid (∀ Y, Below w.heap.size w Y → FgOK Y r) := fun Y hY => (HX.out Y hY).fi r hmem
     have HR : Hid (FgR r) := HG.out.fg r hmem
     have HL : Hid (LB ++ (fns.take (k + 1)).flatMap fnT = LB ++ (fns.take k).flatMap fnT ++ fnT r) := by
      show _ = _
      rw [take_succ hs, List.flatMap_append, ← List.append_assoc]; simp
     have hfl : ((fns.take k).flatMap fnT).length ≤ fns.length * 200001 := flat_len (fun q hq => fnT_len (HG.out.fg q hq)) k
     have hln : (LB ++ (fns.take k).flatMap fnT).length ≤ 100000000 := by rw [List.length_append]; omega
     generalize LB ++ (fns.take k).flatMap fnT = L at *
     have hold := heap_r0 wr (.cells #[.string ⟨#[]⟩, .int .i64 0, .int .i64 0, .bool false, .slice none 0 0, .slice none 0 0] TFn)
     have N1 : Hid ((wr.alloc (.cells #[.string r.f.nm, .int .i64 r.f.pr, .int .i64 r.f.tp, .bool r.f.gv, .slice r.f.sp r.sls.length r.f.sc, .slice r.f.cp r.code.length r.f.cc] TFn)).heap[wr.heap.size]? = some (.cells #[.string r.f.nm, .int .i64 r.f.pr, .int .i64 r.f.tp, .bool r.f.gv, .slice r.f.sp r.sls.length r.f.sc, .slice r.f.cp r.code.length r.f.cc] TFn (0, 0))) := heap_r0 wr _
     have b5 : SH wr (wr.alloc (.cells #[.string r.f.nm, .int .i64 r.f.pr, .int .i64 r.f.tp, .bool r.f.gv, .slice r.f.sp r.sls.length r.f.sc, .slice r.f.cp r.code.length r.f.cc] TFn)) := below1 wr _
     have HO1 : Hid (OwnS W0.heap.size (wr.alloc (.cells #[.string r.f.nm, .int .i64 r.f.pr, .int .i64 r.f.tp, .bool r.f.gv, .slice r.f.sp r.sls.length r.f.sc, .slice r.f.cp r.code.length r.f.cc] TFn)) vp vc L) := HO.out.below b5
     have HS1 : Hid (SH W0 (wr.alloc (.cells #[.string r.f.nm, .int .i64 r.f.pr, .int .i64 r.f.tp, .bool r.f.gv, .slice r.f.sp r.sls.length r.f.sc, .slice r.f.cp r.code.length r.f.cc] TFn))) := SH.below HS.out b5
     have HW1 : Hid (W0.heap.size ≤ wr.heap.size) := Below.size HS.out
     clear hs hgl hc b5 hrow hmem hsn hcn hfl
     go_upto_region 20 with (first | ((with_reducible apply step_store hold); rfl; rfl; kernel_rfl; rfl; kernel_rfl; rw [World.setRow_alloc_new]) | fail)
     refine (?_ : Code.wp _ _ _ _ (wr.alloc (.cells #[.string r.f.nm, .int .i64 r.f.pr, .int .i64 r.f.tp, .bool r.f.gv, .slice r.f.sp r.sls.length r.f.sc, .slice r.f.cp r.code.length r.f.cc] TFn)))
     generalize wr.alloc (.cells #[.string r.f.nm, .int .i64 r.f.pr, .int .i64 r.f.tp, .bool r.f.gv, .slice r.f.sp r.sls.length r.f.sc, .slice r.f.cp r.code.length r.f.cc] TFn) = W1 at *
     clear j0 j1 j2 j3 j4 j5 hold k1
     go_cut [13] from 98 to 110 (fun sv wx => sv = .string (f0T r.f) ∧ Hid (SH W1 wx))
     case first =>
      have L0 : ∀ Y, SH W1 Y → Y.cell? ⟨wr.heap.size, 0, none⟩ = some (.string r.f.nm) := fun Y h => (Lib.cell_of_heap (blk_b N1.out h) 0).trans rfl
      have L1 : ∀ Y, SH W1 Y → Y.cell? ⟨wr.heap.size, 1, none⟩ = some (.int .i64 r.f.pr) := fun Y h => (Lib.cell_of_heap (blk_b N1.out h) 1).trans rfl
      have L2 : ∀ Y, SH W1 Y → Y.cell? ⟨wr.heap.size, 2, none⟩ = some (.int .i64 r.f.tp) := fun Y h => (Lib.cell_of_heap (blk_b N1.out h) 2).trans rfl
      have C1 : Hid (∀ Y, Calls Tryz.prog 64 #[.int .i64 r.f.pr] Y fun e w' => e = .returned (.string (decS r.f.pr)) ∧ Below Y.heap.size Y w') := fun Y => rdec_c r.f.pr Y HR.out.pr.1 HR.out.pr.2
      have C2 : Hid (∀ Y, Calls Tryz.prog 64 #[.int .i64 r.f.tp] Y fun e w' => e = .returned (.string (decS r.f.tp)) ∧ Below Y.heap.size Y w') := fun Y => rdec_c r.f.tp Y HR.out.tp.1 HR.out.tp.2
      have z1 := decS_sm HR.out.pr
      have z2 := decS_sm HR.out.tp
      have zn := HR.out.nm
      have HT : Hid (f0T r.f = (((((⟨#[102, 117, 110, 99, 32]⟩ ++ r.f.nm) ++ ⟨#[32]⟩) ++ decS r.f.pr) ++ ⟨#[32]⟩) ++ decS r.f.tp)) := rfl
      generalize f0T r.f = HD at *
      generalize decS r.f.pr = D1 at *
      generalize decS r.f.tp = D2 at *
      have y0 : ByteArray.size ⟨#[102, 117, 110, 99, 32]⟩ ≤ 100 := (by decide)
      obtain ⟨k0, y1⟩ := cat1 y0 zn (by decide)
      obtain ⟨k1, y2⟩ := cat1 (b := ⟨#[32]⟩) (n := 100) y1 (by decide) (by decide)
      obtain ⟨k2, y3⟩ := cat1 y2 z1 (by decide)
      obtain ⟨k3, y4⟩ := cat1 (b := ⟨#[32]⟩) (n := 100) y3 (by decide) (by decide)
      obtain ⟨k4, y5⟩ := cat1 y4 z2 (by decide)
      clear y0 y1 y2 y3 y4 y5
      have HSH : SH W1 W1 := SH.refl W1
      go_region_held3 (fun Y => SH W1 Y) (with_reducible first | assumption | (refine SH.drew ?_; assumption) | (refine SH.below ?_ (by assumption); assumption)) (first
       | (go_at_call_of 64 (Value.int .i64 r.f.pr); refine (C1.out _).mono ?_; rintro e y1 ⟨rfl, hy1⟩; have HY1 : SH W1 y1 := SH.below (SH.drew HSH) hy1)
       | (go_at_call 64; refine (C2.out _).mono ?_; rintro e y2 ⟨rfl, hy2⟩; have HY2 : SH W1 y2 := SH.below HY1 hy2))
      all_goals go_wp2_with fail
      go_meet
      exact ⟨by rw [HT.out], HY2⟩
     case rest =>
      obtain ⟨rfl, HS2⟩ := hcut
      have N2 : Hid (wc.heap[wr.heap.size]? = some (.cells #[.string r.f.nm, .int .i64 r.f.pr, .int .i64 r.f.tp, .bool r.f.gv, .slice r.f.sp r.sls.length r.f.sc, .slice r.f.cp r.code.length r.f.cc] TFn (0, 0))) := blk_b N1.out HS2.out
      have x3 := (Lib.cell_of_heap N2.out 3).trans rfl
      have HF : Hid (fhT r.f = if r.f.gv then f0T r.f ++ ⟨#[32, 103, 105, 118, 101, 115]⟩ else f0T r.f) := rfl
      have hz0 : (f0T r.f).size ≤ 2000000 := f0T_size HR.out
      go_upto_if 112 with (fail)
      go_cut [13] from 112 to 114 (fun sv wx => sv = .string (fhT r.f) ∧ Hid (SH W1 wx))
      case first =>
       generalize fhT r.f = FH at *
       generalize f0T r.f = F0 at *
       generalize r.f.gv = gv at *
       have kk := fun W => run_string_add_sum (P := Tryz.prog) W F0 ⟨#[32, 103, 105, 118, 101, 115]⟩ (by have : ByteArray.size ⟨#[32, 103, 105, 118, 101, 115]⟩ ≤ 100 := (by decide); omega)
       cases gv with
       | true =>
        go_wp2
        go_meet
        exact ⟨by rw [HF.out]; rfl, HS2⟩
       | false =>
        go_wp2
        go_meet
        exact ⟨by rw [HF.out]; rfl, HS2⟩
      case rest =>
       obtain ⟨rfl, HS3⟩ := hcut
       have HO3 : Hid (OwnS W0.heap.size wc vp vc L) := HO1.out.below HS3.out
       have HK3 : Hid (SK W0 W1 wc) := SK.of_sh HS1.out HS3.out
       have HL2 : Hid (L ++ fnT r = (L ++ [fhT r.f] ++ r.sls.map slT) ++ r.code.map fun i => lnT i.x) := by show _ = _; simp [fnT, List.append_assoc]
       rw [HL2.out] at HL
       have hln3 : (L ++ [fhT r.f]).length ≤ 100000001 := by simp only [List.length_append, List.length_cons, List.length_nil]; omega
       have hl1 : (L ++ [fhT r.f]).length = L.length + 1 := by simp
       clear HL2 HF hz0 N2 x3 HS2 HO HO1
       generalize fhT r.f = FH at *
       have HOA : Hid (OwnS W0.heap.size (wc.alloc (.cells #[.string FH] TStr)) vp vc L) := HO3.out.below (below1 wc _)
       have HKA : Hid (SK W0 W1 (wc.alloc (.cells #[.string FH] TStr))) := HK3.out.alloc _
       have NC := cells_new wc #[.string FH] TStr
       obtain ⟨i0, hi0, hz0, hz1, hz2⟩ := info_parts infoS
       go_wp2_with (first | (at_builtin; refine wpList_append_own _ rfl _ _ 83 rfl W0.heap.size TStr i0 (.string ⟨#[]⟩) 1 16 Tryz.underlying83 hi0 hz0 hz1 hz2 rfl (by decide) _ _ _ rfl HOA.out ⟨wc.heap.size, 0, none⟩ 1 1 [.string FH] rfl rfl NC (by intro u hu; simp at hu; subst hu; rfl) (by unfold maxLen; omega) (by omega) HKA.out.1.size ?_) | fail)
       intro v9 w9 q1 q2 _
       obtain ⟨p9, c9, rfl, k1, k2, k3⟩ := ownS_step HOA.out HKA.out.1 HKA.out.1.size q1 q2
       have HO9 : Hid (OwnS _ _ _ _ _) := k1
       have HK9 : Hid (SK W0 W1 w9) := ⟨k2, fun g cs ty hg ht => k3 g cs ty (HKA.out.2 g cs ty hg ht) ht⟩
       rw [← hl1]
       clear q1 q2 k1 k2 k3 NC HOA HKA HO3 HK3 HS3 hl1
       generalize L ++ [FH] = L3 at *
       go_wp2
       have hsb := HR.out.sn
       go_loopw [4, 14] (fun lv iv wx => ∃ (j : Nat) (p : Option Addr) (c : Nat), iv = .int .i64 j ∧ j ≤ r.sls.length ∧ lv = .slice p (L3 ++ (r.sls.take j).map slT).length c ∧ Hid (OwnS W0.heap.size wx p c (L3 ++ (r.sls.take j).map slT)) ∧ Hid (SK W0 W1 wx)) (fun _ iv _ => r.sls.length - (intOf iv).toNat)
       case atStart => exact ⟨0, p9, c9, rfl, Nat.zero_le _, by simp, by simpa using HO9, HK9⟩
       case round =>
        rename World => wx
        obtain ⟨j, p5, c5, rfl, hj, rfl, HO5, HK5⟩ := hrel
        have N5 : Hid (wx.heap[wr.heap.size]? = _) := HK5.out.2 _ _ _ N1.out (by decide)
        have x4 := (Lib.cell_of_heap N5.out 4).trans rfl
        by_cases hlj : j < r.sls.length
        ·obtain ⟨y, hy⟩ : ∃ s, r.sls[j]? = some s := ⟨_, List.getElem?_eq_getElem hlj⟩
         have hmem := List.mem_of_getElem? hy
         have hrow := (HQ.out W0 HB0.out).sl
         obtain ⟨g2, o2, hrp, hgl, hc⟩ := hrow.2 j y hy
         have hcap2 := hrow.1.1
         rw [hrp] at x4 N5
         have j0 := hc 0 (by omega)
         have j1 := hc 1 (by omega)
         simp only [slC, List.getElem?_cons_zero, List.getElem?_cons_succ, Nat.add_zero] at j0 j1
         have HY : Hid (Sm y.size ∧ Sm y.align) := HR.out.sl y hmem
         have HL5 : Hid (L3 ++ (r.sls.take (j + 1)).map slT = L3 ++ (r.sls.take j).map slT ++ [slT y]) := by
          show _ = _
          rw [take_succ hy, List.map_append, ← List.append_assoc]; rfl
         have hln5 : (L3 ++ (r.sls.take j).map slT).length ≤ 100100002 := by
          rw [List.length_append, List.length_map, List.length_take]
          omega
         have L0 : ∀ Y, SK W0 wx Y → Y.cell? ⟨wr.heap.size, 4, none⟩ = some (.slice (some ⟨g2, o2, none⟩) r.sls.length r.f.sc) := fun Y h => (Lib.cell_of_heap (h.2 _ _ _ N5.out (by decide)) 4).trans rfl
         have L1 : ∀ Y, SK W0 wx Y → Y.cell? ⟨g2, o2 + j * 2, none⟩ = some (.int .i64 y.size) := fun Y h => (h.1.cell (p := ⟨g2, o2 + j * 2, none⟩) hgl).trans j0
         have L2 : ∀ Y, SK W0 wx Y → Y.cell? ⟨g2, o2 + j * 2 + 1, none⟩ = some (.int .i64 y.align) := fun Y h => (h.1.cell (p := ⟨g2, o2 + j * 2 + 1, none⟩) hgl).trans j1
         generalize L3 ++ (r.sls.take j).map slT = L5 at *
         have C1 : Hid (∀ Y, Calls Tryz.prog 64 #[.int .i64 y.size] Y fun e w' => e = .returned (.string (decS y.size)) ∧ Below Y.heap.size Y w') := fun Y => rdec_c y.size Y HY.out.1.1 HY.out.1.2
         have C2 : Hid (∀ Y, Calls Tryz.prog 64 #[.int .i64 y.align] Y fun e w' => e = .returned (.string (decS y.align)) ∧ Below Y.heap.size Y w') := fun Y => rdec_c y.align Y HY.out.2.1 HY.out.2.2
         have z1 := decS_sm HY.out.1
         have z2 := decS_sm HY.out.2
         have HT : Hid (slT y = (((⟨#[115, 108, 111, 116, 32]⟩ ++ decS y.size) ++ ⟨#[32]⟩) ++ decS y.align)) := rfl
         generalize slT y = HD at *
         generalize decS y.size = D1 at *
         generalize decS y.align = D2 at *
         have y0 : ByteArray.size ⟨#[115, 108, 111, 116, 32]⟩ ≤ 100 := (by decide)
         obtain ⟨k0, y1⟩ := cat1 y0 z1 (by decide)
         obtain ⟨k1, y2⟩ := cat1 (b := ⟨#[32]⟩) (n := 100) y1 (by decide) (by decide)
         obtain ⟨k2, y3⟩ := cat1 y2 z2 (by decide)
         clear y0 y1 y2 y3
         have HSH : SH wx wx := SH.refl wx
         have H0K : SH W0 wx := HK5.out.1
         have HSK : SK W0 wx wx := SK.of_sh H0K HSH
         clear hy hmem hrow hc hrp hgl j0 j1
         go_upto_region 27 with (fail)
         clear x4
         go_region_held3 (fun Y => SK W0 wx Y) (with_reducible first | assumption | (refine SK.drew ?_; assumption) | (refine SK.alloc ?_ _; assumption) | (refine SK.drew ?_; refine SK.alloc ?_ _; assumption)) (first
          | (go_at_call_of 64 (Value.int .i64 y.size); refine (C1.out _).mono ?_; rintro e y1 ⟨rfl, hy1⟩; have HY1 : SH wx y1 := SH.below (SH.drew HSH) hy1; have HK1 : SK W0 wx y1 := SK.of_sh H0K HY1)
          | (go_at_call 64; refine (C2.out _).mono ?_; rintro e y2 ⟨rfl, hy2⟩; have HY2 : SH wx y2 := SH.below HY1 hy2; have HK2 : SK W0 wx y2 := SK.of_sh H0K HY2)
          | (refine step_append_str rfl (.tmp 126) (.tmp 144) rfl W0 W0.heap.size L5 p5 c5 rfl (HO5.out.below (SH.alloc HY2 _)) (SK.alloc HK2 _).1 (SK.alloc HK2 _).1.size HD y2.heap.size 1 rfl (by rw [HT.out]; exact cells_new y2 #[.string _] TStr) (by omega) ?_; intro p9 c9 w9 q1 q2 q3; have HQ1 : Hid (OwnS _ _ _ _ _) := q1; have HK9 : SK W0 wx w9 := ⟨q2, fun g cs ty hg ht => q3 g cs ty ((SK.alloc HK2 _).2 g cs ty hg ht) ht⟩; clear q1 q2 q3))
         all_goals go_wp2_with fail
         refine ⟨⟨j + 1, _, _, by go_num, by omega, by rw [HL5.out, List.length_append]; rfl, Lib.hid (by rw [HL5.out]; exact HQ1.out), ⟨HK9.1, fun g cs ty hg ht => HK9.2 g cs ty (HK5.out.2 g cs ty hg ht) ht⟩⟩, by simp [intOf]; omega⟩
        ·obtain rfl : j = r.sls.length := by omega
         rw [List.take_length] at HO5
         rw [List.take_length]
         have hln6 : (L3 ++ r.sls.map slT).length ≤ 100100002 := by
          rw [List.length_append, List.length_map]
          omega
         generalize L3 ++ r.sls.map slT = L6 at *
         clear HO9 HK9 hlj hj hsb
         go_wp2
         clear x4
         have hcb := HR.out.cn
         go_loopw [4, 15] (fun lv iv wx => ∃ (j : Nat) (p : Option Addr) (c : Nat), iv = .int .i64 j ∧ j ≤ r.code.length ∧ lv = .slice p (L6 ++ (r.code.take j).map fun i => lnT i.x).length c ∧ Hid (OwnS W0.heap.size wx p c (L6 ++ (r.code.take j).map fun i => lnT i.x)) ∧ Hid (SK W0 W1 wx)) (fun _ iv _ => r.code.length - (intOf iv).toNat)
         case atStart => exact ⟨0, p5, c5, rfl, Nat.zero_le _, by simp, by simpa using HO5, HK5⟩
         clear HO5 HK5 N5
         case round =>
          rename World => wx
          obtain ⟨j, p5, c5, rfl, hj, rfl, HO5, HK5⟩ := hrel
          have N5 : Hid (wx.heap[wr.heap.size]? = _) := HK5.out.2 _ _ _ N1.out (by decide)
          have x5 := (Lib.cell_of_heap N5.out 5).trans rfl
          by_cases hlj : j < r.code.length
          ·obtain ⟨y, hy⟩ : ∃ s, r.code[j]? = some s := ⟨_, List.getElem?_eq_getElem hlj⟩
           have hmem := List.mem_of_getElem? hy
           have hBx : Below w.heap.size w wx := HB0.out.trans (HK5.out.1.mono HB0.out.size)
           have hrow := (HQ.out wx hBx).cr
           obtain ⟨g2, o2, hrp, hgl, hc⟩ := hrow.2 j y hy
           have hcap2 := hrow.1.1
           rw [hrp] at x5
           simp only [iwC, inCells] at hc
           have j0 := hc 0 (by omega)
           have j1 := hc 1 (by omega)
           have j2 := hc 2 (by omega)
           have j3 := hc 3 (by omega)
           have j4 := hc 4 (by omega)
           have j5 := hc 5 (by omega)
           have j6 := hc 6 (by omega)
           have j7 := hc 7 (by omega)
           have j8 := hc 8 (by omega)
           have j9 := hc 9 (by omega)
           have j10 := hc 10 (by omega)
           have j11 := hc 11 (by omega)
           simp only [List.getElem?_cons_zero, List.getElem?_cons_succ, Nat.add_zero] at j0 j1 j2 j3 j4 j5 j6 j7 j8 j9 j10 j11
           have cL := rLine_c (HR.out.ci y hmem) wx ((HQ.out wx hBx).ci y hmem).ar
           simp only [inCells] at cL
           have HL5 : Hid (L6 ++ (r.code.take (j + 1)).map (fun i => lnT i.x) = L6 ++ (r.code.take j).map (fun i => lnT i.x) ++ [lnT y.x]) := by
            show _ = _
            rw [take_succ hy, List.map_append, ← List.append_assoc]; rfl
           have hln5 : (L6 ++ (r.code.take j).map fun i => lnT i.x).length ≤ 100200002 := by
            rw [List.length_append, List.length_map, List.length_take]
            omega
           generalize (L6 ++ (r.code.take j).map fun i => lnT i.x) = L5 at *
           generalize lnT y.x = HD at *
           have hl1 : (L5 ++ [HD]).length = L5.length + 1 := by simp
           clear hy hmem hrow hc hrp hgl hBx
           go_wp2_with (first
            | (go_at_call 66; refine cL.mono ?_; rintro e w3 ⟨rfl, hb3⟩; have HOA : Hid (OwnS W0.heap.size (w3.alloc (.cells #[.string HD] TStr)) p5 c5 L5) := HO5.out.below (SH.alloc hb3 _); have HKA : Hid (SK W0 W1 (w3.alloc (.cells #[.string HD] TStr))) := HK5.out.sh (SH.alloc hb3 _); have NC := cells_new w3 #[.string HD] TStr; clear hb3 cL j0 j1 j2 j3 j4 j5 j6 j7 j8 j9 j10 j11 x5)
            | (at_builtin; refine wpList_append_own _ rfl _ _ 83 rfl W0.heap.size TStr i0 (.string ⟨#[]⟩) 1 16 Tryz.underlying83 hi0 hz0 hz1 hz2 rfl (by decide) _ _ _ rfl HOA.out ⟨w3.heap.size, 0, none⟩ 1 1 [.string HD] rfl rfl NC (by intro u hu; simp at hu; subst hu; rfl) (by unfold maxLen; omega) (by omega) HKA.out.1.size ?_)
            | fail)
           intro v9 w9 q1 q2 _
           obtain ⟨p9, c9, rfl, k1, k2, k3⟩ := ownS_step HOA.out HKA.out.1 HKA.out.1.size q1 q2
           have HQ1 : Hid (OwnS _ _ _ _ _) := k1
           have HK9 : Hid (SK W0 W1 w9) := ⟨k2, fun g cs ty hg ht => k3 g cs ty (HKA.out.2 g cs ty hg ht) ht⟩
           clear q1 q2 k1 k2 k3
           go_wp2
           refine ⟨⟨j + 1, p9, c9, by go_num, by omega, by rw [HL5.out, hl1], Lib.hid (by rw [HL5.out]; exact HQ1.out), HK9⟩, by simp [intOf]; omega⟩
          ·obtain rfl : j = r.code.length := by omega
           rw [List.take_length] at HO5
           go_wp2
           refine ⟨⟨k + 1, p5, c5, by go_num, by omega, by rw [HL.out, List.take_length], Lib.hid (by rw [HL.out]; exact HO5.out), HK5.out.1⟩, by simp [intOf]; omega⟩
    ·obtain rfl : k = fns.length := by omega
     rw [List.take_length] at HO
     rw [List.take_length]
     have hfl : (fns.flatMap fnT).length ≤ fns.length * 200001 := by simpa using flat_len (l := fns) (fun q hq => fnT_len (HG.out.fg q hq)) fns.length
     have hln : (LB ++ fns.flatMap fnT).length ≤ 100000000 := by rw [List.length_append]; omega
     generalize LB ++ fns.flatMap fnT = L at *
     have x2 := (Lib.cell_of_heap (blk_b N0.out HS.out) 2).trans rfl
     have HM : Hid (Sm mn) := HG.out.mn
     have C1 : Hid (∀ Y, Calls Tryz.prog 64 #[.int .i64 mn] Y fun e w' => e = .returned (.string (decS mn)) ∧ Below Y.heap.size Y w') := fun Y => rdec_c mn Y HM.out.1 HM.out.2
     have z1 := decS_sm HM.out
     have HT : Hid (mnT mn = ⟨#[109, 97, 105, 110, 32]⟩ ++ decS mn) := rfl
     generalize decS mn = D1 at *
     have kk := fun W => run_string_add_sum (P := Tryz.prog) W ⟨#[109, 97, 105, 110, 32]⟩ D1 (by have : ByteArray.size ⟨#[109, 97, 105, 110, 32]⟩ ≤ 100 := (by decide); omega)
     rw [← HT.out] at kk
     generalize mnT mn = HD at *
     have hl1 : LL.length = L.length + 1 := by rw [HLN.out]; simp
     obtain ⟨i0, hi0, hz0, hz1, hz2⟩ := info_parts infoS
     clear hfl z1 hk hfn hlb
     go_wp2_with (first
      | (go_at_call 64; refine (C1.out _).mono ?_; rintro e w3 ⟨rfl, hb3⟩; have HOA : Hid (OwnS W0.heap.size (w3.alloc (.cells #[.string HD] TStr)) vp vc L) := HO.out.below (SH.alloc hb3 _); have HKA : Hid (Below W0.heap.size W0 (w3.alloc (.cells #[.string HD] TStr))) := SH.alloc (SH.below HS.out hb3) _; have NC := cells_new w3 #[.string HD] TStr; clear hb3 x2 k1)
      | (at_builtin; refine wpList_append_own _ rfl _ _ 83 rfl W0.heap.size TStr i0 (.string ⟨#[]⟩) 1 16 Tryz.underlying83 hi0 hz0 hz1 hz2 rfl (by decide) _ _ _ rfl HOA.out ⟨w3.heap.size, 0, none⟩ 1 1 [.string HD] rfl rfl NC (by intro u hu; simp at hu; subst hu; rfl) (by unfold maxLen; omega) (by omega) HKA.out.size ?_)
      | fail)
     intro v9 w9 q1 q2 _
     obtain ⟨p9, c9, rfl, k1, k2, _⟩ := ownS_step HOA.out HKA.out HKA.out.size q1 q2
     rw [← HLN.out] at k1
     rw [← hl1]
     have HO9 : Hid (OwnS W0.heap.size w9 p9 c9 LL) := k1
     have HB9 : Hid (Below W0.heap.size W0 w9) := k2
     clear q1 q2 k1 k2 NC HOA HKA HO HS HBR kk C1
     have hll : LL.length ≤ 100000001 := by omega
     obtain ⟨g9, cap9, hv9, _, _, hcp9, hcell, _⟩ := own_cell HO9.out (by omega)
     injection hv9 with hv1 hv2 hv3
     subst hv1 hv3
     go_wp2
     go_loopw [5, 16] (fun nv iv wr => ∃ j : Nat, iv = .int .i64 j ∧ j ≤ LL.length ∧ nv = .int .i64 (lenL (LL.take j)) ∧ wr = w9) (fun _ iv _ => LL.length - (intOf iv).toNat)
     case atStart => exact ⟨0, rfl, Nat.zero_le _, rfl, rfl⟩
     case round =>
      obtain ⟨j, rfl, hj, rfl, rfl⟩ := hrel
      have hsum : lenL (LL.take j) ≤ j * 300000001 := lenL_le (fun s hs => HLS.out s (List.mem_of_mem_take hs)) (by rw [List.length_take]; omega)
      by_cases hlj : j < LL.length
      ·obtain ⟨y, hy⟩ : ∃ s, LL[j]? = some s := ⟨_, List.getElem?_eq_getElem hlj⟩
       have hys := HLS.out y (List.mem_of_getElem? hy)
       have a0 := hcell j (.string y) (by simp [stV, hy])
       have hst : lenL (LL.take (j + 1)) = lenL (LL.take j) + (y.size + 1) := by rw [take_succ hy]; simp [lenL]
       generalize lenL (LL.take j) = n at *
       have hw1 : IntKind.i64.wrap ((n : Int) + (y.size : Int)) = ((n + y.size : Nat) : Int) := by rw [wrap_idI (by omega) (by omega)]; omega
       have hw2 : IntKind.i64.wrap (((n + y.size : Nat) : Int) + 1) = ((n + (y.size + 1) : Nat) : Int) := by rw [wrap_idI (by omega) (by omega)]; omega
       clear hy
       go_wp2
       refine ⟨⟨j + 1, by go_num, by omega, by rw [hst]; first | rfl | go_num, by first | rfl | trivial⟩, by simp [intOf]; omega⟩
      ·obtain rfl : j = LL.length := by omega
       rw [List.take_length]
       have hd : decide ((lenL LL : Int) ≤ 1048576) = decide (lenL LL ≤ 1048576) := by rw [Bool.eq_iff_iff]; simp; omega
       go_wp2
       go_ret2
       exact ⟨some ⟨g9, 0, none⟩, c9, by rw [← hd, hl1]; rfl, own_mono HO9.out HB0.out.size, HB0.out.trans (HB9.out.mono HB0.out.size)⟩
end
end Go.Proofs.YtelaaaamnphbpaaGreatDoor