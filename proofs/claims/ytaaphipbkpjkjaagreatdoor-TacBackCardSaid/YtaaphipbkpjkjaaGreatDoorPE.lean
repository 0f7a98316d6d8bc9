/-
  The law that what is written is read again, at every program that came in.
  The text that a right program is written as is read: attempt and Parse of package tac.
-/
import Derived.Test.YtaaphipbkpjkjaaGreatDoorTkI
import Derived.Test.YtaaphipbkpjkjaaGreatDoorKS
import Derived.Test.YtaaphipbkpjkjaaGreatDoorNQ
import Derived.Test.YtaaphipbkpjkjaaGreatDoorTjD
import Derived.Test.YtaaphipbkpjkjaaGreatDoorTcJ
import Derived.Test.YtaaphipbkpjkjaaGreatDoorTiC
namespace Go.Proofs.YtaaphipbkpjkjaaGreatDoor
open Go.RowKit Go.Maps
set_option linter.unusedVariables false
set_option linter.unusedSimpArgs false
set_option maxRecDepth 100000
theorem own_low {B : Nat} {w w' : World} {t : TypeId} {k n : Nat} {v : Value} {xs : List Value} {S : Nat → Prop} (h : w.ownsRow B t k v n xs) (ht : Turned w w' S) (hS : ∀ k, S k → k < B) : w'.ownsRow B t k v n xs :=
  ownsRow_turned h ht (fun g hg e => by have := (ownsRow_at h hg).1; have := hS g e; omega)
theorem PgOwn.low {B : Nat} {w w' : World} {y : Pg} {b : Pw} {S : Nat → Prop} (h : PgOwn B w y b) (ht : Turned w w' S) (hS : ∀ k, S k → k < B) : PgOwn B w' y b :=
  ⟨own_low h.ob ht hS, fun q hq => ⟨(h.oi q hq).bn, (h.oi q hq).rn, own_low (h.oi q hq).br ht hS, own_low (h.oi q hq).rr ht hS⟩, own_low h.fr ht hS, fun q hq => ⟨(h.fi q hq).sn, (h.fi q hq).cn, own_low (h.fi q hq).sr ht hS, own_low (h.fi q hq).cr ht hS, fun i hi => own_low ((h.fi q hq).ci i hi) ht hS⟩⟩
theorem PgOwn.base {B B' : Nat} {w : World} {y : Pg} {b : Pw} (h : PgOwn B w y b) (hb : B' ≤ B) : PgOwn B' w y b :=
  ⟨ownsRow_base h.ob hb, fun q hq => (h.oi q hq).base hb, ownsRow_base h.fr hb, fun q hq => (h.fi q hq).base hb⟩
section
variable {w : World}
set_option maxHeartbeats 8000000 in
theorem attempt_p (hX : Tabs w) (hF : FormsIn w) (hW : WordsIn w) (hN : NamesIn w) (hM : MaxIn w) (hg : 10 ≤ w.heap.size) {s : ByteArray} (hs : s.size ≤ 1048576) (hsf : Lib.hasSuffix s.data.toList [10] = true) {x : Pg} (hT : PgT x) (hL : splitL ⟨(Lib.trimSuffix s.data.toList [10]).toArray⟩ 10 = x.obs.flatMap obL ++ (x.fns.flatMap fnL ++ [mnL x.mn])) :
    Calls Tryz.prog 41 #[.string s] w fun e w' => ∃ y b, e = .returned (.tuple #[.agg #[.slice b.op y.obs.length b.oc, .slice b.fp y.fns.length b.fc, .int .i64 y.mn], .bool true]) ∧ PgEq x y ∧ PgOwn w.heap.size w' y b ∧ Below w.heap.size w w' := by
  have hmf : ∀ (fn : Go.Fn) (first cap : Array Value) (w : World), (Instr.makeFunc fn first cap).run Tryz.prog w = .ok (.func fn first cap) w := fun _ _ _ _ => rfl
  have htr : (⟨(Lib.trimSuffix s.data.toList [10]).toArray⟩ : ByteArray).size ≤ s.size := by
    have := Lib.trimSuffix_le s.data.toList [10]
    show (Lib.trimSuffix s.data.toList [10]).toArray.size ≤ s.data.size
    rw [List.size_toArray]
    exact Nat.le_trans this (by rw [Array.length_toList]; exact Nat.le_refl _)
  have b1 := below1 w (.cells zPg TPg)
  have hz1 : (w.alloc (.cells zPg TPg)).heap.size = w.heap.size + 1 := by simp
  have b2 := below1 (w.alloc (.cells zPg TPg)) (.cells #[.bool false] 4)
  have N1 := blk_b (heap_r0 w (.cells zPg TPg)) b2
  have N2 := heap_r0 (w.alloc (.cells zPg TPg)) (.cells #[.bool false] 4)
  rw [hz1] at N2
  have HB : Hid (Below w.heap.size w ((w.alloc (.cells zPg TPg)).alloc (.cells #[.bool false] 4))) := b1.trans (b2.mono b1.size)
  have HN1 : Hid (((w.alloc (.cells zPg TPg)).alloc (.cells #[.bool false] 4)).heap[w.heap.size]? = some (.cells zPg TPg (0, 0))) := N1
  have HN2 : Hid (((w.alloc (.cells zPg TPg)).alloc (.cells #[.bool false] 4)).heap[w.heap.size + 1]? = some (.cells #[.bool false] 4 (0, 0))) := N2
  have HX : Hid (∀ Y, Below w.heap.size w Y → Tabs Y) := fun Y hY => hX.below hY
  have HFO : Hid (∀ Y, Below w.heap.size w Y → FormsIn Y) := fun Y hY => hF.bel hY
  have HM : Hid (∀ Y, Below w.heap.size w Y → MaxIn Y) := fun Y hY => hM.below hY
  have HCO : Hid (∀ Y, Below w.heap.size w Y → Calls Tryz.prog 71 #[] Y fun e w' => ∃ mb, e = .returned (.map (some mb)) ∧ Y.heap.size ≤ mb ∧ MapI w' mb opsL ∧ Below Y.heap.size Y w') := fun Y hY => operations_c (hW.below hY) (hN.below hY) (Nat.lt_of_lt_of_le (by omega) hY.size)
  have HCS : Hid (∀ Y, Below w.heap.size w Y → Calls Tryz.prog 70 #[.string ⟨(Lib.trimSuffix s.data.toList [10]).toArray⟩, .string ⟨#[10]⟩] Y fun e w' => e = .returned (.slice (some ⟨Y.heap.size, 0, none⟩) (Lib.countB ⟨(Lib.trimSuffix s.data.toList [10]).toArray⟩ ⟨#[10]⟩ + 1) (Lib.countB ⟨(Lib.trimSuffix s.data.toList [10]).toArray⟩ ⟨#[10]⟩ + 1)) ∧ w' = Y.alloc (.cells ((Lib.splitB ⟨#[10]⟩ 0 (Lib.countB ⟨(Lib.trimSuffix s.data.toList [10]).toArray⟩ ⟨#[10]⟩) ⟨(Lib.trimSuffix s.data.toList [10]).toArray⟩).map Value.string).toArray TStr)) := fun Y hY => by
    obtain ⟨m, hm⟩ := hM.below hY
    exact Tryz.strings_Split _ ⟨#[10]⟩ m Y (Nat.lt_of_le_of_lt htr (by omega)) hm (by decide)
  have HCT : Hid (∀ Y, Calls Tryz.prog 68 #[.string s, .string ⟨#[10]⟩] Y fun e w' => e = .returned (.tuple #[.string ⟨(Lib.trimSuffix s.data.toList [10]).toArray⟩, .bool (Lib.hasSuffix s.data.toList [10])]) ∧ w' = Y) := fun Y => Tryz.strings_CutSuffix s ⟨#[10]⟩ Y (by omega)
  rw [hsf] at HCT
  have HSL : Hid (∀ Y : World, StrV (Y.alloc (.cells ((Lib.splitB ⟨#[10]⟩ 0 (Lib.countB ⟨(Lib.trimSuffix s.data.toList [10]).toArray⟩ ⟨#[10]⟩) ⟨(Lib.trimSuffix s.data.toList [10]).toArray⟩).map Value.string).toArray TStr)) (some ⟨Y.heap.size, 0, none⟩) (Lib.countB ⟨(Lib.trimSuffix s.data.toList [10]).toArray⟩ ⟨#[10]⟩ + 1) (splitL ⟨(Lib.trimSuffix s.data.toList [10]).toArray⟩ 10)) := fun Y => strV_split Y _ 10
  have hlen := splitL_length ⟨(Lib.trimSuffix s.data.toList [10]).toArray⟩ 10
  have hcnt : Lib.countB ⟨(Lib.trimSuffix s.data.toList [10]).toArray⟩ ⟨#[10]⟩ ≤ 1048576 := Nat.le_trans (Nat.le_trans (Lib.countB_le ⟨#[10]⟩ (by decide) _ _ (Nat.le_refl _)) htr) hs
  have HLL : Hid ((splitL ⟨(Lib.trimSuffix s.data.toList [10]).toArray⟩ 10).length ≤ 1000000000000 ∧ ∀ l ∈ splitL ⟨(Lib.trimSuffix s.data.toList [10]).toArray⟩ 10, l.size < 4294967281) := ⟨by rw [hlen]; omega, fun l hl => Nat.lt_of_le_of_lt (Nat.le_trans (splitL_size _ _ l hl) htr) (by omega)⟩
  have HPT : Hid (PgT x) := hT
  have HLS : Hid (splitL ⟨(Lib.trimSuffix s.data.toList [10]).toArray⟩ 10 = x.obs.flatMap obL ++ (x.fns.flatMap fnL ++ [mnL x.mn])) := hL
  generalize (⟨(Lib.trimSuffix s.data.toList [10]).toArray⟩ : ByteArray) = body at *
  have d1 : decide ((s.size : Int) ≤ 1048576) = true := by simp; omega
  have HLEN : Hid ((splitL body 10).length = Lib.countB body ⟨#[10]⟩ + 1) := hlen
  generalize Lib.countB body ⟨#[10]⟩ = cn at *
  clear b1 b2 N1 N2 hX hF hW hN hM hT hL hsf hs htr hlen hz1
  go_enter_defers Tryz.func41, Tryz.ntmps41
  go_upto_region 1 with (fail)
  refine (?_ : Code.wp _ _ _ _ ((w.alloc (.cells zPg TPg)).alloc (.cells #[.bool false] 4)))
  generalize (w.alloc (.cells zPg TPg)).alloc (.cells #[.bool false] 4) = W1 at *
  have cT := HCT.out W1
  have cW := want_c W1
  have cS := HCS.out W1 HB.out
  have b3 := below1 W1 (.cells ((Lib.splitB ⟨#[10]⟩ 0 cn body).map Value.string).toArray TStr)
  have HSV := HSL.out W1
  have HB3 : Hid (Below w.heap.size w (W1.alloc (.cells ((Lib.splitB ⟨#[10]⟩ 0 cn body).map Value.string).toArray TStr))) := HB.out.trans (b3.mono HB.out.size)
  have HN13 : Hid ((W1.alloc (.cells ((Lib.splitB ⟨#[10]⟩ 0 cn body).map Value.string).toArray TStr)).heap[w.heap.size]? = some (.cells zPg TPg (0, 0))) := blk_b HN1.out b3
  have HN23 : Hid ((W1.alloc (.cells ((Lib.splitB ⟨#[10]⟩ 0 cn body).map Value.string).toArray TStr)).heap[w.heap.size + 1]? = some (.cells #[.bool false] 4 (0, 0))) := blk_b HN2.out b3
  have HSV3 : Hid (StrV (W1.alloc (.cells ((Lib.splitB ⟨#[10]⟩ 0 cn body).map Value.string).toArray TStr)) (some ⟨W1.heap.size, 0, none⟩) (cn + 1) (splitL body 10)) := HSV
  have cO := HCO.out _ HB3.out
  generalize hW3 : W1.alloc (.cells ((Lib.splitB ⟨#[10]⟩ 0 cn body).map Value.string).toArray TStr) = W3 at *
  clear HSV b3 HSL HCS HCT HCO
  go_upto_region 5 with (first
    | (go_at_call 68; refine cT.mono ?_; rintro e w' ⟨rfl, hw⟩; rw [hw]; clear hw w' cT)
    | (go_at_call 69; refine cW.mono ?_; rintro e w' ⟨rfl, hw⟩; rw [hw]; clear hw w' cW)
    | (go_at_call 70; refine cS.mono ?_; rintro e w' ⟨rfl, hw⟩; rw [hw]; clear hw w' cS)
    | (go_at_call 71; refine cO.mono ?_; rintro e w4 ⟨mb, rfl, hmb, hM4, hb4⟩; have HM4 : Hid (MapI w4 mb opsL) := hM4; have HB4 : Hid (Below W3.heap.size W3 w4) := hb4; clear hM4 hb4 cO)
    | fail)
  have b5 := below1 w4 (.cells #[.slice (some ⟨W1.heap.size, 0, none⟩) (cn + 1) (cn + 1), .slice none 0 0, .map (some mb)] TRd)
  have hb45 := HB4.out.trans (b5.mono HB4.out.size)
  have HB5 : Hid (Below w.heap.size w (w4.alloc (.cells #[.slice (some ⟨W1.heap.size, 0, none⟩) (cn + 1) (cn + 1), .slice none 0 0, .map (some mb)] TRd))) := HB3.out.trans (hb45.mono HB3.out.size)
  have HR5 : RdT (w4.alloc (.cells #[.slice (some ⟨W1.heap.size, 0, none⟩) (cn + 1) (cn + 1), .slice none 0 0, .map (some mb)] TRd)) w4.heap.size mb (splitL body 10) [] := by
    refine ⟨⟨some ⟨W1.heap.size, 0, none⟩, cn + 1, none, 0, ?_, HSV3.out.below hb45, ⟨⟨Nat.le_refl _, fun _ => rfl⟩, fun h => absurd rfl h⟩⟩, HM4.out.below b5, HLL.out, ⟨Nat.zero_le _, fun l hl => by cases hl⟩⟩
    rw [HLEN.out]
    exact heap_r0 w4 _
  have cP : Calls Tryz.prog 72 #[.pointer (some ⟨w4.heap.size, 0, none⟩)] (w4.alloc (.cells #[.slice (some ⟨W1.heap.size, 0, none⟩) (cn + 1) (cn + 1), .slice none 0 0, .map (some mb)] TRd)) fun e w' => ∃ y b, e = .returned (.agg #[.slice b.op y.obs.length b.oc, .slice b.fp y.fns.length b.fc, .int .i64 y.mn]) ∧ PgEq x y ∧ PgOwn (w4.alloc (.cells #[.slice (some ⟨W1.heap.size, 0, none⟩) (cn + 1) (cn + 1), .slice none 0 0, .map (some mb)] TRd)).heap.size w' y b ∧ Turned (w4.alloc (.cells #[.slice (some ⟨W1.heap.size, 0, none⟩) (cn + 1) (cn + 1), .slice none 0 0, .map (some mb)] TRd)) w' (fun k => k = w4.heap.size) :=
    prog_c (HX.out _ HB5.out) (HFO.out _ HB5.out) (HM.out _ HB5.out) (Nat.le_trans hg (Nat.le_trans HB3.out.size HB4.out.size)) HPT.out (by rw [← HLS.out]; exact HR5)
  have hN15 := blk_b HN13.out hb45
  have hN25 := blk_b HN23.out hb45
  have HN15 : Hid ((w4.alloc (.cells #[.slice (some ⟨W1.heap.size, 0, none⟩) (cn + 1) (cn + 1), .slice none 0 0, .map (some mb)] TRd)).heap[w.heap.size]? = some (.cells zPg TPg (0, 0))) := hN15
  have HN25 : Hid ((w4.alloc (.cells #[.slice (some ⟨W1.heap.size, 0, none⟩) (cn + 1) (cn + 1), .slice none 0 0, .map (some mb)] TRd)).heap[w.heap.size + 1]? = some (.cells #[.bool false] 4 (0, 0))) := hN25
  have hlt4 : w.heap.size + 1 < w4.heap.size := Nat.lt_of_lt_of_le (lt_of_heap HN23.out) HB4.out.size
  clear b5 hb45 HR5 hN15 hN25
  generalize w4.alloc (.cells #[.slice (some ⟨W1.heap.size, 0, none⟩) (cn + 1) (cn + 1), .slice none 0 0, .map (some mb)] TRd) = W5 at *
  generalize w4.heap.size = rb at *
  go_wp2_with (first
    | (go_at_call 72; refine cP.mono ?_; rintro e w6 ⟨y, b, rfl, hye, hO6, hT6⟩; have HYE : Hid (PgEq x y) := hye; have HT6 : Hid (Turned W5 w6 (fun k => k = rb)) := hT6; have hz6 : w6.heap[w.heap.size]? = some (.cells #[.slice none 0 0, .slice none 0 0, .int .i64 0] TPg (0, 0)) := blk_t HN15.out hT6 (by omega); have HO6 : Hid (PgOwn W5.heap.size w6 y b) := hO6; have HK6 : Hid (w6.heap[w.heap.size + 1]? = some (.cells #[.bool false] 4 (0, 0))) := blk_t HN25.out hT6 (by omega); obtain ⟨g7, t7⟩ := set3 hz6 (.slice b.op y.obs.length b.oc) (.slice b.fp y.fns.length b.fc) (.int .i64 y.mn); have q0 := (Lib.cell_of_heap hz6 0).trans rfl; have q1 := (Lib.cell_of_heap hz6 1).trans rfl; have q2 := (Lib.cell_of_heap hz6 2).trans rfl; have qf := frozen_of hz6; have hk7 := blk_t HK6.out t7 (by omega); have k7 := (Lib.cell_of_heap hk7 0).trans rfl; have kf7 := frozen_of hk7 0; have HK7 : Hid ((((w6.setCell ⟨w.heap.size, 0, none⟩ (.slice b.op y.obs.length b.oc)).setCell ⟨w.heap.size, 1, none⟩ (.slice b.fp y.fns.length b.fc)).setCell ⟨w.heap.size, 2, none⟩ (.int .i64 y.mn)).heap[w.heap.size + 1]? = some (.cells #[.bool false] 4 (0, 0))) := hk7; have HG7 : Hid ((((w6.setCell ⟨w.heap.size, 0, none⟩ (.slice b.op y.obs.length b.oc)).setCell ⟨w.heap.size, 1, none⟩ (.slice b.fp y.fns.length b.fc)).setCell ⟨w.heap.size, 2, none⟩ (.int .i64 y.mn)).heap[w.heap.size]? = some (.cells #[.slice b.op y.obs.length b.oc, .slice b.fp y.fns.length b.fc, .int .i64 y.mn] TPg (0, 0))) := g7; have HT7 : Hid (Turned w6 (((w6.setCell ⟨w.heap.size, 0, none⟩ (.slice b.op y.obs.length b.oc)).setCell ⟨w.heap.size, 1, none⟩ (.slice b.fp y.fns.length b.fc)).setCell ⟨w.heap.size, 2, none⟩ (.int .i64 y.mn)) (fun k => k = w.heap.size)) := t7; clear hO6 hT6 cP hye t7 hk7 g7 hz6)
    | fail)
  refine leaves_cons (f := 67) (args := #[.pointer (some ⟨w.heap.size, 0, none⟩), .pointer (some ⟨w.heap.size + 1, 0, none⟩)]) (by simp) (by simp [go_sem]) ?_
  refine (catch_idle ⟨w.heap.size, 0, none⟩ ⟨w.heap.size + 1, 0, none⟩ _).mono ?_
  rintro e u' w'' ⟨rfl, rfl, rfl⟩
  have t8 : Turned (((w6.setCell ⟨w.heap.size, 0, none⟩ (.slice b.op y.obs.length b.oc)).setCell ⟨w.heap.size, 1, none⟩ (.slice b.fp y.fns.length b.fc)).setCell ⟨w.heap.size, 2, none⟩ (.int .i64 y.mn)) ((((w6.setCell ⟨w.heap.size, 0, none⟩ (.slice b.op y.obs.length b.oc)).setCell ⟨w.heap.size, 1, none⟩ (.slice b.fp y.fns.length b.fc)).setCell ⟨w.heap.size, 2, none⟩ (.int .i64 y.mn)).setCell ⟨w.heap.size + 1, 0, none⟩ (.bool true)) (fun k => k = w.heap.size + 1) := Turned.setCell _ _ 0 _ rfl
  have g8 := blk_t HG7.out t8 (by omega)
  have g9 := heap_setCell (j := 0) HK7.out (.bool true)
  have c0 := (Lib.cell_of_heap g8 0).trans rfl
  have c1 := (Lib.cell_of_heap g8 1).trans rfl
  have c2 := (Lib.cell_of_heap g8 2).trans rfl
  have c3 := (Lib.cell_of_heap g9 0).trans rfl
  have hlo : w.heap.size + 1 < W5.heap.size := lt_of_heap HN25.out
  refine ⟨.tuple #[.agg #[.slice b.op y.obs.length b.oc, .slice b.fp y.fns.length b.fc, .int .i64 y.mn], .bool true], by simp [results, Tryz.results41, go_sem, c0, c1, c2, c3], y, b, rfl, HYE.out, ((HO6.out.low HT7.out (fun k e => by omega)).low t8 (fun k e => by omega)).base (by omega), ?_⟩
  refine below_turned (below_turned (below_turned HB5.out HT6.out ?_) HT7.out (Nat.le_refl _)) t8 (by omega)
  omega
set_option maxHeartbeats 8000000 in
theorem parse_p (hX : Tabs w) (hF : FormsIn w) (hW : WordsIn w) (hN : NamesIn w) (hM : MaxIn w) (hg : 10 ≤ w.heap.size) {s : ByteArray} (hs : s.size ≤ 1048576) (hsf : Lib.hasSuffix s.data.toList [10] = true) {x : Pg} {a : Pw} (hx : PgOK w x a) (hck : checkB x = true) (hT : PgT x) (hL : splitL ⟨(Lib.trimSuffix s.data.toList [10]).toArray⟩ 10 = x.obs.flatMap obL ++ (x.fns.flatMap fnL ++ [mnL x.mn])) :
    Calls Tryz.prog 23 #[.string s] w fun e w' => ∃ y b, e = .returned (.tuple #[pgV y b, .int .i64 0]) ∧ PgEq x y ∧ PgOK w' y b ∧ Below w.heap.size w w' := by
  have b1 := below1 w (.cells zPg TPg)
  have cA := attempt_p (hX.below b1) (hF.bel b1) (hW.below b1) (hN.below b1) (hM.below b1) (Nat.le_trans hg b1.size) hs hsf hT hL
  have HOK : Hid (∀ Y y b, PgEq x y → PgOwn (w.alloc (.cells zPg TPg)).heap.size Y y b → PgOK Y y b) := fun Y y b he ho => ho.ok he hx
  have HN1 : Hid ((w.alloc (.cells zPg TPg)).heap[w.heap.size]? = some (.cells zPg TPg (0, 0))) := heap_r0 w _
  have HB1 : Hid (Below w.heap.size w (w.alloc (.cells zPg TPg))) := b1
  have HCK : Hid (∀ Y y (b : Pw), Below w.heap.size w Y → PgEq x y → PgOK Y y b → Calls Tryz.prog 9 #[.agg #[.slice b.op y.obs.length b.oc, .slice b.fp y.fns.length b.fc, .int .i64 y.mn]] Y fun e w' => e = .returned (.int .i64 0) ∧ Below Y.heap.size Y w') := fun Y y b hY he hp => by
    have h := check_c hp (hF.bel hY) (hN.below hY) (Nat.lt_of_lt_of_le (by omega) hY.size)
    rw [checkB_same he, hck] at h
    exact h
  have nf := not_t
  clear hX hF hW hN hM hs hsf hT hL b1 hx hck
  go_enter Tryz.func23, Tryz.ntmps23
  go_upto_region 1 with (fail)
  refine (?_ : Code.wp _ _ _ _ (w.alloc (.cells zPg TPg)))
  generalize w.alloc (.cells zPg TPg) = W1 at *
  go_upto_region 2 with (first
    | (go_at_call 41; refine cA.mono ?_; rintro e w2 ⟨y, b, rfl, hye, hO2, hb2⟩; have HYE : Hid (PgEq x y) := hye; have HB2 : Hid (Below w.heap.size w w2) := HB1.out.trans (hb2.mono HB1.out.size); have HO2 : Hid (PgOwn W1.heap.size w2 y b) := hO2; have HZ2 : Hid (w2.heap[w.heap.size]? = some (.cells zPg TPg (0, 0))) := blk_b HN1.out hb2; have hold := heap_r0 w2 (.cells zPg TPg); clear hO2 hb2 cA hye)
    | ((with_reducible apply step_store hold); rfl; rfl; kernel_rfl; rfl; kernel_rfl; rw [World.setRow_alloc_new])
    | fail)
  have b3 := below1 w2 (.cells #[.slice b.op y.obs.length b.oc, .slice b.fp y.fns.length b.fc, .int .i64 y.mn] TPg)
  have HB3 : Hid (Below w.heap.size w (w2.alloc (.cells #[.slice b.op y.obs.length b.oc, .slice b.fp y.fns.length b.fc, .int .i64 y.mn] TPg))) := HB2.out.trans (b3.mono HB2.out.size)
  have n3 := heap_r0 w2 (.cells #[.slice b.op y.obs.length b.oc, .slice b.fp y.fns.length b.fc, .int .i64 y.mn] TPg)
  have HN3 : Hid ((w2.alloc (.cells #[.slice b.op y.obs.length b.oc, .slice b.fp y.fns.length b.fc, .int .i64 y.mn] TPg)).heap[w2.heap.size]? = some (.cells #[.slice b.op y.obs.length b.oc, .slice b.fp y.fns.length b.fc, .int .i64 y.mn] TPg (0, 0))) := n3
  have HZ3 : Hid ((w2.alloc (.cells #[.slice b.op y.obs.length b.oc, .slice b.fp y.fns.length b.fc, .int .i64 y.mn] TPg)).heap[w.heap.size]? = some (.cells zPg TPg (0, 0))) := blk_b HZ2.out b3
  have HO3 : Hid (PgOwn W1.heap.size (w2.alloc (.cells #[.slice b.op y.obs.length b.oc, .slice b.fp y.fns.length b.fc, .int .i64 y.mn] TPg)) y b) := HO2.out.low (Turned.of_below b3 (fun _ => False)) (fun _ h => h.elim)
  have cK := HCK.out _ y b HB3.out HYE.out (HOK.out _ y b HYE.out HO3.out)
  have p0 := (Lib.cell_of_heap n3 0).trans rfl
  have p1 := (Lib.cell_of_heap n3 1).trans rfl
  have p2 := (Lib.cell_of_heap n3 2).trans rfl
  have hlo : w.heap.size < W1.heap.size := lt_of_heap HN1.out
  clear b3 n3 hold HCK HO2
  generalize w2.alloc (.cells #[.slice b.op y.obs.length b.oc, .slice b.fp y.fns.length b.fc, .int .i64 y.mn] TPg) = W3 at *
  generalize w2.heap.size = b3 at *
  go_wp2_with (first
    | (go_at_call 9; refine cK.mono ?_; rintro e w4 ⟨rfl, hb4⟩; have HB4 : Hid (Below w.heap.size w w4) := HB3.out.trans (hb4.mono HB3.out.size); have HO4 : Hid (PgOwn W1.heap.size w4 y b) := HO3.out.low (Turned.of_below hb4 (fun _ => False)) (fun _ h => h.elim); have n4 := blk_b HN3.out hb4; have q0 := (Lib.cell_of_heap n4 0).trans rfl; have q1 := (Lib.cell_of_heap n4 1).trans rfl; have q2 := (Lib.cell_of_heap n4 2).trans rfl; have hz4 := blk_b HZ3.out hb4; clear hb4 cK n4)
    | ((with_reducible apply step_store hz4); rfl; rfl; kernel_rfl; rfl; kernel_rfl)
    | fail)
  have g9 : (w4.setRow w.heap.size #[.slice b.op y.obs.length b.oc, .slice b.fp y.fns.length b.fc, .int .i64 y.mn]).heap[w.heap.size]? = some (.cells #[.slice b.op y.obs.length b.oc, .slice b.fp y.fns.length b.fc, .int .i64 y.mn] TPg (0, 0)) := setRow_heap _ _ _ _ _ _ hz4
  have t9 : Turned w4 (w4.setRow w.heap.size #[.slice b.op y.obs.length b.oc, .slice b.fp y.fns.length b.fc, .int .i64 y.mn]) (fun k => k = w.heap.size) := Turned.setRow _ _ _ rfl
  have c0 := (Lib.cell_of_heap g9 0).trans rfl
  have c1 := (Lib.cell_of_heap g9 1).trans rfl
  have c2 := (Lib.cell_of_heap g9 2).trans rfl
  refine bodyPost_ret (v := .tuple #[.agg #[.slice b.op y.obs.length b.oc, .slice b.fp y.fns.length b.fc, .int .i64 y.mn], .int .i64 0]) (by simp [results, Tryz.results23, go_sem, c0, c1, c2]) rfl ⟨y, b, rfl, HYE.out, HOK.out _ y b HYE.out (HO4.out.low t9 (fun k e => by omega)), below_turned HB4.out t9 (Nat.le_refl _)⟩
end
end Go.Proofs.YtaaphipbkpjkjaaGreatDoor
namespace Go.Proofs.YtaaphipbkpjkjaaGreatDoor
open Go.RowKit Go.Maps
set_option linter.unusedVariables false
set_option linter.unusedSimpArgs false
set_option maxRecDepth 100000
theorem uno_ex2 (w : World) (A : Obj) : ∃ W, W = w.alloc A ∧ W.heap[w.heap.size]? = some A ∧ Below w.heap.size w W := ⟨_, rfl, heap_r0 w A, below1 w A⟩
theorem back_text {x : Pg} (hT : PgT x) (hl : (printS x).length ≤ 1048576) : (sB (printS x)).size ≤ 1048576 ∧ Lib.hasSuffix (sB (printS x)).data.toList [10] = true ∧
    splitL ⟨(Lib.trimSuffix (sB (printS x)).data.toList [10]).toArray⟩ 10 = x.obs.flatMap obL ++ (x.fns.flatMap fnL ++ [mnL x.mn]) := by
  have hne : pgLines x ≠ [] := by unfold pgLines; simp
  have hp : printS x = (pgLines x).flatMap lineT := by
    have h := linS_fits (pgLines x) [] hl
    rw [List.nil_append] at h
    exact h
  refine ⟨by rw [sB_size]; exact hl, ?_, ?_⟩
  · rw [sB_toList, hp]
    exact (trim_lines hne).1
  · rw [sB_toList, hp, (trim_lines hne).2, split_lines hne hT.lines, lines_of]
section
variable {w : World}
set_option maxHeartbeats 16000000 in
theorem tacBack_c {x : Pg} {a : Pw} (hx : PgOK w x a) (hP : PrW w) (hM : MaxIn w) (hg : 10 ≤ w.heap.size) :
    Calls Tryz.prog 8 #[pgV x a] w fun e w' => e = .returned (.bool true) ∧ Below w.heap.size w w' := by
  obtain ⟨W1, hW1, n1, b1⟩ := uno_ex2 w (.cells #[.slice a.op x.obs.length a.oc, .slice a.fp x.fns.length a.fc, .int .i64 x.mn] TPg)
  have N1 : Hid (_ = _) := n1
  have HB1 : Hid (Below w.heap.size w W1) := b1
  clear n1 b1
  have HX : Hid (∀ Y, Below w.heap.size w Y → PgOK Y x a) := fun Y hY => hx.below hY
  have HPR : Hid (∀ Y, Below w.heap.size w Y → PrW Y ∧ MaxIn Y ∧ 10 ≤ Y.heap.size) := fun Y hY => ⟨hP.below hY, hM.below hY, Nat.le_trans hg hY.size⟩
  have HPT : Hid (checkB x = true → PgT x) := fun h => pgT_of hx h
  have C1 : Hid (∀ Y, Below w.heap.size w Y → Calls Tryz.prog 21 #[pgV x a] Y fun e w' => e = .returned (.tuple #[.string (printT x), .int .i64 (printE x)]) ∧ Below Y.heap.size Y w') := fun Y hY =>
    print_c (HPR.out Y hY).1 (HX.out Y hY) (fun h => (HPT.out h).p) (fun h q hq Z hZ => wobj_c ((HPR.out Z (hY.trans (hZ.mono hY.size))).1) ((HX.out Z (hY.trans (hZ.mono hY.size))).oi q hq) ((HPT.out h).ob q hq).p)
  have C3 : Hid (∀ Y, Below w.heap.size w Y → Calls Tryz.prog 10 #[] Y fun e w' => e = .returned (.bool true) ∧ Below Y.heap.size Y w') := fun Y hY => heads_c (HPR.out Y hY).1 (HPR.out Y hY).2.1 (HPR.out Y hY).2.2
  have c0 := (Lib.cell_of_heap N1.out 0).trans rfl
  have c1 := (Lib.cell_of_heap N1.out 1).trans rfl
  have c2 := (Lib.cell_of_heap N1.out 2).trans rfl
  by_cases hE : checkB x = true ∧ (printS x).length ≤ 1048576
  · obtain ⟨hck, hfit⟩ := hE
    have e1 : printE x = 0 := by unfold printE; rw [if_pos hck, if_neg (by omega)]
    have e2 : printT x = sB (printS x) := by unfold printT; rw [if_pos hck, if_neg (by omega)]
    have hbt := back_text (HPT.out hck) hfit
    rw [e1, e2] at C1
    have C2 : Hid (∀ Y, Below w.heap.size w Y → Calls Tryz.prog 23 #[.string (sB (printS x))] Y fun e w' => ∃ y b, e = .returned (.tuple #[.agg #[.slice b.op y.obs.length b.oc, .slice b.fp y.fns.length b.fc, .int .i64 y.mn], .int .i64 0]) ∧ PgEq x y ∧ PgOK w' y b ∧ Below Y.heap.size Y w') := fun Y hY =>
      parse_p (HPR.out Y hY).1.tabs (HPR.out Y hY).1.forms (HPR.out Y hY).1.words (HPR.out Y hY).1.names (HPR.out Y hY).2.1 (HPR.out Y hY).2.2 hbt.1 hbt.2.1 (HX.out Y hY) hck (HPT.out hck) hbt.2.2
    have C4 : Hid (∀ Y (y : Pg) (b : Pw), Below w.heap.size w Y → PgEq x y → PgOK Y y b → Calls Tryz.prog 16 #[.agg #[.slice a.op x.obs.length a.oc, .slice a.fp x.fns.length a.fc, .int .i64 x.mn], .agg #[.slice b.op y.obs.length b.oc, .slice b.fp y.fns.length b.fc, .int .i64 y.mn]] Y fun e w' => e = .returned (.bool true) ∧ Below Y.heap.size Y w') := fun Y y b hY he hy => rProgA_c (HX.out Y hY) hy he
    have C5 : Hid (∀ Y (y : Pg) (b : Pw), Below w.heap.size w Y → PgEq x y → PgOK Y y b → Calls Tryz.prog 9 #[.agg #[.slice b.op y.obs.length b.oc, .slice b.fp y.fns.length b.fc, .int .i64 y.mn]] Y fun e w' => e = .returned (.int .i64 0) ∧ Below Y.heap.size Y w') := fun Y y b hY he hp => by
      have h := check_c hp (HPR.out Y hY).1.forms (HPR.out Y hY).1.names (HPR.out Y hY).1.pos
      rw [checkB_same he, hck] at h
      exact h
    unfold pgV at C1 ⊢
    generalize sB (printS x) = S at *
    clear hx hP hM hg HPT HPR HX hck hfit e1 e2 hbt
    go_enter Tryz.func8, Tryz.ntmps8
    go_upto_region 1 with (fail)
    refine wp_at hW1 ?_
    clear hW1
    go_upto_region 5 with (first
      | (go_at_call 21; refine (C1.out _ HB1.out).mono ?_; rintro e w2 ⟨rfl, hb2⟩; have HB2 : Hid (Below w.heap.size w w2) := HB1.out.trans (hb2.mono HB1.out.size); have HN2 : Hid (w2.heap[w.heap.size]? = _) := blk_b N1.out hb2; clear hb2 c0 c1 c2)
      | (go_at_call 23; refine (C2.out _ HB2.out).mono ?_; rintro e w3 ⟨y, b, rfl, hye, hyo, hb3⟩; have HYE : Hid (PgEq x y) := hye; have HYO : Hid (PgOK w3 y b) := hyo; have HB3 : Hid (Below w.heap.size w w3) := HB2.out.trans (hb3.mono HB2.out.size); have HN3 : Hid (w3.heap[w.heap.size]? = _) := blk_b HN2.out hb3; have hold := heap_r0 w3 (.cells zPg TPg); clear hb3 hye hyo)
      | ((with_reducible apply step_store hold); rfl; rfl; kernel_rfl; rfl; kernel_rfl; rw [World.setRow_alloc_new])
      | fail)
    have b4 := below1 w3 (.cells #[.slice b.op y.obs.length b.oc, .slice b.fp y.fns.length b.fc, .int .i64 y.mn] TPg)
    have n4 := heap_r0 w3 (.cells #[.slice b.op y.obs.length b.oc, .slice b.fp y.fns.length b.fc, .int .i64 y.mn] TPg)
    have HB4 : Hid (Below w.heap.size w (w3.alloc (.cells #[.slice b.op y.obs.length b.oc, .slice b.fp y.fns.length b.fc, .int .i64 y.mn] TPg))) := HB3.out.trans (b4.mono HB3.out.size)
    have HY4 : Hid (PgOK (w3.alloc (.cells #[.slice b.op y.obs.length b.oc, .slice b.fp y.fns.length b.fc, .int .i64 y.mn] TPg)) y b) := HYO.out.below b4
    have hn4 := blk_b HN3.out b4
    have HM4 : Hid ((w3.alloc (.cells #[.slice b.op y.obs.length b.oc, .slice b.fp y.fns.length b.fc, .int .i64 y.mn] TPg)).heap[w3.heap.size]? = some (.cells #[.slice b.op y.obs.length b.oc, .slice b.fp y.fns.length b.fc, .int .i64 y.mn] TPg (0, 0))) := n4
    have c0 := (Lib.cell_of_heap hn4 0).trans rfl
    have c1 := (Lib.cell_of_heap hn4 1).trans rfl
    have c2 := (Lib.cell_of_heap hn4 2).trans rfl
    have d0 := (Lib.cell_of_heap n4 0).trans rfl
    have d1 := (Lib.cell_of_heap n4 1).trans rfl
    have d2 := (Lib.cell_of_heap n4 2).trans rfl
    clear b4 n4 hn4 hold HN2 HN3
    generalize w3.alloc (.cells #[.slice b.op y.obs.length b.oc, .slice b.fp y.fns.length b.fc, .int .i64 y.mn] TPg) = W4 at *
    generalize w3.heap.size = qb at *
    go_wp2_with (first
      | (go_at_call 16; refine (C4.out W4 y b HB4.out HYE.out HY4.out).mono ?_; rintro e w5 ⟨rfl, hb5⟩; have HB5 : Hid (Below w.heap.size w w5) := HB4.out.trans (hb5.mono HB4.out.size); have HY5 : Hid (PgOK w5 y b) := HY4.out.below hb5; have hm5 := blk_b HM4.out hb5; have u0 := (Lib.cell_of_heap hm5 0).trans rfl; have u1 := (Lib.cell_of_heap hm5 1).trans rfl; have u2 := (Lib.cell_of_heap hm5 2).trans rfl; clear hb5 hm5)
      | (go_at_call 9; refine (C5.out w5 y b HB5.out HYE.out HY5.out).mono ?_; rintro e w6 ⟨rfl, hb6⟩; have HB6 : Hid (Below w.heap.size w w6) := HB5.out.trans (hb6.mono HB5.out.size); clear hb6)
      | (go_at_call 10; refine (C3.out _ HB6.out).mono ?_; rintro e w7 ⟨rfl, hb7⟩; have HB7 : Hid (Below w.heap.size w w7) := HB6.out.trans (hb7.mono HB6.out.size); clear hb7)
      | fail)
    go_ret
    exact ⟨rfl, HB7.out⟩
  · have e2 : printT x = ⟨#[]⟩ ∧ ((printE x != 0) = true) := by
      unfold printT printE
      by_cases hck : checkB x = true
      · have hl : 1048576 < (printS x).length := by
          apply Classical.byContradiction
          intro hn
          exact hE ⟨hck, by omega⟩
        rw [if_pos hck, if_pos hl, if_pos hck, if_pos hl]
        exact ⟨rfl, rfl⟩
      · rw [if_neg hck, if_neg hck]
        exact ⟨rfl, rfl⟩
    rw [e2.1] at C1
    have hne := e2.2
    unfold pgV at C1 ⊢
    generalize printE x = E at *
    clear hx hP hM hg HPT HPR HX hE e2
    go_enter Tryz.func8, Tryz.ntmps8
    go_upto_region 1 with (fail)
    refine wp_at hW1 ?_
    clear hW1
    go_wp2_with (first
      | (go_at_call 21; refine (C1.out _ HB1.out).mono ?_; rintro e w2 ⟨rfl, hb2⟩; have HB2 : Hid (Below w.heap.size w w2) := HB1.out.trans (hb2.mono HB1.out.size); clear hb2 c0 c1 c2)
      | (go_at_call 10; refine (C3.out _ HB2.out).mono ?_; rintro e w7 ⟨rfl, hb7⟩; have HB7 : Hid (Below w.heap.size w w7) := HB2.out.trans (hb7.mono HB2.out.size); clear hb7)
      | fail)
    go_ret
    exact ⟨rfl, HB7.out⟩
end
end Go.Proofs.YtaaphipbkpjkjaaGreatDoor
