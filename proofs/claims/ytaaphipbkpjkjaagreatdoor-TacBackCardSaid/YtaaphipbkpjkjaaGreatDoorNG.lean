/-
  The given answer's Copy, of a program without objects and slots.
  Rows that a copy made: functions whose code's row and operands' rows are new.
-/
import Derived.Test.YtaaphipbkpjkjaaGreatDoorND
import Derived.Test.YtaaphipbkpjkjaaGreatDoorTeH
namespace Go.Proofs.YtaaphipbkpjkjaaGreatDoor
open Go.RowKit Go.Maps
set_option linter.unusedVariables false
set_option linter.unusedSimpArgs false
set_option maxRecDepth 100000
def flatC {α : Type} (C : α → List Value) (l : List α) : List Value := l.flatMap C
theorem flatC_length {α : Type} {C : α → List Value} {k : Nat} (hC : ∀ a, (C a).length = k) (l : List α) : (flatC C l).length = l.length * k := by
  induction l with
  | nil => simp [flatC]
  | cons a l ih =>
    have : flatC C (a :: l) = C a ++ flatC C l := by simp [flatC]
    rw [this, List.length_append, ih, hC, List.length_cons, Nat.succ_mul]; omega
theorem flatC_at {α : Type} {C : α → List Value} {k : Nat} (hC : ∀ a, (C a).length = k) (l : List α) (i : Nat) (a : α) (h : l[i]? = some a) (j : Nat) (hj : j < k) : (flatC C l)[i * k + j]? = (C a)[j]? := by
  induction l generalizing i with
  | nil => simp at h
  | cons b l ih =>
    have e : flatC C (b :: l) = C b ++ flatC C l := by simp [flatC]
    rw [e]
    cases i with
    | zero =>
      simp only [List.getElem?_cons_zero, Option.some.injEq] at h
      subst h
      rw [Nat.zero_mul, Nat.zero_add, List.getElem?_append_left (by rw [hC]; exact hj)]
    | succ i =>
      rw [List.getElem?_cons_succ] at h
      rw [List.getElem?_append_right (by rw [hC, Nat.succ_mul]; omega), hC, show (i + 1) * k + j - k = i * k + j by rw [Nat.succ_mul]; omega]
      exact ih i h
theorem flatC_snoc {α : Type} (C : α → List Value) (l : List α) (a : α) : flatC C (l ++ [a]) = flatC C l ++ C a := by simp [flatC]
theorem RowV.of_own {α : Type} {C : α → List Value} {k : Nat} (hC : ∀ a, (C a).length = k) {w : World} {B : Nat} {t : TypeId} {p : Option Addr} {cap : Nat} {l : List α} (h : w.ownsRow B t k (.slice p l.length cap) l.length (flatC C l)) : RowV C k w p cap l := by
  by_cases hl : l.length = 0
  · obtain ⟨_, ⟨he, _⟩ | ⟨g, c, cur, he, _, _, hc, _⟩⟩ := h
    · injection he with e1 e2 e3
      exact ⟨⟨by omega, fun _ => e3⟩, fun i a ha => by rw [List.eq_nil_of_length_eq_zero hl] at ha; simp at ha⟩
    · injection he with e1 e2 e3
      exact ⟨⟨by omega, fun e => by rw [e1] at e; cases e⟩, fun i a ha => by rw [List.eq_nil_of_length_eq_zero hl] at ha; simp at ha⟩
  · obtain ⟨g, c, he, q1, q2, q3, q4, q5⟩ := own_cell h (by omega)
    injection he with e1 e2 e3
    subst e1 e3
    refine ⟨⟨q3, fun e => by cases e⟩, fun i a ha => ⟨g, 0, rfl, q2, fun j hj => ?_⟩⟩
    have h1 := flatC_at hC l i a ha j hj
    rw [Nat.zero_add]
    obtain ⟨u, hu⟩ : ∃ u, (C a)[j]? = some u := ⟨_, List.getElem?_eq_getElem (by rw [hC]; exact hj)⟩
    rw [hu] at h1 ⊢
    exact q4 _ u h1
theorem iwC_length (q : Iw) : (iwC q).length = 12 := rfl
theorem fgC_length (q : Fg) : (fgC q).length = 6 := rfl
/-- An instruction whose operands' row is new. -/
def IwOwn (B : Nat) (w : World) (i : Iw) : Prop := w.ownsRow B TAr 2 (.slice i.xp i.x.args.length i.xc) i.x.args.length (argsC i.x.args)
theorem IwOwn.turned {B : Nat} {w w' : World} {i : Iw} {S : Nat → Prop} {ty : TypeId} (h : IwOwn B w i) (ht : Turned w w' S) (hb : ∀ k, S k → ∃ cs, w.heap[k]? = some (.cells cs ty (0, 0))) (h1 : ty ≠ TAr) : IwOwn B w' i :=
  ownsRow_turned h ht (fun k hk hs => by
    obtain ⟨_, cur, hcur⟩ := ownsRow_at h hk
    obtain ⟨cs, e⟩ := hb k hs
    rw [hcur] at e
    injection e with e; injection e with _ e
    exact h1 e.symm)
theorem IwOwn.below {B : Nat} {w w' : World} {i : Iw} (h : IwOwn B w i) (hb : Below w.heap.size w w') : IwOwn B w' i := ownsRow_turned h (Turned.of_below hb (fun _ => False)) (fun _ _ h => h)
theorem IwOwn.mono {B B' : Nat} {w : World} {i : Iw} (h : IwOwn B w i) (hb : B' ≤ B) : IwOwn B' w i := by
  obtain ⟨e, q⟩ := h
  refine ⟨e, ?_⟩
  rcases q with q | ⟨g, c, cur, he, h1, h2⟩
  · exact Or.inl q
  · exact Or.inr ⟨g, c, cur, he, Nat.le_trans hb h1, h2⟩
/-- A function whose code's row is new, and each operands' row. -/
structure FgOwn (B : Nat) (w : World) (q : Fg) : Prop where
  sl : q.sls = []
  sn : q.f.sn = 0
  sp : q.f.sp = none → q.f.sc = 0
  cn : q.f.cn = q.code.length
  cr : w.ownsRow B TIn 12 (.slice q.f.cp q.code.length q.f.cc) q.code.length (flatC iwC q.code)
  ci : ∀ i ∈ q.code, IwOwn B w i
theorem FgOwn.turned {B : Nat} {w w' : World} {q : Fg} {S : Nat → Prop} {ty : TypeId} (h : FgOwn B w q) (ht : Turned w w' S) (hb : ∀ k, S k → ∃ cs, w.heap[k]? = some (.cells cs ty (0, 0))) (h1 : ty ≠ TAr) (h2 : ty ≠ TIn) : FgOwn B w' q :=
  ⟨h.sl, h.sn, h.sp, h.cn, ownsRow_turned h.cr ht (fun k hk hs => by
    obtain ⟨_, cur, hcur⟩ := ownsRow_at h.cr hk
    obtain ⟨cs, e⟩ := hb k hs
    rw [hcur] at e
    injection e with e; injection e with _ e
    exact h2 e.symm), fun i hi => (h.ci i hi).turned ht hb h1⟩
theorem FgOwn.below {B : Nat} {w w' : World} {q : Fg} (h : FgOwn B w q) (hb : Below w.heap.size w w') : FgOwn B w' q :=
  ⟨h.sl, h.sn, h.sp, h.cn, ownsRow_turned h.cr (Turned.of_below hb (fun _ => False)) (fun _ _ h => h), fun i hi => (h.ci i hi).below hb⟩
/-- What a copy made is a function like the one that came in. -/
theorem FgOwn.ok {B : Nat} {w w0 : World} {q a : Fg} (h : FgOwn B w q) (he : FgEq a q) (ha : FgOK w0 a) : FgOK w q := by
  have hl : a.code.length = q.code.length := by have := congrArg List.length he.co; simpa using this
  refine ⟨by rw [he.nm]; exact ha.nm, ?_, by rw [h.sn, h.sl]; rfl, by rw [h.sl]; exact Nat.zero_le _, RowV.of_own iwC_length h.cr, h.cn, by rw [← hl]; exact ha.cm, fun i hi => ?_⟩
  · rw [h.sl]; exact ⟨⟨Nat.zero_le _, h.sp⟩, fun i a ha => by simp at ha⟩
  · have hm : i.x ∈ a.code.map Iw.x := by rw [he.co]; exact List.mem_map.2 ⟨i, hi, rfl⟩
    obtain ⟨b, hb, e⟩ := List.mem_map.1 hm
    have o := ha.ci b hb
    rw [e] at o
    exact ⟨o.a, o.b, o.off, ArgV.of_own (h.ci i hi), o.ao, o.al⟩
end Go.Proofs.YtaaphipbkpjkjaaGreatDoor
namespace Go.Proofs.YtaaphipbkpjkjaaGreatDoor
open Go.RowKit Go.Maps
set_option linter.unusedVariables false
set_option linter.unusedSimpArgs false
set_option maxRecDepth 100000
theorem infoFn' : (Tryz.prog.info? TFn).map (fun i => (i.zero, i.size, i.bytes)) = some (some (.agg zFn), 6, 88) := by kernel_rfl
theorem infoSlt : (Tryz.prog.info? TSl).map (fun i => (i.zero, i.size, i.bytes)) = some (some (.agg #[.int .i64 0, .int .i64 0]), 2, 16) := by kernel_rfl
theorem own_mono {B B' : Nat} {w : World} {t : TypeId} {k n : Nat} {v : Value} {xs : List Value} (h : w.ownsRow B t k v n xs) (hb : B' ≤ B) : w.ownsRow B' t k v n xs := by
  obtain ⟨e, q⟩ := h
  refine ⟨e, ?_⟩
  rcases q with q | ⟨g, c, cur, he, h1, h2⟩
  · exact Or.inl q
  · exact Or.inr ⟨g, c, cur, he, Nat.le_trans hb h1, h2⟩
theorem not_own {B : Nat} {w : World} {t ty : TypeId} {k n g : Nat} {v : Value} {xs cs : List Value} {cur : Array Value} (h : w.ownsRow B t k v n xs) (hg : w.heap[g]? = some (.cells cur ty (0, 0))) (hne : ty ≠ t) : ¬ v.ownBlock = some g := fun hk => by
  obtain ⟨_, c2, hc⟩ := ownsRow_at h hk
  rw [hg] at hc
  injection hc with h1
  injection h1 with _ h2
  exact hne h2
section
variable {w : World}
structure CopyIn (w : World) (q : Fg) : Prop where
  ok : FgOK w q
  sp : q.f.sp = none
  sn : q.f.sn = 0
  sc : q.f.sc = 0
  sl : q.sls = []
  cl : q.code.length ≤ 1000000
  al : ∀ i ∈ q.code, i.x.args.length ≤ 1000000
set_option maxHeartbeats 16000000 in
theorem rCopy_c {mn : Int} {p1 f1 : Option Addr} {c1 t1 : Nat} {l1 : List Fg} (hf1 : RowV fgC 6 w f1 t1 l1) (hl : l1.length ≤ 64) (hi : ∀ q ∈ l1, CopyIn w q) :
    Calls Tryz.prog 14 #[.agg #[.slice p1 0 c1, .slice f1 l1.length t1, .int .i64 mn]] w fun e w' => ∃ fp fc l2, e = .returned (.agg #[.slice none 0 0, .slice fp l1.length fc, .int .i64 mn]) ∧ l2.length = l1.length ∧ w'.ownsRow w.heap.size TFn 6 (.slice fp l1.length fc) l1.length (flatC fgC l2) ∧ (∀ (k : Nat) (a b : Fg), l1[k]? = some a → l2[k]? = some b → FgEq a b) ∧ (∀ q ∈ l2, FgOwn w.heap.size w' q) ∧ Below w.heap.size w w' := by
  have b1 := below1 w (.cells #[.slice p1 0 c1, .slice f1 l1.length t1, .int .i64 mn] TPg)
  have b2 := below1 (w.alloc (.cells #[.slice p1 0 c1, .slice f1 l1.length t1, .int .i64 mn] TPg)) (.cells #[.slice none 0 0, .slice none 0 0, .int .i64 0] TPg)
  have N1 := blk_b (heap_r0 w (.cells #[.slice p1 0 c1, .slice f1 l1.length t1, .int .i64 mn] TPg)) b2
  have N2 := heap_r0 (w.alloc (.cells #[.slice p1 0 c1, .slice f1 l1.length t1, .int .i64 mn] TPg)) (.cells #[.slice none 0 0, .slice none 0 0, .int .i64 0] TPg)
  have hz : (w.alloc (.cells #[.slice p1 0 c1, .slice f1 l1.length t1, .int .i64 mn] TPg)).heap.size = w.heap.size + 1 := by simp
  rw [hz] at N2
  have HZ2 : Hid (((w.alloc (.cells #[.slice p1 0 c1, .slice f1 l1.length t1, .int .i64 mn] TPg)).alloc (.cells #[.slice none 0 0, .slice none 0 0, .int .i64 0] TPg)).heap.size = w.heap.size + 2) := by show _ = _; simp
  have HK1 : Hid (∀ Y, Below w.heap.size w Y → RowV fgC 6 Y f1 t1 l1) := fun Y hY => hf1.below hY
  have HI1 : Hid (∀ q ∈ l1, CopyIn w q) := hi
  have HN1 : Hid (_ = _) := N1
  have HN2 : Hid (_ = _) := N2
  have HB1 : Hid (Below w.heap.size w ((w.alloc (.cells #[.slice p1 0 c1, .slice f1 l1.length t1, .int .i64 mn] TPg)).alloc (.cells #[.slice none 0 0, .slice none 0 0, .int .i64 0] TPg))) := b1.trans (b2.mono b1.size)
  have x2 := (Lib.cell_of_heap N1 2).trans rfl
  have hbh : ∀ Y : World, (Instr.build TPg #[(2, .int .i64 mn)]).run Tryz.prog Y = .ok (.agg #[.slice none 0 0, .slice none 0 0, .int .i64 mn]) Y := fun Y => by kernel_rfl
  clear b1 b2 N1 N2 hz hf1 hi
  go_enter Tryz.func14, Tryz.ntmps14
  go_upto_region 1 with (fail)
  refine (?_ : Code.wp _ _ _ _ ((w.alloc (.cells #[.slice p1 0 c1, .slice f1 l1.length t1, .int .i64 mn] TPg)).alloc (.cells #[.slice none 0 0, .slice none 0 0, .int .i64 0] TPg)))
  generalize (w.alloc (.cells #[.slice p1 0 c1, .slice f1 l1.length t1, .int .i64 mn] TPg)).alloc (.cells #[.slice none 0 0, .slice none 0 0, .int .i64 0] TPg) = W1 at *
  have hold := heap_r0 W1 (.cells #[.slice none 0 0, .slice none 0 0, .int .i64 0] TPg)
  have HN3 : Hid ((W1.alloc (.cells #[.slice none 0 0, .slice none 0 0, .int .i64 mn] TPg)).heap[W1.heap.size]? = some (.cells #[.slice none 0 0, .slice none 0 0, .int .i64 mn] TPg (0, 0))) := heap_r0 W1 _
  have hb3 := below1 W1 (.cells #[.slice none 0 0, .slice none 0 0, .int .i64 mn] TPg)
  have HB3 : Hid (Below w.heap.size w (W1.alloc (.cells #[.slice none 0 0, .slice none 0 0, .int .i64 mn] TPg))) := HB1.out.trans (hb3.mono HB1.out.size)
  have HM1 : Hid ((W1.alloc (.cells #[.slice none 0 0, .slice none 0 0, .int .i64 mn] TPg)).heap[w.heap.size]? = some (.cells #[.slice p1 0 c1, .slice f1 l1.length t1, .int .i64 mn] TPg (0, 0))) := blk_b HN1.out hb3
  have HM2 : Hid ((W1.alloc (.cells #[.slice none 0 0, .slice none 0 0, .int .i64 mn] TPg)).heap[w.heap.size + 1]? = some (.cells #[.slice none 0 0, .slice none 0 0, .int .i64 0] TPg (0, 0))) := blk_b HN2.out hb3
  rw [HZ2.out] at HN3
  clear hb3
  go_upto_region 2 with (first | ((with_reducible apply step_store hold); rfl; rfl; kernel_rfl; rfl; kernel_rfl; rw [World.setRow_alloc_new]) | fail)
  refine (?_ : Code.wp _ _ _ _ (W1.alloc (.cells #[.slice none 0 0, .slice none 0 0, .int .i64 mn] TPg)))
  rw [HZ2.out]
  have y0 := (Lib.cell_of_heap HM1.out 0).trans rfl
  generalize W1.alloc (.cells #[.slice none 0 0, .slice none 0 0, .int .i64 mn] TPg) = W2 at *
  clear hold x2
  go_wp2
  go_loopw [4] (fun iv wr => iv = .int .i64 0 ∧ wr = W2) (fun iv _ => 0)
  case atStart => exact ⟨rfl, rfl⟩
  case round =>
    obtain ⟨rfl, hwr⟩ := hrel
    subst hwr
    go_wp2
    clear y0
    go_loopw [6] (fun iv wx => ∃ (k : Nat) (l2 : List Fg) (fp : Option Addr) (fc : Nat), iv = .int .i64 k ∧ k ≤ l1.length ∧ Hid (l2.length = k) ∧ Hid (wx.heap[w.heap.size + 2]? = some (.cells #[.slice none 0 0, .slice fp k fc, .int .i64 mn] TPg (0, 0))) ∧ Hid (wx.ownsRow w.heap.size TFn 6 (.slice fp k fc) k (flatC fgC l2)) ∧ Hid (∀ (k : Nat) (a b : Fg), l1[k]? = some a → l2[k]? = some b → FgEq a b) ∧ Hid (∀ q ∈ l2, FgOwn w.heap.size wx q) ∧ Hid (wx.heap[w.heap.size]? = some (.cells #[.slice p1 0 c1, .slice f1 l1.length t1, .int .i64 mn] TPg (0, 0))) ∧ Hid (wx.heap[w.heap.size + 1]? = some (.cells #[.slice none 0 0, .slice none 0 0, .int .i64 0] TPg (0, 0))) ∧ Hid (Below w.heap.size w wx)) (fun iv _ => l1.length - (intOf iv).toNat)
    case atStart => exact ⟨0, [], none, 0, rfl, Nat.zero_le _, rfl, HN3, ⟨rfl, Or.inl ⟨rfl, rfl⟩⟩, (fun k a b _ h => by simp at h), (fun q hq => by simp at hq), HM1, HM2, HB3⟩
    case round =>
      rename World => wx
      obtain ⟨k, l2, fp, fc, rfl, hk, HL2, HG3, HOW, HEQ, HFO, HG1, HG2, HBX⟩ := hrel
      have e1 := (Lib.cell_of_heap HG1.out 1).trans rfl
      clear HN3 HM1 HM2 HB3
      by_cases hlt : k < l1.length
      · obtain ⟨a, ha⟩ : ∃ r, l1[k]? = some r := ⟨_, List.getElem?_eq_getElem hlt⟩
        obtain ⟨g, o, hfe, hg, hc⟩ := (HK1.out wx HBX.out).2 k _ ha
        subst hfe
        have q1 := (HK1.out wx HBX.out).1.1
        have HCI : Hid (CopyIn w a) := HI1.out a (List.mem_of_getElem? ha)
        have HA : Hid (l1[k]? = some a) := ha
        have c0 : wx.cell? ⟨g, o + k * 6, none⟩ = some (.string a.f.nm) := hc 0 (by omega)
        have c1' : wx.cell? ⟨g, o + k * 6 + 1, none⟩ = some (.int .i64 a.f.pr) := hc 1 (by omega)
        have c2 : wx.cell? ⟨g, o + k * 6 + 2, none⟩ = some (.int .i64 a.f.tp) := hc 2 (by omega)
        have c3 : wx.cell? ⟨g, o + k * 6 + 3, none⟩ = some (.bool a.f.gv) := hc 3 (by omega)
        have c4 : wx.cell? ⟨g, o + k * 6 + 4, none⟩ = some (.slice none 0 0) := by have := hc 4 (by omega); simp only [fgC, fnC, List.getElem?_cons_zero, List.getElem?_cons_succ, HCI.out.sp, HCI.out.sn, HCI.out.sc] at this; exact this
        have c5 : wx.cell? ⟨g, o + k * 6 + 5, none⟩ = some (.slice a.f.cp a.code.length a.f.cc) := by have := hc 5 (by omega); simp only [fgC, fnC, List.getElem?_cons_zero, List.getElem?_cons_succ, HCI.out.ok.cn] at this; exact this
        have hold := heap_r0 wx (.cells #[.string ⟨#[]⟩, .int .i64 0, .int .i64 0, .bool false, .slice none 0 0, .slice none 0 0] TFn)
        clear ha hc
        go_upto_region 13 with (first | ((with_reducible apply step_store hold); rfl; rfl; kernel_rfl; rfl; kernel_rfl; rw [World.setRow_alloc_new]) | fail)
        refine (?_ : Code.wp _ _ _ _ (wx.alloc (.cells #[.string a.f.nm, .int .i64 a.f.pr, .int .i64 a.f.tp, .bool a.f.gv, .slice none 0 0, .slice a.f.cp a.code.length a.f.cc] TFn)))
        have hb5 := below1 wx (.cells #[.string a.f.nm, .int .i64 a.f.pr, .int .i64 a.f.tp, .bool a.f.gv, .slice none 0 0, .slice a.f.cp a.code.length a.f.cc] TFn)
        have hn5 := heap_r0 wx (.cells #[.string a.f.nm, .int .i64 a.f.pr, .int .i64 a.f.tp, .bool a.f.gv, .slice none 0 0, .slice a.f.cp a.code.length a.f.cc] TFn)
        have HG35 : Hid ((wx.alloc (.cells #[.string a.f.nm, .int .i64 a.f.pr, .int .i64 a.f.tp, .bool a.f.gv, .slice none 0 0, .slice a.f.cp a.code.length a.f.cc] TFn)).heap[w.heap.size + 2]? = some (.cells #[.slice none 0 0, .slice fp k fc, .int .i64 mn] TPg (0, 0))) := blk_b HG3.out hb5
        have HG15 : Hid ((wx.alloc (.cells #[.string a.f.nm, .int .i64 a.f.pr, .int .i64 a.f.tp, .bool a.f.gv, .slice none 0 0, .slice a.f.cp a.code.length a.f.cc] TFn)).heap[w.heap.size]? = some (.cells #[.slice p1 0 c1, .slice (some ⟨g, o, none⟩) l1.length t1, .int .i64 mn] TPg (0, 0))) := blk_b HG1.out hb5
        have HG25 : Hid ((wx.alloc (.cells #[.string a.f.nm, .int .i64 a.f.pr, .int .i64 a.f.tp, .bool a.f.gv, .slice none 0 0, .slice a.f.cp a.code.length a.f.cc] TFn)).heap[w.heap.size + 1]? = some (.cells #[.slice none 0 0, .slice none 0 0, .int .i64 0] TPg (0, 0))) := blk_b HG2.out hb5
        have HOW5 : Hid ((wx.alloc (.cells #[.string a.f.nm, .int .i64 a.f.pr, .int .i64 a.f.tp, .bool a.f.gv, .slice none 0 0, .slice a.f.cp a.code.length a.f.cc] TFn)).ownsRow w.heap.size TFn 6 (.slice fp k fc) k (flatC fgC l2)) := ownsRow_turned HOW.out (Turned.of_below hb5 (fun _ => False)) (fun _ _ h => h)
        have HFO5 : Hid (∀ q ∈ l2, FgOwn w.heap.size (wx.alloc (.cells #[.string a.f.nm, .int .i64 a.f.pr, .int .i64 a.f.tp, .bool a.f.gv, .slice none 0 0, .slice a.f.cp a.code.length a.f.cc] TFn)) q) := fun q hq => (HFO.out q hq).below hb5
        have HB5 : Hid (Below w.heap.size w (wx.alloc (.cells #[.string a.f.nm, .int .i64 a.f.pr, .int .i64 a.f.tp, .bool a.f.gv, .slice none 0 0, .slice a.f.cp a.code.length a.f.cc] TFn))) := HBX.out.trans (hb5.mono HBX.out.size)
        have HN5 : Hid ((wx.alloc (.cells #[.string a.f.nm, .int .i64 a.f.pr, .int .i64 a.f.tp, .bool a.f.gv, .slice none 0 0, .slice a.f.cp a.code.length a.f.cc] TFn)).heap[wx.heap.size]? = some (.cells #[.string a.f.nm, .int .i64 a.f.pr, .int .i64 a.f.tp, .bool a.f.gv, .slice none 0 0, .slice a.f.cp a.code.length a.f.cc] TFn (0, 0))) := hn5
        have hgb : w.heap.size + 2 < wx.heap.size := lt_of_heap HG3.out
        have HLT : Hid (∀ j, (Value.slice fp k fc).ownBlock = some j → j < wx.heap.size) := fun j hj => by
          obtain ⟨_, cur, hcur⟩ := ownsRow_at HOW.out hj
          exact lt_of_heap hcur
        have m4 := (Lib.cell_of_heap hn5 4).trans rfl
        have m5 := (Lib.cell_of_heap hn5 5).trans rfl
        generalize wx.alloc (.cells #[.string a.f.nm, .int .i64 a.f.pr, .int .i64 a.f.tp, .bool a.f.gv, .slice none 0 0, .slice a.f.cp a.code.length a.f.cc] TFn) = W5 at *
        generalize wx.heap.size = b5 at *
        clear hb5 hn5 HG3 HG1 HG2 HOW HFO HBX hold c0 c1' c2 c3 c4 c5 e1
        have bE := below1 W5 (.cells #[] TSl)
        have hn6 := blk_b HN5.out bE
        have HN6 : Hid (_ = _) := hn6
        have fz := frozen_of hn6
        have s4 := (Lib.cell_of_heap hn6 4).trans rfl
        have HOE : Hid ((W5.alloc (.cells #[] TSl)).ownsRow W5.heap.size TSl 2 (.slice (some ⟨W5.heap.size, 0, none⟩) 0 0) 0 []) := ⟨rfl, Or.inr ⟨W5.heap.size, 0, #[], rfl, Nat.le_refl _, heap_r0 W5 _, Nat.zero_le _, Nat.zero_le _, rfl, by simp⟩⟩
        have HBE : Hid (Below W5.heap.size W5 (W5.alloc (.cells #[] TSl))) := bE
        obtain ⟨i0, hi0, _, _, _⟩ := info_parts infoSlt
        clear bE hn6 m4 m5
        go_upto_region 14 with (first | (at_builtin; refine wpList_append_own_none rfl (.tmp 58) (.tmp 60) 29 rfl W5.heap.size TSl i0 2 Tryz.underlying29 hi0 _ 0 [] rfl HOE.out rfl ?_) | fail)
        refine (?_ : Code.wp _ _ _ _ ((W5.alloc (.cells #[] TSl)).setCell ⟨b5, 4, none⟩ (.slice (some ⟨W5.heap.size, 0, none⟩) 0 0)))
        have t6 : Turned (W5.alloc (.cells #[] TSl)) ((W5.alloc (.cells #[] TSl)).setCell ⟨b5, 4, none⟩ (.slice (some ⟨W5.heap.size, 0, none⟩) 0 0)) (fun k => k = b5) := Turned.setCell _ b5 4 _ rfl
        have HN7 : Hid (((W5.alloc (.cells #[] TSl)).setCell ⟨b5, 4, none⟩ (.slice (some ⟨W5.heap.size, 0, none⟩) 0 0)).heap[b5]? = some (.cells #[.string a.f.nm, .int .i64 a.f.pr, .int .i64 a.f.tp, .bool a.f.gv, (.slice (some ⟨W5.heap.size, 0, none⟩) 0 0), .slice a.f.cp a.code.length a.f.cc] TFn (0, 0))) := heap_setCell (j := 4) HN6.out _
        have HG36 : Hid (((W5.alloc (.cells #[] TSl)).setCell ⟨b5, 4, none⟩ (.slice (some ⟨W5.heap.size, 0, none⟩) 0 0)).heap[w.heap.size + 2]? = some (.cells #[.slice none 0 0, .slice fp k fc, .int .i64 mn] TPg (0, 0))) := blk_t (blk_b HG35.out HBE.out) t6 (by omega)
        have HG16 : Hid (((W5.alloc (.cells #[] TSl)).setCell ⟨b5, 4, none⟩ (.slice (some ⟨W5.heap.size, 0, none⟩) 0 0)).heap[w.heap.size]? = some (.cells #[.slice p1 0 c1, .slice (some ⟨g, o, none⟩) l1.length t1, .int .i64 mn] TPg (0, 0))) := blk_t (blk_b HG15.out HBE.out) t6 (by omega)
        have HG26 : Hid (((W5.alloc (.cells #[] TSl)).setCell ⟨b5, 4, none⟩ (.slice (some ⟨W5.heap.size, 0, none⟩) 0 0)).heap[w.heap.size + 1]? = some (.cells #[.slice none 0 0, .slice none 0 0, .int .i64 0] TPg (0, 0))) := blk_t (blk_b HG25.out HBE.out) t6 (by omega)
        have HOW6 : Hid (((W5.alloc (.cells #[] TSl)).setCell ⟨b5, 4, none⟩ (.slice (some ⟨W5.heap.size, 0, none⟩) 0 0)).ownsRow w.heap.size TFn 6 (.slice fp k fc) k (flatC fgC l2)) := ownsRow_turned (ownsRow_turned HOW5.out (Turned.of_below HBE.out (fun _ => False)) (fun _ _ h => h)) t6 (fun j hj e => by have := HLT.out j hj; omega)
        have HFO6 : Hid (∀ q ∈ l2, FgOwn w.heap.size ((W5.alloc (.cells #[] TSl)).setCell ⟨b5, 4, none⟩ (.slice (some ⟨W5.heap.size, 0, none⟩) 0 0)) q) := fun q hq => ((HFO5.out q hq).below HBE.out).turned (ty := TFn) t6 (fun k hk => ⟨_, hk ▸ HN6.out⟩) (by decide) (by decide)
        have HB6 : Hid (Below w.heap.size w ((W5.alloc (.cells #[] TSl)).setCell ⟨b5, 4, none⟩ (.slice (some ⟨W5.heap.size, 0, none⟩) 0 0))) := below_turned (HB5.out.trans (HBE.out.mono HB5.out.size)) t6 (by omega)
        generalize ((W5.alloc (.cells #[] TSl)).setCell ⟨b5, 4, none⟩ (.slice (some ⟨W5.heap.size, 0, none⟩) 0 0)) = W6 at *
        generalize W5.heap.size = e5 at *
        clear t6 HN5 HN6 HG35 HG15 HG25 HOW5 HFO5 HB5 HBE HOE fz s4
        go_upto_region 16 with (fail)
        go_loopw [8, 9] (fun s8 s9 wy => ∃ (k2 : Nat) (cs : List Iw) (vp : Option Addr) (vc : Nat), s8 = .slice vp k2 vc ∧ s9 = .int .i64 k2 ∧ k2 ≤ a.code.length ∧ Hid (cs.length = k2) ∧ Hid (cs.map Iw.x = (a.code.take k2).map Iw.x) ∧ Hid (wy.ownsRow W6.heap.size TIn 12 (.slice vp k2 vc) k2 (flatC iwC cs)) ∧ Hid (∀ i ∈ cs, IwOwn W6.heap.size wy i) ∧ Hid (Below W6.heap.size W6 wy)) (fun _ iv _ => a.code.length - (intOf iv).toNat)
        case atStart => exact ⟨0, [], none, 0, rfl, rfl, Nat.zero_le _, rfl, rfl, ⟨rfl, Or.inl ⟨rfl, rfl⟩⟩, (fun q hq => by simp at hq), Below.refl _ _⟩
        case round =>
          rename World => wy
          obtain ⟨k2, cs, vp, vc, rfl, rfl, hk2, HCL, HCM, HCO, HIO, HBY⟩ := hrel
          have hn8 := blk_b HN7.out HBY.out
          have d5 := (Lib.cell_of_heap hn8 5).trans rfl
          by_cases hlt2 : k2 < a.code.length
          · obtain ⟨r, hr⟩ : ∃ r, a.code[k2]? = some r := ⟨_, List.getElem?_eq_getElem hlt2⟩
            obtain ⟨rx, rp, rc⟩ := r
            have HBW : Hid (Below w.heap.size w wy) := HB6.out.trans (HBY.out.mono HB6.out.size)
            obtain ⟨gc, oc, hce, hgc, hcc⟩ := (HCI.out.ok.cr.below HBW.out).2 k2 _ hr
            have hcap := (HCI.out.ok.cr.below HBW.out).1.1
            have HAV : Hid (∀ Y, Below wy.heap.size wy Y → ArgV Y (.slice rp rx.args.length rc) rx.args) := fun Y hY => (HCI.out.ok.ci _ (List.mem_of_getElem? hr)).ar.below (HBW.out.trans (hY.mono HBW.out.size))
            have hal : rx.args.length ≤ 1000000 := HCI.out.al _ (List.mem_of_getElem? hr)
            have hcl : a.code.length ≤ 1000000 := HCI.out.cl
            have HCM2 : Hid ((a.code.take (k2 + 1)).map Iw.x = cs.map Iw.x ++ [rx]) := by show _ = _; rw [HCM.out, List.take_add_one, hr]; simp
            have HLT2 : Hid (∀ j, (Value.slice vp k2 vc).ownBlock = some j → j < wy.heap.size) := fun j hj => by
              obtain ⟨_, cur, hcur⟩ := ownsRow_at HCO.out hj
              exact lt_of_heap hcur
            rw [hce] at d5
            have j0 : wy.cell? ⟨gc, oc + k2 * 12, none⟩ = some (.int .i64 rx.op) := hcc 0 (by omega)
            have j1 : wy.cell? ⟨gc, oc + k2 * 12 + 1, none⟩ = some (.int .i64 rx.bin) := hcc 1 (by omega)
            have j2 : wy.cell? ⟨gc, oc + k2 * 12 + 2, none⟩ = some (.int .i64 rx.d) := hcc 2 (by omega)
            have j3 : wy.cell? ⟨gc, oc + k2 * 12 + 3, none⟩ = some (.int .i64 rx.a.kind) := hcc 3 (by omega)
            have j4 : wy.cell? ⟨gc, oc + k2 * 12 + 4, none⟩ = some (.int .u32 rx.a.n) := hcc 4 (by omega)
            have j5 : wy.cell? ⟨gc, oc + k2 * 12 + 5, none⟩ = some (.int .i64 rx.b.kind) := hcc 5 (by omega)
            have j6 : wy.cell? ⟨gc, oc + k2 * 12 + 6, none⟩ = some (.int .u32 rx.b.n) := hcc 6 (by omega)
            have j7 : wy.cell? ⟨gc, oc + k2 * 12 + 7, none⟩ = some (.int .i64 rx.n) := hcc 7 (by omega)
            have j8 : wy.cell? ⟨gc, oc + k2 * 12 + 8, none⟩ = some (.int .i64 rx.off) := hcc 8 (by omega)
            have j9 : wy.cell? ⟨gc, oc + k2 * 12 + 9, none⟩ = some (.int .i64 rx.width) := hcc 9 (by omega)
            have j10 : wy.cell? ⟨gc, oc + k2 * 12 + 10, none⟩ = some (.bool rx.sg) := hcc 10 (by omega)
            have j11 : wy.cell? ⟨gc, oc + k2 * 12 + 11, none⟩ = some (.slice rp rx.args.length rc) := hcc 11 (by omega)
            have hold := heap_r0 wy (.cells #[.int .i64 0, .int .i64 0, .int .i64 0, .int .i64 0, .int .u32 0, .int .i64 0, .int .u32 0, .int .i64 0, .int .i64 0, .int .i64 0, .bool false, .slice none 0 0] TIn)
            have hb8 := below1 wy (.cells #[.int .i64 rx.op, .int .i64 rx.bin, .int .i64 rx.d, .int .i64 rx.a.kind, .int .u32 rx.a.n, .int .i64 rx.b.kind, .int .u32 rx.b.n, .int .i64 rx.n, .int .i64 rx.off, .int .i64 rx.width, .bool rx.sg, .slice rp rx.args.length rc] TIn)
            have h8 := heap_r0 wy (.cells #[.int .i64 rx.op, .int .i64 rx.bin, .int .i64 rx.d, .int .i64 rx.a.kind, .int .u32 rx.a.n, .int .i64 rx.b.kind, .int .u32 rx.b.n, .int .i64 rx.n, .int .i64 rx.off, .int .i64 rx.width, .bool rx.sg, .slice rp rx.args.length rc] TIn)
            have HN8 : Hid ((wy.alloc (.cells #[.int .i64 rx.op, .int .i64 rx.bin, .int .i64 rx.d, .int .i64 rx.a.kind, .int .u32 rx.a.n, .int .i64 rx.b.kind, .int .u32 rx.b.n, .int .i64 rx.n, .int .i64 rx.off, .int .i64 rx.width, .bool rx.sg, .slice rp rx.args.length rc] TIn)).heap[wy.heap.size]? = some (.cells #[.int .i64 rx.op, .int .i64 rx.bin, .int .i64 rx.d, .int .i64 rx.a.kind, .int .u32 rx.a.n, .int .i64 rx.b.kind, .int .u32 rx.b.n, .int .i64 rx.n, .int .i64 rx.off, .int .i64 rx.width, .bool rx.sg, .slice rp rx.args.length rc] TIn (0, 0))) := h8
            have HB8 : Hid (Below W6.heap.size W6 (wy.alloc (.cells #[.int .i64 rx.op, .int .i64 rx.bin, .int .i64 rx.d, .int .i64 rx.a.kind, .int .u32 rx.a.n, .int .i64 rx.b.kind, .int .u32 rx.b.n, .int .i64 rx.n, .int .i64 rx.off, .int .i64 rx.width, .bool rx.sg, .slice rp rx.args.length rc] TIn))) := HBY.out.trans (hb8.mono HBY.out.size)
            have HCO8 : Hid ((wy.alloc (.cells #[.int .i64 rx.op, .int .i64 rx.bin, .int .i64 rx.d, .int .i64 rx.a.kind, .int .u32 rx.a.n, .int .i64 rx.b.kind, .int .u32 rx.b.n, .int .i64 rx.n, .int .i64 rx.off, .int .i64 rx.width, .bool rx.sg, .slice rp rx.args.length rc] TIn)).ownsRow W6.heap.size TIn 12 (.slice vp k2 vc) k2 (flatC iwC cs)) := ownsRow_turned HCO.out (Turned.of_below hb8 (fun _ => False)) (fun _ _ h => h)
            have HIO8 : Hid (∀ i ∈ cs, IwOwn W6.heap.size (wy.alloc (.cells #[.int .i64 rx.op, .int .i64 rx.bin, .int .i64 rx.d, .int .i64 rx.a.kind, .int .u32 rx.a.n, .int .i64 rx.b.kind, .int .u32 rx.b.n, .int .i64 rx.n, .int .i64 rx.off, .int .i64 rx.width, .bool rx.sg, .slice rp rx.args.length rc] TIn)) i) := fun i hi => (HIO.out i hi).below hb8
            have HAV8 : Hid (∀ Y, Below (wy.alloc (.cells #[.int .i64 rx.op, .int .i64 rx.bin, .int .i64 rx.d, .int .i64 rx.a.kind, .int .u32 rx.a.n, .int .i64 rx.b.kind, .int .u32 rx.b.n, .int .i64 rx.n, .int .i64 rx.off, .int .i64 rx.width, .bool rx.sg, .slice rp rx.args.length rc] TIn)).heap.size (wy.alloc (.cells #[.int .i64 rx.op, .int .i64 rx.bin, .int .i64 rx.d, .int .i64 rx.a.kind, .int .u32 rx.a.n, .int .i64 rx.b.kind, .int .u32 rx.b.n, .int .i64 rx.n, .int .i64 rx.off, .int .i64 rx.width, .bool rx.sg, .slice rp rx.args.length rc] TIn)) Y → ArgV Y (.slice rp rx.args.length rc) rx.args) := fun Y hY => HAV.out Y (hb8.trans (hY.mono hb8.size))
            have hb5y : W6.heap.size ≤ wy.heap.size := HBY.out.size
            have HZ8 : Hid ((wy.alloc (.cells #[.int .i64 rx.op, .int .i64 rx.bin, .int .i64 rx.d, .int .i64 rx.a.kind, .int .u32 rx.a.n, .int .i64 rx.b.kind, .int .u32 rx.b.n, .int .i64 rx.n, .int .i64 rx.off, .int .i64 rx.width, .bool rx.sg, .slice rp rx.args.length rc] TIn)).heap.size = wy.heap.size + 1) := by show _ = _; simp
            clear hr hcc hce HAV HB6 hb8 h8 hn8
            go_upto_region 19 with (first | ((with_reducible apply step_store hold); rfl; rfl; kernel_rfl; rfl; kernel_rfl; rw [World.setRow_alloc_new]) | fail)
            refine (?_ : Code.wp _ _ _ _ (wy.alloc (.cells #[.int .i64 rx.op, .int .i64 rx.bin, .int .i64 rx.d, .int .i64 rx.a.kind, .int .u32 rx.a.n, .int .i64 rx.b.kind, .int .u32 rx.b.n, .int .i64 rx.n, .int .i64 rx.off, .int .i64 rx.width, .bool rx.sg, .slice rp rx.args.length rc] TIn)))
            clear hold j0 j1 j2 j3 j4 j5 j6 j7 j8 j9 j10 j11 d5
            generalize (wy.alloc (.cells #[.int .i64 rx.op, .int .i64 rx.bin, .int .i64 rx.d, .int .i64 rx.a.kind, .int .u32 rx.a.n, .int .i64 rx.b.kind, .int .u32 rx.b.n, .int .i64 rx.n, .int .i64 rx.off, .int .i64 rx.width, .bool rx.sg, .slice rp rx.args.length rc] TIn)) = W8 at *
            generalize wy.heap.size = b8 at *
            have bE := below1 W8 (.cells #[] TAr)
            have h9 := blk_b HN8.out bE
            have HN9 : Hid ((W8.alloc (.cells #[] TAr)).heap[b8]? = some (.cells #[.int .i64 rx.op, .int .i64 rx.bin, .int .i64 rx.d, .int .i64 rx.a.kind, .int .u32 rx.a.n, .int .i64 rx.b.kind, .int .u32 rx.b.n, .int .i64 rx.n, .int .i64 rx.off, .int .i64 rx.width, .bool rx.sg, .slice rp rx.args.length rc] TIn (0, 0))) := h9
            have s11 := (Lib.cell_of_heap h9 11).trans rfl
            have hE := heap_r0 W8 (.cells #[] TAr)
            have HOE : Hid ((W8.alloc (.cells #[] TAr)).ownsRow W6.heap.size TAr 2 (.slice (some ⟨W8.heap.size, 0, none⟩) 0 0) 0 []) := ⟨rfl, Or.inr ⟨W8.heap.size, 0, #[], rfl, HB8.out.size, hE, Nat.zero_le _, Nat.zero_le _, rfl, by simp⟩⟩
            have HB9 : Hid (Below W6.heap.size W6 (W8.alloc (.cells #[] TAr))) := HB8.out.trans (bE.mono HB8.out.size)
            have HAV9 : Hid (ArgV (W8.alloc (.cells #[] TAr)) (.slice rp rx.args.length rc) rx.args) := HAV8.out _ bE
            have HBE : Hid (Below W8.heap.size W8 (W8.alloc (.cells #[] TAr))) := bE
            clear bE h9 hE
            go_upto_region 20 with (at_builtin; go_must (refine append_args rfl (.tmp 75) (.tmp 77) rfl W6.heap.size (.slice (some ⟨W8.heap.size, 0, none⟩) 0 0) 0 [] rfl HOE.out (xv := .slice rp rx.args.length rc) (l := rx.args) rfl HAV9.out (by omega) HB9.out.size ?_; intro v3 w3 ho3 hg3; obtain ⟨vp', vc', rfl⟩ := slice_of_own ho3; rw [Nat.zero_add, List.nil_append] at ho3; have h3 := (hg3.block _ (lt_of_heap HN9.out) (fun e => by have := congrArg (fun x : Option Nat => x.getD 0) e; simp [Value.ownBlock] at this; have := HZ8.out; omega)).trans HN9.out; have fz3 := frozen_of h3 11; have s3 := (Lib.cell_of_heap h3 11).trans rfl; have HN3' : Hid (_ = _) := h3; have HO3 : Hid (World.ownsRow _ _ _ _ _ _ _) := ho3; have HG3' : Hid (World.grownBy _ _ _) := hg3; clear ho3 hg3 h3))
            refine (?_ : Code.wp _ _ _ _ (w3.setCell ⟨b8, 11, none⟩ (.slice vp' rx.args.length vc')))
            have tgA : Turned (W8.alloc (.cells #[] TAr)) w3 (fun j => some W8.heap.size = some j) := Turned.of_grown HG3'.out (fun k e => e)
            have t11 : Turned w3 (w3.setCell ⟨b8, 11, none⟩ (.slice vp' rx.args.length vc')) (fun j => j = b8) := Turned.setCell w3 b8 11 _ rfl
            have h11 : (w3.setCell ⟨b8, 11, none⟩ (.slice vp' rx.args.length vc')).heap[b8]? = some (.cells #[.int .i64 rx.op, .int .i64 rx.bin, .int .i64 rx.d, .int .i64 rx.a.kind, .int .u32 rx.a.n, .int .i64 rx.b.kind, .int .u32 rx.b.n, .int .i64 rx.n, .int .i64 rx.off, .int .i64 rx.width, .bool rx.sg, .slice vp' rx.args.length vc'] TIn (0, 0)) := heap_setCell (j := 11) HN3'.out _
            have hb12 := below1 (w3.setCell ⟨b8, 11, none⟩ (.slice vp' rx.args.length vc')) (.cells #[.int .i64 rx.op, .int .i64 rx.bin, .int .i64 rx.d, .int .i64 rx.a.kind, .int .u32 rx.a.n, .int .i64 rx.b.kind, .int .u32 rx.b.n, .int .i64 rx.n, .int .i64 rx.off, .int .i64 rx.width, .bool rx.sg, .slice vp' rx.args.length vc'] TIn)
            have hB3 : Below W6.heap.size W6 w3 := below_grown HB9.out HB9.out.size HG3'.out (fun k e => by injection e with e; subst e; exact HB8.out.size)
            have hB11 : Below W6.heap.size W6 (w3.setCell ⟨b8, 11, none⟩ (.slice vp' rx.args.length vc')) := below_turned hB3 t11 (by omega)
            have HB12 : Hid (Below W6.heap.size W6 ((w3.setCell ⟨b8, 11, none⟩ (.slice vp' rx.args.length vc')).alloc (.cells #[.int .i64 rx.op, .int .i64 rx.bin, .int .i64 rx.d, .int .i64 rx.a.kind, .int .u32 rx.a.n, .int .i64 rx.b.kind, .int .u32 rx.b.n, .int .i64 rx.n, .int .i64 rx.off, .int .i64 rx.width, .bool rx.sg, .slice vp' rx.args.length vc'] TIn))) := hB11.trans (hb12.mono hB11.size)
            have HCO12 : Hid (((w3.setCell ⟨b8, 11, none⟩ (.slice vp' rx.args.length vc')).alloc (.cells #[.int .i64 rx.op, .int .i64 rx.bin, .int .i64 rx.d, .int .i64 rx.a.kind, .int .u32 rx.a.n, .int .i64 rx.b.kind, .int .u32 rx.b.n, .int .i64 rx.n, .int .i64 rx.off, .int .i64 rx.width, .bool rx.sg, .slice vp' rx.args.length vc'] TIn)).ownsRow W6.heap.size TIn 12 (.slice vp k2 vc) k2 (flatC iwC cs)) := ownsRow_turned (ownsRow_turned (ownsRow_turned (ownsRow_turned HCO8.out (Turned.of_below HBE.out (fun _ => False)) (fun _ _ h => h)) tgA (fun j hj e => by injection e with e; have := HLT2.out j hj; have := HZ8.out; omega)) t11 (fun j hj e => by have := HLT2.out j hj; omega)) (Turned.of_below hb12 (fun _ => False)) (fun _ _ h => h)
            have HA12 : Hid (∀ i ∈ cs ++ [(⟨rx, vp', vc'⟩ : Iw)], IwOwn W6.heap.size ((w3.setCell ⟨b8, 11, none⟩ (.slice vp' rx.args.length vc')).alloc (.cells #[.int .i64 rx.op, .int .i64 rx.bin, .int .i64 rx.d, .int .i64 rx.a.kind, .int .u32 rx.a.n, .int .i64 rx.b.kind, .int .u32 rx.b.n, .int .i64 rx.n, .int .i64 rx.off, .int .i64 rx.width, .bool rx.sg, .slice vp' rx.args.length vc'] TIn)) i) := fun i hi => by
              have h0 : IwOwn W6.heap.size w3 i := by
                rcases List.mem_append.1 hi with h | h
                · have h8 := HIO8.out i h
                  exact ownsRow_turned (h8.below HBE.out) tgA (fun j hj e => by
                    injection e with e
                    obtain ⟨_, cur, hcur⟩ := ownsRow_at h8 hj
                    have := lt_of_heap hcur
                    omega)
                · rw [List.mem_singleton.1 h]; exact HO3.out
              exact (h0.turned (ty := TIn) t11 (fun k hk => ⟨_, hk ▸ HN3'.out⟩) (by decide)).below hb12
            obtain ⟨x0, x1, x2, x3, x4, x5, x6, x7, x8, x9, x10, x11⟩ := cells12 h11
            obtain ⟨i1, hi1, hw0, hw1, hw2⟩ := info_parts infoIn
            generalize (w3.setCell ⟨b8, 11, none⟩ (.slice vp' rx.args.length vc')) = W11 at *
            clear tgA t11 h11 hb12 hB3 hB11 s3 fz3 s11 HN9 HN8 HOE HAV9 HBE
            go_wp2_with (at_builtin; go_must (refine wpList_append_own_at _ rfl (.tmp 80) (.tmp 82) 30 rfl W6.heap.size TIn i1 _ 12 112 Tryz.underlying30 hi1 hw0 hw1 hw2 rfl (by decide) _ k2 _ rfl HCO12.out ⟨W11.heap.size, 0, none⟩ 1 1 (#[.int .i64 rx.op, .int .i64 rx.bin, .int .i64 rx.d, .int .i64 rx.a.kind, .int .u32 rx.a.n, .int .i64 rx.b.kind, .int .u32 rx.b.n, .int .i64 rx.n, .int .i64 rx.off, .int .i64 rx.width, .bool rx.sg, .slice vp' rx.args.length vc']).toList rfl rfl (cells_new _ _ _) (by simp [Value.oneCell']) (by unfold maxLen; omega) (by omega) HB12.out.size ?_; intro v' w13 hown hgrow hnil hat; obtain ⟨p', cap', rfl⟩ := slice_of_own hown; have HOW13 : Hid (World.ownsRow _ _ _ _ _ _ _) := hown; have HGR : Hid (World.grownBy _ _ _) := hgrow; clear hown hgrow hnil hat))
            have tg : Turned (W11.alloc (.cells #[.int .i64 rx.op, .int .i64 rx.bin, .int .i64 rx.d, .int .i64 rx.a.kind, .int .u32 rx.a.n, .int .i64 rx.b.kind, .int .u32 rx.b.n, .int .i64 rx.n, .int .i64 rx.off, .int .i64 rx.width, .bool rx.sg, .slice vp' rx.args.length vc'] TIn)) w13 (fun j => (Value.slice vp k2 vc).ownBlock = some j) := Turned.of_grown HGR.out (fun k e => e)
            refine ⟨⟨k2 + 1, cs ++ [(⟨rx, vp', vc'⟩ : Iw)], p', cap', rfl, by go_num, by omega, Lib.hid (by rw [List.length_append, HCL.out]; rfl), Lib.hid (by rw [HCM2.out]; simp), Lib.hid (by rw [flatC_snoc]; exact HOW13.out), Lib.hid (fun i hi => (HA12.out i hi).turned (ty := TIn) tg (fun j hj => by obtain ⟨_, cur, hcur⟩ := ownsRow_at HCO12.out hj; exact ⟨cur, hcur⟩) (by decide)), Lib.hid (below_grown HB12.out HB12.out.size HGR.out (fun k e => (ownsRow_at HCO12.out e).1))⟩, by simp [intOf]; omega⟩
          · have hkl2 : k2 = a.code.length := by omega
            subst hkl2
            have hge : ¬ ((a.code.length : Int) < (a.code.length : Int)) := by omega
            have HBW : Hid (Below w.heap.size w wy) := HB6.out.trans (HBY.out.mono HB6.out.size)
            have HNF : Hid (FgOwn w.heap.size wy (⟨⟨a.f.nm, a.f.pr, a.f.tp, a.f.gv, some ⟨e5, 0, none⟩, 0, 0, vp, a.code.length, vc⟩, [], cs⟩ : Fg)) := ⟨rfl, rfl, (fun e => by cases e), HCL.out.symm, by show wy.ownsRow _ _ _ (.slice vp cs.length vc) cs.length _; rw [HCL.out]; exact own_mono HCO.out HB6.out.size, fun i hi => (HIO.out i hi).mono HB6.out.size⟩
            have HFE : Hid (FgEq a (⟨⟨a.f.nm, a.f.pr, a.f.tp, a.f.gv, some ⟨e5, 0, none⟩, 0, 0, vp, a.code.length, vc⟩, [], cs⟩ : Fg)) := ⟨rfl, rfl, rfl, rfl, HCI.out.sl.symm, by show _ = cs.map Iw.x; rw [HCM.out, List.take_length]⟩
            have t21 : Turned wy (wy.setCell ⟨b5, 5, none⟩ (.slice vp a.code.length vc)) (fun j => j = b5) := Turned.setCell wy b5 5 _ rfl
            have h21 : (wy.setCell ⟨b5, 5, none⟩ (.slice vp a.code.length vc)).heap[b5]? = some (.cells #[.string a.f.nm, .int .i64 a.f.pr, .int .i64 a.f.tp, .bool a.f.gv, .slice (some ⟨e5, 0, none⟩) 0 0, .slice vp a.code.length vc] TFn (0, 0)) := heap_setCell (j := 5) hn8 _
            have hb22 := below1 (wy.setCell ⟨b5, 5, none⟩ (.slice vp a.code.length vc)) (.cells #[.string a.f.nm, .int .i64 a.f.pr, .int .i64 a.f.tp, .bool a.f.gv, .slice (some ⟨e5, 0, none⟩) 0 0, .slice vp a.code.length vc] TFn)
            have HA22 : Hid (∀ q ∈ l2 ++ [(⟨⟨a.f.nm, a.f.pr, a.f.tp, a.f.gv, some ⟨e5, 0, none⟩, 0, 0, vp, a.code.length, vc⟩, [], cs⟩ : Fg)], FgOwn w.heap.size ((wy.setCell ⟨b5, 5, none⟩ (.slice vp a.code.length vc)).alloc (.cells #[.string a.f.nm, .int .i64 a.f.pr, .int .i64 a.f.tp, .bool a.f.gv, .slice (some ⟨e5, 0, none⟩) 0 0, .slice vp a.code.length vc] TFn)) q) := fun q hq => by
              have h0 : FgOwn w.heap.size wy q := by
                rcases List.mem_append.1 hq with h | h
                · exact (HFO6.out q h).below HBY.out
                · rw [List.mem_singleton.1 h]; exact HNF.out
              exact (h0.turned (ty := TFn) t21 (fun k hk => ⟨_, hk ▸ hn8⟩) (by decide) (by decide)).below hb22
            have HO22 : Hid (((wy.setCell ⟨b5, 5, none⟩ (.slice vp a.code.length vc)).alloc (.cells #[.string a.f.nm, .int .i64 a.f.pr, .int .i64 a.f.tp, .bool a.f.gv, .slice (some ⟨e5, 0, none⟩) 0 0, .slice vp a.code.length vc] TFn)).ownsRow w.heap.size TFn 6 (.slice fp k fc) k (flatC fgC l2)) := ownsRow_turned (ownsRow_turned (ownsRow_turned HOW6.out (Turned.of_below HBY.out (fun _ => False)) (fun _ _ h => h)) t21 (fun j hj e => by have := HLT.out j hj; omega)) (Turned.of_below hb22 (fun _ => False)) (fun _ _ h => h)
            have hg3 : (wy.setCell ⟨b5, 5, none⟩ (.slice vp a.code.length vc)).heap[w.heap.size + 2]? = some (.cells #[.slice none 0 0, .slice fp k fc, .int .i64 mn] TPg (0, 0)) := blk_t (blk_b HG36.out HBY.out) t21 (by omega)
            have HG322 : Hid (((wy.setCell ⟨b5, 5, none⟩ (.slice vp a.code.length vc)).alloc (.cells #[.string a.f.nm, .int .i64 a.f.pr, .int .i64 a.f.tp, .bool a.f.gv, .slice (some ⟨e5, 0, none⟩) 0 0, .slice vp a.code.length vc] TFn)).heap[w.heap.size + 2]? = some (.cells #[.slice none 0 0, .slice fp k fc, .int .i64 mn] TPg (0, 0))) := blk_b hg3 hb22
            have HG122 : Hid (((wy.setCell ⟨b5, 5, none⟩ (.slice vp a.code.length vc)).alloc (.cells #[.string a.f.nm, .int .i64 a.f.pr, .int .i64 a.f.tp, .bool a.f.gv, .slice (some ⟨e5, 0, none⟩) 0 0, .slice vp a.code.length vc] TFn)).heap[w.heap.size]? = some (.cells #[.slice p1 0 c1, .slice (some ⟨g, o, none⟩) l1.length t1, .int .i64 mn] TPg (0, 0))) := blk_b (blk_t (blk_b HG16.out HBY.out) t21 (by omega)) hb22
            have HG222 : Hid (((wy.setCell ⟨b5, 5, none⟩ (.slice vp a.code.length vc)).alloc (.cells #[.string a.f.nm, .int .i64 a.f.pr, .int .i64 a.f.tp, .bool a.f.gv, .slice (some ⟨e5, 0, none⟩) 0 0, .slice vp a.code.length vc] TFn)).heap[w.heap.size + 1]? = some (.cells #[.slice none 0 0, .slice none 0 0, .int .i64 0] TPg (0, 0))) := blk_b (blk_t (blk_b HG26.out HBY.out) t21 (by omega)) hb22
            have hb21 : Below w.heap.size w (wy.setCell ⟨b5, 5, none⟩ (.slice vp a.code.length vc)) := below_turned HBW.out t21 (by omega)
            have HB22 : Hid (Below w.heap.size w ((wy.setCell ⟨b5, 5, none⟩ (.slice vp a.code.length vc)).alloc (.cells #[.string a.f.nm, .int .i64 a.f.pr, .int .i64 a.f.tp, .bool a.f.gv, .slice (some ⟨e5, 0, none⟩) 0 0, .slice vp a.code.length vc] TFn))) := hb21.trans (hb22.mono hb21.size)
            have fz := frozen_of hn8 5
            have u1 := (Lib.cell_of_heap hg3 1).trans rfl
            have v0 := (Lib.cell_of_heap h21 0).trans rfl
            have v1 := (Lib.cell_of_heap h21 1).trans rfl
            have v2 := (Lib.cell_of_heap h21 2).trans rfl
            have v3 := (Lib.cell_of_heap h21 3).trans rfl
            have v4 := (Lib.cell_of_heap h21 4).trans rfl
            have v5 := (Lib.cell_of_heap h21 5).trans rfl
            obtain ⟨i0, hi, hz0, hz1, hz2⟩ := info_parts infoFn'
            clear t21 h21 hb22 hg3 hb21 hn8
            go_upto_region 22 with (fail)
            refine (?_ : Code.wp _ _ _ _ (wy.setCell ⟨b5, 5, none⟩ (.slice vp a.code.length vc)))
            generalize (wy.setCell ⟨b5, 5, none⟩ (.slice vp a.code.length vc)) = W21 at *
            go_wp2_with (at_builtin; go_must (refine wpList_append_own_at _ rfl (.tmp 87) (.tmp 89) 23 rfl w.heap.size TFn i0 _ 6 88 Tryz.underlying23 hi hz0 hz1 hz2 rfl (by decide) _ k _ rfl HO22.out ⟨W21.heap.size, 0, none⟩ 1 1 (#[.string a.f.nm, .int .i64 a.f.pr, .int .i64 a.f.tp, .bool a.f.gv, .slice (some ⟨e5, 0, none⟩) 0 0, .slice vp a.code.length vc]).toList rfl rfl (cells_new _ _ _) (by simp [Value.oneCell']) (by unfold maxLen; omega) (by omega) HB22.out.size ?_; intro v' w11 hown hgrow hnil hat; obtain ⟨p', cap', rfl⟩ := slice_of_own hown; have h3 := (hgrow.block _ (lt_of_heap HG322.out) (fun e => not_own (cs := []) HO22.out HG322.out (by decide) e.symm)).trans HG322.out; have fz3 := frozen_of h3 1; have u3 := (Lib.cell_of_heap h3 1).trans rfl; have HG11 : Hid (_ = _) := h3; have HOW11 : Hid (World.ownsRow _ _ _ _ _ _ _) := hown; have HGR : Hid (World.grownBy _ _ _) := hgrow; clear hown hgrow hnil hat h3))
            have t12 : Turned w11 (w11.setCell ⟨w.heap.size + 2, 1, none⟩ (.slice p' (k + 1) cap')) (fun j => j = w.heap.size + 2) := Turned.setCell w11 _ 1 _ rfl
            have tg : Turned (W21.alloc (.cells #[.string a.f.nm, .int .i64 a.f.pr, .int .i64 a.f.tp, .bool a.f.gv, .slice (some ⟨e5, 0, none⟩) 0 0, .slice vp a.code.length vc] TFn)) w11 (fun j => (Value.slice fp k fc).ownBlock = some j) := Turned.of_grown HGR.out (fun k e => e)
            have hg1 := blk_t (blk_t HG122.out tg (not_own (cs := []) HO22.out HG122.out (by decide))) t12 (by omega)
            have hg2 := blk_t (blk_t HG222.out tg (not_own (cs := []) HO22.out HG222.out (by decide))) t12 (by omega)
            have hb11 : Below w.heap.size w w11 := below_grown HB22.out HB22.out.size HGR.out (fun k e => (ownsRow_at HO22.out e).1)
            refine ⟨⟨k + 1, l2 ++ [(⟨⟨a.f.nm, a.f.pr, a.f.tp, a.f.gv, some ⟨e5, 0, none⟩, 0, 0, vp, a.code.length, vc⟩, [], cs⟩ : Fg)], p', cap', by go_num, by omega, Lib.hid (by rw [List.length_append, HL2.out]; rfl), Lib.hid (heap_setCell (j := 1) HG11.out _), Lib.hid ?_, Lib.hid ?_, Lib.hid ?_, Lib.hid hg1, Lib.hid hg2, Lib.hid (below_turned hb11 t12 (by omega))⟩, by simp [intOf]; omega⟩
            · rw [flatC_snoc]
              exact ownsRow_turned HOW11.out t12 (fun j hj e => not_own (cs := []) HOW11.out HG11.out (by decide) (e ▸ hj))
            · intro k' x y hx hy
              by_cases hk' : k' < l2.length
              · rw [List.getElem?_append_left hk'] at hy
                exact HEQ.out k' x y hx hy
              · rw [List.getElem?_append_right (by omega)] at hy
                have h0 : k' - l2.length = 0 := by
                  have := (List.getElem?_eq_some_iff.1 hy).1
                  simp at this
                  omega
                rw [h0] at hy
                simp only [List.getElem?_cons_zero, Option.some.injEq] at hy
                have hkk : k' = k := by have := HL2.out; omega
                rw [hkk, HA.out] at hx
                injection hx with hx
                subst hx hy
                exact HFE.out
            · intro q hq
              exact ((HA22.out q hq).turned (ty := TFn) tg (fun j hj => by obtain ⟨_, cur, hcur⟩ := ownsRow_at HO22.out hj; exact ⟨cur, hcur⟩) (by decide) (by decide)).turned (ty := TPg) t12 (fun j hj => ⟨_, hj ▸ HG11.out⟩) (by decide) (by decide)
      · have hkl : k = l1.length := by omega
        subst hkl
        have hge : ¬ ((l1.length : Int) < (l1.length : Int)) := by omega
        have g0 := (Lib.cell_of_heap HG3.out 0).trans rfl
        have g1 := (Lib.cell_of_heap HG3.out 1).trans rfl
        have g2 := (Lib.cell_of_heap HG3.out 2).trans rfl
        have hold2 := HG2.out
        go_upto_region 23 with (fail)
        go_wp2_with (first | ((with_reducible apply step_store hold2); rfl; rfl; kernel_rfl; rfl; kernel_rfl) | fail)
        have g9 : (wx.setRow (w.heap.size + 1) #[.slice none 0 0, .slice fp l1.length fc, .int .i64 mn]).heap[w.heap.size + 1]? = some (.cells #[.slice none 0 0, .slice fp l1.length fc, .int .i64 mn] TPg (0, 0)) := setRow_heap _ _ _ _ _ _ hold2
        have t9 : Turned wx (wx.setRow (w.heap.size + 1) #[.slice none 0 0, .slice fp l1.length fc, .int .i64 mn]) (fun k => k = w.heap.size + 1) := Turned.setRow wx _ _ rfl
        have z0 := (Lib.cell_of_heap g9 0).trans rfl
        have z1 := (Lib.cell_of_heap g9 1).trans rfl
        have z2 := (Lib.cell_of_heap g9 2).trans rfl
        refine bodyPost_ret (v := .agg #[.slice none 0 0, .slice fp l1.length fc, .int .i64 mn]) (by simp [results, Tryz.results14, go_sem, z0, z1, z2]) rfl ⟨fp, fc, rfl, l2, HL2.out, ?_, HEQ.out, fun q hq => (HFO.out q hq).turned (ty := TPg) t9 (fun k hk => ⟨_, hk ▸ hold2⟩) (by decide) (by decide), below_turned HBX.out t9 (Nat.le_succ _)⟩
        exact ownsRow_turned HOW.out t9 (fun k hk e => by
          obtain ⟨_, cur, hcur⟩ := ownsRow_at HOW.out hk
          rw [e, hold2] at hcur
          injection hcur with h1
          injection h1 with _ h2
          exact absurd h2 (by decide))
end
end Go.Proofs.YtaaphipbkpjkjaaGreatDoor
