/-
  Whether a program may be does not rest on where its rows lie: two programs that are the same have one answer.
  append of a slice that came in, whatever its elements are; what a copy of a program owns.
-/
import Derived.Test.YtaaphipbkpjkjaaGreatDoorNG
import Derived.Test.YtaaphipbkpjkjaaGreatDoorKK
namespace Go.Proofs.YtaaphipbkpjkjaaGreatDoor
open Go.RowKit Go.Maps
set_option linter.unusedVariables false
set_option linter.unusedSimpArgs false
set_option maxRecDepth 100000
abbrev TU8 : TypeId := 5
theorem infoBy : (Tryz.prog.info? TU8).map (fun i => (i.zero, i.size, i.bytes)) = some (some (.int .u8 0), 1, 1) := by kernel_rfl
theorem infoRl : (Tryz.prog.info? TRl).map (fun i => (i.zero, i.size, i.bytes)) = some (some (.agg #[.int .i64 0, .int .i64 0, .int .i64 0]), 3, 24) := by kernel_rfl
theorem infoOb : (Tryz.prog.info? TOb).map (fun i => (i.zero, i.size, i.bytes)) = some (some (.agg #[.string ⟨#[]⟩, .int .i64 0, .int .i64 0, .slice none 0 0, .slice none 0 0]), 5, 80) := by kernel_rfl
theorem append_row {α : Type} {C : α → List Value} {ops : Array Oper} {rest : List Oper} {o : Oper} {a : Act} {Q : Exit → Act → World → Prop} {w : World} (k bytes : Nat) (hk : 0 < k) (hC : ∀ x, (C x).length = k) (h1C : ∀ x, ∀ u ∈ C x, u.oneCell' = true) {ts te : TypeId} {i0 : TypeInfo} {z : Value}
    (hu : Tryz.prog.underlying ts = some (.slice te)) (hi : Tryz.prog.info? te = some i0) (hz0 : i0.zero = some z) (hz1 : i0.size = k) (hz2 : i0.bytes = bytes) (hb0 : 0 < bytes) (hzc : z.cells.size = k) (hgd : o.guard = none) (s x : Operand)
    (ho : o.op = .call { callee := .builtin .append, args := #[s, x], argTypes := #[ts, ts] }) (base : Nat) (v : Value) (n : Nat) (xs : List Value) (hs : a.eval s = v) (hown : w.ownsRow base te k v n xs)
    {p : Option Addr} {cap : Nat} {l : List α} (hx : a.eval x = .slice p l.length cap) (hin : RowV C k w p cap l) (hb : (n + l.length) * bytes ≤ 140737488355328) (hbase : base ≤ w.heap.size)
    (h : ∀ v' w', w'.ownsRow base te k v' (n + l.length) (xs ++ flatC C l) → w.grownBy w' v.ownBlock → wpList Tryz.prog ops Q rest (a.put o.dst v') w') : wpList Tryz.prog ops Q (o :: rest) a w := by
  obtain ⟨⟨hc, hcn⟩, hcell⟩ := hin
  have hn : n + l.length ≤ 140737488355328 := Nat.le_trans (Nat.le_mul_of_pos_right _ hb0) hb
  cases p with
  | none =>
    have hl : l = [] := by
      cases l with
      | nil => rfl
      | cons b l => obtain ⟨_, _, e, _⟩ := hcell 0 b rfl; cases e
    subst hl
    have := hcn rfl
    subst this
    refine wpList_append_own_none hgd s x ts ho base te i0 k hu hi v n xs hs hown hx ?_
    exact h v w (by simpa [flatC] using hown) ⟨rfl, rfl, rfl, Nat.le_refl _, fun _ _ _ => rfl⟩
  | some ad =>
    refine wpList_append_own _ hgd s x ts ho base te i0 z k bytes hu hi hz0 hz1 hz2 hzc hk v n xs hs hown ad l.length cap (flatC C l) hx (flatC_length hC l) ?_ ?_ (by unfold maxLen; omega) hb hbase (fun v' w' h1 h2 _ => h v' w' h1 h2)
    · intro j u hj
      have hjl := (List.getElem?_eq_some_iff.1 hj).1
      rw [flatC_length hC] at hjl
      have hjk : j / k < l.length := Nat.div_lt_of_lt_mul (by rw [Nat.mul_comm]; exact hjl)
      obtain ⟨m, hm⟩ : ∃ m, l[j / k]? = some m := ⟨_, List.getElem?_eq_getElem hjk⟩
      obtain ⟨g, of, hp, hg, hcc⟩ := hcell (j / k) m hm
      injection hp with hp
      subst hp
      have e := flatC_at hC l (j / k) m hm (j % k) (Nat.mod_lt _ hk)
      have c := hcc (j % k) (Nat.mod_lt _ hk)
      have hd : j / k * k + j % k = j := by rw [Nat.mul_comm]; exact Nat.div_add_mod j k
      rw [hd, hj] at e
      rw [← e, show of + j / k * k + j % k = of + j by omega] at c
      rw [Addr.add_lit]
      exact c
    · intro u hu
      obtain ⟨y, _, hy⟩ := List.mem_flatMap.1 hu
      exact h1C y u hy
theorem byC_length (x : UInt8) : (byC x).length = 1 := rfl
theorem rlC_length (x : Rl) : (rlC x).length = 3 := rfl
theorem slC_length (x : Slt) : (slC x).length = 2 := rfl
theorem ogC_length (x : Og) : (ogC x).length = 5 := rfl
theorem one_byC (x : UInt8) : ∀ u ∈ byC x, u.oneCell' = true := by intro u hu; simp [byC] at hu; subst hu; rfl
theorem one_rlC (x : Rl) : ∀ u ∈ rlC x, u.oneCell' = true := by intro u hu; simp [rlC] at hu; rcases hu with rfl | rfl | rfl <;> rfl
theorem one_slC (x : Slt) : ∀ u ∈ slC x, u.oneCell' = true := by intro u hu; simp [slC] at hu; rcases hu with rfl | rfl <;> rfl
theorem own_below {B : Nat} {w w' : World} {t : TypeId} {k n : Nat} {v : Value} {xs : List Value} (h : w.ownsRow B t k v n xs) (hb : Below w.heap.size w w') : w'.ownsRow B t k v n xs := ownsRow_turned h (Turned.of_below hb (fun _ => False)) (fun _ _ h => h)
theorem own_t {B : Nat} {w w' : World} {t : TypeId} {k n : Nat} {v : Value} {xs : List Value} {S : Nat → Prop} (h : w.ownsRow B t k v n xs) (ht : Turned w w' S) (hS : ∀ j, S j → ∃ cs ty, w.heap[j]? = some (.cells cs ty (0, 0)) ∧ ty ≠ t) : w'.ownsRow B t k v n xs :=
  ownsRow_turned h ht (fun j hj hs => by
    obtain ⟨_, cur, hcur⟩ := ownsRow_at h hj
    obtain ⟨cs, ty, e, hne⟩ := hS j hs
    rw [hcur] at e
    injection e with e; injection e with _ e
    exact hne e.symm)
/-- What holds of a world and S's blocks: each has another type than those. -/
def Apart (w : World) (S : Nat → Prop) (ts : List TypeId) : Prop := ∀ j, S j → ∃ cs ty, w.heap[j]? = some (.cells cs ty (0, 0)) ∧ ty ∉ ts
theorem Apart.one {w : World} {S : Nat → Prop} {ts : List TypeId} {t : TypeId} (h : Apart w S ts) (ht : t ∈ ts) : ∀ j, S j → ∃ cs ty, w.heap[j]? = some (.cells cs ty (0, 0)) ∧ ty ≠ t := fun j hj => by
  obtain ⟨cs, ty, e, hn⟩ := h j hj
  exact ⟨cs, ty, e, fun q => hn (q ▸ ht)⟩
/-- Two objects that are the same, wherever their rows lie. -/
structure OgEq (a b : Og) : Prop where
  nm : b.o.nm = a.o.nm
  sz : b.o.size = a.o.size
  al : b.o.align = a.o.align
  bs : b.bs = a.bs
  rl : b.rls = a.rls
structure OgOwn (B : Nat) (w : World) (q : Og) : Prop where
  bn : q.o.bn = q.bs.length
  rn : q.o.rn = q.rls.length
  br : w.ownsRow B TU8 1 (.slice q.o.bp q.bs.length q.o.bc) q.bs.length (flatC byC q.bs)
  rr : w.ownsRow B TRl 3 (.slice q.o.rp q.rls.length q.o.rc) q.rls.length (flatC rlC q.rls)
theorem OgOwn.below {B : Nat} {w w' : World} {q : Og} (h : OgOwn B w q) (hb : Below w.heap.size w w') : OgOwn B w' q := ⟨h.bn, h.rn, own_below h.br hb, own_below h.rr hb⟩
theorem OgOwn.turned {B : Nat} {w w' : World} {q : Og} {S : Nat → Prop} (h : OgOwn B w q) (ht : Turned w w' S) (hS : Apart w S [TU8, TRl]) : OgOwn B w' q :=
  ⟨h.bn, h.rn, own_t h.br ht (hS.one (by simp)), own_t h.rr ht (hS.one (by simp))⟩
theorem OgOwn.ok {B : Nat} {w w0 : World} {q a : Og} (h : OgOwn B w q) (he : OgEq a q) (ha : OgOK w0 a) : OgOK w q :=
  ⟨by rw [he.nm]; exact ha.nm, h.bn, h.rn, by rw [he.bs]; exact ha.bm, by rw [he.rl]; exact ha.rm, RowV.of_own byC_length h.br, RowV.of_own rlC_length h.rr⟩
/-- A function whose rows are new. -/
structure FnOwn (B : Nat) (w : World) (q : Fg) : Prop where
  sn : q.f.sn = q.sls.length
  cn : q.f.cn = q.code.length
  sr : w.ownsRow B TSl 2 (.slice q.f.sp q.sls.length q.f.sc) q.sls.length (flatC slC q.sls)
  cr : w.ownsRow B TIn 12 (.slice q.f.cp q.code.length q.f.cc) q.code.length (flatC iwC q.code)
  ci : ∀ i ∈ q.code, IwOwn B w i
theorem FnOwn.below {B : Nat} {w w' : World} {q : Fg} (h : FnOwn B w q) (hb : Below w.heap.size w w') : FnOwn B w' q := ⟨h.sn, h.cn, own_below h.sr hb, own_below h.cr hb, fun i hi => (h.ci i hi).below hb⟩
theorem FnOwn.turned {B : Nat} {w w' : World} {q : Fg} {S : Nat → Prop} (h : FnOwn B w q) (ht : Turned w w' S) (hS : Apart w S [TSl, TIn, TAr]) : FnOwn B w' q :=
  ⟨h.sn, h.cn, own_t h.sr ht (hS.one (by simp)), own_t h.cr ht (hS.one (by simp)), fun i hi => own_t (h.ci i hi) ht (hS.one (by simp))⟩
theorem FnOwn.ok {B : Nat} {w w0 : World} {q a : Fg} (h : FnOwn B w q) (he : FgEq a q) (ha : FgOK w0 a) : FgOK w q := by
  have hl : a.code.length = q.code.length := by have := congrArg List.length he.co; simpa using this
  refine ⟨by rw [he.nm]; exact ha.nm, RowV.of_own slC_length h.sr, h.sn, by rw [he.sl]; exact ha.sm, RowV.of_own iwC_length h.cr, h.cn, by rw [← hl]; exact ha.cm, fun i hi => ?_⟩
  have hm : i.x ∈ a.code.map Iw.x := by rw [he.co]; exact List.mem_map.2 ⟨i, hi, rfl⟩
  obtain ⟨b, hb, e⟩ := List.mem_map.1 hm
  have o := ha.ci b hb
  rw [e] at o
  exact ⟨o.a, o.b, o.off, ArgV.of_own (h.ci i hi), o.ao, o.al⟩
structure PgEq (x y : Pg) : Prop where
  mn : y.mn = x.mn
  on : y.obs.length = x.obs.length
  fn : y.fns.length = x.fns.length
  ob : ∀ (k : Nat) (a b : Og), x.obs[k]? = some a → y.obs[k]? = some b → OgEq a b
  fs : ∀ (k : Nat) (a b : Fg), x.fns[k]? = some a → y.fns[k]? = some b → FgEq a b
structure PgOwn (B : Nat) (w : World) (y : Pg) (b : Pw) : Prop where
  ob : w.ownsRow B TOb 5 (.slice b.op y.obs.length b.oc) y.obs.length (flatC ogC y.obs)
  oi : ∀ q ∈ y.obs, OgOwn B w q
  fr : w.ownsRow B TFn 6 (.slice b.fp y.fns.length b.fc) y.fns.length (flatC fgC y.fns)
  fi : ∀ q ∈ y.fns, FnOwn B w q
theorem PgOwn.ok {B : Nat} {w w0 : World} {x y : Pg} {a b : Pw} (h : PgOwn B w y b) (he : PgEq x y) (hx : PgOK w0 x a) : PgOK w y b := by
  refine ⟨RowV.of_own ogC_length h.ob, by rw [he.on]; exact hx.om, fun q hq => ?_, RowV.of_own fgC_length h.fr, by rw [he.fn]; exact hx.fm, fun q hq => ?_⟩
  · obtain ⟨k, hk⟩ := List.mem_iff_getElem?.1 hq
    have hkl := (List.getElem?_eq_some_iff.1 hk).1
    obtain ⟨p, hp⟩ : ∃ p, x.obs[k]? = some p := ⟨_, List.getElem?_eq_getElem (by rw [← he.on]; exact hkl)⟩
    exact (h.oi q hq).ok (he.ob k p q hp hk) (hx.oi p (List.mem_of_getElem? hp))
  · obtain ⟨k, hk⟩ := List.mem_iff_getElem?.1 hq
    have hkl := (List.getElem?_eq_some_iff.1 hk).1
    obtain ⟨p, hp⟩ : ∃ p, x.fns[k]? = some p := ⟨_, List.getElem?_eq_getElem (by rw [← he.fn]; exact hkl)⟩
    exact (h.fi q hq).ok (he.fs k p q hp hk) (hx.fi p (List.mem_of_getElem? hp))
/-- A program that came in and may be copied. -/
structure CpIn (w : World) (x : Pg) (a : Pw) : Prop where
  ok : PgOK w x a
  ol : x.obs.length * 80 ≤ 140737488355328
  fl : x.fns.length * 88 ≤ 140737488355328
  ob : ∀ q ∈ x.obs, q.bs.length * 1 ≤ 140737488355328 ∧ q.rls.length * 24 ≤ 140737488355328
  fs : ∀ q ∈ x.fns, q.sls.length * 16 ≤ 140737488355328 ∧ q.code.length * 112 ≤ 140737488355328 ∧ ∀ i ∈ q.code, i.x.args.length * 16 ≤ 140737488355328
theorem CpIn.below {w w' : World} {x : Pg} {a : Pw} (h : CpIn w x a) (hb : Below w.heap.size w w') : CpIn w' x a := ⟨h.ok.below hb, h.ol, h.fl, h.ob, h.fs⟩
end Go.Proofs.YtaaphipbkpjkjaaGreatDoor
namespace Go.Proofs.YtaaphipbkpjkjaaGreatDoor
open Go.RowKit Go.Maps
set_option linter.unusedVariables false
set_option linter.unusedSimpArgs false
set_option maxRecDepth 100000
def nO (o : Ob) : Ob := ⟨o.nm, o.size, o.align, none, 0, 0, none, 0, 0⟩
def nF (f : Fn) : Fn := ⟨f.nm, f.pr, f.tp, f.gv, none, 0, 0, none, 0, 0⟩
def nI (i : Iw) : Iw := ⟨i.x, none, 0⟩
def nOg (q : Og) : Og := ⟨nO q.o, q.bs, q.rls⟩
def nFg (q : Fg) : Fg := ⟨nF q.f, q.sls, q.code.map nI⟩
def nPg (x : Pg) : Pg := ⟨x.obs.map nOg, x.fns.map nFg, x.mn⟩
theorem szO_n (obs : List Ob) (n : Int) : szO (obs.map nO) n = szO obs n := by
  unfold szO
  rw [List.getElem?_map]
  cases obs[n.toNat]? <;> rfl
theorem prF_n (fns : List Fn) (n : Int) : prF (fns.map nF) n = prF fns n := by
  unfold prF
  rw [List.getElem?_map]
  cases fns[n.toNat]? <;> rfl
theorem holdsB_n (tp : Int) (gv : Bool) (cn : Nat) (sls : List Slt) (obs : List Ob) (fns : List Fn) (x : In) : holdsB tp gv cn sls (obs.map nO) (fns.map nF) x = holdsB tp gv cn sls obs fns x := by
  unfold holdsB
  rw [szO_n, List.length_map, List.length_map, List.getElem?_map]
  cases fns[x.n.toNat]? <;> rfl
theorem rightB_n (tp : Int) (gv : Bool) (cn : Nat) (sls : List Slt) (obs : List Ob) (fns : List Fn) (x : In) : rightB tp gv cn sls (obs.map nO) (fns.map nF) x = rightB tp gv cn sls obs fns x := by
  unfold rightB
  rw [holdsB_n]
theorem relB_n (align size : Int) (obs : List Ob) (bs : List UInt8) (rls : List Rl) : ∀ fr, relB align size (obs.map nO) bs fr rls = relB align size obs bs fr rls := by
  induction rls with
  | nil => intro fr; rfl
  | cons r l ih =>
    intro fr
    show (rel1 align size fr r && (rel2 (obs.map nO) r && (rel3 bs r && relB align size (obs.map nO) bs (r.off + 4) l))) = (rel1 align size fr r && (rel2 obs r && (rel3 bs r && relB align size obs bs (r.off + 4) l)))
    rw [ih]
    have e : rel2 (obs.map nO) r = rel2 obs r := by unfold rel2; rw [szO_n, List.length_map]
    rw [e]
theorem obj1_n (obs : List Ob) (q : Og) : obj1 (obs.map nO) (nOg q) = obj1 obs q := by
  show (tagP q.o.nm.data.toList && (roomB q.o.size q.o.align && ((q.bs.length : Int) == q.o.size && relB q.o.align q.o.size (obs.map nO) q.bs 0 q.rls))) = _
  rw [relB_n]
  rfl
theorem lastB_n (l : List Iw) : lastB (l.map nI) = lastB l := by
  unfold lastB
  rw [List.length_map, List.getElem?_map]
  cases l[l.length - 1]? <;> rfl
theorem codeB_n (tp : Int) (gv : Bool) (sls : List Slt) (obs : List Ob) (fns : List Fn) (l : List Iw) : codeB tp gv sls (obs.map nO) (fns.map nF) (l.map nI) = codeB tp gv sls obs fns l := by
  unfold codeB
  rw [lastB_n, List.length_map, List.all_map]
  have e : ((fun q : Iw => rightB tp gv l.length sls (obs.map nO) (fns.map nF) q.x) ∘ nI) = fun q => rightB tp gv l.length sls obs fns q.x := by
    funext q
    exact rightB_n tp gv l.length sls obs fns q.x
  rw [e]
theorem fun1_n (obs : List Ob) (fns : List Fn) (q : Fg) : fun1 (obs.map nO) (fns.map nF) (nFg q) = fun1 obs fns q := by
  show (tagP q.f.nm.data.toList && (frameB q.f.pr q.f.tp q.sls && codeB q.f.tp q.f.gv q.sls (obs.map nO) (fns.map nF) (q.code.map nI))) = _
  rw [codeB_n]
  rfl
theorem funL_n (obs : List Ob) (fns : List Fn) (l : List Fg) : ∀ seen, funL (obs.map nO) (fns.map nF) seen (l.map nFg) = funL obs fns seen l := by
  induction l with
  | nil => intro s; rfl
  | cons q r ih =>
    intro s
    show (!s.contains q.f.nm.data.toList && (fun1 (obs.map nO) (fns.map nF) (nFg q) && funL (obs.map nO) (fns.map nF) (q.f.nm.data.toList :: s) (r.map nFg))) = _
    rw [ih, fun1_n]
    rfl
theorem checkB_n (x : Pg) : checkB (nPg x) = checkB x := by
  have e1 : (x.obs.map nOg).map Og.o = (x.obs.map Og.o).map nO := by rw [List.map_map, List.map_map]; rfl
  have e2 : (x.fns.map nFg).map Fg.f = (x.fns.map Fg.f).map nF := by rw [List.map_map, List.map_map]; rfl
  show (objB (x.obs.map nOg) && (funsB ((x.obs.map nOg).map Og.o) (x.fns.map nFg) && mainB ((x.fns.map nFg).map Fg.f) x.mn)) = (objB x.obs && (funsB (x.obs.map Og.o) x.fns && mainB (x.fns.map Fg.f) x.mn))
  have h1 : objB (x.obs.map nOg) = objB x.obs := by
    unfold objB
    rw [e1, List.length_map, List.all_map]
    have e : (obj1 ((x.obs.map Og.o).map nO) ∘ nOg) = obj1 (x.obs.map Og.o) := by
      funext q
      exact obj1_n _ q
    rw [e]
  have h2 : funsB ((x.obs.map nOg).map Og.o) (x.fns.map nFg) = funsB (x.obs.map Og.o) x.fns := by
    unfold funsB
    rw [e1, e2, funL_n, List.length_map]
  have h3 : mainB ((x.fns.map nFg).map Fg.f) x.mn = mainB (x.fns.map Fg.f) x.mn := by
    unfold mainB
    rw [e2, prF_n, List.length_map]
  rw [h1, h2, h3]
theorem list_same {α β : Type} {f : α → β} {l m : List α} (hl : m.length = l.length) (h : ∀ (k : Nat) (a b : α), l[k]? = some a → m[k]? = some b → f b = f a) : m.map f = l.map f := by
  apply List.ext_getElem?
  intro k
  rw [List.getElem?_map, List.getElem?_map]
  by_cases hk : k < l.length
  · have h1 : l[k]? = some l[k] := List.getElem?_eq_getElem hk
    have h2 : m[k]? = some (m[k]'(by omega)) := List.getElem?_eq_getElem (by omega)
    rw [h1, h2]
    exact congrArg some (h k _ _ h1 h2)
  · rw [List.getElem?_eq_none (by omega), List.getElem?_eq_none (by omega)]
theorem nPg_same {x y : Pg} (he : PgEq x y) : nPg y = nPg x := by
  obtain ⟨lo, lf, mn⟩ := x
  obtain ⟨mo, mf, mn2⟩ := y
  obtain ⟨h1, h2, h3, h4, h5⟩ := he
  simp only at h1 h2 h3 h4 h5
  unfold nPg
  simp only [Pg.mk.injEq]
  refine ⟨list_same h2 fun k a b ha hb => ?_, list_same h3 fun k a b ha hb => ?_, h1⟩
  · have h := h4 k a b ha hb
    unfold nOg nO
    rw [h.nm, h.sz, h.al, h.bs, h.rl]
  · have h := h5 k a b ha hb
    have hc : b.code.map nI = a.code.map nI := by
      have e : ∀ l : List Iw, l.map nI = (l.map Iw.x).map fun x => ⟨x, none, 0⟩ := fun l => by rw [List.map_map]; rfl
      rw [e, e, h.co]
    unfold nFg nF
    rw [h.nm, h.pr, h.tp, h.gv, h.sl, hc]
theorem checkB_same {x y : Pg} (he : PgEq x y) : checkB y = checkB x := by
  rw [← checkB_n y, ← checkB_n x, nPg_same he]
end Go.Proofs.YtaaphipbkpjkjaaGreatDoor
