/- Whether a program may be does not rest on where its rows lie. -/
import Derived.Test.YtelaaaamnphbpaaGreatDoorNG
import Derived.Test.YtelaaaamnphbpaaGreatDoorKK
namespace Go.Proofs.YtelaaaamnphbpaaGreatDoor
open Go.RowKit Go.Maps
set_option linter.unusedVariables false
set_option linter.unusedSimpArgs false
set_option maxRecDepth 100000
abbrev TU8 : TypeId := 5
theorem infoBy : (Tryz.prog.info? TU8).map (fun i => (i.zero, i.size, i.bytes)) = some (some (.int .u8 0), 1, 1) := by kernel_rfl
theorem byC_length (x : UInt8) : (byC x).length = 1 := rfl
theorem rlC_length (x : Rl) : (rlC x).length = 3 := rfl
theorem slC_length (x : Slt) : (slC x).length = 2 := rfl
theorem ogC_length (x : Og) : (ogC x).length = 5 := rfl
theorem own_below {B : Nat} {w w' : World} {t : TypeId} {k n : Nat} {v : Value} {xs : List Value} (h : w.ownsRow B t k v n xs) (hb : Below w.heap.size w w') : w'.ownsRow B t k v n xs := ownsRow_turned h (Turned.of_below hb (fun _ => False)) (fun _ _ h => h)
theorem own_t {B : Nat} {w w' : World} {t : TypeId} {k n : Nat} {v : Value} {xs : List Value} {S : Nat → Prop} (h : w.ownsRow B t k v n xs) (ht : Turned w w' S) (hS : ∀ j, S j → ∃ cs ty, w.heap[j]? = some (.cells cs ty (0, 0)) ∧ ty ≠ t) : w'.ownsRow B t k v n xs :=
 ownsRow_turned h ht (fun j hj hs => by
  obtain ⟨_, cur, hcur⟩ := ownsRow_at h hj
  obtain ⟨cs, ty, e, hne⟩ := hS j hs
  rw [hcur] at e
  injection e with e; injection e with _ e
  exact hne e.symm)
def Apart (w : World) (S : Nat → Prop) (ts : List TypeId) : Prop := ∀ j, S j → ∃ cs ty, w.heap[j]? = some (.cells cs ty (0, 0)) ∧ ty ∉ ts
theorem Apart.one {w : World} {S : Nat → Prop} {ts : List TypeId} {t : TypeId} (h : Apart w S ts) (ht : t ∈ ts) : ∀ j, S j → ∃ cs ty, w.heap[j]? = some (.cells cs ty (0, 0)) ∧ ty ≠ t := fun j hj => by
 obtain ⟨cs, ty, e, hn⟩ := h j hj
 exact ⟨cs, ty, e, fun q => hn (q ▸ ht)⟩
structure OgEq (a b : Og) : Prop where
 nm : b.o.nm = a.o.nm
 sz : b.o.size = a.o.size
 al : b.o.align = a.o.align
 bs : b.bs = a.bs
 rl : b.rls = a.rls
structure OgOwn (B : Nat) (w : World) (q : Og) : Prop where
 bn : q.o.bn = q.bs.length
 rn : q.o.rn = q.rls.length
 br : w.ownsRow B TU8 1 (.slice q.o.bp q.bs.length q.o.bc) q.bs.length (flatC byC q.bs)
 rr : w.ownsRow B TRl 3 (.slice q.o.rp q.rls.length q.o.rc) q.rls.length (flatC rlC q.rls)
theorem OgOwn.below {B : Nat} {w w' : World} {q : Og} (h : OgOwn B w q) (hb : Below w.heap.size w w') : OgOwn B w' q := ⟨h.bn, h.rn, own_below h.br hb, own_below h.rr hb⟩
theorem OgOwn.turned {B : Nat} {w w' : World} {q : Og} {S : Nat → Prop} (h : OgOwn B w q) (ht : Turned w w' S) (hS : Apart w S [TU8, TRl]) : OgOwn B w' q :=
 ⟨h.bn, h.rn, own_t h.br ht (hS.one (by simp)), own_t h.rr ht (hS.one (by simp))⟩
theorem OgOwn.ok {B : Nat} {w w0 : World} {q a : Og} (h : OgOwn B w q) (he : OgEq a q) (ha : OgOK w0 a) : OgOK w q :=
 ⟨by rw [he.nm]; exact ha.nm, h.bn, h.rn, by rw [he.bs]; exact ha.bm, by rw [he.rl]; exact ha.rm, RowV.of_own byC_length h.br, RowV.of_own rlC_length h.rr⟩
structure FnOwn (B : Nat) (w : World) (q : Fg) : Prop where
 sn : q.f.sn = q.sls.length
 cn : q.f.cn = q.code.length
 sr : w.ownsRow B TSl 2 (.slice q.f.sp q.sls.length q.f.sc) q.sls.length (flatC slC q.sls)
 cr : w.ownsRow B TIn 12 (.slice q.f.cp q.code.length q.f.cc) q.code.length (flatC iwC q.code)
 ci : ∀ i ∈ q.code, IwOwn B w i
theorem FnOwn.below {B : Nat} {w w' : World} {q : Fg} (h : FnOwn B w q) (hb : Below w.heap.size w w') : FnOwn B w' q := ⟨h.sn, h.cn, own_below h.sr hb, own_below h.cr hb, fun i hi => (h.ci i hi).below hb⟩
theorem FnOwn.turned {B : Nat} {w w' : World} {q : Fg} {S : Nat → Prop} (h : FnOwn B w q) (ht : Turned w w' S) (hS : Apart w S [TSl, TIn, TAr]) : FnOwn B w' q :=
 ⟨h.sn, h.cn, own_t h.sr ht (hS.one (by simp)), own_t h.cr ht (hS.one (by simp)), fun i hi => own_t (h.ci i hi) ht (hS.one (by simp))⟩
theorem FnOwn.ok {B : Nat} {w w0 : World} {q a : Fg} (h : FnOwn B w q) (he : FgEq a q) (ha : FgOK w0 a) : FgOK w q := by
 have hl : a.code.length = q.code.length := by have := congrArg List.length he.co; simpa using this
 refine ⟨by rw [he.nm]; exact ha.nm, RowV.of_own slC_length h.sr, h.sn, by rw [he.sl]; exact ha.sm, RowV.of_own iwC_length h.cr, h.cn, by rw [← hl]; exact ha.cm, fun i hi => ?_⟩
 have hm : i.x ∈ a.code.map Iw.x := by rw [he.co]; exact List.mem_map.2 ⟨i, hi, rfl⟩
 obtain ⟨b, hb, e⟩ := List.mem_map.1 hm
 have o := ha.ci b hb
 rw [e] at o
 exact ⟨o.a, o.b, o.off, ArgV.of_own (h.ci i hi), o.ao, o.al⟩
structure PgEq (x y : Pg) : Prop where
 mn : y.mn = x.mn
 on : y.obs.length = x.obs.length
 fn : y.fns.length = x.fns.length
 ob : ∀ (k : Nat) (a b : Og), x.obs[k]? = some a → y.obs[k]? = some b → OgEq a b
 fs : ∀ (k : Nat) (a b : Fg), x.fns[k]? = some a → y.fns[k]? = some b → FgEq a b
structure PgOwn (B : Nat) (w : World) (y : Pg) (b : Pw) : Prop where
 ob : w.ownsRow B TOb 5 (.slice b.op y.obs.length b.oc) y.obs.length (flatC ogC y.obs)
 oi : ∀ q ∈ y.obs, OgOwn B w q
 fr : w.ownsRow B TFn 6 (.slice b.fp y.fns.length b.fc) y.fns.length (flatC fgC y.fns)
 fi : ∀ q ∈ y.fns, FnOwn B w q
theorem PgOwn.ok {B : Nat} {w w0 : World} {x y : Pg} {a b : Pw} (h : PgOwn B w y b) (he : PgEq x y) (hx : PgOK w0 x a) : PgOK w y b := by
 refine ⟨RowV.of_own ogC_length h.ob, by rw [he.on]; exact hx.om, fun q hq => ?_, RowV.of_own fgC_length h.fr, by rw [he.fn]; exact hx.fm, fun q hq => ?_⟩
 ·obtain ⟨k, hk⟩ := List.mem_iff_getElem?.1 hq
  have hkl := (List.getElem?_eq_some_iff.1 hk).1
  obtain ⟨p, hp⟩ : ∃ p, x.obs[k]? = some p := ⟨_, List.getElem?_eq_getElem (by rw [← he.on]; exact hkl)⟩
  exact (h.oi q hq).ok (he.ob k p q hp hk) (hx.oi p (List.mem_of_getElem? hp))
 ·obtain ⟨k, hk⟩ := List.mem_iff_getElem?.1 hq
  have hkl := (List.getElem?_eq_some_iff.1 hk).1
  obtain ⟨p, hp⟩ : ∃ p, x.fns[k]? = some p := ⟨_, List.getElem?_eq_getElem (by rw [← he.fn]; exact hkl)⟩
  exact (h.fi q hq).ok (he.fs k p q hp hk) (hx.fi p (List.mem_of_getElem? hp))
structure CpIn (w : World) (x : Pg) (a : Pw) : Prop where
 ok : PgOK w x a
 ol : x.obs.length * 80 ≤ 140737488355328
 fl : x.fns.length * 88 ≤ 140737488355328
 ob : ∀ q ∈ x.obs, q.bs.length * 1 ≤ 140737488355328 ∧ q.rls.length * 24 ≤ 140737488355328
 fs : ∀ q ∈ x.fns, q.sls.length * 16 ≤ 140737488355328 ∧ q.code.length * 112 ≤ 140737488355328 ∧ ∀ i ∈ q.code, i.x.args.length * 16 ≤ 140737488355328
theorem CpIn.below {w w' : World} {x : Pg} {a : Pw} (h : CpIn w x a) (hb : Below w.heap.size w w') : CpIn w' x a := ⟨h.ok.below hb, h.ol, h.fl, h.ob, h.fs⟩
end Go.Proofs.YtelaaaamnphbpaaGreatDoor
namespace Go.Proofs.YtelaaaamnphbpaaGreatDoor
open Go.RowKit Go.Maps
set_option linter.unusedVariables false
set_option linter.unusedSimpArgs false
set_option maxRecDepth 100000
def nO (o : Ob) : Ob := ⟨o.nm, o.size, o.align, none, 0, 0, none, 0, 0⟩
def nF (f : Fn) : Fn := ⟨f.nm, f.pr, f.tp, f.gv, none, 0, 0, none, 0, 0⟩
def nI (i : Iw) : Iw := ⟨i.x, none, 0⟩
def nOg (q : Og) : Og := ⟨nO q.o, q.bs, q.rls⟩
def nFg (q : Fg) : Fg := ⟨nF q.f, q.sls, q.code.map nI⟩
def nPg (x : Pg) : Pg := ⟨x.obs.map nOg, x.fns.map nFg, x.mn⟩
end Go.Proofs.YtelaaaamnphbpaaGreatDoor