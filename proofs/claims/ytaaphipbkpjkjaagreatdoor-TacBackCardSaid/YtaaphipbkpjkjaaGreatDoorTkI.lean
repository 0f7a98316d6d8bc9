/-
  A program is read: program of package tac's reader, at the lines that it is written as.
-/
import Derived.Test.YtaaphipbkpjkjaaGreatDoorTkH
import Derived.Test.YtaaphipbkpjkjaaGreatDoorKS
namespace Go.Proofs.YtaaphipbkpjkjaaGreatDoor
open Go.RowKit Go.Maps
set_option linter.unusedVariables false
set_option linter.unusedSimpArgs false
set_option maxRecDepth 100000
def obL (q : Og) : List ByteArray := lnB (obHeadW q.o) :: (dtB q.bs ++ q.rls.map lnR)
def fnL (q : Fg) : List ByteArray := lnB (fnHeadW q.f) :: (q.sls.map lnS ++ (q.code.map Iw.x).map lnI)
def mnL (n : Int) : ByteArray := lnB (mainW n)
theorem lines_of (x : Pg) : (pgLines x).map lnB = x.obs.flatMap obL ++ (x.fns.flatMap fnL ++ [mnL x.mn]) := by
  have e1 : ∀ l : List Og, (l.flatMap obLines).map lnB = l.flatMap obL := by
    intro l
    induction l with
    | nil => rfl
    | cons q l ih =>
      rw [List.flatMap_cons, List.map_append, ih, List.flatMap_cons]
      congr 1
      unfold obLines obL dtB
      rw [List.map_append, List.map_append, List.map_map]
      rfl
  have e2 : ∀ l : List Fg, (l.flatMap fnLines).map lnB = l.flatMap fnL := by
    intro l
    induction l with
    | nil => rfl
    | cons q l ih =>
      rw [List.flatMap_cons, List.map_append, ih, List.flatMap_cons]
      congr 1
      unfold fnLines fnL
      rw [List.map_append, List.map_append, List.map_map, List.map_map, List.map_map]
      rfl
  unfold pgLines
  rw [List.map_append, List.map_append, e1, e2, List.append_assoc]
  rfl
/-- The first word of the lines is one of these. -/
def Kd (ls : List ByteArray) : Prop := firstW ls = objectWd ∨ firstW ls = funcWd ∨ firstW ls = mainWd
theorem cut_ob (q : Og) : cutW (lnB (obHeadW q.o)) = objectWd := cut_ln (s := sB [111, 98, 106, 101, 99, 116]) (cl_lit (by decide))
theorem cut_fn (q : Fg) : cutW (lnB (fnHeadW q.f)) = funcWd := cut_ln (s := sB [102, 117, 110, 99]) (cl_lit (by decide))
theorem cut_mn (n : Int) : cutW (mnL n) = mainWd := cut_ln (s := sB [109, 97, 105, 110]) (cl_lit (by decide))
theorem split_ob {q : Og} (h : OgT q) : (splitL (lnB (obHeadW q.o)) 32).tail = [q.o.nm, decS q.o.size, decS q.o.align] := by rw [split_ln (ln_obj h)]; rfl
theorem split_fn {q : Fg} (h : FgT q) : (splitL (lnB (fnHeadW q.f)) 32).tail = q.f.nm :: decS q.f.pr :: decS q.f.tp :: (if q.f.gv then [givesW] else []) := by rw [split_ln (ln_fun h)]; rfl
theorem split_mn (n : Int) : (splitL (mnL n) 32).tail = [decS n] := by
  unfold mnL
  rw [split_ln (ln_main n)]; rfl
theorem kd_fns (l : List Fg) (n : Int) : Kd (l.flatMap fnL ++ [mnL n]) := by
  cases l with
  | nil => exact Or.inr (Or.inr (cut_mn n))
  | cons q l => exact Or.inr (Or.inl (cut_fn q))
theorem kd_obs (l : List Og) (m : List Fg) (n : Int) : Kd (l.flatMap obL ++ (m.flatMap fnL ++ [mnL n])) := by
  cases l with
  | nil => exact kd_fns m n
  | cons q l => exact Or.inl (cut_ob q)
theorem kd_ne {ls : List ByteArray} (h : Kd ls) {s : ByteArray} (h1 : (objectWd.toList == s.toList) = false) (h2 : (funcWd.toList == s.toList) = false) (h3 : (mainWd.toList == s.toList) = false) : ((firstW ls).toList == s.toList) = false := by
  rcases h with e | e | e <;> rw [e] <;> assumption
theorem kd_op {ls : List ByteArray} (h : Kd ls) : opFind (firstW ls) = none := by
  have h1 : opFind objectWd = none := by kernel_rfl
  have h2 : opFind funcWd = none := by kernel_rfl
  have h3 : opFind mainWd = none := by kernel_rfl
  rcases h with e | e | e <;> rw [e] <;> assumption
theorem fns_no_obj (l : List Fg) (n : Int) : ((firstW (l.flatMap fnL ++ [mnL n])).toList == objectWd.toList) = false := by
  have h1 : (funcWd.toList == objectWd.toList) = false := by decide +kernel
  have h2 : (mainWd.toList == objectWd.toList) = false := by decide +kernel
  cases l with
  | nil => show ((cutW (mnL n)).toList == _) = _; rw [cut_mn]; exact h2
  | cons q l => show ((cutW (lnB (fnHeadW q.f))).toList == _) = _; rw [cut_fn]; exact h1
theorem rel_no_data (rls : List Rl) {ls : List ByteArray} (h : Kd ls) : ((firstW (rls.map lnR ++ ls)).toList == dataWd.toList) = false := by
  have h1 : (relocWd.toList == dataWd.toList) = false := by decide +kernel
  cases rls with
  | nil => exact kd_ne h (by decide +kernel) (by decide +kernel) (by decide +kernel)
  | cons r l => show ((cutW (lnR r)).toList == _) = _; rw [cut_r]; exact h1
theorem OgOwn.base {B B' : Nat} {w : World} {q : Og} (h : OgOwn B w q) (hb : B' ≤ B) : OgOwn B' w q := ⟨h.bn, h.rn, ownsRow_base h.br hb, ownsRow_base h.rr hb⟩
theorem FnOwn.base {B B' : Nat} {w : World} {q : Fg} (h : FnOwn B w q) (hb : B' ≤ B) : FnOwn B' w q := ⟨h.sn, h.cn, ownsRow_base h.sr hb, ownsRow_base h.cr hb, fun i hi => ownsRow_base (h.ci i hi) hb⟩
theorem list_snoc {α : Type} {R : α → α → Prop} {l m : List α} {k : Nat} {a b : α} (hk : m.length = k) (ha : l[k]? = some a) (hr : R a b) (h : ∀ (j : Nat) (a b : α), l[j]? = some a → m[j]? = some b → R a b) : ∀ (j : Nat) (a' b' : α), l[j]? = some a' → (m ++ [b])[j]? = some b' → R a' b' := by
  intro j a' b' h1 h2
  by_cases hj : j < m.length
  · rw [List.getElem?_append_left hj] at h2
    exact h j a' b' h1 h2
  · rw [List.getElem?_append_right (by omega)] at h2
    have hj2 : j = k := by
      have := (List.getElem?_eq_some_iff.1 h2).1
      simp at this
      omega
    subst hj2
    rw [ha] at h1
    injection h1 with h1
    subst h1
    rw [hk, Nat.sub_self] at h2
    injection h2 with h2
    subst h2
    exact hr
/-- An object is read at a world behind. -/
theorem obj_at {w : World} {rb mb : Nat} (hX : Tabs w) (hM : MaxIn w) (hrb : 10 ≤ rb) {q : Og} (hq : OgT q) {ls2 : List ByteArray} (hk : Kd ls2) (hR : RdT w rb mb (dtB q.bs ++ (q.rls.map lnR ++ ls2)) [q.o.nm, decS q.o.size, decS q.o.align]) :
    Calls Tryz.prog 101 #[.pointer (some ⟨rb, 0, none⟩)] w fun e w' => ∃ y : Og, e = .returned (.agg #[.string y.o.nm, .int .i64 y.o.size, .int .i64 y.o.align, .slice y.o.bp y.o.bn y.o.bc, .slice y.o.rp y.o.rn y.o.rc]) ∧ OgEq q y ∧ OgOwn w.heap.size w' y ∧ RdT w' rb mb ls2 [] ∧ Turned w w' (fun k => k = rb) := by
  have h1 := hq.szs
  have h2 := hq.bl
  refine (obj_c hX hM hrb hR ((num64_dec (i64s (by omega) (by omega))).trans (by rw [h2])) (num64_dec (i64s (by omega) (by omega))) (by rw [h2]; exact hq.rm) (by omega) (fun r hr => by
    have := hq.rl r hr
    exact ⟨i64s (by omega) (by omega), i64s (by omega) (by omega), i64s (by omega) (by omega)⟩) (Nat.le_trans hq.rn (by omega)) (rel_no_data _ hk) (kd_ne hk (by decide +kernel) (by decide +kernel) (by decide +kernel))).mono ?_
  rintro e w' ⟨y, rfl, e1, e2, e3, e4, e5, hO, hR', hT⟩
  exact ⟨y, rfl, ⟨e1, e2.trans h2, e3, e4, e5⟩, hO, hR', hT⟩
/-- A function is read at a world behind. -/
theorem fn_at {w : World} {rb mb : Nat} (hX : Tabs w) (hF : FormsIn w) (hM : MaxIn w) (hrb : 10 ≤ rb) {q : Fg} (hq : FgT q) {ls2 : List ByteArray} (hk : Kd ls2) (hR : RdT w rb mb (q.sls.map lnS ++ ((q.code.map Iw.x).map lnI ++ ls2)) (q.f.nm :: decS q.f.pr :: decS q.f.tp :: (if q.f.gv then [givesW] else []))) :
    Calls Tryz.prog 102 #[.pointer (some ⟨rb, 0, none⟩)] w fun e w' => ∃ y : Fg, e = .returned (.agg #[.string y.f.nm, .int .i64 y.f.pr, .int .i64 y.f.tp, .bool y.f.gv, .slice y.f.sp y.f.sn y.f.sc, .slice y.f.cp y.f.cn y.f.cc]) ∧ FgEq q y ∧ FnOwn w.heap.size w' y ∧ RdT w' rb mb ls2 [] ∧ Turned w w' (fun k => k = rb) := by
  have h1 := hq.pr
  have h2 := hq.tp
  have h3 := hq.sn
  have h4 := hq.cn
  refine (func_c hX hF hM hrb hR (num64_dec (i64s (by omega) (by omega))) (num64_dec (i64s (by omega) (by omega))) rfl (fun s hs => by
    have := roomB_le (hq.sl s hs)
    exact ⟨i64s (by omega) (by omega), i64s (by omega) (by omega)⟩) (by omega) (fun x hx => by
    obtain ⟨i, hi, rfl⟩ := List.mem_map.1 hx
    exact hq.ci i hi) (by rw [List.length_map]; omega) (kd_op hk) (kd_ne hk (by decide +kernel) (by decide +kernel) (by decide +kernel))).mono ?_
  rintro e w' ⟨y, rfl, e1, e2, e3, e4, e5, e6, hO, hR', hT⟩
  exact ⟨y, rfl, ⟨e1, e2, e3, e4, e5, e6.symm⟩, hO, hR', hT⟩
section
variable {w : World} {rb mb : Nat} {ls ws : List ByteArray}
set_option maxHeartbeats 16000000 in
theorem prog_c (hX : Tabs w) (hF : FormsIn w) (hM : MaxIn w) (hrb : 10 ≤ rb) {x : Pg} (hT : PgT x) (hR : RdT w rb mb (x.obs.flatMap obL ++ (x.fns.flatMap fnL ++ [mnL x.mn])) []) :
    Calls Tryz.prog 72 #[.pointer (some ⟨rb, 0, none⟩)] w fun e w' => ∃ y b, e = .returned (pgV y b) ∧ PgEq x y ∧ PgOwn w.heap.size w' y b ∧ Turned w w' (fun k => k = rb) := by
  obtain ⟨obs, fns, mn⟩ := x
  have hrl : rb < w.heap.size := by obtain ⟨cs, hg⟩ := hR.rb_at; exact lt_of_heap hg
  have HX : Hid (∀ Y, Turned w Y (fun k => k = rb) → Tabs Y) := fun Y hY => hX.turned hY hrb
  have HFO : Hid (∀ Y, Turned w Y (fun k => k = rb) → FormsIn Y) := fun Y hY => hF.turned hY hrb
  have HM : Hid (∀ Y, Turned w Y (fun k => k = rb) → MaxIn Y) := fun Y hY => hM.turned hY (by omega)
  have HOT : Hid (∀ q ∈ obs, OgT q) := hT.ob
  have HFT : Hid (∀ q ∈ fns, FgT q) := hT.fs
  have HON : Hid (obs.length ≤ 256) := hT.on
  have HFN : Hid (fns.length ≤ 64) := hT.fn
  have HMN : Hid (I64 mn) := i64s (by have := hT.mn; simp only at this; omega) (by have := hT.mn; simp only at this; omega)
  have b1 := below1 w (.cells zPg TPg)
  have b2 := below1 (w.alloc (.cells zPg TPg)) (.cells zPg TPg)
  have hz1 : (w.alloc (.cells zPg TPg)).heap.size = w.heap.size + 1 := by simp
  have HZ2 : Hid (((w.alloc (.cells zPg TPg)).alloc (.cells zPg TPg)).heap[w.heap.size]? = some (.cells #[.slice none 0 0, .slice none 0 0, .int .i64 0] TPg (0, 0))) := blk_b (heap_r0 w _) b2
  have HF2 : Hid (((w.alloc (.cells zPg TPg)).alloc (.cells zPg TPg)).heap[w.heap.size + 1]? = some (.cells #[.slice none 0 0, .slice none 0 0, .int .i64 0] TPg (0, 0))) := by
    have h := heap_r0 (w.alloc (.cells zPg TPg)) (.cells zPg TPg)
    rw [hz1] at h
    exact h
  have hb2 := b1.trans (b2.mono b1.size)
  have HR2 : Hid (RdT ((w.alloc (.cells zPg TPg)).alloc (.cells zPg TPg)) rb mb (obs.flatMap obL ++ (fns.flatMap fnL ++ [mnL mn])) []) := hR.below hb2
  have HT2 : Hid (Turned w ((w.alloc (.cells zPg TPg)).alloc (.cells zPg TPg)) (fun k => k = rb)) := Turned.of_below hb2 _
  clear hX hF hM hT hR b1 b2 hz1 hb2
  go_enter Tryz.func72, Tryz.ntmps72
  go_upto_region 2 with (fail)
  refine (?_ : Code.wp _ _ _ _ ((w.alloc (.cells zPg TPg)).alloc (.cells zPg TPg)))
  generalize (w.alloc (.cells zPg TPg)).alloc (.cells zPg TPg) = W2 at *
  go_loopw [5] (fun sv wr => ∃ (k : Nat) (ms : List Og) (sp : Option Addr) (sc : Nat), k ≤ obs.length ∧ ms.length = k ∧ Hid (∀ (j : Nat) (a b : Og), obs[j]? = some a → ms[j]? = some b → OgEq a b) ∧ Hid (∀ q ∈ ms, OgOwn w.heap.size wr q) ∧ Hid (wr.heap[w.heap.size + 1]? = some (.cells #[.slice sp k sc, .slice none 0 0, .int .i64 0] TPg (0, 0))) ∧ Hid (wr.ownsRow w.heap.size TOb 5 (.slice sp k sc) k (flatC ogC ms)) ∧ Hid (wr.heap[w.heap.size]? = some (.cells #[.slice none 0 0, .slice none 0 0, .int .i64 0] TPg (0, 0))) ∧ Hid (RdT wr rb mb ((obs.drop k).flatMap obL ++ (fns.flatMap fnL ++ [mnL mn])) []) ∧ Hid (Turned w wr (fun k => k = rb))) (fun _ wr => lenAt wr rb)
  case atStart => exact ⟨0, [], none, 0, Nat.zero_le _, rfl, (fun j a b h1 h2 => by simp at h2), (fun q hq => by cases hq), HF2, ⟨rfl, Or.inl ⟨rfl, rfl⟩⟩, HZ2, HR2, HT2⟩
  case round =>
    rename World => wr
    obtain ⟨k, ms, sp, sc, hk, hml, HEQ, HOI, HFB, HOW, HZB, HRR, HTR⟩ := hrel
    by_cases hlt : k < obs.length
    · obtain ⟨s, hs⟩ : ∃ s, obs[k]? = some s := ⟨_, List.getElem?_eq_getElem hlt⟩
      have HQT : Hid (OgT s) := HOT.out s (List.mem_of_getElem? hs)
      obtain ⟨lr, hlr⟩ : ∃ lr, lr = (obs.drop (k + 1)).flatMap obL ++ (fns.flatMap fnL ++ [mnL mn]) := ⟨_, rfl⟩
      have HKD : Hid (Kd lr) := by show Kd lr; rw [hlr]; exact kd_obs _ _ _
      have hln : (obs.drop k).flatMap obL ++ (fns.flatMap fnL ++ [mnL mn]) = lnB (obHeadW s.o) :: (dtB s.bs ++ (s.rls.map lnR ++ lr)) := by rw [drop_cons hs, hlr]; simp [obL]
      have HRR2 : Hid (RdT wr rb mb (lnB (obHeadW s.o) :: (dtB s.bs ++ (s.rls.map lnR ++ lr))) []) := by show RdT _ _ _ _ _; rw [← hln]; exact HRR.out
      have HLN : Hid (lenAt wr rb = (dtB s.bs ++ (s.rls.map lnR ++ lr)).length + 1) := lenAt_eq HRR2.out
      have HLR : Hid (lr = (obs.drop (k + 1)).flatMap obL ++ (fns.flatMap fnL ++ [mnL mn])) := hlr
      have HNX : Hid (obs[k]? = some s) := hs
      have hkl : Hid (k ≤ 256) := Nat.le_trans hk (Nat.le_trans HON.out (by omega))
      have d256 : (k : Int) < 256 := by have := HON.out; omega
      have d256' : decide ((k : Int) < 256) = true := by simpa using d256
      have cB := begins_yes HRR2.out (HM.out _ HTR.out) (cut_ob s)
      rw [split_ob HQT.out] at cB
      unfold objectWd at cB
      have HML : Hid (ms.length = k) := hml
      clear hlr hln hs HRR hk hml
      go_upto_region 4 with (first
        | (go_at_call 100; refine cB.mono ?_; rintro e w8 ⟨rfl, hR8, hT8⟩; have HR8 : Hid (RdT w8 rb mb (dtB s.bs ++ (s.rls.map lnR ++ lr)) [s.o.nm, decS s.o.size, decS s.o.align]) := hR8; have HT8 : Hid (Turned w w8 (fun k => k = rb)) := HTR.out.trans hT8 (fun _ _ h => h); have HF8 : Hid (w8.heap[w.heap.size + 1]? = some (.cells #[.slice sp k sc, .slice none 0 0, .int .i64 0] TPg (0, 0))) := blk_t HFB.out hT8 (by omega); have HZ8 : Hid (w8.heap[w.heap.size]? = some (.cells #[.slice none 0 0, .slice none 0 0, .int .i64 0] TPg (0, 0))) := blk_t HZB.out hT8 (by omega); have HO8 : Hid (w8.ownsRow w.heap.size TOb 5 (.slice sp k sc) k (flatC ogC ms)) := own_rd HOW.out hT8 HRR2.out (by decide); have HI8 : Hid (∀ q ∈ ms, OgOwn w.heap.size w8 q) := fun q hq => (HOI.out q hq).turned hT8 (by obtain ⟨cs, hcs⟩ := HRR2.out.rb_at; exact apart_one hcs (by decide)); have m0 : w8.cell? ⟨w.heap.size + 1, 0, none⟩ = some (.slice sp k sc) := (Lib.cell_of_heap HF8.out 0).trans rfl; have cN := want_c w8; clear hR8 hT8 cB)
        | (go_at_call 69; refine cN.mono ?_; rintro e w' ⟨rfl, hw⟩; rw [hw]; clear hw w' cN)
        | fail)
      obtain ⟨i0, hi, hz0, hz1, hz2⟩ := info_parts infoOb
      have m4 : w8.cell? ⟨w.heap.size + 1, 0, none⟩ = some (.slice sp k sc) := (Lib.cell_of_heap HF8.out 0).trans rfl
      have bd : Below w8.heap.size w8 w8.drew := (Below.refl _ _).drew
      have HTd : Hid (Turned w w8.drew (fun k => k = rb)) := HT8.out.bel bd
      have HC1 : Hid (Calls Tryz.prog 101 #[.pointer (some ⟨rb, 0, none⟩)] w8.drew fun e w' => ∃ y, e = .returned (.agg #[.string y.o.nm, .int .i64 y.o.size, .int .i64 y.o.align, .slice y.o.bp y.o.bn y.o.bc, .slice y.o.rp y.o.rn y.o.rc]) ∧ OgEq s y ∧ OgOwn w8.drew.heap.size w' y ∧ RdT w' rb mb lr [] ∧ Turned w8.drew w' (fun k => k = rb)) := obj_at (HX.out _ HTd.out) (HM.out _ HTd.out) hrb HQT.out HKD.out (HR8.out.below bd)
      clear bd
      go_region_law (first
        | (refine step_call_fn rfl 101 #[.pointer (some ⟨rb, 0, none⟩)] (by kernel_rfl) HC1.out ?_; rintro e w9 ⟨y, rfl, hye, hyo, hR9, hT9⟩; have hT9' : Turned w8 w9 (fun k => k = rb) := (Turned.of_below (Below.refl _ w8).drew _).trans hT9 (fun _ _ h => h); have b9 := below1 w9 (.cells #[.string y.o.nm, .int .i64 y.o.size, .int .i64 y.o.align, .slice y.o.bp y.o.bn y.o.bc, .slice y.o.rp y.o.rn y.o.rc] TOb); have hF9 := blk_t HF8.out hT9' (by omega); have c9 : w9.cell? ⟨w.heap.size + 1, 0, none⟩ = some (.slice sp k sc) := (Lib.cell_of_heap hF9 0).trans rfl; have hF10 := blk_b hF9 b9; have c10 : (w9.alloc (.cells #[.string y.o.nm, .int .i64 y.o.size, .int .i64 y.o.align, .slice y.o.bp y.o.bn y.o.bc, .slice y.o.rp y.o.rn y.o.rc] TOb)).cell? ⟨w.heap.size + 1, 0, none⟩ = some (.slice sp k sc) := (Lib.cell_of_heap hF10 0).trans rfl; have HF10 : Hid ((w9.alloc (.cells #[.string y.o.nm, .int .i64 y.o.size, .int .i64 y.o.align, .slice y.o.bp y.o.bn y.o.bc, .slice y.o.rp y.o.rn y.o.rc] TOb)).heap[w.heap.size + 1]? = some (.cells #[.slice sp k sc, .slice none 0 0, .int .i64 0] TPg (0, 0))) := hF10; have HZ10 : Hid ((w9.alloc (.cells #[.string y.o.nm, .int .i64 y.o.size, .int .i64 y.o.align, .slice y.o.bp y.o.bn y.o.bc, .slice y.o.rp y.o.rn y.o.rc] TOb)).heap[w.heap.size]? = some (.cells #[.slice none 0 0, .slice none 0 0, .int .i64 0] TPg (0, 0))) := blk_b (blk_t HZ8.out hT9' (by omega)) b9; have HR10 : Hid (RdT (w9.alloc (.cells #[.string y.o.nm, .int .i64 y.o.size, .int .i64 y.o.align, .slice y.o.bp y.o.bn y.o.bc, .slice y.o.rp y.o.rn y.o.rc] TOb)) rb mb lr []) := hR9.below b9; have HT10 : Hid (Turned w (w9.alloc (.cells #[.string y.o.nm, .int .i64 y.o.size, .int .i64 y.o.align, .slice y.o.bp y.o.bn y.o.bc, .slice y.o.rp y.o.rn y.o.rc] TOb)) (fun k => k = rb)) := (HT8.out.trans hT9' (fun _ _ h => h)).bel b9; have HO10 : Hid ((w9.alloc (.cells #[.string y.o.nm, .int .i64 y.o.size, .int .i64 y.o.align, .slice y.o.bp y.o.bn y.o.bc, .slice y.o.rp y.o.rn y.o.rc] TOb)).ownsRow w.heap.size TOb 5 (.slice sp k sc) k (flatC ogC ms)) := own_below (own_rd HO8.out hT9' HR8.out (by decide)) b9; have HI10 : Hid (∀ q ∈ ms, OgOwn w.heap.size (w9.alloc (.cells #[.string y.o.nm, .int .i64 y.o.size, .int .i64 y.o.align, .slice y.o.bp y.o.bn y.o.bc, .slice y.o.rp y.o.rn y.o.rc] TOb)) q) := fun q hq => ((HI8.out q hq).turned hT9' (by obtain ⟨cs, hcs⟩ := HR8.out.rb_at; exact apart_one hcs (by decide))).below b9; have HY10 : Hid (OgOwn w.heap.size (w9.alloc (.cells #[.string y.o.nm, .int .i64 y.o.size, .int .i64 y.o.align, .slice y.o.bp y.o.bn y.o.bc, .slice y.o.rp y.o.rn y.o.rc] TOb)) y) := (hyo.base HTd.out.size).below b9; have HYE : Hid (OgEq s y) := hye; clear hR9 hT9 hT9' b9 hF9 hF10 hyo hye; refine ⟨_, rfl, ?_⟩)
        | (refine step_append_own_at rfl (.tmp 12) (.tmp 15) 22 rfl w.heap.size TOb i0 _ 5 80 Tryz.underlying22 hi hz0 hz1 hz2 rfl (by decide) _ k _ rfl HO10.out ⟨w9.heap.size, 0, none⟩ 1 1 (#[.string y.o.nm, .int .i64 y.o.size, .int .i64 y.o.align, .slice y.o.bp y.o.bn y.o.bc, .slice y.o.rp y.o.rn y.o.rc] : Array Value).toList rfl rfl (cells_new _ _ _) (by simp [Value.oneCell']) (by have := hkl.out; unfold maxLen; omega) (by have := hkl.out; omega) (HT10.out.size) ?_; intro v' w11 hown hgrow hnil hat; obtain ⟨p', cap', rfl⟩ := slice_of_own hown; have hF11 : w11.heap[w.heap.size + 1]? = some (.cells #[.slice sp k sc, .slice none 0 0, .int .i64 0] TPg (0, 0)) := (hgrow.block (w.heap.size + 1) (lt_of_heap HF10.out) (fun e => by obtain ⟨_, cur, hcur⟩ := ownsRow_at HO10.out e.symm; rw [HF10.out] at hcur; injection hcur with q1; injection q1 with _ q2; exact absurd q2 (by decide))).trans HF10.out; have c11 : w11.cell? ⟨w.heap.size + 1, 0, none⟩ = some (.slice sp k sc) := (Lib.cell_of_heap hF11 0).trans rfl; have f11 := frozen_of hF11 0; have HF11 : Hid (w11.heap[w.heap.size + 1]? = some (.cells #[.slice sp k sc, .slice none 0 0, .int .i64 0] TPg (0, 0))) := hF11; have HOW2 : Hid (World.ownsRow _ _ _ _ _ _ _) := hown; have HGR : Hid (World.grownBy _ _ _) := hgrow; clear hown hgrow hnil hat hF11))
      all_goals go_wp2
      all_goals
        have t12 : Turned w11 (w11.setCell ⟨w.heap.size + 1, 0, none⟩ (.slice p' (k + 1) cap')) (fun k => k = w.heap.size + 1) := Turned.setCell w11 (w.heap.size + 1) 0 _ rfl
        have tg : Turned (w9.alloc (.cells #[.string y.o.nm, .int .i64 y.o.size, .int .i64 y.o.align, .slice y.o.bp y.o.bn y.o.bc, .slice y.o.rp y.o.rn y.o.rc] TOb)) w11 (fun j => (Value.slice sp k sc).ownBlock = some j) := Turned.of_grown HGR.out (fun k e => e)
        have hgt : ∀ j, (Value.slice sp k sc).ownBlock = some j → ∃ cs, (w9.alloc (.cells #[.string y.o.nm, .int .i64 y.o.size, .int .i64 y.o.align, .slice y.o.bp y.o.bn y.o.bc, .slice y.o.rp y.o.rn y.o.rc] TOb)).heap[j]? = some (.cells cs TOb (0, 0)) := fun j hj => by obtain ⟨_, cur, hcur⟩ := ownsRow_at HO10.out hj; exact ⟨cur, hcur⟩
        have hR11 : RdT w11 rb mb lr [] := HR10.out.offS (ty := TOb) tg hgt (by decide) (by decide)
        have hR12 := hR11.off t12 HF11.out (by decide) (by decide)
        have hZ11 : w11.heap[w.heap.size]? = some (.cells #[.slice none 0 0, .slice none 0 0, .int .i64 0] TPg (0, 0)) := blk_t HZ10.out tg (fun hk => by
          obtain ⟨cur, hcur⟩ := hgt _ hk
          rw [HZ10.out] at hcur; injection hcur with q1; injection q1 with _ q2; exact absurd q2 (by decide))
        have hT11 : Turned w w11 (fun k => k = rb) := HT10.out.trans tg (fun i hi hk => by have := (ownsRow_at HO10.out hk).1; omega)
        have up : ∀ {t : TypeId} {m n : Nat} {v : Value} {zs : List Value}, t ≠ TOb → t ≠ TPg → (w9.alloc (.cells #[.string y.o.nm, .int .i64 y.o.size, .int .i64 y.o.align, .slice y.o.bp y.o.bn y.o.bc, .slice y.o.rp y.o.rn y.o.rc] TOb)).ownsRow w.heap.size t m v n zs → (w11.setCell ⟨w.heap.size + 1, 0, none⟩ (.slice p' (k + 1) cap')).ownsRow w.heap.size t m v n zs := fun h1 h2 h => own_apart (own_t h tg (fun j hj => by obtain ⟨cs, e⟩ := hgt j hj; exact ⟨cs, _, e, fun q => h1 q.symm⟩)) t12 HF11.out (fun q => h2 q.symm)
        have upq : ∀ q, OgOwn w.heap.size (w9.alloc (.cells #[.string y.o.nm, .int .i64 y.o.size, .int .i64 y.o.align, .slice y.o.bp y.o.bn y.o.bc, .slice y.o.rp y.o.rn y.o.rc] TOb)) q → OgOwn w.heap.size (w11.setCell ⟨w.heap.size + 1, 0, none⟩ (.slice p' (k + 1) cap')) q := fun q h => (h.turned tg (fun j hj => by obtain ⟨cs, e⟩ := hgt j hj; exact ⟨cs, _, e, by decide⟩)).turned t12 (apart_one HF11.out (by decide))
        refine ⟨⟨k + 1, ms ++ [y], p', cap', by omega, by rw [List.length_append, HML.out]; rfl, Lib.hid (list_snoc HML.out HNX.out HYE.out HEQ.out), Lib.hid ?_, Lib.hid (heap_setCell (j := 0) HF11.out _), Lib.hid ?_, Lib.hid (blk_t hZ11 t12 (by omega)), Lib.hid (by rw [← HLR.out]; exact hR12), Lib.hid (hT11.trans t12 (fun i hi e => by omega))⟩, ?_⟩
        · intro q hq
          rcases List.mem_append.1 hq with hq | hq
          · exact upq q (HI10.out q hq)
          · simp only [List.mem_cons, List.not_mem_nil, or_false] at hq
            subst hq
            exact upq _ HY10.out
        · rw [flatC_snoc]
          exact own_apart HOW2.out t12 HF11.out (by decide)
        · rw [HLN.out, lenAt_eq hR12]
          simp only [List.length_append]
          omega
    · obtain rfl : k = obs.length := by omega
      have hln : (obs.drop obs.length).flatMap obL ++ (fns.flatMap fnL ++ [mnL mn]) = fns.flatMap fnL ++ [mnL mn] := by rw [List.drop_length]; rfl
      have HR5' : Hid (RdT wr rb mb (fns.flatMap fnL ++ [mnL mn]) []) := by show RdT _ _ _ _ _; rw [← hln]; exact HRR.out
      have cB := begins_no HR5'.out (HM.out _ HTR.out) (fns_no_obj fns mn)
      unfold objectWd at cB
      obtain ⟨os, hos⟩ : ∃ os, os = ms := ⟨_, rfl⟩
      obtain ⟨op, hop⟩ : ∃ op, op = sp := ⟨_, rfl⟩
      obtain ⟨oc, hoc⟩ : ∃ oc, oc = sc := ⟨_, rfl⟩
      rw [← hos] at HEQ HOI HOW hml
      rw [← hop, ← hoc] at HFB HOW
      have HEQO : Hid (∀ (j : Nat) (a b : Og), obs[j]? = some a → os[j]? = some b → OgEq a b) := HEQ
      have HOSL : Hid (os.length = obs.length) := hml
      clear hln HRR HEQ hos hop hoc hml
      go_wp2_with (first | (go_at_call 100; refine cB.mono ?_; rintro e w6 ⟨rfl, hb6⟩; have HR2 : Hid (RdT w6 rb mb (fns.flatMap fnL ++ [mnL mn]) []) := HR5'.out.below hb6; have HT2 : Hid (Turned w w6 (fun k => k = rb)) := HTR.out.bel hb6; have HF2 : Hid (w6.heap[w.heap.size + 1]? = some (.cells #[.slice op obs.length oc, .slice none 0 0, .int .i64 0] TPg (0, 0))) := blk_b HFB.out hb6; have HZ2 : Hid (w6.heap[w.heap.size]? = some (.cells #[.slice none 0 0, .slice none 0 0, .int .i64 0] TPg (0, 0))) := blk_b HZB.out hb6; have HOR2 : Hid (w6.ownsRow w.heap.size TOb 5 (.slice op obs.length oc) obs.length (flatC ogC os)) := own_below HOW.out hb6; have HOI2 : Hid (∀ q ∈ os, OgOwn w.heap.size w6 q) := fun q hq => (HOI.out q hq).below hb6; clear hb6 cB) | fail)
      clear HFB HZB HR5' HTR HOW HOI
      go_loopw [19] (fun sv wr => ∃ (k : Nat) (ms : List Fg) (sp : Option Addr) (sc : Nat), k ≤ fns.length ∧ ms.length = k ∧ Hid (∀ (j : Nat) (a b : Fg), fns[j]? = some a → ms[j]? = some b → FgEq a b) ∧ Hid (∀ q ∈ ms, FnOwn w.heap.size wr q) ∧ Hid (wr.heap[w.heap.size + 1]? = some (.cells #[.slice op obs.length oc, .slice sp k sc, .int .i64 0] TPg (0, 0))) ∧ Hid (wr.ownsRow w.heap.size TFn 6 (.slice sp k sc) k (flatC fgC ms)) ∧ Hid (wr.ownsRow w.heap.size TOb 5 (.slice op obs.length oc) obs.length (flatC ogC os)) ∧ Hid (∀ q ∈ os, OgOwn w.heap.size wr q) ∧ Hid (wr.heap[w.heap.size]? = some (.cells #[.slice none 0 0, .slice none 0 0, .int .i64 0] TPg (0, 0))) ∧ Hid (RdT wr rb mb ((fns.drop k).flatMap fnL ++ [mnL mn]) []) ∧ Hid (Turned w wr (fun k => k = rb))) (fun _ wr => lenAt wr rb)
      case atStart => exact ⟨0, [], none, 0, Nat.zero_le _, rfl, (fun j a b h1 h2 => by simp at h2), (fun q hq => by cases hq), HF2, ⟨rfl, Or.inl ⟨rfl, rfl⟩⟩, HOR2, HOI2, HZ2, HR2, HT2⟩
      case round =>
        rename World => wr
        obtain ⟨k, ms, sp, sc, hk, hml, HEQ, HOI, HFB, HOW, HOR, HOP, HZB, HRR, HTR⟩ := hrel
        by_cases hlt : k < fns.length
        · obtain ⟨s, hs⟩ : ∃ s, fns[k]? = some s := ⟨_, List.getElem?_eq_getElem hlt⟩
          have HQT : Hid (FgT s) := HFT.out s (List.mem_of_getElem? hs)
          obtain ⟨lr, hlr⟩ : ∃ lr, lr = (fns.drop (k + 1)).flatMap fnL ++ [mnL mn] := ⟨_, rfl⟩
          have HKD : Hid (Kd lr) := by show Kd lr; rw [hlr]; exact kd_fns _ _
          have hln : (fns.drop k).flatMap fnL ++ [mnL mn] = lnB (fnHeadW s.f) :: (s.sls.map lnS ++ ((s.code.map Iw.x).map lnI ++ lr)) := by rw [drop_cons hs, hlr]; simp [fnL]
          have HRR2 : Hid (RdT wr rb mb (lnB (fnHeadW s.f) :: (s.sls.map lnS ++ ((s.code.map Iw.x).map lnI ++ lr))) []) := by show RdT _ _ _ _ _; rw [← hln]; exact HRR.out
          have HLN : Hid (lenAt wr rb = (s.sls.map lnS ++ ((s.code.map Iw.x).map lnI ++ lr)).length + 1) := lenAt_eq HRR2.out
          have HLR : Hid (lr = (fns.drop (k + 1)).flatMap fnL ++ [mnL mn]) := hlr
          have HNX : Hid (fns[k]? = some s) := hs
          have hkl : Hid (k ≤ 256) := Nat.le_trans hk (Nat.le_trans HFN.out (by omega))
          have d256 : (k : Int) < 256 := by have := HFN.out; omega
          have d256' : decide ((k : Int) < 256) = true := by simpa using d256
          have cB := begins_yes HRR2.out (HM.out _ HTR.out) (cut_fn s)
          rw [split_fn HQT.out] at cB
          unfold funcWd at cB
          have HML : Hid (ms.length = k) := hml
          clear hlr hln hs HRR hk hml
          go_upto_region 6 with (first
            | (go_at_call 100; refine cB.mono ?_; rintro e w8 ⟨rfl, hR8, hT8⟩; have HR8 : Hid (RdT w8 rb mb (s.sls.map lnS ++ ((s.code.map Iw.x).map lnI ++ lr)) (s.f.nm :: decS s.f.pr :: decS s.f.tp :: (if s.f.gv then [givesW] else []))) := hR8; have HT8 : Hid (Turned w w8 (fun k => k = rb)) := HTR.out.trans hT8 (fun _ _ h => h); have HF8 : Hid (w8.heap[w.heap.size + 1]? = some (.cells #[.slice op obs.length oc, .slice sp k sc, .int .i64 0] TPg (0, 0))) := blk_t HFB.out hT8 (by omega); have HZ8 : Hid (w8.heap[w.heap.size]? = some (.cells #[.slice none 0 0, .slice none 0 0, .int .i64 0] TPg (0, 0))) := blk_t HZB.out hT8 (by omega); have HO8 : Hid (w8.ownsRow w.heap.size TFn 6 (.slice sp k sc) k (flatC fgC ms)) := own_rd HOW.out hT8 HRR2.out (by decide); have HI8 : Hid (∀ q ∈ ms, FnOwn w.heap.size w8 q) := fun q hq => (HOI.out q hq).turned hT8 (by obtain ⟨cs, hcs⟩ := HRR2.out.rb_at; exact apart_one hcs (by decide)); have HOR8 : Hid (w8.ownsRow w.heap.size TOb 5 (.slice op obs.length oc) obs.length (flatC ogC os)) := own_rd HOR.out hT8 HRR2.out (by decide); have HOP8 : Hid (∀ q ∈ os, OgOwn w.heap.size w8 q) := fun q hq => (HOP.out q hq).turned hT8 (by obtain ⟨cs, hcs⟩ := HRR2.out.rb_at; exact apart_one hcs (by decide)); clear hR8 hT8 cB)
            | fail)
          obtain ⟨i0, hi, hz0, hz1, hz2⟩ := info_parts infoFn'
          have m4 : w8.cell? ⟨w.heap.size + 1, 1, none⟩ = some (.slice sp k sc) := (Lib.cell_of_heap HF8.out 1).trans rfl
          have bd : Below w8.heap.size w8 w8.drew := (Below.refl _ _).drew
          have HTd : Hid (Turned w w8.drew (fun k => k = rb)) := HT8.out.bel bd
          have HC1 : Hid (Calls Tryz.prog 102 #[.pointer (some ⟨rb, 0, none⟩)] w8.drew fun e w' => ∃ y, e = .returned (.agg #[.string y.f.nm, .int .i64 y.f.pr, .int .i64 y.f.tp, .bool y.f.gv, .slice y.f.sp y.f.sn y.f.sc, .slice y.f.cp y.f.cn y.f.cc]) ∧ FgEq s y ∧ FnOwn w8.drew.heap.size w' y ∧ RdT w' rb mb lr [] ∧ Turned w8.drew w' (fun k => k = rb)) := fn_at (HX.out _ HTd.out) (HFO.out _ HTd.out) (HM.out _ HTd.out) hrb HQT.out HKD.out (HR8.out.below bd)
          clear bd
          go_region_law (first
            | (refine step_call_fn rfl 102 #[.pointer (some ⟨rb, 0, none⟩)] (by kernel_rfl) HC1.out ?_; rintro e w9 ⟨y, rfl, hye, hyo, hR9, hT9⟩; have hT9' : Turned w8 w9 (fun k => k = rb) := (Turned.of_below (Below.refl _ w8).drew _).trans hT9 (fun _ _ h => h); have b9 := below1 w9 (.cells #[.string y.f.nm, .int .i64 y.f.pr, .int .i64 y.f.tp, .bool y.f.gv, .slice y.f.sp y.f.sn y.f.sc, .slice y.f.cp y.f.cn y.f.cc] TFn); have hF9 := blk_t HF8.out hT9' (by omega); have c9 : w9.cell? ⟨w.heap.size + 1, 1, none⟩ = some (.slice sp k sc) := (Lib.cell_of_heap hF9 1).trans rfl; have hF10 := blk_b hF9 b9; have c10 : (w9.alloc (.cells #[.string y.f.nm, .int .i64 y.f.pr, .int .i64 y.f.tp, .bool y.f.gv, .slice y.f.sp y.f.sn y.f.sc, .slice y.f.cp y.f.cn y.f.cc] TFn)).cell? ⟨w.heap.size + 1, 1, none⟩ = some (.slice sp k sc) := (Lib.cell_of_heap hF10 1).trans rfl; have HF10 : Hid ((w9.alloc (.cells #[.string y.f.nm, .int .i64 y.f.pr, .int .i64 y.f.tp, .bool y.f.gv, .slice y.f.sp y.f.sn y.f.sc, .slice y.f.cp y.f.cn y.f.cc] TFn)).heap[w.heap.size + 1]? = some (.cells #[.slice op obs.length oc, .slice sp k sc, .int .i64 0] TPg (0, 0))) := hF10; have HZ10 : Hid ((w9.alloc (.cells #[.string y.f.nm, .int .i64 y.f.pr, .int .i64 y.f.tp, .bool y.f.gv, .slice y.f.sp y.f.sn y.f.sc, .slice y.f.cp y.f.cn y.f.cc] TFn)).heap[w.heap.size]? = some (.cells #[.slice none 0 0, .slice none 0 0, .int .i64 0] TPg (0, 0))) := blk_b (blk_t HZ8.out hT9' (by omega)) b9; have HR10 : Hid (RdT (w9.alloc (.cells #[.string y.f.nm, .int .i64 y.f.pr, .int .i64 y.f.tp, .bool y.f.gv, .slice y.f.sp y.f.sn y.f.sc, .slice y.f.cp y.f.cn y.f.cc] TFn)) rb mb lr []) := hR9.below b9; have HT10 : Hid (Turned w (w9.alloc (.cells #[.string y.f.nm, .int .i64 y.f.pr, .int .i64 y.f.tp, .bool y.f.gv, .slice y.f.sp y.f.sn y.f.sc, .slice y.f.cp y.f.cn y.f.cc] TFn)) (fun k => k = rb)) := (HT8.out.trans hT9' (fun _ _ h => h)).bel b9; have HO10 : Hid ((w9.alloc (.cells #[.string y.f.nm, .int .i64 y.f.pr, .int .i64 y.f.tp, .bool y.f.gv, .slice y.f.sp y.f.sn y.f.sc, .slice y.f.cp y.f.cn y.f.cc] TFn)).ownsRow w.heap.size TFn 6 (.slice sp k sc) k (flatC fgC ms)) := own_below (own_rd HO8.out hT9' HR8.out (by decide)) b9; have HI10 : Hid (∀ q ∈ ms, FnOwn w.heap.size (w9.alloc (.cells #[.string y.f.nm, .int .i64 y.f.pr, .int .i64 y.f.tp, .bool y.f.gv, .slice y.f.sp y.f.sn y.f.sc, .slice y.f.cp y.f.cn y.f.cc] TFn)) q) := fun q hq => ((HI8.out q hq).turned hT9' (by obtain ⟨cs, hcs⟩ := HR8.out.rb_at; exact apart_one hcs (by decide))).below b9; have HY10 : Hid (FnOwn w.heap.size (w9.alloc (.cells #[.string y.f.nm, .int .i64 y.f.pr, .int .i64 y.f.tp, .bool y.f.gv, .slice y.f.sp y.f.sn y.f.sc, .slice y.f.cp y.f.cn y.f.cc] TFn)) y) := (hyo.base HTd.out.size).below b9; have HYE : Hid (FgEq s y) := hye; have HOR10 : Hid ((w9.alloc (.cells #[.string y.f.nm, .int .i64 y.f.pr, .int .i64 y.f.tp, .bool y.f.gv, .slice y.f.sp y.f.sn y.f.sc, .slice y.f.cp y.f.cn y.f.cc] TFn)).ownsRow w.heap.size TOb 5 (.slice op obs.length oc) obs.length (flatC ogC os)) := own_below (own_rd HOR8.out hT9' HR8.out (by decide)) b9; have HOP10 : Hid (∀ q ∈ os, OgOwn w.heap.size (w9.alloc (.cells #[.string y.f.nm, .int .i64 y.f.pr, .int .i64 y.f.tp, .bool y.f.gv, .slice y.f.sp y.f.sn y.f.sc, .slice y.f.cp y.f.cn y.f.cc] TFn)) q) := fun q hq => ((HOP8.out q hq).turned hT9' (by obtain ⟨cs, hcs⟩ := HR8.out.rb_at; exact apart_one hcs (by decide))).below b9; clear hR9 hT9 hT9' b9 hF9 hF10 hyo hye; refine ⟨_, rfl, ?_⟩)
            | (refine step_append_own_at rfl (.tmp 21) (.tmp 24) 23 rfl w.heap.size TFn i0 _ 6 88 Tryz.underlying23 hi hz0 hz1 hz2 rfl (by decide) _ k _ rfl HO10.out ⟨w9.heap.size, 0, none⟩ 1 1 (#[.string y.f.nm, .int .i64 y.f.pr, .int .i64 y.f.tp, .bool y.f.gv, .slice y.f.sp y.f.sn y.f.sc, .slice y.f.cp y.f.cn y.f.cc] : Array Value).toList rfl rfl (cells_new _ _ _) (by simp [Value.oneCell']) (by have := hkl.out; unfold maxLen; omega) (by have := hkl.out; omega) (HT10.out.size) ?_; intro v' w11 hown hgrow hnil hat; obtain ⟨p', cap', rfl⟩ := slice_of_own hown; have hF11 : w11.heap[w.heap.size + 1]? = some (.cells #[.slice op obs.length oc, .slice sp k sc, .int .i64 0] TPg (0, 0)) := (hgrow.block (w.heap.size + 1) (lt_of_heap HF10.out) (fun e => by obtain ⟨_, cur, hcur⟩ := ownsRow_at HO10.out e.symm; rw [HF10.out] at hcur; injection hcur with q1; injection q1 with _ q2; exact absurd q2 (by decide))).trans HF10.out; have c11 : w11.cell? ⟨w.heap.size + 1, 1, none⟩ = some (.slice sp k sc) := (Lib.cell_of_heap hF11 1).trans rfl; have f11 := frozen_of hF11 1; have HF11 : Hid (w11.heap[w.heap.size + 1]? = some (.cells #[.slice op obs.length oc, .slice sp k sc, .int .i64 0] TPg (0, 0))) := hF11; have HOW2 : Hid (World.ownsRow _ _ _ _ _ _ _) := hown; have HGR : Hid (World.grownBy _ _ _) := hgrow; clear hown hgrow hnil hat hF11))
          all_goals go_wp2
          all_goals
            have t12 : Turned w11 (w11.setCell ⟨w.heap.size + 1, 1, none⟩ (.slice p' (k + 1) cap')) (fun k => k = w.heap.size + 1) := Turned.setCell w11 (w.heap.size + 1) 1 _ rfl
            have tg : Turned (w9.alloc (.cells #[.string y.f.nm, .int .i64 y.f.pr, .int .i64 y.f.tp, .bool y.f.gv, .slice y.f.sp y.f.sn y.f.sc, .slice y.f.cp y.f.cn y.f.cc] TFn)) w11 (fun j => (Value.slice sp k sc).ownBlock = some j) := Turned.of_grown HGR.out (fun k e => e)
            have hgt : ∀ j, (Value.slice sp k sc).ownBlock = some j → ∃ cs, (w9.alloc (.cells #[.string y.f.nm, .int .i64 y.f.pr, .int .i64 y.f.tp, .bool y.f.gv, .slice y.f.sp y.f.sn y.f.sc, .slice y.f.cp y.f.cn y.f.cc] TFn)).heap[j]? = some (.cells cs TFn (0, 0)) := fun j hj => by obtain ⟨_, cur, hcur⟩ := ownsRow_at HO10.out hj; exact ⟨cur, hcur⟩
            have hR11 : RdT w11 rb mb lr [] := HR10.out.offS (ty := TFn) tg hgt (by decide) (by decide)
            have hR12 := hR11.off t12 HF11.out (by decide) (by decide)
            have hZ11 : w11.heap[w.heap.size]? = some (.cells #[.slice none 0 0, .slice none 0 0, .int .i64 0] TPg (0, 0)) := blk_t HZ10.out tg (fun hk => by
              obtain ⟨cur, hcur⟩ := hgt _ hk
              rw [HZ10.out] at hcur; injection hcur with q1; injection q1 with _ q2; exact absurd q2 (by decide))
            have hT11 : Turned w w11 (fun k => k = rb) := HT10.out.trans tg (fun i hi hk => by have := (ownsRow_at HO10.out hk).1; omega)
            have up : ∀ {t : TypeId} {m n : Nat} {v : Value} {zs : List Value}, t ≠ TFn → t ≠ TPg → (w9.alloc (.cells #[.string y.f.nm, .int .i64 y.f.pr, .int .i64 y.f.tp, .bool y.f.gv, .slice y.f.sp y.f.sn y.f.sc, .slice y.f.cp y.f.cn y.f.cc] TFn)).ownsRow w.heap.size t m v n zs → (w11.setCell ⟨w.heap.size + 1, 1, none⟩ (.slice p' (k + 1) cap')).ownsRow w.heap.size t m v n zs := fun h1 h2 h => own_apart (own_t h tg (fun j hj => by obtain ⟨cs, e⟩ := hgt j hj; exact ⟨cs, _, e, fun q => h1 q.symm⟩)) t12 HF11.out (fun q => h2 q.symm)
            have upq : ∀ q, FnOwn w.heap.size (w9.alloc (.cells #[.string y.f.nm, .int .i64 y.f.pr, .int .i64 y.f.tp, .bool y.f.gv, .slice y.f.sp y.f.sn y.f.sc, .slice y.f.cp y.f.cn y.f.cc] TFn)) q → FnOwn w.heap.size (w11.setCell ⟨w.heap.size + 1, 1, none⟩ (.slice p' (k + 1) cap')) q := fun q h => (h.turned tg (fun j hj => by obtain ⟨cs, e⟩ := hgt j hj; exact ⟨cs, _, e, by decide⟩)).turned t12 (apart_one HF11.out (by decide))
            refine ⟨⟨k + 1, ms ++ [y], p', cap', by omega, by rw [List.length_append, HML.out]; rfl, Lib.hid (list_snoc HML.out HNX.out HYE.out HEQ.out), Lib.hid ?_, Lib.hid (heap_setCell (j := 1) HF11.out _), Lib.hid ?_, Lib.hid (up (by decide) (by decide) HOR10.out), Lib.hid (fun q hq => ((HOP10.out q hq).turned tg (fun j hj => by obtain ⟨cs, e⟩ := hgt j hj; exact ⟨cs, _, e, by decide⟩)).turned t12 (apart_one HF11.out (by decide))), Lib.hid (blk_t hZ11 t12 (by omega)), Lib.hid (by rw [← HLR.out]; exact hR12), Lib.hid (hT11.trans t12 (fun i hi e => by omega))⟩, ?_⟩
            · intro q hq
              rcases List.mem_append.1 hq with hq | hq
              · exact upq q (HI10.out q hq)
              · simp only [List.mem_cons, List.not_mem_nil, or_false] at hq
                subst hq
                exact upq _ HY10.out
            · rw [flatC_snoc]
              exact own_apart HOW2.out t12 HF11.out (by decide)
            · rw [HLN.out, lenAt_eq hR12]
              simp only [List.length_append]
              omega
        · obtain rfl : k = fns.length := by omega
          have hln : (fns.drop fns.length).flatMap fnL ++ [mnL mn] = [mnL mn] := by rw [List.drop_length]; rfl
          have HR5' : Hid (RdT wr rb mb [mnL mn] []) := by show RdT _ _ _ _ _; rw [← hln]; exact HRR.out
          have hnf : ((firstW [mnL mn]).toList == funcWd.toList) = false := by
            show ((cutW (mnL mn)).toList == _) = _
            rw [cut_mn]
            decide +kernel
          have cB := begins_no HR5'.out (HM.out _ HTR.out) hnf
          unfold funcWd at cB
          have HEQF : Hid (∀ (j : Nat) (a b : Fg), fns[j]? = some a → ms[j]? = some b → FgEq a b) := HEQ
          have HMSL : Hid (ms.length = fns.length) := hml
          clear hln HRR HEQ hml hnf
          go_upto_region 10 with (first
            | (go_at_call 100; refine cB.mono ?_; rintro e w6 ⟨rfl, hb6⟩; have HR6 : Hid (RdT w6 rb mb [mnL mn] []) := HR5'.out.below hb6; have HT6 : Hid (Turned w w6 (fun k => k = rb)) := HTR.out.bel hb6; have HF6 : Hid (w6.heap[w.heap.size + 1]? = some (.cells #[.slice op obs.length oc, .slice sp fns.length sc, .int .i64 0] TPg (0, 0))) := blk_b HFB.out hb6; have HZ6 : Hid (w6.heap[w.heap.size]? = some (.cells #[.slice none 0 0, .slice none 0 0, .int .i64 0] TPg (0, 0))) := blk_b HZB.out hb6; have HOR6 : Hid (w6.ownsRow w.heap.size TOb 5 (.slice op obs.length oc) obs.length (flatC ogC os)) := own_below HOR.out hb6; have HOP6 : Hid (∀ q ∈ os, OgOwn w.heap.size w6 q) := fun q hq => (HOP.out q hq).below hb6; have HOW6 : Hid (w6.ownsRow w.heap.size TFn 6 (.slice sp fns.length sc) fns.length (flatC fgC ms)) := own_below HOW.out hb6; have HOI6 : Hid (∀ q ∈ ms, FnOwn w.heap.size w6 q) := fun q hq => (HOI.out q hq).below hb6; have cB2 := begins_yes HR6.out (HM.out _ HT6.out) (cut_mn mn); rw [split_mn] at cB2; unfold mainWd at cB2; clear hb6 cB)
            | (go_at_call 100; refine cB2.mono ?_; rintro e w7 ⟨rfl, hR7, hT7⟩; have hap : ∀ ts, TRd ∉ ts → Apart w6 (fun k => k = rb) ts := fun ts h => (by obtain ⟨cs, hcs⟩ := HR6.out.rb_at; exact apart_one hcs h); have HT7 : Hid (Turned w w7 (fun k => k = rb)) := HT6.out.trans hT7 (fun _ _ h => h); have HF7 : Hid (w7.heap[w.heap.size + 1]? = some (.cells #[.slice op obs.length oc, .slice sp fns.length sc, .int .i64 0] TPg (0, 0))) := blk_t HF6.out hT7 (by omega); have HZ7 : Hid (w7.heap[w.heap.size]? = some (.cells #[.slice none 0 0, .slice none 0 0, .int .i64 0] TPg (0, 0))) := blk_t HZ6.out hT7 (by omega); have HOR7 : Hid (w7.ownsRow w.heap.size TOb 5 (.slice op obs.length oc) obs.length (flatC ogC os)) := own_rd HOR6.out hT7 HR6.out (by decide); have HOP7 : Hid (∀ q ∈ os, OgOwn w.heap.size w7 q) := fun q hq => (HOP6.out q hq).turned hT7 (hap _ (by decide)); have HOW7 : Hid (w7.ownsRow w.heap.size TFn 6 (.slice sp fns.length sc) fns.length (flatC fgC ms)) := own_rd HOW6.out hT7 HR6.out (by decide); have HOI7 : Hid (∀ q ∈ ms, FnOwn w.heap.size w7 q) := fun q hq => (HOI6.out q hq).turned hT7 (hap _ (by decide)); have HR7 : Hid (RdT w7 rb mb [] [decS mn]) := hR7; have cN := want_c w7; have cM := number_c (HX.out _ HT7.out) hrb hR7 (numOf_dec HMN.out) HMN.out.1 HMN.out.2; clear hR7 hT7 cB2 hap)
            | (go_at_call 69; refine cN.mono ?_; rintro e w' ⟨rfl, hw⟩; rw [hw]; clear hw w' cN)
            | (go_at_call 103; refine cM.mono ?_; rintro e w8 ⟨rfl, hR8, hT8⟩; have hap : ∀ ts, TRd ∉ ts → Apart w7 (fun k => k = rb) ts := fun ts h => (by obtain ⟨cs, hcs⟩ := HR7.out.rb_at; exact apart_one hcs h); have HT8 : Hid (Turned w w8 (fun k => k = rb)) := HT7.out.trans hT8 (fun _ _ h => h); have hF8 : w8.heap[w.heap.size + 1]? = some (.cells #[.slice op obs.length oc, .slice sp fns.length sc, .int .i64 0] TPg (0, 0)) := blk_t HF7.out hT8 (by omega); have c8 : w8.cell? ⟨w.heap.size + 1, 2, none⟩ = some (.int .i64 0) := (Lib.cell_of_heap hF8 2).trans rfl; have y8 := frozen_of hF8 2; have t9 : Turned w8 (w8.setCell ⟨w.heap.size + 1, 2, none⟩ (.int .i64 mn)) (fun k => k = w.heap.size + 1) := Turned.setCell w8 (w.heap.size + 1) 2 _ rfl; have hap9 : ∀ ts, TPg ∉ ts → Apart w8 (fun k => k = w.heap.size + 1) ts := fun ts h => apart_one hF8 h; have HF9 : Hid ((w8.setCell ⟨w.heap.size + 1, 2, none⟩ (.int .i64 mn)).heap[w.heap.size + 1]? = some (.cells #[.slice op obs.length oc, .slice sp fns.length sc, .int .i64 mn] TPg (0, 0))) := heap_setCell (j := 2) hF8 _; have HZ9 : Hid ((w8.setCell ⟨w.heap.size + 1, 2, none⟩ (.int .i64 mn)).heap[w.heap.size]? = some (.cells #[.slice none 0 0, .slice none 0 0, .int .i64 0] TPg (0, 0))) := blk_t (blk_t HZ7.out hT8 (by omega)) t9 (by omega); have HOR9 : Hid ((w8.setCell ⟨w.heap.size + 1, 2, none⟩ (.int .i64 mn)).ownsRow w.heap.size TOb 5 (.slice op obs.length oc) obs.length (flatC ogC os)) := own_apart (own_rd HOR7.out hT8 HR7.out (by decide)) t9 hF8 (by decide); have HOP9 : Hid (∀ q ∈ os, OgOwn w.heap.size (w8.setCell ⟨w.heap.size + 1, 2, none⟩ (.int .i64 mn)) q) := fun q hq => ((HOP7.out q hq).turned hT8 (hap _ (by decide))).turned t9 (hap9 _ (by decide)); have HOW9 : Hid ((w8.setCell ⟨w.heap.size + 1, 2, none⟩ (.int .i64 mn)).ownsRow w.heap.size TFn 6 (.slice sp fns.length sc) fns.length (flatC fgC ms)) := own_apart (own_rd HOW7.out hT8 HR7.out (by decide)) t9 hF8 (by decide); have HOI9 : Hid (∀ q ∈ ms, FnOwn w.heap.size (w8.setCell ⟨w.heap.size + 1, 2, none⟩ (.int .i64 mn)) q) := fun q hq => ((HOI7.out q hq).turned hT8 (hap _ (by decide))).turned t9 (hap9 _ (by decide)); have HR9 : Hid (RdT (w8.setCell ⟨w.heap.size + 1, 2, none⟩ (.int .i64 mn)) rb mb [] []) := hR8.off t9 hF8 (by decide) (by decide); have HT9 : Hid (Turned w (w8.setCell ⟨w.heap.size + 1, 2, none⟩ (.int .i64 mn)) (fun k => k = rb)) := HT8.out.trans t9 (fun i hi e => by omega); have cD := done_c HR9.out; clear hR8 hT8 cM hap hap9 hF8 t9)
            | (go_at_call 104; refine cD.mono ?_; rintro e w' ⟨rfl, hw⟩; rw [hw]; clear hw w' cD)
            | fail)
          generalize w8.setCell ⟨w.heap.size + 1, 2, none⟩ (.int .i64 mn) = W9 at *
          obtain ⟨rlp, rlc, rwp, rwc, hrg, _, _⟩ := HR9.out.ex
          have r0 := (Lib.cell_of_heap hrg 0).trans rfl
          simp only [List.length_nil] at r0
          have cN := want_c W9
          have hzb2 := HZ9.out
          have q0 := (Lib.cell_of_heap HF9.out 0).trans rfl
          have q1 := (Lib.cell_of_heap HF9.out 1).trans rfl
          have q2 := (Lib.cell_of_heap HF9.out 2).trans rfl
          clear hrg c8 y8
          go_wp2_with (first
            | (go_at_call 69; refine cN.mono ?_; rintro e w' ⟨rfl, hw⟩; rw [hw]; clear hw w' cN)
            | ((with_reducible apply step_store hzb2); rfl; rfl; kernel_rfl; rfl; kernel_rfl)
            | fail)
          have g9 : (W9.setRow w.heap.size #[.slice op obs.length oc, .slice sp fns.length sc, .int .i64 mn]).heap[w.heap.size]? = some (.cells #[.slice op obs.length oc, .slice sp fns.length sc, .int .i64 mn] TPg (0, 0)) := setRow_heap _ _ _ _ _ _ hzb2
          have t9 : Turned W9 (W9.setRow w.heap.size #[.slice op obs.length oc, .slice sp fns.length sc, .int .i64 mn]) (fun k => k = w.heap.size) := Turned.setRow W9 _ _ rfl
          have p0 := (Lib.cell_of_heap g9 0).trans rfl
          have p1 := (Lib.cell_of_heap g9 1).trans rfl
          have p2 := (Lib.cell_of_heap g9 2).trans rfl
          have hap9 : ∀ ts, TPg ∉ ts → Apart W9 (fun k => k = w.heap.size) ts := fun ts h => apart_one hzb2 h
          refine bodyPost_ret (v := .agg #[.slice op obs.length oc, .slice sp fns.length sc, .int .i64 mn]) (by simp [results, Tryz.results72, go_sem, p0, p1, p2]) rfl ⟨⟨os, ms, mn⟩, ⟨op, oc, sp, sc⟩, ?_, ⟨rfl, HOSL.out, HMSL.out, HEQO.out, HEQF.out⟩, ⟨?_, fun q hq => (HOP9.out q hq).turned t9 (hap9 _ (by decide)), ?_, fun q hq => (HOI9.out q hq).turned t9 (hap9 _ (by decide))⟩, HT9.out.trans t9 (fun i hi e => by omega)⟩
          · unfold pgV
            simp only
            rw [HOSL.out, HMSL.out]
          · show World.ownsRow _ _ _ _ (.slice op os.length oc) os.length _
            rw [HOSL.out]
            exact own_apart HOR9.out t9 hzb2 (by decide)
          · show World.ownsRow _ _ _ _ (.slice sp ms.length sc) ms.length _
            rw [HMSL.out]
            exact own_apart HOW9.out t9 hzb2 (by decide)
end
end Go.Proofs.YtaaphipbkpjkjaaGreatDoor
