/-
  The program that heads cuts short, where its copy lies; its instructions as Reads, Writes and Next ask for them.
  The program that heads asks about: what Check, Print and Parse say of it, by plain functions.
-/
import Derived.Test.YtaaphipbkpjkjaaGreatDoorNG
import Derived.Test.YtaaphipbkpjkjaaGreatDoorKS
import Derived.Test.YtaaphipbkpjkjaaGreatDoorKT
namespace Go.Proofs.YtaaphipbkpjkjaaGreatDoor
open Go.RowKit Go.Maps
set_option linter.unusedVariables false
set_option linter.unusedSimpArgs false
set_option maxRecDepth 100000
def hi1 : In := ⟨1, 0, 0, ⟨2, 5⟩, ⟨0, 0⟩, 0, 0, 0, false, []⟩
def hi2 : In := ⟨9, 0, -1, ⟨1, 0⟩, ⟨0, 0⟩, 0, 0, 0, false, []⟩
def headS : ByteArray := ⟨#[102, 117, 110, 99, 32, 109, 97, 105, 110, 32, 48, 32, 49, 32, 103, 105, 118, 101, 115, 10, 109, 111, 118, 32, 116, 48, 32, 35, 53, 10, 114, 101, 116, 32, 116, 48, 10, 109, 97, 105, 110, 32, 48, 10]⟩
def headP (vp : Option Addr) (vc : Nat) : Pg := oneP ⟨#[109, 97, 105, 110]⟩ 0 1 true [hi1, hi2] 0 vp vc
theorem head_check (vp : Option Addr) (vc : Nat) : checkB (headP vp vc) = true := by rfl
theorem head_lines (vp : Option Addr) (vc : Nat) : printS (headP vp vc) = headS.data.toList := by kernel_rfl
theorem head_ins : InsOK [hi1, hi2] := ⟨by decide, by
  intro y hy
  simp only [List.mem_cons, List.not_mem_nil, or_false] at hy
  rcases hy with rfl | rfl <;> exact ⟨by unfold ArOK; decide, by unfold ArOK; decide, by decide, by decide⟩⟩
theorem head_text : printT (headP none 0) = headS := by
  unfold printT
  rw [head_check, head_lines]
  rfl
theorem head_split : splitL ⟨(Lib.trimSuffix headS.data.toList [10]).toArray⟩ 10 = [⟨#[102, 117, 110, 99, 32, 109, 97, 105, 110, 32, 48, 32, 49, 32, 103, 105, 118, 101, 115]⟩, ⟨#[109, 111, 118, 32, 116, 48, 32, 35, 53]⟩, ⟨#[114, 101, 116, 32, 116, 48]⟩, ⟨#[109, 97, 105, 110, 32, 48]⟩] := by decide +kernel
theorem head_one : OneF (splitL ⟨(Lib.trimSuffix headS.data.toList [10]).toArray⟩ 10) ⟨#[109, 97, 105, 110]⟩ 0 1 true [hi1, hi2] 0 := by
  rw [head_split]
  refine ⟨⟨_, _, ⟨#[109, 97, 105, 110, 32, 48]⟩, ⟨#[48]⟩, ⟨#[49]⟩, [givesW], ⟨#[48]⟩, rfl, by decide +kernel, by decide +kernel, by decide +kernel, by decide +kernel, rfl, by decide +kernel, ?_, by decide +kernel, by decide +kernel, by decide +kernel⟩, by decide, by decide⟩
  kernel_rfl
/-- The program with its code cut short: no code ends so. -/
theorem short_check (f : Fn) (l : List Iw) (h : l.map Iw.x = [hi1]) (hf : f.cn = 1) (mn : Int) : checkB ⟨[], [⟨f, [], l⟩], mn⟩ = false := by
  obtain ⟨i, rfl⟩ : ∃ i, l = [i] := by
    cases l with
    | nil => cases h
    | cons i l => cases l with
      | nil => exact ⟨i, rfl⟩
      | cons j l => simp at h
  simp only [List.map_cons, List.map_nil, List.cons.injEq, and_true] at h
  have hl : lastB [i] = false := by show endsB i.x.op = false; rw [h]; rfl
  have hc : ∀ gv fns, codeB f.tp gv [] [] fns [i] = false := fun gv fns => by unfold codeB; rw [hl]; simp
  simp [checkB, funsB, funL, fun1, hc]
end Go.Proofs.YtaaphipbkpjkjaaGreatDoor
namespace Go.Proofs.YtaaphipbkpjkjaaGreatDoor
open Go.RowKit Go.Maps
set_option linter.unusedVariables false
set_option linter.unusedSimpArgs false
set_option maxRecDepth 100000
theorem RowV.one {α : Type} {C : α → List Value} {k : Nat} {w : World} {p : Option Addr} {cap : Nat} {a : α} {l : List α} (h : RowV C k w p cap (a :: l)) : RowV C k w p cap [a] :=
  ⟨⟨Nat.le_trans (by simp) h.1.1, h.1.2⟩, fun i b hb => by
    cases i with
    | zero => exact h.2 0 b (by simpa using hb)
    | succ i => simp at hb⟩
theorem short_ok {B : Nat} {w0 w7 : World} {sb a0 : Fg} {gs gc sc ccap : Nat} (hro : w7.ownsRow B TFn 6 (.slice (some ⟨gs, 0, none⟩) 1 sc) 1 (fgC sb)) (heq : FgEq a0 sb) (hfo : FgOwn B w7 sb) (ha : FgOK w0 a0)
    (hco : a0.code.map Iw.x = [hi1, hi2]) (e1 : sb.f.cp = some ⟨gc, 0, none⟩) (e3 : sb.f.cc = ccap) :
    ∃ (f : Fn) (l : List Iw), f.cn = 1 ∧ l.map Iw.x = [hi1] ∧ PgOK (w7.setCell ⟨gs, 5, none⟩ (.slice (some ⟨gc, 0, none⟩) 1 ccap)) ⟨[], [⟨f, [], l⟩], 0⟩ ⟨none, 0, some ⟨gs, 0, none⟩, sc⟩ := by
  have hx : sb.code.map Iw.x = [hi1, hi2] := heq.co.symm.trans hco
  obtain ⟨q0, q1, hq⟩ : ∃ q0 q1, sb.code = [q0, q1] := by
    match h : sb.code, hx with
    | [a, b], _ => exact ⟨a, b, rfl⟩
    | [], hx => simp at hx
    | [a], hx => simp at hx
    | a :: b :: c :: d, hx => simp at hx
  rw [hq] at hx
  simp only [List.map_cons, List.map_nil, List.cons.injEq, and_true] at hx
  obtain ⟨_, cur, hcur⟩ := ownsRow_at hro (g := gs) rfl
  have ht : Turned w7 (w7.setCell ⟨gs, 5, none⟩ (.slice (some ⟨gc, 0, none⟩) 1 ccap)) (fun j => j = gs) := Turned.setCell w7 gs 5 _ rfl
  have hf9 := hfo.turned ht (ty := TFn) (fun k hk => by subst hk; exact ⟨cur, hcur⟩) (by decide) (by decide)
  have ho := own_set hro 5 (by decide) (.slice (some ⟨gc, 0, none⟩) 1 ccap)
  generalize w7.setCell ⟨gs, 5, none⟩ (.slice (some ⟨gc, 0, none⟩) 1 ccap) = W at *
  have ok := hf9.ok heq ha
  refine ⟨{ sb.f with cn := 1 }, [q0], rfl, by simp [hx.1], ⟨⟨Nat.zero_le _, fun _ => rfl⟩, fun i a h => by simp at h⟩, Nat.zero_le _, fun q hq => (by cases hq), ?_, (show (1 : Nat) ≤ 9223372036854775806 by decide), fun q hq' => ?_⟩
  · refine RowV.of_own (B := B) (t := TFn) fgC_length ?_
    have : (fgC sb).set 5 (.slice (some ⟨gc, 0, none⟩) 1 ccap) = flatC fgC [(⟨{ sb.f with cn := 1 }, [], [q0]⟩ : Fg)] := by
      simp [flatC, fgC, fnC, e1, e3]
    rw [this] at ho
    exact ho
  · obtain rfl := List.mem_singleton.1 hq'
    have hs := ok.sl
    have hn := ok.sn
    rw [hf9.sl] at hs hn
    have hc := ok.cr
    rw [hq] at hc
    exact ⟨ok.nm, hs, hn, Nat.zero_le _, hc.one, rfl, (show (1 : Nat) ≤ 9223372036854775806 by decide), fun i hi => ok.ci i (by rw [hq]; simp only [List.mem_cons, List.not_mem_nil, or_false] at hi ⊢; exact Or.inl hi)⟩
def hadd : In := ⟨2, 1, 1, ⟨1, 0⟩, ⟨1, 0⟩, 0, 0, 0, false, []⟩
theorem argV_none (Y : World) : ArgV Y (.slice none 0 0) [] := ⟨none, 0, rfl, ⟨Nat.le_refl _, fun _ => rfl⟩, fun i a h => by simp at h⟩
theorem head_reads (Y : World) : Calls Tryz.prog 13 #[.agg #[.int .i64 2, .int .i64 1, .int .i64 1, .int .i64 1, .int .u32 0, .int .i64 1, .int .u32 0, .int .i64 0, .int .i64 0, .int .i64 0, .bool false, .slice none 0 0]] Y fun e w' => ∃ v, e = .returned v ∧ IntSl w' v [0, 0] ∧ Below Y.heap.size Y w' :=
  reads_c (x := hadd) (s := .slice none 0 0) (argV_none Y) (fun a ha => by
    simp only [hadd, List.mem_cons, List.not_mem_nil, or_false] at ha
    rcases ha with rfl | rfl <;> (unfold ArOK; decide)) (by decide)
theorem head_writes (Y : World) : Calls Tryz.prog 12 #[.agg #[.int .i64 2, .int .i64 1, .int .i64 1, .int .i64 1, .int .u32 0, .int .i64 1, .int .u32 0, .int .i64 0, .int .i64 0, .int .i64 0, .bool false, .slice none 0 0]] Y fun e w' => e = .returned (.int .i64 1) ∧ Below Y.heap.size Y w' :=
  writes_c hadd none 0 0 Y
theorem head_writes2 (Y : World) : Calls Tryz.prog 12 #[.agg #[.int .i64 9, .int .i64 0, .int .i64 (-1), .int .i64 1, .int .u32 0, .int .i64 0, .int .u32 0, .int .i64 0, .int .i64 0, .int .i64 0, .bool false, .slice none 0 0]] Y fun e w' => e = .returned (.int .i64 (-1)) ∧ Below Y.heap.size Y w' :=
  writes_c hi2 none 0 0 Y
theorem head_inV {Y : World} {b : Nat} (h : Y.heap[b]? = some (.cells #[.int .i64 1, .int .i64 0, .int .i64 0, .int .i64 2, .int .u32 5, .int .i64 0, .int .u32 0, .int .i64 0, .int .i64 0, .int .i64 0, .bool false, .slice none 0 0, .int .i64 9, .int .i64 0, .int .i64 (-1), .int .i64 1, .int .u32 0, .int .i64 0, .int .u32 0, .int .i64 0, .int .i64 0, .int .i64 0, .bool false, .slice none 0 0] TIn (0, 0))) :
    InV Y (.slice (some ⟨b, 0, none⟩) 2 2) [(hi1, .slice none 0 0), (hi2, .slice none 0 0)] := by
  refine ⟨_, 2, rfl, Nat.le_refl _, fun i q hq => ?_⟩
  match i, hq with
  | 0, hq =>
    obtain rfl : q = (hi1, .slice none 0 0) := (Option.some.inj hq).symm
    refine ⟨⟨b, 0, rfl, lt_of_heap h, fun j hj => ?_⟩, argV_none Y⟩
    rw [show 0 + 0 * 12 + j = j by omega]
    refine (Lib.cell_of_heap h j).trans ?_
    match j, hj with
    | 0, _ => rfl
    | 1, _ => rfl
    | 2, _ => rfl
    | 3, _ => rfl
    | 4, _ => rfl
    | 5, _ => rfl
    | 6, _ => rfl
    | 7, _ => rfl
    | 8, _ => rfl
    | 9, _ => rfl
    | 10, _ => rfl
    | 11, _ => rfl
  | 1, hq =>
    obtain rfl : q = (hi2, .slice none 0 0) := (Option.some.inj hq).symm
    refine ⟨⟨b, 0, rfl, lt_of_heap h, fun j hj => ?_⟩, argV_none Y⟩
    rw [show 0 + 1 * 12 + j = 12 + j by omega]
    refine (Lib.cell_of_heap h (12 + j)).trans ?_
    match j, hj with
    | 0, _ => rfl
    | 1, _ => rfl
    | 2, _ => rfl
    | 3, _ => rfl
    | 4, _ => rfl
    | 5, _ => rfl
    | 6, _ => rfl
    | 7, _ => rfl
    | 8, _ => rfl
    | 9, _ => rfl
    | 10, _ => rfl
    | 11, _ => rfl
theorem head_next0 {Y : World} {b : Nat} (h : InV Y (.slice (some ⟨b, 0, none⟩) 2 2) [(hi1, .slice none 0 0), (hi2, .slice none 0 0)]) :
    Calls Tryz.prog 11 #[.slice (some ⟨b, 0, none⟩) 2 2, .int .i64 0] Y fun e w' => ∃ u, e = .returned u ∧ IntSl w' u [1] ∧ Below Y.heap.size Y w' :=
  next_c h (by decide) 0
theorem head_next1 {Y : World} {b : Nat} (h : InV Y (.slice (some ⟨b, 0, none⟩) 2 2) [(hi1, .slice none 0 0), (hi2, .slice none 0 0)]) :
    Calls Tryz.prog 11 #[.slice (some ⟨b, 0, none⟩) 2 2, .int .i64 1] Y fun e w' => ∃ p cap, e = .returned (.slice p 0 cap) ∧ Below Y.heap.size Y w' := by
  refine (next_c h (by decide) 1).mono ?_
  rintro e w' ⟨u, rfl, hu, hb⟩
  rcases hu with ⟨rfl, _⟩ | ⟨g, o, cap, rfl, _⟩
  · exact ⟨_, _, rfl, hb⟩
  · exact ⟨_, _, rfl, hb⟩
theorem ints_new (Y : World) (n : Nat) (cs : Array Value) (l : List Int) (hl : l.length = n) (hc : ∀ (i : Nat) (m : Int), l[i]? = some m → cs[i]? = some (Value.int .i64 m)) : IntSl (Y.alloc (.cells cs 3)) (.slice (some ⟨Y.heap.size, 0, none⟩) n n) l := by
  subst hl
  refine Or.inr ⟨_, 0, _, rfl, Nat.le_refl _, by simp, fun i m hm => ?_⟩
  rw [Nat.zero_add]
  exact (cell_new Y cs _ i).trans (hc i m hm)
theorem head_prog {Y : World} {v1 v2 f1 f2 : Option Addr} {c1 c2 t1 t2 : Nat} (h1 : PgOK Y (headP v1 c1) ⟨none, 0, f1, t1⟩) (h2 : PgOK Y (headP v2 c2) ⟨none, 0, f2, t2⟩) :
    Calls Tryz.prog 16 #[.agg #[.slice none 0 0, .slice f1 1 t1, .int .i64 0], .agg #[.slice none 0 0, .slice f2 1 t2, .int .i64 0]] Y fun e w' => e = .returned (.bool true) ∧ Below Y.heap.size Y w' := by
  have h := rProgT_c (mn := 0) (p1 := none) (p2 := none) (c1 := 0) (c2 := 0) h1.fr h2.fr (show (1 : Nat) ≤ 9223372036854775806 by decide) rfl (fun k a b ha hb => by
    match k, ha, hb with
    | 0, ha, hb =>
      have ea := Option.some.inj ha
      have eb := Option.some.inj hb
      subst ea eb
      exact ⟨rfl, rfl, rfl, rfl, rfl, rfl⟩) h1.fi h2.fi
  exact h
theorem head_chk {Y : World} {v1 f1 : Option Addr} {c1 t1 : Nat} (h1 : PgOK Y (headP v1 c1) ⟨none, 0, f1, t1⟩) (hw : PrW Y) :
    Calls Tryz.prog 9 #[.agg #[.slice none 0 0, .slice f1 1 t1, .int .i64 0]] Y fun e w' => e = .returned (.int .i64 0) ∧ Below Y.heap.size Y w' := by
  have h := check_c h1 hw.forms hw.names hw.pos
  rw [head_check] at h
  exact h
theorem head_chk2 {Y : World} {f1 : Option Addr} {t1 : Nat} {f : Fn} {l : List Iw} (h1 : PgOK Y ⟨[], [⟨f, [], l⟩], 0⟩ ⟨none, 0, f1, t1⟩) (hl : l.map Iw.x = [hi1]) (hf : f.cn = 1) (hw : PrW Y) :
    Calls Tryz.prog 9 #[.agg #[.slice none 0 0, .slice f1 1 t1, .int .i64 0]] Y fun e w' => e = .returned (.int .i64 130) ∧ Below Y.heap.size Y w' := by
  have h := check_c h1 hw.forms hw.names hw.pos
  rw [short_check f l hl hf 0] at h
  exact h
theorem head_ints1 {Y : World} {v : Value} (h : IntSl Y v [0, 0]) :
    Calls Tryz.prog 17 #[v, .slice (some ⟨Y.heap.size, 0, none⟩) 2 2] (Y.alloc (.cells #[.int .i64 0, .int .i64 0] 3)) fun e w' => e = .returned (.bool true) ∧ Below Y.heap.size Y w' := by
  refine Calls.mono (ints_c (l := [0, 0]) (h.below (below1 _ _)) (ints_new Y 2 _ [0, 0] rfl fun i m hm => ?_) (by decide)) ?_
  · match i, hm with
    | 0, hm => obtain rfl := Option.some.inj hm; rfl
    | 1, hm => obtain rfl := Option.some.inj hm; rfl
  · rintro e w' ⟨rfl, hb⟩
    exact ⟨rfl, (below1 _ _).trans (hb.mono (below1 _ _).size)⟩
theorem head_ints2 {Y : World} {v : Value} (h : IntSl Y v [1]) :
    Calls Tryz.prog 17 #[v, .slice (some ⟨Y.heap.size, 0, none⟩) 1 1] (Y.alloc (.cells #[.int .i64 1] 3)) fun e w' => e = .returned (.bool true) ∧ Below Y.heap.size Y w' := by
  refine Calls.mono (ints_c (l := [1]) (h.below (below1 _ _)) (ints_new Y 1 _ [1] rfl fun i m hm => ?_) (by decide)) ?_
  · match i, hm with
    | 0, hm => obtain rfl := Option.some.inj hm; rfl
  · rintro e w' ⟨rfl, hb⟩
    exact ⟨rfl, (below1 _ _).trans (hb.mono (below1 _ _).size)⟩
end Go.Proofs.YtaaphipbkpjkjaaGreatDoor
