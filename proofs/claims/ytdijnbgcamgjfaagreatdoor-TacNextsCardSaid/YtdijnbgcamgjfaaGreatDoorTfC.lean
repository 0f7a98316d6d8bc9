/-
  Programs that came in: slots, functions, relocations, objects: what they hold, and how great they are.
-/
import Derived.Test.YtdijnbgcamgjfaaGreatDoorTfA
namespace Go.Proofs.YtdijnbgcamgjfaaGreatDoor
open Go.ChangeShapes Go.WideShapes Go.ChangeAt Go.RowKit
set_option linter.unusedVariables false
set_option linter.unusedSimpArgs false
set_option maxRecDepth 100000
section
variable {H : Type}
instance : Inhabited Slt := ⟨⟨0, 0⟩⟩
instance : Inhabited Rl := ⟨⟨0, 0, 0⟩⟩
instance : Inhabited Fg := ⟨⟨⟨⟨#[]⟩, 0, 0, false, none, 0, 0, none, 0, 0⟩, [], []⟩⟩
instance : Inhabited Og := ⟨⟨⟨⟨#[]⟩, 0, 0, none, 0, 0, none, 0, 0⟩, [], []⟩⟩
/-- A slice's reading, by its elements. -/
def SlE {α : Type} (l : List α) (E : α → DataW H → Prop) (d : DataW H) : Prop := (d = .nil ∧ l = []) ∨ ∃ ds rest, d = .slice ds rest ∧ ds.length = l.length ∧ ∀ (i : Nat) (a : α), l[i]? = some a → ∃ d, ds[i]? = some d ∧ E a d
def TrueE {α : Type} (a : α) (d : DataW H) : Prop := True
structure FgE (w : World) (q : Fg) (d : DataW H) : Prop where
  dat : ∃ sd cd, d = .agg [.lit (.string q.f.nm.data.toList), .lit (.int .i64 q.f.pr), .lit (.int .i64 q.f.tp), .lit (.bool q.f.gv), sd, cd] ∧ SlE q.sls TrueE sd ∧ SlE q.code (IwE w) cd
  nm : q.f.nm.size ≤ maxLen
  sn : q.f.sn = q.sls.length
  cn : q.f.cn = q.code.length
  sl : RowV slC 2 w q.f.sp q.f.sc q.sls
  cr : RowV iwC 12 w q.f.cp q.f.cc q.code
  pr : I64' q.f.pr
  tp : I64' q.f.tp
  ss : ∀ s ∈ q.sls, I64' s.size ∧ I64' s.align
structure OgE (w : World) (q : Og) (d : DataW H) : Prop where
  dat : ∃ bd rd, d = .agg [.lit (.string q.o.nm.data.toList), .lit (.int .i64 q.o.size), .lit (.int .i64 q.o.align), .agg [bd, rd]] ∧ SlE q.bs TrueE bd ∧ SlE q.rls TrueE rd
  nm : q.o.nm.size ≤ maxLen
  bn : q.o.bn = q.bs.length
  rn : q.o.rn = q.rls.length
  br : RowV byC 1 w q.o.bp q.o.bc q.bs
  rr : RowV rlC 3 w q.o.rp q.o.rc q.rls
  si : I64' q.o.size
  al : I64' q.o.align
/-- What is asked of a function that came in, and of a program. -/
structure FgG (w : World) (q : Fg) : Prop where
  ok : FgOK w q
  ins : ∀ i ∈ q.code, IwG w i
  cl : q.code.length ≤ 100000000000000
  pr : I64' q.f.pr
  tp : I64' q.f.tp
structure PgG (w : World) (x : Pg) (a : Pw) : Prop where
  ok : PgOK w x a
  fs : ∀ q ∈ x.fns, FgG w q
  fl : x.fns.length ≤ 100000000000000
  mn : I64' x.mn
end
theorem ce_bytes : Tryz.prog.cellsOf 67 = 1 := by kernel_rfl
theorem by_byte : Tryz.prog.bytesOf 5 = 1 := by kernel_rfl
section
variable {H : Type} {enc : TypeId × Value → H} {w : World} {base : Nat} {spare : Nat → Bool} {held : Bool}
theorem open_slot {fuel : Nat} {cs : List Value} {x : DataW H × List MemPlace} (h : DataW.trod enc Tryz.prog w base spare held fuel 94 cs = some x) :
    ∃ a : Slt, cs = slC a ∧ (I64' a.size ∧ I64' a.align) := by
  obtain ⟨xs, n, rfl, rfl, hl, hlen, hf⟩ := DataW.trod_struct Tryz.underlying94 h
  rw [cs_slot] at hl
  have f0 : DataW.trod enc Tryz.prog w base spare held n 3 ((cs.drop 0).take (Tryz.prog.cellsOf 3)) = xs[0]? := hf 0 _ rfl
  rw [ce_int] at f0
  have f1 : DataW.trod enc Tryz.prog w base spare held n 3 ((cs.drop 1).take (Tryz.prog.cellsOf 3)) = xs[1]? := hf 1 _ rfl
  rw [ce_int] at f1
  obtain ⟨z0, z1, rfl⟩ := li2 hl
  obtain ⟨y0, y1, rfl⟩ := li2 hlen
  simp only [List.drop_zero, List.drop_succ_cons, List.take_succ_cons, List.take_zero, List.getElem?_cons_zero, List.getElem?_cons_succ] at f0 f1
  obtain ⟨k0, e0, d0, w0⟩ := DataW.trod_int Tryz.underlying3 f0
  obtain ⟨k1, e1, d1, w1⟩ := DataW.trod_int Tryz.underlying3 f1
  cases e0; cases e1
  subst d0 d1
  exact ⟨⟨k0, k1⟩, rfl, bounds_i64 w0, bounds_i64 w1⟩
theorem open_rel {fuel : Nat} {cs : List Value} {x : DataW H × List MemPlace} (h : DataW.trod enc Tryz.prog w base spare held fuel 78 cs = some x) :
    ∃ a : Rl, cs = rlC a ∧ True := by
  obtain ⟨xs, n, rfl, rfl, hl, hlen, hf⟩ := DataW.trod_struct Tryz.underlying78 h
  rw [cs_rel] at hl
  have f0 : DataW.trod enc Tryz.prog w base spare held n 3 ((cs.drop 0).take (Tryz.prog.cellsOf 3)) = xs[0]? := hf 0 _ rfl
  rw [ce_int] at f0
  have f1 : DataW.trod enc Tryz.prog w base spare held n 3 ((cs.drop 1).take (Tryz.prog.cellsOf 3)) = xs[1]? := hf 1 _ rfl
  rw [ce_int] at f1
  have f2 : DataW.trod enc Tryz.prog w base spare held n 3 ((cs.drop 2).take (Tryz.prog.cellsOf 3)) = xs[2]? := hf 2 _ rfl
  rw [ce_int] at f2
  obtain ⟨z0, z1, z2, rfl⟩ := li3 hl
  obtain ⟨y0, y1, y2, rfl⟩ := li3 hlen
  simp only [List.drop_zero, List.drop_succ_cons, List.take_succ_cons, List.take_zero, List.getElem?_cons_zero, List.getElem?_cons_succ] at f0 f1 f2
  obtain ⟨k0, e0, d0, w0⟩ := DataW.trod_int Tryz.underlying3 f0
  obtain ⟨k1, e1, d1, w1⟩ := DataW.trod_int Tryz.underlying3 f1
  obtain ⟨k2, e2, d2, w2⟩ := DataW.trod_int Tryz.underlying3 f2
  cases e0; cases e1; cases e2
  subst d0 d1 d2
  exact ⟨⟨k0, k1, k2⟩, rfl, trivial⟩
theorem open_byte {fuel : Nat} {cs : List Value} {x : DataW H × List MemPlace} (h : DataW.trod enc Tryz.prog w base spare held fuel 5 cs = some x) :
    ∃ a : UInt8, cs = byC a ∧ True := by
  obtain ⟨n, e0, d0, w0⟩ := DataW.trod_int Tryz.underlying5 h
  have hb := bounds_u8 w0
  refine ⟨UInt8.ofNat n.toNat, ?_, trivial⟩
  rw [e0]
  have : ((UInt8.ofNat n.toNat).toNat : Int) = n := by
    simp only [UInt8.toNat_ofNat']
    have h1 : n.toNat < 256 := by omega
    rw [Nat.mod_eq_of_lt h1]
    omega
  show [Value.int .u8 n] = [Value.int .u8 _]
  rw [this]
theorem open_slots {fuel : Nat} {cs : List Value} {x : DataW H × List MemPlace} (h : DataW.trod enc Tryz.prog w base spare held fuel 29 cs = some x) :
    ∃ p cap, ∃ l : List Slt, cs = [.slice p l.length cap] ∧ RowV slC 2 w p cap l ∧ SlE l (fun (a : Slt) _ => I64' a.size ∧ I64' a.align) x.1 :=
  open_sl (E := fun (a : Slt) _ => I64' a.size ∧ I64' a.align) Tryz.underlying29 cs_slot (by decide) (fun a => rfl) (fun _ _ _ h => open_slot h) h
theorem open_relocs {fuel : Nat} {cs : List Value} {x : DataW H × List MemPlace} (h : DataW.trod enc Tryz.prog w base spare held fuel 68 cs = some x) :
    ∃ p cap, ∃ l : List Rl, cs = [.slice p l.length cap] ∧ RowV rlC 3 w p cap l ∧ SlE l TrueE x.1 :=
  open_sl (E := TrueE) Tryz.underlying68 cs_rel (by decide) (fun a => rfl) (fun _ _ _ h => open_rel h) h
theorem ce_byte1 : Tryz.prog.cellsOf 5 = 1 := by kernel_rfl
theorem open_bytes {fuel : Nat} {cs : List Value} {x : DataW H × List MemPlace} (h : DataW.trod enc Tryz.prog w base spare held fuel 67 cs = some x) :
    ∃ p cap, ∃ l : List UInt8, cs = [.slice p l.length cap] ∧ RowV byC 1 w p cap l ∧ SlE l TrueE x.1 :=
  open_sl (E := TrueE) Tryz.underlying67 ce_byte1 (by decide) (fun a => rfl) (fun _ _ _ h => open_byte h) h
theorem SlE.all {α : Type} {l : List α} {E : α → DataW H → Prop} {d : DataW H} (h : SlE l E d) {P : α → Prop} (hE : ∀ a d, E a d → P a) : ∀ a ∈ l, P a := fun a ha => by
  rcases h with ⟨_, rfl⟩ | ⟨ds, rest, _, _, hd⟩
  · cases ha
  · obtain ⟨i, hi⟩ := List.mem_iff_getElem?.1 ha
    obtain ⟨d, _, hE'⟩ := hd i a hi
    exact hE a d hE'
theorem SlE.imp {α : Type} {l : List α} {E F : α → DataW H → Prop} {d : DataW H} (h : SlE l E d) (hE : ∀ a d, E a d → F a d) : SlE l F d := by
  rcases h with h | ⟨ds, rest, h1, h2, h3⟩
  · exact Or.inl h
  · exact Or.inr ⟨ds, rest, h1, h2, fun i a ha => by obtain ⟨d, hd, he⟩ := h3 i a ha; exact ⟨d, hd, hE _ _ he⟩⟩
theorem open_func {fuel : Nat} {cs : List Value} {x : DataW H × List MemPlace} (h : DataW.trod enc Tryz.prog w base spare held fuel 32 cs = some x) :
    ∃ q : Fg, cs = fgC q ∧ FgE w q x.1 := by
  obtain ⟨xs, n, rfl, rfl, hl, hlen, hf⟩ := DataW.trod_struct Tryz.underlying32 h
  rw [cs_func] at hl
  have f0 : DataW.trod enc Tryz.prog w base spare held n 9 ((cs.drop 0).take (Tryz.prog.cellsOf 9)) = xs[0]? := hf 0 _ rfl
  rw [ce_str] at f0
  have f1 : DataW.trod enc Tryz.prog w base spare held n 3 ((cs.drop 1).take (Tryz.prog.cellsOf 3)) = xs[1]? := hf 1 _ rfl
  rw [ce_int] at f1
  have f2 : DataW.trod enc Tryz.prog w base spare held n 3 ((cs.drop 2).take (Tryz.prog.cellsOf 3)) = xs[2]? := hf 2 _ rfl
  rw [ce_int] at f2
  have f3 : DataW.trod enc Tryz.prog w base spare held n 4 ((cs.drop 3).take (Tryz.prog.cellsOf 4)) = xs[3]? := hf 3 _ rfl
  rw [ce_bool] at f3
  have f4 : DataW.trod enc Tryz.prog w base spare held n 29 ((cs.drop 4).take (Tryz.prog.cellsOf 29)) = xs[4]? := hf 4 _ rfl
  rw [ce_slots] at f4
  have f5 : DataW.trod enc Tryz.prog w base spare held n TIns ((cs.drop 5).take (Tryz.prog.cellsOf TIns)) = xs[5]? := hf 5 _ rfl
  rw [ce_code] at f5
  obtain ⟨z0, z1, z2, z3, z4, z5, rfl⟩ := li6 hl
  obtain ⟨y0, y1, y2, y3, y4, y5, rfl⟩ := li6 hlen
  simp only [List.drop_zero, List.drop_succ_cons, List.take_succ_cons, List.take_zero, List.getElem?_cons_zero, List.getElem?_cons_succ] at f0 f1 f2 f3 f4 f5
  obtain ⟨k0, e0, d0, w0⟩ := DataW.trod_string Tryz.underlying9 f0
  obtain ⟨k1, e1, d1, w1⟩ := DataW.trod_int Tryz.underlying3 f1
  obtain ⟨k2, e2, d2, w2⟩ := DataW.trod_int Tryz.underlying3 f2
  obtain ⟨k3, e3, d3⟩ := DataW.trod_bool Tryz.underlying4 f3
  obtain ⟨p4, c4, l4, e4, R4, E4⟩ := open_slots f4
  obtain ⟨p5, c5, l5, e5, R5, E5⟩ := open_code f5
  cases e0; cases e1; cases e2; cases e3; cases e4; cases e5
  subst d0 d1 d2 d3
  exact ⟨⟨⟨k0, k1, k2, k3, p4, l4.length, c4, p5, l5.length, c5⟩, l4, l5⟩, rfl, ⟨y4.1, y5.1, rfl, SlE.imp E4 (fun _ _ _ => trivial), E5⟩, w0, rfl, rfl, R4, R5, bounds_i64 w1, bounds_i64 w2, SlE.all E4 (fun _ _ h => h)⟩
theorem open_dat {fuel : Nat} {cs : List Value} {x : DataW H × List MemPlace} (h : DataW.trod enc Tryz.prog w base spare held fuel 70 cs = some x) :
    ∃ q : Option Addr × List UInt8 × Nat × Option Addr × List Rl × Nat, cs = [.slice q.1 q.2.1.length q.2.2.1, .slice q.2.2.2.1 q.2.2.2.2.1.length q.2.2.2.2.2] ∧ (RowV byC 1 w q.1 q.2.2.1 q.2.1 ∧ RowV rlC 3 w q.2.2.2.1 q.2.2.2.2.2 q.2.2.2.2.1 ∧ ∃ bd rd, x.1 = .agg [bd, rd] ∧ SlE q.2.1 TrueE bd ∧ SlE q.2.2.2.2.1 TrueE rd) := by
  obtain ⟨xs, n, rfl, rfl, hl, hlen, hf⟩ := DataW.trod_struct Tryz.underlying70 h
  rw [cs_dat] at hl
  have f0 : DataW.trod enc Tryz.prog w base spare held n 67 ((cs.drop 0).take (Tryz.prog.cellsOf 67)) = xs[0]? := hf 0 _ rfl
  rw [ce_bytes] at f0
  have f1 : DataW.trod enc Tryz.prog w base spare held n 68 ((cs.drop 1).take (Tryz.prog.cellsOf 68)) = xs[1]? := hf 1 _ rfl
  rw [ce_relocs] at f1
  obtain ⟨z0, z1, rfl⟩ := li2 hl
  obtain ⟨y0, y1, rfl⟩ := li2 hlen
  simp only [List.drop_zero, List.drop_succ_cons, List.take_succ_cons, List.take_zero, List.getElem?_cons_zero, List.getElem?_cons_succ] at f0 f1
  obtain ⟨p0, c0, l0, e0, R0, E0⟩ := open_bytes f0
  obtain ⟨p1, c1, l1, e1, R1, E1⟩ := open_relocs f1
  cases e0; cases e1
  exact ⟨(p0, l0, c0, p1, l1, c1), rfl, R0, R1, y0.1, y1.1, rfl, E0, E1⟩
theorem open_obj {fuel : Nat} {cs : List Value} {x : DataW H × List MemPlace} (h : DataW.trod enc Tryz.prog w base spare held fuel 72 cs = some x) :
    ∃ q : Og, cs = ogC q ∧ OgE w q x.1 := by
  obtain ⟨xs, n, rfl, rfl, hl, hlen, hf⟩ := DataW.trod_struct Tryz.underlying72 h
  rw [cs_obj] at hl
  have f0 : DataW.trod enc Tryz.prog w base spare held n 9 ((cs.drop 0).take (Tryz.prog.cellsOf 9)) = xs[0]? := hf 0 _ rfl
  rw [ce_str] at f0
  have f1 : DataW.trod enc Tryz.prog w base spare held n 3 ((cs.drop 1).take (Tryz.prog.cellsOf 3)) = xs[1]? := hf 1 _ rfl
  rw [ce_int] at f1
  have f2 : DataW.trod enc Tryz.prog w base spare held n 3 ((cs.drop 2).take (Tryz.prog.cellsOf 3)) = xs[2]? := hf 2 _ rfl
  rw [ce_int] at f2
  have f3 : DataW.trod enc Tryz.prog w base spare held n 70 ((cs.drop 3).take (Tryz.prog.cellsOf 70)) = xs[3]? := hf 3 _ rfl
  rw [ce_data] at f3
  obtain ⟨z0, z1, z2, z3, z4, rfl⟩ := li5 hl
  obtain ⟨y0, y1, y2, y3, rfl⟩ := li4 hlen
  simp only [List.drop_zero, List.drop_succ_cons, List.take_succ_cons, List.take_zero, List.getElem?_cons_zero, List.getElem?_cons_succ] at f0 f1 f2 f3
  obtain ⟨k0, e0, d0, w0⟩ := DataW.trod_string Tryz.underlying9 f0
  obtain ⟨k1, e1, d1, w1⟩ := DataW.trod_int Tryz.underlying3 f1
  obtain ⟨k2, e2, d2, w2⟩ := DataW.trod_int Tryz.underlying3 f2
  obtain ⟨u3, e3, E3⟩ := open_dat f3
  cases e0; cases e1; cases e2; cases e3
  subst d0 d1 d2
  obtain ⟨bp, bl, bc, rp, rl, rc⟩ := u3
  obtain ⟨R1, R2, bd, rd, hx, hb, hr⟩ := E3
  exact ⟨⟨⟨k0, k1, k2, bp, bl.length, bc, rp, rl.length, rc⟩, bl, rl⟩, rfl, ⟨bd, rd, by show DataW.agg [_, _, _, y3.1] = _; rw [hx], hb, hr⟩, w0, rfl, rfl, R1, R2, bounds_i64 w1, bounds_i64 w2⟩
theorem open_fns {fuel : Nat} {cs : List Value} {x : DataW H × List MemPlace} (h : DataW.trod enc Tryz.prog w base spare held fuel 23 cs = some x) :
    ∃ p cap, ∃ l : List Fg, cs = [.slice p l.length cap] ∧ RowV fgC 6 w p cap l ∧ SlE l (FgE w) x.1 :=
  open_sl (E := FgE w) Tryz.underlying23 cs_func (by decide) (fun a => rfl) (fun _ _ _ h => open_func h) h
theorem open_objs {fuel : Nat} {cs : List Value} {x : DataW H × List MemPlace} (h : DataW.trod enc Tryz.prog w base spare held fuel 22 cs = some x) :
    ∃ p cap, ∃ l : List Og, cs = [.slice p l.length cap] ∧ RowV ogC 5 w p cap l ∧ SlE l (OgE w) x.1 :=
  open_sl (E := OgE w) Tryz.underlying22 cs_obj (by decide) (fun a => rfl) (fun _ _ _ h => open_obj h) h
theorem open_prog {fuel : Nat} {cs : List Value} {x : DataW H × List MemPlace} (h : DataW.trod enc Tryz.prog w base spare held fuel 25 cs = some x) :
    ∃ (y : Pg) (a : Pw), cs = [.slice a.op y.obs.length a.oc, .slice a.fp y.fns.length a.fc, .int .i64 y.mn] ∧ RowV ogC 5 w a.op a.oc y.obs ∧ RowV fgC 6 w a.fp a.fc y.fns ∧ I64' y.mn ∧ ∃ od fd, x.1 = .agg [od, fd, .lit (.int .i64 y.mn)] ∧ SlE y.obs (OgE w) od ∧ SlE y.fns (FgE w) fd := by
  obtain ⟨xs, n, rfl, rfl, hl, hlen, hf⟩ := DataW.trod_struct Tryz.underlying25 h
  rw [cs_prog] at hl
  have f0 : DataW.trod enc Tryz.prog w base spare held n 22 ((cs.drop 0).take (Tryz.prog.cellsOf 22)) = xs[0]? := hf 0 _ rfl
  rw [ce_objs] at f0
  have f1 : DataW.trod enc Tryz.prog w base spare held n 23 ((cs.drop 1).take (Tryz.prog.cellsOf 23)) = xs[1]? := hf 1 _ rfl
  rw [ce_fns] at f1
  have f2 : DataW.trod enc Tryz.prog w base spare held n 3 ((cs.drop 2).take (Tryz.prog.cellsOf 3)) = xs[2]? := hf 2 _ rfl
  rw [ce_int] at f2
  obtain ⟨z0, z1, z2, rfl⟩ := li3 hl
  obtain ⟨y0, y1, y2, rfl⟩ := li3 hlen
  simp only [List.drop_zero, List.drop_succ_cons, List.take_succ_cons, List.take_zero, List.getElem?_cons_zero, List.getElem?_cons_succ] at f0 f1 f2
  obtain ⟨p0, c0, l0, e0, R0, E0⟩ := open_objs f0
  obtain ⟨p1, c1, l1, e1, R1, E1⟩ := open_fns f1
  obtain ⟨k2, e2, d2, w2⟩ := DataW.trod_int Tryz.underlying3 f2
  cases e0; cases e1; cases e2
  subst d2
  exact ⟨⟨l0, l1, k2⟩, ⟨p0, c0, p1, c1⟩, rfl, R0, R1, bounds_i64 w2, y0.1, y1.1, rfl, E0, E1⟩
theorem all_part {t : TypeId} {l : List (DataW H)} {e : TypeId} {d : DataW H} (hd : ∀ x ∈ d.weights Tryz.prog e, x ∈ (DataW.agg l).weights Tryz.prog t) (h : ((DataW.agg l).weights Tryz.prog t).all (· ≤ reachBytes) = true) : (d.weights Tryz.prog e).all (· ≤ reachBytes) = true := by
  rw [List.all_eq_true] at h ⊢
  exact fun x hx => h x (hd x hx)
theorem slE_sized {α : Type} {l : List α} {E : α → DataW H → Prop} {d : DataW H} {t e : TypeId} {b : Nat} (ht : Tryz.prog.underlying t = some (.slice e)) (hb : Tryz.prog.bytesOf e = b) (hd : SlE l E d) (h : (d.weights Tryz.prog t).all (· ≤ reachBytes) = true) :
    l.length * b ≤ reachBytes ∧ ∀ a ∈ l, ∃ d, E a d ∧ (d.weights Tryz.prog e).all (· ≤ reachBytes) = true := by
  rcases hd with ⟨rfl, rfl⟩ | ⟨ds, rest, rfl, hl, he⟩
  · exact ⟨by simp, fun q hq => (by cases hq)⟩
  obtain ⟨h1, h2⟩ := sl_sized ht hb h
  refine ⟨hl ▸ h1, fun q hq => ?_⟩
  obtain ⟨i, hi⟩ := List.mem_iff_getElem?.1 hq
  obtain ⟨d, hd, hE⟩ := he i q hi
  exact ⟨d, hE, h2 d (List.mem_of_getElem? hd)⟩
theorem func_sized {q : Fg} {d : DataW H} (hE : FgE w q d) (h : (d.weights Tryz.prog 32).all (· ≤ reachBytes) = true) : FgG w q := by
  obtain ⟨sd, cd, rfl, hs, hc⟩ := hE.dat
  have hu := Tryz.underlying32
  have h1 := all_part (d := sd) (e := 29) (fun x hx => by
    simp only [DataW.weights, hu]
    simp only [DataW.weightsEach, List.map_cons, List.mem_append, List.map_nil]
    simp [hx]) h
  have h2 := all_part (d := cd) (e := 30) (fun x hx => by
    simp only [DataW.weights, hu]
    simp only [DataW.weightsEach, List.map_cons, List.mem_append, List.map_nil]
    simp [hx]) h
  have s1 := (slE_sized Tryz.underlying29 by_slot hs h1).1
  obtain ⟨s2, s3⟩ := code_sized hc h2
  simp only [reachBytes] at s1 s2
  exact ⟨⟨hE.nm, hE.sl, hE.sn, by omega, hE.cr, hE.cn, by omega, fun i hi => (s3 i hi).ok⟩, s3, by omega, hE.pr, hE.tp⟩
theorem obj_sized {q : Og} {d : DataW H} (hE : OgE w q d) (h : (d.weights Tryz.prog 72).all (· ≤ reachBytes) = true) : OgOK w q := by
  obtain ⟨bd, rd, rfl, hb, hr⟩ := hE.dat
  have hu := Tryz.underlying72
  have hu2 := Tryz.underlying70
  have h1 := all_part (d := bd) (e := 67) (fun x hx => by
    simp only [DataW.weights, hu]
    simp only [DataW.weightsEach, List.map_cons, List.mem_append, List.map_nil]
    simp only [DataW.weights, hu2]
    simp only [DataW.weightsEach, List.map_cons, List.mem_append, List.map_nil]
    simp [hx]) h
  have h2 := all_part (d := rd) (e := 68) (fun x hx => by
    simp only [DataW.weights, hu]
    simp only [DataW.weightsEach, List.map_cons, List.mem_append, List.map_nil]
    simp only [DataW.weights, hu2]
    simp only [DataW.weightsEach, List.map_cons, List.mem_append, List.map_nil]
    simp [hx]) h
  have s1 := (slE_sized Tryz.underlying67 by_byte hb h1).1
  have s2 := (slE_sized Tryz.underlying68 by_rel hr h2).1
  have s3 := hE.nm
  simp only [reachBytes] at s1 s2
  unfold maxLen at s3
  exact ⟨by omega, hE.bn, hE.rn, by omega, by omega, hE.br, hE.rr⟩
theorem prog_arg {W0 : World} {cs : Array Value} {d : DataW H} {ps : List MemPlace} (h : DataW.Trod enc Tryz.prog W0 base spare held 25 (.agg cs) d ps) (hcs : (Value.agg cs).cells = cs) (hw : (d.weights Tryz.prog 25).all (· ≤ reachBytes) = true) :
    ∃ (x : Pg) (a : Pw), Value.agg cs = pgV x a ∧ PgG W0 x a := by
  obtain ⟨n, hn⟩ := h
  obtain ⟨y, a, e, hO, hF, hm, od, fd, hx, ho, hf⟩ := open_prog hn
  simp only at hx
  subst hx
  have hu := Tryz.underlying25
  have h1 := all_part (d := od) (e := 22) (fun x hx => by
    simp only [DataW.weights, hu]
    simp only [DataW.weightsEach, List.map_cons, List.mem_append, List.map_nil]
    simp [hx]) hw
  have h2 := all_part (d := fd) (e := 23) (fun x hx => by
    simp only [DataW.weights, hu]
    simp only [DataW.weightsEach, List.map_cons, List.mem_append, List.map_nil]
    simp [hx]) hw
  obtain ⟨s1, s2⟩ := slE_sized Tryz.underlying22 by_obj ho h1
  obtain ⟨s3, s4⟩ := slE_sized Tryz.underlying23 by_func hf h2
  simp only [reachBytes] at s1 s3
  have hG : ∀ q ∈ y.fns, FgG W0 q := fun q hq => by obtain ⟨d, hE, hd⟩ := s4 q hq; exact func_sized hE hd
  refine ⟨y, a, ?_, ⟨hO, by omega, fun q hq => by obtain ⟨d, hE, hd⟩ := s2 q hq; exact obj_sized hE hd, hF, by omega, fun q hq => (hG q hq).ok⟩, hG, by omega, hm⟩
  rw [hcs] at e
  show Value.agg cs = Value.agg _
  congr 1
  exact Array.ext' e
end
end Go.Proofs.YtdijnbgcamgjfaaGreatDoor
