/- The line of a right instruction is its words. -/
import Derived.Test.YtelaaaamnphbpaaGreatDoorTjB
import Derived.Test.YtelaaaamnphbpaaGreatDoorKK
namespace Go.Proofs.YtelaaaamnphbpaaGreatDoor
set_option maxHeartbeats 4000000
open Go.RowKit Go.Maps
set_option linter.unusedVariables false
set_option linter.unusedSimpArgs false
set_option maxRecDepth 100000
structure GdI (x : In) : Prop where
 o1 : 1 ≤ x.op
 o2 : x.op ≤ 14
 d : Sm x.d
 a : ArOK x.a
 b : ArOK x.b
 n : Sm x.n
 off : Sm x.off
 wd : Sm x.width
 al : x.args.length ≤ 1000000
 ao : ∀ a ∈ x.args, ArOK a
def ln1 (x : In) : ByteArray := (((⟨#[109, 111, 118, 32]⟩ ++ tgtW x.d) ++ ⟨#[32]⟩) ++ argT x.a)
def ln2 (x : In) : ByteArray := (((((((opName x.bin) ++ ⟨#[32]⟩) ++ tgtW x.d) ++ ⟨#[32]⟩) ++ argT x.a) ++ ⟨#[32]⟩) ++ argT x.b)
def ln3 (x : In) : ByteArray := (((((⟨#[97, 100, 100, 114, 32]⟩ ++ tgtW x.d) ++ ⟨#[32]⟩) ++ decS x.n) ++ ⟨#[32]⟩) ++ decS x.off)
def ln4 (x : In) : ByteArray := (((((⟨#[103, 108, 111, 98, 32]⟩ ++ tgtW x.d) ++ ⟨#[32]⟩) ++ decS x.n) ++ ⟨#[32]⟩) ++ decS x.off)
def ln5 (x : In) : ByteArray := (if x.sg then (((((((⟨#[108, 111, 97, 100, 32]⟩ ++ tgtW x.d) ++ ⟨#[32]⟩) ++ argT x.a) ++ ⟨#[32]⟩) ++ decS x.off) ++ ⟨#[32]⟩) ++ decS x.width) ++ ⟨#[32, 115, 105, 103, 110, 101, 100]⟩ else (((((((⟨#[108, 111, 97, 100, 32]⟩ ++ tgtW x.d) ++ ⟨#[32]⟩) ++ argT x.a) ++ ⟨#[32]⟩) ++ decS x.off) ++ ⟨#[32]⟩) ++ decS x.width))
def ln6 (x : In) : ByteArray := (((((((⟨#[115, 116, 111, 114, 101, 32]⟩ ++ argT x.a) ++ ⟨#[32]⟩) ++ decS x.off) ++ ⟨#[32]⟩) ++ argT x.b) ++ ⟨#[32]⟩) ++ decS x.width)
def ln7 (x : In) : ByteArray := (((((((⟨#[99, 111, 112, 121, 32]⟩ ++ argT x.a) ++ ⟨#[32]⟩) ++ argT x.b) ++ ⟨#[32]⟩) ++ decS x.off) ++ ⟨#[32]⟩) ++ decS x.width)
def ln8 (x : In) : ByteArray := (callT (((⟨#[99, 97, 108, 108, 32]⟩ ++ tgtW x.d) ++ ⟨#[32]⟩) ++ decS x.n) x.args)
def ln9 (x : In) : ByteArray := (if (x.a.kind == 0 && x.a.n == 0) then ⟨#[114, 101, 116]⟩ else (⟨#[114, 101, 116, 32]⟩ ++ argT x.a))
def ln10 (x : In) : ByteArray := (⟨#[106, 117, 109, 112, 32]⟩ ++ decS x.n)
def ln11 (x : In) : ByteArray := (((⟨#[98, 114, 97, 110, 99, 104, 32]⟩ ++ argT x.a) ++ ⟨#[32]⟩) ++ decS x.n)
def ln12 (x : In) : ByteArray := (⟨#[112, 117, 116, 32]⟩ ++ argT x.a)
def ln13 (x : In) : ByteArray := (⟨#[103, 101, 116, 32]⟩ ++ tgtW x.d)
def ln14 (x : In) : ByteArray := (⟨#[101, 120, 105, 116, 32]⟩ ++ argT x.a)
def lnT (x : In) : ByteArray := if x.op = 1 then ln1 x else if x.op = 2 then ln2 x else if x.op = 3 then ln3 x else if x.op = 4 then ln4 x else if x.op = 5 then ln5 x else if x.op = 6 then ln6 x else if x.op = 7 then ln7 x else if x.op = 8 then ln8 x else if x.op = 9 then ln9 x else if x.op = 10 then ln10 x else if x.op = 11 then ln11 x else if x.op = 12 then ln12 x else if x.op = 13 then ln13 x else ln14 x
theorem mk_size (a : Array UInt8) : (ByteArray.mk a).size = a.size := rfl
theorem callT_size {l : List Ar} (h : ∀ a ∈ l, ArOK a) (s : ByteArray) : (callT s l).size ≤ s.size + 101 * l.length := by
 induction l generalizing s with
 | nil => show s.size ≤ s.size + 101 * 0; omega
 | cons a l ih =>
  have e : callT s (a :: l) = callT ((s ++ ⟨#[32]⟩) ++ argT a) l := rfl
  have h1 := ih (fun b hb => h b (List.mem_cons_of_mem _ hb)) ((s ++ ⟨#[32]⟩) ++ argT a)
  have h2 := argT_sz (h a List.mem_cons_self)
  have h3 : (⟨#[32]⟩ : ByteArray).size = 1 := rfl
  rw [e]
  simp only [ByteArray.size_append, h3, List.length_cons] at h1 ⊢
  omega
theorem ln1_size {x : In} (h : GdI x) : (ln1 x).size ≤ 200000000 := by
 have zd : (tgtW x.d).size ≤ 100 := tgtW_sm h.d
 have za : (argT x.a).size ≤ 100 := argT_sz h.a
 unfold ln1
 all_goals simp only [ByteArray.size_append, mk_size, List.size_toArray, List.length_cons, List.length_nil]
 all_goals omega
theorem ln2_size {x : In} (h : GdI x) : (ln2 x).size ≤ 200000000 := by
 have zn : (opName x.bin).size ≤ 100 := opName_sz x.bin
 have zd : (tgtW x.d).size ≤ 100 := tgtW_sm h.d
 have za : (argT x.a).size ≤ 100 := argT_sz h.a
 have zb : (argT x.b).size ≤ 100 := argT_sz h.b
 unfold ln2
 all_goals simp only [ByteArray.size_append, mk_size, List.size_toArray, List.length_cons, List.length_nil]
 all_goals omega
theorem ln3_size {x : In} (h : GdI x) : (ln3 x).size ≤ 200000000 := by
 have zd : (tgtW x.d).size ≤ 100 := tgtW_sm h.d
 have zN : (decS x.n).size ≤ 100 := decS_sm h.n
 have zO : (decS x.off).size ≤ 100 := decS_sm h.off
 unfold ln3
 all_goals simp only [ByteArray.size_append, mk_size, List.size_toArray, List.length_cons, List.length_nil]
 all_goals omega
theorem ln4_size {x : In} (h : GdI x) : (ln4 x).size ≤ 200000000 := by
 have zd : (tgtW x.d).size ≤ 100 := tgtW_sm h.d
 have zN : (decS x.n).size ≤ 100 := decS_sm h.n
 have zO : (decS x.off).size ≤ 100 := decS_sm h.off
 unfold ln4
 all_goals simp only [ByteArray.size_append, mk_size, List.size_toArray, List.length_cons, List.length_nil]
 all_goals omega
theorem ln5_size {x : In} (h : GdI x) : (ln5 x).size ≤ 200000000 := by
 have zd : (tgtW x.d).size ≤ 100 := tgtW_sm h.d
 have za : (argT x.a).size ≤ 100 := argT_sz h.a
 have zO : (decS x.off).size ≤ 100 := decS_sm h.off
 have zW : (decS x.width).size ≤ 100 := decS_sm h.wd
 unfold ln5
 split
 all_goals simp only [ByteArray.size_append, mk_size, List.size_toArray, List.length_cons, List.length_nil]
 all_goals omega
theorem ln6_size {x : In} (h : GdI x) : (ln6 x).size ≤ 200000000 := by
 have za : (argT x.a).size ≤ 100 := argT_sz h.a
 have zO : (decS x.off).size ≤ 100 := decS_sm h.off
 have zb : (argT x.b).size ≤ 100 := argT_sz h.b
 have zW : (decS x.width).size ≤ 100 := decS_sm h.wd
 unfold ln6
 all_goals simp only [ByteArray.size_append, mk_size, List.size_toArray, List.length_cons, List.length_nil]
 all_goals omega
theorem ln7_size {x : In} (h : GdI x) : (ln7 x).size ≤ 200000000 := by
 have za : (argT x.a).size ≤ 100 := argT_sz h.a
 have zb : (argT x.b).size ≤ 100 := argT_sz h.b
 have zO : (decS x.off).size ≤ 100 := decS_sm h.off
 have zW : (decS x.width).size ≤ 100 := decS_sm h.wd
 unfold ln7
 all_goals simp only [ByteArray.size_append, mk_size, List.size_toArray, List.length_cons, List.length_nil]
 all_goals omega
theorem ln8_size {x : In} (h : GdI x) : (ln8 x).size ≤ 200000000 := by
 have zd : (tgtW x.d).size ≤ 100 := tgtW_sm h.d
 have zN : (decS x.n).size ≤ 100 := decS_sm h.n
 have hc := callT_size (fun a ha => h.ao a ha) (l := x.args) (((⟨#[99, 97, 108, 108, 32]⟩ ++ tgtW x.d) ++ ⟨#[32]⟩) ++ decS x.n)
 have ha := h.al
 unfold ln8
 generalize callT _ _ = CT at *
 all_goals simp only [ByteArray.size_append, mk_size, List.size_toArray, List.length_cons, List.length_nil] at *
 all_goals omega
theorem ln9_size {x : In} (h : GdI x) : (ln9 x).size ≤ 200000000 := by
 have za : (argT x.a).size ≤ 100 := argT_sz h.a
 unfold ln9
 split
 all_goals simp only [ByteArray.size_append, mk_size, List.size_toArray, List.length_cons, List.length_nil]
 all_goals omega
theorem ln10_size {x : In} (h : GdI x) : (ln10 x).size ≤ 200000000 := by
 have zN : (decS x.n).size ≤ 100 := decS_sm h.n
 unfold ln10
 all_goals simp only [ByteArray.size_append, mk_size, List.size_toArray, List.length_cons, List.length_nil]
 all_goals omega
theorem ln11_size {x : In} (h : GdI x) : (ln11 x).size ≤ 200000000 := by
 have za : (argT x.a).size ≤ 100 := argT_sz h.a
 have zN : (decS x.n).size ≤ 100 := decS_sm h.n
 unfold ln11
 all_goals simp only [ByteArray.size_append, mk_size, List.size_toArray, List.length_cons, List.length_nil]
 all_goals omega
theorem ln12_size {x : In} (h : GdI x) : (ln12 x).size ≤ 200000000 := by
 have za : (argT x.a).size ≤ 100 := argT_sz h.a
 unfold ln12
 all_goals simp only [ByteArray.size_append, mk_size, List.size_toArray, List.length_cons, List.length_nil]
 all_goals omega
theorem ln13_size {x : In} (h : GdI x) : (ln13 x).size ≤ 200000000 := by
 have zd : (tgtW x.d).size ≤ 100 := tgtW_sm h.d
 unfold ln13
 all_goals simp only [ByteArray.size_append, mk_size, List.size_toArray, List.length_cons, List.length_nil]
 all_goals omega
theorem ln14_size {x : In} (h : GdI x) : (ln14 x).size ≤ 200000000 := by
 have za : (argT x.a).size ≤ 100 := argT_sz h.a
 unfold ln14
 all_goals simp only [ByteArray.size_append, mk_size, List.size_toArray, List.length_cons, List.length_nil]
 all_goals omega
theorem ite_sz {c : Prop} [Decidable c] {a b : ByteArray} {N : Nat} (ha : a.size ≤ N) (hb : b.size ≤ N) : (if c then a else b).size ≤ N := by
 by_cases h : c
 ·rw [if_pos h]; exact ha
 ·rw [if_neg h]; exact hb
theorem lnT_size {x : In} (h : GdI x) : (lnT x).size ≤ 200000000 := ite_sz (ln1_size h) (ite_sz (ln2_size h) (ite_sz (ln3_size h) (ite_sz (ln4_size h) (ite_sz (ln5_size h) (ite_sz (ln6_size h) (ite_sz (ln7_size h) (ite_sz (ln8_size h) (ite_sz (ln9_size h) (ite_sz (ln10_size h) (ite_sz (ln11_size h) (ite_sz (ln12_size h) (ite_sz (ln13_size h) (ln14_size h)))))))))))))
theorem rLine_c {x : In} (h : GdI x) {xp : Option Addr} {xc : Nat} (w : World) (hav : ArgV w (.slice xp x.args.length xc) x.args) :
 Calls Tryz.prog 66 #[.agg (inCells x (.slice xp x.args.length xc)).toArray] w fun e w' => e = .returned (.string (lnT x)) ∧ Below w.heap.size w w' := by
 obtain ⟨op, bin, d, ⟨ak, an⟩, ⟨bk, bn⟩, xn, off, wd, sg, args⟩ := x
 have h1 := h.o1
 have h2 := h.o2
 simp only at h1 h2
 have hop : op = 1 ∨ op = 2 ∨ op = 3 ∨ op = 4 ∨ op = 5 ∨ op = 6 ∨ op = 7 ∨ op = 8 ∨ op = 9 ∨ op = 10 ∨ op = 11 ∨ op = 12 ∨ op = 13 ∨ op = 14 := by omega
 clear h1 h2
 rcases hop with hop | hop | hop | hop | hop | hop | hop | hop | hop | hop | hop | hop | hop | hop
 ·subst hop
  exact rLine_1 (bin := bin) (d := d) (ak := ak) (an := an) (bk := bk) (bn := bn) (xn := xn) (off := off) (wd := wd) (sg := sg) (args := args) (xp := xp) (xc := xc) h.d h.a h.b h.n h.off h.wd w
 ·subst hop
  exact rLine_2 (bin := bin) (d := d) (ak := ak) (an := an) (bk := bk) (bn := bn) (xn := xn) (off := off) (wd := wd) (sg := sg) (args := args) (xp := xp) (xc := xc) h.d h.a h.b h.n h.off h.wd w
 ·subst hop
  exact rLine_3 (bin := bin) (d := d) (ak := ak) (an := an) (bk := bk) (bn := bn) (xn := xn) (off := off) (wd := wd) (sg := sg) (args := args) (xp := xp) (xc := xc) h.d h.a h.b h.n h.off h.wd w
 ·subst hop
  exact rLine_4 (bin := bin) (d := d) (ak := ak) (an := an) (bk := bk) (bn := bn) (xn := xn) (off := off) (wd := wd) (sg := sg) (args := args) (xp := xp) (xc := xc) h.d h.a h.b h.n h.off h.wd w
 ·subst hop
  exact rLine_5 (bin := bin) (d := d) (ak := ak) (an := an) (bk := bk) (bn := bn) (xn := xn) (off := off) (wd := wd) (sg := sg) (args := args) (xp := xp) (xc := xc) h.d h.a h.b h.n h.off h.wd w
 ·subst hop
  exact rLine_6 (bin := bin) (d := d) (ak := ak) (an := an) (bk := bk) (bn := bn) (xn := xn) (off := off) (wd := wd) (sg := sg) (args := args) (xp := xp) (xc := xc) h.d h.a h.b h.n h.off h.wd w
 ·subst hop
  exact rLine_7 (bin := bin) (d := d) (ak := ak) (an := an) (bk := bk) (bn := bn) (xn := xn) (off := off) (wd := wd) (sg := sg) (args := args) (xp := xp) (xc := xc) h.d h.a h.b h.n h.off h.wd w
 ·subst hop
  exact rLine_8 (bin := bin) (d := d) (ak := ak) (an := an) (bk := bk) (bn := bn) (xn := xn) (off := off) (wd := wd) (sg := sg) (args := args) (xp := xp) (xc := xc) h.d h.a h.b h.n h.off h.wd h.al h.ao w hav
 ·subst hop
  exact rLine_9 (bin := bin) (d := d) (ak := ak) (an := an) (bk := bk) (bn := bn) (xn := xn) (off := off) (wd := wd) (sg := sg) (args := args) (xp := xp) (xc := xc) h.d h.a h.b h.n h.off h.wd w
 ·subst hop
  exact rLine_10 (bin := bin) (d := d) (ak := ak) (an := an) (bk := bk) (bn := bn) (xn := xn) (off := off) (wd := wd) (sg := sg) (args := args) (xp := xp) (xc := xc) h.d h.a h.b h.n h.off h.wd w
 ·subst hop
  exact rLine_11 (bin := bin) (d := d) (ak := ak) (an := an) (bk := bk) (bn := bn) (xn := xn) (off := off) (wd := wd) (sg := sg) (args := args) (xp := xp) (xc := xc) h.d h.a h.b h.n h.off h.wd w
 ·subst hop
  exact rLine_12 (bin := bin) (d := d) (ak := ak) (an := an) (bk := bk) (bn := bn) (xn := xn) (off := off) (wd := wd) (sg := sg) (args := args) (xp := xp) (xc := xc) h.d h.a h.b h.n h.off h.wd w
 ·subst hop
  exact rLine_13 (bin := bin) (d := d) (ak := ak) (an := an) (bk := bk) (bn := bn) (xn := xn) (off := off) (wd := wd) (sg := sg) (args := args) (xp := xp) (xc := xc) h.d h.a h.b h.n h.off h.wd w
 ·subst hop
  exact rLine_14 (bin := bin) (d := d) (ak := ak) (an := an) (bk := bk) (bn := bn) (xn := xn) (off := off) (wd := wd) (sg := sg) (args := args) (xp := xp) (xc := xc) h.d h.a h.b h.n h.off h.wd w
def OwnS (B : Nat) (W : World) (p : Option Addr) (c : Nat) (L : List ByteArray) : Prop := W.ownsRow B TStr 1 (.slice p L.length c) L.length (stV L)
theorem OwnS.below {B : Nat} {W W' : World} {p : Option Addr} {c : Nat} {L : List ByteArray} (h : OwnS B W p c L) (hb : Below W.heap.size W W') : OwnS B W' p c L := ownsRow_turned h (Turned.of_below hb (fun _ => False)) (fun _ _ h => h)
theorem ownS_step {w w' : World} {W : World} {base : Nat} {L : List ByteArray} {p : Option Addr} {c : Nat} {t : ByteArray} {v' : Value} (hown : OwnS base w p c L) (hb : Below base W w) (hB : base ≤ w.heap.size) (h2 : w'.ownsRow base TStr 1 v' (L.length + 1) (stV L ++ [.string t])) (h3 : w.grownBy w' (Value.slice p L.length c).ownBlock) :
 ∃ p' c', v' = .slice p' (L.length + 1) c' ∧ OwnS base w' p' c' (L ++ [t]) ∧ Below base W w' ∧ ∀ (g : Nat) (cs : Array Value) (ty : TypeId), w.heap[g]? = some (.cells cs ty (0, 0)) → ty ≠ TStr → w'.heap[g]? = some (.cells cs ty (0, 0)) := by
 obtain ⟨p', c', rfl⟩ := slice_of_own h2
 refine ⟨p', c', rfl, ?_, below_grown hb hB h3 (fun g e => (ownsRow_at hown e).1), fun g cs ty hg ht => ?_⟩
 ·unfold OwnS
  have e1 : (L ++ [t]).length = L.length + 1 := by simp
  have e2 : stV (L ++ [t]) = stV L ++ [.string t] := by simp [stV]
  rw [e1, e2]
  exact h2
 ·refine (h3.block g (lt_of_heap hg) (fun e => ?_)).trans hg
  obtain ⟨_, cur, hcur⟩ := ownsRow_at hown e.symm
  rw [hcur] at hg
  injection hg with hg
  injection hg with _ e2
  exact ht e2.symm
theorem step_append_str {ops : Array Oper} {o : Oper} {a : Act} {w : World} {K : Act → World → Prop} {Q : Exit → Act → World → Prop} {E : Prop} (hgd : o.guard = none) (s x : Operand)
 (ho : o.op = .call { callee := .builtin .append, args := #[s, x], argTypes := #[83, 83] })
 (W : World) (base : Nat) (L : List ByteArray) (p : Option Addr) (c : Nat) (hs : a.eval s = .slice p L.length c) (hown : OwnS base w p c L) (hb : Below base W w) (hB : base ≤ w.heap.size) (t : ByteArray)
 (g cc : Nat) (hx : a.eval x = .slice (some ⟨g, 0, none⟩) 1 cc) (hnew : ∀ j u, [Value.string t][j]? = some u → w.cell? ((⟨g, 0, none⟩ : Addr).add j) = some u) (hl : L.length ≤ 1000000000)
 (h : ∀ p' c' w', OwnS base w' p' c' (L ++ [t]) → Below base W w' → (∀ (g : Nat) (cs : Array Value) (ty : TypeId), w.heap[g]? = some (.cells cs ty (0, 0)) → ty ≠ TStr → w'.heap[g]? = some (.cells cs ty (0, 0))) → K (a.put o.dst (.slice p' (L.length + 1) c')) w') :
 if Region.wanted o (yielded ops a.tmps) = true then Oper.wp Tryz.prog o a w K Q else E := by
 obtain ⟨i0, hi0, hz0, hz1, hz2⟩ := info_parts infoS
 refine step_append_own_at hgd s x 83 ho base TStr i0 (.string ⟨#[]⟩) 1 16 Tryz.underlying83 hi0 hz0 hz1 hz2 rfl (by decide) _ L.length (stV L) hs hown ⟨g, 0, none⟩ 1 cc [.string t] hx rfl hnew (by intro u hu; simp at hu; subst hu; rfl) (by unfold maxLen; omega) (by omega) hB ?_
 intro v' w' h2 h3 _ _
 obtain ⟨p', c', rfl, k1, k2, k3⟩ := ownS_step hown hb hB h2 h3
 exact h p' c' w' k1 k2 k3
end Go.Proofs.YtelaaaamnphbpaaGreatDoor
namespace Go.Proofs.YtelaaaamnphbpaaGreatDoor
set_option maxHeartbeats 4000000
open Go.RowKit Go.Maps
set_option linter.unusedVariables false
set_option linter.unusedSimpArgs false
set_option maxRecDepth 100000
theorem dtl (a b : ByteArray) : (a ++ b).data.toList = a.data.toList ++ b.data.toList := by
 have e : (ByteArray.append a b).data.toList = a.data.toList ++ b.data.toList := by simp
 exact e
structure Bd (tp : Int) (cn : Nat) (sls : List Slt) (obs : List Ob) (fns : List Fn) : Prop where
 tp : tp ≤ 4096
 cn : cn ≤ 16384
 sn : sls.length ≤ 256
 on : obs.length ≤ 256
 fn : fns.length ≤ 64
 ss : ∀ n, szS sls n ≤ 16384
 so : ∀ n, szO obs n ≤ 16384
 pr : ∀ f ∈ fns, f.pr ≤ 8
theorem operB_w {tp : Int} {a : Ar} (h : operB tp a = true) : opW a = [argT a] := by
 unfold operB at h
 unfold opW argT
 by_cases h1 : a.kind = 1
 ·rw [if_pos h1, if_pos h1]
 ·have h2 : a.kind = 2 := by simpa [h1] using h
  rw [if_neg h1, if_neg h1, if_pos h2, if_pos h2]
theorem operB_n {tp : Int} {a : Ar} (h : operB tp a = true) : (a.kind == 0 && a.n == 0) = false := by
 unfold operB at h
 by_cases h1 : a.kind = 0
 ·rw [h1] at h; simp at h
 ·simp [h1]
theorem opsW_map {tp : Int} : ∀ {l : List Ar}, l.all (operB tp) = true → opsW l = l.map argT
 | [], _ => rfl
 | a :: l, h => by
  simp only [List.all_cons, Bool.and_eq_true] at h
  have e : opsW (a :: l) = opW a ++ opsW l := rfl
  rw [e, operB_w h.1, opsW_map h.2]; rfl
theorem wT_tail : ∀ (l : List ByteArray) (i : Nat), 0 < i → wT i l = l.flatMap fun s => 32 :: s.data.toList
 | [], i, _ => rfl
 | a :: l, i, h => by
  have h0 : ¬ i = 0 := by omega
  simp only [wT, sepW, if_neg h0, wT_tail l (i + 1) (by omega), List.flatMap_cons]; rfl
theorem callT_tail : ∀ (l : List Ar) (s : ByteArray), (callT s l).data.toList = s.data.toList ++ (l.map argT).flatMap fun s => 32 :: s.data.toList
 | [], s => by show s.data.toList = s.data.toList ++ []; simp
 | a :: l, s => by
  have e : callT s (a :: l) = callT ((s ++ ⟨#[32]⟩) ++ argT a) l := rfl
  rw [e, callT_tail l, dtl, dtl]
  simp
theorem wT_append : ∀ (l r : List ByteArray) (i : Nat), wT i (l ++ r) = wT i l ++ wT (i + l.length) r
 | [], r, i => by simp [wT]
 | a :: l, r, i => by simp only [List.cons_append, wT, wT_append l r (i + 1), List.append_assoc, List.length_cons]; congr 3; omega
theorem right_text {tp : Int} {gv : Bool} {cn : Nat} {sls : List Slt} {obs : List Ob} {fns : List Fn} (B : Bd tp cn sls obs fns) {x : In} (ha : ArOK x.a) (hb : ArOK x.b) (hao : ∀ a ∈ x.args, ArOK a) (h : rightB tp gv cn sls obs fns x = true) : GdI x ∧ wT 0 (wordsP x) = (lnT x).data.toList := by
 obtain ⟨op, bin, d, ⟨ak, an⟩, ⟨bk, bn⟩, n, off, wd, sg, args⟩ := x
 have b1 := B.tp
 have b2 := B.cn
 have b3 := B.sn
 have b4 := B.on
 have b5 := B.fn
 have b6 := B.ss n
 have b7 := B.so n
 have wa := @operB_w tp ⟨ak, an⟩
 have wb := @operB_w tp ⟨bk, bn⟩
 have hop : op = 1 ∨ op = 2 ∨ op = 3 ∨ op = 4 ∨ op = 5 ∨ op = 6 ∨ op = 7 ∨ op = 8 ∨ op = 9 ∨ op = 10 ∨ op = 11 ∨ op = 12 ∨ op = 13 ∨ op = 14 := by
  apply Classical.byContradiction
  intro hn
  simp only [not_or] at hn
  obtain ⟨a1, a2, a3, a4, a5, a6, a7, a8, a9, a10, a11, a12, a13, a14⟩ := hn
  simp [rightB, holdsB, a1, a2, a3, a4, a5, a6, a7, a8, a9, a10, a11, a12, a13, a14] at h
 simp only [rightB, Bool.and_eq_true] at h
 obtain ⟨h1, h2⟩ := h
 rcases hop with rfl | rfl | rfl | rfl | rfl | rfl | rfl | rfl | rfl | rfl | rfl | rfl | rfl | rfl
 case' inr.inr.inr.inr.inr.inr.inr.inl =>
  simp [holdsB, withinP, callB, tempB] at h1
  obtain ⟨⟨n0, n1⟩, hf⟩ := h1
  obtain ⟨f, hfn⟩ : ∃ f, fns[n.toNat]? = some f := ⟨_, List.getElem?_eq_getElem (by omega)⟩
  rw [hfn] at hf
  simp only [Bool.and_eq_true, beq_iff_eq, Bool.or_eq_true, decide_eq_true_eq] at hf
  have b8 := B.pr f (List.mem_of_getElem? hfn)
  have hal : args.all (operB tp) = true := hf.2.1
  have h1 : ((args.length : Int) = f.pr ∧ (d = -1 ∨ 0 ≤ d ∧ d ≤ tp - 1)) ∧ 0 ≤ n ∧ n ≤ (fns.length : Int) - 1 := ⟨⟨hf.1, hf.2.2.imp id And.right⟩, n0, n1⟩
  have e : wordsP ⟨8, bin, d, ⟨ak, an⟩, ⟨bk, bn⟩, n, off, wd, sg, args⟩ = [⟨#[99, 97, 108, 108]⟩, tgtW d, decS n] ++ opsW args := by simp [wordsP, headW, wordTab, fldW, fieldTab, fwW]
  have e2 : wT 0 ([⟨#[99, 97, 108, 108]⟩, tgtW d, decS n] ++ opsW args) = (ln8 ⟨8, bin, d, ⟨ak, an⟩, ⟨bk, bn⟩, n, off, wd, sg, args⟩).data.toList := by
   rw [wT_append, opsW_map hal, wT_tail (args.map argT) _ (by simp)]
   unfold ln8
   rw [callT_tail, dtl, dtl, dtl]
   simp [wT, sepW]
  rw [← e] at e2
 case' inr.inr.inr.inr.inr.inr.inr.inr.inl =>
  have e2 : wT 0 (wordsP ⟨9, bin, d, ⟨ak, an⟩, ⟨bk, bn⟩, n, off, wd, sg, args⟩) = (ln9 ⟨9, bin, d, ⟨ak, an⟩, ⟨bk, bn⟩, n, off, wd, sg, args⟩).data.toList := by
   simp [holdsB] at h1
   unfold retB at h1
   unfold ln9
   by_cases hg : gv = true
   ·rw [if_pos hg] at h1
    have hq := operB_n h1
    simp only at hq
    simp [wordsP, headW, wordTab, fldW, fieldTab, fwW, wT, sepW, operB_w h1, hq, dtl]
   ·rw [if_neg hg] at h1
    have hq : ak = 0 ∧ an = 0 := by simpa using h1
    obtain ⟨rfl, rfl⟩ := hq
    simp [wordsP, headW, wordTab, fldW, fieldTab, fwW, wT, sepW, opW]
 all_goals simp [bareP, fieldsOf, fieldTab, clrS, clrI, bareB] at h2
 all_goals try simp [holdsB, tempB, withinP, reachB, widthB] at h1
 all_goals refine ⟨⟨by simp, by simp, ?_, ha, hb, ?_, ?_, ?_, ?_, hao⟩, ?_⟩
 all_goals first
  | exact e2
  | (constructor <;> (simp only; omega))
  | (simp only; omega)
  | (simp only [h2, List.length_nil]; omega)
  | (simp [lnT, ln1, ln2, ln3, ln4, ln6, ln7, ln10, ln11, ln12, ln13, ln14, wordsP, headW, wordTab, fldW, fieldTab, fwW, wT, sepW, dtl, wa, wb, h1]; done)
  | (cases sg <;> simp [lnT, ln5, wordsP, headW, wordTab, fldW, fieldTab, fwW, wT, sepW, dtl, wa, wb, h1])
end Go.Proofs.YtelaaaamnphbpaaGreatDoor