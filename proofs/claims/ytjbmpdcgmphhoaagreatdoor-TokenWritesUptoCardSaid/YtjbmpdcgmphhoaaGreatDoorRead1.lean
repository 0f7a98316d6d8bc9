/-
  What package token's readName, readNumber answer.
-/
import Derived.Test.YtjbmpdcgmphhoaaGreatDoorNum
import Derived.Laws.CopyOwn
namespace Go.Proofs.YtjbmpdcgmphhoaaGreatDoor
open Go.RowKit
set_option linter.unusedVariables false

theorem results_cell3 {fn : Func} {p u v : Tmp} {ty : TypeId} (h : fn.results = #[.cell p ty, .tmp u, .tmp v]) (tmps : Array Value) (P : Program) (w : World) :
    (results fn tmps).run P w =
      ((asAddr (tmps.getD p undef)).run P w).andThen fun a w₁ => ((loadVar ty a).run P w₁).andThen fun x w₂ => .ok (.tuple #[x, tmps.getD u undef, tmps.getD v undef]) w₂ := by
  simp only [results, h]
  simp [Sem.run_bind, Result.andThen]

theorem ret_tok {fn : Func} {R : Ending → World → Prop} {tmps : Array Value} {w : World} {g : Nat} {cs : Array Value}
    (hres : fn.results = #[.cell 2 35, .tmp 3, .tmp 4]) (hp : tmps.getD 2 undef = .pointer (some ⟨g, 0, none⟩)) (hg : w.heap[g]? = some (.cells cs 35 (0, 0))) (hcs : cs.size = 6)
    (hR : R (.returned (.tuple #[.agg cs, tmps.getD 3 undef, tmps.getD 4 undef])) w) : bodyPost Tryz.prog fn R .ret ⟨tmps, []⟩ w := by
  refine bodyPost_ret ?_ rfl hR
  have hl := run_loadVar_row (P := Tryz.prog) w g 35 35 cs (0, 0) _ hg Tryz.underlying35 rfl (by rw [hcs]; kernel_rfl)
  rw [results_cell3 hres]
  simp only [hp]
  simp [asAddr, Result.andThen, hl]

theorem step_store {P : Program} {t ty : TypeId} {p x : Operand} {pos : String} {af : Array Edge} {ops : Array Oper} {rest : List Oper} {tmps : Array Value} {w : World} {Q : Exit → Act → World → Prop} {g : Nat} {old cells : Array Value}
    (hg : w.heap[g]? = some (.cells old t (0, 0))) (hp : Act.eval ⟨tmps, []⟩ p = .pointer (some ⟨g, 0, none⟩)) (hx : Act.eval ⟨tmps, []⟩ x = .agg cells) (hi : (P.info? t).map (·.size) = some cells.size) (ho : old.size = cells.size)
    (h1 : cells.all (·.oneCell') = true) (k : wpList P ops Q rest ⟨tmps, []⟩ (w.setRow g cells)) : wpList P ops Q ({ dst := none, op := Op.store t p x, type := ty, pos := pos, after := af, guard := none } :: rest) ⟨tmps, []⟩ w :=
  wpList_plain rfl fun K hK => wp_store_row t p x rfl g cells hp hx t old hg hi ho h1 (hK _ _ k)

theorem heap_in1 (w : World) (A B : Obj) : ((w.alloc A).alloc B).heap[w.heap.size]? = some A := by
  show ((w.heap.push A).push B)[w.heap.size]? = some A
  simp [Array.getElem?_push]
theorem heap_in0 (w : World) (A : Obj) : (w.alloc A).heap[w.heap.size]? = some A := by
  show (w.heap.push A)[w.heap.size]? = some A
  simp

/-- A token without its spot. -/
def tokV (kind : Int) (text : ByteArray) (num : Int) : Value := .agg #[.int .i64 kind, .string text, .int .i64 num, .int .i64 0, .int .i64 0, .int .i64 0]
def noTok : Value := tokV 0 ⟨#[]⟩ 0

set_option maxRecDepth 100000 in
theorem readName_c (s : ByteArray) (w : World) (hs : s.size ≤ 140737488355328) :
    Calls Tryz.prog 38 #[.string s] w fun e w' => e = .returned (if 63 < runLen bName s.data.toList then .tuple #[noTok, .int .i64 0, .int .i64 22]
      else .tuple #[tokV (if isWord (s.data.toList.take (runLen bName s.data.toList)) then 2 else 1) (s.extract 0 (runLen bName s.data.toList)) 0, .int .i64 (runLen bName s.data.toList), .int .i64 0]) ∧ Below w.heap.size w w' := by
  have c1 := fun W => run_inName s W (by omega)
  have hn : runLen bName s.data.toList ≤ s.size := by have := runLen_le bName s.data.toList; simpa using this
  have c2 : ∀ W : World, Calls Tryz.prog 22 #[.string (s.extract 0 (runLen bName s.data.toList))] W fun e w' => e = .returned (.bool (isWord (s.data.toList.take (runLen bName s.data.toList)))) ∧ w' = W := fun W => by
    have hx : (s.extract 0 (runLen bName s.data.toList)).data.toList = s.data.toList.take (runLen bName s.data.toList) := by rw [extract_list]; simp
    have := word_c (s.extract 0 (runLen bName s.data.toList)) W
    rw [hx] at this; exact this
  generalize isWord (s.data.toList.take (runLen bName s.data.toList)) = iw at *
  generalize runLen bName s.data.toList = n at *
  by_cases hgt : 63 < n
  · rw [if_pos hgt]
    go_enter Tryz.func38, Tryz.ntmps38
    go_wp2_with (first | (go_at_call 32; refine (c1 _).mono ?_; rintro e w' ⟨rfl, rfl⟩) | (go_at_call 22; refine (c2 _).mono ?_; rintro e w' ⟨rfl, rfl⟩))
    refine ret_tok rfl rfl (heap_in0 _ _) rfl ⟨rfl, (Below.refl _ _).alloc (Nat.le_refl _) _⟩
  · rw [if_neg hgt]
    cases iw
    · go_enter Tryz.func38, Tryz.ntmps38
      go_wp2_with (first | (go_at_call 32; refine (c1 _).mono ?_; rintro e w' ⟨rfl, rfl⟩) | (go_at_call 22; refine (c2 _).mono ?_; rintro e w' ⟨rfl, rfl⟩))
      refine ret_tok rfl rfl (heap_in1 _ _ _) rfl ⟨rfl, ((Below.refl _ _).alloc (Nat.le_refl _) _).alloc (by simp) _⟩
    · go_enter Tryz.func38, Tryz.ntmps38
      go_wp2_with (first | (go_at_call 32; refine (c1 _).mono ?_; rintro e w' ⟨rfl, rfl⟩) | (go_at_call 22; refine (c2 _).mono ?_; rintro e w' ⟨rfl, rfl⟩))
      refine ret_tok rfl rfl (heap_in1 _ _ _) rfl ⟨rfl, ((Below.refl _ _).alloc (Nat.le_refl _) _).alloc (by simp) _⟩

theorem runLen_mem (p : Nat → Bool) : ∀ (l : List UInt8) (c : UInt8), c ∈ l.take (runLen p l) → p c.toNat = true
  | [], c, h => by simp [runLen] at h
  | d :: l, c, h => by
    by_cases hd : p d.toNat = true
    · rw [runLen, if_pos hd, List.take_succ_cons] at h
      rcases List.mem_cons.1 h with rfl | h
      · exact hd
      · exact runLen_mem p l c h
    · rw [runLen, if_neg hd] at h; simp at h
theorem bName_lt {n : Nat} (h : bName n = true) : n < 128 := by
  by_cases hn : n < 128
  · exact hn
  · have hd : bDigit n = 99 := by simp only [bDigit]; rw [if_neg (by omega), if_neg (by omega), if_neg (by omega)]
    simp [bName, bLetter, hd] at h
    omega

def nameOf (l : List UInt8) : List UInt8 := l.take (runLen bName l)

set_option maxRecDepth 100000 in
theorem readNumber_c (s : ByteArray) (w : World) (hs : s.size ≤ 140737488355328) (h0 : 0 < runLen bName s.data.toList) :
    Calls Tryz.prog 40 #[.string s] w fun e w' => e = .returned (if numOk (nameOf s.data.toList) then .tuple #[tokV 3 ⟨(numKind (nameOf s.data.toList)).toArray⟩ (numVal (nameOf s.data.toList)), .int .i64 (runLen bName s.data.toList), .int .i64 0]
      else .tuple #[noTok, .int .i64 0, .int .i64 21]) ∧ Below w.heap.size w w' := by
  have c1 := fun W => run_inName s W (by omega)
  have hn : runLen bName s.data.toList ≤ s.size := by have := runLen_le bName s.data.toList; simpa using this
  have hx : (s.extract 0 (runLen bName s.data.toList)).data.toList = nameOf s.data.toList := by rw [extract_list]; simp [nameOf]
  have c2 := fun W => number_c (s.extract 0 (runLen bName s.data.toList)) W (by simp; omega) (by simp; omega) (by rw [hx]; intro b hb; exact bName_lt (runLen_mem _ _ _ hb))
  rw [hx] at c2
  clear hx
  generalize nameOf s.data.toList = t at *
  have HOk : Hid (numOk t = (!(numLen t == 0 || !endOk (numEnd t)) && decide ((numVal t : Int) ≤ mostOf (numKind t)))) := rfl
  generalize runLen bName s.data.toList = n at *
  by_cases hbad : numLen t = 0 ∨ endOk (numEnd t) = false
  · simp only [if_pos hbad] at c2
    have hf : numOk t = false := by
      rw [HOk.out]; rcases hbad with h | h <;> simp [h]
    rw [if_neg (by rw [hf]; simp)]
    go_enter Tryz.func40, Tryz.ntmps40
    go_wp2_with (first | (go_at_call 32; refine (c1 _).mono ?_; rintro e w' ⟨rfl, rfl⟩) | (go_at_call 64; refine (c2 _).mono ?_; rintro e w' ⟨rfl, hb⟩; have hold := (hb.block w.heap.size (by simp)).trans (heap_in0 _ _); have HB : Hid (Below _ _ w') := hb; clear hb) | ((with_reducible apply step_store hold); rfl; rfl; kernel_rfl; rfl; kernel_rfl))
    refine ret_tok ?_ ?_ (setRow_heap _ _ _ _ _ _ hold) ?_ ?_; rfl; rfl; rfl; exact ⟨rfl, below_setRow (below_step (Below.refl _ w) ((Below.refl _ _).alloc (Nat.le_refl _) _) HB.out) (Nat.le_refl _) _⟩
  · simp only [if_neg hbad] at c2
    have hnb : (!(numLen t == 0 || !endOk (numEnd t))) = true := by
      simp only [not_or, Bool.not_eq_false] at hbad; simp [hbad.1, hbad.2]
    rw [hnb, Bool.true_and] at HOk
    rw [HOk.out]
    generalize mostOf (numKind t) = mo at *
    generalize numVal t = v at *
    by_cases hle : (v : Int) ≤ mo
    · simp only [hle, decide_true] at c2
      rw [if_pos (by simp [hle])]
      go_enter Tryz.func40, Tryz.ntmps40
      go_wp2_with (first | (go_at_call 32; refine (c1 _).mono ?_; rintro e w' ⟨rfl, rfl⟩) | (go_at_call 64; refine (c2 _).mono ?_; rintro e w' ⟨rfl, hb⟩; have hold := (hb.block w.heap.size (by simp)).trans (heap_in0 _ _); have HB : Hid (Below _ _ w') := hb; clear hb) | ((with_reducible apply step_store hold); rfl; rfl; kernel_rfl; rfl; kernel_rfl))
      refine ret_tok ?_ ?_ (setRow_heap _ _ _ _ _ _ hold) ?_ ?_; rfl; rfl; rfl; exact ⟨rfl, below_setRow (below_step (Below.refl _ w) ((Below.refl _ _).alloc (Nat.le_refl _) _) HB.out) (Nat.le_refl _) _⟩
    · simp only [hle, decide_false] at c2
      rw [if_neg (by simp [hle])]
      go_enter Tryz.func40, Tryz.ntmps40
      go_wp2_with (first | (go_at_call 32; refine (c1 _).mono ?_; rintro e w' ⟨rfl, rfl⟩) | (go_at_call 64; refine (c2 _).mono ?_; rintro e w' ⟨rfl, hb⟩; have hold := (hb.block w.heap.size (by simp)).trans (heap_in0 _ _); have HB : Hid (Below _ _ w') := hb; clear hb) | ((with_reducible apply step_store hold); rfl; rfl; kernel_rfl; rfl; kernel_rfl))
      refine ret_tok ?_ ?_ (setRow_heap _ _ _ _ _ _ hold) ?_ ?_; rfl; rfl; rfl; exact ⟨rfl, below_setRow (below_step (Below.refl _ w) ((Below.refl _ _).alloc (Nat.le_refl _) _) HB.out) (Nat.le_refl _) _⟩
end Go.Proofs.YtjbmpdcgmphhoaaGreatDoor
