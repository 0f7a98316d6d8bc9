/-
  What mortiseref02's value, Type and number answer: the same numbers as package token's.
-/
import Derived.Test.YtjbmpdcgmphhoaaGreatDoorRefSkip
import Derived.Deep.Cut
namespace Go.Proofs.YtjbmpdcgmphhoaaGreatDoor
open Go.RowKit
set_option linter.unusedVariables false

theorem value_r (n : Nat) (w : World) (h : n < 256) :
    Calls Tryz.prog 66 #[.int .u8 n] w fun e w' => e = .returned (.int .i64 (bDigit n)) ∧ w' = w := by
  go_enter Tryz.func66, Tryz.ntmps66
  go_wp2
  all_goals go_ret
  all_goals refine ⟨int_ret ?_, rfl⟩
  all_goals (simp only [bDigit]; repeat' split)
  all_goals first | omega | (simp_all; omega)

set_option maxRecDepth 100000 in
theorem type_r (u l : Bool) (w : World) :
    Calls Tryz.prog 67 #[.bool u, .bool l] w fun e w' => e = .returned (.string ⟨(typeText u l).toArray⟩) ∧ w' = w := by
  have hc1 : ∀ W : World, (Op.stringOp .add ⟨#[117, 110, 115, 105, 103, 110, 101, 100, 32]⟩ ⟨#[105, 110, 116]⟩).run Tryz.prog W = .ok (.string ⟨#[117, 110, 115, 105, 103, 110, 101, 100, 32, 105, 110, 116]⟩) W := fun _ => rfl
  have hc2 : ∀ W : World, (Op.stringOp .add ⟨#[117, 110, 115, 105, 103, 110, 101, 100, 32]⟩ ⟨#[108, 111, 110, 103]⟩).run Tryz.prog W = .ok (.string ⟨#[117, 110, 115, 105, 103, 110, 101, 100, 32, 108, 111, 110, 103]⟩) W := fun _ => rfl
  cases u <;> cases l
  all_goals go_enter Tryz.func67, Tryz.ntmps67
  all_goals go_wp2
  all_goals go_ret
  all_goals exact ⟨rfl, rfl⟩

def numOff (l : List UInt8) : Nat := if Lib.hasPrefix l [48, 120] || Lib.hasPrefix l [48, 88] then 2 else 0
theorem numDig_off (l : List UInt8) : numDig l = l.drop (numOff l) := by
  unfold numDig numOff; split <;> simp

theorem digVal_gt (b most n : Nat) (h : most < n) : ∀ l, digVal b most n l = n
  | [] => rfl
  | c :: r => by simp only [digVal]; rw [if_neg (by omega)]

/-- What is known of a number's text when its digits up to a place are read. -/
structure NumAt (L : List UInt8) (k n : Nat) : Prop where
  len : numLen L = (k - numOff L) + runLen (bBase (numBase L)) (L.drop k)
  val : numVal L = digVal (numBase L) 4294967295 n ((L.drop k).take (runLen (bBase (numBase L)) (L.drop k)))
theorem NumAt.start (L : List UInt8) : NumAt L (numOff L) 0 := by
  constructor
  · unfold numLen; rw [numDig_off]; omega
  · unfold numVal numLen; rw [numDig_off]
theorem NumAt.next {L : List UInt8} {k n : Nat} {c : UInt8} (h : NumAt L k n) (hn : n ≤ 4294967295) (hk : numOff L ≤ k) (hd : L.drop k = c :: L.drop (k + 1)) (hc : bDigit c.toNat < numBase L) : NumAt L (k + 1) (n * numBase L + bDigit c.toNat) := by
  have h1 : runLen (bBase (numBase L)) (L.drop k) = runLen (bBase (numBase L)) (L.drop (k + 1)) + 1 := by
    rw [hd, runLen, if_pos (by simp [bBase, hc])]
  constructor
  · rw [h.len, h1]; omega
  · rw [h.val, h1, hd, List.take_succ_cons]
    show digVal _ _ _ (_ :: _) = _
    rw [digVal, if_pos hn]
theorem NumAt.stop {L : List UInt8} {k n : Nat} (h : NumAt L k n) (hk : numOff L ≤ k) (h0 : runLen (bBase (numBase L)) (L.drop k) = 0) : numLen L = k - numOff L ∧ numVal L = n ∧ numEnd L = low (L.drop k) := by
  have h1 := h.len
  have h2 := h.val
  rw [h0] at h1 h2
  refine ⟨by omega, by rw [h2]; rfl, ?_⟩
  unfold numEnd
  rw [numDig_off, h1, List.drop_drop]
  congr 2
  omega
theorem mostOf_le (l : List UInt8) : mostOf l ≤ 4294967295 := by
  unfold mostOf; split
  · omega
  split <;> omega
theorem NumAt.over {L : List UInt8} {k n : Nat} (h : NumAt L k n) (hn : 4294967295 < n) : numOk L = false := by
  have h2 := h.val
  rw [digVal_gt _ _ _ hn] at h2
  have h3 := mostOf_le (numKind L)
  unfold numOk
  rw [h2]
  have : decide ((n : Int) ≤ mostOf (numKind L)) = false := by simp; omega
  rw [this, Bool.and_false]
theorem most_u (l : Bool) : mostOf (typeText true l) = 4294967295 := by cases l <;> decide
theorem most_i (l : Bool) : mostOf (typeText false l) = 2147483647 := by cases l <;> decide
theorem numOk_short {L : List UInt8} (h : numLen L = 0) : numOk L = false := by unfold numOk; rw [h]; rfl
theorem numOk_bad {L : List UInt8} (h : endOk (numEnd L) = false) : numOk L = false := by unfold numOk; rw [h]; simp
theorem numOk_ten {L : List UInt8} (hu : endU (numEnd L) = false) (hv : 2147483647 < numVal L) (hb : numBase L = 10) : numOk L = false := by
  have hk : numKind L = typeText false (endL (numEnd L)) := by unfold numKind numU; rw [hu, hb]; rfl
  unfold numOk
  rw [hk, most_i]
  have : decide ((numVal L : Int) ≤ 2147483647) = false := by simp; omega
  rw [this, Bool.and_false]
theorem numOk_up {L : List UInt8} (hl : numLen L ≠ 0) (he : endOk (numEnd L) = true) (hv : 2147483647 < numVal L) (hm : numVal L ≤ 4294967295) (hb : numBase L ≠ 10) : numOk L = true ∧ numKind L = typeText true (endL (numEnd L)) := by
  have hk : numKind L = typeText true (endL (numEnd L)) := by
    unfold numKind numU
    have h1 : (numBase L != 10) = true := by simpa using hb
    have h2 : decide (2147483647 < numVal L) = true := by simpa using hv
    rw [h1, h2]; simp
  refine ⟨?_, hk⟩
  unfold numOk
  rw [hk, most_u, he]
  have : decide ((numVal L : Int) ≤ 4294967295) = true := by simp; omega
  rw [this]
  have h1 : (numLen L == 0) = false := by simpa using hl
  rw [h1]; rfl
theorem numOk_as {L : List UInt8} (hl : numLen L ≠ 0) (he : endOk (numEnd L) = true) (hm : numVal L ≤ 4294967295) (hu : endU (numEnd L) = true ∨ numVal L ≤ 2147483647) : numOk L = true ∧ numKind L = typeText (endU (numEnd L)) (endL (numEnd L)) := by
  have hk : numKind L = typeText (endU (numEnd L)) (endL (numEnd L)) := by
    unfold numKind numU
    rcases hu with h | h
    · rw [h]; rfl
    · have h2 : decide (2147483647 < numVal L) = false := by simp; omega
      rw [h2]; simp
  refine ⟨?_, hk⟩
  unfold numOk
  rw [hk, he]
  have h1 : (numLen L == 0) = false := by simpa using hl
  rw [h1]
  have h3 : decide ((numVal L : Int) ≤ mostOf (typeText (endU (numEnd L)) (endL (numEnd L)))) = true := by
    simp only [decide_eq_true_eq]
    rcases hu with h | h
    · rw [h, most_u]; omega
    · rcases endU (numEnd L) with _ | _
      · rw [most_i]; omega
      · rw [most_u]; omega
  rw [h3]; rfl

theorem results_cell2 {fn : Func} {p u : Tmp} {ty : TypeId} (h : fn.results = #[.cell p ty, .tmp u]) (tmps : Array Value) (P : Program) (w : World) :
    (results fn tmps).run P w =
      ((asAddr (tmps.getD p undef)).run P w).andThen fun a w₁ => ((loadVar ty a).run P w₁).andThen fun x w₂ => .ok (.tuple #[x, tmps.getD u undef]) w₂ := by
  simp only [results, h]
  simp [Sem.run_bind, Result.andThen]
theorem ret_tokb {fn : Func} {R : Ending → World → Prop} {tmps : Array Value} {w : World} {g p q : Nat} {cs : Array Value}
    (hres : fn.results = #[.cell p 35, .tmp q]) (hp : tmps.getD p undef = .pointer (some ⟨g, 0, none⟩)) (hg : w.heap[g]? = some (.cells cs 35 (0, 0))) (hcs : cs.size = 6)
    (hR : R (.returned (.tuple #[.agg cs, tmps.getD q undef])) w) : bodyPost Tryz.prog fn R .ret ⟨tmps, []⟩ w := by
  refine bodyPost_ret ?_ rfl hR
  have hl := run_loadVar_row (P := Tryz.prog) w g 35 35 cs (0, 0) _ hg Tryz.underlying35 rfl (by rw [hcs]; kernel_rfl)
  rw [results_cell2 hres]
  simp only [hp]
  simp [asAddr, Result.andThen, hl]
theorem heap_r0 (w : World) (A : Obj) : (w.alloc A).heap[w.heap.size]? = some A := by
  show (w.heap.push A)[w.heap.size]? = some A
  simp

def tokAgg (kind : Int) (text : ByteArray) (num : Int) : Value := .agg #[.int .i64 kind, .string text, .int .i64 num, .int .i64 0, .int .i64 0, .int .i64 0]
def numV (L : List UInt8) : Value := if numOk L then .tuple #[tokAgg 3 ⟨(numKind L).toArray⟩ (numVal L), .bool true] else .tuple #[tokAgg 0 ⟨#[]⟩ 0, .bool false]

theorem hex_of {s : ByteArray} (h0 : 0 < s.size) : (Lib.hasPrefix s.data.toList [48, 120] || Lib.hasPrefix s.data.toList [48, 88]) = decide ((s[0]).toNat = 48 ∧ ∃ h : 1 < s.size, (s[1]).toNat = 120 ∨ (s[1]).toNat = 88) := by
  have hc := drop_get s 0 h0
  rw [List.drop_zero] at hc
  rw [Bool.eq_iff_iff, Bool.or_eq_true, decide_eq_true_eq]
  by_cases h1 : 1 < s.size
  · have hc1 := drop_get s 1 h1
    rw [hc, hc1]
    simp only [Lib.hasPrefix, List.isPrefixOf, Bool.and_true, Bool.and_eq_true, beq_iff_eq, h1, exists_true_left, ← UInt8.toNat_inj]
    constructor
    · rintro (⟨h, h'⟩ | ⟨h, h'⟩)
      · exact ⟨h.symm, .inl h'.symm⟩
      · exact ⟨h.symm, .inr h'.symm⟩
    · rintro ⟨h, h' | h'⟩
      · exact .inl ⟨h.symm, h'.symm⟩
      · exact .inr ⟨h.symm, h'.symm⟩
  · have hn : s.data.toList.drop 1 = [] := List.drop_eq_nil_of_le (by simp; omega)
    rw [hc, hn]
    simp [Lib.hasPrefix, List.isPrefixOf, h1]
end Go.Proofs.YtjbmpdcgmphhoaaGreatDoor
