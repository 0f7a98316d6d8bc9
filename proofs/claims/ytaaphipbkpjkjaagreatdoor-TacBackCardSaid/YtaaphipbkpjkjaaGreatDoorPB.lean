/-
  What a right program is; its lines can be read again.
  The words of a right instruction are read as it; the lines of a right program.
-/
import Derived.Test.YtaaphipbkpjkjaaGreatDoorPA
import Derived.Test.YtaaphipbkpjkjaaGreatDoorTeH
import Derived.Test.YtaaphipbkpjkjaaGreatDoorKT
namespace Go.Proofs.YtaaphipbkpjkjaaGreatDoor
open Go.RowKit Go.Maps
set_option linter.unusedVariables false
set_option linter.unusedSimpArgs false
set_option maxRecDepth 100000
/-- The bounds of a program that may be. -/
structure Bd (tp : Int) (cn : Nat) (sls : List Slt) (obs : List Ob) (fns : List Fn) : Prop where
  tp : tp ≤ 4096
  cn : cn ≤ 16384
  sn : sls.length ≤ 256
  on : obs.length ≤ 256
  fn : fns.length ≤ 64
  ss : ∀ n, szS sls n ≤ 16384
  so : ∀ n, szO obs n ≤ 16384
  pr : ∀ f ∈ fns, f.pr ≤ 8
def fldsOf (x : In) : List Nat := fieldTab.getD x.op.toNat []
/-- What is read of the words of an instruction. -/
def RdI (x : In) : Prop := (x.op ≠ 8 ∧ fldsR (fldsOf x) (bareI x.op x.bin) (fldW (fldsOf x) x) = some (x, []) ∧ x.args = []) ∨
  (x.op = 8 ∧ (∃ d n args, x = ⟨8, 0, d, ⟨0, 0⟩, ⟨0, 0⟩, n, 0, 0, false, args⟩) ∧ -1 ≤ x.d ∧ ∀ a ∈ x.args, a.kind = 1 ∨ a.kind = 2)
theorem operB_k {tp : Int} {a : Ar} (h : operB tp a = true) : a.kind = 1 ∨ a.kind = 2 := by
  unfold operB at h
  simp only [Bool.or_eq_true, Bool.and_eq_true, beq_iff_eq] at h
  omega
theorem opBin : ∀ k < 19, opFind (opTab.getD k ⟨#[]⟩) = some (bareI 2 ((k : Int) + 1)) := by
  intro k hk
  repeat (first | omega | (rcases k with _ | k; kernel_rfl))
theorem cl_tab : ∀ s ∈ wordTab ++ opTab, Cl s := by
  have h : ∀ s ∈ wordTab ++ opTab, ∀ c ∈ s.data.toList, 33 ≤ c.toNat := by decide +kernel
  exact h
theorem opName_at {b : Int} (h : isOp b = true) : ∃ k : Nat, k < 19 ∧ b = (k : Int) + 1 ∧ opName b = opTab.getD k ⟨#[]⟩ := by
  simp only [isOp, withinP, Bool.and_eq_true, decide_eq_true_eq] at h
  refine ⟨(b - 1).toNat, by omega, by omega, ?_⟩
  unfold opName
  rw [if_pos h]
/-- What is known of a right instruction. -/
structure RtI (x : In) : Prop where
  nn : InN x
  o1 : 1 ≤ x.op
  o2 : x.op ≤ 14
  hd : opFind (headW x) = some (bareI x.op x.bin)
  rd : RdI x
set_option maxHeartbeats 4000000 in
theorem right_read {tp : Int} {gv : Bool} {cn : Nat} {sls : List Slt} {obs : List Ob} {fns : List Fn} (B : Bd tp cn sls obs fns) {x : In} (ha : ArOK x.a) (hb : ArOK x.b) (hao : ∀ a ∈ x.args, ArOK a) (h : rightB tp gv cn sls obs fns x = true) : RtI x := by
  obtain ⟨op, bin, d, ⟨ak, an⟩, ⟨bk, bn⟩, n, off, wd, sg, args⟩ := x
  have b1 := B.tp
  have b2 := B.cn
  have b3 := B.sn
  have b4 := B.on
  have b5 := B.fn
  have b6 := B.ss n
  have b7 := B.so n
  have T : tempB tp d = true → 0 ≤ d ∧ d ≤ 4096 ∧ tmp64 (tgtW d) = some d := fun h => by
    simp only [tempB, withinP, Bool.and_eq_true, decide_eq_true_eq] at h
    refine ⟨by omega, by omega, ?_⟩
    unfold tgtW
    rw [if_neg (by omega)]
    exact tmp64_pre h.1 (by omega)
  have A : operB tp ⟨ak, an⟩ = true → ∃ s, opW ⟨ak, an⟩ = [s] ∧ opOf s = some ⟨ak, an⟩ := fun h => opOf_w ha (operB_k h)
  have C : operB tp ⟨bk, bn⟩ = true → ∃ s, opW ⟨bk, bn⟩ = [s] ∧ opOf s = some ⟨bk, bn⟩ := fun h => opOf_w hb (operB_k h)
  have N : ∀ v : Int, -100000 ≤ v → v ≤ 100000 → num64 (decS v) = some v := fun v h0 h1 => num64_dec ⟨by omega, by omega⟩
  have hop : op = 1 ∨ op = 2 ∨ op = 3 ∨ op = 4 ∨ op = 5 ∨ op = 6 ∨ op = 7 ∨ op = 8 ∨ op = 9 ∨ op = 10 ∨ op = 11 ∨ op = 12 ∨ op = 13 ∨ op = 14 := by
    apply Classical.byContradiction
    intro hn
    simp only [not_or] at hn
    obtain ⟨a1, a2, a3, a4, a5, a6, a7, a8, a9, a10, a11, a12, a13, a14⟩ := hn
    simp [rightB, holdsB, a1, a2, a3, a4, a5, a6, a7, a8, a9, a10, a11, a12, a13, a14] at h
  simp only [rightB, Bool.and_eq_true] at h
  obtain ⟨h1, h2⟩ := h
  rcases hop with rfl | rfl | rfl | rfl | rfl | rfl | rfl | rfl | rfl | rfl | rfl | rfl | rfl | rfl
  · simp [bareP, fieldsOf, fieldTab, clrS, clrI, bareB] at h2
    have g : tempB tp d = true ∧ operB tp ⟨ak, an⟩ = true := by simpa [holdsB, and_assoc] using h1
    obtain ⟨t1, t2, t3⟩ := T g.1
    obtain ⟨s1, a1, a2⟩ := A g.2
    have hh : opFind (headW ⟨1, bin, d, ⟨ak, an⟩, ⟨bk, bn⟩, n, off, wd, sg, args⟩) = some (bareI 1 bin) := by obtain ⟨q0, _⟩ := h2; rw [q0]; kernel_rfl
    refine ⟨⟨by simp only; omega, by simp only; omega, by simp only; omega, by simp only; omega, by simp only; omega, by simp only; omega, by simp only; omega, by simp only; omega, by simp [h2], fun a hq => (by rcases List.mem_cons.1 hq with rfl | hq; exact ha; rcases List.mem_cons.1 hq with rfl | hq; exact hb; exact hao a hq)⟩, by simp, by simp, hh, Or.inl ⟨by simp, ?_, by simp [h2]⟩⟩
    simp [fldsR, fldR, fldW, fldsOf, fieldTab, bareI, fwW, opsW, t3, a1, a2, h2]
  · simp [bareP, fieldsOf, fieldTab, clrS, clrI, bareB] at h2
    have g : tempB tp d = true ∧ isOp bin = true ∧ operB tp ⟨ak, an⟩ = true ∧ operB tp ⟨bk, bn⟩ = true := by simpa [holdsB, and_assoc] using h1
    obtain ⟨t1, t2, t3⟩ := T g.1
    obtain ⟨s1, a1, a2⟩ := A g.2.2.1
    obtain ⟨s2, c1, c2⟩ := C g.2.2.2
    obtain ⟨k, hk, e1, e2⟩ := opName_at g.2.1
    have hh : opFind (headW ⟨2, bin, d, ⟨ak, an⟩, ⟨bk, bn⟩, n, off, wd, sg, args⟩) = some (bareI 2 bin) := by show opFind (opName bin) = _; rw [e2, e1]; exact opBin k hk
    refine ⟨⟨by simp only; omega, by simp only; omega, by simp only; omega, by simp only; omega, by simp only; omega, by simp only; omega, by simp only; omega, by simp only; omega, by simp [h2], fun a hq => (by rcases List.mem_cons.1 hq with rfl | hq; exact ha; rcases List.mem_cons.1 hq with rfl | hq; exact hb; exact hao a hq)⟩, by simp, by simp, hh, Or.inl ⟨by simp, ?_, by simp [h2]⟩⟩
    simp [fldsR, fldR, fldW, fldsOf, fieldTab, bareI, fwW, opsW, t3, a1, a2, c1, c2, h2]
  · simp [bareP, fieldsOf, fieldTab, clrS, clrI, bareB] at h2
    have g : tempB tp d = true ∧ withinP n 0 ((sls.length : Int) - 1) = true ∧ withinP off 0 (szS sls n) = true := by simpa [holdsB, and_assoc] using h1
    obtain ⟨t1, t2, t3⟩ := T g.1
    have u1 := g.2.1
    simp only [withinP, Bool.and_eq_true, decide_eq_true_eq] at u1
    have u1n := N n (by omega) (by omega)
    have u2 := g.2.2
    simp only [withinP, Bool.and_eq_true, decide_eq_true_eq] at u2
    have u2n := N off (by omega) (by omega)
    have hh : opFind (headW ⟨3, bin, d, ⟨ak, an⟩, ⟨bk, bn⟩, n, off, wd, sg, args⟩) = some (bareI 3 bin) := by obtain ⟨q0, _⟩ := h2; rw [q0]; kernel_rfl
    refine ⟨⟨by simp only; omega, by simp only; omega, by simp only; omega, by simp only; omega, by simp only; omega, by simp only; omega, by simp only; omega, by simp only; omega, by simp [h2], fun a hq => (by rcases List.mem_cons.1 hq with rfl | hq; exact ha; rcases List.mem_cons.1 hq with rfl | hq; exact hb; exact hao a hq)⟩, by simp, by simp, hh, Or.inl ⟨by simp, ?_, by simp [h2]⟩⟩
    simp [fldsR, fldR, fldW, fldsOf, fieldTab, bareI, fwW, opsW, t3, u1n, u2n, h2]
  · simp [bareP, fieldsOf, fieldTab, clrS, clrI, bareB] at h2
    have g : tempB tp d = true ∧ withinP n 0 ((obs.length : Int) - 1) = true ∧ withinP off 0 (szO obs n) = true := by simpa [holdsB, and_assoc] using h1
    obtain ⟨t1, t2, t3⟩ := T g.1
    have u1 := g.2.1
    simp only [withinP, Bool.and_eq_true, decide_eq_true_eq] at u1
    have u1n := N n (by omega) (by omega)
    have u2 := g.2.2
    simp only [withinP, Bool.and_eq_true, decide_eq_true_eq] at u2
    have u2n := N off (by omega) (by omega)
    have hh : opFind (headW ⟨4, bin, d, ⟨ak, an⟩, ⟨bk, bn⟩, n, off, wd, sg, args⟩) = some (bareI 4 bin) := by obtain ⟨q0, _⟩ := h2; rw [q0]; kernel_rfl
    refine ⟨⟨by simp only; omega, by simp only; omega, by simp only; omega, by simp only; omega, by simp only; omega, by simp only; omega, by simp only; omega, by simp only; omega, by simp [h2], fun a hq => (by rcases List.mem_cons.1 hq with rfl | hq; exact ha; rcases List.mem_cons.1 hq with rfl | hq; exact hb; exact hao a hq)⟩, by simp, by simp, hh, Or.inl ⟨by simp, ?_, by simp [h2]⟩⟩
    simp [fldsR, fldR, fldW, fldsOf, fieldTab, bareI, fwW, opsW, t3, u1n, u2n, h2]
  · simp [bareP, fieldsOf, fieldTab, clrS, clrI, bareB] at h2
    have g : tempB tp d = true ∧ operB tp ⟨ak, an⟩ = true ∧ reachB ⟨5, bin, d, ⟨ak, an⟩, ⟨bk, bn⟩, n, off, wd, sg, args⟩ = true ∧ (!(sg && wd == 4)) = true := by simpa [holdsB, and_assoc] using h1
    obtain ⟨t1, t2, t3⟩ := T g.1
    obtain ⟨s1, a1, a2⟩ := A g.2.1
    have r1 := g.2.2.1
    simp only [reachB, widthB, withinP, Bool.and_eq_true, Bool.or_eq_true, decide_eq_true_eq, beq_iff_eq] at r1
    have r2 := N off (by omega) (by omega)
    have r3 := N wd (by omega) (by omega)
    have hh : opFind (headW ⟨5, bin, d, ⟨ak, an⟩, ⟨bk, bn⟩, n, off, wd, sg, args⟩) = some (bareI 5 bin) := by obtain ⟨q0, _⟩ := h2; rw [q0]; kernel_rfl
    refine ⟨⟨by simp only; omega, by simp only; omega, by simp only; omega, by simp only; omega, by simp only; omega, by simp only; omega, by simp only; omega, by simp only; omega, by simp [h2], fun a hq => (by rcases List.mem_cons.1 hq with rfl | hq; exact ha; rcases List.mem_cons.1 hq with rfl | hq; exact hb; exact hao a hq)⟩, by simp, by simp, hh, Or.inl ⟨by simp, ?_, by simp [h2]⟩⟩
    cases sg <;> simp [fldsR, fldR, fldW, fldsOf, fieldTab, bareI, fwW, opsW, t3, a1, a2, r2, r3, h2, signedW]
  · simp [bareP, fieldsOf, fieldTab, clrS, clrI, bareB] at h2
    have g : operB tp ⟨ak, an⟩ = true ∧ operB tp ⟨bk, bn⟩ = true ∧ reachB ⟨6, bin, d, ⟨ak, an⟩, ⟨bk, bn⟩, n, off, wd, sg, args⟩ = true := by simpa [holdsB, and_assoc] using h1
    obtain ⟨s1, a1, a2⟩ := A g.1
    obtain ⟨s2, c1, c2⟩ := C g.2.1
    have r1 := g.2.2
    simp only [reachB, widthB, withinP, Bool.and_eq_true, Bool.or_eq_true, decide_eq_true_eq, beq_iff_eq] at r1
    have r2 := N off (by omega) (by omega)
    have r3 := N wd (by omega) (by omega)
    have hh : opFind (headW ⟨6, bin, d, ⟨ak, an⟩, ⟨bk, bn⟩, n, off, wd, sg, args⟩) = some (bareI 6 bin) := by obtain ⟨q0, _⟩ := h2; rw [q0]; kernel_rfl
    refine ⟨⟨by simp only; omega, by simp only; omega, by simp only; omega, by simp only; omega, by simp only; omega, by simp only; omega, by simp only; omega, by simp only; omega, by simp [h2], fun a hq => (by rcases List.mem_cons.1 hq with rfl | hq; exact ha; rcases List.mem_cons.1 hq with rfl | hq; exact hb; exact hao a hq)⟩, by simp, by simp, hh, Or.inl ⟨by simp, ?_, by simp [h2]⟩⟩
    simp [fldsR, fldR, fldW, fldsOf, fieldTab, bareI, fwW, opsW, a1, a2, c1, c2, r2, r3, h2]
  · simp [bareP, fieldsOf, fieldTab, clrS, clrI, bareB] at h2
    have g : operB tp ⟨ak, an⟩ = true ∧ operB tp ⟨bk, bn⟩ = true ∧ widthB wd = true ∧ withinP off 1 16384 = true ∧ (off.tmod wd == 0) = true := by simpa [holdsB, and_assoc] using h1
    obtain ⟨s1, a1, a2⟩ := A g.1
    obtain ⟨s2, c1, c2⟩ := C g.2.1
    have r1 := g.2.2.1
    simp only [widthB, Bool.or_eq_true, beq_iff_eq] at r1
    have r3 := N wd (by omega) (by omega)
    have u2 := g.2.2.2.1
    simp only [withinP, Bool.and_eq_true, decide_eq_true_eq] at u2
    have u2n := N off (by omega) (by omega)
    have hh : opFind (headW ⟨7, bin, d, ⟨ak, an⟩, ⟨bk, bn⟩, n, off, wd, sg, args⟩) = some (bareI 7 bin) := by obtain ⟨q0, _⟩ := h2; rw [q0]; kernel_rfl
    refine ⟨⟨by simp only; omega, by simp only; omega, by simp only; omega, by simp only; omega, by simp only; omega, by simp only; omega, by simp only; omega, by simp only; omega, by simp [h2], fun a hq => (by rcases List.mem_cons.1 hq with rfl | hq; exact ha; rcases List.mem_cons.1 hq with rfl | hq; exact hb; exact hao a hq)⟩, by simp, by simp, hh, Or.inl ⟨by simp, ?_, by simp [h2]⟩⟩
    simp [fldsR, fldR, fldW, fldsOf, fieldTab, bareI, fwW, opsW, a1, a2, c1, c2, r3, u2n, h2]
  · simp [bareP, fieldsOf, fieldTab, clrS, clrI, bareB] at h2
    have hh : opFind (headW ⟨8, bin, d, ⟨ak, an⟩, ⟨bk, bn⟩, n, off, wd, sg, args⟩) = some (bareI 8 bin) := by obtain ⟨q0, _⟩ := h2; rw [q0]; kernel_rfl
    simp [holdsB, withinP, callB, tempB] at h1
    obtain ⟨⟨n0, n1⟩, hf⟩ := h1
    obtain ⟨f, hfn⟩ : ∃ f, fns[n.toNat]? = some f := ⟨_, List.getElem?_eq_getElem (by omega)⟩
    rw [hfn] at hf
    simp only [Bool.and_eq_true, beq_iff_eq, Bool.or_eq_true, decide_eq_true_eq] at hf
    have b8 := B.pr f (List.mem_of_getElem? hfn)
    have hal : ∀ a ∈ args, operB tp a = true := List.all_eq_true.1 hf.2.1
    have hlen : (args.length : Int) = f.pr := hf.1
    have hd2 : d = -1 ∨ 0 ≤ d ∧ d ≤ tp - 1 := hf.2.2.imp id And.right
    obtain ⟨e0, ⟨e1, e2⟩, ⟨e3, e4⟩, e5, e6, e7⟩ := h2
    subst e0 e1 e2 e3 e4 e5 e6 e7
    exact ⟨⟨by simp only; omega, by simp only; omega, by simp only; omega, by simp only; omega, by simp only; omega, by simp only; omega, by simp only; omega, by simp only; omega, by simp only; omega, fun a hq => (by rcases List.mem_cons.1 hq with rfl | hq; exact ha; rcases List.mem_cons.1 hq with rfl | hq; exact hb; exact hao a hq)⟩, by simp, by simp, hh, Or.inr ⟨rfl, ⟨d, n, args, rfl⟩, by simp only; omega, fun a hq => operB_k (hal a hq)⟩⟩
  · simp [bareP, fieldsOf, fieldTab, clrS, clrI, bareB] at h2
    have hh : opFind (headW ⟨9, bin, d, ⟨ak, an⟩, ⟨bk, bn⟩, n, off, wd, sg, args⟩) = some (bareI 9 bin) := by obtain ⟨q0, _⟩ := h2; rw [q0]; kernel_rfl
    refine ⟨⟨by simp only; omega, by simp only; omega, by simp only; omega, by simp only; omega, by simp only; omega, by simp only; omega, by simp only; omega, by simp only; omega, by simp [h2], fun a hq => (by rcases List.mem_cons.1 hq with rfl | hq; exact ha; rcases List.mem_cons.1 hq with rfl | hq; exact hb; exact hao a hq)⟩, by simp, by simp, hh, Or.inl ⟨by simp, ?_, by simp [h2]⟩⟩
    simp [holdsB] at h1
    unfold retB at h1
    by_cases hg : gv = true
    · rw [if_pos hg] at h1
      obtain ⟨s1, a1, a2⟩ := A h1
      simp [fldsR, fldR, fldW, fldsOf, fieldTab, bareI, fwW, opsW, a1, a2, h2]
    · rw [if_neg hg] at h1
      have hq : ak = 0 ∧ an = 0 := by simpa using h1
      obtain ⟨rfl, rfl⟩ := hq
      simp [fldsR, fldR, fldW, fldsOf, fieldTab, bareI, fwW, opsW, opW, h2]
  · simp [bareP, fieldsOf, fieldTab, clrS, clrI, bareB] at h2
    have g : tempB cn n = true := by simpa [holdsB, and_assoc] using h1
    have u1 := g
    simp only [tempB, withinP, Bool.and_eq_true, decide_eq_true_eq] at u1
    have u1n := N n (by omega) (by omega)
    have hh : opFind (headW ⟨10, bin, d, ⟨ak, an⟩, ⟨bk, bn⟩, n, off, wd, sg, args⟩) = some (bareI 10 bin) := by obtain ⟨q0, _⟩ := h2; rw [q0]; kernel_rfl
    refine ⟨⟨by simp only; omega, by simp only; omega, by simp only; omega, by simp only; omega, by simp only; omega, by simp only; omega, by simp only; omega, by simp only; omega, by simp [h2], fun a hq => (by rcases List.mem_cons.1 hq with rfl | hq; exact ha; rcases List.mem_cons.1 hq with rfl | hq; exact hb; exact hao a hq)⟩, by simp, by simp, hh, Or.inl ⟨by simp, ?_, by simp [h2]⟩⟩
    simp [fldsR, fldR, fldW, fldsOf, fieldTab, bareI, fwW, opsW, u1n, h2]
  · simp [bareP, fieldsOf, fieldTab, clrS, clrI, bareB] at h2
    have g : tempB cn n = true ∧ operB tp ⟨ak, an⟩ = true := by simpa [holdsB, and_assoc] using h1
    have u1 := g.1
    simp only [tempB, withinP, Bool.and_eq_true, decide_eq_true_eq] at u1
    have u1n := N n (by omega) (by omega)
    obtain ⟨s1, a1, a2⟩ := A g.2
    have hh : opFind (headW ⟨11, bin, d, ⟨ak, an⟩, ⟨bk, bn⟩, n, off, wd, sg, args⟩) = some (bareI 11 bin) := by obtain ⟨q0, _⟩ := h2; rw [q0]; kernel_rfl
    refine ⟨⟨by simp only; omega, by simp only; omega, by simp only; omega, by simp only; omega, by simp only; omega, by simp only; omega, by simp only; omega, by simp only; omega, by simp [h2], fun a hq => (by rcases List.mem_cons.1 hq with rfl | hq; exact ha; rcases List.mem_cons.1 hq with rfl | hq; exact hb; exact hao a hq)⟩, by simp, by simp, hh, Or.inl ⟨by simp, ?_, by simp [h2]⟩⟩
    simp [fldsR, fldR, fldW, fldsOf, fieldTab, bareI, fwW, opsW, u1n, a1, a2, h2]
  · simp [bareP, fieldsOf, fieldTab, clrS, clrI, bareB] at h2
    have g : operB tp ⟨ak, an⟩ = true := by simpa [holdsB, and_assoc] using h1
    obtain ⟨s1, a1, a2⟩ := A g
    have hh : opFind (headW ⟨12, bin, d, ⟨ak, an⟩, ⟨bk, bn⟩, n, off, wd, sg, args⟩) = some (bareI 12 bin) := by obtain ⟨q0, _⟩ := h2; rw [q0]; kernel_rfl
    refine ⟨⟨by simp only; omega, by simp only; omega, by simp only; omega, by simp only; omega, by simp only; omega, by simp only; omega, by simp only; omega, by simp only; omega, by simp [h2], fun a hq => (by rcases List.mem_cons.1 hq with rfl | hq; exact ha; rcases List.mem_cons.1 hq with rfl | hq; exact hb; exact hao a hq)⟩, by simp, by simp, hh, Or.inl ⟨by simp, ?_, by simp [h2]⟩⟩
    simp [fldsR, fldR, fldW, fldsOf, fieldTab, bareI, fwW, opsW, a1, a2, h2]
  · simp [bareP, fieldsOf, fieldTab, clrS, clrI, bareB] at h2
    have g : tempB tp d = true := by simpa [holdsB, and_assoc] using h1
    obtain ⟨t1, t2, t3⟩ := T g
    have hh : opFind (headW ⟨13, bin, d, ⟨ak, an⟩, ⟨bk, bn⟩, n, off, wd, sg, args⟩) = some (bareI 13 bin) := by obtain ⟨q0, _⟩ := h2; rw [q0]; kernel_rfl
    refine ⟨⟨by simp only; omega, by simp only; omega, by simp only; omega, by simp only; omega, by simp only; omega, by simp only; omega, by simp only; omega, by simp only; omega, by simp [h2], fun a hq => (by rcases List.mem_cons.1 hq with rfl | hq; exact ha; rcases List.mem_cons.1 hq with rfl | hq; exact hb; exact hao a hq)⟩, by simp, by simp, hh, Or.inl ⟨by simp, ?_, by simp [h2]⟩⟩
    simp [fldsR, fldR, fldW, fldsOf, fieldTab, bareI, fwW, opsW, t3, h2]
  · simp [bareP, fieldsOf, fieldTab, clrS, clrI, bareB] at h2
    have g : operB tp ⟨ak, an⟩ = true := by simpa [holdsB, and_assoc] using h1
    obtain ⟨s1, a1, a2⟩ := A g
    have hh : opFind (headW ⟨14, bin, d, ⟨ak, an⟩, ⟨bk, bn⟩, n, off, wd, sg, args⟩) = some (bareI 14 bin) := by obtain ⟨q0, _⟩ := h2; rw [q0]; kernel_rfl
    refine ⟨⟨by simp only; omega, by simp only; omega, by simp only; omega, by simp only; omega, by simp only; omega, by simp only; omega, by simp only; omega, by simp only; omega, by simp [h2], fun a hq => (by rcases List.mem_cons.1 hq with rfl | hq; exact ha; rcases List.mem_cons.1 hq with rfl | hq; exact hb; exact hao a hq)⟩, by simp, by simp, hh, Or.inl ⟨by simp, ?_, by simp [h2]⟩⟩
    simp [fldsR, fldR, fldW, fldsOf, fieldTab, bareI, fwW, opsW, a1, a2, h2]
end Go.Proofs.YtaaphipbkpjkjaaGreatDoor
namespace Go.Proofs.YtaaphipbkpjkjaaGreatDoor
open Go.RowKit Go.Maps
set_option linter.unusedVariables false
set_option linter.unusedSimpArgs false
set_option maxRecDepth 100000
theorem funL_mem {obs : List Ob} {fns : List Fn} : ∀ {seen : List (List UInt8)} {l : List Fg}, funL obs fns seen l = true → ∀ q ∈ l, fun1 obs fns q = true
  | _, [], _, q, hq => by cases hq
  | seen, a :: r, h, q, hq => by
    unfold funL at h
    rw [Bool.and_eq_true, Bool.and_eq_true] at h
    rcases List.mem_cons.1 hq with rfl | hq
    · exact h.2.1
    · exact funL_mem h.2.2 q hq
theorem linS_fits : ∀ (ls : List (List ByteArray)) (t : List UInt8), (linS t ls).length ≤ 1048576 → linS t ls = t ++ ls.flatMap lineT
  | [], t, _ => by simp [linS]
  | a :: r, t, h => by
    have e : linS t (a :: r) = linS (lineS t a) r := rfl
    have full : ∀ (l : List (List ByteArray)) (t : List UInt8), 1048576 < t.length → linS t l = t := by
      intro l
      induction l with
      | nil => intro t _; rfl
      | cons a l ih =>
        intro t ht
        have e2 : lineS t a = t := by unfold lineS; rw [if_pos ht]
        show linS (lineS t a) l = t
        rw [e2, ih t ht]
    have ht : ¬ 1048576 < t.length := fun hf => by rw [full _ _ hf] at h; omega
    have e2 : lineS t a = t ++ lineT a := by unfold lineS; rw [if_neg ht]
    rw [e, e2] at h ⊢
    rw [linS_fits r _ h]
    simp
theorem relB_len {align size : Int} {obs : List Ob} {bs : List UInt8} : ∀ {l : List Rl} {free : Int}, relB align size obs bs free l = true → l = [] ∨ free + 4 * (l.length : Int) ≤ size
  | [], _, _ => Or.inl rfl
  | r :: l, free, h => by
    simp only [relB, rel1, withinP, Bool.and_eq_true, decide_eq_true_eq] at h
    obtain ⟨⟨_, ⟨h1, h2⟩, _⟩, _, _, h3⟩ := h
    refine Or.inr ?_
    simp only [List.length_cons]
    rcases relB_len h3 with rfl | h4
    · simp; omega
    · omega
theorem relB_all {align size : Int} {obs : List Ob} {bs : List UInt8} : ∀ {l : List Rl} {free : Int}, 0 ≤ free → relB align size obs bs free l = true → ∀ r ∈ l, (0 ≤ r.off ∧ r.off ≤ size - 4) ∧ (0 ≤ r.glob ∧ r.glob ≤ (obs.length : Int) - 1) ∧ (0 ≤ r.add ∧ r.add ≤ szO obs r.glob)
  | [], _, _, _, r, hr => by cases hr
  | r :: l, free, h0, h, q, hq => by
    simp only [relB, rel1, rel2, withinP, Bool.and_eq_true, decide_eq_true_eq] at h
    obtain ⟨⟨_, ⟨h1, h2⟩, _⟩, ⟨⟨h3, h4⟩, h5, h6⟩, _, h7⟩ := h
    rcases List.mem_cons.1 hq with rfl | hq
    · exact ⟨⟨by omega, h2⟩, ⟨h3, h4⟩, h5, h6⟩
    · exact relB_all (free := r.off + 4) (by omega) h7 q hq
theorem tagP_len {l : List UInt8} (h : tagP l = true) : l.length ≤ 63 := by
  unfold tagP at h
  rcases Bool.or_eq_true _ _ ▸ h with h | h
  · unfold nameP at h
    cases l with
    | nil => simp
    | cons c r =>
      simp only [Bool.and_eq_true, decide_eq_true_eq] at h
      exact h.1.1
  · unfold numbP at h
    simp only [Bool.and_eq_true, decide_eq_true_eq] at h
    omega
theorem szO_le {l : List Ob} (h : ∀ o ∈ l, o.size ≤ 16384) (n : Int) : szO l n ≤ 16384 := by
  unfold szO
  cases e : l[n.toNat]? with
  | none => show (0 : Int) ≤ 16384; decide
  | some o => exact h o (List.mem_of_getElem? e)
theorem szS_le {l : List Slt} (h : ∀ o ∈ l, o.size ≤ 16384) (n : Int) : szS l n ≤ 16384 := by
  unfold szS
  cases e : l[n.toNat]? with
  | none => show (0 : Int) ≤ 16384; decide
  | some o => exact h o (List.mem_of_getElem? e)
theorem roomB_le {s a : Int} (h : roomB s a = true) : (1 ≤ s ∧ s ≤ 16384) ∧ (1 ≤ a ∧ a ≤ 4) := by
  simp only [roomB, widthB, withinP, Bool.and_eq_true, Bool.or_eq_true, beq_iff_eq, decide_eq_true_eq] at h
  omega
theorem str_len (s : ByteArray) : s.data.toList.length = s.size := by rw [Array.length_toList]; rfl
/-- What a right object is. -/
structure OgT (q : Og) : Prop where
  nm : tagP q.o.nm.data.toList = true
  rm : roomB q.o.size q.o.align = true
  bl : (q.bs.length : Int) = q.o.size
  rn : q.rls.length ≤ 100000
  rl : ∀ r ∈ q.rls, (0 ≤ r.off ∧ r.off ≤ 100000) ∧ (0 ≤ r.glob ∧ r.glob ≤ 100000) ∧ (0 ≤ r.add ∧ r.add ≤ 100000)
/-- What a right function is. -/
structure FgT (q : Fg) : Prop where
  nm : tagP q.f.nm.data.toList = true
  pr : 0 ≤ q.f.pr ∧ q.f.pr ≤ 8
  tp : 0 ≤ q.f.tp ∧ q.f.tp ≤ 4096
  sn : q.sls.length ≤ 256
  sl : ∀ s ∈ q.sls, roomB s.size s.align = true
  cn : q.code.length ≤ 16384
  ci : ∀ i ∈ q.code, RtI i.x
structure PgT (x : Pg) : Prop where
  on : x.obs.length ≤ 256
  ob : ∀ q ∈ x.obs, OgT q
  fn : x.fns.length ≤ 64
  fs : ∀ q ∈ x.fns, FgT q
  mn : 0 ≤ x.mn ∧ x.mn ≤ 64
theorem OgT.szs {q : Og} (h : OgT q) : (1 ≤ q.o.size ∧ q.o.size ≤ 16384) ∧ (1 ≤ q.o.align ∧ q.o.align ≤ 4) := roomB_le h.rm
theorem obj1_t {obs : List Ob} {q : Og} (hs : ∀ o ∈ obs, o.size ≤ 16384) (ho : obs.length ≤ 256) (h : obj1 obs q = true) : OgT q := by
  simp only [obj1, Bool.and_eq_true, beq_iff_eq] at h
  obtain ⟨h1, h2, h3, h4⟩ := h
  have k2 := roomB_le h2
  have k3 := relB_all (Int.le_refl 0) h4
  have k4 := relB_len h4
  have hl : q.rls.length ≤ 100000 := by
    rcases k4 with e | e
    · rw [e]; simp
    · omega
  refine ⟨h1, h2, h3, hl, fun r hr => ?_⟩
  have := k3 r hr
  have h9 := szO_le hs r.glob
  omega
theorem fun1_t {obs : List Ob} {fns : List Fn} {q : Fg} (hs : ∀ o ∈ obs, o.size ≤ 16384) (ho : obs.length ≤ 256) (hf : fns.length ≤ 64) (hp : ∀ f ∈ fns, f.pr ≤ 8) (hi : ∀ i ∈ q.code, ArOK i.x.a ∧ ArOK i.x.b ∧ ∀ a ∈ i.x.args, ArOK a) (h : fun1 obs fns q = true) : FgT q := by
  simp only [fun1, frameB, codeB, withinP, Bool.and_eq_true, decide_eq_true_eq, List.all_eq_true] at h
  obtain ⟨h1, ⟨⟨p0, p1⟩, ⟨t0, t1⟩, h3, h4⟩, ⟨c0, c1⟩, _, h6⟩ := h
  have B : Bd q.f.tp q.code.length q.sls obs fns := ⟨by omega, by omega, by omega, ho, hf, szS_le fun s hs => (roomB_le (h4 s hs)).1.2, szO_le hs, hp⟩
  exact ⟨h1, ⟨by omega, by omega⟩, ⟨by omega, by omega⟩, by omega, h4, by omega, fun i h => right_read B (hi i h).1 (hi i h).2.1 (hi i h).2.2 (h6 i h)⟩
/-- What a right program is. -/
theorem pgT_of {w : World} {x : Pg} {a : Pw} (hx : PgOK w x a) (h : checkB x = true) : PgT x := by
  simp only [checkB, objB, funsB, mainB, withinP, Bool.and_eq_true, decide_eq_true_eq, List.all_eq_true] at h
  obtain ⟨⟨ho, h1⟩, ⟨⟨f0, f1⟩, h2⟩, ⟨m0, m1⟩, _⟩ := h
  have hs : ∀ o ∈ x.obs.map Og.o, o.size ≤ 16384 := fun o ho => by
    obtain ⟨q, hq, rfl⟩ := List.mem_map.1 ho
    have := h1 q hq
    simp only [obj1, Bool.and_eq_true] at this
    exact (roomB_le this.2.1).1.2
  have hl : (x.obs.map Og.o).length ≤ 256 := by rw [List.length_map]; exact ho
  have h3 := funL_mem h2
  have hp : ∀ f ∈ x.fns.map Fg.f, f.pr ≤ 8 := fun f hf => by
    obtain ⟨q, hq, rfl⟩ := List.mem_map.1 hf
    have := h3 q hq
    simp only [fun1, frameB, withinP, Bool.and_eq_true, decide_eq_true_eq] at this
    exact this.2.1.1.2
  have hfl : (x.fns.map Fg.f).length ≤ 64 := by rw [List.length_map]; omega
  rw [List.length_map] at m1
  exact ⟨ho, fun q hq => obj1_t hs hl (h1 q hq), by omega, fun q hq => fun1_t hs hl hfl hp (q := q) (fun i hi => ⟨((hx.fi q hq).ci i hi).a, ((hx.fi q hq).ci i hi).b, ((hx.fi q hq).ci i hi).ao⟩) (h3 q hq), by omega, by omega⟩
theorem i64s {n : Int} (h0 : -100000 ≤ n) (h1 : n ≤ 100000) : I64 n := ⟨by omega, by omega⟩
theorem OgT.p {q : Og} (h : OgT q) : OgP q := by
  have h1 := h.szs
  have h2 := tagP_len h.nm
  rw [str_len] at h2
  have h3 := h.bl
  exact ⟨by omega, i64s (by omega) (by omega), i64s (by omega) (by omega), by omega, fun r hr => by
    have := h.rl r hr
    exact ⟨i64s (by omega) (by omega), i64s (by omega) (by omega), i64s (by omega) (by omega)⟩⟩
theorem FgT.p {q : Fg} (h : FgT q) : FgP q := by
  have h2 := tagP_len h.nm
  rw [str_len] at h2
  have h3 := h.pr
  have h4 := h.tp
  exact ⟨by omega, i64s (by omega) (by omega), i64s (by omega) (by omega), fun s hs => by
    have := roomB_le (h.sl s hs)
    exact ⟨i64s (by omega) (by omega), i64s (by omega) (by omega)⟩, fun i hi => ⟨(h.ci i hi).nn, by have := (h.ci i hi).o1; omega, by have := (h.ci i hi).o2; omega⟩⟩
theorem PgT.p {x : Pg} (h : PgT x) : PgP x := ⟨fun q hq => (h.fs q hq).p, i64s (by have := h.mn; omega) (by have := h.mn; omega)⟩
/-! Lines. -/
theorem cl_hd {x : In} (h : RtI x) : Cl (headW x) := by
  unfold headW
  have hm : ∀ s ∈ wordTab ++ opTab, Cl s := cl_tab
  have h1 := h.o1
  have h2 := h.o2
  split
  · unfold opName
    split
    · rename_i hb
      refine hm _ (List.mem_append_right _ ?_)
      rw [getD_at (show (x.bin - 1).toNat < opTab.length by show _ < 19; omega)]
      exact List.getElem_mem _
    · intro c hc; cases hc
  · refine hm _ (List.mem_append_left _ ?_)
    rw [getD_at (show x.op.toNat < wordTab.length by show _ < 15; omega)]
    exact List.getElem_mem _
theorem cl_fw (c : Nat) (x : In) : ∀ s ∈ fwW c x, Cl s := by
  intro s hs
  have one : ∀ {u : ByteArray}, s ∈ [u] → Cl u → Cl s := fun hu hc => by
    simp only [List.mem_cons, List.not_mem_nil, or_false] at hu
    rw [hu]; exact hc
  unfold fwW at hs
  repeat' split at hs
  · exact one hs (cl_tgt _)
  · exact cl_op s hs
  · exact cl_op s hs
  · exact one hs (cl_dec _)
  · exact one hs (cl_dec _)
  · exact one hs (cl_dec _)
  · obtain ⟨a, _, h⟩ := List.mem_flatMap.1 hs
    exact cl_op s h
  · refine one hs ?_
    have h : ∀ c ∈ (⟨#[115, 105, 103, 110, 101, 100]⟩ : ByteArray).data.toList, 33 ≤ c.toNat := by decide +kernel
    exact h
  · cases hs
theorem ln_ins {x : In} (h : RtI x) : LnOK (wordsP x) := ⟨by simp [wordsP], fun s hs => by
  rcases List.mem_cons.1 hs with rfl | hs
  · exact cl_hd h
  · obtain ⟨c, _, h⟩ := List.mem_flatMap.1 hs
    exact cl_fw c x s h⟩
theorem cl_lit {l : List UInt8} (h : (l.all fun c => decide (33 ≤ c.toNat)) = true) : Cl (sB l) := fun c hc => by simpa using List.all_eq_true.1 h c hc
theorem ln_four {l : List UInt8} (h : (l.all fun c => decide (33 ≤ c.toNat)) = true) {r : List ByteArray} (hr : ∀ s ∈ r, Cl s) : LnOK (sB l :: r) := ⟨by simp, fun s hs => by
  rcases List.mem_cons.1 hs with rfl | hs
  · exact cl_lit h
  · exact hr s hs⟩
theorem ln_slot (s : Slt) : LnOK (slotW s) := ln_four (by decide) fun t ht => by
  simp only [List.mem_cons, List.not_mem_nil, or_false] at ht
  rcases ht with rfl | rfl <;> exact cl_dec _
theorem ln_rel (s : Rl) : LnOK (relW s) := ln_four (by decide) fun t ht => by
  simp only [List.mem_cons, List.not_mem_nil, or_false] at ht
  rcases ht with rfl | rfl | rfl <;> exact cl_dec _
theorem ln_main (n : Int) : LnOK (mainW n) := ln_four (by decide) fun t ht => by
  simp only [List.mem_cons, List.not_mem_nil, or_false] at ht
  rcases ht with rfl; exact cl_dec _
theorem ln_obj {q : Og} (h : OgT q) : LnOK (obHeadW q.o) := ln_four (by decide) fun t ht => by
  simp only [List.mem_cons, List.not_mem_nil, or_false] at ht
  rcases ht with rfl | rfl | rfl
  · exact cl_tag h.nm
  · exact cl_dec _
  · exact cl_dec _
theorem hexD_33 (n : Nat) (h : n < 16) : 33 ≤ (hexD n).toNat := by
  have : ∀ n < 16, 33 ≤ (hexD n).toNat := by decide
  exact this n h
theorem ln_data {bs : List UInt8} : ∀ ws ∈ dataW bs, LnOK ws := fun ws hw => by
  unfold dataW at hw
  split at hw
  · simp only [List.mem_cons, List.not_mem_nil, or_false] at hw
    subst hw
    refine ln_four (by decide) fun t ht => ?_
    simp only [List.mem_cons, List.not_mem_nil, or_false] at ht
    subst ht
    intro c hc
    obtain ⟨b, _, hb⟩ := List.mem_flatMap.1 (show c ∈ hexT (bs.take (fillN bs bs.length)) from hc)
    have := b.toNat_lt
    simp only [List.mem_cons, List.not_mem_nil, or_false] at hb
    rcases hb with rfl | rfl
    · exact hexD_33 _ (by omega)
    · exact hexD_33 _ (by omega)
  · cases hw
theorem ln_fun {q : Fg} (h : FgT q) : LnOK (fnHeadW q.f) := by
  unfold fnHeadW
  refine ln_four (by decide) fun t ht => ?_
  have ht : t ∈ [q.f.nm, decS q.f.pr, decS q.f.tp] ++ (if q.f.gv then [sB [103, 105, 118, 101, 115]] else []) := ht
  rcases List.mem_append.1 ht with ht | ht
  · simp only [List.mem_cons, List.not_mem_nil, or_false] at ht
    rcases ht with rfl | rfl | rfl
    · exact cl_tag h.nm
    · exact cl_dec _
    · exact cl_dec _
  · split at ht
    · simp only [List.mem_cons, List.not_mem_nil, or_false] at ht
      subst ht; exact cl_lit (by decide)
    · cases ht
theorem PgT.lines {x : Pg} (h : PgT x) : ∀ ws ∈ pgLines x, LnOK ws := fun ws hw => by
  unfold pgLines at hw
  rcases List.mem_append.1 hw with hw | hw
  · rcases List.mem_append.1 hw with hw | hw
    · obtain ⟨q, hq, hw⟩ := List.mem_flatMap.1 hw
      unfold obLines at hw
      rcases List.mem_append.1 hw with hw | hw
      · rcases List.mem_append.1 hw with hw | hw
        · simp only [List.mem_cons, List.not_mem_nil, or_false] at hw
          subst hw; exact ln_obj (h.ob q hq)
        · exact ln_data ws hw
      · obtain ⟨r, _, rfl⟩ := List.mem_map.1 hw
        exact ln_rel r
    · obtain ⟨q, hq, hw⟩ := List.mem_flatMap.1 hw
      unfold fnLines at hw
      rcases List.mem_append.1 hw with hw | hw
      · rcases List.mem_append.1 hw with hw | hw
        · simp only [List.mem_cons, List.not_mem_nil, or_false] at hw
          subst hw; exact ln_fun (h.fs q hq)
        · obtain ⟨r, _, rfl⟩ := List.mem_map.1 hw
          exact ln_slot r
      · obtain ⟨i, hi, rfl⟩ := List.mem_map.1 hw
        exact ln_ins ((h.fs q hq).ci i hi)
  · simp only [List.mem_cons, List.not_mem_nil, or_false] at hw
    subst hw; exact ln_main _
end Go.Proofs.YtaaphipbkpjkjaaGreatDoor
