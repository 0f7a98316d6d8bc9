/- The given answer's Dec, and the words of operands and targets. -/
import Derived.Test.YtelaaaamnphbpaaGreatDoorKO
import Derived.Test.YtelaaaamnphbpaaGreatDoorKL
import Derived.WalkSpells
import Derived.WalkLawsBesides
import Derived.Laws.Concat
import Derived.Lib.ItoaNum
import Derived.LoopN
import Derived.Laws.BytesArg
namespace Go.Proofs.YtelaaaamnphbpaaGreatDoor
set_option maxHeartbeats 8000000
open Go.RowKit Go.Maps
set_option linter.unusedVariables false
set_option linter.unusedSimpArgs false
set_option maxRecDepth 100000
def finD (u : Nat) (d : ByteArray) : List UInt8 := if u = 0 then (if d.size = 0 then [48] else d.data.toList) else Lib.decDigits u ++ d.data.toList
theorem finD_step (u : Nat) (d : ByteArray) (h : 0 < u ∨ d.size = 0) : finD u d = finD (u / 10) (⟨#[UInt8.ofNat (48 + u % 10)]⟩ ++ d) := by
 have e2 : (⟨#[UInt8.ofNat (48 + u % 10)]⟩ ++ d : ByteArray).data.toList = UInt8.ofNat (48 + u % 10) :: d.data.toList := by
  have e : (ByteArray.append ⟨#[UInt8.ofNat (48 + u % 10)]⟩ d).data.toList = UInt8.ofNat (48 + u % 10) :: d.data.toList := by simp
  exact e
 have e3 : ¬ (⟨#[UInt8.ofNat (48 + u % 10)]⟩ ++ d : ByteArray).size = 0 := by
  rw [ByteArray.size_append]
  show ¬ 1 + d.size = 0
  omega
 unfold finD
 rw [e2, if_neg e3]
 by_cases h0 : u = 0
 ·subst h0
  have hd : d.size = 0 := by omega
  have hl : d.data.toList = [] := by
   apply List.eq_nil_of_length_eq_zero
   simpa using hd
  rw [if_pos rfl, if_pos hd, if_pos rfl, hl]
  rfl
 ·rw [if_neg h0]
  by_cases g : u < 10
  ·rw [if_pos (by omega), Lib.decDigits, dif_pos g, Nat.mod_eq_of_lt g]; rfl
  ·rw [if_neg (by omega), Lib.decDigits, dif_neg g]
   simp
def strZ : Value → Nat
 | .string s => if s.size = 0 then 1 else 0
 | _ => 0
theorem strZ_no {s : ByteArray} (h : ¬ s.size = 0) : strZ (.string s) = 0 := by simp [strZ, h]
theorem strZ_yes {s : ByteArray} (h : s.size = 0) : strZ (.string s) = 1 := by simp [strZ, h]
theorem dec_c (n : Int) (w : World) (h1 : -4294967295 ≤ n) (h2 : n ≤ 4294967295) :
 Calls Tryz.prog 94 #[.int .i64 n] w fun e w' => e = .returned (.string (decS n)) ∧ Below w.heap.size w w' := by
 obtain ⟨U, hU⟩ : ∃ U : Nat, U = n.natAbs := ⟨_, rfl⟩
 have hUb : U ≤ 4294967295 := by omega
 obtain ⟨SG, hSG⟩ : ∃ S : ByteArray, S = if n < 0 then ⟨#[45]⟩ else ⟨#[]⟩ := ⟨_, rfl⟩
 have hsz : SG.size ≤ 1 := by rw [hSG]; split <;> decide
 have hi : decS n = SG ++ ⟨(finD U ⟨#[]⟩).toArray⟩ := by
  apply Go.WideShapes.bytes_inj
  have e : (SG ++ (⟨(finD U ⟨#[]⟩).toArray⟩ : ByteArray) : ByteArray).data.toList = SG.data.toList ++ finD U ⟨#[]⟩ := by
   have e : (ByteArray.append SG ⟨(finD U ⟨#[]⟩).toArray⟩).data.toList = SG.data.toList ++ finD U ⟨#[]⟩ := by simp
   exact e
  rw [e, hSG, hU]
  unfold decS Lib.itoa finD
  by_cases h0 : n < 0
  ·rw [if_pos h0, if_pos h0, if_neg (by omega)]
   have : (-n).toNat = n.natAbs := by omega
   simp [this]
  ·rw [if_neg h0, if_neg h0]
   by_cases hz : n = 0
   ·subst hz; simp [Lib.decDigits]; rfl
   ·rw [if_neg (by omega)]
    have : n.toNat = n.natAbs := by omega
    simp [this]
 rw [hi]
 obtain ⟨F, hF⟩ : ∃ F, F = finD U ⟨#[]⟩ := ⟨_, rfl⟩
 rw [← hF]
 have HF : Hid (F = finD U ⟨#[]⟩) := hF
 have HSG : Hid (SG = if n < 0 then ⟨#[45]⟩ else ⟨#[]⟩) := hSG
 have HU : Hid (U = n.natAbs) := hU
 clear hF hi hU hSG
 by_cases h0 : n < 0
 ·have hc : IntKind.u64.wrap n = n + 18446744073709551616 := by simp [IntKind.wrap, IntKind.signed, IntKind.bits]; omega
  have hs : IntKind.u64.wrap (-IntKind.u64.wrap n) = (U : Int) := by have := HU.out; rw [hc]; simp [IntKind.wrap, IntKind.signed, IntKind.bits]; omega
  have d0 : decide (n < 0) = true := by simpa using h0
  obtain rfl : SG = ⟨#[45]⟩ := by rw [HSG.out, if_pos h0]
  clear hc h0
  go_enter Tryz.func94, Tryz.ntmps94
  go_wp2
  go_loopw [3, 5] (fun x s wr => ∃ (u : Nat) (d : ByteArray), x = .int .u64 u ∧ s = .string d ∧ u + d.size ≤ 4294967296 ∧ Hid (F = finD u d) ∧ Hid (Below w.heap.size w wr)) (fun x s _ => (intOf x).toNat + strZ s)
  case atStart => exact ⟨U, ⟨#[]⟩, rfl, rfl, by show U + 0 ≤ _; omega, HF, Below.refl _ _⟩
  case round =>
   obtain ⟨u, d, rfl, rfl, hs, HD, HB⟩ := hrel
   by_cases h0 : 0 < u ∨ d.size = 0
   ·have HN : Hid (_ = _) := finD_step u d h0
    obtain ⟨c, hc⟩ : ∃ c : UInt8, c = UInt8.ofNat (48 + u % 10) := ⟨_, rfl⟩
    have hcn : (c.toNat : Int) = 48 + (u : Int) % 10 := by
     rw [hc]
     have : (UInt8.ofNat (48 + u % 10)).toNat = (48 + u % 10) % 2 ^ 8 := by simp
     omega
    rw [← hc] at HN
    clear hc
    have k1 := fun W => run_string_add_sum (P := Tryz.prog) W ⟨#[c]⟩ d (by show 1 + d.size ≤ _; omega)
    have hconv : (convert 67 9 (.slice (some ⟨wr.heap.size, 0, none⟩) 1 1)).run Tryz.prog (wr.alloc (.cells #[.int .u8 (48 + (u : Int) % 10)] 5)) = .ok (.string ⟨#[c]⟩) (wr.alloc (.cells #[.int .u8 (48 + (u : Int) % 10)] 5)) := by
     refine run_convert_bytes_back _ 67 9 5 ⟨wr.heap.size, 0, none⟩ 1 [c] Tryz.underlying67 Tryz.underlying5 Tryz.underlying9 (fun j hj => ?_)
     have hj0 : j = 0 := by simpa using hj
     subst hj0
     show World.cell? _ ⟨wr.heap.size, 0, none⟩ = some (.int .u8 (c.toNat : Int))
     rw [hcn]
     exact World.cell?_alloc_at _ _ _ _ rfl
    have HB2 : Hid (Below w.heap.size w (wr.alloc (.cells #[.int .u8 (48 + (u : Int) % 10)] 5))) := HB.out.alloc HB.out.size _
    have hsz : (⟨#[c]⟩ ++ d : ByteArray).size = 1 + d.size := by rw [ByteArray.size_append]; rfl
    have HSZ : Hid (_ = _) := hsz
    clear hsz hcn
    have hu10 : u / 10 + (1 + d.size) ≤ 4294967296 := by omega
    by_cases hu : 0 < u
    ·have hd : decide ((0 : Int) < u) = true := by simpa using hu
     clear h0
     go_wp2
     go_roundw
     case rel => exact ⟨u / 10, _, by go_num, rfl, by rw [HSZ.out]; exact hu10, by show F = _; rw [← HN.out]; exact HD.out, HB2⟩
     case measure =>
      have e : strZ (.string (⟨#[c]⟩ ++ d)) = 0 := strZ_no (by rw [HSZ.out]; omega)
      simp only [e, intOf]
      omega
    ·have hd : decide ((0 : Int) < u) = false := by simpa using hu
     have hz : d.size = 0 := by omega
     have hde : (d.toList == []) = true := by
      rw [ByteArray.toList_eq]
      have : d.data.toList = [] := List.eq_nil_of_length_eq_zero (by simpa using hz)
      rw [this]; rfl
     have e0 : strZ (.string d) = 1 := strZ_yes hz
     have E0 : Hid (_ = _) := e0
     clear h0 e0 hz
     go_wp2
     go_roundw
     case rel => exact ⟨u / 10, _, by go_num, rfl, by rw [HSZ.out]; exact hu10, by show F = _; rw [← HN.out]; exact HD.out, HB2⟩
     case measure =>
      have e : strZ (.string (⟨#[c]⟩ ++ d)) = 0 := strZ_no (by rw [HSZ.out]; omega)
      simp only [e, E0.out, intOf]
      omega
   ·have hu : u = 0 := by omega
    have hz : d.size ≠ 0 := by omega
    subst hu
    have he : (d.toList == []) = false := by
     rw [ByteArray.toList_eq, beq_eq_false_iff_ne]
     intro e
     exact hz (by have := congrArg List.length e; simpa using this)
    have k1 := fun W => run_string_add_sum (P := Tryz.prog) W ⟨#[45]⟩ d (by omega)
    have hfin : (⟨F.toArray⟩ : ByteArray) = d := by
     rw [HD.out]; unfold finD; rw [if_pos rfl, if_neg hz]
    have HFI : Hid (_ = _) := hfin
    clear h0 hfin hz
    go_wp2
    go_ret
    exact ⟨by rw [HFI.out]; rfl, HB.out⟩
 ·have hc : IntKind.u64.wrap n = (U : Int) := by have := HU.out; simp [IntKind.wrap, IntKind.signed, IntKind.bits]; omega
  have d0 : decide (n < 0) = false := by simpa using h0
  obtain rfl : SG = ⟨#[]⟩ := by rw [HSG.out, if_neg h0]
  clear h0
  go_enter Tryz.func94, Tryz.ntmps94
  go_wp2
  go_loopw [3, 5] (fun x s wr => ∃ (u : Nat) (d : ByteArray), x = .int .u64 u ∧ s = .string d ∧ u + d.size ≤ 4294967296 ∧ Hid (F = finD u d) ∧ Hid (Below w.heap.size w wr)) (fun x s _ => (intOf x).toNat + strZ s)
  case atStart => exact ⟨U, ⟨#[]⟩, rfl, rfl, by show U + 0 ≤ _; omega, HF, Below.refl _ _⟩
  case round =>
   obtain ⟨u, d, rfl, rfl, hs, HD, HB⟩ := hrel
   by_cases h0 : 0 < u ∨ d.size = 0
   ·have HN : Hid (_ = _) := finD_step u d h0
    obtain ⟨c, hc⟩ : ∃ c : UInt8, c = UInt8.ofNat (48 + u % 10) := ⟨_, rfl⟩
    have hcn : (c.toNat : Int) = 48 + (u : Int) % 10 := by
     rw [hc]
     have : (UInt8.ofNat (48 + u % 10)).toNat = (48 + u % 10) % 2 ^ 8 := by simp
     omega
    rw [← hc] at HN
    clear hc
    have k1 := fun W => run_string_add_sum (P := Tryz.prog) W ⟨#[c]⟩ d (by show 1 + d.size ≤ _; omega)
    have hconv : (convert 67 9 (.slice (some ⟨wr.heap.size, 0, none⟩) 1 1)).run Tryz.prog (wr.alloc (.cells #[.int .u8 (48 + (u : Int) % 10)] 5)) = .ok (.string ⟨#[c]⟩) (wr.alloc (.cells #[.int .u8 (48 + (u : Int) % 10)] 5)) := by
     refine run_convert_bytes_back _ 67 9 5 ⟨wr.heap.size, 0, none⟩ 1 [c] Tryz.underlying67 Tryz.underlying5 Tryz.underlying9 (fun j hj => ?_)
     have hj0 : j = 0 := by simpa using hj
     subst hj0
     show World.cell? _ ⟨wr.heap.size, 0, none⟩ = some (.int .u8 (c.toNat : Int))
     rw [hcn]
     exact World.cell?_alloc_at _ _ _ _ rfl
    have HB2 : Hid (Below w.heap.size w (wr.alloc (.cells #[.int .u8 (48 + (u : Int) % 10)] 5))) := HB.out.alloc HB.out.size _
    have hsz : (⟨#[c]⟩ ++ d : ByteArray).size = 1 + d.size := by rw [ByteArray.size_append]; rfl
    have HSZ : Hid (_ = _) := hsz
    clear hsz hcn
    have hu10 : u / 10 + (1 + d.size) ≤ 4294967296 := by omega
    by_cases hu : 0 < u
    ·have hd : decide ((0 : Int) < u) = true := by simpa using hu
     clear h0
     go_wp2
     go_roundw
     case rel => exact ⟨u / 10, _, by go_num, rfl, by rw [HSZ.out]; exact hu10, by show F = _; rw [← HN.out]; exact HD.out, HB2⟩
     case measure =>
      have e : strZ (.string (⟨#[c]⟩ ++ d)) = 0 := strZ_no (by rw [HSZ.out]; omega)
      simp only [e, intOf]
      omega
    ·have hd : decide ((0 : Int) < u) = false := by simpa using hu
     have hz : d.size = 0 := by omega
     have hde : (d.toList == []) = true := by
      rw [ByteArray.toList_eq]
      have : d.data.toList = [] := List.eq_nil_of_length_eq_zero (by simpa using hz)
      rw [this]; rfl
     have e0 : strZ (.string d) = 1 := strZ_yes hz
     have E0 : Hid (_ = _) := e0
     clear h0 e0 hz
     go_wp2
     go_roundw
     case rel => exact ⟨u / 10, _, by go_num, rfl, by rw [HSZ.out]; exact hu10, by show F = _; rw [← HN.out]; exact HD.out, HB2⟩
     case measure =>
      have e : strZ (.string (⟨#[c]⟩ ++ d)) = 0 := strZ_no (by rw [HSZ.out]; omega)
      simp only [e, E0.out, intOf]
      omega
   ·have hu : u = 0 := by omega
    have hz : d.size ≠ 0 := by omega
    subst hu
    have he : (d.toList == []) = false := by
     rw [ByteArray.toList_eq, beq_eq_false_iff_ne]
     intro e
     exact hz (by have := congrArg List.length e; simpa using this)
    have k1 := fun W => run_string_add_sum (P := Tryz.prog) W ⟨#[]⟩ d (by omega)
    have hfin : (⟨F.toArray⟩ : ByteArray) = d := by
     rw [HD.out]; unfold finD; rw [if_pos rfl, if_neg hz]
    have HFI : Hid (_ = _) := hfin
    clear h0 hfin hz
    go_wp2
    go_ret
    exact ⟨by rw [HFI.out]; rfl, HB.out⟩
def argT (a : Ar) : ByteArray := if a.kind = 1 then pre 116 (natS a.n.toNat) else if a.kind = 2 then pre 35 (natS a.n.toNat) else ⟨#[]⟩
section
variable {w : World}
theorem rdec_c (n : Int) (w : World) (h1 : -4294967295 ≤ n) (h2 : n ≤ 4294967295) :
 Calls Tryz.prog 64 #[.int .i64 n] w fun e w' => e = .returned (.string (decS n)) ∧ Below w.heap.size w w' := by
 have c := dec_c n w h1 h2
 generalize decS n = S at *
 clear h1 h2
 go_enter Tryz.func64, Tryz.ntmps64
 go_wp2_with (first | (go_at_call 94; refine c.mono ?_; rintro e w2 ⟨rfl, hb2⟩; have HB2 : Hid (Below w.heap.size w w2) := hb2; clear hb2) | fail)
 go_ret
 exact ⟨rfl, HB2.out⟩
end
end Go.Proofs.YtelaaaamnphbpaaGreatDoor