/-
  Declare and Row where there is no such type, or the name may not be.
  What the two functions Declare answer, and what they need of rows. (Pure.)
  The given answer's function Dec: the decimal numeral of a number that is not below 1 and at most 16384.
  The given answer's function Declare: the same declaration as the program's.
-/
import Derived.Test.YtdfkkflpcamhjaaGreatDoorDeclare
import Derived.Test.YtdfkkflpcamhjaaGreatDoorProg
import Derived.WalkKit
import Derived.WalkSpells
import Derived.WalkLawsBesides
import Derived.Below
import Derived.Laws.Concat
import Derived.Lib.ItoaNum
import Derived.LoopN
import Derived.Laws.BytesArg
import Derived.Test.YtdfkkflpcamhjaaGreatDoorPBase
import Derived.Test.YtdfkkflpcamhjaaGreatDoorRefTag
import Derived.Deep.QuietTactic
import Derived.BigQuiet
import Derived.Test.YtdfkkflpcamhjaaGreatDoorRows1
namespace Go.Proofs.YtdfkkflpcamhjaaGreatDoor
open Go.RowKit Go.Maps
set_option linter.unusedVariables false
set_option maxRecDepth 100000
/-- Which kinds stand where. -/
structure Based (rs : List (Rw × Value)) : Prop where
  low : ∀ (i : Nat) (p : Rw × Value), rs[i]? = some p → i < 11 → p.1.kind = 1 + (i : Int)
  high : ∀ (i : Nat) (p : Rw × Value), rs[i]? = some p → 11 ≤ i → derivd p.1 = false → p.1.kind = 12 ∨ p.1.kind = 15 ∨ p.1.kind = 16
  lens : ∀ p ∈ rs, p.1.kind = 14 → p.1.len = -1 ∨ 1 ≤ p.1.len
/-- What both functions Declare answer. -/
def declS (rs : List (Rw × Value)) (i : Nat) (r : Rw) (nm : ByteArray) : ByteArray :=
  if (declL rs (i + 1) r nm).2.toList == [] then baseP (declL rs (i + 1) r nm).1 else baseP (declL rs (i + 1) r nm).1 ++ ⟨#[32]⟩ ++ (declL rs (i + 1) r nm).2
theorem around_ptr (d : ByteArray) (r : Rw) (hk : r.kind = 13) (ek : Int) (he : ek = 14) : (⟨#[40]⟩ ++ (⟨#[42]⟩ ++ d) ++ ⟨#[41]⟩ : ByteArray) = aroundP d r ek := by
  unfold aroundP
  rw [if_neg (by omega), if_pos he, ← ByteArray.append_assoc]
  rfl
end Go.Proofs.YtdfkkflpcamhjaaGreatDoor
namespace Go.Proofs.YtdfkkflpcamhjaaGreatDoor
open Go.RowKit
set_option linter.unusedVariables false
set_option maxRecDepth 100000

/-- What is still to be written, and what is. -/
def finD (u : Nat) (d : ByteArray) : List UInt8 := if u = 0 then d.data.toList else Lib.decDigits u ++ d.data.toList
theorem finD_step (u : Nat) (d : ByteArray) (h : 0 < u) : finD u d = finD (u / 10) (⟨#[UInt8.ofNat (48 + u % 10)]⟩ ++ d) := by
  unfold finD
  have e : (ByteArray.append ⟨#[UInt8.ofNat (48 + u % 10)]⟩ d).data.toList = UInt8.ofNat (48 + u % 10) :: d.data.toList := by
    simp
  have e2 : (⟨#[UInt8.ofNat (48 + u % 10)]⟩ ++ d : ByteArray).data.toList = UInt8.ofNat (48 + u % 10) :: d.data.toList := e
  rw [if_neg (by omega), e2]
  by_cases g : u < 10
  · rw [if_pos (by omega), Lib.decDigits, dif_pos g, Nat.mod_eq_of_lt g]; rfl
  · rw [if_neg (by omega), Lib.decDigits, dif_neg g]
    simp
set_option maxHeartbeats 4000000 in
theorem dec_c (n : Nat) (w : World) (h1 : 1 ≤ n) (h2 : n ≤ 16384) :
    Calls Tryz.prog 66 #[.int .i64 n] w fun e w' => e = .returned (.string ⟨(Lib.itoa n).toArray⟩) ∧ Below w.heap.size w w' := by
  have hi : Lib.itoa (n : Int) = finD n ⟨#[]⟩ := by
    unfold Lib.itoa finD
    rw [if_neg (by omega), if_neg (by omega)]
    simp
  rw [hi]
  obtain ⟨F, hF⟩ : ∃ F, F = finD n ⟨#[]⟩ := ⟨_, rfl⟩
  rw [← hF]
  have HF : Hid (F = finD n ⟨#[]⟩) := hF
  clear hF hi
  go_enter Tryz.func66, Tryz.ntmps66
  go_wp2
  go_loopw [3, 5] (fun x s wr => ∃ (u : Nat) (d : ByteArray), x = .int .u64 u ∧ s = .string d ∧ u + d.size ≤ 16384 ∧ (u = 0 → (d.toList == []) = false) ∧ Hid (F = finD u d) ∧ Hid (Below w.heap.size w wr)) (fun x _ _ => (intOf x).toNat)
  case atStart => exact ⟨n, ⟨#[]⟩, rfl, rfl, by show n + 0 ≤ _; omega, by intro h; omega, HF, Below.refl _ _⟩
  case round =>
    obtain ⟨u, d, rfl, rfl, hs, hne, HD, HB⟩ := hrel
    by_cases h0 : 0 < u
    · have hd : decide ((0 : Int) < u) = true := by simpa using h0
      have HN : Hid (_ = _) := finD_step u d h0
      obtain ⟨c, hc⟩ : ∃ c : UInt8, c = UInt8.ofNat (48 + u % 10) := ⟨_, rfl⟩
      have hcn : (c.toNat : Int) = 48 + (u : Int) % 10 := by
        rw [hc]
        have : (UInt8.ofNat (48 + u % 10)).toNat = (48 + u % 10) % 2 ^ 8 := by simp
        omega
      rw [← hc] at HN
      clear hc
      have k1 := fun W => run_string_add_sum (P := Tryz.prog) W ⟨#[c]⟩ d (by show 1 + d.size ≤ _; omega)
      have hconv : (convert 108 9 (.slice (some ⟨wr.heap.size, 0, none⟩) 1 1)).run Tryz.prog (wr.alloc (.cells #[.int .u8 (48 + (u : Int) % 10)] 5)) = .ok (.string ⟨#[c]⟩) (wr.alloc (.cells #[.int .u8 (48 + (u : Int) % 10)] 5)) := by
        refine run_convert_bytes_back _ 108 9 5 ⟨wr.heap.size, 0, none⟩ 1 [c] Tryz.underlying108 Tryz.underlying5 Tryz.underlying9 (fun j hj => ?_)
        have hj0 : j = 0 := by simpa using hj
        subst hj0
        show World.cell? _ ⟨wr.heap.size, 0, none⟩ = some (.int .u8 (c.toNat : Int))
        rw [hcn]
        exact World.cell?_alloc_at _ _ _ _ rfl
      have HB2 : Hid (Below w.heap.size w (wr.alloc (.cells #[.int .u8 (48 + (u : Int) % 10)] 5))) := HB.out.alloc HB.out.size _
      have hsz : (⟨#[c]⟩ ++ d : ByteArray).size = 1 + d.size := by rw [ByteArray.size_append]; rfl
      have HSZ : Hid (_ = _) := hsz
      clear hne hsz hcn
      go_wp2
      go_roundw
      case rel => exact ⟨u / 10, _, by go_num, rfl, by rw [HSZ.out]; omega, fun _ => by rw [ByteArray.toList_eq]; simp, by show F = _; rw [← HN.out]; exact HD.out, HB2⟩
      case measure => simp [intOf]; omega
    · have hu : u = 0 := by omega
      subst hu
      have he := hne rfl
      have k1 := fun W => run_string_add_sum (P := Tryz.prog) W ⟨#[]⟩ d (by show 0 + d.size ≤ _; omega)
      have hfin : F.toArray = (⟨#[]⟩ ++ d : ByteArray).data := by
        rw [HD.out]; unfold finD; rw [if_pos rfl]; simp
      have HFI : Hid (_ = _) := hfin
      clear hne hfin
      go_wp2
      go_ret
      exact ⟨by rw [HFI.out]; rfl, HB.out⟩
end Go.Proofs.YtdfkkflpcamhjaaGreatDoor
namespace Go.Proofs.YtdfkkflpcamhjaaGreatDoor
open Go.RowKit Go.Maps
set_option linter.unusedVariables false
set_option maxRecDepth 100000
section
variable {w : World} {b : Nat} {v : Value} {rs : List (Rw × Value)}
theorem below_drawn {B : Nat} {a w : World} (h : Below B a w) (n : Nat) : Below B a (w.drewN n) := ⟨h.os, h.tape, h.output, h.size, h.block⟩
theorem rBase_c (h : RT w b v rs) (hB : Based rs) {i : Nat} {p : Rw × Value} (hp : rs[i]? = some p) (hd : derivd p.1 = false) (ht : p.1.tag.size ≤ 100) :
    Calls Tryz.prog 67 #[.pointer (some ⟨b, 0, none⟩), .int .i64 i] w fun e w' => e = .returned (.string (baseP p.1)) ∧ Below w.heap.size w w' := by
  by_cases hi : i < 11
  · have hk := hB.low i p hp hi
    have hlen : nameTab.length = 11 := rfl
    have e : baseP p.1 = nameTab[i]'(by omega) := by
      unfold baseP
      rw [if_neg (by omega), if_neg (by omega), if_neg (by omega), show (p.1.kind - 1).toNat = i by omega, List.getElem?_eq_getElem (by omega)]
      rfl
    rw [e]
    exact rBase_low h i hi _ (List.getElem?_eq_getElem (by omega))
  · exact rBase_high h hp (by omega) (hB.high i p hp (by omega) hd) ht

set_option maxHeartbeats 8000000 in
theorem rDeclare_c (h : RT w b v rs) (hF : Fine rs) (hB : Based rs) (nm : ByteArray) (hs : nm.size ≤ 100) (hnm : (nm.toList == []) = true ∨ ((nm.toList == []) = false ∧ tagP nm.data.toList = true)) {i : Nat} {p : Rw × Value} (hp : rs[i]? = some p) :
    Calls Tryz.prog 32 #[.pointer (some ⟨b, 0, none⟩), .int .i64 i, .string nm] w fun e w' => e = .returned (.tuple #[.string (declS rs i p.1 nm), .int .i64 0]) ∧ Below w.heap.size w w' := by
  have hlt : i < rs.length := (List.getElem?_eq_some_iff.1 hp).1
  have c1 := rHas_c h i
  rw [hasP_nat hlt] at c1
  have c3 := refTag_c nm w (by omega)
  have hln := h.len
  have n1 := not_t
  have n2 := not_f
  obtain ⟨RES, hres⟩ : ∃ RES : ByteArray, RES = declS rs i p.1 nm := ⟨_, rfl⟩
  rw [← hres]
  obtain ⟨D, hD⟩ : ∃ D, D = declL rs (i + 1) p.1 nm := ⟨_, rfl⟩
  have HD0 : Hid (D = declL rs (i + 1) p.1 nm) := hD
  have HRES : Hid (RES = if D.2.toList == [] then baseP D.1 else baseP D.1 ++ ⟨#[32]⟩ ++ D.2) := by show _ = _; rw [hres, hD]; rfl
  clear hres hD
  obtain ⟨g, o, cap, rfl, hcap, _⟩ := h.at hp
  have HH : Hid (RT w b (.slice (some ⟨g, o, none⟩) rs.length cap) rs) := h
  have HF : Hid (Fine rs) := hF
  have HBS : Hid (Based rs) := hB
  have HP : Hid (rs[i]? = some p) := hp
  clear h hF hB hp
  rcases hnm with he | ⟨he, ht⟩
  all_goals go_enter Tryz.func32, Tryz.ntmps32
  · go_wp2_with (first | (go_at_call 30; refine c1.mono ?_; rintro e w' ⟨rfl, hw⟩; rw [hw]; clear hw w'))
    clear c1 c3
    go_loopw [1, 8] (fun iv sv wr => ∃ (k : Nat) (q : Rw × Value) (d : ByteArray), rs[k]? = some q ∧ iv = .int .i64 k ∧ sv = .string d ∧ k ≤ i ∧ d.size + 110 * k ≤ 100 + 110 * i ∧ Hid (D = declL rs (k + 1) q.1 d) ∧ Hid (Below w.heap.size w wr)) (fun iv _ _ => (intOf iv).toNat)
    case atStart => exact ⟨i, p, nm, HP.out, rfl, rfl, Nat.le_refl _, by omega, HD0, Below.refl _ _⟩
    case round =>
      obtain ⟨k, q, d, hk, rfl, rfl, hki, hds, HD, HB⟩ := hrel
      have hkm := List.mem_of_getElem? hk
      have hkl : k < rs.length := (List.getElem?_eq_some_iff.1 hk).1
      have hRT := HH.out.below HB.out
      have q0 := hRT.cell
      obtain ⟨sp, sn, sc, hsl⟩ : ∃ sp sn sc, q.2 = .slice sp sn sc := by
        rcases hRT.rows.2 q hkm with ⟨e, _⟩ | ⟨_, _, _, e, _⟩
        · exact ⟨_, _, _, e⟩
        · exact ⟨_, _, _, e⟩
      obtain ⟨g2, o2, cap2, hv2, _, hcell⟩ := hRT.at hk
      cases hv2
      have a0 := hcell 0 (by omega)
      have a1 := hcell 1 (by omega)
      have a2 := hcell 2 (by omega)
      have a3 := hcell 3 (by omega)
      have a4 := hcell 4 (by omega)
      have a5 := hcell 5 (by omega)
      obtain ⟨hl1, hl2, hl3⟩ := HF.out.lens _ hkm
      have htg := HF.out.tags _ hkm
      have hln14 := HBS.out.lens _ hkm
      obtain ⟨r, s0⟩ := q
      simp only at hsl
      subst hsl
      simp only [rwCells, Nat.add_zero, List.getElem?_cons_zero, List.getElem?_cons_succ] at a0 a1 a2 a3 a4 a5 hl1 hl2 hl3 htg hln14
      have HRT : Hid (RT wr b (.slice (some ⟨g, o, none⟩) rs.length cap) rs) := hRT
      have HK : Hid (rs[k]? = some (r, .slice sp sn sc)) := hk
      clear hcell hRT hkm hk
      cases hdv : derivd r with
      | true =>
        obtain ⟨he0, he1⟩ := HF.out.ahead k _ HK.out hdv
        simp only at he0 he1
        obtain ⟨e, hee⟩ : ∃ e : Nat, r.elem = e := ⟨r.elem.toNat, by omega⟩
        have hek : e < k := by omega
        obtain ⟨p1, hp1⟩ : ∃ p1, rs[r.elem.toNat]? = some p1 := ⟨_, List.getElem?_eq_getElem (by omega)⟩
        have HN : Hid (declL rs (k + 1) r d = declL rs (r.elem.toNat + 1) p1.1 (aroundP d r p1.1.kind)) := by
          show _ = _
          rw [declL_step rs k r d _ hdv hp1, declL_more rs HF.out _ _ _ k hp1 (by omega)]
        have hsz := aroundP_size d r p1.1.kind hl3
        rw [hee, Int.toNat_natCast] at hp1 HN
        obtain ⟨g2, o2, cap2, hv2, _, hcell⟩ := HRT.out.at hp1
        cases hv2
        have e0 := hcell 0 (by omega)
        simp only [rwCells, Nat.add_zero, List.getElem?_cons_zero] at e0
        have hd2 : r.kind = 13 ∨ r.kind = 14 := by simpa [derivd] using hdv
        have HP1 : Hid (rs[e]? = some p1) := hp1
        have hold := heap_r0 wr (.cells #[.int .i64 0, .int .i64 0, .int .i64 0, .string ⟨#[]⟩, .slice none 0 0, .bool false] TR)
        have y0 := cell_old (.cells #[.int .i64 r.kind, .int .i64 r.elem, .int .i64 r.len, .string r.tag, .slice sp sn sc, .bool r.done] TR) q0
        have y1 := cell_old (.cells #[.int .i64 r.kind, .int .i64 r.elem, .int .i64 r.len, .string r.tag, .slice sp sn sc, .bool r.done] TR) e0
        have HW : Hid (Below w.heap.size w (wr.alloc (.cells #[.int .i64 r.kind, .int .i64 r.elem, .int .i64 r.len, .string r.tag, .slice sp sn sc, .bool r.done] TR))) := HB.out.alloc HB.out.size _
        rw [hee] at y0 y1 HW a1
        clear hcell hp1 hdv
        obtain ⟨kd, el, ln, tg, mm, dn⟩ := r
        obtain ⟨⟨k1, el1, ln1, tg1, mm1, dn1⟩, s1⟩ := p1
        simp only at hee hd2 HN hsz y0 y1 HW a0 a1 a2 a3 a4 a5 hl1 hl2 hl3 he0 he1 hln14
        have HEE : Hid (el = (e : Int)) := hee
        clear hee he0 he1 e0
        rcases hd2 with rfl | rfl
        · have ks1 := fun W => run_string_add_sum (P := Tryz.prog) W ⟨#[42]⟩ d (by show 1 + d.size ≤ _; omega)
          have sz1 : (⟨#[42]⟩ ++ d : ByteArray).size = 1 + d.size := by rw [ByteArray.size_append]; rfl
          by_cases h14 : k1 = 14
          · subst h14
            have ks2 := fun W => run_string_add_sum (P := Tryz.prog) W ⟨#[40]⟩ (⟨#[42]⟩ ++ d) (by rw [sz1]; show 1 + _ ≤ _; omega)
            have sz2 : (⟨#[40]⟩ ++ (⟨#[42]⟩ ++ d) : ByteArray).size = 2 + d.size := by rw [ByteArray.size_append, sz1]; show 1 + _ = _; omega
            have ks3 := fun W => run_string_add_sum (P := Tryz.prog) W (⟨#[40]⟩ ++ (⟨#[42]⟩ ++ d)) ⟨#[41]⟩ (by rw [sz2]; show _ + 1 ≤ _; omega)
            have HAR : Hid (_ = _) := around_ptr d ⟨13, el, ln, tg, mm, dn⟩ rfl 14 rfl
            clear sz1 sz2
            go_wp2_with ((with_reducible apply step_store hold); rfl; rfl; kernel_rfl; rfl; kernel_rfl; rw [World.setRow_alloc_new])
            go_quiet (fail)
            go_wp2
            go_roundw
            case rel => exact ⟨e, _, _, HP1.out, rfl, rfl, by omega, by rw [HAR.out]; omega, by show D = _; rw [HD.out, HN.out, HAR.out], below_drawn HW.out _⟩
            case measure => simp [intOf]; omega
          · have b14 : (k1 == 14) = false := by simpa using h14
            have HAR : Hid (⟨#[42]⟩ ++ d = aroundP d ⟨13, el, ln, tg, mm, dn⟩ k1) := by
              show _ = _
              unfold aroundP
              rw [if_neg (show ¬ (13 : Int) = 14 by decide), if_neg h14]
            clear sz1
            go_wp2_with ((with_reducible apply step_store hold); rfl; rfl; kernel_rfl; rfl; kernel_rfl; rw [World.setRow_alloc_new])
            go_quiet (fail)
            go_wp2
            go_roundw
            case rel => exact ⟨e, _, _, HP1.out, rfl, rfl, by omega, by rw [HAR.out]; omega, by show D = _; rw [HD.out, HN.out, HAR.out], below_drawn HW.out _⟩
            case measure => simp [intOf]; omega
        · by_cases hl : ln = -1
          · subst hl
            have ks1 := fun W => run_string_add_sum (P := Tryz.prog) W d ⟨#[91, 93]⟩ (by show d.size + 2 ≤ _; omega)
            have HAR : Hid (d ++ ⟨#[91, 93]⟩ = aroundP d ⟨14, el, -1, tg, mm, dn⟩ k1) := rfl
            go_wp2_with ((with_reducible apply step_store hold); rfl; rfl; kernel_rfl; rfl; kernel_rfl; rw [World.setRow_alloc_new])
            go_roundw
            case rel => exact ⟨e, _, _, HP1.out, rfl, rfl, by omega, by rw [HAR.out]; omega, by show D = _; rw [HD.out, HN.out, HAR.out], HW.out⟩
            case measure => simp [intOf]; omega
          · have hl1 : 1 ≤ ln := by have := hln14 rfl; omega
            obtain ⟨n, rfl⟩ : ∃ n : Nat, ln = n := ⟨ln.toNat, by omega⟩
            have hlt0 : decide ((n : Int) < 0) = false := by simp
            have cD := fun W => dec_c n W (by omega) (by omega)
            have HAR : Hid (d ++ ⟨#[91]⟩ ++ ⟨(Lib.itoa n).toArray⟩ ++ ⟨#[93]⟩ = aroundP d ⟨14, el, n, tg, mm, dn⟩ k1) := by
              show _ = _
              unfold aroundP
              rw [if_pos rfl, if_neg hl]
            generalize Lib.itoa n = T at *
            have sT : (ByteArray.mk T.toArray).size = T.length := by simp [ByteArray.size]
            have ks1 := fun W => run_string_add_sum (P := Tryz.prog) W d ⟨#[91]⟩ (by show d.size + 1 ≤ _; omega)
            have s1 : (d ++ ⟨#[91]⟩ : ByteArray).size = d.size + 1 := by rw [ByteArray.size_append]; rfl
            have ks2 := fun W => run_string_add_sum (P := Tryz.prog) W (d ++ ⟨#[91]⟩) ⟨T.toArray⟩ (by rw [s1, sT]; omega)
            have s2 : (d ++ ⟨#[91]⟩ ++ ⟨T.toArray⟩ : ByteArray).size = d.size + 1 + T.length := by rw [ByteArray.size_append, s1, sT]
            have ks3 := fun W => run_string_add_sum (P := Tryz.prog) W (d ++ ⟨#[91]⟩ ++ ⟨T.toArray⟩) ⟨#[93]⟩ (by rw [s2]; show d.size + 1 + T.length + 1 ≤ _; omega)
            clear s1 s2 sT
            have hlw : wr.heap.size < (wr.alloc (.cells #[.int .i64 14, .int .i64 e, .int .i64 n, .string tg, .slice sp sn sc, .bool dn] TR)).heap.size := by simp
            have z1 : (wr.alloc (.cells #[.int .i64 14, .int .i64 e, .int .i64 n, .string tg, .slice sp sn sc, .bool dn] TR)).cell? ⟨wr.heap.size, 1, none⟩ = some (.int .i64 e) := by rw [Lib.cell_of_heap (heap_r0 wr _)]; rfl
            go_wp2_with (first | (go_at_call 66; refine (cD _).mono ?_; rintro x w3 ⟨rfl, hb3⟩; have z2 := (hb3.cell (p := ⟨wr.heap.size, 1, none⟩) hlw).trans z1; have HB3 : Hid (Below w.heap.size w w3) := HW.out.trans (hb3.mono HW.out.size); clear hb3) | ((with_reducible apply step_store hold); rfl; rfl; kernel_rfl; rfl; kernel_rfl; rw [World.setRow_alloc_new]))
            go_roundw
            case rel => exact ⟨e, _, _, HP1.out, rfl, rfl, by omega, by rw [HAR.out]; omega, by show D = _; rw [HD.out, HN.out, HAR.out], HB3.out⟩
            case measure => simp [intOf]; omega
      | false =>
        have hd2 : ¬ (r.kind = 13 ∨ r.kind = 14) := by simpa [derivd] using hdv
        have b13 : (r.kind == 13) = false := by simp; omega
        have b14 : (r.kind == 14) = false := by simp; omega
        have HDD : Hid (D = (r, d)) := HD.out.trans (declL_stop _ _ _ _ hdv)
        have cB := rBase_c HRT.out HBS.out HK.out hdv (by simp only; omega)
        have hbs : (baseP r).size ≤ 200 := baseP_size r (by omega)
        have k1 := fun W => run_string_add_sum (P := Tryz.prog) W (baseP r) ⟨#[32]⟩ (by show (baseP r).size + 1 ≤ _; omega)
        have s1 : (baseP r ++ ⟨#[32]⟩ : ByteArray).size = (baseP r).size + 1 := by rw [ByteArray.size_append]; rfl
        have k2 := fun W => run_string_add_sum (P := Tryz.prog) W (baseP r ++ ⟨#[32]⟩) d (by rw [s1]; omega)
        clear s1 hd2
        rcases hde : (d.toList == []) with _ | _
        · have HR2 : RES = baseP r ++ ⟨#[32]⟩ ++ d := by rw [HRES.out, HDD.out]; simp only [hde]; rfl
          subst HR2
          go_wp2_with (go_at_call 67; refine cB.mono ?_; rintro x w3 ⟨rfl, hb3⟩)
          go_ret2
          exact ⟨rfl, HB.out.trans (hb3.mono HB.out.size)⟩
        · have HR2 : RES = baseP r := by rw [HRES.out, HDD.out]; simp only [hde]; rfl
          subst HR2
          go_wp2_with (go_at_call 67; refine cB.mono ?_; rintro x w3 ⟨rfl, hb3⟩)
          go_ret2
          exact ⟨rfl, HB.out.trans (hb3.mono HB.out.size)⟩
  · rw [ht] at c3
    go_wp2_with (first | (go_at_call 40; refine c3.mono ?_; rintro e w' ⟨rfl, hw⟩; rw [hw]; clear hw w') | (go_at_call 30; refine c1.mono ?_; rintro e w' ⟨rfl, hw⟩; rw [hw]; clear hw w'))
    clear c1 c3
    go_loopw [1, 8] (fun iv sv wr => ∃ (k : Nat) (q : Rw × Value) (d : ByteArray), rs[k]? = some q ∧ iv = .int .i64 k ∧ sv = .string d ∧ k ≤ i ∧ d.size + 110 * k ≤ 100 + 110 * i ∧ Hid (D = declL rs (k + 1) q.1 d) ∧ Hid (Below w.heap.size w wr)) (fun iv _ _ => (intOf iv).toNat)
    case atStart => exact ⟨i, p, nm, HP.out, rfl, rfl, Nat.le_refl _, by omega, HD0, Below.refl _ _⟩
    case round =>
      obtain ⟨k, q, d, hk, rfl, rfl, hki, hds, HD, HB⟩ := hrel
      have hkm := List.mem_of_getElem? hk
      have hkl : k < rs.length := (List.getElem?_eq_some_iff.1 hk).1
      have hRT := HH.out.below HB.out
      have q0 := hRT.cell
      obtain ⟨sp, sn, sc, hsl⟩ : ∃ sp sn sc, q.2 = .slice sp sn sc := by
        rcases hRT.rows.2 q hkm with ⟨e, _⟩ | ⟨_, _, _, e, _⟩
        · exact ⟨_, _, _, e⟩
        · exact ⟨_, _, _, e⟩
      obtain ⟨g2, o2, cap2, hv2, _, hcell⟩ := hRT.at hk
      cases hv2
      have a0 := hcell 0 (by omega)
      have a1 := hcell 1 (by omega)
      have a2 := hcell 2 (by omega)
      have a3 := hcell 3 (by omega)
      have a4 := hcell 4 (by omega)
      have a5 := hcell 5 (by omega)
      obtain ⟨hl1, hl2, hl3⟩ := HF.out.lens _ hkm
      have htg := HF.out.tags _ hkm
      have hln14 := HBS.out.lens _ hkm
      obtain ⟨r, s0⟩ := q
      simp only at hsl
      subst hsl
      simp only [rwCells, Nat.add_zero, List.getElem?_cons_zero, List.getElem?_cons_succ] at a0 a1 a2 a3 a4 a5 hl1 hl2 hl3 htg hln14
      have HRT : Hid (RT wr b (.slice (some ⟨g, o, none⟩) rs.length cap) rs) := hRT
      have HK : Hid (rs[k]? = some (r, .slice sp sn sc)) := hk
      clear hcell hRT hkm hk
      cases hdv : derivd r with
      | true =>
        obtain ⟨he0, he1⟩ := HF.out.ahead k _ HK.out hdv
        simp only at he0 he1
        obtain ⟨e, hee⟩ : ∃ e : Nat, r.elem = e := ⟨r.elem.toNat, by omega⟩
        have hek : e < k := by omega
        obtain ⟨p1, hp1⟩ : ∃ p1, rs[r.elem.toNat]? = some p1 := ⟨_, List.getElem?_eq_getElem (by omega)⟩
        have HN : Hid (declL rs (k + 1) r d = declL rs (r.elem.toNat + 1) p1.1 (aroundP d r p1.1.kind)) := by
          show _ = _
          rw [declL_step rs k r d _ hdv hp1, declL_more rs HF.out _ _ _ k hp1 (by omega)]
        have hsz := aroundP_size d r p1.1.kind hl3
        rw [hee, Int.toNat_natCast] at hp1 HN
        obtain ⟨g2, o2, cap2, hv2, _, hcell⟩ := HRT.out.at hp1
        cases hv2
        have e0 := hcell 0 (by omega)
        simp only [rwCells, Nat.add_zero, List.getElem?_cons_zero] at e0
        have hd2 : r.kind = 13 ∨ r.kind = 14 := by simpa [derivd] using hdv
        have HP1 : Hid (rs[e]? = some p1) := hp1
        have hold := heap_r0 wr (.cells #[.int .i64 0, .int .i64 0, .int .i64 0, .string ⟨#[]⟩, .slice none 0 0, .bool false] TR)
        have y0 := cell_old (.cells #[.int .i64 r.kind, .int .i64 r.elem, .int .i64 r.len, .string r.tag, .slice sp sn sc, .bool r.done] TR) q0
        have y1 := cell_old (.cells #[.int .i64 r.kind, .int .i64 r.elem, .int .i64 r.len, .string r.tag, .slice sp sn sc, .bool r.done] TR) e0
        have HW : Hid (Below w.heap.size w (wr.alloc (.cells #[.int .i64 r.kind, .int .i64 r.elem, .int .i64 r.len, .string r.tag, .slice sp sn sc, .bool r.done] TR))) := HB.out.alloc HB.out.size _
        rw [hee] at y0 y1 HW a1
        clear hcell hp1 hdv
        obtain ⟨kd, el, ln, tg, mm, dn⟩ := r
        obtain ⟨⟨k1, el1, ln1, tg1, mm1, dn1⟩, s1⟩ := p1
        simp only at hee hd2 HN hsz y0 y1 HW a0 a1 a2 a3 a4 a5 hl1 hl2 hl3 he0 he1 hln14
        have HEE : Hid (el = (e : Int)) := hee
        clear hee he0 he1 e0
        rcases hd2 with rfl | rfl
        · have ks1 := fun W => run_string_add_sum (P := Tryz.prog) W ⟨#[42]⟩ d (by show 1 + d.size ≤ _; omega)
          have sz1 : (⟨#[42]⟩ ++ d : ByteArray).size = 1 + d.size := by rw [ByteArray.size_append]; rfl
          by_cases h14 : k1 = 14
          · subst h14
            have ks2 := fun W => run_string_add_sum (P := Tryz.prog) W ⟨#[40]⟩ (⟨#[42]⟩ ++ d) (by rw [sz1]; show 1 + _ ≤ _; omega)
            have sz2 : (⟨#[40]⟩ ++ (⟨#[42]⟩ ++ d) : ByteArray).size = 2 + d.size := by rw [ByteArray.size_append, sz1]; show 1 + _ = _; omega
            have ks3 := fun W => run_string_add_sum (P := Tryz.prog) W (⟨#[40]⟩ ++ (⟨#[42]⟩ ++ d)) ⟨#[41]⟩ (by rw [sz2]; show _ + 1 ≤ _; omega)
            have HAR : Hid (_ = _) := around_ptr d ⟨13, el, ln, tg, mm, dn⟩ rfl 14 rfl
            clear sz1 sz2
            go_wp2_with ((with_reducible apply step_store hold); rfl; rfl; kernel_rfl; rfl; kernel_rfl; rw [World.setRow_alloc_new])
            go_quiet (fail)
            go_wp2
            go_roundw
            case rel => exact ⟨e, _, _, HP1.out, rfl, rfl, by omega, by rw [HAR.out]; omega, by show D = _; rw [HD.out, HN.out, HAR.out], below_drawn HW.out _⟩
            case measure => simp [intOf]; omega
          · have b14 : (k1 == 14) = false := by simpa using h14
            have HAR : Hid (⟨#[42]⟩ ++ d = aroundP d ⟨13, el, ln, tg, mm, dn⟩ k1) := by
              show _ = _
              unfold aroundP
              rw [if_neg (show ¬ (13 : Int) = 14 by decide), if_neg h14]
            clear sz1
            go_wp2_with ((with_reducible apply step_store hold); rfl; rfl; kernel_rfl; rfl; kernel_rfl; rw [World.setRow_alloc_new])
            go_quiet (fail)
            go_wp2
            go_roundw
            case rel => exact ⟨e, _, _, HP1.out, rfl, rfl, by omega, by rw [HAR.out]; omega, by show D = _; rw [HD.out, HN.out, HAR.out], below_drawn HW.out _⟩
            case measure => simp [intOf]; omega
        · by_cases hl : ln = -1
          · subst hl
            have ks1 := fun W => run_string_add_sum (P := Tryz.prog) W d ⟨#[91, 93]⟩ (by show d.size + 2 ≤ _; omega)
            have HAR : Hid (d ++ ⟨#[91, 93]⟩ = aroundP d ⟨14, el, -1, tg, mm, dn⟩ k1) := rfl
            go_wp2_with ((with_reducible apply step_store hold); rfl; rfl; kernel_rfl; rfl; kernel_rfl; rw [World.setRow_alloc_new])
            go_roundw
            case rel => exact ⟨e, _, _, HP1.out, rfl, rfl, by omega, by rw [HAR.out]; omega, by show D = _; rw [HD.out, HN.out, HAR.out], HW.out⟩
            case measure => simp [intOf]; omega
          · have hl1 : 1 ≤ ln := by have := hln14 rfl; omega
            obtain ⟨n, rfl⟩ : ∃ n : Nat, ln = n := ⟨ln.toNat, by omega⟩
            have hlt0 : decide ((n : Int) < 0) = false := by simp
            have cD := fun W => dec_c n W (by omega) (by omega)
            have HAR : Hid (d ++ ⟨#[91]⟩ ++ ⟨(Lib.itoa n).toArray⟩ ++ ⟨#[93]⟩ = aroundP d ⟨14, el, n, tg, mm, dn⟩ k1) := by
              show _ = _
              unfold aroundP
              rw [if_pos rfl, if_neg hl]
            generalize Lib.itoa n = T at *
            have sT : (ByteArray.mk T.toArray).size = T.length := by simp [ByteArray.size]
            have ks1 := fun W => run_string_add_sum (P := Tryz.prog) W d ⟨#[91]⟩ (by show d.size + 1 ≤ _; omega)
            have s1 : (d ++ ⟨#[91]⟩ : ByteArray).size = d.size + 1 := by rw [ByteArray.size_append]; rfl
            have ks2 := fun W => run_string_add_sum (P := Tryz.prog) W (d ++ ⟨#[91]⟩) ⟨T.toArray⟩ (by rw [s1, sT]; omega)
            have s2 : (d ++ ⟨#[91]⟩ ++ ⟨T.toArray⟩ : ByteArray).size = d.size + 1 + T.length := by rw [ByteArray.size_append, s1, sT]
            have ks3 := fun W => run_string_add_sum (P := Tryz.prog) W (d ++ ⟨#[91]⟩ ++ ⟨T.toArray⟩) ⟨#[93]⟩ (by rw [s2]; show d.size + 1 + T.length + 1 ≤ _; omega)
            clear s1 s2 sT
            have hlw : wr.heap.size < (wr.alloc (.cells #[.int .i64 14, .int .i64 e, .int .i64 n, .string tg, .slice sp sn sc, .bool dn] TR)).heap.size := by simp
            have z1 : (wr.alloc (.cells #[.int .i64 14, .int .i64 e, .int .i64 n, .string tg, .slice sp sn sc, .bool dn] TR)).cell? ⟨wr.heap.size, 1, none⟩ = some (.int .i64 e) := by rw [Lib.cell_of_heap (heap_r0 wr _)]; rfl
            go_wp2_with (first | (go_at_call 66; refine (cD _).mono ?_; rintro x w3 ⟨rfl, hb3⟩; have z2 := (hb3.cell (p := ⟨wr.heap.size, 1, none⟩) hlw).trans z1; have HB3 : Hid (Below w.heap.size w w3) := HW.out.trans (hb3.mono HW.out.size); clear hb3) | ((with_reducible apply step_store hold); rfl; rfl; kernel_rfl; rfl; kernel_rfl; rw [World.setRow_alloc_new]))
            go_roundw
            case rel => exact ⟨e, _, _, HP1.out, rfl, rfl, by omega, by rw [HAR.out]; omega, by show D = _; rw [HD.out, HN.out, HAR.out], HB3.out⟩
            case measure => simp [intOf]; omega
      | false =>
        have hd2 : ¬ (r.kind = 13 ∨ r.kind = 14) := by simpa [derivd] using hdv
        have b13 : (r.kind == 13) = false := by simp; omega
        have b14 : (r.kind == 14) = false := by simp; omega
        have HDD : Hid (D = (r, d)) := HD.out.trans (declL_stop _ _ _ _ hdv)
        have cB := rBase_c HRT.out HBS.out HK.out hdv (by simp only; omega)
        have hbs : (baseP r).size ≤ 200 := baseP_size r (by omega)
        have k1 := fun W => run_string_add_sum (P := Tryz.prog) W (baseP r) ⟨#[32]⟩ (by show (baseP r).size + 1 ≤ _; omega)
        have s1 : (baseP r ++ ⟨#[32]⟩ : ByteArray).size = (baseP r).size + 1 := by rw [ByteArray.size_append]; rfl
        have k2 := fun W => run_string_add_sum (P := Tryz.prog) W (baseP r ++ ⟨#[32]⟩) d (by rw [s1]; omega)
        clear s1 hd2
        rcases hde : (d.toList == []) with _ | _
        · have HR2 : RES = baseP r ++ ⟨#[32]⟩ ++ d := by rw [HRES.out, HDD.out]; simp only [hde]; rfl
          subst HR2
          go_wp2_with (go_at_call 67; refine cB.mono ?_; rintro x w3 ⟨rfl, hb3⟩)
          go_ret2
          exact ⟨rfl, HB.out.trans (hb3.mono HB.out.size)⟩
        · have HR2 : RES = baseP r := by rw [HRES.out, HDD.out]; simp only [hde]; rfl
          subst HR2
          go_wp2_with (go_at_call 67; refine cB.mono ?_; rintro x w3 ⟨rfl, hb3⟩)
          go_ret2
          exact ⟨rfl, HB.out.trans (hb3.mono HB.out.size)⟩
end
end Go.Proofs.YtdfkkflpcamhjaaGreatDoor
namespace Go.Proofs.YtdfkkflpcamhjaaGreatDoor
open Go.RowKit Go.Maps
set_option linter.unusedVariables false
set_option maxRecDepth 100000
section
variable {B : Nat} {w : World} {b mb : Nat} {v : Value} {rs : List (Rw × Value)} {ps : List (Value × Value)}
set_option maxHeartbeats 2000000 in
theorem declare_none (h : Tab B w b mb v rs ps) (h0 : 0 < rs.length) (id : Int) (hh : hasP rs.length id = false) (nm : ByteArray) :
    Calls Tryz.prog 31 #[.pointer (some ⟨b, 0, none⟩), .int .i64 id, .string nm] w fun e w' => e = .returned (.tuple #[.string ⟨#[]⟩, .int .i64 30]) ∧ w' = w := by
  have c1 := made_c h h0
  have c2 := has_c h h0 id
  rw [hh] at c2
  have n1 := not_t
  have n2 := not_f
  clear h
  go_enter Tryz.func31, Tryz.ntmps31
  go_wp2_with (first | (go_at_call 41; refine c1.mono ?_; rintro e w' ⟨rfl, hw⟩; rw [hw]; clear hw w') | (go_at_call 51; refine c2.mono ?_; rintro e w' ⟨rfl, hw⟩; rw [hw]; clear hw w'))
  go_ret2
  exact ⟨rfl, rfl⟩
set_option maxHeartbeats 2000000 in
theorem declare_bad (h : Tab B w b mb v rs ps) (h0 : 0 < rs.length) (id : Int) (hh : hasP rs.length id = true) (nm : ByteArray) (hs : nm.size ≤ 9223372036854775807) (he : (nm.toList == []) = false) (ht : tagP nm.data.toList = false) :
    Calls Tryz.prog 31 #[.pointer (some ⟨b, 0, none⟩), .int .i64 id, .string nm] w fun e w' => e = .returned (.tuple #[.string ⟨#[]⟩, .int .i64 31]) ∧ w' = w := by
  have c1 := made_c h h0
  have c2 := has_c h h0 id
  rw [hh] at c2
  have c3 := tag_c nm w hs
  rw [ht] at c3
  have n1 := not_t
  have n2 := not_f
  clear h
  go_enter Tryz.func31, Tryz.ntmps31
  go_wp2_with (first | (go_at_call 39; refine c3.mono ?_; rintro e w' ⟨rfl, hw⟩; rw [hw]; clear hw w') | (go_at_call 41; refine c1.mono ?_; rintro e w' ⟨rfl, hw⟩; rw [hw]; clear hw w') | (go_at_call 51; refine c2.mono ?_; rintro e w' ⟨rfl, hw⟩; rw [hw]; clear hw w'))
  go_ret2
  exact ⟨rfl, rfl⟩
set_option maxHeartbeats 2000000 in
theorem rDeclare_none (h : RT w b v rs) (id : Int) (hh : hasP rs.length id = false) (nm : ByteArray) :
    Calls Tryz.prog 32 #[.pointer (some ⟨b, 0, none⟩), .int .i64 id, .string nm] w fun e w' => e = .returned (.tuple #[.string ⟨#[]⟩, .int .i64 30]) ∧ w' = w := by
  have c1 := rHas_c h id
  rw [hh] at c1
  have n1 := not_t
  have n2 := not_f
  clear h
  go_enter Tryz.func32, Tryz.ntmps32
  go_wp2_with (go_at_call 30; refine c1.mono ?_; rintro e w' ⟨rfl, hw⟩; rw [hw]; clear hw w')
  go_ret2
  exact ⟨rfl, rfl⟩
set_option maxHeartbeats 2000000 in
theorem rDeclare_bad (h : RT w b v rs) (id : Int) (hh : hasP rs.length id = true) (nm : ByteArray) (hs : nm.size ≤ 9223372036854775807) (he : (nm.toList == []) = false) (ht : tagP nm.data.toList = false) :
    Calls Tryz.prog 32 #[.pointer (some ⟨b, 0, none⟩), .int .i64 id, .string nm] w fun e w' => e = .returned (.tuple #[.string ⟨#[]⟩, .int .i64 31]) ∧ w' = w := by
  have c1 := rHas_c h id
  rw [hh] at c1
  have c3 := refTag_c nm w hs
  rw [ht] at c3
  have n1 := not_t
  have n2 := not_f
  clear h
  go_enter Tryz.func32, Tryz.ntmps32
  go_wp2_with (first | (go_at_call 40; refine c3.mono ?_; rintro e w' ⟨rfl, hw⟩; rw [hw]; clear hw w') | (go_at_call 30; refine c1.mono ?_; rintro e w' ⟨rfl, hw⟩; rw [hw]; clear hw w'))
  go_ret2
  exact ⟨rfl, rfl⟩
set_option maxHeartbeats 2000000 in
theorem row_none (h : Tab B w b mb v rs ps) (h0 : 0 < rs.length) (id : Int) (hh : hasP rs.length id = false) :
    Calls Tryz.prog 29 #[.pointer (some ⟨b, 0, none⟩), .int .i64 id] w fun e w' => e = .returned (.tuple #[.agg #[.int .i64 0, .int .i64 0, .int .i64 0, .string ⟨#[]⟩, .slice none 0 0, .bool false], .bool false]) ∧ Below w.heap.size w w' := by
  have hB : ∀ o, Below w.heap.size w (w.alloc o) := fun o => (Below.refl _ w).alloc (Nat.le_refl _) o
  have c2 := fun W (hb : Below w.heap.size w W) => has_c (h.keptB hb) h0 id
  rw [hh] at c2
  have n1 := not_t
  have n2 := not_f
  have HB : Hid (∀ o, Below w.heap.size w (w.alloc o)) := hB
  clear h
  go_enter Tryz.func29, Tryz.ntmps29
  go_wp2_with (go_at_call 51; refine (c2 _ (hB _)).mono ?_; rintro e w' ⟨rfl, hw⟩; rw [hw]; clear hw w')
  refine ret_rowb (p := 4) (q := 5) rfl rfl (heap_r0 w _) rfl ?_
  exact ⟨rfl, HB.out _⟩
end
end Go.Proofs.YtdfkkflpcamhjaaGreatDoor
