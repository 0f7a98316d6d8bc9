/-
  What package token's quote answers: bytes between two quotes.
-/
import Derived.Test.YtjbmpdcgmphhoaaGreatDoorBuild
import Derived.Test.YtjbmpdcgmphhoaaGreatDoorWrit
import Derived.Test.YtjbmpdcgmphhoaaGreatDoorRead1
namespace Go.Proofs.YtjbmpdcgmphhoaaGreatDoor
open Go.RowKit
set_option linter.unusedVariables false

theorem fresh_b (w : World) : IsB w.heap.size w.heap.size [] (w.alloc (.cells #[.pointer none, .slice none 0 0] 80)) := by
  refine .inl ⟨Nat.le_refl _, .slice none 0 0, heap_in0 w _, World.ownsRow_nil _ _ _ _, by simp [Value.ownBlock]⟩

theorem atB_alloc {B b : Nat} {bs : List Value} {w : World} (h : AtB B b bs w) (o : Obj) : AtB B b bs (w.alloc o) := by
  obtain ⟨hB, v, hbk, hown, hne⟩ := h
  have hlt : b < w.heap.size := by
    rcases Nat.lt_or_ge b w.heap.size with h' | h'
    · exact h'
    · simp [Array.getElem?_eq_none h'] at hbk
  exact ⟨hB, v, (Below.heap_alloc w o b hlt).trans hbk, hown.alloc _, hne⟩
theorem cells_at_new (w : World) (cs : List Value) (t : TypeId) : ∀ j u, cs[j]? = some u → (w.alloc (.cells cs.toArray t)).cell? ((⟨w.heap.size, 0, none⟩ : Addr).add j) = some u := by
  intro j u h
  have hadd : (⟨w.heap.size, 0, none⟩ : Addr).add j = ⟨w.heap.size, j, none⟩ := by unfold Addr.add; split <;> simp_all
  rw [hadd, World.cell?_alloc_mark]; simpa using h
theorem oct_cells (n : Nat) (h : n < 256) : Lib.byteCells [92, (48 + n / 64).toUInt8, (48 + n / 8 % 8).toUInt8, (48 + n % 8).toUInt8] = [.int .u8 92, .int .u8 (48 + (n : Int) / 64), .int .u8 (48 + (n : Int) / 8 % 8), .int .u8 (48 + (n : Int) % 8)] := by
  have h1 : ∀ m : Nat, m < 256 → m.toUInt8.toNat = m := by intro m hm; simp; omega
  simp only [Lib.byteCells, List.map_cons, List.map_nil, h1 (48 + n / 64) (by omega), h1 (48 + n / 8 % 8) (by omega), h1 (48 + n % 8) (by omega)]
  rfl

def acc (q : UInt8) (L : List UInt8) (k : Nat) : List UInt8 := q :: (L.take k).flatMap (quoteB q)
theorem quoteB_len (q c : UInt8) : (quoteB q c).length ≤ 4 := by
  unfold quoteB; split; simp; split; simp; split <;> simp
theorem acc_len (q : UInt8) (L : List UInt8) (k : Nat) (hk : k ≤ L.length) : (acc q L k).length ≤ 4 * k + 1 := by
  unfold acc
  simp only [List.length_cons]
  have : ∀ l : List UInt8, (l.flatMap (quoteB q)).length ≤ 4 * l.length := by
    intro l
    induction l with
    | nil => simp
    | cons c r ih => rw [List.flatMap_cons, List.length_append, List.length_cons]; have := quoteB_len q c; omega
  have h := this (L.take k)
  rw [List.length_take] at h; omega
theorem acc_succ (q : UInt8) (s : ByteArray) (k : Nat) (h : k < s.size) : acc q s.data.toList (k + 1) = acc q s.data.toList k ++ quoteB q s[k] := by
  unfold acc
  have : s.data.toList.take (k + 1) = s.data.toList.take k ++ [s[k]] := by
    rw [List.take_add_one, show s.data.toList[k]? = some s[k] from by rw [Array.getElem?_toList]; exact Array.getElem?_eq_getElem h]; rfl
  rw [this, List.flatMap_append]; simp

theorem cells_app (a b : List UInt8) : Lib.byteCells (a ++ b) = Lib.byteCells a ++ Lib.byteCells b := by simp [Lib.byteCells]

set_option maxRecDepth 100000 in
set_option maxHeartbeats 4000000 in
theorem quote_c (q : UInt8) (s : ByteArray) (w : World) (hq : q = 39 ∨ q = 34) (hs : 4 * s.size + 2 ≤ 140737488355328) :
    Calls Tryz.prog 26 #[.int .u8 q.toNat, .string s] w fun e w' => e = .returned (.string ⟨(quoteP q s.data.toList).toArray⟩) ∧ Below w.heap.size w w' := by
  have HF : Hid (IsB w.heap.size w.heap.size [] (w.alloc (.cells #[.pointer none, .slice none 0 0] 80))) := fresh_b w
  have cB0 := writeByte_c w.heap.size w.heap.size [] q.toNat _ HF.out (by simp) (by simp)
  have HB0 : Hid (Below w.heap.size w (w.alloc (.cells #[.pointer none, .slice none 0 0] 80))) := (Below.refl _ w).alloc (Nat.le_refl _) _
  go_enter Tryz.func26, Tryz.ntmps26
  go_wp2_with (go_at_call 53; refine cB0.mono ?_; rintro e w1 ⟨rfl, hA1, hb1⟩)
  have hA1' : AtB w.heap.size w.heap.size (Lib.byteCells (acc q s.data.toList 0)) w1 := by simpa [acc, Lib.byteCells] using hA1
  have HA1 : Hid (AtB w.heap.size w.heap.size (Lib.byteCells (acc q s.data.toList 0)) w1) := hA1'
  clear hA1'
  have HB1 : Hid (Below w.heap.size w w1) := HB0.out.trans hb1
  have hsz1 : w.heap.size ≤ w1.heap.size := HB1.out.size
  clear hA1 hb1 cB0
  go_loopw [12] (fun i wr => ∃ (k : Nat), k ≤ s.size ∧ i = .int .i64 k ∧ Hid (AtB w.heap.size w.heap.size (Lib.byteCells (acc q s.data.toList k)) wr) ∧ Hid (Below w.heap.size w wr) ∧ w.heap.size ≤ wr.heap.size) (fun i _ => s.size - (intOf i).toNat)
  case atStart => exact ⟨0, Nat.zero_le _, rfl, HA1, HB1, hsz1⟩
  case round =>
    obtain ⟨k, hk, rfl, HA, HB, hsz⟩ := hrel
    clear HA1 HB1 HF HB0
    have hal := acc_len q s.data.toList k (by simpa using hk)
    have hbl : (Lib.byteCells (acc q s.data.toList k)).length ≤ 4 * k + 1 := by rw [Lib.byteCells_length]; exact hal
    by_cases hlt : k < s.size
    · have hacc := acc_succ q s k hlt
      generalize hbs : Lib.byteCells (acc q s.data.toList k) = bs at *
      have hcq : (s[k]).toNat = q.toNat ↔ s[k] = q := UInt8.toNat_inj
      have hc10 : (s[k]).toNat = 10 ↔ s[k] = 10 := UInt8.toNat_inj (b := 10)
      have hc92 : (s[k]).toNat = 92 ↔ s[k] = 92 := UInt8.toNat_inj (b := 92)
      have hstep : ∀ x, quoteB q s[k] = x → Lib.byteCells (acc q s.data.toList (k + 1)) = bs ++ Lib.byteCells x := by
        intro x hx; rw [hacc, cells_app, hbs, hx]
      clear hacc
      have HST : Hid _ := hstep
      clear hstep
      have hq39 : (q.toNat : Int) = 39 ∨ (q.toNat : Int) = 34 := by rcases hq with rfl | rfl; exact .inl rfl; exact .inr rfl
      by_cases h10 : s[k] = 10
      · have h10' : ((s[k]).toNat : Int) = 10 := by have := hc10.2 h10; omega
        have cS := writeString_c w.heap.size w.heap.size bs ⟨#[92, 110]⟩ wr (.inr HA.out) (by show _ + 2 ≤ _; omega) hsz
        have hx := HST.out [92, 110] (by unfold quoteB; rw [if_pos h10])
        clear HST hc10 hc92 hcq h10
        go_wp2_with (go_at_call 54; refine cS.mono ?_; rintro e w1 ⟨rfl, hA1, hb1⟩)
        have RR : Hid (AtB w.heap.size w.heap.size (Lib.byteCells (acc q s.data.toList (k + 1))) w1 ∧ Below w.heap.size w w1 ∧ w.heap.size ≤ w1.heap.size) := by
          rw [hx]; exact ⟨hA1, HB.out.trans hb1, Nat.le_trans hsz hb1.size⟩
        clear hA1 hb1 HA HB cS
        go_wp2
        go_roundw
        case rel => exact ⟨k + 1, by omega, by go_num, RR.out.1, RR.out.2.1, RR.out.2.2⟩
        case measure => simp [intOf]; omega
      have h10' : ¬ (((s[k]).toNat : Int) = 10) := by have := mt hc10.1 h10; omega
      have two : ∀ (W : World), AtB w.heap.size w.heap.size (bs ++ Lib.byteCells [92, s[k]]) W → quoteB q s[k] = [92, s[k]] → AtB w.heap.size w.heap.size (Lib.byteCells (acc q s.data.toList (k + 1))) W := fun W h e => by rw [HST.out _ e]; exact h
      have HTW : Hid _ := two
      clear two
      by_cases h92 : s[k] = 92
      · have h92' : ((s[k]).toNat : Int) = 92 := by have := hc92.2 h92; omega
        have hx := HST.out [92, s[k]] (by unfold quoteB; rw [if_neg h10, if_pos (.inl h92)])
        have hx2 : Lib.byteCells [92, s[k]] = [.int .u8 92, .int .u8 92] := by rw [h92]; rfl
        have cS := writeByte_c w.heap.size w.heap.size bs 92 wr (.inr HA.out) (by omega) hsz
        have cT := fun W (h : AtB w.heap.size w.heap.size (bs ++ [.int .u8 92]) W) h2 => writeByte_c w.heap.size w.heap.size (bs ++ [.int .u8 92]) 92 W (.inr h) (by simp; omega) h2
        clear HST hc10 hc92 hcq h10 h92 HTW
        go_wp2_with (first | (go_at_call 53; refine cS.mono ?_; rintro e w1 ⟨rfl, hA1, hb1⟩; clear cS) | (go_at_call 53; refine (cT _ hA1 (Nat.le_trans hsz hb1.size)).mono ?_; rintro e w2 ⟨rfl, hA2, hb2⟩))
        have RR : Hid (AtB w.heap.size w.heap.size (Lib.byteCells (acc q s.data.toList (k + 1))) w2 ∧ Below w.heap.size w w2 ∧ w.heap.size ≤ w2.heap.size) := by
          rw [hx, hx2]
          refine ⟨?_, (HB.out.trans hb1).trans hb2, Nat.le_trans (Nat.le_trans hsz hb1.size) hb2.size⟩
          rw [List.append_assoc] at hA2; exact hA2
        clear hA1 hb1 HA HB cT hA2 hb2
        go_wp2
        go_roundw
        case rel => exact ⟨k + 1, by omega, by go_num, RR.out.1, RR.out.2.1, RR.out.2.2⟩
        case measure => simp [intOf]; omega
      have h92' : ¬ (((s[k]).toNat : Int) = 92) := by have := mt hc92.1 h92; omega
      by_cases hcq' : s[k] = q
      · have hcqn : ((s[k]).toNat : Int) = q.toNat := by have := hcq.2 hcq'; omega
        have hx := HST.out [92, s[k]] (by unfold quoteB; rw [if_neg h10, if_pos (.inr hcq')])
        have hx2 : Lib.byteCells [92, s[k]] = [.int .u8 92, .int .u8 q.toNat] := by rw [hcq']; rfl
        have cS := writeByte_c w.heap.size w.heap.size bs 92 wr (.inr HA.out) (by omega) hsz
        have cT := fun W (h : AtB w.heap.size w.heap.size (bs ++ [.int .u8 92]) W) h2 => writeByte_c w.heap.size w.heap.size (bs ++ [.int .u8 92]) q.toNat W (.inr h) (by simp; omega) h2
        have hqn10 : ¬ ((q.toNat : Int) = 10) := by omega
        have hqn92 : ¬ ((q.toNat : Int) = 92) := by omega
        clear HST hc10 hc92 hcq h10 h92 HTW hq39 h10' h92'
        go_wp2_with (first | (go_at_call 53; refine cS.mono ?_; rintro e w1 ⟨rfl, hA1, hb1⟩; clear cS) | (go_at_call 53; refine (cT _ hA1 (Nat.le_trans hsz hb1.size)).mono ?_; rintro e w2 ⟨rfl, hA2, hb2⟩))
        have RR : Hid (AtB w.heap.size w.heap.size (Lib.byteCells (acc q s.data.toList (k + 1))) w2 ∧ Below w.heap.size w w2 ∧ w.heap.size ≤ w2.heap.size) := by
          rw [hx, hx2]
          refine ⟨?_, (HB.out.trans hb1).trans hb2, Nat.le_trans (Nat.le_trans hsz hb1.size) hb2.size⟩
          rw [List.append_assoc] at hA2; exact hA2
        clear hA1 hb1 HA HB cT hA2 hb2
        go_wp2
        go_roundw
        case rel => exact ⟨k + 1, by omega, by go_num, RR.out.1, RR.out.2.1, RR.out.2.2⟩
        case measure => simp [intOf]; omega
      have hcqn : ¬ (((s[k]).toNat : Int) = q.toNat) := by have := mt hcq.1 hcq'; omega
      have hb92 : (((s[k]).toNat : Int) == 92) = false := by simpa using h92'
      have hbq : (((s[k]).toNat : Int) == (q.toNat : Int)) = false := by simpa using hcqn
      by_cases hpr : 32 ≤ (s[k]).toNat ∧ (s[k]).toNat ≤ 126
      · have hp1 : (32 : Int) ≤ (s[k]).toNat := by omega
        have hp2 : ((s[k]).toNat : Int) ≤ 126 := by omega
        have hx := HST.out [s[k]] (by unfold quoteB; rw [if_neg h10, if_neg (by rintro (h | h); exact h92 h; exact hcq' h), if_pos hpr])
        have cS := writeByte_c w.heap.size w.heap.size bs (s[k]).toNat wr (.inr HA.out) (by omega) hsz
        clear HST hc10 hc92 hcq h10 h92 HTW hq39 hcq' hpr
        go_wp2_with (go_at_call 53; refine cS.mono ?_; rintro e w1 ⟨rfl, hA1, hb1⟩)
        have RR : Hid (AtB w.heap.size w.heap.size (Lib.byteCells (acc q s.data.toList (k + 1))) w1 ∧ Below w.heap.size w w1 ∧ w.heap.size ≤ w1.heap.size) := by
          rw [hx]; exact ⟨hA1, HB.out.trans hb1, Nat.le_trans hsz hb1.size⟩
        clear hA1 hb1 HA HB cS
        go_wp2
        go_roundw
        case rel => exact ⟨k + 1, by omega, by go_num, RR.out.1, RR.out.2.1, RR.out.2.2⟩
        case measure => simp [intOf]; omega
      · have hlt8 : (s[k]).toNat < 256 := UInt8.toNat_lt _
        have hp1 : ((s[k]).toNat : Int) < 32 ∨ 126 < ((s[k]).toNat : Int) := by omega
        have hx := HST.out _ (by unfold quoteB; rw [if_neg h10, if_neg (by rintro (h | h); exact h92 h; exact hcq' h), if_neg hpr])
        rw [oct_cells _ hlt8] at hx
        have cW := write_c w.heap.size w.heap.size bs ⟨wr.heap.size, 0, none⟩ 4 4 [.int .u8 92, .int .u8 (48 + ((s[k]).toNat : Int) / 64), .int .u8 (48 + ((s[k]).toNat : Int) / 8 % 8), .int .u8 (48 + ((s[k]).toNat : Int) % 8)] _ (atB_alloc HA.out (.cells #[.int .u8 92, .int .u8 (48 + ((s[k]).toNat : Int) / 64), .int .u8 (48 + ((s[k]).toNat : Int) / 8 % 8), .int .u8 (48 + ((s[k]).toNat : Int) % 8)] 5)) rfl (cells_at_new wr [.int .u8 92, .int .u8 (48 + ((s[k]).toNat : Int) / 64), .int .u8 (48 + ((s[k]).toNat : Int) / 8 % 8), .int .u8 (48 + ((s[k]).toNat : Int) % 8)] 5) (by intro u hu; simp only [List.mem_cons, List.not_mem_nil, or_false] at hu; rcases hu with rfl | rfl | rfl | rfl <;> rfl) (by omega) (by simp; omega)
        clear HST hc10 hc92 hcq h10 h92 HTW hq39 hcq' hpr
        rcases hp1 with hp1 | hp1
        · have hp2 : ¬ ((32 : Int) ≤ (s[k]).toNat) := by omega
          go_wp2_with (go_at_call 55; refine cW.mono ?_; rintro e w1 ⟨rfl, hA1, hb1⟩)
          have RR : Hid (AtB w.heap.size w.heap.size (Lib.byteCells (acc q s.data.toList (k + 1))) w1 ∧ Below w.heap.size w w1 ∧ w.heap.size ≤ w1.heap.size) := by
            rw [hx]; exact ⟨hA1, (HB.out.alloc hsz _).trans hb1, Nat.le_trans (Nat.le_trans hsz (by simp)) hb1.size⟩
          clear hA1 hb1 HA HB cW
          go_wp2
          go_roundw
          case rel => exact ⟨k + 1, by omega, by go_num, RR.out.1, RR.out.2.1, RR.out.2.2⟩
          case measure => simp [intOf]; omega
        · have hp2 : (32 : Int) ≤ (s[k]).toNat := by omega
          have hp3 : ¬ (((s[k]).toNat : Int) ≤ 126) := by omega
          go_wp2_with (go_at_call 55; refine cW.mono ?_; rintro e w1 ⟨rfl, hA1, hb1⟩)
          have RR : Hid (AtB w.heap.size w.heap.size (Lib.byteCells (acc q s.data.toList (k + 1))) w1 ∧ Below w.heap.size w w1 ∧ w.heap.size ≤ w1.heap.size) := by
            rw [hx]; exact ⟨hA1, (HB.out.alloc hsz _).trans hb1, Nat.le_trans (Nat.le_trans hsz (by simp)) hb1.size⟩
          clear hA1 hb1 HA HB cW
          go_wp2
          go_roundw
          case rel => exact ⟨k + 1, by omega, by go_num, RR.out.1, RR.out.2.1, RR.out.2.2⟩
          case measure => simp [intOf]; omega
    · have hke : k = s.size := by omega
      subst hke
      have cS := writeByte_c w.heap.size w.heap.size (Lib.byteCells (acc q s.data.toList s.size)) q.toNat wr (.inr HA.out) (by omega) hsz
      have hfin : Lib.byteCells (acc q s.data.toList s.size) ++ [.int .u8 q.toNat] = Lib.byteCells (quoteP q s.data.toList) := by
        unfold acc quoteP
        rw [List.take_of_length_le (by simp)]
        simp [Lib.byteCells]
      rw [hfin] at cS
      have cT := fun W h h2 => Tryz.Builder_String_any w.heap.size w.heap.size (quoteP q s.data.toList) W h h2
      clear hfin
      go_wp2_with (first | (go_at_call 53; refine cS.mono ?_; rintro e w1 ⟨rfl, hA1, hb1⟩) | (go_at_call 56; refine (cT _ (.inr hA1) (Nat.le_trans hsz hb1.size)).mono ?_; rintro e w2 ⟨rfl, hb2⟩))
      go_ret
      exact ⟨rfl, (HB.out.trans hb1).trans hb2⟩
end Go.Proofs.YtjbmpdcgmphhoaaGreatDoor
