/-
  Two tables above what came in, and acts that came in.
  The given answer's New.
  The first two tables: by New, and by rows.
  Both: two tables of rows that came in.
-/
import Derived.Test.YtdfkkflpcamhjaaGreatDoorRefAdd
import Derived.Test.YtdfkkflpcamhjaaGreatDoorNew
import Derived.Test.YtdfkkflpcamhjaaGreatDoorMDuo
import Derived.Test.YtdfkkflpcamhjaaGreatDoorRefFrom
import Derived.Test.YtdfkkflpcamhjaaGreatDoorMFrom
import Derived.Test.YtdfkkflpcamhjaaGreatDoorMAct
import Derived.Test.YtdfkkflpcamhjaaGreatDoorHeads
namespace Go.Proofs.YtdfkkflpcamhjaaGreatDoor
open Go.RowKit Go.Maps
set_option linter.unusedVariables false
set_option maxRecDepth 100000

theorem rtab_empty (w : World) : RTab w.heap.size (w.alloc (.cells #[.slice none 0 0] TT)) w.heap.size (.slice none 0 0) (basicRows 0) :=
  ⟨Nat.le_refl _, heap_r0 w _, World.ownsRow_nil _ _ _ _, fun p hp => by cases hp⟩

set_option maxHeartbeats 1000000 in
theorem rNew_c (w : World) :
    Calls Tryz.prog 6 #[] w fun e w' => ∃ b v, e = .returned (.pointer (some ⟨b, 0, none⟩)) ∧ RTab w.heap.size w' b v (basicRows 11) ∧ Below w.heap.size w w' := by
  have hbz : ∀ (k : Int) (W : World), (Instr.build TR #[(0, .int .i64 k)]).run Tryz.prog W = .ok (.agg #[.int .i64 k, .int .i64 0, .int .i64 0, .string ⟨#[]⟩, .slice none 0 0, .bool false]) W := fun k W => by kernel_rfl
  have hbt : ∀ (W : World), (Instr.build TT #[]).run Tryz.prog W = .ok (.agg #[.slice none 0 0]) W := fun W => by kernel_rfl
  obtain ⟨i0, hi, hz0, hz1, hz2⟩ := info_parts infoTR
  go_enter Tryz.func6, Tryz.ntmps6
  go_wp2
  go_loopw [2] (fun i wr => ∃ (n : Nat) (v : Value), i = .int .i64 ((n : Int) + 1) ∧ n ≤ 11 ∧ Hid (RTab w.heap.size wr w.heap.size v (basicRows n)) ∧ Hid (Below w.heap.size w wr)) (fun i _ => 12 - (intOf i).toNat)
  case atStart =>
    refine ⟨0, .slice none 0 0, rfl, by omega, ?_, ?_⟩
    · exact rtab_empty w
    · exact (Below.refl _ w).alloc (Nat.le_refl _) _
  case round =>
    obtain ⟨n, v, rfl, hn, HT, HB⟩ := hrel
    by_cases hlt : n < 11
    · have hc := HT.out.c0
      obtain ⟨p, cap, hv⟩ := HT.out.sl
      have hl : (basicRows n).length = n := by simp [basicRows]
      rw [hl] at hv
      rw [hv] at hc
      have H3 : Hid (RTab w.heap.size (wr.alloc (.cells #[.int .i64 ((n : Int) + 1), .int .i64 0, .int .i64 0, .string ⟨#[]⟩, .slice none 0 0, .bool false] TR)) w.heap.size v (basicRows n)) := HT.out.alloc _
      have HR : Hid (World.ownsRow (wr.alloc (.cells #[.int .i64 ((n : Int) + 1), .int .i64 0, .int .i64 0, .string ⟨#[]⟩, .slice none 0 0, .bool false] TR)) w.heap.size TR 6 v n (allCells (basicRows n))) := by
        have := H3.out.rows; rw [hl] at this; exact this
      clear hl
      go_wp2_with (at_builtin; go_must (refine wpList_append_own_at _ rfl (.tmp 13) (.tmp 16) 22 rfl w.heap.size TR i0 zeroRow 6 72 Tryz.underlying22 hi hz0 hz1 hz2 rfl (by decide) v n _ hv.symm HR.out ⟨wr.heap.size, 0, none⟩ 1 1 _ rfl rfl (cells_new _ _ _) (by simp [Value.oneCell']) (by unfold maxLen; omega) (by omega) (by exact H3.out.lt) ?_); intro v' w' hown hgrow hnil hat; obtain ⟨p', cap', rfl⟩ := slice_of_own hown; have HTT : Hid (w'.heap[w.heap.size]? = some (.cells #[v] TT (0, 0))) := (hgrow.block _ (lt_of_heap H3.out.tab) (fun e => H3.out.v_b e.symm rfl)).trans H3.out.tab; have hc' : w'.cell? ⟨w.heap.size, 0, none⟩ = some v := (Lib.cell_of_heap HTT.out 0).trans rfl; have hf' : w'.frozen? ⟨w.heap.size, 0, none⟩ = false := frozen_of HTT.out 0; have HO : Hid (World.ownsRow _ _ _ _ _ _ _) := hown; have HG : Hid (World.grownBy _ _ _) := hgrow; have HA : Hid (_ ∨ _) := hat; clear hown hgrow hnil hat)
      have hl : (basicRows n).length = n := by simp [basicRows]
      have t := H3.out.snoc (r := (basic n).1) (s := .slice none 0 0) HG.out (by rw [hl]; exact HO.out) HA.out (Turned.setCell _ w.heap.size 0 _ rfl) (heap_setCell HTT.out _) (World.ownsRow_nil _ _ _ _)
      refine ⟨⟨n + 1, .slice p' (n + 1) cap', by simp, by omega, ?_, ?_⟩, by simp [intOf]; omega⟩
      · have e : basicRows (n + 1) = basicRows n ++ [((basic n).1, .slice none 0 0)] := by simp [basicRows, List.range_succ, basic]
        show RTab _ _ _ _ _
        rw [e]; exact t.1
      · have hA : Below w.heap.size wr (wr.alloc (.cells #[.int .i64 ((n : Int) + 1), .int .i64 0, .int .i64 0, .string ⟨#[]⟩, .slice none 0 0, .bool false] TR)) := (Below.refl _ wr).alloc HB.out.size _
        refine HB.out.trans (hA.trans ⟨t.2.os, t.2.tape, t.2.output, t.2.size, fun k hk => t.2.block k (Nat.lt_of_lt_of_le hk (Nat.le_trans HB.out.size hA.size)) ?_⟩)
        rintro (rfl | hk2)
        · exact Nat.lt_irrefl _ hk
        · have := (ownsRow_at H3.out.rows hk2).1; omega
    · go_wp2
      go_ret
      obtain rfl : n = 11 := by omega
      exact ⟨_, _, rfl, HT.out, HB.out⟩
end Go.Proofs.YtdfkkflpcamhjaaGreatDoor
namespace Go.Proofs.YtdfkkflpcamhjaaGreatDoor
open Go.RowKit Go.Maps
set_option linter.unusedVariables false
set_option maxRecDepth 100000

section
variable {B : Nat} {w w1 w2 w3 : World} {b mb rb : Nat} {v rv : Value} {rs rs2 : List (Rw × Value)}
theorem tab_base {B' : Nat} {ps : List (Value × Value)} (h : Tab B' w b mb v rs ps) (hle : B ≤ B') : Tab B w b mb v rs ps :=
  ⟨Nat.le_trans hle h.bB, Nat.le_trans hle h.mB, h.tab, ownsRow_base h.rows hle, fun p hp => ownsRow_base (h.mems p hp) hle, h.map, h.wf, h.len⟩
theorem rtab_base {B' : Nat} (h : RTab B' w b v rs) (hle : B ≤ B') : RTab B w b v rs :=
  ⟨Nat.le_trans hle h.bB, h.tab, ownsRow_base h.rows hle, fun p hp => ownsRow_base (h.mems p hp) hle⟩
theorem allIn_uniq (h : AllIn rs rs.length) : Uniq (pairs (rowsOf rs)) := by
  have hk : ∀ k, k ≤ rs.length → Uniq (pairs ((rowsOf rs).take k)) := by
    intro k
    induction k with
    | zero => intro _ K a a' ha; simp [pairs] at ha
    | succ k ih =>
      intro hk
      obtain ⟨p, hp⟩ : ∃ p, rs[k]? = some p := ⟨_, List.getElem?_eq_getElem (by omega)⟩
      rw [pairs_take hp]
      exact enter_uniq (h k p (by omega) hp) (ih (by omega))
  have := hk rs.length (Nat.le_refl _)
  rwa [show (rowsOf rs).take rs.length = rowsOf rs by rw [List.take_of_length_le]; simp [rowsOf]] at this

/-- The program's first, the given answer's behind it. -/
theorem duo_of1 (hT : Tab B w1 b mb v rs (pairs (rowsOf rs))) (hb : Below w1.heap.size w1 w2) (hR : RTab w1.heap.size w2 rb rv rs2) (hf : rs2.map (·.1) = rs.map (·.1)) (hl : 11 ≤ rs.length) (hs : Small rs) (hu : Uniq (pairs (rowsOf rs))) (hsa : ∀ p ∈ rs, Sane p.1) (hok : FromOK rs) : Duo B w2 b mb v rs rb rv rs2 := by
  refine ⟨hT.keptB hb, rtab_base hR hT.lt, hf, ?_, hl, hs, hu, hsa, hok⟩
  intro k hk hk2
  obtain ⟨_, _, e⟩ := ownsRow_at hT.rows hk
  have h1 := lt_of_heap e
  have := (ownsRow_at hR.rows hk2).1
  omega
/-- The given answer's first, the program's behind it. -/
theorem duo_of2 (hR : RTab B w1 rb rv rs2) (hb : Below w1.heap.size w1 w2) (hT : Tab w1.heap.size w2 b mb v rs (pairs (rowsOf rs))) (hf : rs2.map (·.1) = rs.map (·.1)) (hl : 11 ≤ rs.length) (hs : Small rs) (hu : Uniq (pairs (rowsOf rs))) (hsa : ∀ p ∈ rs, Sane p.1) (hok : FromOK rs) : Duo B w2 b mb v rs rb rv rs2 := by
  have hB : B ≤ w1.heap.size := hR.lt
  refine ⟨tab_base hT hB, hR.keptB hb, hf, ?_, hl, hs, hu, hsa, hok⟩
  intro k hk hk2
  obtain ⟨_, _, e⟩ := ownsRow_at hR.rows hk2
  have h1 := lt_of_heap e
  have := (ownsRow_at hT.rows hk).1
  omega
theorem duo_new (hT : Tab B w1 b mb v (basicRows 11) []) (hb : Below w1.heap.size w1 w2) (hR : RTab w1.heap.size w2 rb rv (basicRows 11)) : Duo B w2 b mb v (basicRows 11) rb rv (basicRows 11) := by
  have hp : pairs (rowsOf (basicRows 11)) = [] := by decide
  refine duo_of1 (by rw [hp]; exact hT) hb hR rfl (by decide) ?_ (by rw [hp]; intro K a a' ha; cases ha) ?_ fromOK_new
  · intro p hpm
    simp only [basicRows, List.mem_map, List.mem_range] at hpm
    obtain ⟨n, hn, rfl⟩ := hpm
    simp [basic]
  · intro p hpm
    simp only [basicRows, List.mem_map, List.mem_range] at hpm
    obtain ⟨n, hn, rfl⟩ := hpm
    refine ⟨?_, ?_, ?_⟩ <;> simp [basic] <;> omega
theorem duo_from (hR : RTab B w1 rb rv rs2) (hb : Below w1.heap.size w1 w2) (hT : Tab w1.heap.size w2 b mb v rs (pairs (rowsOf rs))) (hf : rs2.map (·.1) = rs.map (·.1)) (hl : 11 ≤ rs.length) (hok : FromOK rs) : Duo B w2 b mb v rs rb rv rs2 :=
  duo_of2 hR hb hT hf hl (AllIn_parts hok.1).2 (allIn_uniq hok.1) (allIn_sane hok.1) hok
end
end Go.Proofs.YtdfkkflpcamhjaaGreatDoor
namespace Go.Proofs.YtdfkkflpcamhjaaGreatDoor
open Go.RowKit Go.Maps
set_option linter.unusedVariables false
set_option maxRecDepth 100000

section
variable {w : World}
def BothPost (w w' : World) (e : Ending) : Prop :=
  e = .returned (.tuple #[.pointer none, .pointer none, .bool false]) ∨
  ∃ b mb v rs rb rv rs2, e = .returned (.tuple #[.pointer (some ⟨b, 0, none⟩), .pointer (some ⟨rb, 0, none⟩), .bool true]) ∧ Duo w.heap.size w' b mb v rs rb rv rs2

set_option maxHeartbeats 4000000 in
theorem both_c {v : Value} {rs : List (Rw × Value)} (h : RowIn w v rs) (hl : rs.length * 72 ≤ 140737488355328) (hO : ∀ p ∈ rs, Okay p.1) :
    Calls Tryz.prog 4 #[v] w fun e w' => BothPost w w' e ∧ Below w.heap.size w w' := by
  obtain ⟨sp, sc, hv, hsc⟩ : ∃ sp sc, v = .slice sp rs.length sc ∧ rs.length ≤ sc := by
    rcases h.1 with ⟨e, hh⟩ | ⟨a, c, e, hh⟩ | ⟨g, o, cap, hv, hc, _⟩
    · rw [hh]; exact ⟨none, 0, e, Nat.le_refl _⟩
    · rw [hh]; exact ⟨_, _, e, Nat.zero_le _⟩
    · exact ⟨_, _, hv, hc⟩
  by_cases hn : 11 ≤ rs.length ∧ rs.length ≤ 512
  · have c1 := rFrom_c h hn.1 hn.2 hO
    by_cases hok : RefOK rs
    · have c1' : Calls Tryz.prog 13 #[v] w fun e w' => ∃ rb rv rs2, e = .returned (.tuple #[.pointer (some ⟨rb, 0, none⟩), .int .i64 0]) ∧ rs2.map (·.1) = rs.map (·.1) ∧ RTab w.heap.size w' rb rv rs2 ∧ Below w.heap.size w w' := by
        refine c1.mono ?_
        rintro e w' ⟨⟨hno, _⟩ | ⟨_, rb, rv, rs2, he, hf, hR⟩, hb⟩
        · exact absurd hok hno
        · exact ⟨rb, rv, rs2, he, hf, hR, hb⟩
      have hbt : ∀ (W : World), (Instr.build TT #[(0, v)]).run Tryz.prog W = .ok (.agg #[v]) W := fun W => by rw [hv]; kernel_rfl
      have cC : Hid (∀ X, Below w.heap.size w X → Calls Tryz.prog 15 #[.pointer (some ⟨X.heap.size, 0, none⟩)] (X.alloc (.cells #[v] TT)) fun e w' => ∃ b v' rs', e = .returned (.pointer (some ⟨b, 0, none⟩)) ∧ rs'.map (·.1) = rs.map (·.1) ∧ RTab (X.alloc (.cells #[v] TT)).heap.size w' b v' rs' ∧ Below (X.alloc (.cells #[v] TT)).heap.size (X.alloc (.cells #[v] TT)) w') := by
        intro X hX
        exact refCopy_c (by rw [Lib.cell_of_heap (heap_r0 X _)]; rfl) (h.below (hX.alloc hX.size _)) hl (fun p hp => (hO p hp).mem)
      have HO : Hid (∀ p ∈ rs, Okay p.1) := hO
      have HOK : Hid (RefOK rs) := hok
      rw [hv] at hbt cC c1' ⊢
      clear h hO hok c1 hv
      go_enter Tryz.func4, Tryz.ntmps4
      go_wp2_with fail
      refine c1'.mono ?_
      rintro e w1 ⟨rb, rv, rs2, rfl, hf, hR, hb1⟩
      have HR : Hid (RTab w.heap.size w1 rb rv rs2) := hR
      have HF : Hid (rs2.map (·.1) = rs.map (·.1)) := hf
      have HB1 : Hid (Below w.heap.size w w1) := hb1
      have c2 := cC.out w1 hb1
      clear c1' hR hf hb1 cC
      go_wp2_with fail
      refine c2.mono ?_
      rintro e w2 ⟨b2, v', rs', rfl, hf2, hR2, hb2⟩
      have hl2 : rs'.length = rs.length := fst_len hf2
      have hO' : ∀ p ∈ rs', Okay p.1 := by
        intro p hp
        have hm : p.1 ∈ rs'.map (·.1) := List.mem_map.2 ⟨p, hp, rfl⟩
        rw [hf2] at hm
        obtain ⟨q, hq, hq2⟩ := List.mem_map.1 hm
        rw [← hq2]; exact HO.out q hq
      have hq0 : w2.cell? ⟨b2, 0, none⟩ = some v' := hR2.c0
      have c3 : Calls Tryz.prog 14 #[v'] w2 fun e w' => ∃ b mb tv rs3, e = .returned (.tuple #[.pointer (some ⟨b, 0, none⟩), .int .i64 0]) ∧ rs3.map (·.1) = rs'.map (·.1) ∧ Tab w2.heap.size w' b mb tv rs3 (pairs (rowsOf rs3)) ∧ FromOK rs3 ∧ Below w2.heap.size w2 w' := by
        refine (from_c hR2.rowSl (by omega) (by omega) hO').mono ?_
        rintro e w' ⟨⟨hno, _⟩ | ⟨hyes, b, mb, tv, rs3, he, hf3, hT⟩, hb⟩
        · exact absurd (ok_same.2 (RefOK_fst hf2 HOK.out)) hno
        · exact ⟨b, mb, tv, rs3, he, hf3, hT, FromOK_fst hf3 hyes, hb⟩
      have HB2 : Hid (Below w1.heap.size w1 w2) := ((Below.refl _ w1).alloc (Nat.le_refl _) _).trans (hb2.mono (by simp))
      have HF2 : Hid (rs'.map (·.1) = rs.map (·.1)) := hf2
      obtain ⟨p', c', hv'⟩ := hR2.sl
      rw [hv'] at hq0 c3
      clear c2 hf2 hR2 hb2 hO' hv' hl2
      go_wp2_with fail
      refine c3.mono ?_
      rintro e w3 ⟨b, mb, tv, rs3, rfl, hf3, hT3, hok3, hb3⟩
      have HD : Hid (Duo w.heap.size w3 b mb tv rs3 rb rv rs2) := duo_from (HR.out.keptB HB2.out) hb3 hT3 (HF.out.trans (hf3.trans HF2.out).symm) (by have h1 := fst_len hf3; have h2 := fst_len HF2.out; omega) hok3
      have HB3 : Hid (Below w.heap.size w w3) := HB1.out.trans ((HB2.out.trans (hb3.mono HB2.out.size)).mono HB1.out.size)
      clear c3 hf3 hT3 hok3 hb3 hq0
      go_wp2
      go_ret3
      exact ⟨Or.inr ⟨b, mb, tv, rs3, rb, rv, rs2, rfl, HD.out⟩, HB3.out⟩
    · have c1' : Calls Tryz.prog 13 #[v] w fun e w' => e = .returned (.tuple #[.pointer none, .int .i64 30]) ∧ Below w.heap.size w w' := by
        refine c1.mono ?_
        rintro e w' ⟨⟨_, he⟩ | ⟨hyes, _⟩, hb⟩
        · exact ⟨he, hb⟩
        · exact absurd hyes hok
      rw [hv] at c1' ⊢
      clear h hO c1 hv
      go_enter Tryz.func4, Tryz.ntmps4
      go_wp2_with fail
      refine c1'.mono ?_
      rintro e w1 ⟨rfl, hb1⟩
      go_wp2
      go_ret3
      exact ⟨Or.inl rfl, hb1⟩
  · have c1' := rFrom_len (w := w) hv (by omega) (by omega)
    rw [hv] at c1' ⊢
    clear h hO hv
    go_enter Tryz.func4, Tryz.ntmps4
    go_wp2_with fail
    refine c1'.mono ?_
    rintro e w1 ⟨rfl, rfl⟩
    go_wp2
    go_ret3
    exact ⟨Or.inl rfl, Below.refl _ _⟩
end
end Go.Proofs.YtdfkkflpcamhjaaGreatDoor
namespace Go.Proofs.YtdfkkflpcamhjaaGreatDoor
open Go.RowKit Go.Maps
set_option linter.unusedVariables false
set_option maxRecDepth 100000

theorem low_of {w : World} {s : Value} {l : List Mb} (h : MemIn w s l) : Low w.heap.size w s l := fun X ht => h.below ⟨ht.os, ht.tape, ht.output, ht.size, fun k hk => ht.block k hk (by omega)⟩
/-- Two tables, all above what came in. -/
def Two (w : World) (b mb rb : Nat) (wr : World) : Prop := Below w.heap.size w wr ∧ ∃ v rs rv rs2, Duo w.heap.size wr b mb v rs rb rv rs2
theorem Two.step {w wr w2 : World} {b mb rb : Nat} (h : Two w b mb rb wr) (hf : FinP w.heap.size wr b mb rb w2) : Two w b mb rb w2 := by
  obtain ⟨hb, _⟩ := h
  obtain ⟨v, rs, rv, rs2, hD, ht⟩ := hf
  exact ⟨⟨ht.os.trans hb.os, ht.tape.trans hb.tape, ht.output.trans hb.output, Nat.le_trans hb.size ht.size, fun k hk => (ht.block k (Nat.lt_of_lt_of_le hk hb.size) (by omega)).trans (hb.block k hk)⟩, v, rs, rv, rs2, hD⟩
theorem ActIn.sl {w : World} {v : Value} {xs : List (Ac × Value)} (h : ActIn w v xs) : ∃ p c, v = .slice p xs.length c ∧ (0 < xs.length → xs.length ≤ c) := by
  rcases h.1 with ⟨e, hh⟩ | ⟨a, c, e, hh⟩ | ⟨g, o, cap, hv, hc, _⟩
  · rw [hh]; exact ⟨none, 0, e, fun h => absurd h (by simp)⟩
  · rw [hh]; exact ⟨_, _, e, fun h => absurd h (by simp)⟩
  · exact ⟨_, _, hv, fun _ => hc⟩
theorem ActIn.at {w wr : World} {p : Option Addr} {n c k : Nat} {xs : List (Ac × Value)} {x : Ac × Value} (h : ActIn w (.slice p n c) xs) (hb : Below w.heap.size w wr) (hk : xs[k]? = some x) :
    ∃ g o, p = some ⟨g, o, none⟩ ∧ (∀ j, j < 5 → wr.cell? ⟨g, o + k * 5 + j, none⟩ = (acCells x.1 x.2)[j]?) ∧ MemIn w x.2 x.1.l := by
  have hlt : k < xs.length := (List.getElem?_eq_some_iff.1 hk).1
  rcases h.1 with ⟨_, hh⟩ | ⟨_, _, _, hh⟩ | ⟨g, o, cap, hv, hc, hg, hr⟩
  · rw [hh] at hlt; cases hlt
  · rw [hh] at hlt; cases hlt
  · injection hv with e1 _ _
    exact ⟨g, o, e1, fun j hj => (hb.cell (p := ⟨g, o + k * 5 + j, none⟩) hg).trans (hr k x hk j hj), h.2 x (List.mem_of_getElem? hk)⟩
theorem small_fst2 {rs rs2 : List (Rw × Value)} (hf : rs2.map (·.1) = rs.map (·.1)) (hs : Small rs) : Small rs2 := by
  intro p hp
  have hm : p.1 ∈ rs2.map (·.1) := List.mem_map.2 ⟨p, hp, rfl⟩
  rw [hf] at hm
  obtain ⟨q, hq, hq2⟩ := List.mem_map.1 hm
  rw [← hq2]; exact hs q hq
end Go.Proofs.YtdfkkflpcamhjaaGreatDoor
