/-
  A copy that goes its own way.
-/
import Derived.Test.YtdfkkflpcamhjaaGreatDoorMDuo
namespace Go.Proofs.YtdfkkflpcamhjaaGreatDoor
open Go.RowKit Go.Maps
set_option linter.unusedVariables false
set_option maxRecDepth 100000

section
variable {B : Nat} {w w1 w2 : World} {b mb rb : Nat} {v rv v' rv' : Value} {rs rs2 : List (Rw × Value)} {ps : List (Value × Value)}
theorem refusal_in (h : Tab B w b mb v rs ps) (h0 : 0 < rs.length) {x : Value} {l : List Mb} (hl : MemIn w x l) (hs : ∀ m ∈ l, m.name.size ≤ 9223372036854775807) (hbig : l.length ≤ 9223372036854775807) :
    Calls Tryz.prog 58 #[.pointer (some ⟨b, 0, none⟩), x] w fun e w' => e = .returned (.int .i64 (refusP rs l)) ∧ Below w.heap.size w w' := by
  rcases hl with hl | ⟨a, c, rfl, rfl⟩
  · exact refusal_c h h0 hl hs hbig
  · have hr : refusP rs [] = 2 := rfl
    rw [hr]
    go_enter Tryz.func58, Tryz.ntmps58
    go_wp2
    go_ret
    exact ⟨rfl, Below.refl _ _⟩
theorem complete_err_in (h : Tab B w b mb v rs ps) (h0 : 0 < rs.length) {x : Value} {l : List Mb} (hl : MemIn w x l) (hs : ∀ m ∈ l, m.name.size ≤ 9223372036854775807) (hbig : l.length ≤ 9223372036854775807) {i : Nat} {r : Rw} {s0 : Value} (hp : rs[i]? = some (r, s0))
    (hk : recK r.kind = true) (hd : r.done = false) (he : refusP rs l ≠ 0) :
    Calls Tryz.prog 26 #[.pointer (some ⟨b, 0, none⟩), .int .i64 i, x] w fun e w' => e = .returned (.int .i64 (refusP rs l)) ∧ Below w.heap.size w w' := by
  have c1 := made_c h h0
  have c2 := kind_some h i _ hp
  have c3 := isRecord_c r.kind w
  rw [hk] at c3
  have c4 := refusal_in h h0 hl hs hbig
  have hc := h.c0
  have hlt : i < rs.length := (List.getElem?_eq_some_iff.1 hp).1
  have hln := h.len
  obtain ⟨g, cap, rfl, hcap, hcell⟩ := h.cell hp
  have a5 := hcell 5 (by omega)
  simp only [rwCells, List.getElem?_cons_succ, List.getElem?_cons_zero, hd] at a5
  clear hcell hp
  have h1 := not_t
  generalize refusP rs l = z at *
  have hz : (z != 0) = true := by simpa using he
  simp only at c2
  go_enter Tryz.func26, Tryz.ntmps26
  go_wp2_with (first | (go_at_call 41; refine c1.mono ?_; rintro e w' ⟨rfl, rfl⟩) | (go_at_call 57; refine c2.mono ?_; rintro e w' ⟨rfl, rfl⟩) | (go_at_call 56; refine c3.mono ?_; rintro e w' ⟨rfl, rfl⟩) | (go_at_call 58; refine c4.mono ?_; rintro e w1 ⟨rfl, hb1⟩))
  go_ret
  exact ⟨rfl, hb1⟩

/-- Complete, whatever comes: an error, and nothing has turned but the table. -/
theorem complete_any (h : Tab B w b mb v rs ps) (h0 : 0 < rs.length) {x : Value} {l : List Mb} (hl : MemIn w x l) (hs : ∀ m ∈ l, m.name.size ≤ 9223372036854775807) (hbig : l.length ≤ 9223372036854775807) (id : Int) :
    ∃ er : Int, Calls Tryz.prog 26 #[.pointer (some ⟨b, 0, none⟩), .int .i64 id, x] w fun e w' => e = .returned (.int .i64 er) ∧ Turned w w' (own b mb v) := by
  cases hk : recK (kindP rs id) with
  | false => exact ⟨30, (complete_type h h0 x id hk).mono fun e w' ⟨he, hw⟩ => ⟨he, by subst hw; exact Turned.refl _ _⟩⟩
  | true =>
    obtain ⟨i, r, s0, rfl, hp⟩ : ∃ (i : Nat) (r : Rw) (s0 : Value), id = i ∧ rs[i]? = some (r, s0) := by
      unfold kindP at hk
      split at hk
      · rename_i h0
        cases hp : rs[id.toNat]? with
        | none => rw [hp] at hk; cases hk
        | some p => exact ⟨id.toNat, p.1, p.2, by omega, hp⟩
      · cases hk
    rw [kindP_some hp] at hk
    have hk : recK r.kind = true := hk
    cases hd : r.done with
    | true => exact ⟨33, (complete_done h h0 x hp hk hd).mono fun e w' ⟨he, hw⟩ => ⟨he, by subst hw; exact Turned.refl _ _⟩⟩
    | false =>
      by_cases he : refusP rs l = 0
      · have hx : MemSl w x l := by
          rcases hl with hl | ⟨a, c, rfl, rfl⟩
          · exact hl
          · cases he
        exact ⟨0, (complete_c h h0 hx hs hbig hp hk hd he).mono fun e w' ⟨he, s, _, ht⟩ => ⟨he, ht⟩⟩
      · exact ⟨_, (complete_err_in h h0 hl hs hbig hp hk hd he).mono fun e w' ⟨he, hb⟩ => ⟨he, Turned.of_below hb _⟩⟩
/-- A struct more, if there is room. -/
theorem struct_any (h : Tab B w b mb v rs ps) (h0 : 0 < rs.length) (s : ByteArray) (hs : s.size ≤ 9223372036854775807) (ht : tagP s.data.toList = true) :
    ∃ x y : Int, Calls Tryz.prog 24 #[.pointer (some ⟨b, 0, none⟩), .string s] w fun e w' => e = .returned (.tuple #[.int .i64 x, .int .i64 y]) ∧ ∃ v' rs', 0 < rs'.length ∧ Tab B w' b mb v' rs' ps ∧ Turned w w' (own b mb v) := by
  have hl := h.len
  by_cases hfull : rs.length = 512
  · exact ⟨0, 32, struct_of (R := fun _ w' => ∃ v' rs', 0 < rs'.length ∧ Tab B w' b mb v' rs' ps ∧ Turned w w' (own b mb v)) (tagged_of (R := fun _ w' => ∃ v' rs', 0 < rs'.length ∧ Tab B w' b mb v' rs' ps ∧ Turned w w' (own b mb v)) h h0 15 s hs ht ((add_full h _ _ hfull).mono fun e w' ⟨he, hb⟩ => ⟨he, v, rs, h0, h.keptB hb, Turned.of_below hb _⟩))⟩
  · exact ⟨rs.length, 0, struct_of (R := fun _ w' => ∃ v' rs', 0 < rs'.length ∧ Tab B w' b mb v' rs' ps ∧ Turned w w' (own b mb v)) (tagged_of (R := fun _ w' => ∃ v' rs', 0 < rs'.length ∧ Tab B w' b mb v' rs' ps ∧ Turned w w' (own b mb v)) h h0 15 s hs ht ((add_c h _ _ (World.ownsRow_nil _ _ _ _) (by omega)).mono fun e w' ⟨he, v', a1, t1, _⟩ => ⟨he, v', _, by simp, a1, t1⟩))⟩
theorem below_turned {n : Nat} {S : Nat → Prop} (h : Below n w w1) (ht : Turned w1 w2 S) (hn : n ≤ w.heap.size) (hS : ∀ k, S k → n ≤ k) : Below n w w2 :=
  ⟨ht.os.trans h.os, ht.tape.trans h.tape, ht.output.trans h.output, Nat.le_trans h.size ht.size, fun k hk => (ht.block k (by have := h.size; omega) (fun hs => by have := hS k hs; omega)).trans (h.block k hk)⟩
theorem Tab.own_ge (h : Tab B w b mb v rs ps) {k : Nat} (hk : own b mb v k) : B ≤ k := by
  rcases hk with rfl | rfl | hk
  · exact h.bB
  · exact h.mB
  · exact (ownsRow_at h.rows hk).1

theorem eqT_at (a : Addr) (W : World) : (binOp BinOp.eql 24 (.pointer (some a)) (.pointer none)).run Tryz.prog W = .ok (.bool false) W := by kernel_rfl
theorem small_fst (hf : rs2.map (·.1) = rs.map (·.1)) (hs : Small rs) : Small rs2 := by
  intro p hp
  have hm : p.1 ∈ rs2.map (·.1) := List.mem_map.2 ⟨p, hp, rfl⟩
  rw [hf] at hm
  obtain ⟨q, hq, hq2⟩ := List.mem_map.1 hm
  rw [← hq2]; exact hs q hq

set_option maxHeartbeats 20000000 in
theorem play_7 (h : Duo B w b mb v rs rb rv rs2) (a c : Int) (s : ByteArray) {ls : Value} {l : List Mb} (hl : Low B w ls l) (hs : ∀ m ∈ l, m.name.size ≤ 9223372036854775807) (hbig : l.length * 32 ≤ 140737488355328) :
    Calls Tryz.prog 7 #[.pointer (some ⟨b, 0, none⟩), .pointer (some ⟨rb, 0, none⟩), .agg (actC 7 a c s ls)] w fun e w2 => e = .returned (.bool true) ∧ FinP B w b mb rb w2 := by
  unfold actC
  have hbX : Below w.heap.size w (w.alloc (.cells #[.int .i64 7, .int .i64 a, .int .i64 c, .string s, ls] 33)) := (Below.refl _ w).alloc (Nat.le_refl _) _
  have hx : (w.alloc (.cells #[.int .i64 7, .int .i64 a, .int .i64 c, .string s, ls] 33)).heap[w.heap.size]? = some (.cells #[.int .i64 7, .int .i64 a, .int .i64 c, .string s, ls] 33 (0, 0)) := Array.getElem?_push_size
  obtain ⟨X, hX⟩ : ∃ X, X = w.alloc (.cells #[.int .i64 7, .int .i64 a, .int .i64 c, .string s, ls] 33) := ⟨_, rfl⟩
  have hD := h.below hbX
  have c1 := copyT_c hD.tab (by have := h.len; omega) h.small
  rw [← hX] at hbX hx c1 hD
  have HD : Hid (Duo B X _ _ _ _ _ _ _) := hD
  have HD0 : Hid (Duo B w _ _ _ _ _ _ _) := h
  have HL : Hid (Low _ _ _ _) := hl
  have HS : Hid (∀ m ∈ l, m.name.size ≤ 9223372036854775807) := hs
  have HX : Hid (X.heap[w.heap.size]? = some (.cells #[.int .i64 7, .int .i64 a, .int .i64 c, .string s, ls] 33 (0, 0))) := hx
  have HBX : Hid (Below w.heap.size w X) := hbX
  clear h hbX hx hl hs hD
  have hn1 := not_t
  have hn2 := not_f
  go_enter Tryz.func7, Tryz.ntmps7
  go_wp2_with fail
  rw [← hX]
  clear hX
  refine c1.mono ?_
  rintro e w1 ⟨b2, mb2, v2, rsc, rfl, hf, hT, hb1⟩
  have heq := eqT_at ⟨b2, 0, none⟩
  have hlc : rsc.length = rs.length := fst_len hf
  have hsm : Small rsc := small_fst hf HD.out.small
  have hl11 := HD.out.len
  have hl512 := HD.out.tab.len
  have cR := fun Y (hY : Below w1.heap.size w1 Y) => rows_c (hT.keptB hY) (by omega) hsm
  have HT : Hid (Tab X.heap.size w1 b2 mb2 v2 rsc _) := hT
  have HB1 : Hid (Below X.heap.size X w1) := hb1
  have HF : Hid (rsc.map (·.1) = rs.map (·.1)) := hf
  have hR := HD.out.ref.keptB hb1
  have hc : w1.cell? ⟨rb, 0, none⟩ = some rv := hR.c0
  have hrb : rb < w1.heap.size := World.block_lt_of_cell? w1 _ hc
  have hrl := HD.out.len2
  have HS2 : Hid (∀ Y v' rs', Below w1.heap.size w1 Y → rs'.map (·.1) = rsc.map (·.1) → Y.ownsRow w1.heap.size TR 6 v' rs'.length (allCells rs') → (∀ p ∈ rs', Y.ownsRow w1.heap.size TM 3 p.2 p.1.mem.length (memCells p.1.mem)) →
      Calls Tryz.prog 10 #[v', rv] Y fun e w' => e = .returned (.bool true) ∧ Below Y.heap.size Y w') := by
    intro Y v' rs' hY hfst h3 h4
    exact same_c (RowSl.of_own h3 h4) (hR.keptB hY).rowSl ((hfst.trans HF.out).trans HD.out.same.symm) (by have := fst_len hfst; omega) (fun p hp => by have := small_fst hfst hsm p hp; omega)
  clear c1 hT hb1 hf hR
  go_wp2
  have hwX : w.heap.size ≤ X.heap.size := HBX.out.size
  go_region_with (first
    | (go_at_call 9; refine (cR _ (by exact below_drew _ w1)).mono ?_; rintro e w2 ⟨v', rs', rfl, x1, x2, x3, x4⟩; have HB2 : Hid (Below w1.heap.size w1 w2) := (below_drew _ w1).trans x4; have q2 := (HB2.out.cell (p := ⟨rb, 0, none⟩) hrb).trans hc; have HSS : Hid (Calls Tryz.prog 10 #[v', rv] w2 fun e w' => e = .returned (.bool true) ∧ Below w2.heap.size w2 w') := HS2.out w2 v' rs' HB2.out x1 x2 x3; clear x1 x2 x3 x4)
    | (go_at_call 10; refine HSS.out.mono ?_; rintro e w3 ⟨rfl, hb3⟩; have HB13 : Hid (Below w1.heap.size w1 w3) := HB2.out.trans (hb3.mono HB2.out.size); have HB3 : Hid (Below X.heap.size X w3) := HB1.out.trans (HB13.out.mono HB1.out.size); have HT3 : Hid (Tab X.heap.size w3 b2 mb2 v2 rsc _) := HT.out.keptB HB13.out; obtain ⟨x, y, c4⟩ := struct_any HT3.out (by omega) ⟨#[99, 111, 112, 105, 101, 100]⟩ (by decide) (by decide); clear hb3 q2))
  all_goals go_wp2_with (first
    | (go_at_call 24; refine c4.mono ?_; rintro e w4 ⟨rfl, v4, rs4, h04, hT4, ht4⟩; have HB4 : Hid (Below X.heap.size X w4) := below_turned HB3.out ht4 (Nat.le_refl _) (fun k hk => HT3.out.own_ge hk); have hbx := (HB4.out.block _ (lt_of_heap HX.out)).trans HX.out; have p1 : w4.cell? ⟨w.heap.size, 1, none⟩ = some (.int .i64 a) := (by rw [Lib.cell_of_heap hbx]; rfl); have p4 : w4.cell? ⟨w.heap.size, 4, none⟩ = some ls := (by rw [Lib.cell_of_heap hbx]; rfl); have HC5 := complete_any hT4 h04 (HL.out w4 (Turned.of_below (HBX.out.trans (HB4.out.mono hwX)) _)) HS.out (by omega) a; obtain ⟨er, c5⟩ := HC5; have HT4 : Hid (Tab X.heap.size w4 b2 mb2 v4 rs4 _) := hT4; clear c4 ht4 hT4 hbx)
    | (go_at_call 26; refine c5.mono ?_; rintro e w5 ⟨rfl, ht5⟩; have HB5 : Hid (Below X.heap.size X w5) := below_turned HB4.out ht5 (Nat.le_refl _) (fun k hk => HT4.out.own_ge hk); clear c5 ht5 p1 p4))
  all_goals go_ret
  all_goals
    have hb := HBX.out.trans (HB5.out.mono hwX)
    exact ⟨rfl, _, _, _, _, HD0.out.below hb, Turned.of_below hb _⟩
end
end Go.Proofs.YtdfkkflpcamhjaaGreatDoor
