/-
  The law's own function heads: what must come at any rate.
-/
import Derived.Test.YtdfkkflpcamhjaaGreatDoorDeclare
import Derived.Test.YtdfkkflpcamhjaaGreatDoorNew
import Derived.Test.YtdfkkflpcamhjaaGreatDoorTagged
import Derived.Test.YtdfkkflpcamhjaaGreatDoorPtrArr
namespace Go.Proofs.YtdfkkflpcamhjaaGreatDoor
open Go.RowKit Go.Maps
set_option linter.unusedVariables false
set_option maxRecDepth 100000

abbrev nilS : Value := .slice none 0 0
def row (k e n : Int) : Rw × Value := (⟨k, e, n, ⟨#[]⟩, [], false⟩, nilS)
def rows1 : List (Rw × Value) := basicRows 11 ++ [row 13 7 0]
def rows2 : List (Rw × Value) := rows1 ++ [row 14 11 3]
def rows3 : List (Rw × Value) := rows2 ++ [row 13 12 0]
def rows4 : List (Rw × Value) := rows3 ++ [(⟨15, 0, 0, ⟨#[83]⟩, [], false⟩, nilS)]
def rows5 : List (Rw × Value) := rows4 ++ [row 13 14 0]
def pairs1 : List (Value × Value) := [(keyV 13 7 0, .int .i64 11)]
def pairs2 : List (Value × Value) := pairs1 ++ [(keyV 14 11 3, .int .i64 12)]
def pairs3 : List (Value × Value) := pairs2 ++ [(keyV 13 12 0, .int .i64 13)]
def pairs5 : List (Value × Value) := pairs3 ++ [(keyV 13 14 0, .int .i64 15)]

theorem fine3 : Fine rows3 where
  ahead := by
    intro i p hp hd
    have hlt : i < 14 := (List.getElem?_eq_some_iff.1 hp).1
    have : ∀ i : Fin 14, derivd (rows3[i.1]'(i.2)).1 = true → 0 ≤ (rows3[i.1]'(i.2)).1.elem ∧ (rows3[i.1]'(i.2)).1.elem.toNat < i.1 := by decide
    have e := (List.getElem?_eq_some_iff.1 hp).2
    rw [← e] at hd ⊢
    exact this ⟨i, hlt⟩ hd
  kind := by
    intro p hp
    have : ∀ p ∈ rows3.map (fun p => p.1.kind), 1 ≤ p ∧ p ≤ 16 := by decide
    exact this _ (List.mem_map.2 ⟨p, hp, rfl⟩)
  lens := by
    intro p hp
    have : ∀ n ∈ rows3.map (fun p => p.1.len), -1 ≤ n ∧ n ≤ 16384 ∧ (Lib.itoa n).length ≤ 100 := by decide +kernel
    exact this _ (List.mem_map.2 ⟨p, hp, rfl⟩)
  tags := by
    intro p hp
    have : ∀ n ∈ rows3.map (fun p => p.1.tag.size), n ≤ 100 := by decide
    exact this _ (List.mem_map.2 ⟨p, hp, rfl⟩)

theorem decl12 : (if (declL rows3 13 (row 14 11 3).1 ⟨#[97]⟩).2.toList == [] then baseP (declL rows3 13 (row 14 11 3).1 ⟨#[97]⟩).1 else baseP (declL rows3 13 (row 14 11 3).1 ⟨#[97]⟩).1 ++ ⟨#[32]⟩ ++ (declL rows3 13 (row 14 11 3).1 ⟨#[97]⟩).2) = ⟨#[105, 110, 116, 32, 42, 97, 91, 51, 93]⟩ := by decide +kernel
theorem decl13 : (if (declL rows3 14 (row 13 12 0).1 ⟨#[]⟩).2.toList == [] then baseP (declL rows3 14 (row 13 12 0).1 ⟨#[]⟩).1 else baseP (declL rows3 14 (row 13 12 0).1 ⟨#[]⟩).1 ++ ⟨#[32]⟩ ++ (declL rows3 14 (row 13 12 0).1 ⟨#[]⟩).2) = ⟨#[105, 110, 116, 32, 42, 40, 42, 41, 91, 51, 93]⟩ := by decide +kernel

section
variable {B : Nat} {w : World} {b mb : Nat} {v : Value} {rs : List (Rw × Value)} {ps : List (Value × Value)}

theorem ptr_step (h : Tab B w b mb v rs ps) (id : Int) (h0 : 0 < rs.length) (hid : hasP rs.length id = true) (hw : wf64 id) (hno : ∀ kv ∈ ps, kv.1 ≠ keyV 13 id 0) (hl : rs.length < 512) {n : Int} (hn : (rs.length : Int) = n) :
    Calls Tryz.prog 20 #[.pointer (some ⟨b, 0, none⟩), .int .i64 id] w fun e w' => e = .returned (.tuple #[.int .i64 n, .int .i64 0]) ∧ ∃ v', Tab B w' b mb v' (rs ++ [row 13 id 0]) (ps ++ [(keyV 13 id 0, .int .i64 n)]) ∧ Below B w w' := by
  subst hn
  refine (ptr_of (R := fun _ w' => ∃ v', Tab B w' b mb v' (rs ++ [row 13 id 0]) (ps ++ [(keyV 13 id 0, .int .i64 rs.length)]) ∧ Below B w w') h h0 id hid ((derived_new h (k := 13) (e := id) (n := 0) (by unfold wf64; decide) hw (by unfold wf64; decide) hno hl).mono ?_))
  rintro e w' ⟨rfl, v', h1, h2, _⟩
  exact ⟨rfl, v', h1, h.below h2⟩
theorem arr_step (h : Tab B w b mb v rs ps) (id k : Int) (h0 : 0 < rs.length) (hid : hasP rs.length id = true) (hwh : wholeP rs id = true) (hk : lenK k = true) (hw : wf64 id) (hwk : wf64 k) (hno : ∀ kv ∈ ps, kv.1 ≠ keyV 14 id k) (hl : rs.length < 512) {n : Int} (hn : (rs.length : Int) = n) :
    Calls Tryz.prog 22 #[.pointer (some ⟨b, 0, none⟩), .int .i64 id, .int .i64 k] w fun e w' => e = .returned (.tuple #[.int .i64 n, .int .i64 0]) ∧ ∃ v', Tab B w' b mb v' (rs ++ [row 14 id k]) (ps ++ [(keyV 14 id k, .int .i64 n)]) ∧ Below B w w' := by
  subst hn
  refine (array_of (R := fun _ w' => ∃ v', Tab B w' b mb v' (rs ++ [row 14 id k]) (ps ++ [(keyV 14 id k, .int .i64 rs.length)]) ∧ Below B w w') h h0 id k hid hwh hk ((derived_new h (k := 14) (e := id) (n := k) (by unfold wf64; decide) hw hwk hno hl).mono ?_))
  rintro e w' ⟨rfl, v', h1, h2, _⟩
  exact ⟨rfl, v', h1, h.below h2⟩
theorem struct_step (h : Tab B w b mb v rs ps) (s : ByteArray) (h0 : 0 < rs.length) (hs : s.size ≤ 9223372036854775807) (ht : tagP s.data.toList = true) (hl : rs.length < 512) {n : Int} (hn : (rs.length : Int) = n) :
    Calls Tryz.prog 24 #[.pointer (some ⟨b, 0, none⟩), .string s] w fun e w' => e = .returned (.tuple #[.int .i64 n, .int .i64 0]) ∧ ∃ v', Tab B w' b mb v' (rs ++ [(⟨15, 0, 0, s, [], false⟩, nilS)]) ps ∧ Below B w w' := by
  subst hn
  refine struct_of (R := fun _ w' => ∃ v', Tab B w' b mb v' (rs ++ [(⟨15, 0, 0, s, [], false⟩, nilS)]) ps ∧ Below B w w') (tagged_of (R := fun _ w' => ∃ v', Tab B w' b mb v' (rs ++ [(⟨15, 0, 0, s, [], false⟩, nilS)]) ps ∧ Below B w w') h h0 15 s hs ht ((add_c h ⟨15, 0, 0, s, [], false⟩ nilS (World.ownsRow_nil _ _ _ _) hl).mono ?_))
  rintro e w' ⟨rfl, v', h1, h2, _⟩
  exact ⟨rfl, v', h1, h.below h2⟩
theorem struct_bad (h : Tab B w b mb v rs ps) (s : ByteArray) (h0 : 0 < rs.length) (hs : s.size ≤ 9223372036854775807) (ht : tagP s.data.toList = false) :
    Calls Tryz.prog 24 #[.pointer (some ⟨b, 0, none⟩), .string s] w fun e w' => e = .returned (.tuple #[.int .i64 0, .int .i64 31]) ∧ w' = w :=
  struct_of (R := fun _ w' => w' = w) (tagged_bad h h0 15 s hs ht)
theorem memSl_new (w : World) (l : List Mb) : MemSl (w.alloc (.cells (memCells l).toArray TM)) (.slice (some ⟨w.heap.size, 0, none⟩) l.length l.length) l := by
  refine Or.inr ⟨w.heap.size, 0, l.length, rfl, Nat.le_refl _, by simp, fun i m hm j hj => ?_⟩
  rw [Lib.cell_of_heap (heap_r0 w _)]
  have := memCells_at l i m hm j hj
  simpa using this
end

def mem1 : List Mb := [⟨⟨#[115]⟩, 14, -1⟩]
def mem2 : List Mb := [⟨⟨#[112]⟩, 15, -1⟩, ⟨⟨#[98]⟩, 7, 3⟩]
theorem refus1 : refusP rows5 mem1 = 50 := by decide +kernel
theorem refus2 : refusP rows5 mem2 = 0 := by decide +kernel

set_option maxHeartbeats 4000000 in
theorem heads_c (w : World) (hT : Tabs w) (hN : Names w) :
    Calls Tryz.prog 12 #[] w fun e w' => e = .returned (.bool true) ∧ Below w.heap.size w w' := by
  have hT0 : Hid _ := hT
  have hN0 : Hid (Names w) := hN
  clear hT hN
  go_enter Tryz.func12, Tryz.ntmps12
  go_wp2_with fail
  refine (new_c w).mono ?_
  rintro e w1 ⟨b, mb, v, rfl, h1, hb1⟩
  have c := ptr_step h1 7 (by decide) (by decide) (by unfold wf64; decide) (by intro kv hkv; cases hkv) (by decide) (n := 11) rfl
  have HB1 : Hid (Below w.heap.size w w1) := hb1
  clear h1 hb1
  go_wp2_with fail
  refine c.mono ?_
  rintro e w2 ⟨rfl, v2, h2, hb2⟩
  have HB2 : Hid (Below w.heap.size w w2) := HB1.out.trans hb2
  have c2 := arr_step h2 11 3 (by decide) (by decide) (by decide) (by decide) (by unfold wf64; decide) (by unfold wf64; decide) (by intro kv hkv; simp at hkv; subst hkv; simp [keyV]) (by decide) (n := 12) rfl
  clear c h2 hb2 HB1
  go_wp2_with fail
  refine c2.mono ?_
  rintro e w3 ⟨rfl, v3, h3, hb3⟩
  have HB3 : Hid (Below w.heap.size w w3) := HB2.out.trans hb3
  have c3 := ptr_step h3 12 (by decide) (by decide) (by unfold wf64; decide) (by intro kv hkv; simp at hkv; rcases hkv with rfl | rfl <;> simp [keyV]) (by decide) (n := 13) rfl
  clear c2 h3 hb3 HB2
  go_wp2_with fail
  refine c3.mono ?_
  rintro e w4 ⟨rfl, v4, h4, hb4⟩
  have HB4 : Hid (Below w.heap.size w w4) := HB3.out.trans hb4
  have h4' : Tab w.heap.size w4 b mb v4 rows3 pairs3 := h4
  have c4 := declare_c h4' fine3 (Tabs.below hT0.out HB4.out) (Names.below hN0.out HB4.out) ⟨#[97]⟩ (by decide) (Or.inr (by decide)) (i := 12) (p := row 14 11 3) rfl
  rw [decl12] at c4
  clear c3 h4 hb4 HB3
  go_wp2_with fail
  refine c4.mono ?_
  rintro e w5 ⟨rfl, hb5⟩
  have HB5 : Hid (Below w.heap.size w w5) := HB4.out.trans (hb5.mono HB4.out.size)
  have h5 := h4'.keptB hb5
  have c5 := declare_c h5 fine3 (Tabs.below hT0.out HB5.out) (Names.below hN0.out HB5.out) ⟨#[]⟩ (by decide) (Or.inl (by decide +kernel)) (i := 13) (p := row 13 12 0) rfl
  rw [decl13] at c5
  clear c4 h4' hb5 HB4
  go_wp2_with fail
  refine c5.mono ?_
  rintro e w6 ⟨rfl, hb6⟩
  have HB6 : Hid (Below w.heap.size w w6) := HB5.out.trans (hb6.mono HB5.out.size)
  have h6 := h5.keptB hb6
  have c6 := array_inc h6 (by decide) 0 3 (by decide) (by decide)
  clear c5 h5 hb6 HB5
  go_wp2_with fail
  refine c6.mono ?_
  rintro e w7 ⟨rfl, rfl⟩
  have c7 := struct_bad h6 ⟨#[49]⟩ (by decide) (by decide) (by decide)
  clear c6
  go_wp2_with fail
  refine c7.mono ?_
  rintro e w7 ⟨rfl, rfl⟩
  have c8 := struct_step h6 ⟨#[83]⟩ (by decide) (by decide) (by decide) (by decide) (n := 14) rfl
  clear c7
  go_wp2_with fail
  refine c8.mono ?_
  rintro e w8 ⟨rfl, v8, h8, hb8⟩
  have HB8 : Hid (Below w.heap.size w w8) := HB6.out.trans hb8
  have c9 := ptr_step h8 14 (by decide) (by decide) (by unfold wf64; decide) (by intro kv hkv; simp [pairs3, pairs2, pairs1] at hkv; rcases hkv with rfl | rfl | rfl <;> simp [keyV]) (by decide) (n := 15) rfl
  clear c8 h6 hb8 HB6
  go_wp2_with fail
  refine c9.mono ?_
  rintro e w9 ⟨rfl, v9, h9, hb9⟩
  have HB9 : Hid (Below w.heap.size w w9) := HB8.out.trans hb9
  have h9' : Tab w.heap.size w9 b mb v9 rows5 pairs5 := h9
  clear c9 h8 hb9 HB8 h9
  have c10 : Calls Tryz.prog 26 #[.pointer (some ⟨b, 0, none⟩), .int .i64 14, .slice (some ⟨w9.heap.size, 0, none⟩) 1 1] (w9.alloc (.cells #[.string ⟨#[115]⟩, .int .i64 14, .int .i64 (-1)] TM)) fun e w' => e = .returned (.int .i64 50) ∧ Below w9.heap.size w9 w' := by
    have q := complete_err (h9'.alloc (.cells (memCells mem1).toArray TM)) (by decide) (memSl_new w9 mem1) (by intro m hm; simp [mem1] at hm; subst hm; decide) (by decide) (i := 14) (r := ⟨15, 0, 0, ⟨#[83]⟩, [], false⟩) (s0 := nilS) rfl rfl rfl (by rw [refus1]; decide)
    rw [refus1] at q
    refine q.mono ?_
    rintro e w' ⟨rfl, hb⟩
    exact ⟨rfl, ((Below.refl _ w9).alloc (Nat.le_refl _) _).trans (hb.mono (by simp))⟩
  go_wp2_with fail
  refine c10.mono ?_
  rintro e w10 ⟨rfl, hb10⟩
  have h10 := h9'.keptB hb10
  have HB10 : Hid (Below w.heap.size w w10) := HB9.out.trans (hb10.mono HB9.out.size)
  clear c10 h9' hb10 HB9
  have c11 : Calls Tryz.prog 26 #[.pointer (some ⟨b, 0, none⟩), .int .i64 14, .slice (some ⟨w10.heap.size, 0, none⟩) 2 2] (w10.alloc (.cells #[.string ⟨#[112]⟩, .int .i64 15, .int .i64 (-1), .string ⟨#[98]⟩, .int .i64 7, .int .i64 3] TM)) fun e w' => e = .returned (.int .i64 0) ∧ (∃ s, Tab w.heap.size w' b mb v9 (rows5.set 14 (⟨15, 0, 0, ⟨#[83]⟩, mem2, true⟩, s)) pairs5) ∧ Below w.heap.size w w' := by
    have q := complete_c (h10.alloc (.cells (memCells mem2).toArray TM)) (by decide) (memSl_new w10 mem2) (by intro m hm; simp [mem2] at hm; rcases hm with rfl | rfl <;> decide) (by decide) (i := 14) (r := ⟨15, 0, 0, ⟨#[83]⟩, [], false⟩) (s0 := nilS) rfl rfl rfl refus2
    refine q.mono ?_
    rintro e w' ⟨rfl, s, hs, ht⟩
    exact ⟨rfl, ⟨s, hs⟩, (HB10.out.alloc HB10.out.size _).trans ((h10.alloc _).below ht)⟩
  go_wp2_with fail
  refine c11.mono ?_
  rintro e w11 ⟨rfl, ⟨s, h11⟩, hb11⟩
  have HB11 : Hid (Below w.heap.size w w11) := hb11
  clear c11 h10 HB10 hb11
  have cW := whole_c h11 (by rw [List.length_set]; decide) 14
  have cS := scalar_c h11 (by rw [List.length_set]; decide) 14
  have cL := len_c h11 (by rw [List.length_set]; decide)
  rw [show wholeP (rows5.set 14 (⟨15, 0, 0, ⟨#[83]⟩, mem2, true⟩, s)) 14 = true from rfl] at cW
  rw [show (intK (kindP (rows5.set 14 (⟨15, 0, 0, ⟨#[83]⟩, mem2, true⟩, s)) 14) || kindP (rows5.set 14 (⟨15, 0, 0, ⟨#[83]⟩, mem2, true⟩, s)) 14 == 13) = false from rfl] at cS
  rw [show (rows5.set 14 (⟨15, 0, 0, ⟨#[83]⟩, mem2, true⟩, s)).length = 16 from rfl] at cL
  have n1 := not_f
  have n2 := not_t
  go_wp2_with (first | (go_at_call 34; refine cW.mono ?_; rintro e w' ⟨rfl, rfl⟩) | (go_at_call 36; refine cS.mono ?_; rintro e w' ⟨rfl, rfl⟩) | (go_at_call 38; refine cL.mono ?_; rintro e w' ⟨rfl, rfl⟩))
  go_ret
  exact ⟨rfl, HB11.out⟩
end Go.Proofs.YtdfkkflpcamhjaaGreatDoor
