/-
  An act on both memories: Cells; any act.
  An act on both memories: what it is, what it leaves; Make.
  An act on both memories: End, Store, Copy, Zero: two calls in whatever order.
  An act on both memories: Load, Bin, Truth, and none.
-/
import Derived.Test.YtigiahcfcglacaaDu
import Derived.Deep.RegionHeld3
namespace Go.Proofs.Ytigiahcfcglacaa
open Go.RowKit Go.Maps
set_option linter.unusedVariables false
set_option maxRecDepth 100000
structure Ac where
  kind : Int
  p : Vl
  q : Vl
  n : Int
  w : Int
  sg : Bool
abbrev TA : TypeId := 52
structure AcOK (a : Ac) : Prop where
  p : VlOK a.p
  q : VlOK a.q
  n0 : -9223372036854775808 ≤ a.n
  n1 : a.n < 9223372036854775808
  w0 : -9223372036854775808 ≤ a.w
  w1 : a.w < 9223372036854775808
def acV (a : Ac) : Array Value := #[.int .i64 a.kind, .int .i64 a.p.kind, .int .u32 a.p.v, .int .i64 a.p.block, .int .i64 a.q.kind, .int .u32 a.q.v, .int .i64 a.q.block, .int .i64 a.n, .int .i64 a.w, .bool a.sg]
def nx (s : St) (a : Ac) : St := if a.kind = 0 then mkN s a.n a.w else if a.kind = 1 then enN s a.n else if a.kind = 3 then stN s a.p a.w a.q else if a.kind = 4 then cpN s a.p a.q a.n a.w else if a.kind = 5 then zeN s a.p a.n else s
/-- The box of an act. -/
def BX (X : Nat) (a : Ac) (Y : World) : Prop := Y.heap[X]? = some (.cells #[.int .i64 a.kind, .int .i64 a.p.kind, .int .u32 a.p.v, .int .i64 a.p.block, .int .i64 a.q.kind, .int .u32 a.q.v, .int .i64 a.q.block, .int .i64 a.n, .int .i64 a.w, .bool a.sg] TA (0, 0))
theorem BX.drew {X : Nat} {a : Ac} {Y : World} (h : BX X a Y) : BX X a Y.drew := h
theorem BX.kept {X : Nat} {a : Ac} {Y Z : World} {N : Nat → Prop} (h : BX X a Y) (hk : Kept N Y Z) (hN : N X) : BX X a Z := (hk.heap (lt_of_heap h) hN).trans h
theorem BX.below {X : Nat} {a : Ac} {Y Z : World} (h : BX X a Y) (hb : Below Y.heap.size Y Z) : BX X a Z := (hb.block X (lt_of_heap h)).trans h
theorem BX.cells {X : Nat} {a : Ac} {Y : World} (h : BX X a Y) : Y.cell? ⟨X, 0, none⟩ = some (.int .i64 a.kind) ∧ Y.cell? ⟨X, 1, none⟩ = some (.int .i64 a.p.kind) ∧ Y.cell? ⟨X, 2, none⟩ = some (.int .u32 a.p.v) ∧ Y.cell? ⟨X, 3, none⟩ = some (.int .i64 a.p.block) ∧ Y.cell? ⟨X, 4, none⟩ = some (.int .i64 a.q.kind) ∧ Y.cell? ⟨X, 5, none⟩ = some (.int .u32 a.q.v) ∧ Y.cell? ⟨X, 6, none⟩ = some (.int .i64 a.q.block) ∧ Y.cell? ⟨X, 7, none⟩ = some (.int .i64 a.n) ∧ Y.cell? ⟨X, 8, none⟩ = some (.int .i64 a.w) ∧ Y.cell? ⟨X, 9, none⟩ = some (.bool a.sg) := by
  unfold BX at h
  refine ⟨?_, ?_, ?_, ?_, ?_, ?_, ?_, ?_, ?_, ?_⟩ <;> (rw [Lib.cell_of_heap h]; rfl)
def AW (w : World) (a : Ac) : World := w.alloc (.cells #[.int .i64 a.kind, .int .i64 a.p.kind, .int .u32 a.p.v, .int .i64 a.p.block, .int .i64 a.q.kind, .int .u32 a.q.v, .int .i64 a.q.block, .int .i64 a.n, .int .i64 a.w, .bool a.sg] TA)
theorem AW_box (w : World) (a : Ac) : BX w.heap.size a (AW w a) := heap_r0 w _
theorem AW_below (w : World) (a : Ac) : Below w.heap.size w (AW w a) := (Below.refl _ w).alloc (Nat.le_refl _) _
def NX (N : Nat → Prop) (X : Nat) : Nat → Prop := fun k => N k ∨ k = X
theorem AW_duo {N : Nat → Prop} {b rb : Nat} {s1 s2 : St} {w : World} (h : D N b rb s1 s2 w) (a : Ac) : D (NX N w.heap.size) b rb s1 s2 (AW w a) := by
  refine h.widen (AW_below w a) (fun k hk => ?_) (fun k hk => ?_)
  · rcases hk with c | c
    · exact Or.inl c
    · exact Or.inr (by omega)
  · have : (AW w a).heap.size = w.heap.size + 1 := by simp [AW]
    rcases hk with c | c
    · have := h.le k c; omega
    · omega
theorem fin {N : Nat → Prop} {b rb : Nat} {s1 s2 t1 t2 : St} {w w' : World} {a : Ac} (h : D (NX N w.heap.size) b rb t1 t2 w') (hk : Kept (NX N w.heap.size) (AW w a) w') : D N b rb t1 t2 w' ∧ Kept N w w' :=
  ⟨h.narrow (fun k hk => Or.inl hk), (Kept.below (AW_below w a)).trans (hk.mono (fun k hk => Or.inl hk))⟩
section
variable {N : Nat → Prop} {b rb : Nat} {s : St} {w : World}
set_option maxHeartbeats 2000000 in
theorem play_0 (h : D N b rb s s w) (a : Ac) (ok : AcOK a) (hk0 : a.kind = 0) (hl : s.length + 1 < 3518437208883) :
    Calls Try.prog 17 #[.pointer (some ⟨b, 0, none⟩), .pointer (some ⟨rb, 0, none⟩), .agg #[.int .i64 a.kind, .int .i64 a.p.kind, .int .u32 a.p.v, .int .i64 a.p.block, .int .i64 a.q.kind, .int .u32 a.q.v, .int .i64 a.q.block, .int .i64 a.n, .int .i64 a.w, .bool a.sg]] w fun e w' => e = .returned (.bool true) ∧ D N b rb (nx s a) (nx s a) w' ∧ Kept N w w' := by
  have hnx : nx s a = mkN s a.n a.w := by unfold nx; rw [if_pos hk0]
  rw [hnx]
  have HBX : Hid (BX w.heap.size a (AW w a)) := AW_box w a
  obtain ⟨q0, q1, q2, q3, q4, q5, q6, q7, q8, q9⟩ := (AW_box w a).cells
  have c1 := pMake (AW_duo h a) a.n a.w ok.n0 hl
  have hkk : (a.kind == 0) = true := by simpa using hk0
  have HL : Hid (s.length + 1 < 3518437208883) := hl
  have HN0 : Hid (-9223372036854775808 ≤ a.n) := ok.n0
  obtain ⟨r1, h1⟩ : ∃ r, r = (mkA s a.n a.w).1 := ⟨_, rfl⟩
  obtain ⟨r2, h2⟩ : ∃ r, r = (mkA s a.n a.w).2 := ⟨_, rfl⟩
  rw [← h1, ← h2] at c1
  have HR1 : Hid (r1 = (mkA s a.n a.w).1) := h1
  have HR2 : Hid (r2 = (mkA s a.n a.w).2) := h2
  have e1 : (r1 == r1) = true := by simp
  have e2 : (r2 == r2) = true := by simp
  clear h1 h2 h hk0 hnx hl ok q1 q2 q3 q4 q5 q6 q9
  unfold AW at q0 q7 q8 c1
  go_enter Try.func17, Try.ntmps17
  go_wp2_with (first
    | (go_at_call 28; refine c1.mono ?_; rintro e w1 ⟨rfl, hd1, hk1⟩; have HB1 : Hid (BX w.heap.size a w1) := HBX.out.kept hk1 (Or.inr rfl); have HK1 : Hid (Kept (NX N w.heap.size) (AW w a) w1) := hk1; obtain ⟨_, _, _, _, _, _, _, p7, p8, _⟩ := HB1.out.cells; have c2 := rMake hd1 a.n a.w HN0.out HL.out; rw [← HR1.out, ← HR2.out] at c2; clear hd1 hk1 c1)
    | (go_at_call 36; refine c2.mono ?_; rintro e w2 ⟨rfl, hd2, hk2⟩; have HD2 : Hid (D (NX N w.heap.size) b rb (mkN s a.n a.w) (mkN s a.n a.w) w2) := hd2; have HK2 : Hid (Kept (NX N w.heap.size) (AW w a) w2) := HK1.out.trans hk2; clear hd2 hk2 c2))
  go_ret
  exact ⟨rfl, fin (s1 := s) (s2 := s) HD2.out HK2.out⟩
end
end Go.Proofs.Ytigiahcfcglacaa
namespace Go.Proofs.Ytigiahcfcglacaa
open Go.RowKit Go.Maps
set_option linter.unusedVariables false
set_option maxRecDepth 100000
section
variable {N : Nat → Prop} {b rb : Nat} {s : St} {w : World}
theorem D.drew {N : Nat → Prop} {b rb : Nat} {s1 s2 : St} {w : World} (h : D N b rb s1 s2 w) : D N b rb s1 s2 w.drew := h.below ⟨rfl, rfl, rfl, Nat.le_refl _, fun _ _ => rfl⟩
theorem Kept.drew {N : Nat → Prop} {w w' : World} (h : Kept N w w') : Kept N w w'.drew := h.trans (Kept.below ⟨rfl, rfl, rfl, Nat.le_refl _, fun _ _ => rfl⟩)
set_option maxHeartbeats 8000000 in
theorem play_1 (h : D N b rb s s w) (a : Ac) (ok : AcOK a) (hkk0 : a.kind = 1) :
    Calls Try.prog 17 #[.pointer (some ⟨b, 0, none⟩), .pointer (some ⟨rb, 0, none⟩), .agg #[.int .i64 a.kind, .int .i64 a.p.kind, .int .u32 a.p.v, .int .i64 a.p.block, .int .i64 a.q.kind, .int .u32 a.q.v, .int .i64 a.q.block, .int .i64 a.n, .int .i64 a.w, .bool a.sg]] w fun e w' => e = .returned (.bool true) ∧ D N b rb (nx s a) (nx s a) w' ∧ Kept N w w' := by
  have hnx : nx s a = enN s a.n := by
    unfold nx
    rw [if_neg (by omega)]
    rw [if_pos hkk0]
  rw [hnx]
  have hbx := AW_box w a
  have hd := AW_duo h a
  obtain ⟨q0, _⟩ := (AW_box w a).cells
  have hk0 : (a.kind == 0) = false := by simp; omega
  have hkk : (a.kind == 1) = true := by simpa using hkk0
  obtain ⟨r, hr⟩ : ∃ r, r = enA s a.n := ⟨_, rfl⟩
  obtain ⟨t, ht⟩ : ∃ t, t = enN s a.n := ⟨_, rfl⟩
  rw [← ht]
  obtain ⟨M, hM⟩ : ∃ M, M = NX N w.heap.size := ⟨_, rfl⟩
  have hMX : M w.heap.size := by rw [hM]; exact Or.inr rfl
  rw [← hM] at hd
  have cP : ∀ (s2 : St) (Y : World), D M b rb s s2 Y → Calls Try.prog 37 #[.pointer (some ⟨b, 0, none⟩), .int .i64 a.n] Y fun e w' => e = .returned (.int .i64 r) ∧ D M b rb t s2 w' ∧ Kept M Y w' := fun s2 Y hY => by rw [hr, ht]; exact pEnd hY a.n ok.n0 ok.n1
  have cR : ∀ (s1 : St) (Y : World), D M b rb s1 s Y → Calls Try.prog 38 #[.pointer (some ⟨rb, 0, none⟩), .int .i64 a.n] Y fun e w' => e = .returned (.int .i64 r) ∧ D M b rb s1 t w' ∧ Kept M Y w' := fun s1 Y hY => by rw [hr, ht]; exact rEnd hY a.n ok.n0 ok.n1
  have HM : Hid (M = NX N w.heap.size) := hM
  have er : (r == r) = true := by simp
  obtain ⟨X, hX⟩ : ∃ X, X = w.heap.size := ⟨_, rfl⟩
  have HX : Hid (X = w.heap.size) := hX
  obtain ⟨Z, hZ⟩ : ∃ Z, Z = AW w a := ⟨_, rfl⟩
  have HZ : Hid (Z = AW w a) := hZ
  have hc1 : ∀ Y, BX X a Y → Y.cell? ⟨X, 1, none⟩ = some (.int .i64 a.p.kind) := fun Y h => h.cells.2.1
  have hc2 : ∀ Y, BX X a Y → Y.cell? ⟨X, 2, none⟩ = some (.int .u32 a.p.v) := fun Y h => h.cells.2.2.1
  have hc3 : ∀ Y, BX X a Y → Y.cell? ⟨X, 3, none⟩ = some (.int .i64 a.p.block) := fun Y h => h.cells.2.2.2.1
  have hc4 : ∀ Y, BX X a Y → Y.cell? ⟨X, 4, none⟩ = some (.int .i64 a.q.kind) := fun Y h => h.cells.2.2.2.2.1
  have hc5 : ∀ Y, BX X a Y → Y.cell? ⟨X, 5, none⟩ = some (.int .u32 a.q.v) := fun Y h => h.cells.2.2.2.2.2.1
  have hc6 : ∀ Y, BX X a Y → Y.cell? ⟨X, 6, none⟩ = some (.int .i64 a.q.block) := fun Y h => h.cells.2.2.2.2.2.2.1
  have hc7 : ∀ Y, BX X a Y → Y.cell? ⟨X, 7, none⟩ = some (.int .i64 a.n) := fun Y h => h.cells.2.2.2.2.2.2.2.1
  have hc8 : ∀ Y, BX X a Y → Y.cell? ⟨X, 8, none⟩ = some (.int .i64 a.w) := fun Y h => h.cells.2.2.2.2.2.2.2.2.1
  clear hc1 hc2 hc3 hc4 hc5 hc6 hc8 hr ht hM h hkk0 hnx ok
  go_enter Try.func17, Try.ntmps17
  unfold AW at q0
  go_upto_region 7 with (fail)
  refine (?_ : Code.wp _ _ _ _ (AW w a))
  rw [← hZ] at hbx hd ⊢
  rw [← hX] at hbx hMX ⊢
  clear q0 hX hZ
  have HD0 : Hid (D M b rb s s Z) := hd
  have HB0 : Hid (BX X a Z) := hbx
  have KD : Hid (Kept M Z Z.drew) := Kept.drew (Turned.refl _ _)
  clear hd hbx
  go_region_held3 (BX X a) (with_reducible first | assumption | exact BX.drew HB0.out)
    (first
      | (go_at_call 37; have hx := HDr.out; refine (cP t _ hx).mono ?_; rintro e w2 ⟨rfl, hd2, hk2⟩; have HD2 : Hid (D M b rb t t w2) := hd2; have HK2 : Hid (Kept M Z w2) := HK1.out.trans hk2; have hb2 : BX X a w2 := hb1.kept hk2 hMX; clear hd2 hk2 hx)
      | (go_at_call 38; have hx := HDp.out; refine (cR t _ hx).mono ?_; rintro e w2 ⟨rfl, hd2, hk2⟩; have HD2 : Hid (D M b rb t t w2) := hd2; have HK2 : Hid (Kept M Z w2) := HK1.out.trans hk2; have hb2 : BX X a w2 := hb1.kept hk2 hMX; clear hd2 hk2 hx)
      | (go_at_call 37; have hx := HD0.out.drew; refine (cP s _ hx).mono ?_; rintro e w1 ⟨rfl, hd1, hk1⟩; have HDp : Hid (D M b rb t s w1) := hd1; have HK1 : Hid (Kept M Z w1) := KD.out.trans hk1; have hb1 : BX X a w1 := HB0.out.drew.kept hk1 hMX; clear hd1 hk1 hx)
      | (go_at_call 38; have hx := HD0.out.drew; refine (cR s _ hx).mono ?_; rintro e w1 ⟨rfl, hd1, hk1⟩; have HDr : Hid (D M b rb s t w1) := hd1; have HK1 : Hid (Kept M Z w1) := KD.out.trans hk1; have hb1 : BX X a w1 := HB0.out.drew.kept hk1 hMX; clear hd1 hk1 hx))
  all_goals go_wp2
  all_goals go_ret
  all_goals
    have hd2 := HD2.out
    have hk2 := HK2.out
    rw [HM.out] at hd2 hk2
    rw [HZ.out] at hk2
    exact ⟨rfl, fin (s1 := s) (s2 := s) hd2 hk2⟩
set_option maxHeartbeats 8000000 in
theorem play_3 (h : D N b rb s s w) (a : Ac) (ok : AcOK a) (hkk0 : a.kind = 3) :
    Calls Try.prog 17 #[.pointer (some ⟨b, 0, none⟩), .pointer (some ⟨rb, 0, none⟩), .agg #[.int .i64 a.kind, .int .i64 a.p.kind, .int .u32 a.p.v, .int .i64 a.p.block, .int .i64 a.q.kind, .int .u32 a.q.v, .int .i64 a.q.block, .int .i64 a.n, .int .i64 a.w, .bool a.sg]] w fun e w' => e = .returned (.bool true) ∧ D N b rb (nx s a) (nx s a) w' ∧ Kept N w w' := by
  have hnx : nx s a = stN s a.p a.w a.q := by
    unfold nx
    rw [if_neg (by omega)]
    rw [if_neg (by omega)]
    rw [if_pos hkk0]
  rw [hnx]
  have hbx := AW_box w a
  have hd := AW_duo h a
  obtain ⟨q0, _⟩ := (AW_box w a).cells
  have hk0 : (a.kind == 0) = false := by simp; omega
  have hk1 : (a.kind == 1) = false := by simp; omega
  have hk2 : (a.kind == 2) = false := by simp; omega
  have hkk : (a.kind == 3) = true := by simpa using hkk0
  obtain ⟨r, hr⟩ : ∃ r, r = stA s a.p a.w a.q := ⟨_, rfl⟩
  obtain ⟨t, ht⟩ : ∃ t, t = stN s a.p a.w a.q := ⟨_, rfl⟩
  rw [← ht]
  obtain ⟨M, hM⟩ : ∃ M, M = NX N w.heap.size := ⟨_, rfl⟩
  have hMX : M w.heap.size := by rw [hM]; exact Or.inr rfl
  rw [← hM] at hd
  have cP : ∀ (s2 : St) (Y : World), D M b rb s s2 Y → Calls Try.prog 18 #[.pointer (some ⟨b, 0, none⟩), .agg #[.int .i64 a.p.kind, .int .u32 a.p.v, .int .i64 a.p.block], .int .i64 a.w, .agg #[.int .i64 a.q.kind, .int .u32 a.q.v, .int .i64 a.q.block]] Y fun e w' => e = .returned (.int .i64 r) ∧ D M b rb t s2 w' ∧ Kept M Y w' := fun s2 Y hY => by rw [hr, ht]; exact pStore hY a.p a.q ok.p ok.q a.w ok.w0 ok.w1
  have cR : ∀ (s1 : St) (Y : World), D M b rb s1 s Y → Calls Try.prog 40 #[.pointer (some ⟨rb, 0, none⟩), .agg #[.int .i64 a.p.kind, .int .u32 a.p.v, .int .i64 a.p.block], .int .i64 a.w, .agg #[.int .i64 a.q.kind, .int .u32 a.q.v, .int .i64 a.q.block]] Y fun e w' => e = .returned (.int .i64 r) ∧ D M b rb s1 t w' ∧ Kept M Y w' := fun s1 Y hY => by rw [hr, ht]; exact rStore hY a.p a.q ok.p ok.q a.w ok.w0 ok.w1
  have HM : Hid (M = NX N w.heap.size) := hM
  have er : (r == r) = true := by simp
  obtain ⟨X, hX⟩ : ∃ X, X = w.heap.size := ⟨_, rfl⟩
  have HX : Hid (X = w.heap.size) := hX
  obtain ⟨Z, hZ⟩ : ∃ Z, Z = AW w a := ⟨_, rfl⟩
  have HZ : Hid (Z = AW w a) := hZ
  have hc1 : ∀ Y, BX X a Y → Y.cell? ⟨X, 1, none⟩ = some (.int .i64 a.p.kind) := fun Y h => h.cells.2.1
  have hc2 : ∀ Y, BX X a Y → Y.cell? ⟨X, 2, none⟩ = some (.int .u32 a.p.v) := fun Y h => h.cells.2.2.1
  have hc3 : ∀ Y, BX X a Y → Y.cell? ⟨X, 3, none⟩ = some (.int .i64 a.p.block) := fun Y h => h.cells.2.2.2.1
  have hc4 : ∀ Y, BX X a Y → Y.cell? ⟨X, 4, none⟩ = some (.int .i64 a.q.kind) := fun Y h => h.cells.2.2.2.2.1
  have hc5 : ∀ Y, BX X a Y → Y.cell? ⟨X, 5, none⟩ = some (.int .u32 a.q.v) := fun Y h => h.cells.2.2.2.2.2.1
  have hc6 : ∀ Y, BX X a Y → Y.cell? ⟨X, 6, none⟩ = some (.int .i64 a.q.block) := fun Y h => h.cells.2.2.2.2.2.2.1
  have hc7 : ∀ Y, BX X a Y → Y.cell? ⟨X, 7, none⟩ = some (.int .i64 a.n) := fun Y h => h.cells.2.2.2.2.2.2.2.1
  have hc8 : ∀ Y, BX X a Y → Y.cell? ⟨X, 8, none⟩ = some (.int .i64 a.w) := fun Y h => h.cells.2.2.2.2.2.2.2.2.1
  clear hc7 hr ht hM h hkk0 hnx ok
  go_enter Try.func17, Try.ntmps17
  unfold AW at q0
  go_upto_region 13 with (fail)
  refine (?_ : Code.wp _ _ _ _ (AW w a))
  rw [← hZ] at hbx hd ⊢
  rw [← hX] at hbx hMX ⊢
  clear q0 hX hZ
  have HD0 : Hid (D M b rb s s Z) := hd
  have HB0 : Hid (BX X a Z) := hbx
  have KD : Hid (Kept M Z Z.drew) := Kept.drew (Turned.refl _ _)
  clear hd hbx
  go_region_held3 (BX X a) (with_reducible first | assumption | exact BX.drew HB0.out)
    (first
      | (go_at_call 18; have hx := HDr.out; refine (cP t _ hx).mono ?_; rintro e w2 ⟨rfl, hd2, hk2⟩; have HD2 : Hid (D M b rb t t w2) := hd2; have HK2 : Hid (Kept M Z w2) := HK1.out.trans hk2; have hb2 : BX X a w2 := hb1.kept hk2 hMX; clear hd2 hk2 hx)
      | (go_at_call 40; have hx := HDp.out; refine (cR t _ hx).mono ?_; rintro e w2 ⟨rfl, hd2, hk2⟩; have HD2 : Hid (D M b rb t t w2) := hd2; have HK2 : Hid (Kept M Z w2) := HK1.out.trans hk2; have hb2 : BX X a w2 := hb1.kept hk2 hMX; clear hd2 hk2 hx)
      | (go_at_call 18; have hx := HD0.out.drew; refine (cP s _ hx).mono ?_; rintro e w1 ⟨rfl, hd1, hk1⟩; have HDp : Hid (D M b rb t s w1) := hd1; have HK1 : Hid (Kept M Z w1) := KD.out.trans hk1; have hb1 : BX X a w1 := HB0.out.drew.kept hk1 hMX; clear hd1 hk1 hx)
      | (go_at_call 40; have hx := HD0.out.drew; refine (cR s _ hx).mono ?_; rintro e w1 ⟨rfl, hd1, hk1⟩; have HDr : Hid (D M b rb s t w1) := hd1; have HK1 : Hid (Kept M Z w1) := KD.out.trans hk1; have hb1 : BX X a w1 := HB0.out.drew.kept hk1 hMX; clear hd1 hk1 hx))
  all_goals go_wp2
  all_goals go_ret
  all_goals
    have hd2 := HD2.out
    have hk2 := HK2.out
    rw [HM.out] at hd2 hk2
    rw [HZ.out] at hk2
    exact ⟨rfl, fin (s1 := s) (s2 := s) hd2 hk2⟩
set_option maxHeartbeats 8000000 in
theorem play_4 (h : D N b rb s s w) (a : Ac) (ok : AcOK a) (hkk0 : a.kind = 4) :
    Calls Try.prog 17 #[.pointer (some ⟨b, 0, none⟩), .pointer (some ⟨rb, 0, none⟩), .agg #[.int .i64 a.kind, .int .i64 a.p.kind, .int .u32 a.p.v, .int .i64 a.p.block, .int .i64 a.q.kind, .int .u32 a.q.v, .int .i64 a.q.block, .int .i64 a.n, .int .i64 a.w, .bool a.sg]] w fun e w' => e = .returned (.bool true) ∧ D N b rb (nx s a) (nx s a) w' ∧ Kept N w w' := by
  have hnx : nx s a = cpN s a.p a.q a.n a.w := by
    unfold nx
    rw [if_neg (by omega)]
    rw [if_neg (by omega)]
    rw [if_neg (by omega)]
    rw [if_pos hkk0]
  rw [hnx]
  have hbx := AW_box w a
  have hd := AW_duo h a
  obtain ⟨q0, _⟩ := (AW_box w a).cells
  have hk0 : (a.kind == 0) = false := by simp; omega
  have hk1 : (a.kind == 1) = false := by simp; omega
  have hk2 : (a.kind == 2) = false := by simp; omega
  have hk3 : (a.kind == 3) = false := by simp; omega
  have hkk : (a.kind == 4) = true := by simpa using hkk0
  obtain ⟨r, hr⟩ : ∃ r, r = cpA s a.p a.q a.n a.w := ⟨_, rfl⟩
  obtain ⟨t, ht⟩ : ∃ t, t = cpN s a.p a.q a.n a.w := ⟨_, rfl⟩
  rw [← ht]
  obtain ⟨M, hM⟩ : ∃ M, M = NX N w.heap.size := ⟨_, rfl⟩
  have hMX : M w.heap.size := by rw [hM]; exact Or.inr rfl
  rw [← hM] at hd
  have cP : ∀ (s2 : St) (Y : World), D M b rb s s2 Y → Calls Try.prog 14 #[.pointer (some ⟨b, 0, none⟩), .agg #[.int .i64 a.p.kind, .int .u32 a.p.v, .int .i64 a.p.block], .agg #[.int .i64 a.q.kind, .int .u32 a.q.v, .int .i64 a.q.block], .int .i64 a.n, .int .i64 a.w] Y fun e w' => e = .returned (.int .i64 r) ∧ D M b rb t s2 w' ∧ Kept M Y w' := fun s2 Y hY => by rw [hr, ht]; exact pCopy hY a.p a.q ok.p ok.q a.n a.w ok.n0 ok.n1
  have cR : ∀ (s1 : St) (Y : World), D M b rb s1 s Y → Calls Try.prog 41 #[.pointer (some ⟨rb, 0, none⟩), .agg #[.int .i64 a.p.kind, .int .u32 a.p.v, .int .i64 a.p.block], .agg #[.int .i64 a.q.kind, .int .u32 a.q.v, .int .i64 a.q.block], .int .i64 a.n, .int .i64 a.w] Y fun e w' => e = .returned (.int .i64 r) ∧ D M b rb s1 t w' ∧ Kept M Y w' := fun s1 Y hY => by rw [hr, ht]; exact rCopy hY a.p a.q ok.p ok.q a.n a.w ok.n0 ok.n1
  have HM : Hid (M = NX N w.heap.size) := hM
  have er : (r == r) = true := by simp
  obtain ⟨X, hX⟩ : ∃ X, X = w.heap.size := ⟨_, rfl⟩
  have HX : Hid (X = w.heap.size) := hX
  obtain ⟨Z, hZ⟩ : ∃ Z, Z = AW w a := ⟨_, rfl⟩
  have HZ : Hid (Z = AW w a) := hZ
  have hc1 : ∀ Y, BX X a Y → Y.cell? ⟨X, 1, none⟩ = some (.int .i64 a.p.kind) := fun Y h => h.cells.2.1
  have hc2 : ∀ Y, BX X a Y → Y.cell? ⟨X, 2, none⟩ = some (.int .u32 a.p.v) := fun Y h => h.cells.2.2.1
  have hc3 : ∀ Y, BX X a Y → Y.cell? ⟨X, 3, none⟩ = some (.int .i64 a.p.block) := fun Y h => h.cells.2.2.2.1
  have hc4 : ∀ Y, BX X a Y → Y.cell? ⟨X, 4, none⟩ = some (.int .i64 a.q.kind) := fun Y h => h.cells.2.2.2.2.1
  have hc5 : ∀ Y, BX X a Y → Y.cell? ⟨X, 5, none⟩ = some (.int .u32 a.q.v) := fun Y h => h.cells.2.2.2.2.2.1
  have hc6 : ∀ Y, BX X a Y → Y.cell? ⟨X, 6, none⟩ = some (.int .i64 a.q.block) := fun Y h => h.cells.2.2.2.2.2.2.1
  have hc7 : ∀ Y, BX X a Y → Y.cell? ⟨X, 7, none⟩ = some (.int .i64 a.n) := fun Y h => h.cells.2.2.2.2.2.2.2.1
  have hc8 : ∀ Y, BX X a Y → Y.cell? ⟨X, 8, none⟩ = some (.int .i64 a.w) := fun Y h => h.cells.2.2.2.2.2.2.2.2.1
  clear  hr ht hM h hkk0 hnx ok
  go_enter Try.func17, Try.ntmps17
  unfold AW at q0
  go_upto_region 15 with (fail)
  refine (?_ : Code.wp _ _ _ _ (AW w a))
  rw [← hZ] at hbx hd ⊢
  rw [← hX] at hbx hMX ⊢
  clear q0 hX hZ
  have HD0 : Hid (D M b rb s s Z) := hd
  have HB0 : Hid (BX X a Z) := hbx
  have KD : Hid (Kept M Z Z.drew) := Kept.drew (Turned.refl _ _)
  clear hd hbx
  go_region_held3 (BX X a) (with_reducible first | assumption | exact BX.drew HB0.out)
    (first
      | (go_at_call 14; have hx := HDr.out; refine (cP t _ hx).mono ?_; rintro e w2 ⟨rfl, hd2, hk2⟩; have HD2 : Hid (D M b rb t t w2) := hd2; have HK2 : Hid (Kept M Z w2) := HK1.out.trans hk2; have hb2 : BX X a w2 := hb1.kept hk2 hMX; clear hd2 hk2 hx)
      | (go_at_call 41; have hx := HDp.out; refine (cR t _ hx).mono ?_; rintro e w2 ⟨rfl, hd2, hk2⟩; have HD2 : Hid (D M b rb t t w2) := hd2; have HK2 : Hid (Kept M Z w2) := HK1.out.trans hk2; have hb2 : BX X a w2 := hb1.kept hk2 hMX; clear hd2 hk2 hx)
      | (go_at_call 14; have hx := HD0.out.drew; refine (cP s _ hx).mono ?_; rintro e w1 ⟨rfl, hd1, hk1⟩; have HDp : Hid (D M b rb t s w1) := hd1; have HK1 : Hid (Kept M Z w1) := KD.out.trans hk1; have hb1 : BX X a w1 := HB0.out.drew.kept hk1 hMX; clear hd1 hk1 hx)
      | (go_at_call 41; have hx := HD0.out.drew; refine (cR s _ hx).mono ?_; rintro e w1 ⟨rfl, hd1, hk1⟩; have HDr : Hid (D M b rb s t w1) := hd1; have HK1 : Hid (Kept M Z w1) := KD.out.trans hk1; have hb1 : BX X a w1 := HB0.out.drew.kept hk1 hMX; clear hd1 hk1 hx))
  all_goals go_wp2
  all_goals go_ret
  all_goals
    have hd2 := HD2.out
    have hk2 := HK2.out
    rw [HM.out] at hd2 hk2
    rw [HZ.out] at hk2
    exact ⟨rfl, fin (s1 := s) (s2 := s) hd2 hk2⟩
set_option maxHeartbeats 8000000 in
theorem play_5 (h : D N b rb s s w) (a : Ac) (ok : AcOK a) (hkk0 : a.kind = 5) :
    Calls Try.prog 17 #[.pointer (some ⟨b, 0, none⟩), .pointer (some ⟨rb, 0, none⟩), .agg #[.int .i64 a.kind, .int .i64 a.p.kind, .int .u32 a.p.v, .int .i64 a.p.block, .int .i64 a.q.kind, .int .u32 a.q.v, .int .i64 a.q.block, .int .i64 a.n, .int .i64 a.w, .bool a.sg]] w fun e w' => e = .returned (.bool true) ∧ D N b rb (nx s a) (nx s a) w' ∧ Kept N w w' := by
  have hnx : nx s a = zeN s a.p a.n := by
    unfold nx
    rw [if_neg (by omega)]
    rw [if_neg (by omega)]
    rw [if_neg (by omega)]
    rw [if_neg (by omega)]
    rw [if_pos hkk0]
  rw [hnx]
  have hbx := AW_box w a
  have hd := AW_duo h a
  obtain ⟨q0, _⟩ := (AW_box w a).cells
  have hk0 : (a.kind == 0) = false := by simp; omega
  have hk1 : (a.kind == 1) = false := by simp; omega
  have hk2 : (a.kind == 2) = false := by simp; omega
  have hk3 : (a.kind == 3) = false := by simp; omega
  have hk4 : (a.kind == 4) = false := by simp; omega
  have hkk : (a.kind == 5) = true := by simpa using hkk0
  obtain ⟨r, hr⟩ : ∃ r, r = zeA s a.p a.n := ⟨_, rfl⟩
  obtain ⟨t, ht⟩ : ∃ t, t = zeN s a.p a.n := ⟨_, rfl⟩
  rw [← ht]
  obtain ⟨M, hM⟩ : ∃ M, M = NX N w.heap.size := ⟨_, rfl⟩
  have hMX : M w.heap.size := by rw [hM]; exact Or.inr rfl
  rw [← hM] at hd
  have cP : ∀ (s2 : St) (Y : World), D M b rb s s2 Y → Calls Try.prog 42 #[.pointer (some ⟨b, 0, none⟩), .agg #[.int .i64 a.p.kind, .int .u32 a.p.v, .int .i64 a.p.block], .int .i64 a.n] Y fun e w' => e = .returned (.int .i64 r) ∧ D M b rb t s2 w' ∧ Kept M Y w' := fun s2 Y hY => by rw [hr, ht]; exact pZero hY a.p ok.p a.n ok.n0 ok.n1
  have cR : ∀ (s1 : St) (Y : World), D M b rb s1 s Y → Calls Try.prog 43 #[.pointer (some ⟨rb, 0, none⟩), .agg #[.int .i64 a.p.kind, .int .u32 a.p.v, .int .i64 a.p.block], .int .i64 a.n] Y fun e w' => e = .returned (.int .i64 r) ∧ D M b rb s1 t w' ∧ Kept M Y w' := fun s1 Y hY => by rw [hr, ht]; exact rZero hY a.p ok.p a.n ok.n0 ok.n1
  have HM : Hid (M = NX N w.heap.size) := hM
  have er : (r == r) = true := by simp
  obtain ⟨X, hX⟩ : ∃ X, X = w.heap.size := ⟨_, rfl⟩
  have HX : Hid (X = w.heap.size) := hX
  obtain ⟨Z, hZ⟩ : ∃ Z, Z = AW w a := ⟨_, rfl⟩
  have HZ : Hid (Z = AW w a) := hZ
  have hc1 : ∀ Y, BX X a Y → Y.cell? ⟨X, 1, none⟩ = some (.int .i64 a.p.kind) := fun Y h => h.cells.2.1
  have hc2 : ∀ Y, BX X a Y → Y.cell? ⟨X, 2, none⟩ = some (.int .u32 a.p.v) := fun Y h => h.cells.2.2.1
  have hc3 : ∀ Y, BX X a Y → Y.cell? ⟨X, 3, none⟩ = some (.int .i64 a.p.block) := fun Y h => h.cells.2.2.2.1
  have hc4 : ∀ Y, BX X a Y → Y.cell? ⟨X, 4, none⟩ = some (.int .i64 a.q.kind) := fun Y h => h.cells.2.2.2.2.1
  have hc5 : ∀ Y, BX X a Y → Y.cell? ⟨X, 5, none⟩ = some (.int .u32 a.q.v) := fun Y h => h.cells.2.2.2.2.2.1
  have hc6 : ∀ Y, BX X a Y → Y.cell? ⟨X, 6, none⟩ = some (.int .i64 a.q.block) := fun Y h => h.cells.2.2.2.2.2.2.1
  have hc7 : ∀ Y, BX X a Y → Y.cell? ⟨X, 7, none⟩ = some (.int .i64 a.n) := fun Y h => h.cells.2.2.2.2.2.2.2.1
  have hc8 : ∀ Y, BX X a Y → Y.cell? ⟨X, 8, none⟩ = some (.int .i64 a.w) := fun Y h => h.cells.2.2.2.2.2.2.2.2.1
  clear hc4 hc5 hc6 hc8 hr ht hM h hkk0 hnx ok
  go_enter Try.func17, Try.ntmps17
  unfold AW at q0
  go_upto_region 17 with (fail)
  refine (?_ : Code.wp _ _ _ _ (AW w a))
  rw [← hZ] at hbx hd ⊢
  rw [← hX] at hbx hMX ⊢
  clear q0 hX hZ
  have HD0 : Hid (D M b rb s s Z) := hd
  have HB0 : Hid (BX X a Z) := hbx
  have KD : Hid (Kept M Z Z.drew) := Kept.drew (Turned.refl _ _)
  clear hd hbx
  go_region_held3 (BX X a) (with_reducible first | assumption | exact BX.drew HB0.out)
    (first
      | (go_at_call 42; have hx := HDr.out; refine (cP t _ hx).mono ?_; rintro e w2 ⟨rfl, hd2, hk2⟩; have HD2 : Hid (D M b rb t t w2) := hd2; have HK2 : Hid (Kept M Z w2) := HK1.out.trans hk2; have hb2 : BX X a w2 := hb1.kept hk2 hMX; clear hd2 hk2 hx)
      | (go_at_call 43; have hx := HDp.out; refine (cR t _ hx).mono ?_; rintro e w2 ⟨rfl, hd2, hk2⟩; have HD2 : Hid (D M b rb t t w2) := hd2; have HK2 : Hid (Kept M Z w2) := HK1.out.trans hk2; have hb2 : BX X a w2 := hb1.kept hk2 hMX; clear hd2 hk2 hx)
      | (go_at_call 42; have hx := HD0.out.drew; refine (cP s _ hx).mono ?_; rintro e w1 ⟨rfl, hd1, hk1⟩; have HDp : Hid (D M b rb t s w1) := hd1; have HK1 : Hid (Kept M Z w1) := KD.out.trans hk1; have hb1 : BX X a w1 := HB0.out.drew.kept hk1 hMX; clear hd1 hk1 hx)
      | (go_at_call 43; have hx := HD0.out.drew; refine (cR s _ hx).mono ?_; rintro e w1 ⟨rfl, hd1, hk1⟩; have HDr : Hid (D M b rb s t w1) := hd1; have HK1 : Hid (Kept M Z w1) := KD.out.trans hk1; have hb1 : BX X a w1 := HB0.out.drew.kept hk1 hMX; clear hd1 hk1 hx))
  all_goals go_wp2
  all_goals go_ret
  all_goals
    have hd2 := HD2.out
    have hk2 := HK2.out
    rw [HM.out] at hd2 hk2
    rw [HZ.out] at hk2
    exact ⟨rfl, fin (s1 := s) (s2 := s) hd2 hk2⟩
end
end Go.Proofs.Ytigiahcfcglacaa
namespace Go.Proofs.Ytigiahcfcglacaa
open Go.RowKit Go.Maps
set_option linter.unusedVariables false
set_option maxRecDepth 100000
section
variable {N : Nat → Prop} {b rb : Nat} {s : St} {w : World}
theorem below_box (w : World) (o : Obj) : Below w.heap.size w (w.alloc o) := (Below.refl _ w).alloc (Nat.le_refl _) _
theorem nx_same {s : St} {a : Ac} (h : a.kind = 2 ∨ 5 < a.kind ∨ a.kind < 0) : nx s a = s := by
  unfold nx
  rw [if_neg (by omega), if_neg (by omega), if_neg (by omega), if_neg (by omega), if_neg (by omega)]
def vbox (w : World) (r : Vl) : World := w.alloc (.cells #[.int .i64 r.kind, .int .u32 r.v, .int .i64 r.block] TV)
theorem vbox_below (w : World) (r : Vl) : Below w.heap.size w (vbox w r) := below_box _ _
theorem vbox_cells (w : World) (r : Vl) {Y : World} (hb : Below (vbox w r).heap.size (vbox w r) Y) : Y.cell? ⟨w.heap.size, 0, none⟩ = some (.int .i64 r.kind) ∧ Y.cell? ⟨w.heap.size, 1, none⟩ = some (.int .u32 r.v) ∧ Y.cell? ⟨w.heap.size, 2, none⟩ = some (.int .i64 r.block) := by
  have hs : (vbox w r).heap.size = w.heap.size + 1 := by simp [vbox]
  have h := (hb.block w.heap.size (by omega)).trans (heap_r0 w _)
  refine ⟨?_, ?_, ?_⟩ <;> (rw [Lib.cell_of_heap h]; rfl)
set_option maxHeartbeats 4000000 in
theorem play_2 (h : D N b rb s s w) (a : Ac) (ok : AcOK a) (hk0 : a.kind = 2) :
    Calls Try.prog 17 #[.pointer (some ⟨b, 0, none⟩), .pointer (some ⟨rb, 0, none⟩), .agg #[.int .i64 a.kind, .int .i64 a.p.kind, .int .u32 a.p.v, .int .i64 a.p.block, .int .i64 a.q.kind, .int .u32 a.q.v, .int .i64 a.q.block, .int .i64 a.n, .int .i64 a.w, .bool a.sg]] w fun e w' => e = .returned (.bool true) ∧ D N b rb (nx s a) (nx s a) w' ∧ Kept N w w' := by
  rw [nx_same (Or.inl hk0)]
  have HBX : Hid (BX w.heap.size a (AW w a)) := AW_box w a
  obtain ⟨q0, q1, q2, q3, q4, q5, q6, q7, q8, q9⟩ := (AW_box w a).cells
  have hd := AW_duo h a
  have c1 := pLoad hd a.p ok.p a.w a.sg ok.w0 ok.w1
  have HD : Hid (D (NX N w.heap.size) b rb s s (AW w a)) := hd
  have h0 : (a.kind == 0) = false := by simp; omega
  have h1 : (a.kind == 1) = false := by simp; omega
  have hkk : (a.kind == 2) = true := by simpa using hk0
  have HOK : Hid (AcOK a) := ok
  obtain ⟨r, hr⟩ : ∃ r, r = (ldA s a.p a.w a.sg).1 := ⟨_, rfl⟩
  obtain ⟨st, hst⟩ : ∃ r, r = (ldA s a.p a.w a.sg).2 := ⟨_, rfl⟩
  rw [← hr, ← hst] at c1
  have HR1 : Hid (r = (ldA s a.p a.w a.sg).1) := hr
  have HR2 : Hid (st = (ldA s a.p a.w a.sg).2) := hst
  have e1 : ∀ Y : World, (binOp .eql TV (.agg #[.int .i64 r.kind, .int .u32 r.v, .int .i64 r.block]) (.agg #[.int .i64 r.kind, .int .u32 r.v, .int .i64 r.block])).run Try.prog Y = .ok (.bool true) Y := fun Y => by rw [eqV, sameV_self]
  have e2 : (st == st) = true := by simp
  clear hr hst h hk0 ok q4 q5 q6 q7 hd
  unfold AW at q0 q1 q2 q3 q8 q9 c1
  go_enter Try.func17, Try.ntmps17
  go_wp2_with (first
    | (go_at_call 19; refine c1.mono ?_; rintro e w1 ⟨rfl, hb1⟩; have HW1 : Hid (Below (AW w a).heap.size (AW w a) w1) := hb1; have HB1 : Hid (Below (AW w a).heap.size (AW w a) (vbox w1 r)) := hb1.trans ((vbox_below w1 r).mono hb1.size); have HBX1 : Hid (BX w.heap.size a (vbox w1 r)) := HBX.out.below HB1.out; obtain ⟨_, p1, p2, p3, _, _, _, _, p8, p9⟩ := HBX1.out.cells; have c2 := rLoad (HD.out.below HB1.out) a.p HOK.out.p a.w a.sg HOK.out.w0 HOK.out.w1; rw [← HR1.out, ← HR2.out] at c2; unfold vbox at p1 p2 p3 p8 p9 c2; clear hb1 c1)
    | (go_at_call 39; refine c2.mono ?_; rintro e w2 ⟨rfl, hb2⟩; have HB2 : Hid (Below (AW w a).heap.size (AW w a) (vbox w2 r)) := (HB1.out.trans (hb2.mono HB1.out.size)).trans ((vbox_below w2 r).mono (Nat.le_trans HB1.out.size hb2.size)); obtain ⟨t0, t1, t2⟩ := vbox_cells w1 r (Y := vbox w2 r) (hb2.trans ((vbox_below w2 r).mono hb2.size)); obtain ⟨t3, t4, t5⟩ := vbox_cells w2 r (Below.refl _ _); unfold vbox at t0 t1 t2 t3 t4 t5; clear hb2 c2))
  go_ret
  exact ⟨rfl, fin (s1 := s) (s2 := s) (HD.out.below HB2.out) (Kept.below HB2.out)⟩
set_option maxHeartbeats 4000000 in
theorem play_6 (h : D N b rb s s w) (a : Ac) (ok : AcOK a) (hk0 : a.kind = 6) :
    Calls Try.prog 17 #[.pointer (some ⟨b, 0, none⟩), .pointer (some ⟨rb, 0, none⟩), .agg #[.int .i64 a.kind, .int .i64 a.p.kind, .int .u32 a.p.v, .int .i64 a.p.block, .int .i64 a.q.kind, .int .u32 a.q.v, .int .i64 a.q.block, .int .i64 a.n, .int .i64 a.w, .bool a.sg]] w fun e w' => e = .returned (.bool true) ∧ D N b rb (nx s a) (nx s a) w' ∧ Kept N w w' := by
  rw [nx_same (Or.inr (Or.inl (by omega)))]
  have HBX : Hid (BX w.heap.size a (AW w a)) := AW_box w a
  obtain ⟨q0, q1, q2, q3, q4, q5, q6, q7, q8, q9⟩ := (AW_box w a).cells
  have hd := AW_duo h a
  obtain ⟨r, st, hP, hR⟩ := bin_two s a.n a.p a.q ok.p ok.q
  have c1 := hP _ _ _ _ _ hd
  have HRB : Hid (RBin s a.n a.p a.q r st) := hR
  have HD : Hid (D (NX N w.heap.size) b rb s s (AW w a)) := hd
  have hn0 : (a.kind == 0) = false := by simp; omega
  have hn1 : (a.kind == 1) = false := by simp; omega
  have hn2 : (a.kind == 2) = false := by simp; omega
  have hn3 : (a.kind == 3) = false := by simp; omega
  have hn4 : (a.kind == 4) = false := by simp; omega
  have hn5 : (a.kind == 5) = false := by simp; omega
  have hkk : (a.kind == 6) = true := by simpa using hk0
  have e1 : ∀ Y : World, (binOp .eql TV (.agg #[.int .i64 r.kind, .int .u32 r.v, .int .i64 r.block]) (.agg #[.int .i64 r.kind, .int .u32 r.v, .int .i64 r.block])).run Try.prog Y = .ok (.bool true) Y := fun Y => by rw [eqV, sameV_self]
  have e2 : (st == st) = true := by simp
  clear h hk0 ok q8 q9 hd hP hR
  unfold AW at q0 q1 q2 q3 q4 q5 q6 q7 c1
  go_enter Try.func17, Try.ntmps17
  go_wp2_with (first
    | (go_at_call 10; refine c1.mono ?_; rintro e w1 ⟨rfl, hb1⟩; have HW1 : Hid (Below (AW w a).heap.size (AW w a) w1) := hb1; have HB1 : Hid (Below (AW w a).heap.size (AW w a) (vbox w1 r)) := hb1.trans ((vbox_below w1 r).mono hb1.size); have HBX1 : Hid (BX w.heap.size a (vbox w1 r)) := HBX.out.below HB1.out; obtain ⟨_, p1, p2, p3, p4, p5, p6, p7, _, _⟩ := HBX1.out.cells; have c2 := HRB.out _ _ _ _ _ (HD.out.below HB1.out); unfold vbox at p1 p2 p3 p4 p5 p6 p7 c2; clear hb1 c1)
    | (go_at_call 44; refine c2.mono ?_; rintro e w2 ⟨rfl, hb2⟩; have HB2 : Hid (Below (AW w a).heap.size (AW w a) (vbox w2 r)) := (HB1.out.trans (hb2.mono HB1.out.size)).trans ((vbox_below w2 r).mono (Nat.le_trans HB1.out.size hb2.size)); obtain ⟨t0, t1, t2⟩ := vbox_cells w1 r (Y := vbox w2 r) (hb2.trans ((vbox_below w2 r).mono hb2.size)); obtain ⟨t3, t4, t5⟩ := vbox_cells w2 r (Below.refl _ _); unfold vbox at t0 t1 t2 t3 t4 t5; clear hb2 c2))
  go_ret
  exact ⟨rfl, fin (s1 := s) (s2 := s) (HD.out.below HB2.out) (Kept.below HB2.out)⟩
set_option maxHeartbeats 4000000 in
theorem play_7 (h : D N b rb s s w) (a : Ac) (ok : AcOK a) (hk0 : a.kind = 7) :
    Calls Try.prog 17 #[.pointer (some ⟨b, 0, none⟩), .pointer (some ⟨rb, 0, none⟩), .agg #[.int .i64 a.kind, .int .i64 a.p.kind, .int .u32 a.p.v, .int .i64 a.p.block, .int .i64 a.q.kind, .int .u32 a.q.v, .int .i64 a.q.block, .int .i64 a.n, .int .i64 a.w, .bool a.sg]] w fun e w' => e = .returned (.bool true) ∧ D N b rb (nx s a) (nx s a) w' ∧ Kept N w w' := by
  rw [nx_same (Or.inr (Or.inl (by omega)))]
  have HBX : Hid (BX w.heap.size a (AW w a)) := AW_box w a
  obtain ⟨q0, q1, q2, q3, q4, q5, q6, q7, q8, q9⟩ := (AW_box w a).cells
  have hd := AW_duo h a
  have c1 := pTruth hd a.p ok.p
  have HD : Hid (D (NX N w.heap.size) b rb s s (AW w a)) := hd
  have hn0 : (a.kind == 0) = false := by simp; omega
  have hn1 : (a.kind == 1) = false := by simp; omega
  have hn2 : (a.kind == 2) = false := by simp; omega
  have hn3 : (a.kind == 3) = false := by simp; omega
  have hn4 : (a.kind == 4) = false := by simp; omega
  have hn5 : (a.kind == 5) = false := by simp; omega
  have hn6 : (a.kind == 6) = false := by simp; omega
  have hkk : (a.kind == 7) = true := by simpa using hk0
  have HOK : Hid (AcOK a) := ok
  obtain ⟨r, hr⟩ : ∃ r, r = (trA s a.p).1 := ⟨_, rfl⟩
  obtain ⟨st, hst⟩ : ∃ r, r = (trA s a.p).2 := ⟨_, rfl⟩
  rw [← hr, ← hst] at c1
  have HR1 : Hid (r = (trA s a.p).1) := hr
  have HR2 : Hid (st = (trA s a.p).2) := hst
  have e1 : ∀ Y : World, (binOp BinOp.eql 4 (.bool r) (.bool r)).run Try.prog Y = .ok (.bool true) Y := fun Y => by rw [eqb]; simp
  have e2 : (st == st) = true := by simp
  clear hr hst h hk0 ok q4 q5 q6 q7 q8 q9 hd
  unfold AW at q0 q1 q2 q3 c1
  cases r
  all_goals
    go_enter Try.func17, Try.ntmps17
    go_wp2_with (first
      | (go_at_call 20; refine c1.mono ?_; rintro e w1 ⟨rfl, hb1⟩; have HB1 : Hid (Below (AW w a).heap.size (AW w a) w1) := hb1; have HBX1 : Hid (BX w.heap.size a w1) := HBX.out.below HB1.out; obtain ⟨_, p1, p2, p3, _, _, _, _, _, _⟩ := HBX1.out.cells; have c2 := rTruth (HD.out.below HB1.out) a.p HOK.out.p; rw [← HR1.out, ← HR2.out] at c2; clear hb1 c1)
      | (go_at_call 45; refine c2.mono ?_; rintro e w2 ⟨rfl, hb2⟩; have HB2 : Hid (Below (AW w a).heap.size (AW w a) w2) := HB1.out.trans (hb2.mono HB1.out.size); clear hb2 c2))
    go_ret
    exact ⟨rfl, fin (s1 := s) (s2 := s) (HD.out.below HB2.out) (Kept.below HB2.out)⟩
set_option maxHeartbeats 4000000 in
theorem play_n (h : D N b rb s s w) (a : Ac) (hk0 : a.kind < 0 ∨ 8 < a.kind) :
    Calls Try.prog 17 #[.pointer (some ⟨b, 0, none⟩), .pointer (some ⟨rb, 0, none⟩), .agg #[.int .i64 a.kind, .int .i64 a.p.kind, .int .u32 a.p.v, .int .i64 a.p.block, .int .i64 a.q.kind, .int .u32 a.q.v, .int .i64 a.q.block, .int .i64 a.n, .int .i64 a.w, .bool a.sg]] w fun e w' => e = .returned (.bool true) ∧ D N b rb (nx s a) (nx s a) w' ∧ Kept N w w' := by
  rw [nx_same (by omega)]
  obtain ⟨q0, _⟩ := (AW_box w a).cells
  have HD : Hid (D (NX N w.heap.size) b rb s s (AW w a)) := AW_duo h a
  have hn0 : (a.kind == 0) = false := by simp; omega
  have hn1 : (a.kind == 1) = false := by simp; omega
  have hn2 : (a.kind == 2) = false := by simp; omega
  have hn3 : (a.kind == 3) = false := by simp; omega
  have hn4 : (a.kind == 4) = false := by simp; omega
  have hn5 : (a.kind == 5) = false := by simp; omega
  have hn6 : (a.kind == 6) = false := by simp; omega
  have hn7 : (a.kind == 7) = false := by simp; omega
  have hn8 : (a.kind == 8) = false := by simp; omega
  clear h hk0
  unfold AW at q0
  go_enter Try.func17, Try.ntmps17
  go_wp2
  go_ret
  exact ⟨rfl, fin (s1 := s) (s2 := s) HD.out (Turned.refl _ _)⟩
theorem same_nil (w : World) : Calls Try.prog 15 #[.slice none 0 0, .slice none 0 0] w fun e w' => e = .returned (.bool true) ∧ Below w.heap.size w w' := by
  go_enter Try.func15, Try.ntmps15
  go_wp2
  go_loopw [5] (fun i_ wr => i_ = .int .i64 0 ∧ wr = w) (fun i_ _ => 0)
  case atStart => exact ⟨rfl, rfl⟩
  case round =>
    obtain ⟨rfl, rfl⟩ := hrel
    go_wp2
    go_ret
    exact ⟨rfl, Below.refl _ _⟩
set_option maxHeartbeats 4000000 in
theorem same_cells {w : World} {g1 g2 n cap1 cap2 : Nat} {f : Nat → Cl} (hn : n ≤ 16384) (h1 : CellsAt w g1 n f) (h2 : CellsAt w g2 n f) :
    Calls Try.prog 15 #[.slice (some ⟨g1, 0, none⟩) n cap1, .slice (some ⟨g2, 0, none⟩) n cap2] w fun e w' => e = .returned (.bool true) ∧ Below w.heap.size w w' := by
  have hnn : ((n : Int) != (n : Int)) = false := by simp
  have H1 : Hid (CellsAt w g1 n f) := h1
  have H2 : Hid (CellsAt w g2 n f) := h2
  have ne : ∀ (c : Cl) (Y : World), (binOp .neq TC (.agg #[.int .i64 c.kind, .int .u32 c.v, .int .i64 c.block, .int .i64 c.part]) (.agg #[.int .i64 c.kind, .int .u32 c.v, .int .i64 c.block, .int .i64 c.part])).run Try.prog Y = .ok (.bool false) Y := fun c Y => by rw [neC, sameC_self]; rfl
  clear h1 h2
  go_enter Try.func15, Try.ntmps15
  go_wp2
  go_loopw [5] (fun i_ wr => ∃ j : Nat, i_ = .int .i64 j ∧ j ≤ n ∧ Hid (Below w.heap.size w wr)) (fun i_ _ => n - (intOf i_).toNat)
  case atStart => exact ⟨0, rfl, Nat.zero_le _, Below.refl _ _⟩
  case round =>
    obtain ⟨j, rfl, hj, HB⟩ := hrel
    by_cases hlt : j < n
    · have k1 := H1.out.kept (Turned.of_below HB.out (fun _ => False)) (fun h => h)
      have k2 := H2.out.kept (Turned.of_below HB.out (fun _ => False)) (fun h => h)
      obtain ⟨a0, a1, a2, a3⟩ := k1.cell hlt
      obtain ⟨b0, b1, b2, b3⟩ := k2.cell hlt
      have ne1 := ne (f j)
      generalize f j = c at *
      clear k1 k2 ne
      go_wp2
      go_quiet (fail)
      go_wp2
      exact ⟨⟨j + 1, by go_num, by omega, HB.out.trans ⟨rfl, rfl, rfl, Nat.le_refl _, fun _ _ => rfl⟩⟩, by simp [intOf]; omega⟩
    · obtain rfl : j = n := by omega
      go_wp2
      go_ret
      exact ⟨rfl, HB.out⟩
end
end Go.Proofs.Ytigiahcfcglacaa
namespace Go.Proofs.Ytigiahcfcglacaa
open Go.RowKit Go.Maps
set_option linter.unusedVariables false
set_option maxRecDepth 100000
section
variable {N : Nat → Prop} {b rb : Nat} {s : St} {w : World}
theorem D.put {s1 s2 : St} {g : Nat} (h : D N b rb s1 s2 w) (hg : N g) (j : Nat) (c : Cl) : D N b rb s1 s2 (set4 w g j c) := by
  obtain ⟨xs, P, ys, R, h1, h2, e1, e2, h3, h4, h5⟩ := h.ex
  have ht : Turned w (set4 w g j c) (fun k => k = g) := Turned.set4 _ _ _ _ rfl
  exact ⟨⟨xs, P, ys, R, h1.kept ht (fun k hk e => h3 k hk (e ▸ hg)), h2.kept ht (fun k hk e => h4 k hk (e ▸ hg)), e1, e2, h3, h4, h5⟩, h.al, fun k hk => Nat.lt_of_lt_of_le (h.le k hk) ht.size⟩
theorem below_set4 {B : Nat} {w w' : World} {g : Nat} (h : Below B w w') (hg : B ≤ g) (hB : B ≤ w.heap.size) (j : Nat) (c : Cl) : Below B w (set4 w' g j c) := by
  refine h.trans ((Turned.set4 w' g j c (S := fun k => k = g) rfl).below (Nat.le_trans hB h.size) (fun k hk => by subst hk; exact hg))
set_option maxHeartbeats 4000000 in
theorem play_8 (h : D N b rb s s w) (a : Ac) (n0 : -9223372036854775808 ≤ a.n) (n1 : a.n < 9223372036854775808) (hk0 : a.kind = 8) :
    Calls Try.prog 17 #[.pointer (some ⟨b, 0, none⟩), .pointer (some ⟨rb, 0, none⟩), .agg #[.int .i64 a.kind, .int .i64 a.p.kind, .int .u32 a.p.v, .int .i64 a.p.block, .int .i64 a.q.kind, .int .u32 a.q.v, .int .i64 a.q.block, .int .i64 a.n, .int .i64 a.w, .bool a.sg]] w fun e w' => e = .returned (.bool true) ∧ D N b rb (nx s a) (nx s a) w' ∧ Kept N w w' := by
  rw [nx_same (Or.inr (Or.inl (by omega)))]
  have HBX : Hid (BX w.heap.size a (AW w a)) := AW_box w a
  obtain ⟨q0, q1, q2, q3, q4, q5, q6, q7, q8, q9⟩ := (AW_box w a).cells
  have hd := AW_duo h a
  have HD : Hid (D (NX N w.heap.size) b rb s s (AW w a)) := hd
  have hn0 : (a.kind == 0) = false := by simp; omega
  have hn1 : (a.kind == 1) = false := by simp; omega
  have hn2 : (a.kind == 2) = false := by simp; omega
  have hn3 : (a.kind == 3) = false := by simp; omega
  have hn4 : (a.kind == 4) = false := by simp; omega
  have hn5 : (a.kind == 5) = false := by simp; omega
  have hn6 : (a.kind == 6) = false := by simp; omega
  have hn7 : (a.kind == 7) = false := by simp; omega
  have hkk : (a.kind == 8) = true := by simpa using hk0
  have hbc : ∀ W : World, (Instr.build TC #[(0, .int .i64 9)]).run Try.prog W = .ok (.agg #[.int .i64 9, .int .u32 0, .int .i64 0, .int .i64 0]) W := fun W => by kernel_rfl
  cases hl : look s a.n with
  | none =>
    have c1 := pCells_bad hd a.n n0 n1 hl
    have c2 := rCells_bad hd a.n n0 n1 hl
    have c3 := same_nil
    clear h hk0 q1 q2 q3 q4 q5 q6 q8 q9 hd hl
    unfold AW at q0 q7 c1 c2
    go_enter Try.func17, Try.ntmps17
    go_wp2_with (first
      | (go_at_call 13; refine c1.mono ?_; rintro e w1 ⟨rfl, hw⟩; rw [hw]; clear hw w1)
      | (go_at_call 46; refine c2.mono ?_; rintro e w1 ⟨rfl, hw⟩; rw [hw]; clear hw w1)
      | (go_at_call 15; refine (c3 _).mono ?_; rintro e w2 ⟨rfl, hb2⟩; have HB2 : Hid (Below (AW w a).heap.size (AW w a) w2) := hb2; clear hb2))
    go_loopw [28] (fun i_ wr => i_ = .int .i64 0 ∧ wr = w2) (fun i_ _ => 0)
    case atStart => exact ⟨rfl, rfl⟩
    case round =>
      obtain ⟨rfl, rfl⟩ := hrel
      go_wp2
      go_ret
      exact ⟨rfl, fin (s1 := s) (s2 := s) (HD.out.below HB2.out) (Kept.below HB2.out)⟩
  | some k =>
    have c1 := pCells_ok hd a.n k hl
    have HL : Hid (look s a.n = some k) := hl
    have hmx : k.size ≤ 16384 := by
      obtain ⟨i, _, hi⟩ := look_some hl
      exact (hd.ok1.sz i k hi).2.1
    clear h hk0 q1 q2 q3 q4 q5 q6 q8 q9 hd hl
    unfold AW at q0 q7 c1
    go_enter Try.func17, Try.ntmps17
    go_wp2_with (first
      | (go_at_call 13; refine c1.mono ?_; rintro e w1 ⟨g, cap, rfl, hcl, hg, hb1⟩; have HB1 : Hid (Below (AW w a).heap.size (AW w a) w1) := hb1; have HG : Hid ((AW w a).heap.size ≤ g) := hg; have HBX1 : Hid (BX w.heap.size a w1) := HBX.out.below HB1.out; obtain ⟨_, _, _, _, _, _, _, p7, _, _⟩ := HBX1.out.cells; have HC1 : Hid (CellsAt w1 g k.size k.cell) := hcl; have c2 := rCells_ok (HD.out.below HB1.out) a.n k HL.out; clear hb1 c1 hcl hg)
      | (go_at_call 46; refine c2.mono ?_; rintro e w2 ⟨g2, cap2, rfl, hcl, hg, hb2⟩; have HB2 : Hid (Below (AW w a).heap.size (AW w a) w2) := HB1.out.trans (hb2.mono HB1.out.size); have HC2 : Hid (CellsAt w2 g k.size k.cell) := HC1.out.kept (Turned.of_below hb2 (fun _ => False)) (fun h => h); have c3 := same_cells (cap1 := cap) (cap2 := cap2) hmx HC2.out hcl; clear hb2 c2 hcl hg)
      | (go_at_call 15; refine c3.mono ?_; rintro e w3 ⟨rfl, hb3⟩; have HB3 : Hid (Below (AW w a).heap.size (AW w a) w3) := HB2.out.trans (hb3.mono HB2.out.size); have HC3 : Hid (CellsAt w3 g k.size k.cell) := HC2.out.kept (Turned.of_below hb3 (fun _ => False)) (fun h => h); clear hb3 c3))
    have HD3 : Hid (D (NX (NX N w.heap.size) g) b rb s s w3) := by
      refine D.widen HD.out HB3.out (fun m hm => ?_) (fun m hm => ?_)
      · rcases hm with c | c
        · exact Or.inl c
        · exact Or.inr (c ▸ HG.out)
      · rcases hm with c | c
        · exact Nat.lt_of_lt_of_le (HD.out.le m c) HB3.out.size
        · rw [c]; exact HC3.out.lt
    go_loopw [28] (fun i_ wr => ∃ j : Nat, i_ = .int .i64 j ∧ j ≤ k.size ∧ Hid (∃ f, CellsAt wr g k.size f) ∧ Hid (D (NX (NX N w.heap.size) g) b rb s s wr) ∧ Hid (Below (AW w a).heap.size (AW w a) wr)) (fun i_ _ => k.size - (intOf i_).toNat)
    case atStart => exact ⟨0, rfl, Nat.zero_le _, ⟨_, HC3.out⟩, HD3, HB3⟩
    case round =>
      obtain ⟨j, rfl, hj, HF, HDw, HBw⟩ := hrel
      by_cases hlt : j < k.size
      · obtain ⟨f, hf⟩ := HF.out
        obtain ⟨a0, a1, a2, a3⟩ := hf.cell hlt
        have ff := hf.frozen
        have HF2 : Hid (∃ f, CellsAt (set4 wr g (j * 4) ⟨9, 0, 0, 0⟩) g k.size f) := ⟨_, hf.set hlt ⟨9, 0, 0, 0⟩⟩
        have HD4 : Hid (D (NX (NX N w.heap.size) g) b rb s s (set4 wr g (j * 4) ⟨9, 0, 0, 0⟩)) := HDw.out.put (Or.inr rfl) _ _
        have HB4 : Hid (Below (AW w a).heap.size (AW w a) (set4 wr g (j * 4) ⟨9, 0, 0, 0⟩)) := below_set4 HBw.out HG.out (Nat.le_refl _) _ _
        unfold set4 at HF2 HD4 HB4
        clear hf HF
        go_wp2
        exact ⟨⟨j + 1, by go_num, by omega, HF2, HD4, HB4⟩, by simp [intOf]; omega⟩
      · obtain rfl : j = k.size := by omega
        go_wp2
        go_ret
        exact ⟨rfl, fin (s1 := s) (s2 := s) (HDw.out.narrow (fun m hm => Or.inl hm)) (Kept.below HBw.out)⟩
theorem play_c (h : D N b rb s s w) (a : Ac) (ok : AcOK a) (hl : a.kind = 0 → s.length + 1 < 3518437208883) :
    Calls Try.prog 17 #[.pointer (some ⟨b, 0, none⟩), .pointer (some ⟨rb, 0, none⟩), .agg #[.int .i64 a.kind, .int .i64 a.p.kind, .int .u32 a.p.v, .int .i64 a.p.block, .int .i64 a.q.kind, .int .u32 a.q.v, .int .i64 a.q.block, .int .i64 a.n, .int .i64 a.w, .bool a.sg]] w fun e w' => e = .returned (.bool true) ∧ D N b rb (nx s a) (nx s a) w' ∧ Kept N w w' := by
  by_cases k0 : a.kind = 0
  · exact play_0 h a ok k0 (hl k0)
  by_cases k1 : a.kind = 1
  · exact play_1 h a ok k1
  by_cases k2 : a.kind = 2
  · exact play_2 h a ok k2
  by_cases k3 : a.kind = 3
  · exact play_3 h a ok k3
  by_cases k4 : a.kind = 4
  · exact play_4 h a ok k4
  by_cases k5 : a.kind = 5
  · exact play_5 h a ok k5
  by_cases k6 : a.kind = 6
  · exact play_6 h a ok k6
  by_cases k7 : a.kind = 7
  · exact play_7 h a ok k7
  by_cases k8 : a.kind = 8
  · exact play_8 h a ok.n0 ok.n1 k8
  exact play_n h a (by omega)
theorem nx_len (s : St) (a : Ac) : (nx s a).length ≤ s.length + 1 := by
  unfold nx mkN enN stN cpN zeN
  split
  · split
    · omega
    · split
      · omega
      · simp
  · split
    · split <;> simp
    · split
      · split
        · omega
        · split <;> simp
      · split
        · split
          · split <;> simp
          · omega
        · split
          · split
            · omega
            · simp
          · omega
end
end Go.Proofs.Ytigiahcfcglacaa
