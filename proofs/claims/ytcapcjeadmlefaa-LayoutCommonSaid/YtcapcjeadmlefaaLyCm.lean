/-
  Structs made and completed in a table; places of structs that begin alike.
-/
import Derived.Test.YtcapcjeadmlefaaHLyNo
import Derived.Test.YtcapcjeadmlefaaHRefCopy
namespace Go.Proofs.Ytcapcjeadmlefaa
open Go.RowKit Go.Maps
set_option linter.unusedVariables false
set_option maxRecDepth 100000
theorem mem_ge {un : Bool} {M : Int → Ex} : ∀ (l : List Mb) (s : Ls) (i : Nat), ∀ P ∈ placesS un M s i l, (i : Int) ≤ P.mem
  | [], _, _, P, hP => by simp [placesS] at hP
  | m :: l, s, i, P, hP => by
    simp only [placesS, List.mem_append] at hP
    rcases hP with hP | hP
    · by_cases hb : m.bits = 0
      · rw [if_pos hb] at hP; simp at hP
      · rw [if_neg hb, List.mem_singleton] at hP
        rw [hP, spot_mem']; omega
    · have := mem_ge l _ _ P hP
      omega
/-- Where members are the same up to some number, so are their places. -/
theorem places_common {un : Bool} {M : Int → Ex} {f s : List Mb} {j : Nat} (h : f.take j = s.take j) {i : Nat} {P : Pl} (hi : (placesS un M ls0 0 f)[i]? = some P) (hP : P.mem < j) : (placesS un M ls0 0 s)[i]? = some P := by
  have e1 : placesS un M ls0 0 f = placesS un M ls0 0 (f.take j) ++ placesS un M (layS un M ls0 (f.take j)) (0 + (f.take j).length) (f.drop j) := by rw [← placesS_append, List.take_append_drop]
  have e2 : placesS un M ls0 0 s = placesS un M ls0 0 (s.take j) ++ placesS un M (layS un M ls0 (s.take j)) (0 + (s.take j).length) (s.drop j) := by rw [← placesS_append, List.take_append_drop]
  rw [e1] at hi
  rw [e2, ← h]
  by_cases hlt : i < (placesS un M ls0 0 (f.take j)).length
  · rw [List.getElem?_append_left hlt] at hi ⊢
    exact hi
  · exfalso
    rw [List.getElem?_append_right (by omega)] at hi
    have hge := mem_ge _ _ _ P (List.mem_of_getElem? hi)
    by_cases hj : j ≤ f.length
    · rw [List.length_take, Nat.min_eq_left hj] at hge
      omega
    · rw [List.drop_eq_nil_of_le (by omega)] at hi
      simp [placesS] at hi
section
variable {B : Nat} {w : World} {b mb : Nat} {v : Value} {rs : List (Rw × Value)} {ps : List (Value × Value)}
theorem struct_full (h : Tab B w b mb v rs ps) (s : ByteArray) (h0 : 0 < rs.length) (hs : s.size ≤ 9223372036854775807) (ht : tagP s.data.toList = true) (hl : rs.length = 512) :
    Calls Try.prog 13 #[.pointer (some ⟨b, 0, none⟩), .string s] w fun e w' => e = .returned (.tuple #[.int .i64 0, .int .i64 32]) ∧ Below w.heap.size w w' :=
  struct_of (R := fun _ w' => Below w.heap.size w w') (tagged_of (R := fun _ w' => Below w.heap.size w w') h h0 15 s hs ht (add_full h ⟨15, 0, 0, s, [], false⟩ (.slice none 0 0) hl))
theorem refusal_e (a : Addr) (c : Nat) (x : Value) (w : World) : Calls Try.prog 34 #[x, .slice (some a) 0 c] w fun e w' => e = .returned (.int .i64 2) ∧ w' = w := by
  go_enter Try.func34, Try.ntmps34
  go_wp2
  go_ret
  exact ⟨rfl, rfl⟩
set_option maxHeartbeats 1000000 in
theorem complete_e (h : Tab B w b mb v rs ps) (h0 : 0 < rs.length) {i : Nat} {r : Rw} {s0 : Value} (hp : rs[i]? = some (r, s0)) (hk : recK r.kind = true) (hd : r.done = false) (a : Addr) (c : Nat) :
    Calls Try.prog 14 #[.pointer (some ⟨b, 0, none⟩), .int .i64 i, .slice (some a) 0 c] w fun e w' => e = .returned (.int .i64 2) ∧ w' = w := by
  have c1 := made_c h h0
  have c2 := kind_some h i _ hp
  have c3 := isRecord_c r.kind w
  rw [hk] at c3
  have c4 := refusal_e a c (.pointer (some ⟨b, 0, none⟩)) w
  have hc := h.c0
  have hlt : i < rs.length := (List.getElem?_eq_some_iff.1 hp).1
  have hln := h.len
  obtain ⟨g, cap, rfl, hcap, hcell⟩ := h.cell hp
  have a5 := hcell 5 (by omega)
  simp only [rwCells, List.getElem?_cons_succ, List.getElem?_cons_zero, hd] at a5
  clear hcell hp
  have h1 := not_t
  simp only at c2
  go_enter Try.func14, Try.ntmps14
  go_wp2_with (first | (go_at_call 24; refine c1.mono ?_; rintro e w' ⟨rfl, rfl⟩) | (go_at_call 33; refine c2.mono ?_; rintro e w' ⟨rfl, rfl⟩) | (go_at_call 32; refine c3.mono ?_; rintro e w' ⟨rfl, rfl⟩) | (go_at_call 34; refine c4.mono ?_; rintro e w' ⟨rfl, rfl⟩))
  go_ret
  exact ⟨rfl, rfl⟩
/-- Complete with members that came in. -/
theorem complete_any (h : Tab B w b mb v rs ps) (h0 : 0 < rs.length) {x : Value} {l : List Mb} (hl : MemIn w x l) (hs : ∀ m ∈ l, m.name.size ≤ 9223372036854775807) (hbig : l.length ≤ 9223372036854775807) {i : Nat} {r : Rw} {s0 : Value} (hp : rs[i]? = some (r, s0))
    (hk : recK r.kind = true) (hd : r.done = false) :
    Calls Try.prog 14 #[.pointer (some ⟨b, 0, none⟩), .int .i64 i, x] w fun e w' => ∃ y : Int, e = .returned (.int .i64 y) ∧ (((y != 0) = true ∧ Below w.heap.size w w') ∨ (y = 0 ∧ refusP rs l = 0 ∧ ∃ s, Tab B w' b mb v (rs.set i ({ r with mem := l, done := true }, s)) ps ∧ Turned w w' (own b mb v))) := by
  rcases hl with hl | ⟨a, c, rfl, rfl⟩
  · by_cases he : refusP rs l = 0
    · refine (complete_c h h0 hl hs hbig hp hk hd he).mono ?_
      rintro e w' ⟨rfl, hq⟩
      exact ⟨0, rfl, .inr ⟨rfl, he, hq⟩⟩
    · refine (complete_err h h0 hl hs hbig hp hk hd he).mono ?_
      rintro e w' ⟨rfl, hq⟩
      exact ⟨_, rfl, .inl ⟨by simpa using he, hq⟩⟩
  · refine (complete_e h h0 hp hk hd a c).mono ?_
    rintro e w' ⟨rfl, rfl⟩
    exact ⟨2, rfl, .inl ⟨by decide, Below.refl _ _⟩⟩
end
/-- Are two members the same? -/
def sameM (x y : Mb) : Bool := (x.name.toList == y.name.toList) && (x.type == y.type) && (x.bits == y.bits)
theorem sameM_eq {x y : Mb} (h : sameM x y = true) : x = y := by
  obtain ⟨n, t, b⟩ := x
  obtain ⟨n', t', b'⟩ := y
  simp only [sameM, Bool.and_eq_true, beq_iff_eq] at h
  obtain ⟨⟨h1, h2⟩, h3⟩ := h
  have : n = n' := by
    have e : n.data.toList = n'.data.toList := by rw [← ByteArray.toList_eq, ← ByteArray.toList_eq]; exact h1
    cases n; cases n'; simp_all
  simp_all
end Go.Proofs.Ytcapcjeadmlefaa
