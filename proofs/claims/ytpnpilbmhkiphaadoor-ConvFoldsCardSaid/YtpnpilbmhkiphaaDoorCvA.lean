/-
  Operands and pairs as values: what conv's small methods answer.
-/
import Derived.Test.YtpnpilbmhkiphaaDoorCvU
import Derived.Test.YtpnpilbmhkiphaaDoorRows1
import Derived.Test.YtpnpilbmhkiphaaDoorActs
namespace Go.Proofs.YtpnpilbmhkiphaaDoor
open Go.RowKit Go.Maps
set_option linter.unusedVariables false
set_option maxRecDepth 100000

abbrev TO : TypeId := 76
abbrev TP : TypeId := 78
section
theorem below1 (w : World) (A : Obj) : Below w.heap.size w (w.alloc A) := (Below.refl _ w).alloc (Nat.le_refl _) A
theorem box_at {w Y : World} {cs : Array Value} {T : TypeId} (hb : Below (w.alloc (.cells cs T)).heap.size (w.alloc (.cells cs T)) Y) (j : Nat) : Y.cell? ⟨w.heap.size, j, none⟩ = cs[j]? := by
  have e := heap_r0 w (.cells cs T)
  have hlt := lt_of_heap e
  exact (hb.cell (p := ⟨w.heap.size, j, none⟩) hlt).trans (Lib.cell_of_heap e j)
theorem below_box {w Y : World} {A : Obj} (hb : Below (w.alloc A).heap.size (w.alloc A) Y) : Below w.heap.size w Y := (below1 w A).trans (hb.mono (below1 w A).size)
theorem box7 {w Y : World} {x0 x1 x2 x3 x4 x5 x6 : Value} (hb : Below (w.alloc (.cells #[x0, x1, x2, x3, x4, x5, x6] TO)).heap.size (w.alloc (.cells #[x0, x1, x2, x3, x4, x5, x6] TO)) Y) : Y.cell? ⟨w.heap.size, 0, none⟩ = some x0 ∧ Y.cell? ⟨w.heap.size, 1, none⟩ = some x1 ∧ Y.cell? ⟨w.heap.size, 2, none⟩ = some x2 ∧ Y.cell? ⟨w.heap.size, 3, none⟩ = some x3 ∧ Y.cell? ⟨w.heap.size, 4, none⟩ = some x4 ∧ Y.cell? ⟨w.heap.size, 5, none⟩ = some x5 ∧ Y.cell? ⟨w.heap.size, 6, none⟩ = some x6 :=
  ⟨box_at hb 0, box_at hb 1, box_at hb 2, box_at hb 3, box_at hb 4, box_at hb 5, box_at hb 6⟩
set_option maxHeartbeats 1000000 in
theorem oInt_c (i1 k1 e1 n1 : Int) (t1 : ByteArray) (p1 : Option Addr) (a1 u1 : Nat) (d1 : Bool) (w : World) : Calls Tryd.prog 47 #[.agg #[.int .i64 i1, .int .i64 k1, .int .i64 e1, .int .i64 n1, .string t1, .slice p1 a1 u1, .bool d1]] w fun e w' => e = .returned (.bool (intK k1)) ∧ Below w.heap.size w w' := by
  have c := fun W => cInt_c k1 W
  have HB : Hid (Below w.heap.size w (w.alloc (.cells #[.int .i64 i1, .int .i64 k1, .int .i64 e1, .int .i64 n1, .string t1, .slice p1 a1 u1, .bool d1] TO))) := below1 w _
  go_enter Tryd.func47, Tryd.ntmps47
  go_wp2_with fail
  refine (c _).mono ?_
  rintro e w' ⟨rfl, rfl⟩
  go_wp2
  go_ret
  exact ⟨rfl, HB.out⟩
set_option maxHeartbeats 1000000 in
theorem oPtr_c (i1 k1 e1 n1 : Int) (t1 : ByteArray) (p1 : Option Addr) (a1 u1 : Nat) (d1 : Bool) (w : World) : Calls Tryd.prog 58 #[.agg #[.int .i64 i1, .int .i64 k1, .int .i64 e1, .int .i64 n1, .string t1, .slice p1 a1 u1, .bool d1]] w fun e w' => e = .returned (.bool (k1 == 13)) ∧ Below w.heap.size w w' := by
  have HB : Hid (Below w.heap.size w (w.alloc (.cells #[.int .i64 i1, .int .i64 k1, .int .i64 e1, .int .i64 n1, .string t1, .slice p1 a1 u1, .bool d1] TO))) := below1 w _
  go_enter Tryd.func58, Tryd.ntmps58
  go_wp2
  go_ret
  exact ⟨rfl, HB.out⟩
set_option maxHeartbeats 1000000 in
theorem oProm_c (i1 k1 e1 n1 : Int) (t1 : ByteArray) (p1 : Option Addr) (a1 u1 : Nat) (d1 : Bool) (w : World) : Calls Tryd.prog 49 #[.agg #[.int .i64 i1, .int .i64 k1, .int .i64 e1, .int .i64 n1, .string t1, .slice p1 a1 u1, .bool d1]] w fun e w' => e = .returned (.int .i64 (promP k1 (-1))) ∧ Below w.heap.size w w' := by
  have c := fun W => cPromote_c k1 (-1) W
  have HB : Hid (Below w.heap.size w (w.alloc (.cells #[.int .i64 i1, .int .i64 k1, .int .i64 e1, .int .i64 n1, .string t1, .slice p1 a1 u1, .bool d1] TO))) := below1 w _
  go_enter Tryd.func49, Tryd.ntmps49
  go_wp2_with fail
  refine (c _).mono ?_
  rintro e w' ⟨rfl, rfl⟩
  go_wp2
  go_ret
  exact ⟨rfl, HB.out⟩
def toV (k e : Int) : Bool := k == 13 && e == 0
set_option maxHeartbeats 1000000 in
theorem oVoid_c (i1 k1 e1 n1 : Int) (t1 : ByteArray) (p1 : Option Addr) (a1 u1 : Nat) (d1 : Bool) (w : World) : Calls Tryd.prog 54 #[.agg #[.int .i64 i1, .int .i64 k1, .int .i64 e1, .int .i64 n1, .string t1, .slice p1 a1 u1, .bool d1]] w fun e w' => e = .returned (.bool (toV k1 e1)) ∧ Below w.heap.size w w' := by
  have c := fun W => oPtr_c i1 k1 e1 n1 t1 p1 a1 u1 d1 W
  have E0 : Hid (∀ Y, Below (w.alloc (.cells #[.int .i64 i1, .int .i64 k1, .int .i64 e1, .int .i64 n1, .string t1, .slice p1 a1 u1, .bool d1] TO)).heap.size (w.alloc (.cells #[.int .i64 i1, .int .i64 k1, .int .i64 e1, .int .i64 n1, .string t1, .slice p1 a1 u1, .bool d1] TO)) Y → Below w.heap.size w Y) := fun Y h => below_box h
  by_cases hk : k1 = 13
  · subst hk
    have hq : (e1 == 0) = true ∨ (e1 == 0) = false := by cases (e1 == 0) <;> simp
    rw [show toV 13 e1 = (e1 == 0) by simp [toV]]
    by_cases he : e1 = 0
    · subst he
      go_enter Tryd.func54, Tryd.ntmps54
      go_wp2_with fail
      refine (c _).mono ?_
      rintro e w' ⟨rfl, hb⟩
      have HY : Hid (Below w.heap.size w w') := E0.out _ hb
      obtain ⟨q0, q1, q2, q3, q4, q5, q6⟩ := box7 hb
      clear hb c
      go_wp2
      go_ret
      exact ⟨rfl, HY.out⟩
    · have de : (e1 == 0) = false := by simpa using he
      rw [de]
      go_enter Tryd.func54, Tryd.ntmps54
      go_wp2_with fail
      refine (c _).mono ?_
      rintro e w' ⟨rfl, hb⟩
      have HY : Hid (Below w.heap.size w w') := E0.out _ hb
      obtain ⟨q0, q1, q2, q3, q4, q5, q6⟩ := box7 hb
      clear hb c
      go_wp2
      go_ret
      exact ⟨rfl, HY.out⟩
  · have dk : (k1 == 13) = false := by simpa using hk
    rw [show toV k1 e1 = false by simp [toV, dk]]
    rw [dk] at c
    go_enter Tryd.func54, Tryd.ntmps54
    go_wp2_with fail
    refine (c _).mono ?_
    rintro e w' ⟨rfl, hb⟩
    have HY : Hid (Below w.heap.size w w') := E0.out _ hb
    obtain ⟨q0, q1, q2, q3, q4, q5, q6⟩ := box7 hb
    clear hb c
    go_wp2
    go_ret
    exact ⟨rfl, HY.out⟩
end
end Go.Proofs.YtpnpilbmhkiphaaDoor
