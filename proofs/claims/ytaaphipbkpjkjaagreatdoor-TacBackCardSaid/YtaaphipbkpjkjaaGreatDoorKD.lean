/-
  The home of an instruction: temp, operand, place, returns, reaches of package tac.
  Rows of numbers held against each other; what a function's home tells of numbers and operands.
-/
import Derived.Test.YtaaphipbkpjkjaaGreatDoorKC
import Derived.Laws.StructEq
namespace Go.Proofs.YtaaphipbkpjkjaaGreatDoor
open Go.RowKit Go.Maps
set_option linter.unusedVariables false
set_option maxRecDepth 100000
section
variable {w : World}
set_option maxHeartbeats 4000000 in
theorem ints_c {a b : Value} {l : List Int} (h1 : IntSl w a l) (h2 : IntSl w b l) (hl : l.length ≤ 140737488355328) :
    Calls Tryz.prog 17 #[a, b] w fun e w' => e = .returned (.bool true) ∧ Below w.heap.size w w' := by
  have H1 : Hid (∀ Y, Below w.heap.size w Y → ∃ p c, a = .slice p l.length c ∧ l.length ≤ c ∧ ∀ i n, l[i]? = some n → ∃ g o, p = some ⟨g, o, none⟩ ∧ Y.cell? ⟨g, o + i, none⟩ = some (.int .i64 n)) := fun Y hY => by
    rcases h1.below hY with ⟨rfl, rfl⟩ | ⟨g, o, cap, rfl, hc, hg, hcell⟩
    · exact ⟨none, 0, rfl, Nat.zero_le _, fun i n hn => by simp at hn⟩
    · exact ⟨_, cap, rfl, hc, fun i n hn => ⟨g, o, rfl, hcell i n hn⟩⟩
  have H2 : Hid (∀ Y, Below w.heap.size w Y → ∃ p c, b = .slice p l.length c ∧ l.length ≤ c ∧ ∀ i n, l[i]? = some n → ∃ g o, p = some ⟨g, o, none⟩ ∧ Y.cell? ⟨g, o + i, none⟩ = some (.int .i64 n)) := fun Y hY => by
    rcases h2.below hY with ⟨rfl, rfl⟩ | ⟨g, o, cap, rfl, hc, hg, hcell⟩
    · exact ⟨none, 0, rfl, Nat.zero_le _, fun i n hn => by simp at hn⟩
    · exact ⟨_, cap, rfl, hc, fun i n hn => ⟨g, o, rfl, hcell i n hn⟩⟩
  obtain ⟨p1, c1, rfl, hc1, _⟩ := H1.out w (Below.refl _ _)
  obtain ⟨p2, c2, rfl, hc2, _⟩ := H2.out w (Below.refl _ _)
  have hnn : ((l.length : Int) != (l.length : Int)) = false := by simp
  clear h1 h2
  go_enter Tryz.func17, Tryz.ntmps17
  go_wp2
  go_loopw [5] (fun iv wr => ∃ k : Nat, iv = .int .i64 k ∧ k ≤ l.length ∧ Hid (Below w.heap.size w wr)) (fun iv _ => l.length - (intOf iv).toNat)
  case atStart => exact ⟨0, rfl, Nat.zero_le _, Below.refl _ _⟩
  case round =>
    obtain ⟨k, rfl, hk, HR⟩ := hrel
    by_cases hlt : k < l.length
    · obtain ⟨n, hn⟩ : ∃ n, l[k]? = some n := ⟨_, List.getElem?_eq_getElem hlt⟩
      obtain ⟨p1', c1', e1, _, q1⟩ := H1.out wr HR.out
      obtain ⟨p2', c2', e2, _, q2⟩ := H2.out wr HR.out
      obtain ⟨g1, o1, rfl, d1⟩ := q1 k n hn
      obtain ⟨g2, o2, rfl, d2⟩ := q2 k n hn
      injection e1 with e11 e12 e13
      injection e2 with e21 e22 e23
      subst e11 e21
      have hne : (n != n) = false := by simp
      have HR2 : Hid (Below w.heap.size w wr.drew) := HR.out.drew
      clear q1 q2 hn e12 e13 e22 e23
      go_upto_region 6 with (fail)
      go_region
      go_wp2
      exact ⟨⟨k + 1, by go_num, by omega, HR2⟩, by simp [intOf]; omega⟩
    · obtain rfl : k = l.length := by omega
      go_wp2
      go_ret
      exact ⟨rfl, HR.out⟩
end
def widthB (n : Int) : Bool := n == 1 || (n == 2 || n == 4)
def roomB (size align : Int) : Bool := withinP size 1 16384 && widthB align
def endsB (op : Int) : Bool := op == 9 || (op == 10 || op == 14)
theorem isWidth_c (n : Int) (w : World) : Calls Tryz.prog 78 #[.int .i64 n] w fun e w' => e = .returned (.bool (widthB n)) ∧ w' = w := by
  unfold widthB
  generalize h1 : (n == 1) = b1
  generalize h2 : (n == 2) = b2
  generalize h4 : (n == 4) = b4
  cases b1 <;> cases b2 <;> cases b4
  all_goals
    go_enter Tryz.func78, Tryz.ntmps78
    go_wp2
    go_ret
    exact ⟨rfl, rfl⟩
theorem power_c (n : Int) (w : World) : Calls Tryz.prog 57 #[.int .i64 n] w fun e w' => e = .returned (.bool (widthB n)) ∧ w' = w := by
  unfold widthB
  generalize h1 : (n == 1) = b1
  generalize h2 : (n == 2) = b2
  generalize h4 : (n == 4) = b4
  cases b1 <;> cases b2 <;> cases b4
  all_goals
    go_enter Tryz.func57, Tryz.ntmps57
    go_wp2
    go_ret
    exact ⟨rfl, rfl⟩
theorem endsCode_c (n : Int) (w : World) : Calls Tryz.prog 80 #[.int .i64 n] w fun e w' => e = .returned (.bool (endsB n)) ∧ w' = w := by
  unfold endsB
  generalize h1 : (n == 9) = b1
  generalize h2 : (n == 10) = b2
  generalize h4 : (n == 14) = b4
  cases b1 <;> cases b2 <;> cases b4
  all_goals
    go_enter Tryz.func80, Tryz.ntmps80
    go_wp2
    go_ret
    exact ⟨rfl, rfl⟩
theorem roomHolds_c (s a : Int) (w : World) : Calls Tryz.prog 48 #[.int .i64 s, .int .i64 a] w fun e w' => e = .returned (.bool (roomB s a)) ∧ w' = w := by
  have c1 := within_c s 1 16384 w
  have c2 := isWidth_c a w
  unfold roomB
  generalize withinP s 1 16384 = x at *
  generalize widthB a = y at *
  cases x
  · clear c2
    go_enter Tryz.func48, Tryz.ntmps48
    go_wp2_with (first | (go_at_call 50; refine c1.mono ?_; rintro e w' ⟨rfl, hw⟩; rw [hw]; clear hw w') | fail)
    go_ret
    exact ⟨rfl, rfl⟩
  · go_enter Tryz.func48, Tryz.ntmps48
    go_wp2_with (first | (go_at_call 50; refine c1.mono ?_; rintro e w' ⟨rfl, hw⟩; rw [hw]; clear hw w') | (go_at_call 78; refine c2.mono ?_; rintro e w' ⟨rfl, hw⟩; rw [hw]; clear hw w') | fail)
    go_ret
    exact ⟨by cases y <;> rfl, rfl⟩
end Go.Proofs.YtaaphipbkpjkjaaGreatDoor
namespace Go.Proofs.YtaaphipbkpjkjaaGreatDoor
open Go.RowKit Go.Maps
set_option linter.unusedVariables false
set_option maxRecDepth 100000
/-- A program and one of its functions, as package tac's home has them. -/
structure Hm where
  op : Option Addr
  on : Nat
  oc : Nat
  fp : Option Addr
  fn : Nat
  fc : Nat
  mn : Int
  nm : ByteArray
  pr : Int
  tp : Int
  gv : Bool
  sp : Option Addr
  sn : Nat
  sc : Nat
  cp : Option Addr
  cn : Nat
  cc : Nat
abbrev THm : TypeId := 131
abbrev TFn : TypeId := 32
def hmV (h : Hm) : Value := .agg #[.slice h.op h.on h.oc, .slice h.fp h.fn h.fc, .int .i64 h.mn, .string h.nm, .int .i64 h.pr, .int .i64 h.tp, .bool h.gv, .slice h.sp h.sn h.sc, .slice h.cp h.cn h.cc]
def tempB (tp d : Int) : Bool := withinP d 0 (tp - 1)
def operB (tp : Int) (a : Ar) : Bool := a.kind == 2 || (a.kind == 1 && decide (a.n < tp))
def arV (a : Ar) : Value := .agg #[.int .i64 a.kind, .int .u32 a.n]
theorem eqAr (k n : Int) (Y : World) : (binOp .eql TAr (.agg #[.int .i64 k, .int .u32 n]) (.agg #[.int .i64 0, .int .u32 0])).run Tryz.prog Y = .ok (.bool (k == 0 && n == 0)) Y := by
  have hT : Tryz.prog.underlying TAr = some (.struct (Tryz.prog.fieldsOf TAr)) := by kernel_rfl
  have hp : Tryz.prog.stoodInHeld TAr = false := by kernel_rfl
  have h3 := Tryz.underlying37
  have h9 := Tryz.underlying38
  rw [run_eql_struct, run_equalIn_agg _ 9999 _ _ _ hT hp]
  simp only [Program.fieldsOf, Tryz.underlying40]
  go_simp
  by_cases hk : k = 0 <;> by_cases hn : n = 0 <;> simp [hk, hn]
section
variable {w : World}
theorem temp_c (h : Hm) (h0 : -1000 ≤ h.tp) (h1 : h.tp ≤ 9223372036854775807) (d : Int) (w : World) :
    Calls Tryz.prog 124 #[hmV h, .int .i64 d] w fun e w' => e = .returned (.bool (tempB h.tp d)) ∧ Below w.heap.size w w' := by
  have b1 := below1 w (.cells #[.slice h.op h.on h.oc, .slice h.fp h.fn h.fc, .int .i64 h.mn, .string h.nm, .int .i64 h.pr, .int .i64 h.tp, .bool h.gv, .slice h.sp h.sn h.sc, .slice h.cp h.cn h.cc] THm)
  have c5 := Lib.cell_of_heap (heap_r0 w (.cells #[.slice h.op h.on h.oc, .slice h.fp h.fn h.fc, .int .i64 h.mn, .string h.nm, .int .i64 h.pr, .int .i64 h.tp, .bool h.gv, .slice h.sp h.sn h.sc, .slice h.cp h.cn h.cc] THm)) 5
  simp only [List.getElem?_toArray, List.getElem?_cons_zero, List.getElem?_cons_succ] at c5
  have HB : Hid (Below w.heap.size w (w.alloc (.cells #[.slice h.op h.on h.oc, .slice h.fp h.fn h.fc, .int .i64 h.mn, .string h.nm, .int .i64 h.pr, .int .i64 h.tp, .bool h.gv, .slice h.sp h.sn h.sc, .slice h.cp h.cn h.cc] THm))) := b1
  have cN := isNumber_c d h.tp h0 h1 (w.alloc (.cells #[.slice h.op h.on h.oc, .slice h.fp h.fn h.fc, .int .i64 h.mn, .string h.nm, .int .i64 h.pr, .int .i64 h.tp, .bool h.gv, .slice h.sp h.sn h.sc, .slice h.cp h.cn h.cc] THm))
  unfold hmV tempB
  clear b1
  go_enter Tryz.func124, Tryz.ntmps124
  go_upto_region 1 with (fail)
  refine (?_ : Code.wp _ _ _ _ (w.alloc (.cells #[.slice h.op h.on h.oc, .slice h.fp h.fn h.fc, .int .i64 h.mn, .string h.nm, .int .i64 h.pr, .int .i64 h.tp, .bool h.gv, .slice h.sp h.sn h.sc, .slice h.cp h.cn h.cc] THm)))
  generalize w.alloc (.cells #[.slice h.op h.on h.oc, .slice h.fp h.fn h.fc, .int .i64 h.mn, .string h.nm, .int .i64 h.pr, .int .i64 h.tp, .bool h.gv, .slice h.sp h.sn h.sc, .slice h.cp h.cn h.cc] THm) = W1 at *
  go_wp2_with (first | (go_at_call 28; refine cN.mono ?_; rintro e w' ⟨rfl, hw⟩; rw [hw]; clear hw w') | fail)
  go_ret
  exact ⟨rfl, HB.out⟩
theorem place_c (h : Hm) (h1 : h.cn ≤ 9223372036854775807) (d : Int) (w : World) :
    Calls Tryz.prog 129 #[hmV h, .int .i64 d] w fun e w' => e = .returned (.bool (tempB h.cn d)) ∧ Below w.heap.size w w' := by
  have b1 := below1 w (.cells #[.slice h.op h.on h.oc, .slice h.fp h.fn h.fc, .int .i64 h.mn, .string h.nm, .int .i64 h.pr, .int .i64 h.tp, .bool h.gv, .slice h.sp h.sn h.sc, .slice h.cp h.cn h.cc] THm)
  have c8 := Lib.cell_of_heap (heap_r0 w (.cells #[.slice h.op h.on h.oc, .slice h.fp h.fn h.fc, .int .i64 h.mn, .string h.nm, .int .i64 h.pr, .int .i64 h.tp, .bool h.gv, .slice h.sp h.sn h.sc, .slice h.cp h.cn h.cc] THm)) 8
  simp only [List.getElem?_toArray, List.getElem?_cons_zero, List.getElem?_cons_succ] at c8
  have HB : Hid (Below w.heap.size w (w.alloc (.cells #[.slice h.op h.on h.oc, .slice h.fp h.fn h.fc, .int .i64 h.mn, .string h.nm, .int .i64 h.pr, .int .i64 h.tp, .bool h.gv, .slice h.sp h.sn h.sc, .slice h.cp h.cn h.cc] THm))) := b1
  have cN := isNumber_c d (h.cn : Int) (by omega) (by omega) (w.alloc (.cells #[.slice h.op h.on h.oc, .slice h.fp h.fn h.fc, .int .i64 h.mn, .string h.nm, .int .i64 h.pr, .int .i64 h.tp, .bool h.gv, .slice h.sp h.sn h.sc, .slice h.cp h.cn h.cc] THm))
  unfold hmV tempB
  clear b1
  go_enter Tryz.func129, Tryz.ntmps129
  go_upto_region 1 with (fail)
  refine (?_ : Code.wp _ _ _ _ (w.alloc (.cells #[.slice h.op h.on h.oc, .slice h.fp h.fn h.fc, .int .i64 h.mn, .string h.nm, .int .i64 h.pr, .int .i64 h.tp, .bool h.gv, .slice h.sp h.sn h.sc, .slice h.cp h.cn h.cc] THm)))
  generalize w.alloc (.cells #[.slice h.op h.on h.oc, .slice h.fp h.fn h.fc, .int .i64 h.mn, .string h.nm, .int .i64 h.pr, .int .i64 h.tp, .bool h.gv, .slice h.sp h.sn h.sc, .slice h.cp h.cn h.cc] THm) = W1 at *
  go_wp2_with (first | (go_at_call 28; refine cN.mono ?_; rintro e w' ⟨rfl, hw⟩; rw [hw]; clear hw w') | fail)
  go_ret
  exact ⟨rfl, HB.out⟩
set_option maxHeartbeats 4000000 in
theorem operand_c (h : Hm) (h0 : 0 ≤ h.tp) (h1 : h.tp ≤ 9223372036854775807) (a : Ar) (ha : ArOK a) (w : World) :
    Calls Tryz.prog 125 #[hmV h, arV a] w fun e w' => e = .returned (.bool (operB h.tp a)) ∧ Below w.heap.size w w' := by
  obtain ⟨ak, an⟩ := a
  obtain ⟨ha0, ha1⟩ := ha
  simp only at ha0 ha1
  have b1 := below1 w (.cells #[.slice h.op h.on h.oc, .slice h.fp h.fn h.fc, .int .i64 h.mn, .string h.nm, .int .i64 h.pr, .int .i64 h.tp, .bool h.gv, .slice h.sp h.sn h.sc, .slice h.cp h.cn h.cc] THm)
  have N1 := heap_r0 w (.cells #[.slice h.op h.on h.oc, .slice h.fp h.fn h.fc, .int .i64 h.mn, .string h.nm, .int .i64 h.pr, .int .i64 h.tp, .bool h.gv, .slice h.sp h.sn h.sc, .slice h.cp h.cn h.cc] THm)
  have b2 := below1 (w.alloc (.cells #[.slice h.op h.on h.oc, .slice h.fp h.fn h.fc, .int .i64 h.mn, .string h.nm, .int .i64 h.pr, .int .i64 h.tp, .bool h.gv, .slice h.sp h.sn h.sc, .slice h.cp h.cn h.cc] THm)) (.cells #[.int .i64 ak, .int .u32 an] TAr)
  have N2 := heap_r0 (w.alloc (.cells #[.slice h.op h.on h.oc, .slice h.fp h.fn h.fc, .int .i64 h.mn, .string h.nm, .int .i64 h.pr, .int .i64 h.tp, .bool h.gv, .slice h.sp h.sn h.sc, .slice h.cp h.cn h.cc] THm)) (.cells #[.int .i64 ak, .int .u32 an] TAr)
  have hz : (w.alloc (.cells #[.slice h.op h.on h.oc, .slice h.fp h.fn h.fc, .int .i64 h.mn, .string h.nm, .int .i64 h.pr, .int .i64 h.tp, .bool h.gv, .slice h.sp h.sn h.sc, .slice h.cp h.cn h.cc] THm)).heap.size = w.heap.size + 1 := by simp
  rw [hz] at N2
  have c5 := Lib.cell_of_heap (blk_b N1 b2) 5
  have a0 := Lib.cell_of_heap N2 0
  have a1 := Lib.cell_of_heap N2 1
  simp only [List.getElem?_toArray, List.getElem?_cons_zero, List.getElem?_cons_succ] at c5 a0 a1
  have HB : Hid (Below w.heap.size w ((w.alloc (.cells #[.slice h.op h.on h.oc, .slice h.fp h.fn h.fc, .int .i64 h.mn, .string h.nm, .int .i64 h.pr, .int .i64 h.tp, .bool h.gv, .slice h.sp h.sn h.sc, .slice h.cp h.cn h.cc] THm)).alloc (.cells #[.int .i64 ak, .int .u32 an] TAr))) := b1.trans (b2.mono b1.size)
  unfold hmV operB arV
  simp only
  obtain ⟨R, hR⟩ : ∃ R, R = (ak == 2 || (ak == 1 && decide (an < h.tp))) := ⟨_, rfl⟩
  rw [← hR]
  have HR : Hid (R = _) := hR
  have hw1 : IntKind.u64.wrap an = an := by simp [IntKind.wrap, IntKind.signed, IntKind.bits]; omega
  have hw2 : IntKind.u64.wrap h.tp = h.tp := by simp [IntKind.wrap, IntKind.signed, IntKind.bits]; omega
  clear b1 b2 N1 N2 hR
  go_enter Tryz.func125, Tryz.ntmps125
  go_upto_region 1 with (fail)
  refine (?_ : Code.wp _ _ _ _ ((w.alloc (.cells #[.slice h.op h.on h.oc, .slice h.fp h.fn h.fc, .int .i64 h.mn, .string h.nm, .int .i64 h.pr, .int .i64 h.tp, .bool h.gv, .slice h.sp h.sn h.sc, .slice h.cp h.cn h.cc] THm)).alloc (.cells #[.int .i64 ak, .int .u32 an] TAr)))
  generalize (w.alloc (.cells #[.slice h.op h.on h.oc, .slice h.fp h.fn h.fc, .int .i64 h.mn, .string h.nm, .int .i64 h.pr, .int .i64 h.tp, .bool h.gv, .slice h.sp h.sn h.sc, .slice h.cp h.cn h.cc] THm)).alloc (.cells #[.int .i64 ak, .int .u32 an] TAr) = W1 at *
  cases k2 : (ak == 2) with
  | true =>
    have HR2 : Hid (R = true) := by show R = true; rw [HR.out, k2]; rfl
    clear HR
    go_wp2
    go_ret
    exact ⟨by rw [HR2.out]; rfl, HB.out⟩
  | false =>
    cases k1 : (ak == 1) with
    | false =>
      have HR2 : Hid (R = false) := by show R = false; rw [HR.out, k2, k1]; rfl
      clear HR
      go_wp2
      go_ret
      exact ⟨by rw [HR2.out]; rfl, HB.out⟩
    | true =>
      have HR2 : Hid (R = decide (an < h.tp)) := by show R = _; rw [HR.out, k2, k1]; rfl
      clear HR
      generalize hdd : decide (an < h.tp) = dd at *
      cases dd
      all_goals
        go_wp2
        go_ret
        exact ⟨by rw [HR2.out]; rfl, HB.out⟩
end
end Go.Proofs.YtaaphipbkpjkjaaGreatDoor
