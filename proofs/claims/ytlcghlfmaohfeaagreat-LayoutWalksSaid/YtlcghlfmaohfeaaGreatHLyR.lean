/-
  How much room a row takes.
-/
import Derived.Test.YtlcghlfmaohfeaaGreatHLyM
namespace Go.Proofs.YtlcghlfmaohfeaaGreat
open Go.RowKit Go.Maps
set_option linter.unusedVariables false
set_option maxRecDepth 100000
section
variable {w0 : World} {b rb m : Nat} {rs : List (Rw × Value)} {M : Int → Ex} {w W : World}
theorem RU.fin (h : RU w0 b rb m rs M W) (h0 : w0.heap.size ≤ w.heap.size) (hr : rb < w.heap.size) (hm : m < w.heap.size) (ht : Turned w W (fun k => k = m)) {g : Nat} (hg : w.heap.size ≤ g) (cs : Array Value) :
    RU w0 b rb m rs M (W.setRow g cs) ∧ Turned w (W.setRow g cs) (fun k => k = m) :=
  ⟨h.turned (S := fun k => k = g) (Turned.setRow _ _ _ rfl) (fun k e => by omega) (by omega) (by omega), ht.trans (Turned.setRow (S := fun k => k = g) _ _ _ rfl) (fun i hi e => by omega)⟩
theorem room1_c (a : Array Value) (h : a.size = 5) (w : World) : Calls Tryz.prog 103 #[.agg a] w fun e w' => e = .returned (.tuple #[]) ∧ Below w.heap.size w w' := by
  have HB : Hid (∀ o, Below w.heap.size w (w.alloc o)) := fun o => below1 w o
  obtain ⟨l⟩ := a
  rcases l with _ | ⟨a0, _ | ⟨a1, _ | ⟨a2, _ | ⟨a3, _ | ⟨a4, _ | ⟨z, r⟩⟩⟩⟩⟩⟩ <;> simp at h
  go_enter Tryz.func103, Tryz.ntmps103
  go_wp2
  go_end0
  exact ⟨rfl, HB.out _⟩
end
set_option maxHeartbeats 8000000 in
theorem room_arr {w0 : World} {b rb m : Nat} {rs : List (Rw × Value)} {M : Int → Ex} {w : World} (hRU : RU w0 b rb m rs M w) (hw0 : w0.heap.size ≤ m) (hrm : rb ≠ m) (r : Rw) {sp : Option Addr} {sc : Nat} (hMC : MC w0 b rb m rs M r.elem) (hE : ExOK (M r.elem)) (hl0 : 0 ≤ r.len) (hl1 : r.len ≤ 16384) :
    Calls Tryz.prog 87 #[.pointer (some ⟨rb, 0, none⟩), .agg #[.int .i64 14, .int .i64 r.elem, .int .i64 r.len, .string r.tag, .slice sp r.mem.length sc, .bool r.done]] w fun e w' => e = .returned (exV (⟨r.len * (M r.elem).size, (M r.elem).align⟩)) ∧ RU w0 b rb m rs M w' ∧ Turned w w' (fun k => k = m) := by
  have hB : Below w.heap.size w ((w.alloc (.cells #[.int .i64 14, .int .i64 r.elem, .int .i64 r.len, .string r.tag, .slice sp r.mem.length sc, .bool r.done] TR)).alloc (.cells #[.int .i64 0, .int .i64 0] TX)) := two_boxes w _ _ _ _
  have E0 := heap_s1 w (.cells #[.int .i64 14, .int .i64 r.elem, .int .i64 r.len, .string r.tag, .slice sp r.mem.length sc, .bool r.done] TR) (.cells #[.int .i64 0, .int .i64 0] TX)
  have E1 : Hid (_ = _) := heap_s2 w (.cells #[.int .i64 14, .int .i64 r.elem, .int .i64 r.len, .string r.tag, .slice sp r.mem.length sc, .bool r.done] TR) (.cells #[.int .i64 0, .int .i64 0] TX)
  have hm := hRU.lt
  have hr := lt_of_heap hRU.ru
  have h0 := hRU.below.size
  have HU1 : Hid (RU w0 b rb m rs M ((w.alloc (.cells #[.int .i64 14, .int .i64 r.elem, .int .i64 r.len, .string r.tag, .slice sp r.mem.length sc, .bool r.done] TR)).alloc (.cells #[.int .i64 0, .int .i64 0] TX))) := hRU.kept hB
  have HT1 : Hid (Turned w ((w.alloc (.cells #[.int .i64 14, .int .i64 r.elem, .int .i64 r.len, .string r.tag, .slice sp r.mem.length sc, .bool r.done] TR)).alloc (.cells #[.int .i64 0, .int .i64 0] TX)) (fun k => k = m)) := Turned.of_below hB _
  have hbx : ∀ (x y : Int) (Y : World), (Instr.build TX #[(0, .int .i64 x), (1, .int .i64 y)]).run Tryz.prog Y = .ok (.agg #[.int .i64 x, .int .i64 y]) Y := fun x y Y => by kernel_rfl
  have k0 : ((w.alloc (.cells #[.int .i64 14, .int .i64 r.elem, .int .i64 r.len, .string r.tag, .slice sp r.mem.length sc, .bool r.done] TR)).alloc (.cells #[.int .i64 0, .int .i64 0] TX)).cell? ⟨w.heap.size, 0, none⟩ = some (.int .i64 14) := by rw [Lib.cell_of_heap E0]; rfl
  have k1 : ((w.alloc (.cells #[.int .i64 14, .int .i64 r.elem, .int .i64 r.len, .string r.tag, .slice sp r.mem.length sc, .bool r.done] TR)).alloc (.cells #[.int .i64 0, .int .i64 0] TX)).cell? ⟨w.heap.size, 1, none⟩ = some (.int .i64 r.elem) := by rw [Lib.cell_of_heap E0]; rfl
  have k2 : ((w.alloc (.cells #[.int .i64 14, .int .i64 r.elem, .int .i64 r.len, .string r.tag, .slice sp r.mem.length sc, .bool r.done] TR)).alloc (.cells #[.int .i64 0, .int .i64 0] TX)).cell? ⟨w.heap.size, 2, none⟩ = some (.int .i64 r.len) := by rw [Lib.cell_of_heap E0]; rfl
  have k3 : ((w.alloc (.cells #[.int .i64 14, .int .i64 r.elem, .int .i64 r.len, .string r.tag, .slice sp r.mem.length sc, .bool r.done] TR)).alloc (.cells #[.int .i64 0, .int .i64 0] TX)).cell? ⟨w.heap.size, 3, none⟩ = some (.string r.tag) := by rw [Lib.cell_of_heap E0]; rfl
  have k4 : ((w.alloc (.cells #[.int .i64 14, .int .i64 r.elem, .int .i64 r.len, .string r.tag, .slice sp r.mem.length sc, .bool r.done] TR)).alloc (.cells #[.int .i64 0, .int .i64 0] TX)).cell? ⟨w.heap.size, 4, none⟩ = some (.slice sp r.mem.length sc) := by rw [Lib.cell_of_heap E0]; rfl
  have k5 : ((w.alloc (.cells #[.int .i64 14, .int .i64 r.elem, .int .i64 r.len, .string r.tag, .slice sp r.mem.length sc, .bool r.done] TR)).alloc (.cells #[.int .i64 0, .int .i64 0] TX)).cell? ⟨w.heap.size, 5, none⟩ = some (.bool r.done) := by rw [Lib.cell_of_heap E0]; rfl
  have HE0 : Hid (_ = _) := E0
  have HMC : Hid (MC w0 b rb m rs M r.elem) := hMC
  have e1 := hE.lo
  have e2 := hE.hi
  have hml : 0 ≤ r.len * (M r.elem).size ∧ r.len * (M r.elem).size ≤ 268451840 := by
    have q1 := Int.mul_nonneg hl0 (show 0 ≤ (M r.elem).size by omega)
    have q2 := Int.mul_le_mul hl1 e2 (by omega) (by omega)
    omega
  clear hMC
  clear hRU hB E0
  go_enter Tryz.func87, Tryz.ntmps87
  go_upto_region 1 with (fail)
  refine (?_ : Code.wp _ _ _ _ ((w.alloc (.cells #[.int .i64 14, .int .i64 r.elem, .int .i64 r.len, .string r.tag, .slice sp r.mem.length sc, .bool r.done] TR)).alloc (.cells #[.int .i64 0, .int .i64 0] TX)))
  generalize ((w.alloc (.cells #[.int .i64 14, .int .i64 r.elem, .int .i64 r.len, .string r.tag, .slice sp r.mem.length sc, .bool r.done] TR)).alloc (.cells #[.int .i64 0, .int .i64 0] TX)) = W1 at *
  go_wp2_with fail
  refine (HMC.out _ HU1.out).mono ?_
  rintro e W3 ⟨rfl, U3, t3⟩
  have B3 := blk_t HE0.out t3 (by omega)
  have X3 := blk_t E1.out t3 (by omega)
  have T3 := HT1.out.trans t3 (fun _ _ e => e)
  have hold3 := heap_r0 W3 (.cells #[.int .i64 0, .int .i64 0] TX)
  have hb4 := below1 W3 (.cells #[.int .i64 (M r.elem).size, .int .i64 (M r.elem).align] TX)
  have N4 := heap_r0 W3 (.cells #[.int .i64 (M r.elem).size, .int .i64 (M r.elem).align] TX)
  have B4 := blk_b B3 hb4
  have X4 : Hid (_ = _) := blk_b X3 hb4
  have U4 : Hid (_) := U3.kept hb4
  have T4 : Hid (Turned w (W3.alloc (.cells #[.int .i64 (M r.elem).size, .int .i64 (M r.elem).align] TX)) (fun k => k = m)) := T3.trans (Turned.of_below hb4 (fun _ => False)) (fun _ _ h => h.elim)
  have l2 : (W3.alloc (.cells #[.int .i64 (M r.elem).size, .int .i64 (M r.elem).align] TX)).cell? ⟨w.heap.size, 2, none⟩ = some (.int .i64 r.len) := by rw [Lib.cell_of_heap B4]; rfl
  obtain ⟨x0, x1⟩ := cells2 N4
  clear U3 t3 B3 X3 T3 hb4 N4 B4 HU1 HT1 k0 k1 k2 k3 k4 k5 HE0 E1 HMC
  go_wp2_with (first | ((with_reducible apply step_store hold3); rfl; rfl; kernel_rfl; rfl; kernel_rfl; rw [World.setRow_alloc_new]) | (with_reducible apply step_store X4.out); rfl; rfl; kernel_rfl; rfl; kernel_rfl)
  refine (?_ : bodyPost _ _ _ _ _ _)
  refine ret_c1 (p := 4) rfl rfl (load_X (cs := #[.int .i64 (r.len * (M r.elem).size), .int .i64 (M r.elem).align]) (setRow_heap _ _ _ _ _ _ X4.out) rfl) ?_
  exact ⟨rfl, (U4.out.fin h0 hr hm T4.out (by omega) _).1, (U4.out.fin h0 hr hm T4.out (by omega) _).2⟩
set_option maxHeartbeats 8000000 in
theorem room_rec {w0 : World} {b rb m : Nat} {rs : List (Rw × Value)} {M : Int → Ex} {w : World} (hRU : RU w0 b rb m rs M w) (hw0 : w0.heap.size ≤ m) (hrm : rb ≠ m) (r : Rw) {sp : Option Addr} {sc : Nat} (hk : recK r.kind = true) (h14 : (r.kind == 14) = false) (hsl : MemSl w (.slice sp r.mem.length sc) r.mem) (hn : r.mem.length ≤ 64) (hmem : ∀ x ∈ r.mem, MC w0 b rb m rs M x.type ∧ ExOK (M x.type) ∧ BitsOK x (M x.type)) :
    Calls Tryz.prog 87 #[.pointer (some ⟨rb, 0, none⟩), .agg #[.int .i64 r.kind, .int .i64 r.elem, .int .i64 r.len, .string r.tag, .slice sp r.mem.length sc, .bool r.done]] w fun e w' => e = .returned (exV (endP (layS (r.kind == 16) M ls0 r.mem))) ∧ RU w0 b rb m rs M w' ∧ Turned w w' (fun k => k = m) := by
  have hB : Below w.heap.size w ((w.alloc (.cells #[.int .i64 r.kind, .int .i64 r.elem, .int .i64 r.len, .string r.tag, .slice sp r.mem.length sc, .bool r.done] TR)).alloc (.cells #[.int .i64 0, .int .i64 0] TX)) := two_boxes w _ _ _ _
  have E0 := heap_s1 w (.cells #[.int .i64 r.kind, .int .i64 r.elem, .int .i64 r.len, .string r.tag, .slice sp r.mem.length sc, .bool r.done] TR) (.cells #[.int .i64 0, .int .i64 0] TX)
  have E1 : Hid (_ = _) := heap_s2 w (.cells #[.int .i64 r.kind, .int .i64 r.elem, .int .i64 r.len, .string r.tag, .slice sp r.mem.length sc, .bool r.done] TR) (.cells #[.int .i64 0, .int .i64 0] TX)
  have hm := hRU.lt
  have hr := lt_of_heap hRU.ru
  have h0 := hRU.below.size
  have HU1 : Hid (RU w0 b rb m rs M ((w.alloc (.cells #[.int .i64 r.kind, .int .i64 r.elem, .int .i64 r.len, .string r.tag, .slice sp r.mem.length sc, .bool r.done] TR)).alloc (.cells #[.int .i64 0, .int .i64 0] TX))) := hRU.kept hB
  have HT1 : Hid (Turned w ((w.alloc (.cells #[.int .i64 r.kind, .int .i64 r.elem, .int .i64 r.len, .string r.tag, .slice sp r.mem.length sc, .bool r.done] TR)).alloc (.cells #[.int .i64 0, .int .i64 0] TX)) (fun k => k = m)) := Turned.of_below hB _
  have hbx : ∀ (x y : Int) (Y : World), (Instr.build TX #[(0, .int .i64 x), (1, .int .i64 y)]).run Tryz.prog Y = .ok (.agg #[.int .i64 x, .int .i64 y]) Y := fun x y Y => by kernel_rfl
  have k0 : ((w.alloc (.cells #[.int .i64 r.kind, .int .i64 r.elem, .int .i64 r.len, .string r.tag, .slice sp r.mem.length sc, .bool r.done] TR)).alloc (.cells #[.int .i64 0, .int .i64 0] TX)).cell? ⟨w.heap.size, 0, none⟩ = some (.int .i64 r.kind) := by rw [Lib.cell_of_heap E0]; rfl
  have k1 : ((w.alloc (.cells #[.int .i64 r.kind, .int .i64 r.elem, .int .i64 r.len, .string r.tag, .slice sp r.mem.length sc, .bool r.done] TR)).alloc (.cells #[.int .i64 0, .int .i64 0] TX)).cell? ⟨w.heap.size, 1, none⟩ = some (.int .i64 r.elem) := by rw [Lib.cell_of_heap E0]; rfl
  have k2 : ((w.alloc (.cells #[.int .i64 r.kind, .int .i64 r.elem, .int .i64 r.len, .string r.tag, .slice sp r.mem.length sc, .bool r.done] TR)).alloc (.cells #[.int .i64 0, .int .i64 0] TX)).cell? ⟨w.heap.size, 2, none⟩ = some (.int .i64 r.len) := by rw [Lib.cell_of_heap E0]; rfl
  have k3 : ((w.alloc (.cells #[.int .i64 r.kind, .int .i64 r.elem, .int .i64 r.len, .string r.tag, .slice sp r.mem.length sc, .bool r.done] TR)).alloc (.cells #[.int .i64 0, .int .i64 0] TX)).cell? ⟨w.heap.size, 3, none⟩ = some (.string r.tag) := by rw [Lib.cell_of_heap E0]; rfl
  have k4 : ((w.alloc (.cells #[.int .i64 r.kind, .int .i64 r.elem, .int .i64 r.len, .string r.tag, .slice sp r.mem.length sc, .bool r.done] TR)).alloc (.cells #[.int .i64 0, .int .i64 0] TX)).cell? ⟨w.heap.size, 4, none⟩ = some (.slice sp r.mem.length sc) := by rw [Lib.cell_of_heap E0]; rfl
  have k5 : ((w.alloc (.cells #[.int .i64 r.kind, .int .i64 r.elem, .int .i64 r.len, .string r.tag, .slice sp r.mem.length sc, .bool r.done] TR)).alloc (.cells #[.int .i64 0, .int .i64 0] TX)).cell? ⟨w.heap.size, 5, none⟩ = some (.bool r.done) := by rw [Lib.cell_of_heap E0]; rfl
  have HE0 : Hid (_ = _) := E0
  have cI := isRec_c r sp r.mem.length sc
  rw [hk] at cI
  have HSL : Hid (MemSl w (.slice sp r.mem.length sc) r.mem) := hsl
  have HMEM : Hid (∀ x ∈ r.mem, MC w0 b rb m rs M x.type ∧ ExOK (M x.type) ∧ BitsOK x (M x.type)) := hmem
  have HNM : Hid (∀ g o, sp = some ⟨g, o, none⟩ → ∀ x, r.mem[0]? = some x → g ≠ m) := by
    intro g o e x hx
    rcases hsl with ⟨_, e2⟩ | ⟨g', o', cap, e2, _, hg, hc⟩
    · rw [e2] at hx; simp at hx
    · cases e2; cases e
      exact mem_ne hRU (hc 0 x hx 0 (by omega))
  have HB : Hid (Below w.heap.size w _) := hB
  clear hsl hmem hk
  clear hRU hB E0
  go_enter Tryz.func87, Tryz.ntmps87
  go_upto_region 1 with (fail)
  refine (?_ : Code.wp _ _ _ _ ((w.alloc (.cells #[.int .i64 r.kind, .int .i64 r.elem, .int .i64 r.len, .string r.tag, .slice sp r.mem.length sc, .bool r.done] TR)).alloc (.cells #[.int .i64 0, .int .i64 0] TX)))
  generalize ((w.alloc (.cells #[.int .i64 r.kind, .int .i64 r.elem, .int .i64 r.len, .string r.tag, .slice sp r.mem.length sc, .bool r.done] TR)).alloc (.cells #[.int .i64 0, .int .i64 0] TX)) = W1 at *
  go_wp2_with fail
  refine (cI _).mono ?_
  rintro e W3 ⟨rfl, hb3⟩
  have X3 : Hid (_ = _) := blk_b E1.out hb3
  have U3 : Hid (_) := HU1.out.kept hb3
  have T3 : Hid (Turned w W3 (fun k => k = m)) := HT1.out.trans (Turned.of_below hb3 (fun _ => False)) (fun _ _ h => h.elim)
  have HB3 : Hid (Below w.heap.size w W3) := HB.out.trans (hb3.mono HB.out.size)
  have B3 := blk_b HE0.out hb3
  have l0 : W3.cell? ⟨w.heap.size, 0, none⟩ = some (.int .i64 r.kind) := by rw [Lib.cell_of_heap B3]; rfl
  have l1 : W3.cell? ⟨w.heap.size, 1, none⟩ = some (.int .i64 r.elem) := by rw [Lib.cell_of_heap B3]; rfl
  have l2 : W3.cell? ⟨w.heap.size, 2, none⟩ = some (.int .i64 r.len) := by rw [Lib.cell_of_heap B3]; rfl
  have l3 : W3.cell? ⟨w.heap.size, 3, none⟩ = some (.string r.tag) := by rw [Lib.cell_of_heap B3]; rfl
  have l4 : W3.cell? ⟨w.heap.size, 4, none⟩ = some (.slice sp r.mem.length sc) := by rw [Lib.cell_of_heap B3]; rfl
  have l5 : W3.cell? ⟨w.heap.size, 5, none⟩ = some (.bool r.done) := by rw [Lib.cell_of_heap B3]; rfl
  have hms : m < W3.heap.size := U3.out.lt
  clear HU1 HT1 k0 k1 k2 k3 k4 k5 HE0 E1 hb3 B3 cI HB
  go_wp2_with fail
  refine (lay_room U3.out hw0 hrm r (HSL.out.below HB3.out) hn HMEM.out (fun k => k = m) rfl (fun k e => by omega) (fun g o e hg => hg) (fun _ _ => True) trivial (fun _ _ _ _ _ => trivial) (fun _ _ _ _ _ _ => trivial) (fun j x w1 hx hb hu _ ht => ?_)).mono ?_
  · refine (room1_c _ rfl w1).mono ?_
    rintro e w2 ⟨rfl, hb2⟩
    exact ⟨rfl, hu.kept hb2, trivial, Turned.of_below hb2 _⟩
  rintro e W4 ⟨rfl, U4', _, t4⟩
  have X4 : Hid (_ = _) := blk_t X3.out t4 (by omega)
  have U4 : Hid (RU w0 b rb m rs M W4) := U4'
  have T4 : Hid (Turned w W4 (fun k => k = m)) := T3.out.trans t4 (fun _ _ e => e)
  clear U4' t4 X3 U3 T3 l0 l1 l2 l3 l4 l5 HB3
  go_wp2_with ((with_reducible apply step_store X4.out); rfl; rfl; kernel_rfl; rfl; kernel_rfl)
  refine (?_ : bodyPost _ _ _ _ _ _)
  refine ret_c1 (p := 4) rfl rfl (load_X (cs := #[.int .i64 (endP (layS (r.kind == 16) M ls0 r.mem)).size, .int .i64 (endP (layS (r.kind == 16) M ls0 r.mem)).align]) (setRow_heap _ _ _ _ _ _ X4.out) rfl) ?_
  exact ⟨rfl, (U4.out.fin h0 hr hm T4.out (by omega) _).1, (U4.out.fin h0 hr hm T4.out (by omega) _).2⟩
set_option maxHeartbeats 8000000 in
theorem room_int {w0 : World} {b rb m : Nat} {rs : List (Rw × Value)} {M : Int → Ex} {w : World} (hRU : RU w0 b rb m rs M w) (hw0 : w0.heap.size ≤ m) (hrm : rb ≠ m) (r : Rw) {sp : Option Addr} {sc : Nat} (hk : recK r.kind = false) (h14 : (r.kind == 14) = false) :
    Calls Tryz.prog 87 #[.pointer (some ⟨rb, 0, none⟩), .agg #[.int .i64 r.kind, .int .i64 r.elem, .int .i64 r.len, .string r.tag, .slice sp r.mem.length sc, .bool r.done]] w fun e w' => e = .returned (exV (⟨widthP r.kind, widthP r.kind⟩)) ∧ RU w0 b rb m rs M w' ∧ Turned w w' (fun k => k = m) := by
  have hB : Below w.heap.size w ((w.alloc (.cells #[.int .i64 r.kind, .int .i64 r.elem, .int .i64 r.len, .string r.tag, .slice sp r.mem.length sc, .bool r.done] TR)).alloc (.cells #[.int .i64 0, .int .i64 0] TX)) := two_boxes w _ _ _ _
  have E0 := heap_s1 w (.cells #[.int .i64 r.kind, .int .i64 r.elem, .int .i64 r.len, .string r.tag, .slice sp r.mem.length sc, .bool r.done] TR) (.cells #[.int .i64 0, .int .i64 0] TX)
  have E1 : Hid (_ = _) := heap_s2 w (.cells #[.int .i64 r.kind, .int .i64 r.elem, .int .i64 r.len, .string r.tag, .slice sp r.mem.length sc, .bool r.done] TR) (.cells #[.int .i64 0, .int .i64 0] TX)
  have hm := hRU.lt
  have hr := lt_of_heap hRU.ru
  have h0 := hRU.below.size
  have HU1 : Hid (RU w0 b rb m rs M ((w.alloc (.cells #[.int .i64 r.kind, .int .i64 r.elem, .int .i64 r.len, .string r.tag, .slice sp r.mem.length sc, .bool r.done] TR)).alloc (.cells #[.int .i64 0, .int .i64 0] TX))) := hRU.kept hB
  have HT1 : Hid (Turned w ((w.alloc (.cells #[.int .i64 r.kind, .int .i64 r.elem, .int .i64 r.len, .string r.tag, .slice sp r.mem.length sc, .bool r.done] TR)).alloc (.cells #[.int .i64 0, .int .i64 0] TX)) (fun k => k = m)) := Turned.of_below hB _
  have hbx : ∀ (x y : Int) (Y : World), (Instr.build TX #[(0, .int .i64 x), (1, .int .i64 y)]).run Tryz.prog Y = .ok (.agg #[.int .i64 x, .int .i64 y]) Y := fun x y Y => by kernel_rfl
  have k0 : ((w.alloc (.cells #[.int .i64 r.kind, .int .i64 r.elem, .int .i64 r.len, .string r.tag, .slice sp r.mem.length sc, .bool r.done] TR)).alloc (.cells #[.int .i64 0, .int .i64 0] TX)).cell? ⟨w.heap.size, 0, none⟩ = some (.int .i64 r.kind) := by rw [Lib.cell_of_heap E0]; rfl
  have k1 : ((w.alloc (.cells #[.int .i64 r.kind, .int .i64 r.elem, .int .i64 r.len, .string r.tag, .slice sp r.mem.length sc, .bool r.done] TR)).alloc (.cells #[.int .i64 0, .int .i64 0] TX)).cell? ⟨w.heap.size, 1, none⟩ = some (.int .i64 r.elem) := by rw [Lib.cell_of_heap E0]; rfl
  have k2 : ((w.alloc (.cells #[.int .i64 r.kind, .int .i64 r.elem, .int .i64 r.len, .string r.tag, .slice sp r.mem.length sc, .bool r.done] TR)).alloc (.cells #[.int .i64 0, .int .i64 0] TX)).cell? ⟨w.heap.size, 2, none⟩ = some (.int .i64 r.len) := by rw [Lib.cell_of_heap E0]; rfl
  have k3 : ((w.alloc (.cells #[.int .i64 r.kind, .int .i64 r.elem, .int .i64 r.len, .string r.tag, .slice sp r.mem.length sc, .bool r.done] TR)).alloc (.cells #[.int .i64 0, .int .i64 0] TX)).cell? ⟨w.heap.size, 3, none⟩ = some (.string r.tag) := by rw [Lib.cell_of_heap E0]; rfl
  have k4 : ((w.alloc (.cells #[.int .i64 r.kind, .int .i64 r.elem, .int .i64 r.len, .string r.tag, .slice sp r.mem.length sc, .bool r.done] TR)).alloc (.cells #[.int .i64 0, .int .i64 0] TX)).cell? ⟨w.heap.size, 4, none⟩ = some (.slice sp r.mem.length sc) := by rw [Lib.cell_of_heap E0]; rfl
  have k5 : ((w.alloc (.cells #[.int .i64 r.kind, .int .i64 r.elem, .int .i64 r.len, .string r.tag, .slice sp r.mem.length sc, .bool r.done] TR)).alloc (.cells #[.int .i64 0, .int .i64 0] TX)).cell? ⟨w.heap.size, 5, none⟩ = some (.bool r.done) := by rw [Lib.cell_of_heap E0]; rfl
  have HE0 : Hid (_ = _) := E0
  have cI := isRec_c r sp r.mem.length sc
  rw [hk] at cI
  have cW := width_c r.kind
  generalize widthP r.kind = wd at *
  clear hk
  clear hRU hB E0
  go_enter Tryz.func87, Tryz.ntmps87
  go_upto_region 1 with (fail)
  refine (?_ : Code.wp _ _ _ _ ((w.alloc (.cells #[.int .i64 r.kind, .int .i64 r.elem, .int .i64 r.len, .string r.tag, .slice sp r.mem.length sc, .bool r.done] TR)).alloc (.cells #[.int .i64 0, .int .i64 0] TX)))
  generalize ((w.alloc (.cells #[.int .i64 r.kind, .int .i64 r.elem, .int .i64 r.len, .string r.tag, .slice sp r.mem.length sc, .bool r.done] TR)).alloc (.cells #[.int .i64 0, .int .i64 0] TX)) = W1 at *
  go_wp2_with fail
  refine (cI _).mono ?_
  rintro e W3 ⟨rfl, hb3⟩
  have X3 : Hid (_ = _) := blk_b E1.out hb3
  have U3 : Hid (_) := HU1.out.kept hb3
  have T3 : Hid (Turned w W3 (fun k => k = m)) := HT1.out.trans (Turned.of_below hb3 (fun _ => False)) (fun _ _ h => h.elim)
  have B3 := blk_b HE0.out hb3
  have l0 : W3.cell? ⟨w.heap.size, 0, none⟩ = some (.int .i64 r.kind) := by rw [Lib.cell_of_heap B3]; rfl
  clear HU1 HT1 k0 k1 k2 k3 k4 k5 HE0 E1 hb3 B3 cI
  go_wp2_with fail
  refine (cW _).mono ?_
  rintro e W4 ⟨rfl, hw⟩
  rw [hw]; clear hw W4
  go_wp2_with ((with_reducible apply step_store X3.out); rfl; rfl; kernel_rfl; rfl; kernel_rfl)
  refine (?_ : bodyPost _ _ _ _ _ _)
  refine ret_c1 (p := 4) rfl rfl (load_X (cs := #[.int .i64 wd, .int .i64 wd]) (setRow_heap _ _ _ _ _ _ X3.out) rfl) ?_
  exact ⟨rfl, (U3.out.fin h0 hr hm T3.out (by omega) _).1, (U3.out.fin h0 hr hm T3.out (by omega) _).2⟩
end Go.Proofs.YtlcghlfmaohfeaaGreat
