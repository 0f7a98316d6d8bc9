/-
  The closure of find.
  Places.
-/
import Derived.Test.YtlcghlfmaohfeaaGreatHLyE
import Derived.Test.YtlcghlfmaohfeaaGreatHLyI
import Derived.Test.YtlcghlfmaohfeaaGreatHLyJ
namespace Go.Proofs.YtlcghlfmaohfeaaGreat
open Go.RowKit Go.Maps
set_option linter.unusedVariables false
set_option maxRecDepth 100000
section
variable {B : Nat} {w : World} {b mb : Nat} {v : Value} {rs : List (Rw × Value)} {ps : List (Value × Value)} {M : Int → Ex}
theorem placesS_len {un : Bool} {M : Int → Ex} : ∀ (l : List Mb) (s : Ls) (i : Nat), (placesS un M s i l).length ≤ l.length
  | [], _, _ => Nat.le_refl _
  | m :: l, s, i => by
    have := placesS_len (un := un) (M := M) l (stepP un M s m) (i + 1)
    simp only [placesS, List.length_append, List.length_cons]
    split <;> simp <;> omega
/-- lay, with the closure of Places, into a box with an empty list. -/
theorem lay_list {w0 : World} {rb m lb : Nat} {wE : World} (hRU : RU w0 b rb m rs M wE) (hw0 : w0.heap.size ≤ m) (hrm : rb ≠ m) (r : Rw) {sp : Option Addr} {sc : Nat} (hsl : MemSl wE (.slice sp r.mem.length sc) r.mem) (hn : r.mem.length ≤ 64) (hn0 : 1 ≤ r.mem.length)
    (hmem : ∀ x ∈ r.mem, MC w0 b rb m rs M x.type ∧ ExOK (M x.type) ∧ BitsOK x (M x.type)) (hlw : w0.heap.size ≤ lb) (hlb : wE.heap[lb]? = some (.cells #[.slice none 0 0] TPs (0, 0))) :
    Calls Tryz.prog 31 #[.pointer (some ⟨rb, 0, none⟩), .agg #[.int .i64 r.kind, .int .i64 r.elem, .int .i64 r.len, .string r.tag, .slice sp r.mem.length sc, .bool r.done], .func (.func 32) #[] #[.pointer (some ⟨lb, 0, none⟩)]] wE
      fun e w' => e = .returned (exV (endP (layS (r.kind == 16) M ls0 r.mem))) ∧ RU w0 b rb m rs M w' ∧ PlI wE.heap.size lb (placesS (r.kind == 16) M ls0 0 r.mem) w' ∧ Turned wE w' (fun k => k = m ∨ k = lb) := by
  have hl := lt_of_heap hlb
  have hm := hRU.lt
  have hlm : lb ≠ m := by
    obtain ⟨es, ck, h1, _⟩ := hRU.kn
    rintro rfl
    rw [hlb] at h1; cases h1
  have hlr : lb ≠ rb := by
    have q := hRU.ru
    rintro rfl
    rw [hlb] at q
    injection q with q1
    injection q1 with _ q2
    exact absurd q2 (by decide)
  refine (lay_places hRU hw0 hrm r hsl hn hmem (lb := lb) (fun k => k = m ∨ k = lb) (.inl rfl) (fun k hk => by omega) ?_ (fun j W => PlI wE.heap.size lb (placesS (r.kind == 16) M ls0 0 (r.mem.take j)) W) ?_ ?_ ?_ ?_).mono ?_
  · rintro g o rfl (hg | hg)
    · exact hg
    · exfalso
      rcases hsl with ⟨_, e⟩ | ⟨g', o', cap, e, _, hgl, hc⟩
      · rw [e] at hn0; simp at hn0
      · cases e
        obtain ⟨x, hx⟩ : ∃ x, r.mem[0]? = some x := ⟨_, List.getElem?_eq_getElem (by omega)⟩
        have q := hc 0 x hx 0 (by omega)
        rw [hg, Lib.cell_of_heap hlb] at q
        rcases o with _ | o
        · simp [mbCells] at q
        · simp [mbCells] at q
  · exact ⟨_, hlb, World.ownsRow_nil _ _ _ _⟩
  · rintro j w1 w2 ⟨s, h1, h2⟩ ht
    refine ⟨s, blk_t h1 ht ?_, ownsRow_turned h2 ht (fun k hk => ?_)⟩
    · rintro (e | ⟨cs, e⟩)
      · exact hlm e
      · rw [h1] at e
        injection e with q1
        injection q1 with _ q2
        exact absurd q2 (by decide)
    · obtain ⟨q1, cur, q2⟩ := ownsRow_at h2 hk
      rintro (e | ⟨cs, e⟩)
      · omega
      · rw [q2] at e
        injection e with q3
        injection q3 with _ q4
        exact absurd q4 (by decide)
  · rintro j x w1 hx hb hI
    show PlI _ _ _ _
    rw [take_snoc hx, placesS_snoc, if_pos hb, List.append_nil]
    exact hI
  · intro j x w1 hx hb hU hI ht
    have hlt : j < r.mem.length := (List.getElem?_eq_some_iff.1 hx).1
    have hlen := placesS_len (un := r.kind == 16) (M := M) (r.mem.take j) ls0 0
    rw [List.length_take] at hlen
    refine (places1_c _ hI (by omega) ht.size hl).mono ?_
    rintro e w2 ⟨rfl, hI2, ht2⟩
    refine ⟨rfl, hU.turned ht2 ?_ ?_ ?_, ?_, ht2.mono ?_⟩
    · rintro k (e | ⟨e, _⟩)
      · omega
      · have := hRU.below.size; omega
    · rintro (e | ⟨e, _⟩)
      · exact hlr e.symm
      · have := lt_of_heap hRU.ru; omega
    · rintro (e | ⟨e, _⟩)
      · exact hlm e.symm
      · omega
    · show PlI _ _ _ _
      rw [take_snoc hx, placesS_snoc, if_neg hb]
      rw [List.length_take, Nat.min_eq_left (by omega), Nat.zero_add]
      exact hI2
    · rintro k (e | e)
      · exact .inl (.inr e)
      · exact .inr e
  · rintro e w2 ⟨rfl, hU, hI, ht⟩
    have hI' : PlI wE.heap.size lb (placesS (r.kind == 16) M ls0 0 (r.mem.take r.mem.length)) w2 := hI
    rw [List.take_of_length_le (Nat.le_refl _)] at hI'
    exact ⟨rfl, hU, hI', ht⟩
set_option maxHeartbeats 8000000 in
theorem places_err (id : Int) (er : Int) (hne : (er != 0) = true)
    (c : Calls Tryz.prog 30 #[.pointer (some ⟨b, 0, none⟩), .int .i64 id] w fun e w' => e = .returned (.tuple #[.pointer none, .agg #[.int .i64 0, .int .i64 0, .int .i64 0, .string ⟨#[]⟩, .slice none 0 0, .bool false], .int .i64 er]) ∧ Below w.heap.size w w') :
    Calls Tryz.prog 11 #[.pointer (some ⟨b, 0, none⟩), .int .i64 id] w fun e w' => e = .returned (.tuple #[.slice none 0 0, .int .i64 er]) ∧ Below w.heap.size w w' := by
  go_enter Tryz.func11, Tryz.ntmps11
  go_wp2_with fail
  refine c.mono ?_
  rintro e w2 ⟨rfl, hb2⟩
  have hold := heap_r0 w2 (.cells #[.int .i64 0, .int .i64 0, .int .i64 0, .string ⟨#[]⟩, .slice none 0 0, .bool false] TR)
  have HB : Hid (Below w.heap.size w (w2.alloc (.cells #[.int .i64 0, .int .i64 0, .int .i64 0, .string ⟨#[]⟩, .slice none 0 0, .bool false] TR))) := hb2.trans ((below1 w2 _).mono hb2.size)
  clear c hb2
  go_wp2_with ((with_reducible apply step_store hold); rfl; rfl; kernel_rfl; rfl; kernel_rfl; rw [World.setRow_alloc_new])
  go_ret2
  exact ⟨rfl, HB.out⟩
theorem ok_mem1 (hf : FromOK rs) {i : Nat} {p : Rw × Value} (hp : rs[i]? = some p) (hk : recK p.1.kind = true) (hd : p.1.done = true) : 1 ≤ p.1.mem.length := by
  have hlt : i < rs.length := (List.getElem?_eq_some_iff.1 hp).1
  obtain ⟨hm, hc⟩ := enter_cut (hf.1 i p hlt hp)
  have hk2 : p.1.kind = 15 ∨ p.1.kind = 16 := by simpa [recK] using hk
  have hr : refusP rs p.1.mem = 0 := by
    rcases hc with ⟨a, b⟩ | ⟨_, ⟨a, _⟩ | ⟨_, _, a | a⟩ | ⟨a, _⟩ | ⟨a, _⟩⟩
    · omega
    · omega
    · rw [hd] at a; cases a
    · exact a
    · omega
    · omega
  exact (refus_len hr).1
set_option maxHeartbeats 8000000 in
theorem places_ok (h : Tab B w b mb v rs ps) (hs : Small rs) (hf : FromOK rs) (hM : IsMeas (rowsOf rs) M) {i : Nat} {p : Rw × Value} (hp : rs[i]? = some p) (hwh : wholeR p.1 = true) (hgt : (M i).size ≤ 16384) (hk : recK p.1.kind = true) :
    Calls Tryz.prog 11 #[.pointer (some ⟨b, 0, none⟩), .int .i64 i] w fun e w' => ∃ s, e = .returned (.tuple #[s, .int .i64 0]) ∧ w'.ownsRow w.heap.size TPl 5 s (placesS (p.1.kind == 16) M ls0 0 p.1.mem).length (plCells (placesS (p.1.kind == 16) M ls0 0 p.1.mem)) ∧ Below w.heap.size w w' := by
  have hlt : i < rs.length := (List.getElem?_eq_some_iff.1 hp).1
  have c := openR_ok h hs hf hM hp hwh hgt hk
  have h14 : ¬ p.1.kind = 14 := by intro e; rw [e] at hk; exact absurd hk (by decide)
  have hd : p.1.done = true := by
    unfold wholeR at hwh
    rw [if_neg h14, if_pos hk] at hwh
    exact hwh
  have hmem := ok_members hf hp hk hd
  have hl64 := (enter_parts (hf.1 i p hlt hp) hlt).2
  have hl1 := ok_mem1 hf hp hk hd
  have HL : Hid (∀ (rb m lb : Nat) (sp : Option Addr) (sc : Nat) (W : World), RU w b rb m rs M W → w.heap.size ≤ m → rb ≠ m → MemSl W (.slice sp p.1.mem.length sc) p.1.mem → w.heap.size ≤ lb → W.heap[lb]? = some (.cells #[.slice none 0 0] TPs (0, 0)) →
      Calls Tryz.prog 31 #[.pointer (some ⟨rb, 0, none⟩), .agg #[.int .i64 p.1.kind, .int .i64 p.1.elem, .int .i64 p.1.len, .string p.1.tag, .slice sp p.1.mem.length sc, .bool p.1.done], .func (.func 32) #[] #[.pointer (some ⟨lb, 0, none⟩)]] W
      fun e w' => e = .returned (exV (endP (layS (p.1.kind == 16) M ls0 p.1.mem))) ∧ RU w b rb m rs M w' ∧ PlI W.heap.size lb (placesS (p.1.kind == 16) M ls0 0 p.1.mem) w' ∧ Turned W w' (fun k => k = m ∨ k = lb)) := fun rb m lb sp sc W hU h1 h2 hsl hlw hlb => by
    have hA := measure_all h hs hf hM h1 h2
    refine lay_list hU h1 h2 p.1 hsl (by omega) hl1 (fun x hx => ?_) hlw hlb
    obtain ⟨q, hq, hwq, x0, xl⟩ := whole_at (hmem x hx).1
    have hxe : x.type = (x.type.toNat : Int) := by omega
    have hb := bits_ok hf hM (hmem x hx).1 (hmem x hx).2
    refine ⟨?_, ?_, hb⟩
    · rw [hxe]; exact hA _ q hq hwq
    · rw [hxe]; exact meas_ok hf hM _ q hq hwq
  generalize placesS (p.1.kind == 16) M ls0 0 p.1.mem = PL at *
  generalize endP (layS (p.1.kind == 16) M ls0 p.1.mem) = EX at *
  obtain ⟨⟨kd, el, ln, tg, mm, dn⟩, s0⟩ := p
  simp only at c HL
  have hmf : ∀ (lb : Nat) (Y : World), (Instr.makeFunc (.func 32) #[] #[.pointer (some ⟨lb, 0, none⟩)]).run Tryz.prog Y = .ok (.func (.func 32) #[] #[.pointer (some ⟨lb, 0, none⟩)]) Y := fun lb Y => by kernel_rfl
  clear h hs hf hM hp hwh hgt hk hmem hl64 hl1 hd h14
  go_enter Tryz.func11, Tryz.ntmps11
  go_wp2_with fail
  refine c.mono ?_
  rintro e w2 ⟨rb, m, sp, sc, rfl, U2, hm0, hrm, hsl⟩
  have hold := heap_r0 w2 (.cells #[.int .i64 0, .int .i64 0, .int .i64 0, .string ⟨#[]⟩, .slice none 0 0, .bool false] TR)
  have hb3 := below1 w2 (.cells #[.int .i64 kd, .int .i64 el, .int .i64 ln, .string tg, .slice sp mm.length sc, .bool dn] TR)
  have U3 := U2.kept hb3
  have N3 := heap_r0 w2 (.cells #[.int .i64 kd, .int .i64 el, .int .i64 ln, .string tg, .slice sp mm.length sc, .bool dn] TR)
  have S3 := (MemSl.of_own hsl).below hb3
  have hz3 : (w2.alloc (.cells #[.int .i64 kd, .int .i64 el, .int .i64 ln, .string tg, .slice sp mm.length sc, .bool dn] TR)).heap.size = w2.heap.size + 1 := by simp
  have hz2 := U2.below.size
  clear c U2 hb3 hsl
  have hb4 := below1 (w2.alloc (.cells #[.int .i64 kd, .int .i64 el, .int .i64 ln, .string tg, .slice sp mm.length sc, .bool dn] TR)) (.cells #[.slice none 0 0] TPs)
  have U4 : Hid (_) := U3.kept hb4
  have N4 := blk_b N3 hb4
  have S4 : Hid (_) := S3.below hb4
  have B4 := heap_r0 (w2.alloc (.cells #[.int .i64 kd, .int .i64 el, .int .i64 ln, .string tg, .slice sp mm.length sc, .bool dn] TR)) (.cells #[.slice none 0 0] TPs)
  have k0 := Lib.cell_of_heap N4 0
  have k1 := Lib.cell_of_heap N4 1
  have k2 := Lib.cell_of_heap N4 2
  have k3 := Lib.cell_of_heap N4 3
  have k4 := Lib.cell_of_heap N4 4
  have k5 := Lib.cell_of_heap N4 5
  simp only [List.getElem?_toArray, List.getElem?_cons_succ, List.getElem?_cons_zero] at k0 k1 k2 k3 k4 k5
  rw [hz3] at B4
  have HB4 : Hid (_ = _) := B4
  clear U3 N3 S3 hb4 N4 B4
  go_wp2_with (first | ((with_reducible apply step_store hold); rfl; rfl; kernel_rfl; rfl; kernel_rfl; rw [World.setRow_alloc_new]) | fail)
  generalize hW4 : (w2.alloc (.cells #[.int .i64 kd, .int .i64 el, .int .i64 ln, .string tg, .slice sp mm.length sc, .bool dn] TR)).alloc (.cells #[.slice none 0 0] TPs) = W4 at *
  have hz4 : w.heap.size ≤ W4.heap.size := U4.out.below.size
  refine (HL.out rb m (w2.heap.size + 1) sp sc W4 U4.out hm0 hrm S4.out (by omega) HB4.out).mono ?_
  rintro e w5 ⟨rfl, U5, ⟨s, hs1, hs2⟩, _⟩
  obtain ⟨sp', sc', rfl⟩ := slice_of_own hs2
  have q0 := Lib.cell_of_heap hs1 0
  simp only [List.getElem?_toArray, List.getElem?_cons_zero] at q0
  have HO : Hid (_) := ownsRow_base hs2 hz4
  have HB5 : Hid (Below w.heap.size w w5) := U5.below
  clear hs1 hs2 U5 U4 S4 HB4 HL k0 k1 k2 k3 k4 k5
  go_wp2
  go_ret2
  exact ⟨_, rfl, HO.out, HB5.out⟩
end
end Go.Proofs.YtlcghlfmaohfeaaGreat
namespace Go.Proofs.YtlcghlfmaohfeaaGreat
open Go.RowKit Go.Maps
set_option linter.unusedVariables false
set_option maxRecDepth 100000
/-- The boxes of find: a name, a row, the place that was found, whether one was. -/
structure FnB (nb gb ab fb : Nat) (nm : ByteArray) (row : Array Value) (a : Pl) (f : Bool) (w : World) : Prop where
  nm : w.heap[nb]? = some (.cells #[.string nm] 9 (0, 0))
  row : w.heap[gb]? = some (.cells row TR (0, 0))
  at' : w.heap[ab]? = some (.cells (plV a) TPl (0, 0))
  found : w.heap[fb]? = some (.cells #[.bool f] 4 (0, 0))
section
variable {w : World} {nb gb ab fb : Nat} {nm : ByteArray} {a : Pl} {f : Bool}
set_option maxHeartbeats 4000000 in
theorem find1_e (p : Pl) (row : Array Value) (h : FnB nb gb ab fb nm row a f w) (hnm : (!nm.toList.isEmpty) = false) :
    Calls Tryz.prog 68 #[.agg (plV p), .pointer (some ⟨nb, 0, none⟩), .pointer (some ⟨gb, 0, none⟩), .pointer (some ⟨ab, 0, none⟩), .pointer (some ⟨fb, 0, none⟩)] w fun e w' => e = .returned (.tuple #[]) ∧ Below w.heap.size w w' := by
  have hb1 := below1 w (.cells #[.int .i64 p.mem, .int .i64 p.type, .int .i64 p.off, .int .i64 p.bit, .int .i64 p.bits] TPl)
  have c0 := Lib.cell_of_heap (blk_b h.nm hb1) 0
  simp only [List.getElem?_toArray, List.getElem?_cons_zero] at c0
  have HB : Hid (Below _ _ _) := hb1
  clear h hb1
  go_enter Tryz.func68, Tryz.ntmps68
  go_wp2
  go_region
  go_wp2
  go_end0
  exact ⟨rfl, HB.out.drew⟩
set_option maxHeartbeats 4000000 in
theorem find1_m (p : Pl) (r : Rw) {sp : Option Addr} {sc : Nat} (h : FnB nb gb ab fb nm #[.int .i64 r.kind, .int .i64 r.elem, .int .i64 r.len, .string r.tag, .slice sp r.mem.length sc, .bool r.done] a f w) (hsl : MemSl w (.slice sp r.mem.length sc) r.mem) {j : Nat} {x : Mb} (hj : p.mem = j) (hx : r.mem[j]? = some x) (hn64 : r.mem.length ≤ 64) (hnm : (!nm.toList.isEmpty) = true) (hne : (x.name.toList == nm.toList) = false) :
    Calls Tryz.prog 68 #[.agg (plV p), .pointer (some ⟨nb, 0, none⟩), .pointer (some ⟨gb, 0, none⟩), .pointer (some ⟨ab, 0, none⟩), .pointer (some ⟨fb, 0, none⟩)] w fun e w' => e = .returned (.tuple #[]) ∧ Below w.heap.size w w' := by
  have hlt : j < r.mem.length := (List.getElem?_eq_some_iff.1 hx).1
  have hb1 := below1 w (.cells #[.int .i64 p.mem, .int .i64 p.type, .int .i64 p.off, .int .i64 p.bit, .int .i64 p.bits] TPl)
  have c0 := Lib.cell_of_heap (blk_b h.nm hb1) 0
  have r4 := Lib.cell_of_heap (blk_b h.row hb1) 4
  have P1 := heap_r0 w (.cells #[.int .i64 p.mem, .int .i64 p.type, .int .i64 p.off, .int .i64 p.bit, .int .i64 p.bits] TPl)
  have d0 := Lib.cell_of_heap P1 0
  simp only [List.getElem?_toArray, List.getElem?_cons_zero, List.getElem?_cons_succ] at c0 r4 d0
  rw [hj] at d0 P1
  rcases hsl.below hb1 with ⟨e1, e2⟩ | ⟨g, o, cap, e1, hcap, hg, hc⟩
  · rw [e2] at hlt; simp at hlt
  · cases e1
    have m0 := hc j x hx 0 (by omega)
    simp only [mbCells, Nat.add_zero, List.getElem?_cons_zero] at m0
    have HB : Hid (Below _ _ _) := hb1
    obtain ⟨pm, pt, po, pb, pbs⟩ := p
    simp only at hj
    subst hj
    clear h hb1 hc hx P1
    go_enter Tryz.func68, Tryz.ntmps68
    go_wp2
    go_region
    go_wp2
    go_end0
    exact ⟨rfl, HB.out.drew⟩
set_option maxHeartbeats 4000000 in
theorem find1_h (p : Pl) (r : Rw) {sp : Option Addr} {sc : Nat} (h : FnB nb gb ab fb nm #[.int .i64 r.kind, .int .i64 r.elem, .int .i64 r.len, .string r.tag, .slice sp r.mem.length sc, .bool r.done] a f w) (hsl : MemSl w (.slice sp r.mem.length sc) r.mem) {j : Nat} {x : Mb} (hj : p.mem = j) (hx : r.mem[j]? = some x) (hn64 : r.mem.length ≤ 64) (hnm : (!nm.toList.isEmpty) = true) (hne : (x.name.toList == nm.toList) = true) :
    Calls Tryz.prog 68 #[.agg (plV p), .pointer (some ⟨nb, 0, none⟩), .pointer (some ⟨gb, 0, none⟩), .pointer (some ⟨ab, 0, none⟩), .pointer (some ⟨fb, 0, none⟩)] w fun e w' => e = .returned (.tuple #[]) ∧ w'.heap[ab]? = some (.cells (plV p) TPl (0, 0)) ∧ w'.heap[fb]? = some (.cells #[.bool true] 4 (0, 0)) ∧ Turned w w' (fun k => k = ab ∨ k = fb) := by
  have hlt : j < r.mem.length := (List.getElem?_eq_some_iff.1 hx).1
  have hb1 := below1 w (.cells #[.int .i64 p.mem, .int .i64 p.type, .int .i64 p.off, .int .i64 p.bit, .int .i64 p.bits] TPl)
  have c0 := Lib.cell_of_heap (blk_b h.nm hb1) 0
  have r4 := Lib.cell_of_heap (blk_b h.row hb1) 4
  have P1 := heap_r0 w (.cells #[.int .i64 p.mem, .int .i64 p.type, .int .i64 p.off, .int .i64 p.bit, .int .i64 p.bits] TPl)
  have d0 := Lib.cell_of_heap P1 0
  simp only [List.getElem?_toArray, List.getElem?_cons_zero, List.getElem?_cons_succ] at c0 r4 d0
  rw [hj] at d0 P1
  rcases hsl.below hb1 with ⟨e1, e2⟩ | ⟨g, o, cap, e1, hcap, hg, hc⟩
  · rw [e2] at hlt; simp at hlt
  · cases e1
    have m0 := hc j x hx 0 (by omega)
    simp only [mbCells, Nat.add_zero, List.getElem?_cons_zero] at m0
    have d1 := Lib.cell_of_heap P1 1
    have d2 := Lib.cell_of_heap P1 2
    have d3 := Lib.cell_of_heap P1 3
    have d4 := Lib.cell_of_heap P1 4
    simp only [List.getElem?_toArray, List.getElem?_cons_zero, List.getElem?_cons_succ] at d1 d2 d3 d4
    have hA := blk_b h.at' hb1
    have hF := blk_b h.found hb1
    have hfa : fb ≠ ab := by
      intro e
      rw [e, hA] at hF
      injection hF with q1
      injection q1 with _ q2
      exact absurd q2 (by decide)
    obtain ⟨pm, pt, po, pb, pbs⟩ := p
    simp only at hj
    subst hj
    have HB : Hid (Below _ _ _) := hb1
    have HA : Hid (_ = _) := hA
    have HF : Hid (_ = _) := hF
    clear h hb1 hc hx P1 hA hF
    go_enter Tryz.func68, Tryz.ntmps68
    go_wp2
    go_region
    generalize w.alloc (.cells (plV ⟨(j : Int), pt, po, pb, pbs⟩) TPl) = W1 at *
    have hA1 : W1.drew.heap[ab]? = some (.cells (plV a) TPl (0, 0)) := HA.out
    have hF1 : W1.drew.heap[fb]? = some (.cells #[.bool f] 4 (0, 0)) := HF.out
    have T1 : Turned W1.drew (W1.drew.setRow ab (plV ⟨(j : Int), pt, po, pb, pbs⟩)) (fun k => k = ab) := Turned.setRow _ _ _ rfl
    have hF2 := blk_t hF1 T1 hfa
    have hA2 := setRow_heap _ _ _ (plV ⟨(j : Int), pt, po, pb, pbs⟩) _ _ hA1
    have f0 := Lib.cell_of_heap hF2 0
    have z0 := frozen_of hF2 0
    simp only [List.getElem?_toArray, List.getElem?_cons_zero] at f0
    have HA2 : Hid (_ = _) := hA2
    have HF2 : Hid (_ = _) := hF2
    have HT : Hid (Turned w (W1.drew.setRow ab (plV ⟨(j : Int), pt, po, pb, pbs⟩)) (fun k => k = ab ∨ k = fb)) := (Turned.of_below HB.out.drew _).trans T1 (fun _ _ e => Or.inl e)
    clear hA2 hF2 hF1 T1
    go_wp2_with ((with_reducible apply step_store hA1); rfl; rfl; kernel_rfl; rfl; kernel_rfl)
    go_end0
    have T2 : Turned (W1.drew.setRow ab (plV ⟨(j : Int), pt, po, pb, pbs⟩)) ((W1.drew.setRow ab (plV ⟨(j : Int), pt, po, pb, pbs⟩)).setCell ⟨fb, 0, none⟩ (.bool true)) (fun k => k = fb) := Turned.setCell _ _ _ _ rfl
    exact ⟨rfl, blk_t HA2.out T2 (fun e => hfa e.symm), heap_setCell HF2.out _, HT.out.trans T2 (fun _ _ e => Or.inr e)⟩
end
end Go.Proofs.YtlcghlfmaohfeaaGreat
