/-
  The law CtypePlays' own walk.
  Rows of the law's own that it writes over: their shape stays, and nothing else turns.
  The law's Like: has a program's table the given answer's rows?
-/
import Derived.Test.YtdfkkflpcamhjaaGreatDoorRefCopy
import Derived.Test.YtdfkkflpcamhjaaGreatDoorRows1
import Derived.Test.YtdfkkflpcamhjaaGreatDoorRefKind
import Derived.Test.YtdfkkflpcamhjaaGreatDoorMFrom
import Derived.Test.YtdfkkflpcamhjaaGreatDoorPAskN
import Derived.Test.YtdfkkflpcamhjaaGreatDoorMBoth
namespace Go.Proofs.YtdfkkflpcamhjaaGreatDoor
open Go.RowKit Go.Maps
set_option linter.unusedVariables false
set_option maxRecDepth 100000

structure OwnSh (lo hi : Nat) (w : World) (g cap : Nat) (rs : List (Rw × Value)) (k : Nat) : Prop where
  glo : lo ≤ g
  ghi : g < hi
  capn : rs.length ≤ cap
  rows : ∃ cur, w.heap[g]? = some (.cells cur TR (0, 0)) ∧ cur.size = cap * 6 ∧ ∀ i p, k ≤ i → rs[i]? = some p → cur[i * 6 + 4]? = some p.2
  mems : ∀ p ∈ rs, (p.2 = .slice none 0 0 ∧ p.1.mem.length = 0) ∨ ∃ h c cur, p.2 = .slice (some ⟨h, 0, none⟩) p.1.mem.length c ∧ p.1.mem.length ≤ c ∧ w.heap[h]? = some (.cells cur TM (0, 0)) ∧ cur.size = c * 3 ∧ lo ≤ h ∧ h < hi

section
variable {lo hi : Nat} {w w' : World} {g cap k : Nat} {rs : List (Rw × Value)}
theorem OwnSh.of_rtab {b : Nat} {v : Value} (h : RTab lo w b v rs) (hn : 0 < rs.length) : ∃ g cap, v = .slice (some ⟨g, 0, none⟩) rs.length cap ∧ OwnSh lo w.heap.size w g cap rs 0 := by
  obtain ⟨h1, ⟨rfl, h0⟩ | ⟨g, cap, cur, rfl, hb, hg, hcap, hm, hsz, hxs⟩⟩ := h.rows
  · omega
  · refine ⟨g, cap, rfl, hb, lt_of_heap hg, hcap, ⟨cur, hg, hsz, fun i p _ hp => ?_⟩, fun p hp => ?_⟩
    · have hlt : i < rs.length := (List.getElem?_eq_some_iff.1 hp).1
      have e := allCells_at rs i p hp 4 (by omega)
      rw [← hxs, List.getElem?_take, if_pos (by omega)] at e
      simpa [rwCells] using e
    · obtain ⟨h1, ⟨e, h0⟩ | ⟨g', cap', cur', e, hb', hg', hcap', hm', hsz', _⟩⟩ := h.mems p hp
      · exact Or.inl ⟨e, h0⟩
      · exact Or.inr ⟨g', cap', cur', e, hcap', hg', hsz', hb', lt_of_heap hg'⟩
theorem OwnSh.kept (h : OwnSh lo hi w g cap rs k) (hle : hi ≤ w.heap.size) (hb : Below w.heap.size w w') : OwnSh lo hi w' g cap rs k := by
  refine ⟨h.glo, h.ghi, h.capn, ?_, fun p hp => ?_⟩
  · obtain ⟨cur, h1, h2⟩ := h.rows
    exact ⟨cur, (hb.block g (lt_of_heap h1)).trans h1, h2⟩
  · rcases h.mems p hp with h1 | ⟨a, c, cur, e, h1, h2, h3⟩
    · exact Or.inl h1
    · exact Or.inr ⟨a, c, cur, e, h1, (hb.block a (lt_of_heap h2)).trans h2, h3⟩
/-- A member's cell is set. -/
theorem OwnSh.set (h : OwnSh lo hi w g cap rs k) {a : Nat} {cur : Array Value} (ha : w.heap[a]? = some (.cells cur TM (0, 0))) (hlo : lo ≤ a) (hhi : a < hi) (j : Nat) (x : Value) :
    OwnSh lo hi (w.setCell ⟨a, j, none⟩ x) g cap rs k ∧ Turned w (w.setCell ⟨a, j, none⟩ x) (fun z => lo ≤ z ∧ z < hi) := by
  have T : Turned w (w.setCell ⟨a, j, none⟩ x) (fun z => z = a) := Turned.setCell (S := fun z => z = a) w a j x rfl
  refine ⟨⟨h.glo, h.ghi, h.capn, ?_, fun p hp => ?_⟩, T.mono (fun z hz => by rw [hz]; exact ⟨hlo, hhi⟩)⟩
  · obtain ⟨c0, h1, h2⟩ := h.rows
    have hga : g ≠ a := by
      rintro rfl; rw [ha] at h1; injection h1 with e; injection e with _ e; exact absurd e (by decide)
    exact ⟨c0, (T.block g (lt_of_heap h1) hga).trans h1, h2⟩
  · rcases h.mems p hp with h1 | ⟨a', c', cur', e, h1, h2, h3⟩
    · exact Or.inl h1
    · by_cases haa : a' = a
      · subst haa
        rw [h2] at ha
        injection ha with e1; injection e1 with e1
        refine Or.inr ⟨a', c', _, e, h1, heap_setCell h2 _, ?_, h3.2⟩
        simpa using h3.1
      · exact Or.inr ⟨a', c', cur', e, h1, (T.block a' (lt_of_heap h2) haa).trans h2, h3⟩
/-- A row is written over. -/
theorem OwnSh.over (h : OwnSh lo hi w g cap rs k) (hk : k < rs.length) (vs : List Value) (hv : vs.length = 6) :
    OwnSh lo hi (w.setCells g (k * 6) vs) g cap rs (k + 1) ∧ Turned w (w.setCells g (k * 6) vs) (fun z => lo ≤ z ∧ z < hi) := by
  have T : Turned w (w.setCells g (k * 6) vs) (fun z => z = g) := Turned.setCells g vs (k * 6) w rfl
  obtain ⟨c0, h1, h2, h3⟩ := h.rows
  have hc := h.capn
  refine ⟨⟨h.glo, h.ghi, h.capn, ?_, fun p hp => ?_⟩, T.mono (fun z hz => by rw [hz]; exact ⟨h.glo, h.ghi⟩)⟩
  · obtain ⟨cur', r1, r2⟩ := heap_setCells g vs (k * 6) w c0 TR (0, 0) h1 (by omega)
    refine ⟨cur', r1, ?_, fun i p hi hp => ?_⟩
    · have := congrArg List.length r2
      simp at this
      omega
    · have hlt : i < rs.length := (List.getElem?_eq_some_iff.1 hp).1
      have e := h3 i p (by omega) hp
      have e2 : cur'.toList[i * 6 + 4]? = c0.toList[i * 6 + 4]? := by
        rw [r2, List.getElem?_append_right (by simp; omega), List.getElem?_drop]
        congr 1
        simp
        omega
      rw [Array.getElem?_toList, Array.getElem?_toList] at e2
      rw [e2]; exact e
  · rcases h.mems p hp with h4 | ⟨a', c', cur', e, h4, h5, h6⟩
    · exact Or.inl h4
    · have hga : a' ≠ g := by
        rintro rfl; rw [h5] at h1; injection h1 with e; injection e with _ e; exact absurd e (by decide)
      exact Or.inr ⟨a', c', cur', e, h4, (T.block a' (lt_of_heap h5) hga).trans h5, h6⟩
end
end Go.Proofs.YtdfkkflpcamhjaaGreatDoor
namespace Go.Proofs.YtdfkkflpcamhjaaGreatDoor
open Go.RowKit Go.Maps
set_option linter.unusedVariables false
set_option maxRecDepth 100000

section
variable {B : Nat} {w : World} {b mb rb : Nat} {v v2 : Value} {rs rs2 : List (Rw × Value)} {ps : List (Value × Value)}
set_option maxHeartbeats 2000000 in
theorem like_c (h : Tab B w b mb v rs ps) (h0 : 0 < rs.length) (hs : Small rs) (h2 : RT w rb v2 rs2) (hf : rs2.map (·.1) = rs.map (·.1)) :
    Calls Tryz.prog 11 #[.pointer (some ⟨b, 0, none⟩), .pointer (some ⟨rb, 0, none⟩)] w fun e w' => e = .returned (.bool true) ∧ Below w.heap.size w w' := by
  have hl := h.len
  have hl2 := h2.len
  have hlen : rs2.length = rs.length := fst_len hf
  have cR := fun X (hX : Below w.heap.size w X) => rows_c (h.keptB hX) h0 hs
  have cL := fun X (hX : Below w.heap.size w X) => len_c (h.keptB hX) h0
  have hc := h2.cell
  have hrb : rb < w.heap.size := World.block_lt_of_cell? w _ hc
  obtain ⟨p2, c2, hv2, _⟩ := h2.sl
  have HS : Hid (∀ X v' rs', Below w.heap.size w X → rs'.map (·.1) = rs.map (·.1) → X.ownsRow w.heap.size TR 6 v' rs'.length (allCells rs') → (∀ p ∈ rs', X.ownsRow w.heap.size TM 3 p.2 p.1.mem.length (memCells p.1.mem)) →
      Calls Tryz.prog 10 #[v', v2] X fun e w' => e = .returned (.bool true) ∧ Below X.heap.size X w') := by
    intro X v' rs' hX hfst h3 h4
    refine same_c (RowSl.of_own h3 h4) (h2.rows.below hX) (hfst.trans hf.symm) (by have := fst_len hfst; omega) (fun p hp => ?_)
    have hm : p.1 ∈ rs'.map (·.1) := List.mem_map.2 ⟨p, hp, rfl⟩
    rw [hfst] at hm
    obtain ⟨q, hq, hq2⟩ := List.mem_map.1 hm
    have := hs q hq
    rw [← hq2]; omega
  rw [hv2] at hc HS
  rw [hlen] at hc HS
  clear h h2 hf hv2
  go_enter Tryz.func11, Tryz.ntmps11
  go_wp2
  go_region_with (first
    | (go_at_call 9; refine (cR _ (by exact below_drew _ w)).mono ?_; rintro e w2 ⟨v', rs', rfl, x1, x2, x3, x4⟩; have HB2 : Hid (Below w.heap.size w w2) := (below_drew _ w).trans x4; have q2 := (HB2.out.cell (p := ⟨rb, 0, none⟩) hrb).trans hc; have HSS : Hid (Calls Tryz.prog 10 #[v', .slice p2 rs.length c2] w2 fun e w' => e = .returned (.bool true) ∧ Below w2.heap.size w2 w') := HS.out w2 v' rs' HB2.out x1 x2 x3; clear x1 x2 x3 x4)
    | (go_at_call 10; refine HSS.out.mono ?_; rintro e w3 ⟨rfl, hb3⟩; have HB3 : Hid (Below w.heap.size w w3) := HB2.out.trans (hb3.mono HB2.out.size); have q3 := (HB3.out.cell (p := ⟨rb, 0, none⟩) hrb).trans hc; clear hb3)
    | (go_at_call 38; refine (cL _ HB3.out).mono ?_; rintro e w4 ⟨rfl, rfl⟩))
  all_goals go_wp2
  all_goals go_ret
  all_goals exact ⟨rfl, HB3.out⟩
end
end Go.Proofs.YtdfkkflpcamhjaaGreatDoor
namespace Go.Proofs.YtdfkkflpcamhjaaGreatDoor
open Go.RowKit Go.Maps
set_option linter.unusedVariables false
set_option maxRecDepth 100000

theorem eqT_at (a : Addr) (W : World) : (binOp BinOp.eql 24 (.pointer (some a)) (.pointer none)).run Tryz.prog W = .ok (.bool false) W := by kernel_rfl
theorem Two.drew {w wr : World} {b mb rb : Nat} (h : Two w b mb rb wr) : Two w b mb rb wr.drew := ⟨h.1.drew, by obtain ⟨v, rs, rv, rs2, hD⟩ := h.2; exact ⟨v, rs, rv, rs2, hD.below ⟨rfl, rfl, rfl, Nat.le_refl _, fun _ _ => rfl⟩⟩⟩
theorem Two.below {w wr w2 : World} {b mb rb : Nat} (h : Two w b mb rb wr) (hb : Below wr.heap.size wr w2) : Two w b mb rb w2 := ⟨h.1.trans (hb.mono h.1.size), by obtain ⟨v, rs, rv, rs2, hD⟩ := h.2; exact ⟨v, rs, rv, rs2, hD.below hb⟩⟩
section
variable {lo hi : Nat} {w w' : World} {g cap k : Nat} {rs : List (Rw × Value)}
theorem OwnSh.of_own {v : Value} (h : w.ownsRow lo TR 6 v rs.length (allCells rs)) (hm : ∀ p ∈ rs, w.ownsRow lo TM 3 p.2 p.1.mem.length (memCells p.1.mem)) (hn : 0 < rs.length) : ∃ g cap, v = .slice (some ⟨g, 0, none⟩) rs.length cap ∧ OwnSh lo w.heap.size w g cap rs 0 := by
  obtain ⟨h1, ⟨rfl, h0⟩ | ⟨g, cap, cur, rfl, hb, hg, hcap, hm', hsz, hxs⟩⟩ := h
  · omega
  · refine ⟨g, cap, rfl, hb, lt_of_heap hg, hcap, ⟨cur, hg, hsz, fun i p _ hp => ?_⟩, fun p hp => ?_⟩
    · have hlt : i < rs.length := (List.getElem?_eq_some_iff.1 hp).1
      have e := allCells_at rs i p hp 4 (by omega)
      rw [← hxs, List.getElem?_take, if_pos (by omega)] at e
      simpa [rwCells] using e
    · obtain ⟨h1, ⟨e, h0⟩ | ⟨g', cap', cur', e, hb', hg', hcap', hm', hsz', _⟩⟩ := hm p hp
      · exact Or.inl ⟨e, h0⟩
      · exact Or.inr ⟨g', cap', cur', e, hcap', hg', hsz', hb', lt_of_heap hg'⟩
/-- A row's kind is set. -/
theorem OwnSh.kind (h : OwnSh lo hi w g cap rs k) (i : Nat) (x : Value) :
    OwnSh lo hi (w.setCell ⟨g, i * 6, none⟩ x) g cap rs k ∧ Turned w (w.setCell ⟨g, i * 6, none⟩ x) (fun z => lo ≤ z ∧ z < hi) := by
  have T : Turned w (w.setCell ⟨g, i * 6, none⟩ x) (fun z => z = g) := Turned.setCell (S := fun z => z = g) w g (i * 6) x rfl
  refine ⟨⟨h.glo, h.ghi, h.capn, ?_, fun p hp => ?_⟩, T.mono (fun z hz => by rw [hz]; exact ⟨h.glo, h.ghi⟩)⟩
  · obtain ⟨c0, h1, h2, h3⟩ := h.rows
    refine ⟨_, heap_setCell h1 _, by simpa using h2, fun j p hj hp => ?_⟩
    rw [Array.getElem?_setIfInBounds, if_neg (by omega)]
    exact h3 j p hj hp
  · rcases h.mems p hp with h4 | ⟨a', c', cur', e, h4, h5, h6⟩
    · exact Or.inl h4
    · have hga : a' ≠ g := by
        obtain ⟨c0, h1, _⟩ := h.rows
        rintro rfl; rw [h5] at h1; injection h1 with e; injection e with _ e; exact absurd e (by decide)
      exact Or.inr ⟨a', c', cur', e, h4, (T.block a' (lt_of_heap h5) hga).trans h5, h6⟩
end
theorem turned_below {lo hi : Nat} {wz wr W : World} (h : Below lo wz wr) (hle : lo ≤ wz.heap.size) (ht : Turned wr W (fun z => lo ≤ z ∧ z < hi)) : Below lo wz W :=
  ⟨ht.os.trans h.os, ht.tape.trans h.tape, ht.output.trans h.output, Nat.le_trans h.size ht.size, fun j hj => (ht.block j (Nat.lt_of_lt_of_le (Nat.lt_of_lt_of_le hj hle) h.size) (by omega)).trans (h.block j hj)⟩
section
variable {w : World}
set_option maxHeartbeats 40000000 in
theorem ctypePlays_c (hplay : ∀ {B : Nat} {w : World} {b mb rb : Nat} {v rv : Value} {rs rs2 : List (Rw × Value)} (h : Duo B w b mb v rs rb rv rs2) (x : Ac) (hx : AcOK x) {ls : Value} (hl : Low B w ls x.l), Calls Tryz.prog 7 #[.pointer (some ⟨b, 0, none⟩), .pointer (some ⟨rb, 0, none⟩), .agg (actC x.k x.a x.c x.s ls)] w fun e w2 => e = .returned (.bool true) ∧ FinP B w b mb rb w2)
    {v v1 : Value} {rs : List (Rw × Value)} {xs : List (Ac × Value)} (h : RowIn w v rs) (hl : rs.length * 72 ≤ 140737488355328) (hO : ∀ p ∈ rs, Okay p.1) (h1 : ActIn w v1 xs) (hA1 : ∀ p ∈ xs, AcOK p.1) (hx1 : xs.length ≤ 9223372036854775807) (hTb : Tabs w) (hNm : Names w) :
    Calls Tryz.prog 3 #[v, v1] w fun e w' => e = .returned (.bool true) ∧ Below w.heap.size w w' := by
  have cB := both_c h hl hO
  obtain ⟨p1, c1, rfl, hc1⟩ := h1.sl
  have HB : Hid (Calls Tryz.prog 4 #[v] w fun e w' => BothPost w w' e ∧ Below w.heap.size w w') := cB
  have H1 : Hid (ActIn w (.slice p1 xs.length c1) xs) := h1
  have HTB : Hid (Tabs w) := hTb
  have HNM : Hid (Names w) := hNm
  have HA1 : Hid (∀ p ∈ xs, AcOK p.1) := hA1
  have n1 := not_t
  have n2 := not_f
  clear h hl hO h1 hA1 cB hTb hNm
  go_enter Tryz.func3, Tryz.ntmps3
  go_wp2_with fail
  refine HB.out.mono ?_
  rintro e w1 ⟨rfl | ⟨b, mb, tv, trs, rb, rv, rrs, rfl, hD⟩, hb1⟩
  · have HB1 : Hid (Below w.heap.size w w1) := hb1
    clear HB hb1
    go_wp2_with fail
    refine (new_c w1).mono ?_
    rintro e wA ⟨b, mb, tv, rfl, hTA, hbA⟩
    have HTA : Hid (Tab w.heap.size wA b mb tv (basicRows 11) []) := tab_base hTA HB1.out.size
    have HBA : Hid (Below w.heap.size w wA) := HB1.out.trans (hbA.mono HB1.out.size)
    clear hTA hbA
    go_wp2_with fail
    refine (rNew_c wA).mono ?_
    rintro e wB ⟨rb, rv, rfl, hRB, hbB⟩
    have hT : Hid (Two w b mb rb wB) := ⟨HBA.out.trans (hbB.mono HBA.out.size), _, _, _, _, duo_new HTA.out hbB hRB⟩
    clear hRB hbB HTA HBA HB1
    have heq := fun W => eqT_at ⟨b, 0, none⟩ W
    go_wp2_with fail
    clear heq
    go_loopw [8] (fun j wr => ∃ (k : Nat), j = .int .i64 k ∧ k ≤ xs.length ∧ Hid (Two w b mb rb wr)) (fun j _ => xs.length - (intOf j).toNat)
    case atStart => exact ⟨0, rfl, Nat.zero_le _, hT⟩
    case round =>
      obtain ⟨k, rfl, hk, HK⟩ := hrel
      by_cases hlt : k < xs.length
      · obtain ⟨x, hx⟩ : ∃ x, xs[k]? = some x := ⟨_, List.getElem?_eq_getElem hlt⟩
        have hxo := HA1.out x (List.mem_of_getElem? hx)
        obtain ⟨g, o, rfl, _, hmem⟩ := H1.out.at HK.out.1 hx
        have hcell : ∀ Y, Two w b mb rb Y → ∀ j, j < 5 → Y.cell? ⟨g, o + k * 5 + j, none⟩ = (acCells x.1 x.2)[j]? := by
          intro Y hY j hj
          obtain ⟨g', o', e, hc, _⟩ := H1.out.at hY.1 hx
          cases e
          exact hc j hj
        have hcap := hc1 (by omega)
        obtain ⟨sp, sn, sc, hsl⟩ := hmem.sl
        have cP : ∀ Y, Two w b mb rb Y → Calls Tryz.prog 7 #[.pointer (some ⟨b, 0, none⟩), .pointer (some ⟨rb, 0, none⟩), .agg (actC x.1.k x.1.a x.1.c x.1.s x.2)] Y fun e w2 => e = .returned (.bool true) ∧ Two w b mb rb w2 := by
          intro Y hY
          have hlow : Low w.heap.size Y x.2 x.1.l := (low_of hmem).kept (Turned.of_below hY.1 _)
          obtain ⟨tv, trs, rv, rrs, hD⟩ := hY.2
          exact (hplay hD x.1 hxo hlow).mono fun e w2 ⟨h1, h2⟩ => ⟨h1, hY.step h2⟩
        have cA : ∀ (id : Int) (nm : ByteArray), nm.size ≤ 9223372036854775807 → ∀ Y, Two w b mb rb Y → Calls Tryz.prog 8 #[.pointer (some ⟨b, 0, none⟩), .pointer (some ⟨rb, 0, none⟩), .int .i64 id, .string nm] Y fun e w2 => e = .returned (.bool true) ∧ Two w b mb rb w2 := by
          intro id nm hs Y hY
          obtain ⟨tv, trs, rv, rrs, hD⟩ := hY.2
          exact (asks_c hD (HTB.out.below hY.1) (HNM.out.below hY.1) id nm hs).mono fun e w2 ⟨h1, h2⟩ => ⟨h1, hY.below h2⟩
        have hz1 := hxo.s
        have hz2 : (⟨#[]⟩ : ByteArray).size ≤ 9223372036854775807 := by show 0 ≤ _; omega
        have hc0 : ∀ Y, Two w b mb rb Y → Y.cell? ⟨g, o + k * 5, none⟩ = some (.int .i64 x.1.k) := fun Y h => hcell Y h 0 (by omega)
        have hc1' : ∀ Y, Two w b mb rb Y → Y.cell? ⟨g, o + k * 5 + 1, none⟩ = some (.int .i64 x.1.a) := fun Y h => hcell Y h 1 (by omega)
        have hc2 : ∀ Y, Two w b mb rb Y → Y.cell? ⟨g, o + k * 5 + 2, none⟩ = some (.int .i64 x.1.c) := fun Y h => hcell Y h 2 (by omega)
        have hc3 : ∀ Y, Two w b mb rb Y → Y.cell? ⟨g, o + k * 5 + 3, none⟩ = some (.string x.1.s) := fun Y h => hcell Y h 3 (by omega)
        have hc4 : ∀ Y, Two w b mb rb Y → Y.cell? ⟨g, o + k * 5 + 4, none⟩ = some x.2 := fun Y h => hcell Y h 4 (by omega)
        rw [hsl] at hc4 cP
        unfold actC at cP
        have HTK : Two w b mb rb wr := HK.out
        clear hcell hmem hx hsl hxo
        obtain ⟨⟨xk, xa, xc, xt, xl⟩, xv⟩ := x
        simp only at cP hc0 hc1' hc2 hc3 hc4 hz1
        have HZ1 : Hid (xt.size ≤ 9223372036854775807) := hz1
        have HZ2 : Hid ((⟨#[]⟩ : ByteArray).size ≤ 9223372036854775807) := hz2
        clear hz1 hz2
        go_wp2
        go_region_held3 (fun Y => Two w b mb rb Y) (first | assumption | (with_reducible refine Two.drew ?_; assumption)) (first
          | (go_at_call 7; refine (cP _ (by assumption)).mono ?_; rintro e y1 ⟨rfl, hy1⟩)
          | (go_at_call 8; refine (cA _ _ (by first | exact HZ1.out | exact HZ2.out) _ (by assumption)).mono ?_; rintro e y2 ⟨rfl, hy2⟩))
        rename_i hHeld
        have HF : Hid (Two w b mb rb _) := hHeld
        clear hHeld HTK hc0 hc1' hc2 hc3 hc4 cP cA HZ1 HZ2
        go_wp2
        exact ⟨⟨k + 1, by go_num, by omega, HF⟩, by simp [intOf]; omega⟩
      · obtain rfl : k = xs.length := by omega
        obtain ⟨HW, tv, trs, rv, rrs, hD⟩ := HK.out
        have hlen := hD.len
        have hlen2 := hD.tab.len
        have hlr := hD.len2
        have cR := rows_c hD.tab (by omega) hD.small
        have hrt := hD.rt
        obtain ⟨rp, rc, hrv, hrc⟩ := hrt.sl
        have hq : wr.cell? ⟨rb, 0, none⟩ = some (.slice rp rrs.length rc) := by rw [← hrv]; exact hrt.cell
        go_wp2_with fail
        refine cR.mono ?_
        rintro e w2 ⟨wv, wrs, rfl, hfw, how, hmw, hb2⟩
        have hwl : wrs.length = trs.length := fst_len hfw
        obtain ⟨g, cap, hwv, hOS⟩ := OwnSh.of_own how hmw (by omega)
        have cS := same_c (RowSl.of_own how hmw) (hrt.below hb2).rows (hfw.trans hD.same.symm) (by omega) (fun p hp => by have := small_fst2 hfw hD.small p hp; omega)
        have hq2 : w2.cell? ⟨rb, 0, none⟩ = some (.slice rp rrs.length rc) := (hb2.cell (p := ⟨rb, 0, none⟩) (World.block_lt_of_cell? wr _ hq)).trans hq
        rw [hrv, hwv] at cS
        subst hwv
        have HB2 : Hid (Below wr.heap.size wr w2) := hb2
        have HOS : Hid (OwnSh wr.heap.size w2.heap.size w2 g cap wrs 0) := hOS
        have HDD : Hid (Duo w.heap.size wr b mb tv trs rb rv rrs) := hD
        have HWW : Hid (Below w.heap.size w wr) := HW
        have HSM : Hid (∀ p ∈ wrs, p.1.mem.length ≤ 64) := fun p hp => small_fst2 hfw hD.small p hp
        have hle : wrs.length ≤ 512 := by omega
        clear cR hfw how hmw hb2 hD HW HK hwl hlen hlen2 hlr hrt hq hrv hOS
        go_wp2_with fail
        refine cS.mono ?_
        rintro e w3 ⟨rfl, hb3⟩
        have HO3 : Hid (OwnSh wr.heap.size w2.heap.size w3 g cap wrs 0) := HOS.out.kept (Nat.le_refl _) hb3
        have HB3 : Hid (Below wr.heap.size wr w3) := HB2.out.trans (hb3.mono HB2.out.size)
        have HZ3 : Hid (w2.heap.size ≤ w3.heap.size) := hb3.size
        have hlo : wr.heap.size ≤ w2.heap.size := HB2.out.size
        clear cS hb3 hq2 HOS HB2
        generalize w2.heap.size = hi at *
        obtain ⟨wz, hwz⟩ : ∃ x, x = wr := ⟨_, rfl⟩
        subst hwz
        have hcapn := HO3.out.capn
        go_wp2
        go_loopw [11] (fun j wr => ∃ (k : Nat), j = .int .i64 k ∧ k ≤ wrs.length ∧ Hid (OwnSh wz.heap.size hi wr g cap wrs 0) ∧ Hid (Below wz.heap.size wz wr) ∧ Hid (hi ≤ wr.heap.size)) (fun j _ => wrs.length - (intOf j).toNat)
        case atStart => exact ⟨0, rfl, Nat.zero_le _, HO3, HB3, HZ3⟩
        case round =>
          obtain ⟨k, rfl, hk2, HO4, HB4, HZ4⟩ := hrel
          by_cases hlt2 : k < wrs.length
          · obtain ⟨p, hp⟩ : ∃ p, wrs[k]? = some p := ⟨_, List.getElem?_eq_getElem hlt2⟩
            obtain ⟨w4, hw4⟩ : ∃ x, x = wr := ⟨_, rfl⟩
            subst hw4
            have HPM : Hid (p ∈ wrs) := List.mem_of_getElem? hp
            have HP : Hid (wrs[k]? = some p) := hp
            obtain ⟨cur, r1, r2, r3⟩ := HO4.out.rows
            obtain ⟨x0, hx0⟩ : ∃ x0, w4.cell? ⟨g, k * 6, none⟩ = some x0 := ⟨_, by rw [Lib.cell_of_heap r1]; exact Array.getElem?_eq_getElem (by omega)⟩
            have hfz : w4.frozen? ⟨g, k * 6, none⟩ = false := frozen_of r1 _
            have hkd := HO4.out.kind k (.int .i64 0)
            have HKD : Hid (OwnSh wz.heap.size hi (w4.setCell ⟨g, k * 6, none⟩ (.int .i64 0)) g cap wrs 0) := hkd.1
            have HKB : Hid (Below wz.heap.size wz (w4.setCell ⟨g, k * 6, none⟩ (.int .i64 0))) := turned_below HB4.out (Nat.le_refl _) hkd.2
            have HKZ : Hid (hi ≤ (w4.setCell ⟨g, k * 6, none⟩ (.int .i64 0)).heap.size) := Nat.le_trans HZ4.out hkd.2.size
            have hplen : p.1.mem.length ≤ 64 := HSM.out p HPM.out
            clear hkd r1 r2 r3 hp
            go_wp2
            go_loopw [12] (fun j wr => ∃ (m : Nat), j = .int .i64 m ∧ m ≤ p.1.mem.length ∧ Hid (OwnSh wz.heap.size hi wr g cap wrs 0) ∧ Hid (Below wz.heap.size wz wr) ∧ Hid (hi ≤ wr.heap.size)) (fun j _ => p.1.mem.length - (intOf j).toNat)
            case atStart => exact ⟨0, rfl, Nat.zero_le _, HKD, HKB, HKZ⟩
            case round =>
              obtain ⟨m, rfl, hm, HO5, HB5, HZ5⟩ := hrel
              obtain ⟨cur, r1, r2, r3⟩ := HO5.out.rows
              have q4 : wr.cell? ⟨g, k * 6 + 4, none⟩ = some p.2 := by rw [Lib.cell_of_heap r1]; exact r3 k p (Nat.zero_le _) HP.out
              have hme := HO5.out.mems p HPM.out
              clear r1 r2 r3 hx0 hfz
              rcases hme with ⟨hm0, hm1⟩ | ⟨h, hc, cur', hm0, hm1, hm2, hm3, hm4, hm5⟩
              · rw [hm0] at q4
                obtain rfl : m = 0 := by omega
                go_wp2
                exact ⟨⟨k + 1, by go_num, by omega, HO5, HB5, HZ5⟩, by simp [intOf]; omega⟩
              · rw [hm0] at q4
                by_cases hmlt : m < p.1.mem.length
                · have f0 : (wr.cell? ⟨h, m * 3 + 1, none⟩).isSome = true := (there_of (o := m * 3 + 1) (n := 1) hm2 (by omega) 0 (by omega)).1
                  obtain ⟨x1, hx1'⟩ := Option.isSome_iff_exists.1 f0
                  have hfz : wr.frozen? ⟨h, m * 3 + 1, none⟩ = false := frozen_of hm2 _
                  have hst := HO5.out.set hm2 hm4 hm5 (m * 3 + 1) (.int .i64 (-1))
                  have HST : Hid (OwnSh wz.heap.size hi (wr.setCell ⟨h, m * 3 + 1, none⟩ (.int .i64 (-1))) g cap wrs 0) := hst.1
                  have HTS : Hid (Below wz.heap.size wz (wr.setCell ⟨h, m * 3 + 1, none⟩ (.int .i64 (-1)))) := turned_below HB5.out (Nat.le_refl _) hst.2
                  have HTZ : Hid (hi ≤ (wr.setCell ⟨h, m * 3 + 1, none⟩ (.int .i64 (-1))).heap.size) := Nat.le_trans HZ5.out hst.2.size
                  clear hst f0 hm2
                  go_wp2
                  exact ⟨⟨m + 1, by go_num, by omega, HST, HTS, HTZ⟩, by simp [intOf]; omega⟩
                · obtain rfl : m = p.1.mem.length := by omega
                  go_wp2
                  exact ⟨⟨k + 1, by go_num, by omega, HO5, HB5, HZ5⟩, by simp [intOf]; omega⟩
          · obtain rfl : k = wrs.length := by omega
            have hDt := HDD.out.below HB4.out
            have hl5 := hDt.len
            have cL := like_c hDt.tab (by omega) hDt.small hDt.rt hDt.same
            have HBW : Hid (Below w.heap.size w wr) := HWW.out.trans (HB4.out.mono HWW.out.size)
            have cH := fun X (hX : Below w.heap.size w X) => heads_c X (Tabs.below HTB.out hX) (Names.below HNM.out hX)
            clear hDt HDD HO4 HB4 HZ4
            go_wp2_with (first
              | (go_at_call 11; refine cL.mono ?_; rintro e w5 ⟨rfl, hb5⟩; have HB5 : Hid (Below w.heap.size w w5) := HBW.out.trans (hb5.mono HBW.out.size); clear hb5)
              | (go_at_call 12; refine (cH _ HB5.out).mono ?_; rintro e w6 ⟨rfl, hb6⟩))
            go_ret
            exact ⟨rfl, HB5.out.trans (hb6.mono HB5.out.size)⟩
  · have hT : Hid (Two w b mb rb w1) := ⟨hb1, _, _, _, _, hD⟩
    clear HB hD hb1
    have heq := fun W => eqT_at ⟨b, 0, none⟩ W
    go_wp2_with fail
    clear heq
    go_loopw [8] (fun j wr => ∃ (k : Nat), j = .int .i64 k ∧ k ≤ xs.length ∧ Hid (Two w b mb rb wr)) (fun j _ => xs.length - (intOf j).toNat)
    case atStart => exact ⟨0, rfl, Nat.zero_le _, hT⟩
    case round =>
      obtain ⟨k, rfl, hk, HK⟩ := hrel
      by_cases hlt : k < xs.length
      · obtain ⟨x, hx⟩ : ∃ x, xs[k]? = some x := ⟨_, List.getElem?_eq_getElem hlt⟩
        have hxo := HA1.out x (List.mem_of_getElem? hx)
        obtain ⟨g, o, rfl, _, hmem⟩ := H1.out.at HK.out.1 hx
        have hcell : ∀ Y, Two w b mb rb Y → ∀ j, j < 5 → Y.cell? ⟨g, o + k * 5 + j, none⟩ = (acCells x.1 x.2)[j]? := by
          intro Y hY j hj
          obtain ⟨g', o', e, hc, _⟩ := H1.out.at hY.1 hx
          cases e
          exact hc j hj
        have hcap := hc1 (by omega)
        obtain ⟨sp, sn, sc, hsl⟩ := hmem.sl
        have cP : ∀ Y, Two w b mb rb Y → Calls Tryz.prog 7 #[.pointer (some ⟨b, 0, none⟩), .pointer (some ⟨rb, 0, none⟩), .agg (actC x.1.k x.1.a x.1.c x.1.s x.2)] Y fun e w2 => e = .returned (.bool true) ∧ Two w b mb rb w2 := by
          intro Y hY
          have hlow : Low w.heap.size Y x.2 x.1.l := (low_of hmem).kept (Turned.of_below hY.1 _)
          obtain ⟨tv, trs, rv, rrs, hD⟩ := hY.2
          exact (hplay hD x.1 hxo hlow).mono fun e w2 ⟨h1, h2⟩ => ⟨h1, hY.step h2⟩
        have cA : ∀ (id : Int) (nm : ByteArray), nm.size ≤ 9223372036854775807 → ∀ Y, Two w b mb rb Y → Calls Tryz.prog 8 #[.pointer (some ⟨b, 0, none⟩), .pointer (some ⟨rb, 0, none⟩), .int .i64 id, .string nm] Y fun e w2 => e = .returned (.bool true) ∧ Two w b mb rb w2 := by
          intro id nm hs Y hY
          obtain ⟨tv, trs, rv, rrs, hD⟩ := hY.2
          exact (asks_c hD (HTB.out.below hY.1) (HNM.out.below hY.1) id nm hs).mono fun e w2 ⟨h1, h2⟩ => ⟨h1, hY.below h2⟩
        have hz1 := hxo.s
        have hz2 : (⟨#[]⟩ : ByteArray).size ≤ 9223372036854775807 := by show 0 ≤ _; omega
        have hc0 : ∀ Y, Two w b mb rb Y → Y.cell? ⟨g, o + k * 5, none⟩ = some (.int .i64 x.1.k) := fun Y h => hcell Y h 0 (by omega)
        have hc1' : ∀ Y, Two w b mb rb Y → Y.cell? ⟨g, o + k * 5 + 1, none⟩ = some (.int .i64 x.1.a) := fun Y h => hcell Y h 1 (by omega)
        have hc2 : ∀ Y, Two w b mb rb Y → Y.cell? ⟨g, o + k * 5 + 2, none⟩ = some (.int .i64 x.1.c) := fun Y h => hcell Y h 2 (by omega)
        have hc3 : ∀ Y, Two w b mb rb Y → Y.cell? ⟨g, o + k * 5 + 3, none⟩ = some (.string x.1.s) := fun Y h => hcell Y h 3 (by omega)
        have hc4 : ∀ Y, Two w b mb rb Y → Y.cell? ⟨g, o + k * 5 + 4, none⟩ = some x.2 := fun Y h => hcell Y h 4 (by omega)
        rw [hsl] at hc4 cP
        unfold actC at cP
        have HTK : Two w b mb rb wr := HK.out
        clear hcell hmem hx hsl hxo
        obtain ⟨⟨xk, xa, xc, xt, xl⟩, xv⟩ := x
        simp only at cP hc0 hc1' hc2 hc3 hc4 hz1
        have HZ1 : Hid (xt.size ≤ 9223372036854775807) := hz1
        have HZ2 : Hid ((⟨#[]⟩ : ByteArray).size ≤ 9223372036854775807) := hz2
        clear hz1 hz2
        go_wp2
        go_region_held3 (fun Y => Two w b mb rb Y) (first | assumption | (with_reducible refine Two.drew ?_; assumption)) (first
          | (go_at_call 7; refine (cP _ (by assumption)).mono ?_; rintro e y1 ⟨rfl, hy1⟩)
          | (go_at_call 8; refine (cA _ _ (by first | exact HZ1.out | exact HZ2.out) _ (by assumption)).mono ?_; rintro e y2 ⟨rfl, hy2⟩))
        rename_i hHeld
        have HF : Hid (Two w b mb rb _) := hHeld
        clear hHeld HTK hc0 hc1' hc2 hc3 hc4 cP cA HZ1 HZ2
        go_wp2
        exact ⟨⟨k + 1, by go_num, by omega, HF⟩, by simp [intOf]; omega⟩
      · obtain rfl : k = xs.length := by omega
        obtain ⟨HW, tv, trs, rv, rrs, hD⟩ := HK.out
        have hlen := hD.len
        have hlen2 := hD.tab.len
        have hlr := hD.len2
        have cR := rows_c hD.tab (by omega) hD.small
        have hrt := hD.rt
        obtain ⟨rp, rc, hrv, hrc⟩ := hrt.sl
        have hq : wr.cell? ⟨rb, 0, none⟩ = some (.slice rp rrs.length rc) := by rw [← hrv]; exact hrt.cell
        go_wp2_with fail
        refine cR.mono ?_
        rintro e w2 ⟨wv, wrs, rfl, hfw, how, hmw, hb2⟩
        have hwl : wrs.length = trs.length := fst_len hfw
        obtain ⟨g, cap, hwv, hOS⟩ := OwnSh.of_own how hmw (by omega)
        have cS := same_c (RowSl.of_own how hmw) (hrt.below hb2).rows (hfw.trans hD.same.symm) (by omega) (fun p hp => by have := small_fst2 hfw hD.small p hp; omega)
        have hq2 : w2.cell? ⟨rb, 0, none⟩ = some (.slice rp rrs.length rc) := (hb2.cell (p := ⟨rb, 0, none⟩) (World.block_lt_of_cell? wr _ hq)).trans hq
        rw [hrv, hwv] at cS
        subst hwv
        have HB2 : Hid (Below wr.heap.size wr w2) := hb2
        have HOS : Hid (OwnSh wr.heap.size w2.heap.size w2 g cap wrs 0) := hOS
        have HDD : Hid (Duo w.heap.size wr b mb tv trs rb rv rrs) := hD
        have HWW : Hid (Below w.heap.size w wr) := HW
        have HSM : Hid (∀ p ∈ wrs, p.1.mem.length ≤ 64) := fun p hp => small_fst2 hfw hD.small p hp
        have hle : wrs.length ≤ 512 := by omega
        clear cR hfw how hmw hb2 hD HW HK hwl hlen hlen2 hlr hrt hq hrv hOS
        go_wp2_with fail
        refine cS.mono ?_
        rintro e w3 ⟨rfl, hb3⟩
        have HO3 : Hid (OwnSh wr.heap.size w2.heap.size w3 g cap wrs 0) := HOS.out.kept (Nat.le_refl _) hb3
        have HB3 : Hid (Below wr.heap.size wr w3) := HB2.out.trans (hb3.mono HB2.out.size)
        have HZ3 : Hid (w2.heap.size ≤ w3.heap.size) := hb3.size
        have hlo : wr.heap.size ≤ w2.heap.size := HB2.out.size
        clear cS hb3 hq2 HOS HB2
        generalize w2.heap.size = hi at *
        obtain ⟨wz, hwz⟩ : ∃ x, x = wr := ⟨_, rfl⟩
        subst hwz
        have hcapn := HO3.out.capn
        go_wp2
        go_loopw [11] (fun j wr => ∃ (k : Nat), j = .int .i64 k ∧ k ≤ wrs.length ∧ Hid (OwnSh wz.heap.size hi wr g cap wrs 0) ∧ Hid (Below wz.heap.size wz wr) ∧ Hid (hi ≤ wr.heap.size)) (fun j _ => wrs.length - (intOf j).toNat)
        case atStart => exact ⟨0, rfl, Nat.zero_le _, HO3, HB3, HZ3⟩
        case round =>
          obtain ⟨k, rfl, hk2, HO4, HB4, HZ4⟩ := hrel
          by_cases hlt2 : k < wrs.length
          · obtain ⟨p, hp⟩ : ∃ p, wrs[k]? = some p := ⟨_, List.getElem?_eq_getElem hlt2⟩
            obtain ⟨w4, hw4⟩ : ∃ x, x = wr := ⟨_, rfl⟩
            subst hw4
            have HPM : Hid (p ∈ wrs) := List.mem_of_getElem? hp
            have HP : Hid (wrs[k]? = some p) := hp
            obtain ⟨cur, r1, r2, r3⟩ := HO4.out.rows
            obtain ⟨x0, hx0⟩ : ∃ x0, w4.cell? ⟨g, k * 6, none⟩ = some x0 := ⟨_, by rw [Lib.cell_of_heap r1]; exact Array.getElem?_eq_getElem (by omega)⟩
            have hfz : w4.frozen? ⟨g, k * 6, none⟩ = false := frozen_of r1 _
            have hkd := HO4.out.kind k (.int .i64 0)
            have HKD : Hid (OwnSh wz.heap.size hi (w4.setCell ⟨g, k * 6, none⟩ (.int .i64 0)) g cap wrs 0) := hkd.1
            have HKB : Hid (Below wz.heap.size wz (w4.setCell ⟨g, k * 6, none⟩ (.int .i64 0))) := turned_below HB4.out (Nat.le_refl _) hkd.2
            have HKZ : Hid (hi ≤ (w4.setCell ⟨g, k * 6, none⟩ (.int .i64 0)).heap.size) := Nat.le_trans HZ4.out hkd.2.size
            have hplen : p.1.mem.length ≤ 64 := HSM.out p HPM.out
            clear hkd r1 r2 r3 hp
            go_wp2
            go_loopw [12] (fun j wr => ∃ (m : Nat), j = .int .i64 m ∧ m ≤ p.1.mem.length ∧ Hid (OwnSh wz.heap.size hi wr g cap wrs 0) ∧ Hid (Below wz.heap.size wz wr) ∧ Hid (hi ≤ wr.heap.size)) (fun j _ => p.1.mem.length - (intOf j).toNat)
            case atStart => exact ⟨0, rfl, Nat.zero_le _, HKD, HKB, HKZ⟩
            case round =>
              obtain ⟨m, rfl, hm, HO5, HB5, HZ5⟩ := hrel
              obtain ⟨cur, r1, r2, r3⟩ := HO5.out.rows
              have q4 : wr.cell? ⟨g, k * 6 + 4, none⟩ = some p.2 := by rw [Lib.cell_of_heap r1]; exact r3 k p (Nat.zero_le _) HP.out
              have hme := HO5.out.mems p HPM.out
              clear r1 r2 r3 hx0 hfz
              rcases hme with ⟨hm0, hm1⟩ | ⟨h, hc, cur', hm0, hm1, hm2, hm3, hm4, hm5⟩
              · rw [hm0] at q4
                obtain rfl : m = 0 := by omega
                go_wp2
                exact ⟨⟨k + 1, by go_num, by omega, HO5, HB5, HZ5⟩, by simp [intOf]; omega⟩
              · rw [hm0] at q4
                by_cases hmlt : m < p.1.mem.length
                · have f0 : (wr.cell? ⟨h, m * 3 + 1, none⟩).isSome = true := (there_of (o := m * 3 + 1) (n := 1) hm2 (by omega) 0 (by omega)).1
                  obtain ⟨x1, hx1'⟩ := Option.isSome_iff_exists.1 f0
                  have hfz : wr.frozen? ⟨h, m * 3 + 1, none⟩ = false := frozen_of hm2 _
                  have hst := HO5.out.set hm2 hm4 hm5 (m * 3 + 1) (.int .i64 (-1))
                  have HST : Hid (OwnSh wz.heap.size hi (wr.setCell ⟨h, m * 3 + 1, none⟩ (.int .i64 (-1))) g cap wrs 0) := hst.1
                  have HTS : Hid (Below wz.heap.size wz (wr.setCell ⟨h, m * 3 + 1, none⟩ (.int .i64 (-1)))) := turned_below HB5.out (Nat.le_refl _) hst.2
                  have HTZ : Hid (hi ≤ (wr.setCell ⟨h, m * 3 + 1, none⟩ (.int .i64 (-1))).heap.size) := Nat.le_trans HZ5.out hst.2.size
                  clear hst f0 hm2
                  go_wp2
                  exact ⟨⟨m + 1, by go_num, by omega, HST, HTS, HTZ⟩, by simp [intOf]; omega⟩
                · obtain rfl : m = p.1.mem.length := by omega
                  go_wp2
                  exact ⟨⟨k + 1, by go_num, by omega, HO5, HB5, HZ5⟩, by simp [intOf]; omega⟩
          · obtain rfl : k = wrs.length := by omega
            have hDt := HDD.out.below HB4.out
            have hl5 := hDt.len
            have cL := like_c hDt.tab (by omega) hDt.small hDt.rt hDt.same
            have HBW : Hid (Below w.heap.size w wr) := HWW.out.trans (HB4.out.mono HWW.out.size)
            have cH := fun X (hX : Below w.heap.size w X) => heads_c X (Tabs.below HTB.out hX) (Names.below HNM.out hX)
            clear hDt HDD HO4 HB4 HZ4
            go_wp2_with (first
              | (go_at_call 11; refine cL.mono ?_; rintro e w5 ⟨rfl, hb5⟩; have HB5 : Hid (Below w.heap.size w w5) := HBW.out.trans (hb5.mono HBW.out.size); clear hb5)
              | (go_at_call 12; refine (cH _ HB5.out).mono ?_; rintro e w6 ⟨rfl, hb6⟩))
            go_ret
            exact ⟨rfl, HB5.out.trans (hb6.mono HB5.out.size)⟩
end
end Go.Proofs.YtdfkkflpcamhjaaGreatDoor
