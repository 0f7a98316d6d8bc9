/-
  refusal: why a struct or a union may not have these members.
-/
import Derived.Test.YtlcghlfmaohfeaaGreatHIsnamed
import Derived.Test.YtlcghlfmaohfeaaGreatHGraph
import Derived.Deep.RegionWith
import Derived.Laws.Slices
namespace Go.Proofs.YtlcghlfmaohfeaaGreat
open Go.RowKit Go.Maps
set_option linter.unusedVariables false
set_option maxRecDepth 100000

def memberErr (rs : List (Rw × Value)) (pre : List Mb) (m : Mb) : Int :=
  if hasP rs.length m.type = false then 30 else if wholeP rs m.type = false then 50 else if bitsP (kindP rs m.type) m.bits = false then 52 else if namedP m pre = false then 31 else 0
def refusFrom (rs : List (Rw × Value)) : List Mb → List Mb → Int
  | _, [] => 0
  | pre, m :: r => if memberErr rs pre m = 0 then refusFrom rs (pre ++ [m]) r else memberErr rs pre m
def refusP (rs : List (Rw × Value)) (l : List Mb) : Int := if l.length < 1 ∨ 64 < l.length then 2 else refusFrom rs [] l

theorem refusFrom_step (rs : List (Rw × Value)) (l : List Mb) (k : Nat) (m : Mb) (hm : l[k]? = some m) :
    refusFrom rs (l.take k) (l.drop k) = if memberErr rs (l.take k) m = 0 then refusFrom rs (l.take (k + 1)) (l.drop (k + 1)) else memberErr rs (l.take k) m := by
  have hlt : k < l.length := (List.getElem?_eq_some_iff.1 hm).1
  have e : l[k] = m := (List.getElem?_eq_some_iff.1 hm).2
  rw [List.drop_eq_getElem_cons hlt, e]
  simp only [refusFrom]
  rw [List.take_add_one, hm]; rfl
theorem MemSl.take {w : World} {v : Value} {l : List Mb} {g o cap : Nat} (hv : v = .slice (some ⟨g, o, none⟩) l.length cap) (hcap : l.length ≤ cap) (hg : g < w.heap.size)
    (hcell : ∀ i m, l[i]? = some m → ∀ j, j < 3 → w.cell? ⟨g, o + i * 3 + j, none⟩ = (mbCells m)[j]?) (k : Nat) (hk : k ≤ l.length) : MemSl w (.slice (some ⟨g, o, none⟩) k cap) (l.take k) :=
  Or.inr ⟨g, o, cap, by simp [Nat.min_eq_left hk], by simp; omega, hg, fun i m hm j hj => hcell i m (by
    rw [List.getElem?_take] at hm; split at hm
    · exact hm
    · cases hm) j hj⟩

theorem slice_mem (ga oa n cap k : Nat) (hk : k ≤ cap) (W : World) :
    (Instr.sliceAt 73 (.slice (some ⟨ga, oa, none⟩) n cap) none (some (.int .i64 k)) none).run Tryz.prog W = .ok (.slice (some ⟨ga, oa, none⟩) k cap) W := by
  have h2 : (Instr.sliceAt 73 (.slice (some ⟨ga, oa, none⟩) n cap) none (some (.int .i64 (k : Int))) none).run Tryz.prog W = (Instr.slice 73 (.slice (some ⟨ga, oa, none⟩) n cap) none (some (.int .i64 (k : Int))) none).run Tryz.prog W := by simp [Instr.sliceAt, run_underlying Tryz.underlying73]
  have ht : Tryz.prog.underlying 73 = some (.slice (Tryz.prog.elem 73)) := by kernel_rfl
  have hz : (sizeOf (Tryz.prog.elem 73)).run Tryz.prog W = .ok 3 W := by kernel_rfl
  rw [h2, run_slice_h W 73 (some ⟨ga, oa, none⟩) n cap ht .i64 k (by omega) (by omega), hz]
  simp [sliced, Result.andThen, Addr.add]

section
variable {B : Nat} {w : World} {b mb : Nat} {v : Value} {rs : List (Rw × Value)} {ps : List (Value × Value)}

set_option maxHeartbeats 1000000 in
theorem refusal_c (h : Tab B w b mb v rs ps) (h0 : 0 < rs.length) {x : Value} {l : List Mb} (hl : MemSl w x l) (hs : ∀ m ∈ l, m.name.size ≤ 9223372036854775807) (hbig : l.length ≤ 9223372036854775807) :
    Calls Tryz.prog 53 #[.pointer (some ⟨b, 0, none⟩), x] w fun e w' => e = .returned (.int .i64 (refusP rs l)) ∧ Below w.heap.size w w' := by
  by_cases hn : l.length < 1 ∨ 64 < l.length
  · have hr : refusP rs l = 2 := if_pos hn
    rw [hr]
    rcases hl with ⟨rfl, rfl⟩ | ⟨ga, oa, cap, rfl, hcap, hg, hcell⟩
    · go_enter Tryz.func53, Tryz.ntmps53
      go_wp2
      go_ret
      exact ⟨rfl, Below.refl _ _⟩
    · go_enter Tryz.func53, Tryz.ntmps53
      rcases hn with hn | hn
      all_goals go_wp2
      all_goals go_ret
      all_goals exact ⟨rfl, Below.refl _ _⟩
  · have hr : refusP rs l = refusFrom rs [] l := if_neg hn
    rw [hr]
    have hn1 : 1 ≤ l.length := by omega
    have hn2 : l.length ≤ 64 := by omega
    rcases hl with ⟨rfl, rfl⟩ | ⟨ga, oa, cap, hx, hcap, hg, hcell⟩
    · simp at hn1
    · clear hn hr hbig
      subst hx
      go_enter Tryz.func53, Tryz.ntmps53
      go_wp2
      have h1 := not_f
      have h2 := not_t
      go_loopw [17] (fun i wr => ∃ k : Nat, i = .int .i64 k ∧ k ≤ l.length ∧ Hid (refusFrom rs [] l = refusFrom rs (l.take k) (l.drop k)) ∧ Hid (Below w.heap.size w wr)) (fun i _ => l.length - (intOf i).toNat)
      case atStart => exact ⟨0, rfl, Nat.zero_le _, by simp [Hid], Below.refl _ _⟩
      case round =>
        obtain ⟨k, rfl, hk, hR, HB⟩ := hrel
        by_cases hlt : k < l.length
        · obtain ⟨m, hm⟩ : ∃ m, l[k]? = some m := ⟨_, List.getElem?_eq_getElem hlt⟩
          have HN : Hid (refusFrom rs (l.take k) (l.drop k) = if memberErr rs (l.take k) m = 0 then refusFrom rs (l.take (k + 1)) (l.drop (k + 1)) else memberErr rs (l.take k) m) := refusFrom_step rs l k m hm
          have hms := hs m (List.mem_of_getElem? hm)
          have HP : Hid (MemSl wr (.slice (some ⟨ga, oa, none⟩) k cap) (l.take k)) := (MemSl.take rfl hcap hg hcell k hk).below HB.out
          have HT : Hid (Tab B wr b mb v rs ps) := h.keptB HB.out
          have q := fun j hj => (HB.out.cell (p := ⟨ga, oa + k * 3 + j, none⟩) hg).trans (hcell k m hm j hj)
          have a0 := q 0 (by omega)
          have a1 := q 1 (by omega)
          have a2 := q 2 (by omega)
          simp only [mbCells, Nat.add_zero, List.getElem?_cons_zero, List.getElem?_cons_succ] at a0 a1 a2
          have hb0 := h0
          clear q hcell hm hs h
          have hold := heap_r0 wr (.cells #[.string ⟨#[]⟩, .int .i64 0, .int .i64 0] TM)
          go_wp2_with (first | ((with_reducible apply step_store hold); rfl; rfl; kernel_rfl; rfl; kernel_rfl; rw [World.setRow_alloc_new]) | fail)
          clear hold a0 a1 a2
          have hsl := slice_mem ga oa l.length cap k (by omega)
          have e1 := heap_r0 wr (.cells #[.string m.name, .int .i64 m.type, .int .i64 m.bits] TM)
          have HB1 : Hid (Below w.heap.size w (wr.alloc (.cells #[.string m.name, .int .i64 m.type, .int .i64 m.bits] TM))) := HB.out.alloc HB.out.size _
          have hT : Tab B (wr.alloc (.cells #[.string m.name, .int .i64 m.type, .int .i64 m.bits] TM)) b mb v rs ps := HT.out.alloc _
          have HP1 : Hid (MemSl (wr.alloc (.cells #[.string m.name, .int .i64 m.type, .int .i64 m.bits] TM)) (.slice (some ⟨ga, oa, none⟩) k cap) (l.take k)) := HP.out.below ((Below.refl _ wr).alloc (Nat.le_refl _) _)
          generalize wr.alloc (.cells #[.string m.name, .int .i64 m.type, .int .i64 m.bits] TM) = W at *
          have a0 : W.cell? ⟨wr.heap.size, 0, none⟩ = some (.string m.name) := by rw [Lib.cell_of_heap e1]; rfl
          have a1 : W.cell? ⟨wr.heap.size, 1, none⟩ = some (.int .i64 m.type) := by rw [Lib.cell_of_heap e1]; rfl
          have a2 : W.cell? ⟨wr.heap.size, 2, none⟩ = some (.int .i64 m.bits) := by rw [Lib.cell_of_heap e1]; rfl
          have cH := has_c hT hb0 m.type
          have cW := whole_c hT hb0 m.type
          have cK := fun q => kind_c (hT.drewN q) hb0 m.type
          have cB := fun q => isBits_c (kindP rs m.type) m.bits (W.drewN q)
          have cN := fun W' (hb : Below W.heap.size W W') => isNamed_c m (HP1.out.below hb) (by simp; omega) hms
          have HE : Hid (memberErr rs (l.take k) m = if hasP rs.length m.type = false then 30 else if wholeP rs m.type = false then 50 else if bitsP (kindP rs m.type) m.bits = false then 52 else if namedP m (l.take k) = false then 31 else 0) := rfl
          clear HP HT HP1 hT e1
          generalize namedP m (l.take k) = x4 at *
          generalize bitsP (kindP rs m.type) m.bits = x3 at *
          generalize wholeP rs m.type = x2 at *
          generalize hasP rs.length m.type = x1 at *
          refine cH.mono ?_
          rintro e w' ⟨rfl, rfl⟩
          cases x1
          · go_wp2
            go_ret
            exact ⟨int_ret (by rw [hR.out, HN.out, HE.out]; rfl), HB1.out⟩
          · go_wp2_with fail
            refine cW.mono ?_
            rintro e w1 ⟨rfl, rfl⟩
            cases x2
            · go_wp2
              go_ret
              exact ⟨int_ret (by rw [hR.out, HN.out, HE.out]; rfl), HB1.out⟩
            · cases x3
              · go_wp2
                go_quiet (first | (go_at_call 52; refine Calls.quiet_of_same (cK _)) | (go_at_call 84; refine Calls.quiet_of_same (cB _)))
                go_wp2
                go_ret
                exact ⟨int_ret (by rw [hR.out, HN.out, HE.out]; rfl), HB1.out.trans (below_drewN _ _ _)⟩
              · go_wp2
                go_quiet (first | (go_at_call 52; refine Calls.quiet_of_same (cK _)) | (go_at_call 84; refine Calls.quiet_of_same (cB _)))
                clear cK cB cH cW
                cases x4
                · go_wp2
                  go_region_with (go_at_call 85; refine (cN _ (below_drewN _ _ _)).mono ?_; rintro e w2 ⟨rfl, hb2⟩)
                  all_goals go_wp2
                  all_goals go_ret
                  all_goals exact ⟨int_ret (by rw [hR.out, HN.out, HE.out]; rfl), (HB1.out.trans (below_drewN _ _ _)).trans (hb2.mono HB1.out.size)⟩
                · go_wp2
                  go_region_with (go_at_call 85; refine (cN _ (below_drewN _ _ _)).mono ?_; rintro e w2 ⟨rfl, hb2⟩)
                  all_goals go_wp2
                  all_goals refine ⟨⟨k + 1, by go_num, by omega, ?_, ?_⟩, by simp [intOf]; omega⟩
                  all_goals first
                  | (show _ = _; rw [hR.out, HN.out, HE.out]; rfl)
                  | exact (HB1.out.trans (below_drewN _ _ _)).trans (hb2.mono HB1.out.size)
        · go_wp2
          go_ret
          refine ⟨int_ret ?_, HB.out⟩
          rw [hR.out, List.drop_eq_nil_of_le (by omega)]; rfl
end
end Go.Proofs.YtlcghlfmaohfeaaGreat
