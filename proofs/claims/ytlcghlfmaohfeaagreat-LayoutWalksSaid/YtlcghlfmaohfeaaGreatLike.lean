/-
  The law's Like: has a program's table the given answer's rows?
-/
import Derived.Test.YtlcghlfmaohfeaaGreatHLyA
import Derived.Test.YtlcghlfmaohfeaaGreatHRefKind
import Derived.Test.YtlcghlfmaohfeaaGreatHFrom
namespace Go.Proofs.YtlcghlfmaohfeaaGreat
open Go.RowKit Go.Maps
set_option linter.unusedVariables false
set_option maxRecDepth 100000

section
variable {B : Nat} {w : World} {b mb rb : Nat} {v v2 : Value} {rs rs2 : List (Rw × Value)} {ps : List (Value × Value)}
set_option maxHeartbeats 2000000 in
theorem like_c (h : Tab B w b mb v rs ps) (h0 : 0 < rs.length) (hs : Small rs) (h2 : RT w rb v2 rs2) (hf : rs2.map (·.1) = rs.map (·.1)) :
    Calls Tryz.prog 16 #[.pointer (some ⟨b, 0, none⟩), .pointer (some ⟨rb, 0, none⟩)] w fun e w' => e = .returned (.bool true) ∧ Below w.heap.size w w' := by
  have hl := h.len
  have hl2 := h2.len
  have hlen : rs2.length = rs.length := fst_len hf
  have cR := fun X (hX : Below w.heap.size w X) => rows_c (h.keptB hX) h0 hs
  have cL := fun X (hX : Below w.heap.size w X) => len_c (h.keptB hX) h0
  have hc := h2.cell
  have hrb : rb < w.heap.size := World.block_lt_of_cell? w _ hc
  obtain ⟨p2, c2, hv2, _⟩ := h2.sl
  have HS : Hid (∀ X v' rs', Below w.heap.size w X → rs'.map (·.1) = rs.map (·.1) → X.ownsRow w.heap.size TR 6 v' rs'.length (allCells rs') → (∀ p ∈ rs', X.ownsRow w.heap.size TM 3 p.2 p.1.mem.length (memCells p.1.mem)) →
      Calls Tryz.prog 35 #[v', v2] X fun e w' => e = .returned (.bool true) ∧ Below X.heap.size X w') := by
    intro X v' rs' hX hfst h3 h4
    refine same_c (RowSl.of_own h3 h4) (h2.rows.below hX) (hfst.trans hf.symm) (by have := fst_len hfst; omega) (fun p hp => ?_)
    have hm : p.1 ∈ rs'.map (·.1) := List.mem_map.2 ⟨p, hp, rfl⟩
    rw [hfst] at hm
    obtain ⟨q, hq, hq2⟩ := List.mem_map.1 hm
    have := hs q hq
    rw [← hq2]; omega
  rw [hv2] at hc HS
  rw [hlen] at hc HS
  clear h h2 hf hv2
  go_enter Tryz.func16, Tryz.ntmps16
  go_wp2
  go_region_with (first
    | (go_at_call 36; refine (cR _ (by exact below_drew _ w)).mono ?_; rintro e w2 ⟨v', rs', rfl, x1, x2, x3, x4⟩; have HB2 : Hid (Below w.heap.size w w2) := (below_drew _ w).trans x4; have q2 := (HB2.out.cell (p := ⟨rb, 0, none⟩) hrb).trans hc; have HSS : Hid (Calls Tryz.prog 35 #[v', .slice p2 rs.length c2] w2 fun e w' => e = .returned (.bool true) ∧ Below w2.heap.size w2 w') := HS.out w2 v' rs' HB2.out x1 x2 x3; clear x1 x2 x3 x4)
    | (go_at_call 35; refine HSS.out.mono ?_; rintro e w3 ⟨rfl, hb3⟩; have HB3 : Hid (Below w.heap.size w w3) := HB2.out.trans (hb3.mono HB2.out.size); have q3 := (HB3.out.cell (p := ⟨rb, 0, none⟩) hrb).trans hc; clear hb3)
    | (go_at_call 37; refine (cL _ HB3.out).mono ?_; rintro e w4 ⟨rfl, rfl⟩))
  all_goals go_wp2
  all_goals go_ret
  all_goals exact ⟨rfl, HB3.out⟩
end
end Go.Proofs.YtlcghlfmaohfeaaGreat
