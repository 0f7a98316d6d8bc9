/-
  copyMembers, of no members too: memory of its own.
-/
import Derived.Test.YtpnpilbmhkiphaaGreatDoorComplete
namespace Go.Proofs.YtpnpilbmhkiphaaGreatDoor
open Go.RowKit Go.Maps
set_option linter.unusedVariables false
set_option maxRecDepth 100000

section
variable {w : World}
theorem copyMembers_any {x : Value} {l : List Mb} (hl : MemSl w x l) (hn : l.length * 32 ≤ 140737488355328) :
    Calls Tryz.prog 122 #[x] w fun e w' => ∃ s, e = .returned s ∧ w'.ownsRow w.heap.size TM 3 s l.length (memCells l) ∧ Below w.heap.size w w' := by
  obtain ⟨i0, hi, hz0, hz1, hz2⟩ := info_parts infoTM
  rcases hl with ⟨rfl, rfl⟩ | ⟨ga, oa, cap, rfl, hcap, hg, hcell⟩
  · go_enter Tryz.func122, Tryz.ntmps122
    go_wp2
    go_ret
    exact ⟨_, rfl, World.ownsRow_nil _ _ _ _, Below.refl _ _⟩
  · have hcs := MemSl.cells (x := .bool true) (cap := 0) hcell
    go_enter Tryz.func122, Tryz.ntmps122
    clear hcell
    go_wp2_with (at_builtin; go_must (refine wpList_append_own_at _ rfl (.const (.slice none 0 0)) (.tmp 3) 65 rfl w.heap.size TM i0 _ 3 32 Tryz.underlying65 hi hz0 hz1 hz2 rfl (by decide) (.slice none 0 0) 0 [] rfl (World.ownsRow_nil _ _ _ _) ⟨ga, oa, none⟩ l.length cap (memCells l) rfl (memCells_length l) hcs (mem_one l) (by unfold maxLen; omega) (by omega) (Nat.le_refl _) ?_); intro s w' hown hgrow hnil hat)
    go_ret
    refine ⟨_, rfl, by simpa using hown, ⟨hgrow.os, hgrow.tape, hgrow.output, hgrow.size, fun k hk => hgrow.block k hk (by simp [Value.ownBlock])⟩⟩

end
end Go.Proofs.YtpnpilbmhkiphaaGreatDoor
