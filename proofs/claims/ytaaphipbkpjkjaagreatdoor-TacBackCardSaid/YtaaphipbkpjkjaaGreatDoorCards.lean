/-
  DERIVED. GIVEN WITH THE SEED: THE CARDS: each row of YtaaphipbkpjkjaaGreatDoorRows.lean that lists a variable, with what it lists TIED to the program's text (the seventh form; the later family's looks); each row that meets fmt, with fmt's text TOLD by the authors' own Lean function (tested against real Go, not proved from fmt's source: count such statements apart). THE CARD IS WHAT COUNTS. Prove the row's statement (the work); the ties are given (YtaaphipbkpjkjaaGreatDoorTie.lean); close each card by the builder's one call (the guide's Derived/Test/ToyasCard.lean, 'card_holds'). Laid BY PROGRAM, IN A SANDBOX (cutbox-door.mjs). By AI agents, Wed Nov 11 2026. No macro, syntax, notation, axiom, sorry.
-/
import Derived.Test.YtaaphipbkpjkjaaGreatDoorRows
import GoSem.ClaimSeven
namespace Go.Proofs.YtaaphipbkpjkjaaGreatDoor
namespace Rows

/-- THE TIED CARD OF 'mortiselaw13.TacNexts'. -/
def tacNextsCard : Claim7 := { stood := { row := tacNextsRow, standIns := [], harness := (true, "ca3f434d4441624533f507e479bfd945cf22dc0da92a06fdea51e47b69cff95a"), looks := true }, kinds := [], alts := [], laidByText := true, laidKinds := [.data, .data, .data, .data, .data, .sentinel, .sentinel, .data, .pinned], laidTests := true, laidLooks := .later }
def TacNextsCardSaid : Prop := Claim7.holds Tryz.pinned (.plain (OpenSpec.ofChange tacNextsSpec)) tacNextsCard

/-- THE TIED CARD OF 'mortiselaw13.TacChecks'. -/
def tacChecksCard : Claim7 := { stood := { row := tacChecksRow, standIns := [], harness := (true, "ca3f434d4441624533f507e479bfd945cf22dc0da92a06fdea51e47b69cff95a"), looks := true }, kinds := [], alts := [], laidByText := true, laidKinds := [.data, .data, .data, .data, .data, .sentinel, .sentinel, .data, .pinned], laidTests := true, laidLooks := .later }
def TacChecksCardSaid : Prop := Claim7.holds Tryz.pinned (.plain (OpenSpec.ofChange tacChecksSpec)) tacChecksCard

/-- THE TIED CARD OF 'mortiselaw13.TacAsks'. -/
def tacAsksCard : Claim7 := { stood := { row := tacAsksRow, standIns := [], harness := (true, "ca3f434d4441624533f507e479bfd945cf22dc0da92a06fdea51e47b69cff95a"), looks := true }, kinds := [], alts := [], laidByText := true, laidKinds := [.data, .data, .data, .data, .data, .sentinel, .sentinel, .data, .pinned], laidTests := true, laidLooks := .later }
def TacAsksCardSaid : Prop := Claim7.holds Tryz.pinned (.plain (OpenSpec.ofChange tacAsksSpec)) tacAsksCard

/-- THE TIED CARD OF 'mortiselaw13.TacPrints'. -/
def tacPrintsCard : Claim7 := { stood := { row := tacPrintsRow, standIns := [], harness := (true, "ca3f434d4441624533f507e479bfd945cf22dc0da92a06fdea51e47b69cff95a"), looks := true }, kinds := [], alts := [], laidByText := true, laidKinds := [.data, .data, .data, .data, .data, .sentinel, .sentinel, .data, .pinned], laidTests := true, laidLooks := .later }
def TacPrintsCardSaid : Prop := Claim7.holds Tryz.pinned (.plain (OpenSpec.ofChange tacPrintsSpec)) tacPrintsCard

/-- THE TIED CARD OF 'mortiselaw13.TacParses'. -/
def tacParsesCard : Claim7 := { stood := { row := tacParsesRow, standIns := [], harness := (true, "ca3f434d4441624533f507e479bfd945cf22dc0da92a06fdea51e47b69cff95a"), looks := true }, kinds := [], alts := [], laidByText := true, laidKinds := [.data, .data, .data, .data, .data, .sentinel, .sentinel, .data, .pinned], laidTests := true, laidLooks := .later }
def TacParsesCardSaid : Prop := Claim7.holds Tryz.pinned (.plain (OpenSpec.ofChange tacParsesSpec)) tacParsesCard

/-- THE TIED CARD OF 'mortiselaw13.TacBack'. -/
def tacBackCard : Claim7 := { stood := { row := tacBackRow, standIns := [], harness := (true, "ca3f434d4441624533f507e479bfd945cf22dc0da92a06fdea51e47b69cff95a"), looks := true }, kinds := [], alts := [], laidByText := true, laidKinds := [.data, .data, .data, .data, .data, .sentinel, .sentinel, .data, .pinned], laidTests := true, laidLooks := .later }
def TacBackCardSaid : Prop := Claim7.holds Tryz.pinned (.plain (OpenSpec.ofChange tacBackSpec)) tacBackCard

/-- THE SECOND FORM's CARD OF 'mortiselaw13.TacNexts'. -/
def tacNextsUptoCard : Claim7 := { stood := { row := tacNextsUptoRow, standIns := [], harness := (true, "ca3f434d4441624533f507e479bfd945cf22dc0da92a06fdea51e47b69cff95a"), looks := true }, kinds := [], alts := [], laidByText := true, laidKinds := [.data, .data, .data, .data, .data, .sentinel, .sentinel, .data, .pinned], laidTests := true, laidLooks := .later }
def TacNextsUptoCardSaid : Prop := Claim7.holds Tryz.pinned (.plain (OpenSpec.upto tacNextsSpec)) tacNextsUptoCard

/-- THE SECOND FORM's CARD OF 'mortiselaw13.TacChecks'. -/
def tacChecksUptoCard : Claim7 := { stood := { row := tacChecksUptoRow, standIns := [], harness := (true, "ca3f434d4441624533f507e479bfd945cf22dc0da92a06fdea51e47b69cff95a"), looks := true }, kinds := [], alts := [], laidByText := true, laidKinds := [.data, .data, .data, .data, .data, .sentinel, .sentinel, .data, .pinned], laidTests := true, laidLooks := .later }
def TacChecksUptoCardSaid : Prop := Claim7.holds Tryz.pinned (.plain (OpenSpec.upto tacChecksSpec)) tacChecksUptoCard

/-- THE SECOND FORM's CARD OF 'mortiselaw13.TacAsks'. -/
def tacAsksUptoCard : Claim7 := { stood := { row := tacAsksUptoRow, standIns := [], harness := (true, "ca3f434d4441624533f507e479bfd945cf22dc0da92a06fdea51e47b69cff95a"), looks := true }, kinds := [], alts := [], laidByText := true, laidKinds := [.data, .data, .data, .data, .data, .sentinel, .sentinel, .data, .pinned], laidTests := true, laidLooks := .later }
def TacAsksUptoCardSaid : Prop := Claim7.holds Tryz.pinned (.plain (OpenSpec.upto tacAsksSpec)) tacAsksUptoCard

/-- THE SECOND FORM's CARD OF 'mortiselaw13.TacPrints'. -/
def tacPrintsUptoCard : Claim7 := { stood := { row := tacPrintsUptoRow, standIns := [], harness := (true, "ca3f434d4441624533f507e479bfd945cf22dc0da92a06fdea51e47b69cff95a"), looks := true }, kinds := [], alts := [], laidByText := true, laidKinds := [.data, .data, .data, .data, .data, .sentinel, .sentinel, .data, .pinned], laidTests := true, laidLooks := .later }
def TacPrintsUptoCardSaid : Prop := Claim7.holds Tryz.pinned (.plain (OpenSpec.upto tacPrintsSpec)) tacPrintsUptoCard

/-- THE SECOND FORM's CARD OF 'mortiselaw13.TacParses'. -/
def tacParsesUptoCard : Claim7 := { stood := { row := tacParsesUptoRow, standIns := [], harness := (true, "ca3f434d4441624533f507e479bfd945cf22dc0da92a06fdea51e47b69cff95a"), looks := true }, kinds := [], alts := [], laidByText := true, laidKinds := [.data, .data, .data, .data, .data, .sentinel, .sentinel, .data, .pinned], laidTests := true, laidLooks := .later }
def TacParsesUptoCardSaid : Prop := Claim7.holds Tryz.pinned (.plain (OpenSpec.upto tacParsesSpec)) tacParsesUptoCard

/-- THE SECOND FORM's CARD OF 'mortiselaw13.TacBack'. -/
def tacBackUptoCard : Claim7 := { stood := { row := tacBackUptoRow, standIns := [], harness := (true, "ca3f434d4441624533f507e479bfd945cf22dc0da92a06fdea51e47b69cff95a"), looks := true }, kinds := [], alts := [], laidByText := true, laidKinds := [.data, .data, .data, .data, .data, .sentinel, .sentinel, .data, .pinned], laidTests := true, laidLooks := .later }
def TacBackUptoCardSaid : Prop := Claim7.holds Tryz.pinned (.plain (OpenSpec.upto tacBackSpec)) tacBackUptoCard
end Rows
end Go.Proofs.YtaaphipbkpjkjaaGreatDoor
