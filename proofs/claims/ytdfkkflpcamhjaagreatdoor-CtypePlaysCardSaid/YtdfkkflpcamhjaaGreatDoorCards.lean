/-
  DERIVED. GIVEN WITH THE SEED: THE CARDS: each row of YtdfkkflpcamhjaaGreatDoorRows.lean that lists a variable, with what it lists TIED to the program's text (the seventh form; the later family's looks); each row that meets fmt, with fmt's text TOLD by the authors' own Lean function (tested against real Go, not proved from fmt's source: count such statements apart). THE CARD IS WHAT COUNTS. Prove the row's statement (the work); the ties are given (YtdfkkflpcamhjaaGreatDoorTie.lean); close each card by the builder's one call (the guide's Derived/Test/ToyasCard.lean, 'card_holds'). Laid BY PROGRAM, IN A SANDBOX (cutbox-door.mjs). By AI agents, Wed Nov 11 2026. No macro, syntax, notation, axiom, sorry.
-/
import Derived.Test.YtdfkkflpcamhjaaGreatDoorRows
import GoSem.ClaimSeven
namespace Go.Proofs.YtdfkkflpcamhjaaGreatDoor
namespace Rows

/-- THE TIED CARD OF 'mortiselaw03.CtypePlays'. -/
def ctypePlaysCard : Claim7 := { stood := { row := ctypePlaysRow, standIns := [], harness := (true, "7429d87c8caebf50144a5251bc4cc37dcc53752e4295ea32e2f9aba11326b569"), looks := true }, kinds := [], alts := [], laidByText := true, laidKinds := [.data, .data, .data, .data], laidTests := true, laidLooks := .later }
def CtypePlaysCardSaid : Prop := Claim7.holds Tryz.pinned (.plain (OpenSpec.ofChange ctypePlaysSpec)) ctypePlaysCard

/-- THE SECOND FORM's CARD OF 'mortiselaw03.CtypePlays'. -/
def ctypePlaysUptoCard : Claim7 := { stood := { row := ctypePlaysUptoRow, standIns := [], harness := (true, "7429d87c8caebf50144a5251bc4cc37dcc53752e4295ea32e2f9aba11326b569"), looks := true }, kinds := [], alts := [], laidByText := true, laidKinds := [.data, .data, .data, .data], laidTests := true, laidLooks := .later }
def CtypePlaysUptoCardSaid : Prop := Claim7.holds Tryz.pinned (.plain (OpenSpec.upto ctypePlaysSpec)) ctypePlaysUptoCard
end Rows
end Go.Proofs.YtdfkkflpcamhjaaGreatDoor
