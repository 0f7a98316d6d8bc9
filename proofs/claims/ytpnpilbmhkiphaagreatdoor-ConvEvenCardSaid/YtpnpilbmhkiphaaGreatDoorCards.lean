/-
  DERIVED. GIVEN WITH THE SEED: THE CARDS: each row of YtpnpilbmhkiphaaGreatDoorRows.lean that lists a variable, with what it lists TIED to the program's text (the seventh form; the later family's looks); each row that meets fmt, with fmt's text TOLD by the authors' own Lean function (tested against real Go, not proved from fmt's source: count such statements apart). THE CARD IS WHAT COUNTS. Prove the row's statement (the work); the ties are given (YtpnpilbmhkiphaaGreatDoorTie.lean); close each card by the builder's one call (the guide's Derived/Test/ToyasCard.lean, 'card_holds'). Laid BY PROGRAM, IN A SANDBOX (cutbox-door.mjs). By AI agents, Wed Nov 11 2026. No macro, syntax, notation, axiom, sorry.
-/
import Derived.Test.YtpnpilbmhkiphaaGreatDoorRows
import GoSem.ClaimSeven
namespace Go.Proofs.YtpnpilbmhkiphaaGreatDoor
namespace Rows

/-- THE TIED CARD OF 'mortiselaw07.ConvTypes'. -/
def convTypesCard : Claim7 := { stood := { row := convTypesRow, standIns := [], harness := (true, "15fee939acb0678c107b9c4328e1755744b904fbf75ae52b8a4f8224aeac9cd8"), looks := false }, kinds := [], alts := [], laidByText := true, laidKinds := [.data], laidTests := true, laidLooks := .later }
def ConvTypesCardSaid : Prop := Claim7.holds Tryz.pinned (.plain (OpenSpec.ofChange convTypesSpec)) convTypesCard

/-- THE TIED CARD OF 'mortiselaw07.ConvEven'. -/
def convEvenCard : Claim7 := { stood := { row := convEvenRow, standIns := [], harness := (true, "15fee939acb0678c107b9c4328e1755744b904fbf75ae52b8a4f8224aeac9cd8"), looks := false }, kinds := [], alts := [], laidByText := true, laidKinds := [.data], laidTests := true, laidLooks := .later }
def ConvEvenCardSaid : Prop := Claim7.holds Tryz.pinned (.plain (OpenSpec.ofChange convEvenSpec)) convEvenCard

/-- THE SECOND FORM's CARD OF 'mortiselaw07.ConvTypes'. -/
def convTypesUptoCard : Claim7 := { stood := { row := convTypesUptoRow, standIns := [], harness := (true, "15fee939acb0678c107b9c4328e1755744b904fbf75ae52b8a4f8224aeac9cd8"), looks := false }, kinds := [], alts := [], laidByText := true, laidKinds := [.data], laidTests := true, laidLooks := .later }
def ConvTypesUptoCardSaid : Prop := Claim7.holds Tryz.pinned (.plain (OpenSpec.upto convTypesSpec)) convTypesUptoCard

/-- THE SECOND FORM's CARD OF 'mortiselaw07.ConvEven'. -/
def convEvenUptoCard : Claim7 := { stood := { row := convEvenUptoRow, standIns := [], harness := (true, "15fee939acb0678c107b9c4328e1755744b904fbf75ae52b8a4f8224aeac9cd8"), looks := false }, kinds := [], alts := [], laidByText := true, laidKinds := [.data], laidTests := true, laidLooks := .later }
def ConvEvenUptoCardSaid : Prop := Claim7.holds Tryz.pinned (.plain (OpenSpec.upto convEvenSpec)) convEvenUptoCard
end Rows
end Go.Proofs.YtpnpilbmhkiphaaGreatDoor
