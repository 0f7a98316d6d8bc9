/-
  DERIVED. GIVEN WITH THE SEED: THE CARDS: each row of YtaodheilmbefhaaDoorRows.lean that lists a variable, with what it lists TIED to the program's text (the seventh form; the later family's looks); each row that meets fmt, with fmt's text TOLD by the authors' own Lean function (tested against real Go, not proved from fmt's source: count such statements apart). THE CARD IS WHAT COUNTS. Prove the row's statement (the work); the ties are given (YtaodheilmbefhaaDoorTie.lean); close each card by the builder's one call (the guide's Derived/Test/ToyasCard.lean, 'card_holds'). Laid BY PROGRAM, IN A SANDBOX (cutbox-door.mjs). By AI agents, Wed Nov 11 2026. No macro, syntax, notation, axiom, sorry.
-/
import Derived.Test.YtaodheilmbefhaaDoorRows
import GoSem.ClaimSeven
namespace Go.Proofs.YtaodheilmbefhaaDoor
namespace Rows

/-- THE TIED CARD OF 'mortiselaw03.CtypeCopies'. -/
def ctypeCopiesCard : Claim7 := { stood := { row := ctypeCopiesRow, standIns := [], harness := (true, "15067266edd45119e9193c2b298a07f3698b01b9005a3e482d97cf6d09520738"), looks := true }, kinds := [], alts := [], laidByText := true, laidKinds := [.data, .data, .data, .data], laidTests := true, laidLooks := .later }
def CtypeCopiesCardSaid : Prop := Claim7.holds Tryd.pinned (.plain (OpenSpec.ofChange ctypeCopiesSpec)) ctypeCopiesCard

/-- THE TIED CARD OF 'mortiselaw03.CtypeFrom'. -/
def ctypeFromCard : Claim7 := { stood := { row := ctypeFromRow, standIns := [], harness := (true, "15067266edd45119e9193c2b298a07f3698b01b9005a3e482d97cf6d09520738"), looks := true }, kinds := [], alts := [], laidByText := true, laidKinds := [.data, .data, .data, .data], laidTests := true, laidLooks := .later }
def CtypeFromCardSaid : Prop := Claim7.holds Tryd.pinned (.plain (OpenSpec.ofChange ctypeFromSpec)) ctypeFromCard

/-- THE TIED CARD OF 'mortiselaw03.CtypeOnce'. -/
def ctypeOnceCard : Claim7 := { stood := { row := ctypeOnceRow, standIns := [], harness := (true, "15067266edd45119e9193c2b298a07f3698b01b9005a3e482d97cf6d09520738"), looks := true }, kinds := [], alts := [], laidByText := true, laidKinds := [.data, .data, .data, .data], laidTests := true, laidLooks := .later }
def CtypeOnceCardSaid : Prop := Claim7.holds Tryd.pinned (.plain (OpenSpec.ofChange ctypeOnceSpec)) ctypeOnceCard

/-- THE TIED CARD OF 'mortiselaw03.CtypeNobody'. -/
def ctypeNobodyCard : Claim7 := { stood := { row := ctypeNobodyRow, standIns := [], harness := (true, "15067266edd45119e9193c2b298a07f3698b01b9005a3e482d97cf6d09520738"), looks := true }, kinds := [], alts := [], laidByText := true, laidKinds := [.data, .data, .data, .data], laidTests := true, laidLooks := .later }
def CtypeNobodyCardSaid : Prop := Claim7.holds Tryd.pinned (.plain (OpenSpec.ofChange ctypeNobodySpec)) ctypeNobodyCard

/-- THE SECOND FORM's CARD OF 'mortiselaw03.CtypeCopies'. -/
def ctypeCopiesUptoCard : Claim7 := { stood := { row := ctypeCopiesUptoRow, standIns := [], harness := (true, "15067266edd45119e9193c2b298a07f3698b01b9005a3e482d97cf6d09520738"), looks := true }, kinds := [], alts := [], laidByText := true, laidKinds := [.data, .data, .data, .data], laidTests := true, laidLooks := .later }
def CtypeCopiesUptoCardSaid : Prop := Claim7.holds Tryd.pinned (.plain (OpenSpec.upto ctypeCopiesSpec)) ctypeCopiesUptoCard

/-- THE SECOND FORM's CARD OF 'mortiselaw03.CtypeFrom'. -/
def ctypeFromUptoCard : Claim7 := { stood := { row := ctypeFromUptoRow, standIns := [], harness := (true, "15067266edd45119e9193c2b298a07f3698b01b9005a3e482d97cf6d09520738"), looks := true }, kinds := [], alts := [], laidByText := true, laidKinds := [.data, .data, .data, .data], laidTests := true, laidLooks := .later }
def CtypeFromUptoCardSaid : Prop := Claim7.holds Tryd.pinned (.plain (OpenSpec.upto ctypeFromSpec)) ctypeFromUptoCard

/-- THE SECOND FORM's CARD OF 'mortiselaw03.CtypeOnce'. -/
def ctypeOnceUptoCard : Claim7 := { stood := { row := ctypeOnceUptoRow, standIns := [], harness := (true, "15067266edd45119e9193c2b298a07f3698b01b9005a3e482d97cf6d09520738"), looks := true }, kinds := [], alts := [], laidByText := true, laidKinds := [.data, .data, .data, .data], laidTests := true, laidLooks := .later }
def CtypeOnceUptoCardSaid : Prop := Claim7.holds Tryd.pinned (.plain (OpenSpec.upto ctypeOnceSpec)) ctypeOnceUptoCard

/-- THE SECOND FORM's CARD OF 'mortiselaw03.CtypeNobody'. -/
def ctypeNobodyUptoCard : Claim7 := { stood := { row := ctypeNobodyUptoRow, standIns := [], harness := (true, "15067266edd45119e9193c2b298a07f3698b01b9005a3e482d97cf6d09520738"), looks := true }, kinds := [], alts := [], laidByText := true, laidKinds := [.data, .data, .data, .data], laidTests := true, laidLooks := .later }
def CtypeNobodyUptoCardSaid : Prop := Claim7.holds Tryd.pinned (.plain (OpenSpec.upto ctypeNobodySpec)) ctypeNobodyUptoCard
end Rows
end Go.Proofs.YtaodheilmbefhaaDoor
