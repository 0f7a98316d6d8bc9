/-
  DERIVED. GIVEN WITH THE SEED: THE CARDS: each row of YtkejmenidciigaaDoorRows.lean that lists a variable, with what it lists TIED to the program's text (the seventh form; the later family's looks); each row that meets fmt, with fmt's text TOLD by the authors' own Lean function (tested against real Go, not proved from fmt's source: count such statements apart). THE CARD IS WHAT COUNTS. Prove the row's statement (the work); the ties are given (YtkejmenidciigaaDoorTie.lean); close each card by the builder's one call (the guide's Derived/Test/ToyasCard.lean, 'card_holds'). Laid BY PROGRAM, IN A SANDBOX (cutbox-door.mjs). By AI agents, Wed Nov 11 2026. No macro, syntax, notation, axiom, sorry.
-/
import Derived.Test.YtkejmenidciigaaDoorRows
import GoSem.ClaimSeven
namespace Go.Proofs.YtkejmenidciigaaDoor
namespace Rows

/-- THE TIED CARD OF 'mortiselaw01.WordShifts'. -/
def wordShiftsCard : Claim7 := { stood := { row := wordShiftsRow, standIns := [], harness := (true, "8082d48369c14c7b8cbaa33ff213d74cf8a9360948194713cdd82aa238643964"), looks := false }, kinds := [], alts := [], laidByText := true, laidKinds := [.data], laidTests := true, laidLooks := .later }
def WordShiftsCardSaid : Prop := Claim7.holds Tryd.pinned (.plain (OpenSpec.ofChange wordShiftsSpec)) wordShiftsCard

/-- THE TIED CARD OF 'mortiselaw01.WordMasks'. -/
def wordMasksCard : Claim7 := { stood := { row := wordMasksRow, standIns := [], harness := (true, "8082d48369c14c7b8cbaa33ff213d74cf8a9360948194713cdd82aa238643964"), looks := false }, kinds := [], alts := [], laidByText := true, laidKinds := [.data], laidTests := true, laidLooks := .later }
def WordMasksCardSaid : Prop := Claim7.holds Tryd.pinned (.plain (OpenSpec.ofChange wordMasksSpec)) wordMasksCard

/-- THE TIED CARD OF 'mortiselaw01.WordKinds'. -/
def wordKindsCard : Claim7 := { stood := { row := wordKindsRow, standIns := [], harness := (true, "8082d48369c14c7b8cbaa33ff213d74cf8a9360948194713cdd82aa238643964"), looks := false }, kinds := [], alts := [], laidByText := true, laidKinds := [.data], laidTests := true, laidLooks := .later }
def WordKindsCardSaid : Prop := Claim7.holds Tryd.pinned (.plain (OpenSpec.ofChange wordKindsSpec)) wordKindsCard

/-- THE TIED CARD OF 'mortiselaw01.WordBins'. -/
def wordBinsCard : Claim7 := { stood := { row := wordBinsRow, standIns := [], harness := (true, "8082d48369c14c7b8cbaa33ff213d74cf8a9360948194713cdd82aa238643964"), looks := false }, kinds := [], alts := [], laidByText := true, laidKinds := [.data], laidTests := true, laidLooks := .later }
def WordBinsCardSaid : Prop := Claim7.holds Tryd.pinned (.plain (OpenSpec.ofChange wordBinsSpec)) wordBinsCard

/-- THE TIED CARD OF 'mortiselaw01.WordBytes'. -/
def wordBytesCard : Claim7 := { stood := { row := wordBytesRow, standIns := [], harness := (true, "8082d48369c14c7b8cbaa33ff213d74cf8a9360948194713cdd82aa238643964"), looks := false }, kinds := [], alts := [], laidByText := true, laidKinds := [.data], laidTests := true, laidLooks := .later }
def WordBytesCardSaid : Prop := Claim7.holds Tryd.pinned (.plain (OpenSpec.ofChange wordBytesSpec)) wordBytesCard

/-- THE TIED CARD OF 'mortiselaw01.WordBack'. -/
def wordBackCard : Claim7 := { stood := { row := wordBackRow, standIns := [], harness := (true, "8082d48369c14c7b8cbaa33ff213d74cf8a9360948194713cdd82aa238643964"), looks := false }, kinds := [], alts := [], laidByText := true, laidKinds := [.data], laidTests := true, laidLooks := .later }
def WordBackCardSaid : Prop := Claim7.holds Tryd.pinned (.plain (OpenSpec.ofChange wordBackSpec)) wordBackCard

/-- THE SECOND FORM's CARD OF 'mortiselaw01.WordShifts'. -/
def wordShiftsUptoCard : Claim7 := { stood := { row := wordShiftsUptoRow, standIns := [], harness := (true, "8082d48369c14c7b8cbaa33ff213d74cf8a9360948194713cdd82aa238643964"), looks := false }, kinds := [], alts := [], laidByText := true, laidKinds := [.data], laidTests := true, laidLooks := .later }
def WordShiftsUptoCardSaid : Prop := Claim7.holds Tryd.pinned (.plain (OpenSpec.upto wordShiftsSpec)) wordShiftsUptoCard

/-- THE SECOND FORM's CARD OF 'mortiselaw01.WordMasks'. -/
def wordMasksUptoCard : Claim7 := { stood := { row := wordMasksUptoRow, standIns := [], harness := (true, "8082d48369c14c7b8cbaa33ff213d74cf8a9360948194713cdd82aa238643964"), looks := false }, kinds := [], alts := [], laidByText := true, laidKinds := [.data], laidTests := true, laidLooks := .later }
def WordMasksUptoCardSaid : Prop := Claim7.holds Tryd.pinned (.plain (OpenSpec.upto wordMasksSpec)) wordMasksUptoCard

/-- THE SECOND FORM's CARD OF 'mortiselaw01.WordKinds'. -/
def wordKindsUptoCard : Claim7 := { stood := { row := wordKindsUptoRow, standIns := [], harness := (true, "8082d48369c14c7b8cbaa33ff213d74cf8a9360948194713cdd82aa238643964"), looks := false }, kinds := [], alts := [], laidByText := true, laidKinds := [.data], laidTests := true, laidLooks := .later }
def WordKindsUptoCardSaid : Prop := Claim7.holds Tryd.pinned (.plain (OpenSpec.upto wordKindsSpec)) wordKindsUptoCard

/-- THE SECOND FORM's CARD OF 'mortiselaw01.WordBins'. -/
def wordBinsUptoCard : Claim7 := { stood := { row := wordBinsUptoRow, standIns := [], harness := (true, "8082d48369c14c7b8cbaa33ff213d74cf8a9360948194713cdd82aa238643964"), looks := false }, kinds := [], alts := [], laidByText := true, laidKinds := [.data], laidTests := true, laidLooks := .later }
def WordBinsUptoCardSaid : Prop := Claim7.holds Tryd.pinned (.plain (OpenSpec.upto wordBinsSpec)) wordBinsUptoCard

/-- THE SECOND FORM's CARD OF 'mortiselaw01.WordBytes'. -/
def wordBytesUptoCard : Claim7 := { stood := { row := wordBytesUptoRow, standIns := [], harness := (true, "8082d48369c14c7b8cbaa33ff213d74cf8a9360948194713cdd82aa238643964"), looks := false }, kinds := [], alts := [], laidByText := true, laidKinds := [.data], laidTests := true, laidLooks := .later }
def WordBytesUptoCardSaid : Prop := Claim7.holds Tryd.pinned (.plain (OpenSpec.upto wordBytesSpec)) wordBytesUptoCard

/-- THE SECOND FORM's CARD OF 'mortiselaw01.WordBack'. -/
def wordBackUptoCard : Claim7 := { stood := { row := wordBackUptoRow, standIns := [], harness := (true, "8082d48369c14c7b8cbaa33ff213d74cf8a9360948194713cdd82aa238643964"), looks := false }, kinds := [], alts := [], laidByText := true, laidKinds := [.data], laidTests := true, laidLooks := .later }
def WordBackUptoCardSaid : Prop := Claim7.holds Tryd.pinned (.plain (OpenSpec.upto wordBackSpec)) wordBackUptoCard
end Rows
end Go.Proofs.YtkejmenidciigaaDoor
