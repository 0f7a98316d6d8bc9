/-
  DERIVED. GIVEN WITH THE SEED: THE CARDS: each row of YtpnpilbmhkiphaaDoorRows.lean that lists a variable, with what it lists TIED to the program's text (the seventh form; the later family's looks); each row that meets fmt, with fmt's text TOLD by the authors' own Lean function (tested against real Go, not proved from fmt's source: count such statements apart). THE CARD IS WHAT COUNTS. Prove the row's statement (the work); the ties are given (YtpnpilbmhkiphaaDoorTie.lean); close each card by the builder's one call (the guide's Derived/Test/ToyasCard.lean, 'card_holds'). Laid BY PROGRAM, IN A SANDBOX (cutbox-door.mjs). By AI agents, Wed Nov 11 2026. No macro, syntax, notation, axiom, sorry.
-/
import Derived.Test.YtpnpilbmhkiphaaDoorRows
import GoSem.ClaimSeven
namespace Go.Proofs.YtpnpilbmhkiphaaDoor
namespace Rows

/-- THE TIED CARD OF 'mortiselaw07.ConvFolds'. -/
def convFoldsCard : Claim7 := { stood := { row := convFoldsRow, standIns := [], harness := (true, "a04ab93c57cc7d67883ef7219099be29fa4aad2fb360d94d19ee5210f5fb4c66"), looks := false }, kinds := [], alts := [], laidByText := true, laidKinds := [.data], laidTests := true, laidLooks := .later }
def ConvFoldsCardSaid : Prop := Claim7.holds Tryd.pinned (.plain (OpenSpec.ofChange convFoldsSpec)) convFoldsCard

/-- THE TIED CARD OF 'mortiselaw07.ConvKinds'. -/
def convKindsCard : Claim7 := { stood := { row := convKindsRow, standIns := [], harness := (true, "a04ab93c57cc7d67883ef7219099be29fa4aad2fb360d94d19ee5210f5fb4c66"), looks := false }, kinds := [], alts := [], laidByText := true, laidKinds := [.data], laidTests := true, laidLooks := .later }
def ConvKindsCardSaid : Prop := Claim7.holds Tryd.pinned (.plain (OpenSpec.ofChange convKindsSpec)) convKindsCard

/-- THE TIED CARD OF 'mortiselaw07.ConvNobody'. -/
def convNobodyCard : Claim7 := { stood := { row := convNobodyRow, standIns := [], harness := (true, "a04ab93c57cc7d67883ef7219099be29fa4aad2fb360d94d19ee5210f5fb4c66"), looks := false }, kinds := [], alts := [], laidByText := true, laidKinds := [.data], laidTests := true, laidLooks := .later }
def ConvNobodyCardSaid : Prop := Claim7.holds Tryd.pinned (.plain (OpenSpec.ofChange convNobodySpec)) convNobodyCard

/-- THE SECOND FORM's CARD OF 'mortiselaw07.ConvFolds'. -/
def convFoldsUptoCard : Claim7 := { stood := { row := convFoldsUptoRow, standIns := [], harness := (true, "a04ab93c57cc7d67883ef7219099be29fa4aad2fb360d94d19ee5210f5fb4c66"), looks := false }, kinds := [], alts := [], laidByText := true, laidKinds := [.data], laidTests := true, laidLooks := .later }
def ConvFoldsUptoCardSaid : Prop := Claim7.holds Tryd.pinned (.plain (OpenSpec.upto convFoldsSpec)) convFoldsUptoCard

/-- THE SECOND FORM's CARD OF 'mortiselaw07.ConvKinds'. -/
def convKindsUptoCard : Claim7 := { stood := { row := convKindsUptoRow, standIns := [], harness := (true, "a04ab93c57cc7d67883ef7219099be29fa4aad2fb360d94d19ee5210f5fb4c66"), looks := false }, kinds := [], alts := [], laidByText := true, laidKinds := [.data], laidTests := true, laidLooks := .later }
def ConvKindsUptoCardSaid : Prop := Claim7.holds Tryd.pinned (.plain (OpenSpec.upto convKindsSpec)) convKindsUptoCard

/-- THE SECOND FORM's CARD OF 'mortiselaw07.ConvNobody'. -/
def convNobodyUptoCard : Claim7 := { stood := { row := convNobodyUptoRow, standIns := [], harness := (true, "a04ab93c57cc7d67883ef7219099be29fa4aad2fb360d94d19ee5210f5fb4c66"), looks := false }, kinds := [], alts := [], laidByText := true, laidKinds := [.data], laidTests := true, laidLooks := .later }
def ConvNobodyUptoCardSaid : Prop := Claim7.holds Tryd.pinned (.plain (OpenSpec.upto convNobodySpec)) convNobodyUptoCard
end Rows
end Go.Proofs.YtpnpilbmhkiphaaDoor
