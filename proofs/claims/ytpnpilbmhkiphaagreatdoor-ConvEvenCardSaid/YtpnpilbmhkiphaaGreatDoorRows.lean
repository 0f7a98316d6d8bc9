/-
  NARROWER THAN 'FOR EVERY INPUT', by the rows' own cells (each row's printed sentence says how): ConvTypes: laid · ConvEven: laid.
  DERIVED. THE GIVEN ROWS OF THIS SEAT. 2 by the template 'for every input the law returns true; each argument reads behind the call as it read before'; 0 by the template 'total and deterministic' (their statements: YtpnpilbmhkiphaaGreatDoorTotals.lean).
  GIVEN WITH THE SEED: the statements are not yours to turn. If you find one false, say at which input.
  Laid BY PROGRAM, IN A SANDBOX (cutbox-rows.mjs): the forced cells as the released guide's own fill.sh prints them over the translation c127f0f3b96347c9… (all of the seat's roots in one cut). By AI agents, Wed Nov 11 2026. No macro, syntax, notation, axiom, sorry.
-/
import Derived.Test.YtpnpilbmhkiphaaGreatDoorChecked
import GoSem.Claim
import GoSem.ClaimJoined
import GoSem.ClaimMapViews
import Derived.JoinedTies
import Derived.KernelRfl
namespace Go.Proofs.YtpnpilbmhkiphaaGreatDoor
/- THE CELL 'sum', in the pinned program and in every row, IS THE sha256 OF THE DUMP (.gsa) THAT YtpnpilbmhkiphaaGreatDoorProg.lean LOADS. Nothing in Lean hashes anything: it is a label: what it is worth is what the hold of that sum in a sandbox is worth. -/
noncomputable def Tryz.pinned : Pinned := { name := "ytpnpilbmhkiphaagreatdoor", sum := "c127f0f3b96347c99e8d2dc32fe27a8ef6863d6e240e931ecf044571037dcdf3", checked := Tryz.checked }
namespace Rows
def none {H : Type} : Left H := { results := [], args := [] }

/- WHAT THE LISTED PACKAGE-LEVEL VARIABLES READ AS WHEN THE CALL BEGINS. Each datum BY PROGRAM (the guide's laid-datum.mjs) off the statement by which the dump's own 'gosem.cut.vars' lays the variable. In a bare row this is a premise. The card (YtpnpilbmhkiphaaGreatDoorCards.lean) ties it to the program's text. -/
def laid_mortise_word_names {H : Type} : DataW H := .agg [.lit (.string [97, 100, 100]), .lit (.string [115, 117, 98]), .lit (.string [109, 117, 108]), .lit (.string [100, 105, 118, 115]), .lit (.string [100, 105, 118, 117]), .lit (.string [114, 101, 109, 115]), .lit (.string [114, 101, 109, 117]), .lit (.string [97, 110, 100]), .lit (.string [111, 114]), .lit (.string [120, 111, 114]), .lit (.string [115, 104, 108]), .lit (.string [115, 104, 114, 115]), .lit (.string [115, 104, 114, 117]), .lit (.string [101, 113]), .lit (.string [110, 101]), .lit (.string [108, 116, 115]), .lit (.string [108, 116, 117]), .lit (.string [108, 101, 115]), .lit (.string [108, 101, 117])]

/-- 'mortiselaw07.ConvTypes': WHATEVER THE INPUT: true; the input reads as it did. -/
def convTypesSpec : ChangeSpec := { name := "convTypes", fn := fun _ => fun
  | [d1, d2, d3, d4] => { results := [.lit (.bool true)], args := [d1, d2, d3, d4] }
  | _ => none }
def convTypesRow : OpenClaim := { program := "ytpnpilbmhkiphaagreatdoor", sum := "c127f0f3b96347c99e8d2dc32fe27a8ef6863d6e240e931ecf044571037dcdf3", func := "mortise/mortiselaw07.ConvTypes", spec := "convTypes", unfollowed := true, recurses := true, named := ["mortise/word.names"], plainKeys := false, apart := false, laid := [("mortise/word.names", laid_mortise_word_names)] }
def ConvTypesSaid : Prop := convTypesRow.holds Tryz.pinned (OpenSpec.ofChange convTypesSpec)

/-- ITS FALSE NEIGHBOUR: 'it returns false'. Refute it at one input. -/
def convTypesWrong : ChangeSpec := { name := "convTypes", fn := fun _ => fun
  | [d1, d2, d3, d4] => { results := [.lit (.bool false)], args := [d1, d2, d3, d4] }
  | _ => none }
def ConvTypesWrongFalsely : Prop := convTypesRow.holds Tryz.pinned (OpenSpec.ofChange convTypesWrong)

/-- 'mortiselaw07.ConvEven': WHATEVER THE INPUT: true; the input reads as it did. -/
def convEvenSpec : ChangeSpec := { name := "convEven", fn := fun _ => fun
  | [d1, d2, d3] => { results := [.lit (.bool true)], args := [d1, d2, d3] }
  | _ => none }
def convEvenRow : OpenClaim := { program := "ytpnpilbmhkiphaagreatdoor", sum := "c127f0f3b96347c99e8d2dc32fe27a8ef6863d6e240e931ecf044571037dcdf3", func := "mortise/mortiselaw07.ConvEven", spec := "convEven", unfollowed := true, recurses := true, named := ["mortise/word.names"], plainKeys := false, apart := false, laid := [("mortise/word.names", laid_mortise_word_names)] }
def ConvEvenSaid : Prop := convEvenRow.holds Tryz.pinned (OpenSpec.ofChange convEvenSpec)

/-- ITS FALSE NEIGHBOUR: 'it returns false'. Refute it at one input. -/
def convEvenWrong : ChangeSpec := { name := "convEven", fn := fun _ => fun
  | [d1, d2, d3] => { results := [.lit (.bool false)], args := [d1, d2, d3] }
  | _ => none }
def ConvEvenWrongFalsely : Prop := convEvenRow.holds Tryz.pinned (OpenSpec.ofChange convEvenWrong)

/- THE SECOND FORM. 'bulk': how many values and letters a reading holds, each counted each time it is reached (what is shared counts as often as it is met; a slice's spare places count too). A statement '..UptoSaid' is the law's where the arguments, and the package variables that the reading takes, are together of bulk at most 1048576: NARROWER than '..Said'. Prove '..Said' where nothing that the law and all that it calls make is longer than what came in: it says more and counts as full. Else prove '..UptoSaid'. A law counts once. -/
mutual
def uptoBulk {H : Type} : DataW H → Nat
  | .lit (.string bytes) => bytes.length + 1
  | .lit _ => 1
  | .nil => 1
  | .ptr d => uptoBulk d + 1
  | .slice elems spare => uptoBulkAll elems + uptoBulkAll spare + 1
  | .agg parts => uptoBulkAll parts + 1
  | .iface _ d => uptoBulk d + 1
  | .map entries => uptoBulkEntries entries + 1
  | .held _ => 1
def uptoBulkAll {H : Type} : List (DataW H) → Nat
  | [] => 0
  | d :: r => uptoBulk d + uptoBulkAll r
def uptoBulkEntries {H : Type} : List (Lit × DataW H) → Nat
  | [] => 0
  | x :: r => uptoBulkEntry x + uptoBulkEntries r
def uptoBulkEntry {H : Type} : Lit × DataW H → Nat
  | (.string bytes, d) => bytes.length + uptoBulk d + 1
  | (_, d) => uptoBulk d + 1
 end
def uptoSmall : (H : Type) → List (DataW H) → Bool := fun _ ds => decide (uptoBulkAll ds ≤ 1048576)
def OpenSpec.upto (s : _root_.Go.ChangeSpec) : _root_.Go.OpenSpec := { _root_.Go.OpenSpec.ofChange s with cond := some uptoSmall }

/-- 'mortiselaw07.ConvTypes', WHERE WHAT IT READS IS OF BULK AT MOST 1048576: true; the input reads as it did. -/
def convTypesUptoRow : OpenClaim := { program := "ytpnpilbmhkiphaagreatdoor", sum := "c127f0f3b96347c99e8d2dc32fe27a8ef6863d6e240e931ecf044571037dcdf3", func := "mortise/mortiselaw07.ConvTypes", spec := "convTypes", unfollowed := true, recurses := true, named := ["mortise/word.names"], plainKeys := false, apart := false, laid := [("mortise/word.names", laid_mortise_word_names)], narrowed := true }
def ConvTypesUptoSaid : Prop := convTypesUptoRow.holds Tryz.pinned (OpenSpec.upto convTypesSpec)

/-- 'mortiselaw07.ConvEven', WHERE WHAT IT READS IS OF BULK AT MOST 1048576: true; the input reads as it did. -/
def convEvenUptoRow : OpenClaim := { program := "ytpnpilbmhkiphaagreatdoor", sum := "c127f0f3b96347c99e8d2dc32fe27a8ef6863d6e240e931ecf044571037dcdf3", func := "mortise/mortiselaw07.ConvEven", spec := "convEven", unfollowed := true, recurses := true, named := ["mortise/word.names"], plainKeys := false, apart := false, laid := [("mortise/word.names", laid_mortise_word_names)], narrowed := true }
def ConvEvenUptoSaid : Prop := convEvenUptoRow.holds Tryz.pinned (OpenSpec.upto convEvenSpec)

end Rows
end Go.Proofs.YtpnpilbmhkiphaaGreatDoor
