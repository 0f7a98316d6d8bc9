/-
  NARROWER THAN 'FOR EVERY INPUT', by the rows' own cells (each row's printed sentence says how): WordShifts: laid · WordMasks: laid · WordKinds: laid · WordBins: laid · WordBytes: laid · WordBack: laid.
  DERIVED. THE GIVEN ROWS OF THIS SEAT. 6 by the template 'for every input the law returns true; each argument reads behind the call as it read before'; 0 by the template 'total and deterministic' (their statements: YtkejmenidciigaaDoorTotals.lean).
  GIVEN WITH THE SEED: the statements are not yours to turn. If you find one false, say at which input.
  Laid BY PROGRAM, IN A SANDBOX (cutbox-rows.mjs): the forced cells as the released guide's own fill.sh prints them over the translation 2e0805bebce1d1a5… (all of the seat's roots in one cut). By AI agents, Wed Nov 11 2026. No macro, syntax, notation, axiom, sorry.
-/
import Derived.Test.YtkejmenidciigaaDoorChecked
import GoSem.Claim
import GoSem.ClaimJoined
import GoSem.ClaimMapViews
import Derived.JoinedTies
import Derived.KernelRfl
namespace Go.Proofs.YtkejmenidciigaaDoor
/- THE CELL 'sum', in the pinned program and in every row, IS THE sha256 OF THE DUMP (.gsa) THAT YtkejmenidciigaaDoorProg.lean LOADS. Nothing in Lean hashes anything: it is a label: what it is worth is what the hold of that sum in a sandbox is worth. -/
noncomputable def Tryd.pinned : Pinned := { name := "ytkejmenidciigaadoor", sum := "2e0805bebce1d1a5e925e304f5c2e37c3515f546f6b1834653ca3a25176f42de", checked := Tryd.checked }
namespace Rows
def none {H : Type} : Left H := { results := [], args := [] }

/- WHAT THE LISTED PACKAGE-LEVEL VARIABLES READ AS WHEN THE CALL BEGINS. Each datum BY PROGRAM (the guide's laid-datum.mjs) off the statement by which the dump's own 'gosem.cut.vars' lays the variable. In a bare row this is a premise. The card (YtkejmenidciigaaDoorCards.lean) ties it to the program's text. -/
def laid_mortise_word_names {H : Type} : DataW H := .agg [.lit (.string [97, 100, 100]), .lit (.string [115, 117, 98]), .lit (.string [109, 117, 108]), .lit (.string [100, 105, 118, 115]), .lit (.string [100, 105, 118, 117]), .lit (.string [114, 101, 109, 115]), .lit (.string [114, 101, 109, 117]), .lit (.string [97, 110, 100]), .lit (.string [111, 114]), .lit (.string [120, 111, 114]), .lit (.string [115, 104, 108]), .lit (.string [115, 104, 114, 115]), .lit (.string [115, 104, 114, 117]), .lit (.string [101, 113]), .lit (.string [110, 101]), .lit (.string [108, 116, 115]), .lit (.string [108, 116, 117]), .lit (.string [108, 101, 115]), .lit (.string [108, 101, 117])]

/-- 'mortiselaw01.WordShifts': WHATEVER THE INPUT: true; the input reads as it did. -/
def wordShiftsSpec : ChangeSpec := { name := "wordShifts", fn := fun _ => fun
  | [d1, d2] => { results := [.lit (.bool true)], args := [d1, d2] }
  | _ => none }
def wordShiftsRow : OpenClaim := { program := "ytkejmenidciigaadoor", sum := "2e0805bebce1d1a5e925e304f5c2e37c3515f546f6b1834653ca3a25176f42de", func := "mortise/mortiselaw01.WordShifts", spec := "wordShifts", named := ["mortise/word.names"], apart := false, laid := [("mortise/word.names", laid_mortise_word_names)] }
def WordShiftsSaid : Prop := wordShiftsRow.holds Tryd.pinned (OpenSpec.ofChange wordShiftsSpec)

/-- ITS FALSE NEIGHBOUR: 'it returns false'. Refute it at one input. -/
def wordShiftsWrong : ChangeSpec := { name := "wordShifts", fn := fun _ => fun
  | [d1, d2] => { results := [.lit (.bool false)], args := [d1, d2] }
  | _ => none }
def WordShiftsWrongFalsely : Prop := wordShiftsRow.holds Tryd.pinned (OpenSpec.ofChange wordShiftsWrong)

/-- 'mortiselaw01.WordMasks': WHATEVER THE INPUT: true; the input reads as it did. -/
def wordMasksSpec : ChangeSpec := { name := "wordMasks", fn := fun _ => fun
  | [d1, d2] => { results := [.lit (.bool true)], args := [d1, d2] }
  | _ => none }
def wordMasksRow : OpenClaim := { program := "ytkejmenidciigaadoor", sum := "2e0805bebce1d1a5e925e304f5c2e37c3515f546f6b1834653ca3a25176f42de", func := "mortise/mortiselaw01.WordMasks", spec := "wordMasks", named := ["mortise/word.names"], apart := false, laid := [("mortise/word.names", laid_mortise_word_names)] }
def WordMasksSaid : Prop := wordMasksRow.holds Tryd.pinned (OpenSpec.ofChange wordMasksSpec)

/-- ITS FALSE NEIGHBOUR: 'it returns false'. Refute it at one input. -/
def wordMasksWrong : ChangeSpec := { name := "wordMasks", fn := fun _ => fun
  | [d1, d2] => { results := [.lit (.bool false)], args := [d1, d2] }
  | _ => none }
def WordMasksWrongFalsely : Prop := wordMasksRow.holds Tryd.pinned (OpenSpec.ofChange wordMasksWrong)

/-- 'mortiselaw01.WordKinds': WHATEVER THE INPUT: true; the input reads as it did. -/
def wordKindsSpec : ChangeSpec := { name := "wordKinds", fn := fun _ => fun
  | [d1, d2, d3] => { results := [.lit (.bool true)], args := [d1, d2, d3] }
  | _ => none }
def wordKindsRow : OpenClaim := { program := "ytkejmenidciigaadoor", sum := "2e0805bebce1d1a5e925e304f5c2e37c3515f546f6b1834653ca3a25176f42de", func := "mortise/mortiselaw01.WordKinds", spec := "wordKinds", named := ["mortise/word.names"], apart := false, laid := [("mortise/word.names", laid_mortise_word_names)] }
def WordKindsSaid : Prop := wordKindsRow.holds Tryd.pinned (OpenSpec.ofChange wordKindsSpec)

/-- ITS FALSE NEIGHBOUR: 'it returns false'. Refute it at one input. -/
def wordKindsWrong : ChangeSpec := { name := "wordKinds", fn := fun _ => fun
  | [d1, d2, d3] => { results := [.lit (.bool false)], args := [d1, d2, d3] }
  | _ => none }
def WordKindsWrongFalsely : Prop := wordKindsRow.holds Tryd.pinned (OpenSpec.ofChange wordKindsWrong)

/-- 'mortiselaw01.WordBins': WHATEVER THE INPUT: true; the input reads as it did. -/
def wordBinsSpec : ChangeSpec := { name := "wordBins", fn := fun _ => fun
  | [d1, d2, d3] => { results := [.lit (.bool true)], args := [d1, d2, d3] }
  | _ => none }
def wordBinsRow : OpenClaim := { program := "ytkejmenidciigaadoor", sum := "2e0805bebce1d1a5e925e304f5c2e37c3515f546f6b1834653ca3a25176f42de", func := "mortise/mortiselaw01.WordBins", spec := "wordBins", named := ["mortise/word.names"], apart := false, laid := [("mortise/word.names", laid_mortise_word_names)] }
def WordBinsSaid : Prop := wordBinsRow.holds Tryd.pinned (OpenSpec.ofChange wordBinsSpec)

/-- ITS FALSE NEIGHBOUR: 'it returns false'. Refute it at one input. -/
def wordBinsWrong : ChangeSpec := { name := "wordBins", fn := fun _ => fun
  | [d1, d2, d3] => { results := [.lit (.bool false)], args := [d1, d2, d3] }
  | _ => none }
def WordBinsWrongFalsely : Prop := wordBinsRow.holds Tryd.pinned (OpenSpec.ofChange wordBinsWrong)

/-- 'mortiselaw01.WordBytes': WHATEVER THE INPUT: true; the input reads as it did. -/
def wordBytesSpec : ChangeSpec := { name := "wordBytes", fn := fun _ => fun
  | [d1, d2, d3, d4] => { results := [.lit (.bool true)], args := [d1, d2, d3, d4] }
  | _ => none }
def wordBytesRow : OpenClaim := { program := "ytkejmenidciigaadoor", sum := "2e0805bebce1d1a5e925e304f5c2e37c3515f546f6b1834653ca3a25176f42de", func := "mortise/mortiselaw01.WordBytes", spec := "wordBytes", named := ["mortise/word.names"], apart := false, laid := [("mortise/word.names", laid_mortise_word_names)] }
def WordBytesSaid : Prop := wordBytesRow.holds Tryd.pinned (OpenSpec.ofChange wordBytesSpec)

/-- ITS FALSE NEIGHBOUR: 'it returns false'. Refute it at one input. -/
def wordBytesWrong : ChangeSpec := { name := "wordBytes", fn := fun _ => fun
  | [d1, d2, d3, d4] => { results := [.lit (.bool false)], args := [d1, d2, d3, d4] }
  | _ => none }
def WordBytesWrongFalsely : Prop := wordBytesRow.holds Tryd.pinned (OpenSpec.ofChange wordBytesWrong)

/-- 'mortiselaw01.WordBack': WHATEVER THE INPUT: true; the input reads as it did. -/
def wordBackSpec : ChangeSpec := { name := "wordBack", fn := fun _ => fun
  | [d1, d2] => { results := [.lit (.bool true)], args := [d1, d2] }
  | _ => none }
def wordBackRow : OpenClaim := { program := "ytkejmenidciigaadoor", sum := "2e0805bebce1d1a5e925e304f5c2e37c3515f546f6b1834653ca3a25176f42de", func := "mortise/mortiselaw01.WordBack", spec := "wordBack", named := ["mortise/word.names"], apart := false, laid := [("mortise/word.names", laid_mortise_word_names)] }
def WordBackSaid : Prop := wordBackRow.holds Tryd.pinned (OpenSpec.ofChange wordBackSpec)

/-- ITS FALSE NEIGHBOUR: 'it returns false'. Refute it at one input. -/
def wordBackWrong : ChangeSpec := { name := "wordBack", fn := fun _ => fun
  | [d1, d2] => { results := [.lit (.bool false)], args := [d1, d2] }
  | _ => none }
def WordBackWrongFalsely : Prop := wordBackRow.holds Tryd.pinned (OpenSpec.ofChange wordBackWrong)

/- THE SECOND FORM. 'bulk': how many values and letters a reading holds, each counted each time it is reached (what is shared counts as often as it is met; a slice's spare places count too). A statement '..UptoSaid' is the law's where the arguments, and the package variables that the reading takes, are together of bulk at most 1048576: NARROWER than '..Said'. Prove '..Said' where nothing that the law and all that it calls make is longer than what came in: it says more and counts as full. Else prove '..UptoSaid'. A law counts once. -/
mutual
def uptoBulk {H : Type} : DataW H → Nat
  | .lit (.string bytes) => bytes.length + 1
  | .lit _ => 1
  | .nil => 1
  | .ptr d => uptoBulk d + 1
  | .slice elems spare => uptoBulkAll elems + uptoBulkAll spare + 1
  | .agg parts => uptoBulkAll parts + 1
  | .iface _ d => uptoBulk d + 1
  | .map entries => uptoBulkEntries entries + 1
  | .held _ => 1
def uptoBulkAll {H : Type} : List (DataW H) → Nat
  | [] => 0
  | d :: r => uptoBulk d + uptoBulkAll r
def uptoBulkEntries {H : Type} : List (Lit × DataW H) → Nat
  | [] => 0
  | x :: r => uptoBulkEntry x + uptoBulkEntries r
def uptoBulkEntry {H : Type} : Lit × DataW H → Nat
  | (.string bytes, d) => bytes.length + uptoBulk d + 1
  | (_, d) => uptoBulk d + 1
 end
def uptoSmall : (H : Type) → List (DataW H) → Bool := fun _ ds => decide (uptoBulkAll ds ≤ 1048576)
def OpenSpec.upto (s : _root_.Go.ChangeSpec) : _root_.Go.OpenSpec := { _root_.Go.OpenSpec.ofChange s with cond := some uptoSmall }

/-- 'mortiselaw01.WordShifts', WHERE WHAT IT READS IS OF BULK AT MOST 1048576: true; the input reads as it did. -/
def wordShiftsUptoRow : OpenClaim := { program := "ytkejmenidciigaadoor", sum := "2e0805bebce1d1a5e925e304f5c2e37c3515f546f6b1834653ca3a25176f42de", func := "mortise/mortiselaw01.WordShifts", spec := "wordShifts", named := ["mortise/word.names"], apart := false, laid := [("mortise/word.names", laid_mortise_word_names)], narrowed := true }
def WordShiftsUptoSaid : Prop := wordShiftsUptoRow.holds Tryd.pinned (OpenSpec.upto wordShiftsSpec)

/-- 'mortiselaw01.WordMasks', WHERE WHAT IT READS IS OF BULK AT MOST 1048576: true; the input reads as it did. -/
def wordMasksUptoRow : OpenClaim := { program := "ytkejmenidciigaadoor", sum := "2e0805bebce1d1a5e925e304f5c2e37c3515f546f6b1834653ca3a25176f42de", func := "mortise/mortiselaw01.WordMasks", spec := "wordMasks", named := ["mortise/word.names"], apart := false, laid := [("mortise/word.names", laid_mortise_word_names)], narrowed := true }
def WordMasksUptoSaid : Prop := wordMasksUptoRow.holds Tryd.pinned (OpenSpec.upto wordMasksSpec)

/-- 'mortiselaw01.WordKinds', WHERE WHAT IT READS IS OF BULK AT MOST 1048576: true; the input reads as it did. -/
def wordKindsUptoRow : OpenClaim := { program := "ytkejmenidciigaadoor", sum := "2e0805bebce1d1a5e925e304f5c2e37c3515f546f6b1834653ca3a25176f42de", func := "mortise/mortiselaw01.WordKinds", spec := "wordKinds", named := ["mortise/word.names"], apart := false, laid := [("mortise/word.names", laid_mortise_word_names)], narrowed := true }
def WordKindsUptoSaid : Prop := wordKindsUptoRow.holds Tryd.pinned (OpenSpec.upto wordKindsSpec)

/-- 'mortiselaw01.WordBins', WHERE WHAT IT READS IS OF BULK AT MOST 1048576: true; the input reads as it did. -/
def wordBinsUptoRow : OpenClaim := { program := "ytkejmenidciigaadoor", sum := "2e0805bebce1d1a5e925e304f5c2e37c3515f546f6b1834653ca3a25176f42de", func := "mortise/mortiselaw01.WordBins", spec := "wordBins", named := ["mortise/word.names"], apart := false, laid := [("mortise/word.names", laid_mortise_word_names)], narrowed := true }
def WordBinsUptoSaid : Prop := wordBinsUptoRow.holds Tryd.pinned (OpenSpec.upto wordBinsSpec)

/-- 'mortiselaw01.WordBytes', WHERE WHAT IT READS IS OF BULK AT MOST 1048576: true; the input reads as it did. -/
def wordBytesUptoRow : OpenClaim := { program := "ytkejmenidciigaadoor", sum := "2e0805bebce1d1a5e925e304f5c2e37c3515f546f6b1834653ca3a25176f42de", func := "mortise/mortiselaw01.WordBytes", spec := "wordBytes", named := ["mortise/word.names"], apart := false, laid := [("mortise/word.names", laid_mortise_word_names)], narrowed := true }
def WordBytesUptoSaid : Prop := wordBytesUptoRow.holds Tryd.pinned (OpenSpec.upto wordBytesSpec)

/-- 'mortiselaw01.WordBack', WHERE WHAT IT READS IS OF BULK AT MOST 1048576: true; the input reads as it did. -/
def wordBackUptoRow : OpenClaim := { program := "ytkejmenidciigaadoor", sum := "2e0805bebce1d1a5e925e304f5c2e37c3515f546f6b1834653ca3a25176f42de", func := "mortise/mortiselaw01.WordBack", spec := "wordBack", named := ["mortise/word.names"], apart := false, laid := [("mortise/word.names", laid_mortise_word_names)], narrowed := true }
def WordBackUptoSaid : Prop := wordBackUptoRow.holds Tryd.pinned (OpenSpec.upto wordBackSpec)

end Rows
end Go.Proofs.YtkejmenidciigaaDoor
