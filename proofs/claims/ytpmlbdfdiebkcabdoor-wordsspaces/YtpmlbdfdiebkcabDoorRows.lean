/-
  NARROWER THAN 'FOR EVERY INPUT', by the rows' own cells (each row's printed sentence says how): WordsSpaces: laid.
  DERIVED. THE GIVEN ROWS OF THIS SEAT. 1 by the template 'for every input the law returns true; each argument reads behind the call as it read before'; 0 by the template 'total and deterministic' (their statements: YtpmlbdfdiebkcabDoorTotals.lean).
  GIVEN WITH THE SEED: the statements are not yours to turn. If you find one false, say at which input.
  Laid BY PROGRAM, IN A SANDBOX (cutbox-rows.mjs): the forced cells as the released guide's own fill.sh prints them over the translation 9c3c9caaf51cb37f… (all of the seat's roots in one cut). By AI agents, Wed Nov 11 2026. No macro, syntax, notation, axiom, sorry.
-/
import Derived.Test.YtpmlbdfdiebkcabDoorChecked
import GoSem.Claim
import GoSem.ClaimJoined
import GoSem.ClaimMapViews
import Derived.JoinedTies
import Derived.KernelRfl
namespace Go.Proofs.YtpmlbdfdiebkcabDoor
/- THE CELL 'sum', in the pinned program and in every row, IS THE sha256 OF THE DUMP (.gsa) THAT YtpmlbdfdiebkcabDoorProg.lean LOADS. Nothing in Lean hashes anything: it is a label: what it is worth is what the hold of that sum in a sandbox is worth. -/
noncomputable def Tryd.pinned : Pinned := { name := "ytpmlbdfdiebkcabdoor", sum := "9c3c9caaf51cb37ffce5e32cec2c60f421d538e5ea1e0b1fb86351cf8a4f760c", checked := Tryd.checked }
namespace Rows
def none {H : Type} : Left H := { results := [], args := [] }

/- WHAT THE LISTED PACKAGE-LEVEL VARIABLES READ AS WHEN THE CALL BEGINS. Each datum BY PROGRAM (the guide's laid-datum.mjs) off the statement by which the dump's own 'gosem.cut.vars' lays the variable. In a bare row this is a premise. The card (YtpmlbdfdiebkcabDoorCards.lean) ties it to the program's text. -/
def laid_scansion_ucd_scripts {H : Type} : DataW H := .agg [.agg [.lit (.int .i64 11904), .lit (.int .i64 12245), .lit (.int .u8 1)], .agg [.lit (.int .i64 12293), .lit (.int .i64 12295), .lit (.int .u8 1)], .agg [.lit (.int .i64 12321), .lit (.int .i64 12329), .lit (.int .u8 1)], .agg [.lit (.int .i64 12344), .lit (.int .i64 12347), .lit (.int .u8 1)], .agg [.lit (.int .i64 12353), .lit (.int .i64 12438), .lit (.int .u8 1)], .agg [.lit (.int .i64 12445), .lit (.int .i64 12447), .lit (.int .u8 1)], .agg [.lit (.int .i64 12449), .lit (.int .i64 12538), .lit (.int .u8 1)], .agg [.lit (.int .i64 12541), .lit (.int .i64 12543), .lit (.int .u8 1)], .agg [.lit (.int .i64 12784), .lit (.int .i64 12799), .lit (.int .u8 1)], .agg [.lit (.int .i64 13312), .lit (.int .i64 19903), .lit (.int .u8 1)], .agg [.lit (.int .i64 19968), .lit (.int .i64 40959), .lit (.int .u8 1)], .agg [.lit (.int .i64 63744), .lit (.int .i64 64217), .lit (.int .u8 1)], .agg [.lit (.int .i64 65382), .lit (.int .i64 65391), .lit (.int .u8 1)], .agg [.lit (.int .i64 65393), .lit (.int .i64 65437), .lit (.int .u8 1)], .agg [.lit (.int .i64 131072), .lit (.int .i64 195101), .lit (.int .u8 1)], .agg [.lit (.int .i64 3585), .lit (.int .i64 3642), .lit (.int .u8 2)], .agg [.lit (.int .i64 3648), .lit (.int .i64 3662), .lit (.int .u8 2)], .agg [.lit (.int .i64 3713), .lit (.int .i64 3773), .lit (.int .u8 3)], .agg [.lit (.int .i64 3776), .lit (.int .i64 3790), .lit (.int .u8 3)], .agg [.lit (.int .i64 3804), .lit (.int .i64 3807), .lit (.int .u8 3)], .agg [.lit (.int .i64 6016), .lit (.int .i64 6067), .lit (.int .u8 4)], .agg [.lit (.int .i64 6070), .lit (.int .i64 6099), .lit (.int .u8 4)], .agg [.lit (.int .i64 6103), .lit (.int .i64 6103), .lit (.int .u8 4)], .agg [.lit (.int .i64 6108), .lit (.int .i64 6109), .lit (.int .u8 4)]]

/-- 'scansionlaw06.WordsSpaces': WHATEVER THE INPUT: true; the input reads as it did. -/
def wordsSpacesSpec : ChangeSpec := { name := "wordsSpaces", fn := fun _ => fun
  | [d1, d2] => { results := [.lit (.bool true)], args := [d1, d2] }
  | _ => none }
def wordsSpacesRow : OpenClaim := { program := "ytpmlbdfdiebkcabdoor", sum := "9c3c9caaf51cb37ffce5e32cec2c60f421d538e5ea1e0b1fb86351cf8a4f760c", func := "scansion/scansionlaw06.WordsSpaces", spec := "wordsSpaces", unfollowed := true, recurses := true, named := ["scansion/ucd.scripts"], plainKeys := false, apart := false, laid := [("scansion/ucd.scripts", laid_scansion_ucd_scripts)] }
def WordsSpacesSaid : Prop := wordsSpacesRow.holds Tryd.pinned (OpenSpec.ofChange wordsSpacesSpec)

/-- ITS FALSE NEIGHBOUR: 'it returns false'. Refute it at one input. -/
def wordsSpacesWrong : ChangeSpec := { name := "wordsSpaces", fn := fun _ => fun
  | [d1, d2] => { results := [.lit (.bool false)], args := [d1, d2] }
  | _ => none }
def WordsSpacesWrongFalsely : Prop := wordsSpacesRow.holds Tryd.pinned (OpenSpec.ofChange wordsSpacesWrong)

/- THE SECOND FORM. 'bulk': how many values and letters a reading holds, each counted each time it is reached (what is shared counts as often as it is met; a slice's spare places count too). A statement '..UptoSaid' is the law's where the arguments, and the package variables that the reading takes, are together of bulk at most 1048576: NARROWER than '..Said'. Prove '..Said' where nothing that the law and all that it calls make is longer than what came in: it says more and counts as full. Else prove '..UptoSaid'. A law counts once. -/
mutual
def uptoBulk {H : Type} : DataW H → Nat
  | .lit (.string bytes) => bytes.length + 1
  | .lit _ => 1
  | .nil => 1
  | .ptr d => uptoBulk d + 1
  | .slice elems spare => uptoBulkAll elems + uptoBulkAll spare + 1
  | .agg parts => uptoBulkAll parts + 1
  | .iface _ d => uptoBulk d + 1
  | .map entries => uptoBulkEntries entries + 1
  | .held _ => 1
def uptoBulkAll {H : Type} : List (DataW H) → Nat
  | [] => 0
  | d :: r => uptoBulk d + uptoBulkAll r
def uptoBulkEntries {H : Type} : List (Lit × DataW H) → Nat
  | [] => 0
  | x :: r => uptoBulkEntry x + uptoBulkEntries r
def uptoBulkEntry {H : Type} : Lit × DataW H → Nat
  | (.string bytes, d) => bytes.length + uptoBulk d + 1
  | (_, d) => uptoBulk d + 1
 end
def uptoSmall : (H : Type) → List (DataW H) → Bool := fun _ ds => decide (uptoBulkAll ds ≤ 1048576)
def OpenSpec.upto (s : _root_.Go.ChangeSpec) : _root_.Go.OpenSpec := { _root_.Go.OpenSpec.ofChange s with cond := some uptoSmall }

/-- 'scansionlaw06.WordsSpaces', WHERE WHAT IT READS IS OF BULK AT MOST 1048576: true; the input reads as it did. -/
def wordsSpacesUptoRow : OpenClaim := { program := "ytpmlbdfdiebkcabdoor", sum := "9c3c9caaf51cb37ffce5e32cec2c60f421d538e5ea1e0b1fb86351cf8a4f760c", func := "scansion/scansionlaw06.WordsSpaces", spec := "wordsSpaces", unfollowed := true, recurses := true, named := ["scansion/ucd.scripts"], plainKeys := false, apart := false, laid := [("scansion/ucd.scripts", laid_scansion_ucd_scripts)], narrowed := true }
def WordsSpacesUptoSaid : Prop := wordsSpacesUptoRow.holds Tryd.pinned (OpenSpec.upto wordsSpacesSpec)

end Rows
end Go.Proofs.YtpmlbdfdiebkcabDoor
