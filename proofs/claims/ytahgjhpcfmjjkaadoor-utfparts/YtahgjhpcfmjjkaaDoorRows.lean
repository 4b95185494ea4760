/-
  NARROWER THAN 'FOR EVERY INPUT', by the rows' own cells (each row's printed sentence says how): UtfEncodes: laid · UtfDecodes: laid · UtfRunes: laid · UtfIndex: laid · UtfParts: laid · UtfBack: laid.
  DERIVED. THE GIVEN ROWS OF THIS SEAT. 6 by the template 'for every input the law returns true; each argument reads behind the call as it read before'; 0 by the template 'total and deterministic' (their statements: YtahgjhpcfmjjkaaDoorTotals.lean).
  GIVEN WITH THE SEED: the statements are not yours to turn. If you find one false, say at which input.
  Laid BY PROGRAM, IN A SANDBOX (cutbox-rows.mjs): the forced cells as the released guide's own fill.sh prints them over the translation 1c8ed40cdf7e4219… (all of the seat's roots in one cut). By AI agents, Wed Nov 11 2026. No macro, syntax, notation, axiom, sorry.
-/
import Derived.Test.YtahgjhpcfmjjkaaDoorChecked
import GoSem.Claim
import GoSem.ClaimJoined
import GoSem.ClaimMapViews
import Derived.JoinedTies
import Derived.KernelRfl
namespace Go.Proofs.YtahgjhpcfmjjkaaDoor
/- THE CELL 'sum', in the pinned program and in every row, IS THE sha256 OF THE DUMP (.gsa) THAT YtahgjhpcfmjjkaaDoorProg.lean LOADS. Nothing in Lean hashes anything: it is a label: what it is worth is what the hold of that sum in a sandbox is worth. -/
noncomputable def Tryd.pinned : Pinned := { name := "ytahgjhpcfmjjkaadoor", sum := "1c8ed40cdf7e4219ed88a47aabb1f866a357690ccf3c52e8fd67896a5380facb", checked := Tryd.checked }
namespace Rows
def none {H : Type} : Left H := { results := [], args := [] }

/- WHAT THE LISTED PACKAGE-LEVEL VARIABLES READ AS WHEN THE CALL BEGINS. Each datum BY PROGRAM (the guide's laid-datum.mjs) off the statement by which the dump's own 'gosem.cut.vars' lays the variable. In a bare row this is a premise. The card (YtahgjhpcfmjjkaaDoorCards.lean) ties it to the program's text. -/
def laid_scansion_utf_headMarks {H : Type} : DataW H := .agg [.lit (.int .u8 0), .lit (.int .u8 0), .lit (.int .u8 192), .lit (.int .u8 224), .lit (.int .u8 240)]

/-- 'scansionlaw01.UtfEncodes': WHATEVER THE INPUT: true; the input reads as it did. -/
def utfEncodesSpec : ChangeSpec := { name := "utfEncodes", fn := fun _ => fun
  | [d] => { results := [.lit (.bool true)], args := [d] }
  | _ => none }
def utfEncodesRow : OpenClaim := { program := "ytahgjhpcfmjjkaadoor", sum := "1c8ed40cdf7e4219ed88a47aabb1f866a357690ccf3c52e8fd67896a5380facb", func := "scansion/scansionlaw01.UtfEncodes", spec := "utfEncodes", named := ["scansion/utf.headMarks"], apart := false, laid := [("scansion/utf.headMarks", laid_scansion_utf_headMarks)] }
def UtfEncodesSaid : Prop := utfEncodesRow.holds Tryd.pinned (OpenSpec.ofChange utfEncodesSpec)

/-- ITS FALSE NEIGHBOUR: 'it returns false'. Refute it at one input. -/
def utfEncodesWrong : ChangeSpec := { name := "utfEncodes", fn := fun _ => fun
  | [d] => { results := [.lit (.bool false)], args := [d] }
  | _ => none }
def UtfEncodesWrongFalsely : Prop := utfEncodesRow.holds Tryd.pinned (OpenSpec.ofChange utfEncodesWrong)

/-- 'scansionlaw01.UtfDecodes': WHATEVER THE INPUT: true; the input reads as it did. -/
def utfDecodesSpec : ChangeSpec := { name := "utfDecodes", fn := fun _ => fun
  | [d] => { results := [.lit (.bool true)], args := [d] }
  | _ => none }
def utfDecodesRow : OpenClaim := { program := "ytahgjhpcfmjjkaadoor", sum := "1c8ed40cdf7e4219ed88a47aabb1f866a357690ccf3c52e8fd67896a5380facb", func := "scansion/scansionlaw01.UtfDecodes", spec := "utfDecodes", unfollowed := true, recurses := true, named := ["scansion/utf.headMarks"], apart := false, laid := [("scansion/utf.headMarks", laid_scansion_utf_headMarks)] }
def UtfDecodesSaid : Prop := utfDecodesRow.holds Tryd.pinned (OpenSpec.ofChange utfDecodesSpec)

/-- ITS FALSE NEIGHBOUR: 'it returns false'. Refute it at one input. -/
def utfDecodesWrong : ChangeSpec := { name := "utfDecodes", fn := fun _ => fun
  | [d] => { results := [.lit (.bool false)], args := [d] }
  | _ => none }
def UtfDecodesWrongFalsely : Prop := utfDecodesRow.holds Tryd.pinned (OpenSpec.ofChange utfDecodesWrong)

/-- 'scansionlaw01.UtfRunes': WHATEVER THE INPUT: true; the input reads as it did. -/
def utfRunesSpec : ChangeSpec := { name := "utfRunes", fn := fun _ => fun
  | [d1, d2] => { results := [.lit (.bool true)], args := [d1, d2] }
  | _ => none }
def utfRunesRow : OpenClaim := { program := "ytahgjhpcfmjjkaadoor", sum := "1c8ed40cdf7e4219ed88a47aabb1f866a357690ccf3c52e8fd67896a5380facb", func := "scansion/scansionlaw01.UtfRunes", spec := "utfRunes", unfollowed := true, recurses := true, named := ["scansion/utf.headMarks"], apart := false, laid := [("scansion/utf.headMarks", laid_scansion_utf_headMarks)] }
def UtfRunesSaid : Prop := utfRunesRow.holds Tryd.pinned (OpenSpec.ofChange utfRunesSpec)

/-- ITS FALSE NEIGHBOUR: 'it returns false'. Refute it at one input. -/
def utfRunesWrong : ChangeSpec := { name := "utfRunes", fn := fun _ => fun
  | [d1, d2] => { results := [.lit (.bool false)], args := [d1, d2] }
  | _ => none }
def UtfRunesWrongFalsely : Prop := utfRunesRow.holds Tryd.pinned (OpenSpec.ofChange utfRunesWrong)

/-- 'scansionlaw01.UtfIndex': WHATEVER THE INPUT: true; the input reads as it did. -/
def utfIndexSpec : ChangeSpec := { name := "utfIndex", fn := fun _ => fun
  | [d1, d2] => { results := [.lit (.bool true)], args := [d1, d2] }
  | _ => none }
def utfIndexRow : OpenClaim := { program := "ytahgjhpcfmjjkaadoor", sum := "1c8ed40cdf7e4219ed88a47aabb1f866a357690ccf3c52e8fd67896a5380facb", func := "scansion/scansionlaw01.UtfIndex", spec := "utfIndex", unfollowed := true, recurses := true, named := ["scansion/utf.headMarks"], apart := false, laid := [("scansion/utf.headMarks", laid_scansion_utf_headMarks)] }
def UtfIndexSaid : Prop := utfIndexRow.holds Tryd.pinned (OpenSpec.ofChange utfIndexSpec)

/-- ITS FALSE NEIGHBOUR: 'it returns false'. Refute it at one input. -/
def utfIndexWrong : ChangeSpec := { name := "utfIndex", fn := fun _ => fun
  | [d1, d2] => { results := [.lit (.bool false)], args := [d1, d2] }
  | _ => none }
def UtfIndexWrongFalsely : Prop := utfIndexRow.holds Tryd.pinned (OpenSpec.ofChange utfIndexWrong)

/-- 'scansionlaw01.UtfParts': WHATEVER THE INPUT: true; the input reads as it did. -/
def utfPartsSpec : ChangeSpec := { name := "utfParts", fn := fun _ => fun
  | [d] => { results := [.lit (.bool true)], args := [d] }
  | _ => none }
def utfPartsRow : OpenClaim := { program := "ytahgjhpcfmjjkaadoor", sum := "1c8ed40cdf7e4219ed88a47aabb1f866a357690ccf3c52e8fd67896a5380facb", func := "scansion/scansionlaw01.UtfParts", spec := "utfParts", unfollowed := true, recurses := true, named := ["scansion/utf.headMarks"], apart := false, laid := [("scansion/utf.headMarks", laid_scansion_utf_headMarks)] }
def UtfPartsSaid : Prop := utfPartsRow.holds Tryd.pinned (OpenSpec.ofChange utfPartsSpec)

/-- ITS FALSE NEIGHBOUR: 'it returns false'. Refute it at one input. -/
def utfPartsWrong : ChangeSpec := { name := "utfParts", fn := fun _ => fun
  | [d] => { results := [.lit (.bool false)], args := [d] }
  | _ => none }
def UtfPartsWrongFalsely : Prop := utfPartsRow.holds Tryd.pinned (OpenSpec.ofChange utfPartsWrong)

/-- 'scansionlaw01.UtfBack': WHATEVER THE INPUT: true; the input reads as it did. -/
def utfBackSpec : ChangeSpec := { name := "utfBack", fn := fun _ => fun
  | [d] => { results := [.lit (.bool true)], args := [d] }
  | _ => none }
def utfBackRow : OpenClaim := { program := "ytahgjhpcfmjjkaadoor", sum := "1c8ed40cdf7e4219ed88a47aabb1f866a357690ccf3c52e8fd67896a5380facb", func := "scansion/scansionlaw01.UtfBack", spec := "utfBack", unfollowed := true, recurses := true, named := ["scansion/utf.headMarks"], apart := false, laid := [("scansion/utf.headMarks", laid_scansion_utf_headMarks)] }
def UtfBackSaid : Prop := utfBackRow.holds Tryd.pinned (OpenSpec.ofChange utfBackSpec)

/-- ITS FALSE NEIGHBOUR: 'it returns false'. Refute it at one input. -/
def utfBackWrong : ChangeSpec := { name := "utfBack", fn := fun _ => fun
  | [d] => { results := [.lit (.bool false)], args := [d] }
  | _ => none }
def UtfBackWrongFalsely : Prop := utfBackRow.holds Tryd.pinned (OpenSpec.ofChange utfBackWrong)

/- THE SECOND FORM. 'bulk': how many values and letters a reading holds, each counted each time it is reached (what is shared counts as often as it is met; a slice's spare places count too). A statement '..UptoSaid' is the law's where the arguments, and the package variables that the reading takes, are together of bulk at most 1048576: NARROWER than '..Said'. Prove '..Said' where nothing that the law and all that it calls make is longer than what came in: it says more and counts as full. Else prove '..UptoSaid'. A law counts once. -/
mutual
def uptoBulk {H : Type} : DataW H → Nat
  | .lit (.string bytes) => bytes.length + 1
  | .lit _ => 1
  | .nil => 1
  | .ptr d => uptoBulk d + 1
  | .slice elems spare => uptoBulkAll elems + uptoBulkAll spare + 1
  | .agg parts => uptoBulkAll parts + 1
  | .iface _ d => uptoBulk d + 1
  | .map entries => uptoBulkEntries entries + 1
  | .held _ => 1
def uptoBulkAll {H : Type} : List (DataW H) → Nat
  | [] => 0
  | d :: r => uptoBulk d + uptoBulkAll r
def uptoBulkEntries {H : Type} : List (Lit × DataW H) → Nat
  | [] => 0
  | x :: r => uptoBulkEntry x + uptoBulkEntries r
def uptoBulkEntry {H : Type} : Lit × DataW H → Nat
  | (.string bytes, d) => bytes.length + uptoBulk d + 1
  | (_, d) => uptoBulk d + 1
 end
def uptoSmall : (H : Type) → List (DataW H) → Bool := fun _ ds => decide (uptoBulkAll ds ≤ 1048576)
def OpenSpec.upto (s : _root_.Go.ChangeSpec) : _root_.Go.OpenSpec := { _root_.Go.OpenSpec.ofChange s with cond := some uptoSmall }

/-- 'scansionlaw01.UtfEncodes', WHERE WHAT IT READS IS OF BULK AT MOST 1048576: true; the input reads as it did. -/
def utfEncodesUptoRow : OpenClaim := { program := "ytahgjhpcfmjjkaadoor", sum := "1c8ed40cdf7e4219ed88a47aabb1f866a357690ccf3c52e8fd67896a5380facb", func := "scansion/scansionlaw01.UtfEncodes", spec := "utfEncodes", named := ["scansion/utf.headMarks"], apart := false, laid := [("scansion/utf.headMarks", laid_scansion_utf_headMarks)], narrowed := true }
def UtfEncodesUptoSaid : Prop := utfEncodesUptoRow.holds Tryd.pinned (OpenSpec.upto utfEncodesSpec)

/-- 'scansionlaw01.UtfDecodes', WHERE WHAT IT READS IS OF BULK AT MOST 1048576: true; the input reads as it did. -/
def utfDecodesUptoRow : OpenClaim := { program := "ytahgjhpcfmjjkaadoor", sum := "1c8ed40cdf7e4219ed88a47aabb1f866a357690ccf3c52e8fd67896a5380facb", func := "scansion/scansionlaw01.UtfDecodes", spec := "utfDecodes", unfollowed := true, recurses := true, named := ["scansion/utf.headMarks"], apart := false, laid := [("scansion/utf.headMarks", laid_scansion_utf_headMarks)], narrowed := true }
def UtfDecodesUptoSaid : Prop := utfDecodesUptoRow.holds Tryd.pinned (OpenSpec.upto utfDecodesSpec)

/-- 'scansionlaw01.UtfRunes', WHERE WHAT IT READS IS OF BULK AT MOST 1048576: true; the input reads as it did. -/
def utfRunesUptoRow : OpenClaim := { program := "ytahgjhpcfmjjkaadoor", sum := "1c8ed40cdf7e4219ed88a47aabb1f866a357690ccf3c52e8fd67896a5380facb", func := "scansion/scansionlaw01.UtfRunes", spec := "utfRunes", unfollowed := true, recurses := true, named := ["scansion/utf.headMarks"], apart := false, laid := [("scansion/utf.headMarks", laid_scansion_utf_headMarks)], narrowed := true }
def UtfRunesUptoSaid : Prop := utfRunesUptoRow.holds Tryd.pinned (OpenSpec.upto utfRunesSpec)

/-- 'scansionlaw01.UtfIndex', WHERE WHAT IT READS IS OF BULK AT MOST 1048576: true; the input reads as it did. -/
def utfIndexUptoRow : OpenClaim := { program := "ytahgjhpcfmjjkaadoor", sum := "1c8ed40cdf7e4219ed88a47aabb1f866a357690ccf3c52e8fd67896a5380facb", func := "scansion/scansionlaw01.UtfIndex", spec := "utfIndex", unfollowed := true, recurses := true, named := ["scansion/utf.headMarks"], apart := false, laid := [("scansion/utf.headMarks", laid_scansion_utf_headMarks)], narrowed := true }
def UtfIndexUptoSaid : Prop := utfIndexUptoRow.holds Tryd.pinned (OpenSpec.upto utfIndexSpec)

/-- 'scansionlaw01.UtfParts', WHERE WHAT IT READS IS OF BULK AT MOST 1048576: true; the input reads as it did. -/
def utfPartsUptoRow : OpenClaim := { program := "ytahgjhpcfmjjkaadoor", sum := "1c8ed40cdf7e4219ed88a47aabb1f866a357690ccf3c52e8fd67896a5380facb", func := "scansion/scansionlaw01.UtfParts", spec := "utfParts", unfollowed := true, recurses := true, named := ["scansion/utf.headMarks"], apart := false, laid := [("scansion/utf.headMarks", laid_scansion_utf_headMarks)], narrowed := true }
def UtfPartsUptoSaid : Prop := utfPartsUptoRow.holds Tryd.pinned (OpenSpec.upto utfPartsSpec)

/-- 'scansionlaw01.UtfBack', WHERE WHAT IT READS IS OF BULK AT MOST 1048576: true; the input reads as it did. -/
def utfBackUptoRow : OpenClaim := { program := "ytahgjhpcfmjjkaadoor", sum := "1c8ed40cdf7e4219ed88a47aabb1f866a357690ccf3c52e8fd67896a5380facb", func := "scansion/scansionlaw01.UtfBack", spec := "utfBack", unfollowed := true, recurses := true, named := ["scansion/utf.headMarks"], apart := false, laid := [("scansion/utf.headMarks", laid_scansion_utf_headMarks)], narrowed := true }
def UtfBackUptoSaid : Prop := utfBackUptoRow.holds Tryd.pinned (OpenSpec.upto utfBackSpec)

end Rows
end Go.Proofs.YtahgjhpcfmjjkaaDoor
