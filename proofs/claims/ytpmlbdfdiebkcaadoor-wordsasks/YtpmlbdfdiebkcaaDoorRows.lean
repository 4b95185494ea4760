/-
  NARROWER THAN 'FOR EVERY INPUT', by the rows' own cells (each row's printed sentence says how): WordsBreaks: laid · WordsAsks: laid · WordsParts: laid · WordsMarks: laid · WordsLines: laid · WordsLetters: laid.
  DERIVED. THE GIVEN ROWS OF THIS SEAT. 6 by the template 'for every input the law returns true; each argument reads behind the call as it read before'; 0 by the template 'total and deterministic' (their statements: YtpmlbdfdiebkcaaDoorTotals.lean).
  GIVEN WITH THE SEED: the statements are not yours to turn. If you find one false, say at which input.
  Laid BY PROGRAM, IN A SANDBOX (cutbox-rows.mjs): the forced cells as the released guide's own fill.sh prints them over the translation 0c13c1b3c59a5688… (all of the seat's roots in one cut). By AI agents, Wed Nov 11 2026. No macro, syntax, notation, axiom, sorry.
-/
import Derived.Test.YtpmlbdfdiebkcaaDoorChecked
import GoSem.Claim
import GoSem.ClaimJoined
import GoSem.ClaimMapViews
import Derived.JoinedTies
import Derived.KernelRfl
namespace Go.Proofs.YtpmlbdfdiebkcaaDoor
/- THE CELL 'sum', in the pinned program and in every row, IS THE sha256 OF THE DUMP (.gsa) THAT YtpmlbdfdiebkcaaDoorProg.lean LOADS. Nothing in Lean hashes anything: it is a label: what it is worth is what the hold of that sum in a sandbox is worth. -/
noncomputable def Tryd.pinned : Pinned := { name := "ytpmlbdfdiebkcaadoor", sum := "0c13c1b3c59a56886a790db4d5d66a32356ad48a3af7f4235dc90af95bc1e1e4", checked := Tryd.checked }
namespace Rows
def none {H : Type} : Left H := { results := [], args := [] }

/- WHAT THE LISTED PACKAGE-LEVEL VARIABLES READ AS WHEN THE CALL BEGINS. Each datum BY PROGRAM (the guide's laid-datum.mjs) off the statement by which the dump's own 'gosem.cut.vars' lays the variable. In a bare row this is a premise. The card (YtpmlbdfdiebkcaaDoorCards.lean) ties it to the program's text. -/
def laid_scansion_ucd_scripts {H : Type} : DataW H := .agg [.agg [.lit (.int .i64 11904), .lit (.int .i64 12245), .lit (.int .u8 1)], .agg [.lit (.int .i64 12293), .lit (.int .i64 12295), .lit (.int .u8 1)], .agg [.lit (.int .i64 12321), .lit (.int .i64 12329), .lit (.int .u8 1)], .agg [.lit (.int .i64 12344), .lit (.int .i64 12347), .lit (.int .u8 1)], .agg [.lit (.int .i64 12353), .lit (.int .i64 12438), .lit (.int .u8 1)], .agg [.lit (.int .i64 12445), .lit (.int .i64 12447), .lit (.int .u8 1)], .agg [.lit (.int .i64 12449), .lit (.int .i64 12538), .lit (.int .u8 1)], .agg [.lit (.int .i64 12541), .lit (.int .i64 12543), .lit (.int .u8 1)], .agg [.lit (.int .i64 12784), .lit (.int .i64 12799), .lit (.int .u8 1)], .agg [.lit (.int .i64 13312), .lit (.int .i64 19903), .lit (.int .u8 1)], .agg [.lit (.int .i64 19968), .lit (.int .i64 40959), .lit (.int .u8 1)], .agg [.lit (.int .i64 63744), .lit (.int .i64 64217), .lit (.int .u8 1)], .agg [.lit (.int .i64 65382), .lit (.int .i64 65391), .lit (.int .u8 1)], .agg [.lit (.int .i64 65393), .lit (.int .i64 65437), .lit (.int .u8 1)], .agg [.lit (.int .i64 131072), .lit (.int .i64 195101), .lit (.int .u8 1)], .agg [.lit (.int .i64 3585), .lit (.int .i64 3642), .lit (.int .u8 2)], .agg [.lit (.int .i64 3648), .lit (.int .i64 3662), .lit (.int .u8 2)], .agg [.lit (.int .i64 3713), .lit (.int .i64 3773), .lit (.int .u8 3)], .agg [.lit (.int .i64 3776), .lit (.int .i64 3790), .lit (.int .u8 3)], .agg [.lit (.int .i64 3804), .lit (.int .i64 3807), .lit (.int .u8 3)], .agg [.lit (.int .i64 6016), .lit (.int .i64 6067), .lit (.int .u8 4)], .agg [.lit (.int .i64 6070), .lit (.int .i64 6099), .lit (.int .u8 4)], .agg [.lit (.int .i64 6103), .lit (.int .i64 6103), .lit (.int .u8 4)], .agg [.lit (.int .i64 6108), .lit (.int .i64 6109), .lit (.int .u8 4)]]

/-- 'scansionlaw06.WordsBreaks': WHATEVER THE INPUT: true; the input reads as it did. -/
def wordsBreaksSpec : ChangeSpec := { name := "wordsBreaks", fn := fun _ => fun
  | [d] => { results := [.lit (.bool true)], args := [d] }
  | _ => none }
def wordsBreaksRow : OpenClaim := { program := "ytpmlbdfdiebkcaadoor", sum := "0c13c1b3c59a56886a790db4d5d66a32356ad48a3af7f4235dc90af95bc1e1e4", func := "scansion/scansionlaw06.WordsBreaks", spec := "wordsBreaks", unfollowed := true, recurses := true, named := ["scansion/ucd.scripts"], plainKeys := false, apart := false, laid := [("scansion/ucd.scripts", laid_scansion_ucd_scripts)] }
def WordsBreaksSaid : Prop := wordsBreaksRow.holds Tryd.pinned (OpenSpec.ofChange wordsBreaksSpec)

/-- ITS FALSE NEIGHBOUR: 'it returns false'. Refute it at one input. -/
def wordsBreaksWrong : ChangeSpec := { name := "wordsBreaks", fn := fun _ => fun
  | [d] => { results := [.lit (.bool false)], args := [d] }
  | _ => none }
def WordsBreaksWrongFalsely : Prop := wordsBreaksRow.holds Tryd.pinned (OpenSpec.ofChange wordsBreaksWrong)

/-- 'scansionlaw06.WordsAsks': WHATEVER THE INPUT: true; the input reads as it did. -/
def wordsAsksSpec : ChangeSpec := { name := "wordsAsks", fn := fun _ => fun
  | [d1, d2] => { results := [.lit (.bool true)], args := [d1, d2] }
  | _ => none }
def wordsAsksRow : OpenClaim := { program := "ytpmlbdfdiebkcaadoor", sum := "0c13c1b3c59a56886a790db4d5d66a32356ad48a3af7f4235dc90af95bc1e1e4", func := "scansion/scansionlaw06.WordsAsks", spec := "wordsAsks", unfollowed := true, recurses := true, named := ["scansion/ucd.scripts"], plainKeys := false, apart := false, laid := [("scansion/ucd.scripts", laid_scansion_ucd_scripts)] }
def WordsAsksSaid : Prop := wordsAsksRow.holds Tryd.pinned (OpenSpec.ofChange wordsAsksSpec)

/-- ITS FALSE NEIGHBOUR: 'it returns false'. Refute it at one input. -/
def wordsAsksWrong : ChangeSpec := { name := "wordsAsks", fn := fun _ => fun
  | [d1, d2] => { results := [.lit (.bool false)], args := [d1, d2] }
  | _ => none }
def WordsAsksWrongFalsely : Prop := wordsAsksRow.holds Tryd.pinned (OpenSpec.ofChange wordsAsksWrong)

/-- 'scansionlaw06.WordsParts': WHATEVER THE INPUT: true; the input reads as it did. -/
def wordsPartsSpec : ChangeSpec := { name := "wordsParts", fn := fun _ => fun
  | [d] => { results := [.lit (.bool true)], args := [d] }
  | _ => none }
def wordsPartsRow : OpenClaim := { program := "ytpmlbdfdiebkcaadoor", sum := "0c13c1b3c59a56886a790db4d5d66a32356ad48a3af7f4235dc90af95bc1e1e4", func := "scansion/scansionlaw06.WordsParts", spec := "wordsParts", unfollowed := true, recurses := true, named := ["scansion/ucd.scripts"], plainKeys := false, apart := false, laid := [("scansion/ucd.scripts", laid_scansion_ucd_scripts)] }
def WordsPartsSaid : Prop := wordsPartsRow.holds Tryd.pinned (OpenSpec.ofChange wordsPartsSpec)

/-- ITS FALSE NEIGHBOUR: 'it returns false'. Refute it at one input. -/
def wordsPartsWrong : ChangeSpec := { name := "wordsParts", fn := fun _ => fun
  | [d] => { results := [.lit (.bool false)], args := [d] }
  | _ => none }
def WordsPartsWrongFalsely : Prop := wordsPartsRow.holds Tryd.pinned (OpenSpec.ofChange wordsPartsWrong)

/-- 'scansionlaw06.WordsMarks': WHATEVER THE INPUT: true; the input reads as it did. -/
def wordsMarksSpec : ChangeSpec := { name := "wordsMarks", fn := fun _ => fun
  | [d1, d2] => { results := [.lit (.bool true)], args := [d1, d2] }
  | _ => none }
def wordsMarksRow : OpenClaim := { program := "ytpmlbdfdiebkcaadoor", sum := "0c13c1b3c59a56886a790db4d5d66a32356ad48a3af7f4235dc90af95bc1e1e4", func := "scansion/scansionlaw06.WordsMarks", spec := "wordsMarks", unfollowed := true, recurses := true, named := ["scansion/ucd.scripts"], plainKeys := false, apart := false, laid := [("scansion/ucd.scripts", laid_scansion_ucd_scripts)] }
def WordsMarksSaid : Prop := wordsMarksRow.holds Tryd.pinned (OpenSpec.ofChange wordsMarksSpec)

/-- ITS FALSE NEIGHBOUR: 'it returns false'. Refute it at one input. -/
def wordsMarksWrong : ChangeSpec := { name := "wordsMarks", fn := fun _ => fun
  | [d1, d2] => { results := [.lit (.bool false)], args := [d1, d2] }
  | _ => none }
def WordsMarksWrongFalsely : Prop := wordsMarksRow.holds Tryd.pinned (OpenSpec.ofChange wordsMarksWrong)

/-- 'scansionlaw06.WordsLines': WHATEVER THE INPUT: true; the input reads as it did. -/
def wordsLinesSpec : ChangeSpec := { name := "wordsLines", fn := fun _ => fun
  | [d1, d2] => { results := [.lit (.bool true)], args := [d1, d2] }
  | _ => none }
def wordsLinesRow : OpenClaim := { program := "ytpmlbdfdiebkcaadoor", sum := "0c13c1b3c59a56886a790db4d5d66a32356ad48a3af7f4235dc90af95bc1e1e4", func := "scansion/scansionlaw06.WordsLines", spec := "wordsLines", unfollowed := true, recurses := true, named := ["scansion/ucd.scripts"], plainKeys := false, apart := false, laid := [("scansion/ucd.scripts", laid_scansion_ucd_scripts)] }
def WordsLinesSaid : Prop := wordsLinesRow.holds Tryd.pinned (OpenSpec.ofChange wordsLinesSpec)

/-- ITS FALSE NEIGHBOUR: 'it returns false'. Refute it at one input. -/
def wordsLinesWrong : ChangeSpec := { name := "wordsLines", fn := fun _ => fun
  | [d1, d2] => { results := [.lit (.bool false)], args := [d1, d2] }
  | _ => none }
def WordsLinesWrongFalsely : Prop := wordsLinesRow.holds Tryd.pinned (OpenSpec.ofChange wordsLinesWrong)

/-- 'scansionlaw06.WordsLetters': WHATEVER THE INPUT: true; the input reads as it did. -/
def wordsLettersSpec : ChangeSpec := { name := "wordsLetters", fn := fun _ => fun
  | [d] => { results := [.lit (.bool true)], args := [d] }
  | _ => none }
def wordsLettersRow : OpenClaim := { program := "ytpmlbdfdiebkcaadoor", sum := "0c13c1b3c59a56886a790db4d5d66a32356ad48a3af7f4235dc90af95bc1e1e4", func := "scansion/scansionlaw06.WordsLetters", spec := "wordsLetters", unfollowed := true, recurses := true, named := ["scansion/ucd.scripts"], plainKeys := false, apart := false, laid := [("scansion/ucd.scripts", laid_scansion_ucd_scripts)] }
def WordsLettersSaid : Prop := wordsLettersRow.holds Tryd.pinned (OpenSpec.ofChange wordsLettersSpec)

/-- ITS FALSE NEIGHBOUR: 'it returns false'. Refute it at one input. -/
def wordsLettersWrong : ChangeSpec := { name := "wordsLetters", fn := fun _ => fun
  | [d] => { results := [.lit (.bool false)], args := [d] }
  | _ => none }
def WordsLettersWrongFalsely : Prop := wordsLettersRow.holds Tryd.pinned (OpenSpec.ofChange wordsLettersWrong)

/- THE SECOND FORM. 'bulk': how many values and letters a reading holds, each counted each time it is reached (what is shared counts as often as it is met; a slice's spare places count too). A statement '..UptoSaid' is the law's where the arguments, and the package variables that the reading takes, are together of bulk at most 1048576: NARROWER than '..Said'. Prove '..Said' where nothing that the law and all that it calls make is longer than what came in: it says more and counts as full. Else prove '..UptoSaid'. A law counts once. -/
mutual
def uptoBulk {H : Type} : DataW H → Nat
  | .lit (.string bytes) => bytes.length + 1
  | .lit _ => 1
  | .nil => 1
  | .ptr d => uptoBulk d + 1
  | .slice elems spare => uptoBulkAll elems + uptoBulkAll spare + 1
  | .agg parts => uptoBulkAll parts + 1
  | .iface _ d => uptoBulk d + 1
  | .map entries => uptoBulkEntries entries + 1
  | .held _ => 1
def uptoBulkAll {H : Type} : List (DataW H) → Nat
  | [] => 0
  | d :: r => uptoBulk d + uptoBulkAll r
def uptoBulkEntries {H : Type} : List (Lit × DataW H) → Nat
  | [] => 0
  | x :: r => uptoBulkEntry x + uptoBulkEntries r
def uptoBulkEntry {H : Type} : Lit × DataW H → Nat
  | (.string bytes, d) => bytes.length + uptoBulk d + 1
  | (_, d) => uptoBulk d + 1
 end
def uptoSmall : (H : Type) → List (DataW H) → Bool := fun _ ds => decide (uptoBulkAll ds ≤ 1048576)
def OpenSpec.upto (s : _root_.Go.ChangeSpec) : _root_.Go.OpenSpec := { _root_.Go.OpenSpec.ofChange s with cond := some uptoSmall }

/-- 'scansionlaw06.WordsBreaks', WHERE WHAT IT READS IS OF BULK AT MOST 1048576: true; the input reads as it did. -/
def wordsBreaksUptoRow : OpenClaim := { program := "ytpmlbdfdiebkcaadoor", sum := "0c13c1b3c59a56886a790db4d5d66a32356ad48a3af7f4235dc90af95bc1e1e4", func := "scansion/scansionlaw06.WordsBreaks", spec := "wordsBreaks", unfollowed := true, recurses := true, named := ["scansion/ucd.scripts"], plainKeys := false, apart := false, laid := [("scansion/ucd.scripts", laid_scansion_ucd_scripts)], narrowed := true }
def WordsBreaksUptoSaid : Prop := wordsBreaksUptoRow.holds Tryd.pinned (OpenSpec.upto wordsBreaksSpec)

/-- 'scansionlaw06.WordsAsks', WHERE WHAT IT READS IS OF BULK AT MOST 1048576: true; the input reads as it did. -/
def wordsAsksUptoRow : OpenClaim := { program := "ytpmlbdfdiebkcaadoor", sum := "0c13c1b3c59a56886a790db4d5d66a32356ad48a3af7f4235dc90af95bc1e1e4", func := "scansion/scansionlaw06.WordsAsks", spec := "wordsAsks", unfollowed := true, recurses := true, named := ["scansion/ucd.scripts"], plainKeys := false, apart := false, laid := [("scansion/ucd.scripts", laid_scansion_ucd_scripts)], narrowed := true }
def WordsAsksUptoSaid : Prop := wordsAsksUptoRow.holds Tryd.pinned (OpenSpec.upto wordsAsksSpec)

/-- 'scansionlaw06.WordsParts', WHERE WHAT IT READS IS OF BULK AT MOST 1048576: true; the input reads as it did. -/
def wordsPartsUptoRow : OpenClaim := { program := "ytpmlbdfdiebkcaadoor", sum := "0c13c1b3c59a56886a790db4d5d66a32356ad48a3af7f4235dc90af95bc1e1e4", func := "scansion/scansionlaw06.WordsParts", spec := "wordsParts", unfollowed := true, recurses := true, named := ["scansion/ucd.scripts"], plainKeys := false, apart := false, laid := [("scansion/ucd.scripts", laid_scansion_ucd_scripts)], narrowed := true }
def WordsPartsUptoSaid : Prop := wordsPartsUptoRow.holds Tryd.pinned (OpenSpec.upto wordsPartsSpec)

/-- 'scansionlaw06.WordsMarks', WHERE WHAT IT READS IS OF BULK AT MOST 1048576: true; the input reads as it did. -/
def wordsMarksUptoRow : OpenClaim := { program := "ytpmlbdfdiebkcaadoor", sum := "0c13c1b3c59a56886a790db4d5d66a32356ad48a3af7f4235dc90af95bc1e1e4", func := "scansion/scansionlaw06.WordsMarks", spec := "wordsMarks", unfollowed := true, recurses := true, named := ["scansion/ucd.scripts"], plainKeys := false, apart := false, laid := [("scansion/ucd.scripts", laid_scansion_ucd_scripts)], narrowed := true }
def WordsMarksUptoSaid : Prop := wordsMarksUptoRow.holds Tryd.pinned (OpenSpec.upto wordsMarksSpec)

/-- 'scansionlaw06.WordsLines', WHERE WHAT IT READS IS OF BULK AT MOST 1048576: true; the input reads as it did. -/
def wordsLinesUptoRow : OpenClaim := { program := "ytpmlbdfdiebkcaadoor", sum := "0c13c1b3c59a56886a790db4d5d66a32356ad48a3af7f4235dc90af95bc1e1e4", func := "scansion/scansionlaw06.WordsLines", spec := "wordsLines", unfollowed := true, recurses := true, named := ["scansion/ucd.scripts"], plainKeys := false, apart := false, laid := [("scansion/ucd.scripts", laid_scansion_ucd_scripts)], narrowed := true }
def WordsLinesUptoSaid : Prop := wordsLinesUptoRow.holds Tryd.pinned (OpenSpec.upto wordsLinesSpec)

/-- 'scansionlaw06.WordsLetters', WHERE WHAT IT READS IS OF BULK AT MOST 1048576: true; the input reads as it did. -/
def wordsLettersUptoRow : OpenClaim := { program := "ytpmlbdfdiebkcaadoor", sum := "0c13c1b3c59a56886a790db4d5d66a32356ad48a3af7f4235dc90af95bc1e1e4", func := "scansion/scansionlaw06.WordsLetters", spec := "wordsLetters", unfollowed := true, recurses := true, named := ["scansion/ucd.scripts"], plainKeys := false, apart := false, laid := [("scansion/ucd.scripts", laid_scansion_ucd_scripts)], narrowed := true }
def WordsLettersUptoSaid : Prop := wordsLettersUptoRow.holds Tryd.pinned (OpenSpec.upto wordsLettersSpec)

end Rows
end Go.Proofs.YtpmlbdfdiebkcaaDoor
