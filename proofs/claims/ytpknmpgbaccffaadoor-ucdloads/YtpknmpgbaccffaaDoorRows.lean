/-
  NARROWER THAN 'FOR EVERY INPUT', by the rows' own cells (each row's printed sentence says how): UcdTells: laid · UcdSaves: laid · UcdLoads: laid · UcdBytes: laid · UcdHangul: laid · UcdMarks: laid.
  DERIVED. THE GIVEN ROWS OF THIS SEAT. 6 by the template 'for every input the law returns true; each argument reads behind the call as it read before'; 0 by the template 'total and deterministic' (their statements: YtpknmpgbaccffaaDoorTotals.lean).
  GIVEN WITH THE SEED: the statements are not yours to turn. If you find one false, say at which input.
  Laid BY PROGRAM, IN A SANDBOX (cutbox-rows.mjs): the forced cells as the released guide's own fill.sh prints them over the translation 493168d349404d08… (all of the seat's roots in one cut). By AI agents, Wed Nov 11 2026. No macro, syntax, notation, axiom, sorry.
-/
import Derived.Test.YtpknmpgbaccffaaDoorChecked
import GoSem.Claim
import GoSem.ClaimJoined
import GoSem.ClaimMapViews
import Derived.JoinedTies
import Derived.KernelRfl
namespace Go.Proofs.YtpknmpgbaccffaaDoor
/- THE CELL 'sum', in the pinned program and in every row, IS THE sha256 OF THE DUMP (.gsa) THAT YtpknmpgbaccffaaDoorProg.lean LOADS. Nothing in Lean hashes anything: it is a label: what it is worth is what the hold of that sum in a sandbox is worth. -/
noncomputable def Tryd.pinned : Pinned := { name := "ytpknmpgbaccffaadoor", sum := "493168d349404d08470445aa53ddee84175e9de7b8d0215820cea302b8f7fae2", checked := Tryd.checked }
namespace Rows
def none {H : Type} : Left H := { results := [], args := [] }

/- WHAT THE LISTED PACKAGE-LEVEL VARIABLES READ AS WHEN THE CALL BEGINS. Each datum BY PROGRAM (the guide's laid-datum.mjs) off the statement by which the dump's own 'gosem.cut.vars' lays the variable. In a bare row this is a premise. The card (YtpknmpgbaccffaaDoorCards.lean) ties it to the program's text. -/
def laid_scansion_ucd_scripts {H : Type} : DataW H := .agg [.agg [.lit (.int .i64 11904), .lit (.int .i64 12245), .lit (.int .u8 1)], .agg [.lit (.int .i64 12293), .lit (.int .i64 12295), .lit (.int .u8 1)], .agg [.lit (.int .i64 12321), .lit (.int .i64 12329), .lit (.int .u8 1)], .agg [.lit (.int .i64 12344), .lit (.int .i64 12347), .lit (.int .u8 1)], .agg [.lit (.int .i64 12353), .lit (.int .i64 12438), .lit (.int .u8 1)], .agg [.lit (.int .i64 12445), .lit (.int .i64 12447), .lit (.int .u8 1)], .agg [.lit (.int .i64 12449), .lit (.int .i64 12538), .lit (.int .u8 1)], .agg [.lit (.int .i64 12541), .lit (.int .i64 12543), .lit (.int .u8 1)], .agg [.lit (.int .i64 12784), .lit (.int .i64 12799), .lit (.int .u8 1)], .agg [.lit (.int .i64 13312), .lit (.int .i64 19903), .lit (.int .u8 1)], .agg [.lit (.int .i64 19968), .lit (.int .i64 40959), .lit (.int .u8 1)], .agg [.lit (.int .i64 63744), .lit (.int .i64 64217), .lit (.int .u8 1)], .agg [.lit (.int .i64 65382), .lit (.int .i64 65391), .lit (.int .u8 1)], .agg [.lit (.int .i64 65393), .lit (.int .i64 65437), .lit (.int .u8 1)], .agg [.lit (.int .i64 131072), .lit (.int .i64 195101), .lit (.int .u8 1)], .agg [.lit (.int .i64 3585), .lit (.int .i64 3642), .lit (.int .u8 2)], .agg [.lit (.int .i64 3648), .lit (.int .i64 3662), .lit (.int .u8 2)], .agg [.lit (.int .i64 3713), .lit (.int .i64 3773), .lit (.int .u8 3)], .agg [.lit (.int .i64 3776), .lit (.int .i64 3790), .lit (.int .u8 3)], .agg [.lit (.int .i64 3804), .lit (.int .i64 3807), .lit (.int .u8 3)], .agg [.lit (.int .i64 6016), .lit (.int .i64 6067), .lit (.int .u8 4)], .agg [.lit (.int .i64 6070), .lit (.int .i64 6099), .lit (.int .u8 4)], .agg [.lit (.int .i64 6103), .lit (.int .i64 6103), .lit (.int .u8 4)], .agg [.lit (.int .i64 6108), .lit (.int .i64 6109), .lit (.int .u8 4)]]

/-- 'scansionlaw04.UcdTells': WHATEVER THE INPUT: true; the input reads as it did. -/
def ucdTellsSpec : ChangeSpec := { name := "ucdTells", fn := fun _ => fun
  | [d] => { results := [.lit (.bool true)], args := [d] }
  | _ => none }
def ucdTellsRow : OpenClaim := { program := "ytpknmpgbaccffaadoor", sum := "493168d349404d08470445aa53ddee84175e9de7b8d0215820cea302b8f7fae2", func := "scansion/scansionlaw04.UcdTells", spec := "ucdTells", named := ["scansion/ucd.scripts"], plainKeys := false, apart := false, laid := [("scansion/ucd.scripts", laid_scansion_ucd_scripts)] }
def UcdTellsSaid : Prop := ucdTellsRow.holds Tryd.pinned (OpenSpec.ofChange ucdTellsSpec)

/-- ITS FALSE NEIGHBOUR: 'it returns false'. Refute it at one input. -/
def ucdTellsWrong : ChangeSpec := { name := "ucdTells", fn := fun _ => fun
  | [d] => { results := [.lit (.bool false)], args := [d] }
  | _ => none }
def UcdTellsWrongFalsely : Prop := ucdTellsRow.holds Tryd.pinned (OpenSpec.ofChange ucdTellsWrong)

/-- 'scansionlaw04.UcdSaves': WHATEVER THE INPUT: true; the input reads as it did. -/
def ucdSavesSpec : ChangeSpec := { name := "ucdSaves", fn := fun _ => fun
  | [d] => { results := [.lit (.bool true)], args := [d] }
  | _ => none }
def ucdSavesRow : OpenClaim := { program := "ytpknmpgbaccffaadoor", sum := "493168d349404d08470445aa53ddee84175e9de7b8d0215820cea302b8f7fae2", func := "scansion/scansionlaw04.UcdSaves", spec := "ucdSaves", named := ["scansion/ucd.scripts"], plainKeys := false, apart := false, laid := [("scansion/ucd.scripts", laid_scansion_ucd_scripts)] }
def UcdSavesSaid : Prop := ucdSavesRow.holds Tryd.pinned (OpenSpec.ofChange ucdSavesSpec)

/-- ITS FALSE NEIGHBOUR: 'it returns false'. Refute it at one input. -/
def ucdSavesWrong : ChangeSpec := { name := "ucdSaves", fn := fun _ => fun
  | [d] => { results := [.lit (.bool false)], args := [d] }
  | _ => none }
def UcdSavesWrongFalsely : Prop := ucdSavesRow.holds Tryd.pinned (OpenSpec.ofChange ucdSavesWrong)

/-- 'scansionlaw04.UcdLoads': WHATEVER THE INPUT: true; the input reads as it did. -/
def ucdLoadsSpec : ChangeSpec := { name := "ucdLoads", fn := fun _ => fun
  | [d1, d2, d3] => { results := [.lit (.bool true)], args := [d1, d2, d3] }
  | _ => none }
def ucdLoadsRow : OpenClaim := { program := "ytpknmpgbaccffaadoor", sum := "493168d349404d08470445aa53ddee84175e9de7b8d0215820cea302b8f7fae2", func := "scansion/scansionlaw04.UcdLoads", spec := "ucdLoads", named := ["scansion/ucd.scripts"], plainKeys := false, apart := false, laid := [("scansion/ucd.scripts", laid_scansion_ucd_scripts)] }
def UcdLoadsSaid : Prop := ucdLoadsRow.holds Tryd.pinned (OpenSpec.ofChange ucdLoadsSpec)

/-- ITS FALSE NEIGHBOUR: 'it returns false'. Refute it at one input. -/
def ucdLoadsWrong : ChangeSpec := { name := "ucdLoads", fn := fun _ => fun
  | [d1, d2, d3] => { results := [.lit (.bool false)], args := [d1, d2, d3] }
  | _ => none }
def UcdLoadsWrongFalsely : Prop := ucdLoadsRow.holds Tryd.pinned (OpenSpec.ofChange ucdLoadsWrong)

/-- 'scansionlaw04.UcdBytes': WHATEVER THE INPUT: true; the input reads as it did. -/
def ucdBytesSpec : ChangeSpec := { name := "ucdBytes", fn := fun _ => fun
  | [d] => { results := [.lit (.bool true)], args := [d] }
  | _ => none }
def ucdBytesRow : OpenClaim := { program := "ytpknmpgbaccffaadoor", sum := "493168d349404d08470445aa53ddee84175e9de7b8d0215820cea302b8f7fae2", func := "scansion/scansionlaw04.UcdBytes", spec := "ucdBytes", named := ["scansion/ucd.scripts"], plainKeys := false, apart := false, laid := [("scansion/ucd.scripts", laid_scansion_ucd_scripts)] }
def UcdBytesSaid : Prop := ucdBytesRow.holds Tryd.pinned (OpenSpec.ofChange ucdBytesSpec)

/-- ITS FALSE NEIGHBOUR: 'it returns false'. Refute it at one input. -/
def ucdBytesWrong : ChangeSpec := { name := "ucdBytes", fn := fun _ => fun
  | [d] => { results := [.lit (.bool false)], args := [d] }
  | _ => none }
def UcdBytesWrongFalsely : Prop := ucdBytesRow.holds Tryd.pinned (OpenSpec.ofChange ucdBytesWrong)

/-- 'scansionlaw04.UcdHangul': WHATEVER THE INPUT: true; the input reads as it did. -/
def ucdHangulSpec : ChangeSpec := { name := "ucdHangul", fn := fun _ => fun
  | [d] => { results := [.lit (.bool true)], args := [d] }
  | _ => none }
def ucdHangulRow : OpenClaim := { program := "ytpknmpgbaccffaadoor", sum := "493168d349404d08470445aa53ddee84175e9de7b8d0215820cea302b8f7fae2", func := "scansion/scansionlaw04.UcdHangul", spec := "ucdHangul", named := ["scansion/ucd.scripts"], plainKeys := false, apart := false, laid := [("scansion/ucd.scripts", laid_scansion_ucd_scripts)] }
def UcdHangulSaid : Prop := ucdHangulRow.holds Tryd.pinned (OpenSpec.ofChange ucdHangulSpec)

/-- ITS FALSE NEIGHBOUR: 'it returns false'. Refute it at one input. -/
def ucdHangulWrong : ChangeSpec := { name := "ucdHangul", fn := fun _ => fun
  | [d] => { results := [.lit (.bool false)], args := [d] }
  | _ => none }
def UcdHangulWrongFalsely : Prop := ucdHangulRow.holds Tryd.pinned (OpenSpec.ofChange ucdHangulWrong)

/-- 'scansionlaw04.UcdMarks': WHATEVER THE INPUT: true; the input reads as it did. -/
def ucdMarksSpec : ChangeSpec := { name := "ucdMarks", fn := fun _ => fun
  | [d] => { results := [.lit (.bool true)], args := [d] }
  | _ => none }
def ucdMarksRow : OpenClaim := { program := "ytpknmpgbaccffaadoor", sum := "493168d349404d08470445aa53ddee84175e9de7b8d0215820cea302b8f7fae2", func := "scansion/scansionlaw04.UcdMarks", spec := "ucdMarks", named := ["scansion/ucd.scripts"], plainKeys := false, apart := false, laid := [("scansion/ucd.scripts", laid_scansion_ucd_scripts)] }
def UcdMarksSaid : Prop := ucdMarksRow.holds Tryd.pinned (OpenSpec.ofChange ucdMarksSpec)

/-- ITS FALSE NEIGHBOUR: 'it returns false'. Refute it at one input. -/
def ucdMarksWrong : ChangeSpec := { name := "ucdMarks", fn := fun _ => fun
  | [d] => { results := [.lit (.bool false)], args := [d] }
  | _ => none }
def UcdMarksWrongFalsely : Prop := ucdMarksRow.holds Tryd.pinned (OpenSpec.ofChange ucdMarksWrong)

/- THE SECOND FORM. 'bulk': how many values and letters a reading holds, each counted each time it is reached (what is shared counts as often as it is met; a slice's spare places count too). A statement '..UptoSaid' is the law's where the arguments, and the package variables that the reading takes, are together of bulk at most 1048576: NARROWER than '..Said'. Prove '..Said' where nothing that the law and all that it calls make is longer than what came in: it says more and counts as full. Else prove '..UptoSaid'. A law counts once. -/
mutual
def uptoBulk {H : Type} : DataW H → Nat
  | .lit (.string bytes) => bytes.length + 1
  | .lit _ => 1
  | .nil => 1
  | .ptr d => uptoBulk d + 1
  | .slice elems spare => uptoBulkAll elems + uptoBulkAll spare + 1
  | .agg parts => uptoBulkAll parts + 1
  | .iface _ d => uptoBulk d + 1
  | .map entries => uptoBulkEntries entries + 1
  | .held _ => 1
def uptoBulkAll {H : Type} : List (DataW H) → Nat
  | [] => 0
  | d :: r => uptoBulk d + uptoBulkAll r
def uptoBulkEntries {H : Type} : List (Lit × DataW H) → Nat
  | [] => 0
  | x :: r => uptoBulkEntry x + uptoBulkEntries r
def uptoBulkEntry {H : Type} : Lit × DataW H → Nat
  | (.string bytes, d) => bytes.length + uptoBulk d + 1
  | (_, d) => uptoBulk d + 1
 end
def uptoSmall : (H : Type) → List (DataW H) → Bool := fun _ ds => decide (uptoBulkAll ds ≤ 1048576)
def OpenSpec.upto (s : _root_.Go.ChangeSpec) : _root_.Go.OpenSpec := { _root_.Go.OpenSpec.ofChange s with cond := some uptoSmall }

/-- 'scansionlaw04.UcdTells', WHERE WHAT IT READS IS OF BULK AT MOST 1048576: true; the input reads as it did. -/
def ucdTellsUptoRow : OpenClaim := { program := "ytpknmpgbaccffaadoor", sum := "493168d349404d08470445aa53ddee84175e9de7b8d0215820cea302b8f7fae2", func := "scansion/scansionlaw04.UcdTells", spec := "ucdTells", named := ["scansion/ucd.scripts"], plainKeys := false, apart := false, laid := [("scansion/ucd.scripts", laid_scansion_ucd_scripts)], narrowed := true }
def UcdTellsUptoSaid : Prop := ucdTellsUptoRow.holds Tryd.pinned (OpenSpec.upto ucdTellsSpec)

/-- 'scansionlaw04.UcdSaves', WHERE WHAT IT READS IS OF BULK AT MOST 1048576: true; the input reads as it did. -/
def ucdSavesUptoRow : OpenClaim := { program := "ytpknmpgbaccffaadoor", sum := "493168d349404d08470445aa53ddee84175e9de7b8d0215820cea302b8f7fae2", func := "scansion/scansionlaw04.UcdSaves", spec := "ucdSaves", named := ["scansion/ucd.scripts"], plainKeys := false, apart := false, laid := [("scansion/ucd.scripts", laid_scansion_ucd_scripts)], narrowed := true }
def UcdSavesUptoSaid : Prop := ucdSavesUptoRow.holds Tryd.pinned (OpenSpec.upto ucdSavesSpec)

/-- 'scansionlaw04.UcdLoads', WHERE WHAT IT READS IS OF BULK AT MOST 1048576: true; the input reads as it did. -/
def ucdLoadsUptoRow : OpenClaim := { program := "ytpknmpgbaccffaadoor", sum := "493168d349404d08470445aa53ddee84175e9de7b8d0215820cea302b8f7fae2", func := "scansion/scansionlaw04.UcdLoads", spec := "ucdLoads", named := ["scansion/ucd.scripts"], plainKeys := false, apart := false, laid := [("scansion/ucd.scripts", laid_scansion_ucd_scripts)], narrowed := true }
def UcdLoadsUptoSaid : Prop := ucdLoadsUptoRow.holds Tryd.pinned (OpenSpec.upto ucdLoadsSpec)

/-- 'scansionlaw04.UcdBytes', WHERE WHAT IT READS IS OF BULK AT MOST 1048576: true; the input reads as it did. -/
def ucdBytesUptoRow : OpenClaim := { program := "ytpknmpgbaccffaadoor", sum := "493168d349404d08470445aa53ddee84175e9de7b8d0215820cea302b8f7fae2", func := "scansion/scansionlaw04.UcdBytes", spec := "ucdBytes", named := ["scansion/ucd.scripts"], plainKeys := false, apart := false, laid := [("scansion/ucd.scripts", laid_scansion_ucd_scripts)], narrowed := true }
def UcdBytesUptoSaid : Prop := ucdBytesUptoRow.holds Tryd.pinned (OpenSpec.upto ucdBytesSpec)

/-- 'scansionlaw04.UcdHangul', WHERE WHAT IT READS IS OF BULK AT MOST 1048576: true; the input reads as it did. -/
def ucdHangulUptoRow : OpenClaim := { program := "ytpknmpgbaccffaadoor", sum := "493168d349404d08470445aa53ddee84175e9de7b8d0215820cea302b8f7fae2", func := "scansion/scansionlaw04.UcdHangul", spec := "ucdHangul", named := ["scansion/ucd.scripts"], plainKeys := false, apart := false, laid := [("scansion/ucd.scripts", laid_scansion_ucd_scripts)], narrowed := true }
def UcdHangulUptoSaid : Prop := ucdHangulUptoRow.holds Tryd.pinned (OpenSpec.upto ucdHangulSpec)

/-- 'scansionlaw04.UcdMarks', WHERE WHAT IT READS IS OF BULK AT MOST 1048576: true; the input reads as it did. -/
def ucdMarksUptoRow : OpenClaim := { program := "ytpknmpgbaccffaadoor", sum := "493168d349404d08470445aa53ddee84175e9de7b8d0215820cea302b8f7fae2", func := "scansion/scansionlaw04.UcdMarks", spec := "ucdMarks", named := ["scansion/ucd.scripts"], plainKeys := false, apart := false, laid := [("scansion/ucd.scripts", laid_scansion_ucd_scripts)], narrowed := true }
def UcdMarksUptoSaid : Prop := ucdMarksUptoRow.holds Tryd.pinned (OpenSpec.upto ucdMarksSpec)

end Rows
end Go.Proofs.YtpknmpgbaccffaaDoor
