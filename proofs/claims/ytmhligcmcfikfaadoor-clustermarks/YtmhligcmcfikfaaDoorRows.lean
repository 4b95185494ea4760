/-
  NARROWER THAN 'FOR EVERY INPUT', by the rows' own cells (each row's printed sentence says how): ClusterBreaks: laid · ClusterAsks: laid · ClusterParts: laid · ClusterControls: laid · ClusterMarks: laid · ClusterFlags: laid.
  DERIVED. THE GIVEN ROWS OF THIS SEAT. 6 by the template 'for every input the law returns true; each argument reads behind the call as it read before'; 0 by the template 'total and deterministic' (their statements: YtmhligcmcfikfaaDoorTotals.lean).
  GIVEN WITH THE SEED: the statements are not yours to turn. If you find one false, say at which input.
  Laid BY PROGRAM, IN A SANDBOX (cutbox-rows.mjs): the forced cells as the released guide's own fill.sh prints them over the translation 5040feb5b39caa79… (all of the seat's roots in one cut). By AI agents, Wed Nov 11 2026. No macro, syntax, notation, axiom, sorry.
-/
import Derived.Test.YtmhligcmcfikfaaDoorChecked
import GoSem.Claim
import GoSem.ClaimJoined
import GoSem.ClaimMapViews
import Derived.JoinedTies
import Derived.KernelRfl
namespace Go.Proofs.YtmhligcmcfikfaaDoor
/- THE CELL 'sum', in the pinned program and in every row, IS THE sha256 OF THE DUMP (.gsa) THAT YtmhligcmcfikfaaDoorProg.lean LOADS. Nothing in Lean hashes anything: it is a label: what it is worth is what the hold of that sum in a sandbox is worth. -/
noncomputable def Tryd.pinned : Pinned := { name := "ytmhligcmcfikfaadoor", sum := "5040feb5b39caa79f6f216f118f3735712f042586d0586a9ac74146ff4833cbe", checked := Tryd.checked }
namespace Rows
def none {H : Type} : Left H := { results := [], args := [] }

/- WHAT THE LISTED PACKAGE-LEVEL VARIABLES READ AS WHEN THE CALL BEGINS. Each datum BY PROGRAM (the guide's laid-datum.mjs) off the statement by which the dump's own 'gosem.cut.vars' lays the variable. In a bare row this is a premise. The card (YtmhligcmcfikfaaDoorCards.lean) ties it to the program's text. -/
def laid_scansion_ucd_scripts {H : Type} : DataW H := .agg [.agg [.lit (.int .i64 11904), .lit (.int .i64 12245), .lit (.int .u8 1)], .agg [.lit (.int .i64 12293), .lit (.int .i64 12295), .lit (.int .u8 1)], .agg [.lit (.int .i64 12321), .lit (.int .i64 12329), .lit (.int .u8 1)], .agg [.lit (.int .i64 12344), .lit (.int .i64 12347), .lit (.int .u8 1)], .agg [.lit (.int .i64 12353), .lit (.int .i64 12438), .lit (.int .u8 1)], .agg [.lit (.int .i64 12445), .lit (.int .i64 12447), .lit (.int .u8 1)], .agg [.lit (.int .i64 12449), .lit (.int .i64 12538), .lit (.int .u8 1)], .agg [.lit (.int .i64 12541), .lit (.int .i64 12543), .lit (.int .u8 1)], .agg [.lit (.int .i64 12784), .lit (.int .i64 12799), .lit (.int .u8 1)], .agg [.lit (.int .i64 13312), .lit (.int .i64 19903), .lit (.int .u8 1)], .agg [.lit (.int .i64 19968), .lit (.int .i64 40959), .lit (.int .u8 1)], .agg [.lit (.int .i64 63744), .lit (.int .i64 64217), .lit (.int .u8 1)], .agg [.lit (.int .i64 65382), .lit (.int .i64 65391), .lit (.int .u8 1)], .agg [.lit (.int .i64 65393), .lit (.int .i64 65437), .lit (.int .u8 1)], .agg [.lit (.int .i64 131072), .lit (.int .i64 195101), .lit (.int .u8 1)], .agg [.lit (.int .i64 3585), .lit (.int .i64 3642), .lit (.int .u8 2)], .agg [.lit (.int .i64 3648), .lit (.int .i64 3662), .lit (.int .u8 2)], .agg [.lit (.int .i64 3713), .lit (.int .i64 3773), .lit (.int .u8 3)], .agg [.lit (.int .i64 3776), .lit (.int .i64 3790), .lit (.int .u8 3)], .agg [.lit (.int .i64 3804), .lit (.int .i64 3807), .lit (.int .u8 3)], .agg [.lit (.int .i64 6016), .lit (.int .i64 6067), .lit (.int .u8 4)], .agg [.lit (.int .i64 6070), .lit (.int .i64 6099), .lit (.int .u8 4)], .agg [.lit (.int .i64 6103), .lit (.int .i64 6103), .lit (.int .u8 4)], .agg [.lit (.int .i64 6108), .lit (.int .i64 6109), .lit (.int .u8 4)]]

/-- 'scansionlaw05.ClusterBreaks': WHATEVER THE INPUT: true; the input reads as it did. -/
def clusterBreaksSpec : ChangeSpec := { name := "clusterBreaks", fn := fun _ => fun
  | [d] => { results := [.lit (.bool true)], args := [d] }
  | _ => none }
def clusterBreaksRow : OpenClaim := { program := "ytmhligcmcfikfaadoor", sum := "5040feb5b39caa79f6f216f118f3735712f042586d0586a9ac74146ff4833cbe", func := "scansion/scansionlaw05.ClusterBreaks", spec := "clusterBreaks", unfollowed := true, recurses := true, named := ["scansion/ucd.scripts"], plainKeys := false, apart := false, laid := [("scansion/ucd.scripts", laid_scansion_ucd_scripts)] }
def ClusterBreaksSaid : Prop := clusterBreaksRow.holds Tryd.pinned (OpenSpec.ofChange clusterBreaksSpec)

/-- ITS FALSE NEIGHBOUR: 'it returns false'. Refute it at one input. -/
def clusterBreaksWrong : ChangeSpec := { name := "clusterBreaks", fn := fun _ => fun
  | [d] => { results := [.lit (.bool false)], args := [d] }
  | _ => none }
def ClusterBreaksWrongFalsely : Prop := clusterBreaksRow.holds Tryd.pinned (OpenSpec.ofChange clusterBreaksWrong)

/-- 'scansionlaw05.ClusterAsks': WHATEVER THE INPUT: true; the input reads as it did. -/
def clusterAsksSpec : ChangeSpec := { name := "clusterAsks", fn := fun _ => fun
  | [d1, d2] => { results := [.lit (.bool true)], args := [d1, d2] }
  | _ => none }
def clusterAsksRow : OpenClaim := { program := "ytmhligcmcfikfaadoor", sum := "5040feb5b39caa79f6f216f118f3735712f042586d0586a9ac74146ff4833cbe", func := "scansion/scansionlaw05.ClusterAsks", spec := "clusterAsks", unfollowed := true, recurses := true, named := ["scansion/ucd.scripts"], plainKeys := false, apart := false, laid := [("scansion/ucd.scripts", laid_scansion_ucd_scripts)] }
def ClusterAsksSaid : Prop := clusterAsksRow.holds Tryd.pinned (OpenSpec.ofChange clusterAsksSpec)

/-- ITS FALSE NEIGHBOUR: 'it returns false'. Refute it at one input. -/
def clusterAsksWrong : ChangeSpec := { name := "clusterAsks", fn := fun _ => fun
  | [d1, d2] => { results := [.lit (.bool false)], args := [d1, d2] }
  | _ => none }
def ClusterAsksWrongFalsely : Prop := clusterAsksRow.holds Tryd.pinned (OpenSpec.ofChange clusterAsksWrong)

/-- 'scansionlaw05.ClusterParts': WHATEVER THE INPUT: true; the input reads as it did. -/
def clusterPartsSpec : ChangeSpec := { name := "clusterParts", fn := fun _ => fun
  | [d] => { results := [.lit (.bool true)], args := [d] }
  | _ => none }
def clusterPartsRow : OpenClaim := { program := "ytmhligcmcfikfaadoor", sum := "5040feb5b39caa79f6f216f118f3735712f042586d0586a9ac74146ff4833cbe", func := "scansion/scansionlaw05.ClusterParts", spec := "clusterParts", unfollowed := true, recurses := true, named := ["scansion/ucd.scripts"], plainKeys := false, apart := false, laid := [("scansion/ucd.scripts", laid_scansion_ucd_scripts)] }
def ClusterPartsSaid : Prop := clusterPartsRow.holds Tryd.pinned (OpenSpec.ofChange clusterPartsSpec)

/-- ITS FALSE NEIGHBOUR: 'it returns false'. Refute it at one input. -/
def clusterPartsWrong : ChangeSpec := { name := "clusterParts", fn := fun _ => fun
  | [d] => { results := [.lit (.bool false)], args := [d] }
  | _ => none }
def ClusterPartsWrongFalsely : Prop := clusterPartsRow.holds Tryd.pinned (OpenSpec.ofChange clusterPartsWrong)

/-- 'scansionlaw05.ClusterControls': WHATEVER THE INPUT: true; the input reads as it did. -/
def clusterControlsSpec : ChangeSpec := { name := "clusterControls", fn := fun _ => fun
  | [d1, d2] => { results := [.lit (.bool true)], args := [d1, d2] }
  | _ => none }
def clusterControlsRow : OpenClaim := { program := "ytmhligcmcfikfaadoor", sum := "5040feb5b39caa79f6f216f118f3735712f042586d0586a9ac74146ff4833cbe", func := "scansion/scansionlaw05.ClusterControls", spec := "clusterControls", unfollowed := true, recurses := true, named := ["scansion/ucd.scripts"], plainKeys := false, apart := false, laid := [("scansion/ucd.scripts", laid_scansion_ucd_scripts)] }
def ClusterControlsSaid : Prop := clusterControlsRow.holds Tryd.pinned (OpenSpec.ofChange clusterControlsSpec)

/-- ITS FALSE NEIGHBOUR: 'it returns false'. Refute it at one input. -/
def clusterControlsWrong : ChangeSpec := { name := "clusterControls", fn := fun _ => fun
  | [d1, d2] => { results := [.lit (.bool false)], args := [d1, d2] }
  | _ => none }
def ClusterControlsWrongFalsely : Prop := clusterControlsRow.holds Tryd.pinned (OpenSpec.ofChange clusterControlsWrong)

/-- 'scansionlaw05.ClusterMarks': WHATEVER THE INPUT: true; the input reads as it did. -/
def clusterMarksSpec : ChangeSpec := { name := "clusterMarks", fn := fun _ => fun
  | [d1, d2] => { results := [.lit (.bool true)], args := [d1, d2] }
  | _ => none }
def clusterMarksRow : OpenClaim := { program := "ytmhligcmcfikfaadoor", sum := "5040feb5b39caa79f6f216f118f3735712f042586d0586a9ac74146ff4833cbe", func := "scansion/scansionlaw05.ClusterMarks", spec := "clusterMarks", unfollowed := true, recurses := true, named := ["scansion/ucd.scripts"], plainKeys := false, apart := false, laid := [("scansion/ucd.scripts", laid_scansion_ucd_scripts)] }
def ClusterMarksSaid : Prop := clusterMarksRow.holds Tryd.pinned (OpenSpec.ofChange clusterMarksSpec)

/-- ITS FALSE NEIGHBOUR: 'it returns false'. Refute it at one input. -/
def clusterMarksWrong : ChangeSpec := { name := "clusterMarks", fn := fun _ => fun
  | [d1, d2] => { results := [.lit (.bool false)], args := [d1, d2] }
  | _ => none }
def ClusterMarksWrongFalsely : Prop := clusterMarksRow.holds Tryd.pinned (OpenSpec.ofChange clusterMarksWrong)

/-- 'scansionlaw05.ClusterFlags': WHATEVER THE INPUT: true; the input reads as it did. -/
def clusterFlagsSpec : ChangeSpec := { name := "clusterFlags", fn := fun _ => fun
  | [d] => { results := [.lit (.bool true)], args := [d] }
  | _ => none }
def clusterFlagsRow : OpenClaim := { program := "ytmhligcmcfikfaadoor", sum := "5040feb5b39caa79f6f216f118f3735712f042586d0586a9ac74146ff4833cbe", func := "scansion/scansionlaw05.ClusterFlags", spec := "clusterFlags", unfollowed := true, recurses := true, named := ["scansion/ucd.scripts"], plainKeys := false, apart := false, laid := [("scansion/ucd.scripts", laid_scansion_ucd_scripts)] }
def ClusterFlagsSaid : Prop := clusterFlagsRow.holds Tryd.pinned (OpenSpec.ofChange clusterFlagsSpec)

/-- ITS FALSE NEIGHBOUR: 'it returns false'. Refute it at one input. -/
def clusterFlagsWrong : ChangeSpec := { name := "clusterFlags", fn := fun _ => fun
  | [d] => { results := [.lit (.bool false)], args := [d] }
  | _ => none }
def ClusterFlagsWrongFalsely : Prop := clusterFlagsRow.holds Tryd.pinned (OpenSpec.ofChange clusterFlagsWrong)

/- THE SECOND FORM. 'bulk': how many values and letters a reading holds, each counted each time it is reached (what is shared counts as often as it is met; a slice's spare places count too). A statement '..UptoSaid' is the law's where the arguments, and the package variables that the reading takes, are together of bulk at most 1048576: NARROWER than '..Said'. Prove '..Said' where nothing that the law and all that it calls make is longer than what came in: it says more and counts as full. Else prove '..UptoSaid'. A law counts once. -/
mutual
def uptoBulk {H : Type} : DataW H → Nat
  | .lit (.string bytes) => bytes.length + 1
  | .lit _ => 1
  | .nil => 1
  | .ptr d => uptoBulk d + 1
  | .slice elems spare => uptoBulkAll elems + uptoBulkAll spare + 1
  | .agg parts => uptoBulkAll parts + 1
  | .iface _ d => uptoBulk d + 1
  | .map entries => uptoBulkEntries entries + 1
  | .held _ => 1
def uptoBulkAll {H : Type} : List (DataW H) → Nat
  | [] => 0
  | d :: r => uptoBulk d + uptoBulkAll r
def uptoBulkEntries {H : Type} : List (Lit × DataW H) → Nat
  | [] => 0
  | x :: r => uptoBulkEntry x + uptoBulkEntries r
def uptoBulkEntry {H : Type} : Lit × DataW H → Nat
  | (.string bytes, d) => bytes.length + uptoBulk d + 1
  | (_, d) => uptoBulk d + 1
 end
def uptoSmall : (H : Type) → List (DataW H) → Bool := fun _ ds => decide (uptoBulkAll ds ≤ 1048576)
def OpenSpec.upto (s : _root_.Go.ChangeSpec) : _root_.Go.OpenSpec := { _root_.Go.OpenSpec.ofChange s with cond := some uptoSmall }

/-- 'scansionlaw05.ClusterBreaks', WHERE WHAT IT READS IS OF BULK AT MOST 1048576: true; the input reads as it did. -/
def clusterBreaksUptoRow : OpenClaim := { program := "ytmhligcmcfikfaadoor", sum := "5040feb5b39caa79f6f216f118f3735712f042586d0586a9ac74146ff4833cbe", func := "scansion/scansionlaw05.ClusterBreaks", spec := "clusterBreaks", unfollowed := true, recurses := true, named := ["scansion/ucd.scripts"], plainKeys := false, apart := false, laid := [("scansion/ucd.scripts", laid_scansion_ucd_scripts)], narrowed := true }
def ClusterBreaksUptoSaid : Prop := clusterBreaksUptoRow.holds Tryd.pinned (OpenSpec.upto clusterBreaksSpec)

/-- 'scansionlaw05.ClusterAsks', WHERE WHAT IT READS IS OF BULK AT MOST 1048576: true; the input reads as it did. -/
def clusterAsksUptoRow : OpenClaim := { program := "ytmhligcmcfikfaadoor", sum := "5040feb5b39caa79f6f216f118f3735712f042586d0586a9ac74146ff4833cbe", func := "scansion/scansionlaw05.ClusterAsks", spec := "clusterAsks", unfollowed := true, recurses := true, named := ["scansion/ucd.scripts"], plainKeys := false, apart := false, laid := [("scansion/ucd.scripts", laid_scansion_ucd_scripts)], narrowed := true }
def ClusterAsksUptoSaid : Prop := clusterAsksUptoRow.holds Tryd.pinned (OpenSpec.upto clusterAsksSpec)

/-- 'scansionlaw05.ClusterParts', WHERE WHAT IT READS IS OF BULK AT MOST 1048576: true; the input reads as it did. -/
def clusterPartsUptoRow : OpenClaim := { program := "ytmhligcmcfikfaadoor", sum := "5040feb5b39caa79f6f216f118f3735712f042586d0586a9ac74146ff4833cbe", func := "scansion/scansionlaw05.ClusterParts", spec := "clusterParts", unfollowed := true, recurses := true, named := ["scansion/ucd.scripts"], plainKeys := false, apart := false, laid := [("scansion/ucd.scripts", laid_scansion_ucd_scripts)], narrowed := true }
def ClusterPartsUptoSaid : Prop := clusterPartsUptoRow.holds Tryd.pinned (OpenSpec.upto clusterPartsSpec)

/-- 'scansionlaw05.ClusterControls', WHERE WHAT IT READS IS OF BULK AT MOST 1048576: true; the input reads as it did. -/
def clusterControlsUptoRow : OpenClaim := { program := "ytmhligcmcfikfaadoor", sum := "5040feb5b39caa79f6f216f118f3735712f042586d0586a9ac74146ff4833cbe", func := "scansion/scansionlaw05.ClusterControls", spec := "clusterControls", unfollowed := true, recurses := true, named := ["scansion/ucd.scripts"], plainKeys := false, apart := false, laid := [("scansion/ucd.scripts", laid_scansion_ucd_scripts)], narrowed := true }
def ClusterControlsUptoSaid : Prop := clusterControlsUptoRow.holds Tryd.pinned (OpenSpec.upto clusterControlsSpec)

/-- 'scansionlaw05.ClusterMarks', WHERE WHAT IT READS IS OF BULK AT MOST 1048576: true; the input reads as it did. -/
def clusterMarksUptoRow : OpenClaim := { program := "ytmhligcmcfikfaadoor", sum := "5040feb5b39caa79f6f216f118f3735712f042586d0586a9ac74146ff4833cbe", func := "scansion/scansionlaw05.ClusterMarks", spec := "clusterMarks", unfollowed := true, recurses := true, named := ["scansion/ucd.scripts"], plainKeys := false, apart := false, laid := [("scansion/ucd.scripts", laid_scansion_ucd_scripts)], narrowed := true }
def ClusterMarksUptoSaid : Prop := clusterMarksUptoRow.holds Tryd.pinned (OpenSpec.upto clusterMarksSpec)

/-- 'scansionlaw05.ClusterFlags', WHERE WHAT IT READS IS OF BULK AT MOST 1048576: true; the input reads as it did. -/
def clusterFlagsUptoRow : OpenClaim := { program := "ytmhligcmcfikfaadoor", sum := "5040feb5b39caa79f6f216f118f3735712f042586d0586a9ac74146ff4833cbe", func := "scansion/scansionlaw05.ClusterFlags", spec := "clusterFlags", unfollowed := true, recurses := true, named := ["scansion/ucd.scripts"], plainKeys := false, apart := false, laid := [("scansion/ucd.scripts", laid_scansion_ucd_scripts)], narrowed := true }
def ClusterFlagsUptoSaid : Prop := clusterFlagsUptoRow.holds Tryd.pinned (OpenSpec.upto clusterFlagsSpec)

end Rows
end Go.Proofs.YtmhligcmcfikfaaDoor
