/-
  NARROWER THAN 'FOR EVERY INPUT', by the rows' own cells (each row's printed sentence says how): MatchWhole: loops · MatchEnds: loops · MatchTurns: loops · MatchSigns: loops · MatchParts: loops · MatchAlts: loops.
  DERIVED. THE GIVEN ROWS OF THIS SEAT. 6 by the template 'for every input the law returns true; each argument reads behind the call as it read before'; 0 by the template 'total and deterministic' (their statements: YtlllmoelhholfaaTotals.lean).
  GIVEN WITH THE SEED: the statements are not yours to turn. If you find one false, say at which input.
  Laid BY PROGRAM, IN A SANDBOX (cutbox-rows.mjs): the forced cells as the released guide's own fill.sh prints them over the translation 69ef4188824d7c60… (all of the seat's roots in one cut). By AI agents, Wed Nov 11 2026. No macro, syntax, notation, axiom, sorry.
-/
import Derived.Test.YtlllmoelhholfaaChecked
import GoSem.Claim
import GoSem.ClaimJoined
import GoSem.ClaimMapViews
import Derived.JoinedTies
import Derived.KernelRfl
namespace Go.Proofs.Ytlllmoelhholfaa
/- THE CELL 'sum', in the pinned program and in every row, IS THE sha256 OF THE DUMP (.gsa) THAT YtlllmoelhholfaaProg.lean LOADS. Nothing in Lean hashes anything: it is a label: what it is worth is what the hold of that sum in a sandbox is worth. -/
noncomputable def Try.pinned : Pinned := { name := "ytlllmoelhholfaa", sum := "69ef4188824d7c60d5155da409cc4007d8ff4addffafbd02c4cd3280f5e4fc0b", checked := Try.checked }
namespace Rows
def none {H : Type} : Left H := { results := [], args := [] }

/-- 'scansionlaw10.MatchWhole': WHATEVER THE INPUT: true; the input reads as it did. -/
def matchWholeSpec : ChangeSpec := { name := "matchWhole", fn := fun _ => fun
  | [d1, d2] => { results := [.lit (.bool true)], args := [d1, d2] }
  | _ => none }
def matchWholeRow : OpenClaim := { program := "ytlllmoelhholfaa", sum := "69ef4188824d7c60d5155da409cc4007d8ff4addffafbd02c4cd3280f5e4fc0b", func := "scansion/scansionlaw10.MatchWhole", spec := "matchWhole", unfollowed := true, recurses := true, loops := true, apart := false }
def MatchWholeSaid : Prop := matchWholeRow.holds Try.pinned (OpenSpec.ofChange matchWholeSpec)

/-- ITS FALSE NEIGHBOUR: 'it returns false'. Refute it at one input. -/
def matchWholeWrong : ChangeSpec := { name := "matchWhole", fn := fun _ => fun
  | [d1, d2] => { results := [.lit (.bool false)], args := [d1, d2] }
  | _ => none }
def MatchWholeWrongFalsely : Prop := matchWholeRow.holds Try.pinned (OpenSpec.ofChange matchWholeWrong)

/-- 'scansionlaw10.MatchEnds': WHATEVER THE INPUT: true; the input reads as it did. -/
def matchEndsSpec : ChangeSpec := { name := "matchEnds", fn := fun _ => fun
  | [d1, d2] => { results := [.lit (.bool true)], args := [d1, d2] }
  | _ => none }
def matchEndsRow : OpenClaim := { program := "ytlllmoelhholfaa", sum := "69ef4188824d7c60d5155da409cc4007d8ff4addffafbd02c4cd3280f5e4fc0b", func := "scansion/scansionlaw10.MatchEnds", spec := "matchEnds", unfollowed := true, recurses := true, loops := true, apart := false }
def MatchEndsSaid : Prop := matchEndsRow.holds Try.pinned (OpenSpec.ofChange matchEndsSpec)

/-- ITS FALSE NEIGHBOUR: 'it returns false'. Refute it at one input. -/
def matchEndsWrong : ChangeSpec := { name := "matchEnds", fn := fun _ => fun
  | [d1, d2] => { results := [.lit (.bool false)], args := [d1, d2] }
  | _ => none }
def MatchEndsWrongFalsely : Prop := matchEndsRow.holds Try.pinned (OpenSpec.ofChange matchEndsWrong)

/-- 'scansionlaw10.MatchTurns': WHATEVER THE INPUT: true; the input reads as it did. -/
def matchTurnsSpec : ChangeSpec := { name := "matchTurns", fn := fun _ => fun
  | [d1, d2] => { results := [.lit (.bool true)], args := [d1, d2] }
  | _ => none }
def matchTurnsRow : OpenClaim := { program := "ytlllmoelhholfaa", sum := "69ef4188824d7c60d5155da409cc4007d8ff4addffafbd02c4cd3280f5e4fc0b", func := "scansion/scansionlaw10.MatchTurns", spec := "matchTurns", unfollowed := true, recurses := true, loops := true, apart := false }
def MatchTurnsSaid : Prop := matchTurnsRow.holds Try.pinned (OpenSpec.ofChange matchTurnsSpec)

/-- ITS FALSE NEIGHBOUR: 'it returns false'. Refute it at one input. -/
def matchTurnsWrong : ChangeSpec := { name := "matchTurns", fn := fun _ => fun
  | [d1, d2] => { results := [.lit (.bool false)], args := [d1, d2] }
  | _ => none }
def MatchTurnsWrongFalsely : Prop := matchTurnsRow.holds Try.pinned (OpenSpec.ofChange matchTurnsWrong)

/-- 'scansionlaw10.MatchSigns': WHATEVER THE INPUT: true; the input reads as it did. -/
def matchSignsSpec : ChangeSpec := { name := "matchSigns", fn := fun _ => fun
  | [d1, d2] => { results := [.lit (.bool true)], args := [d1, d2] }
  | _ => none }
def matchSignsRow : OpenClaim := { program := "ytlllmoelhholfaa", sum := "69ef4188824d7c60d5155da409cc4007d8ff4addffafbd02c4cd3280f5e4fc0b", func := "scansion/scansionlaw10.MatchSigns", spec := "matchSigns", unfollowed := true, recurses := true, loops := true, apart := false }
def MatchSignsSaid : Prop := matchSignsRow.holds Try.pinned (OpenSpec.ofChange matchSignsSpec)

/-- ITS FALSE NEIGHBOUR: 'it returns false'. Refute it at one input. -/
def matchSignsWrong : ChangeSpec := { name := "matchSigns", fn := fun _ => fun
  | [d1, d2] => { results := [.lit (.bool false)], args := [d1, d2] }
  | _ => none }
def MatchSignsWrongFalsely : Prop := matchSignsRow.holds Try.pinned (OpenSpec.ofChange matchSignsWrong)

/-- 'scansionlaw10.MatchParts': WHATEVER THE INPUT: true; the input reads as it did. -/
def matchPartsSpec : ChangeSpec := { name := "matchParts", fn := fun _ => fun
  | [d1, d2, d3] => { results := [.lit (.bool true)], args := [d1, d2, d3] }
  | _ => none }
def matchPartsRow : OpenClaim := { program := "ytlllmoelhholfaa", sum := "69ef4188824d7c60d5155da409cc4007d8ff4addffafbd02c4cd3280f5e4fc0b", func := "scansion/scansionlaw10.MatchParts", spec := "matchParts", unfollowed := true, recurses := true, loops := true, apart := false }
def MatchPartsSaid : Prop := matchPartsRow.holds Try.pinned (OpenSpec.ofChange matchPartsSpec)

/-- ITS FALSE NEIGHBOUR: 'it returns false'. Refute it at one input. -/
def matchPartsWrong : ChangeSpec := { name := "matchParts", fn := fun _ => fun
  | [d1, d2, d3] => { results := [.lit (.bool false)], args := [d1, d2, d3] }
  | _ => none }
def MatchPartsWrongFalsely : Prop := matchPartsRow.holds Try.pinned (OpenSpec.ofChange matchPartsWrong)

/-- 'scansionlaw10.MatchAlts': WHATEVER THE INPUT: true; the input reads as it did. -/
def matchAltsSpec : ChangeSpec := { name := "matchAlts", fn := fun _ => fun
  | [d1, d2, d3] => { results := [.lit (.bool true)], args := [d1, d2, d3] }
  | _ => none }
def matchAltsRow : OpenClaim := { program := "ytlllmoelhholfaa", sum := "69ef4188824d7c60d5155da409cc4007d8ff4addffafbd02c4cd3280f5e4fc0b", func := "scansion/scansionlaw10.MatchAlts", spec := "matchAlts", unfollowed := true, recurses := true, loops := true, apart := false }
def MatchAltsSaid : Prop := matchAltsRow.holds Try.pinned (OpenSpec.ofChange matchAltsSpec)

/-- ITS FALSE NEIGHBOUR: 'it returns false'. Refute it at one input. -/
def matchAltsWrong : ChangeSpec := { name := "matchAlts", fn := fun _ => fun
  | [d1, d2, d3] => { results := [.lit (.bool false)], args := [d1, d2, d3] }
  | _ => none }
def MatchAltsWrongFalsely : Prop := matchAltsRow.holds Try.pinned (OpenSpec.ofChange matchAltsWrong)

/- THE SECOND FORM. 'bulk': how many values and letters a reading holds, each counted each time it is reached (what is shared counts as often as it is met; a slice's spare places count too). A statement '..UptoSaid' is the law's where the arguments, and the package variables that the reading takes, are together of bulk at most 1048576: NARROWER than '..Said'. Prove '..Said' where nothing that the law and all that it calls make is longer than what came in: it says more and counts as full. Else prove '..UptoSaid'. A law counts once. -/
mutual
def uptoBulk {H : Type} : DataW H → Nat
  | .lit (.string bytes) => bytes.length + 1
  | .lit _ => 1
  | .nil => 1
  | .ptr d => uptoBulk d + 1
  | .slice elems spare => uptoBulkAll elems + uptoBulkAll spare + 1
  | .agg parts => uptoBulkAll parts + 1
  | .iface _ d => uptoBulk d + 1
  | .map entries => uptoBulkEntries entries + 1
  | .held _ => 1
def uptoBulkAll {H : Type} : List (DataW H) → Nat
  | [] => 0
  | d :: r => uptoBulk d + uptoBulkAll r
def uptoBulkEntries {H : Type} : List (Lit × DataW H) → Nat
  | [] => 0
  | x :: r => uptoBulkEntry x + uptoBulkEntries r
def uptoBulkEntry {H : Type} : Lit × DataW H → Nat
  | (.string bytes, d) => bytes.length + uptoBulk d + 1
  | (_, d) => uptoBulk d + 1
 end
def uptoSmall : (H : Type) → List (DataW H) → Bool := fun _ ds => decide (uptoBulkAll ds ≤ 1048576)
def OpenSpec.upto (s : _root_.Go.ChangeSpec) : _root_.Go.OpenSpec := { _root_.Go.OpenSpec.ofChange s with cond := some uptoSmall }

/-- 'scansionlaw10.MatchWhole', WHERE WHAT IT READS IS OF BULK AT MOST 1048576: true; the input reads as it did. -/
def matchWholeUptoRow : OpenClaim := { program := "ytlllmoelhholfaa", sum := "69ef4188824d7c60d5155da409cc4007d8ff4addffafbd02c4cd3280f5e4fc0b", func := "scansion/scansionlaw10.MatchWhole", spec := "matchWhole", unfollowed := true, recurses := true, loops := true, apart := false, narrowed := true }
def MatchWholeUptoSaid : Prop := matchWholeUptoRow.holds Try.pinned (OpenSpec.upto matchWholeSpec)

/-- 'scansionlaw10.MatchEnds', WHERE WHAT IT READS IS OF BULK AT MOST 1048576: true; the input reads as it did. -/
def matchEndsUptoRow : OpenClaim := { program := "ytlllmoelhholfaa", sum := "69ef4188824d7c60d5155da409cc4007d8ff4addffafbd02c4cd3280f5e4fc0b", func := "scansion/scansionlaw10.MatchEnds", spec := "matchEnds", unfollowed := true, recurses := true, loops := true, apart := false, narrowed := true }
def MatchEndsUptoSaid : Prop := matchEndsUptoRow.holds Try.pinned (OpenSpec.upto matchEndsSpec)

/-- 'scansionlaw10.MatchTurns', WHERE WHAT IT READS IS OF BULK AT MOST 1048576: true; the input reads as it did. -/
def matchTurnsUptoRow : OpenClaim := { program := "ytlllmoelhholfaa", sum := "69ef4188824d7c60d5155da409cc4007d8ff4addffafbd02c4cd3280f5e4fc0b", func := "scansion/scansionlaw10.MatchTurns", spec := "matchTurns", unfollowed := true, recurses := true, loops := true, apart := false, narrowed := true }
def MatchTurnsUptoSaid : Prop := matchTurnsUptoRow.holds Try.pinned (OpenSpec.upto matchTurnsSpec)

/-- 'scansionlaw10.MatchSigns', WHERE WHAT IT READS IS OF BULK AT MOST 1048576: true; the input reads as it did. -/
def matchSignsUptoRow : OpenClaim := { program := "ytlllmoelhholfaa", sum := "69ef4188824d7c60d5155da409cc4007d8ff4addffafbd02c4cd3280f5e4fc0b", func := "scansion/scansionlaw10.MatchSigns", spec := "matchSigns", unfollowed := true, recurses := true, loops := true, apart := false, narrowed := true }
def MatchSignsUptoSaid : Prop := matchSignsUptoRow.holds Try.pinned (OpenSpec.upto matchSignsSpec)

/-- 'scansionlaw10.MatchParts', WHERE WHAT IT READS IS OF BULK AT MOST 1048576: true; the input reads as it did. -/
def matchPartsUptoRow : OpenClaim := { program := "ytlllmoelhholfaa", sum := "69ef4188824d7c60d5155da409cc4007d8ff4addffafbd02c4cd3280f5e4fc0b", func := "scansion/scansionlaw10.MatchParts", spec := "matchParts", unfollowed := true, recurses := true, loops := true, apart := false, narrowed := true }
def MatchPartsUptoSaid : Prop := matchPartsUptoRow.holds Try.pinned (OpenSpec.upto matchPartsSpec)

/-- 'scansionlaw10.MatchAlts', WHERE WHAT IT READS IS OF BULK AT MOST 1048576: true; the input reads as it did. -/
def matchAltsUptoRow : OpenClaim := { program := "ytlllmoelhholfaa", sum := "69ef4188824d7c60d5155da409cc4007d8ff4addffafbd02c4cd3280f5e4fc0b", func := "scansion/scansionlaw10.MatchAlts", spec := "matchAlts", unfollowed := true, recurses := true, loops := true, apart := false, narrowed := true }
def MatchAltsUptoSaid : Prop := matchAltsUptoRow.holds Try.pinned (OpenSpec.upto matchAltsSpec)

end Rows
end Go.Proofs.Ytlllmoelhholfaa
