/-
  DERIVED. GIVEN WITH THE SEED: THE CARDS: each row of YtpknmpgbaccffaaDoorRows.lean that lists a variable, with what it lists TIED to the program's text (the seventh form; the later family's looks); each row that meets fmt, with fmt's text TOLD by the authors' own Lean function (tested against real Go, not proved from fmt's source: count such statements apart). THE CARD IS WHAT COUNTS. Prove the row's statement (the work); the ties are given (YtpknmpgbaccffaaDoorTie.lean); close each card by the builder's one call (the guide's Derived/Test/ToyasCard.lean, 'card_holds'). Laid BY PROGRAM, IN A SANDBOX (cutbox-door.mjs). By AI agents, Wed Nov 11 2026. No macro, syntax, notation, axiom, sorry.
-/
import Derived.Test.YtpknmpgbaccffaaDoorRows
import GoSem.ClaimSeven
namespace Go.Proofs.YtpknmpgbaccffaaDoor
namespace Rows

/-- THE TIED CARD OF 'scansionlaw04.UcdTells'. -/
def ucdTellsCard : Claim7 := { stood := { row := ucdTellsRow, standIns := [], harness := (true, "2f3a3ee8a284539b53c97c62811910e1977e759f4171908273a3d7c9c989bded"), looks := false }, kinds := [], alts := [], laidByText := true, laidKinds := [.data], laidTests := true, laidLooks := .later }
def UcdTellsCardSaid : Prop := Claim7.holds Tryd.pinned (.plain (OpenSpec.ofChange ucdTellsSpec)) ucdTellsCard

/-- THE TIED CARD OF 'scansionlaw04.UcdSaves'. -/
def ucdSavesCard : Claim7 := { stood := { row := ucdSavesRow, standIns := [], harness := (true, "2f3a3ee8a284539b53c97c62811910e1977e759f4171908273a3d7c9c989bded"), looks := false }, kinds := [], alts := [], laidByText := true, laidKinds := [.data], laidTests := true, laidLooks := .later }
def UcdSavesCardSaid : Prop := Claim7.holds Tryd.pinned (.plain (OpenSpec.ofChange ucdSavesSpec)) ucdSavesCard

/-- THE TIED CARD OF 'scansionlaw04.UcdLoads'. -/
def ucdLoadsCard : Claim7 := { stood := { row := ucdLoadsRow, standIns := [], harness := (true, "2f3a3ee8a284539b53c97c62811910e1977e759f4171908273a3d7c9c989bded"), looks := false }, kinds := [], alts := [], laidByText := true, laidKinds := [.data], laidTests := true, laidLooks := .later }
def UcdLoadsCardSaid : Prop := Claim7.holds Tryd.pinned (.plain (OpenSpec.ofChange ucdLoadsSpec)) ucdLoadsCard

/-- THE TIED CARD OF 'scansionlaw04.UcdBytes'. -/
def ucdBytesCard : Claim7 := { stood := { row := ucdBytesRow, standIns := [], harness := (true, "2f3a3ee8a284539b53c97c62811910e1977e759f4171908273a3d7c9c989bded"), looks := false }, kinds := [], alts := [], laidByText := true, laidKinds := [.data], laidTests := true, laidLooks := .later }
def UcdBytesCardSaid : Prop := Claim7.holds Tryd.pinned (.plain (OpenSpec.ofChange ucdBytesSpec)) ucdBytesCard

/-- THE TIED CARD OF 'scansionlaw04.UcdHangul'. -/
def ucdHangulCard : Claim7 := { stood := { row := ucdHangulRow, standIns := [], harness := (true, "2f3a3ee8a284539b53c97c62811910e1977e759f4171908273a3d7c9c989bded"), looks := false }, kinds := [], alts := [], laidByText := true, laidKinds := [.data], laidTests := true, laidLooks := .later }
def UcdHangulCardSaid : Prop := Claim7.holds Tryd.pinned (.plain (OpenSpec.ofChange ucdHangulSpec)) ucdHangulCard

/-- THE TIED CARD OF 'scansionlaw04.UcdMarks'. -/
def ucdMarksCard : Claim7 := { stood := { row := ucdMarksRow, standIns := [], harness := (true, "2f3a3ee8a284539b53c97c62811910e1977e759f4171908273a3d7c9c989bded"), looks := false }, kinds := [], alts := [], laidByText := true, laidKinds := [.data], laidTests := true, laidLooks := .later }
def UcdMarksCardSaid : Prop := Claim7.holds Tryd.pinned (.plain (OpenSpec.ofChange ucdMarksSpec)) ucdMarksCard

/-- THE SECOND FORM's CARD OF 'scansionlaw04.UcdTells'. -/
def ucdTellsUptoCard : Claim7 := { stood := { row := ucdTellsUptoRow, standIns := [], harness := (true, "2f3a3ee8a284539b53c97c62811910e1977e759f4171908273a3d7c9c989bded"), looks := false }, kinds := [], alts := [], laidByText := true, laidKinds := [.data], laidTests := true, laidLooks := .later }
def UcdTellsUptoCardSaid : Prop := Claim7.holds Tryd.pinned (.plain (OpenSpec.upto ucdTellsSpec)) ucdTellsUptoCard

/-- THE SECOND FORM's CARD OF 'scansionlaw04.UcdSaves'. -/
def ucdSavesUptoCard : Claim7 := { stood := { row := ucdSavesUptoRow, standIns := [], harness := (true, "2f3a3ee8a284539b53c97c62811910e1977e759f4171908273a3d7c9c989bded"), looks := false }, kinds := [], alts := [], laidByText := true, laidKinds := [.data], laidTests := true, laidLooks := .later }
def UcdSavesUptoCardSaid : Prop := Claim7.holds Tryd.pinned (.plain (OpenSpec.upto ucdSavesSpec)) ucdSavesUptoCard

/-- THE SECOND FORM's CARD OF 'scansionlaw04.UcdLoads'. -/
def ucdLoadsUptoCard : Claim7 := { stood := { row := ucdLoadsUptoRow, standIns := [], harness := (true, "2f3a3ee8a284539b53c97c62811910e1977e759f4171908273a3d7c9c989bded"), looks := false }, kinds := [], alts := [], laidByText := true, laidKinds := [.data], laidTests := true, laidLooks := .later }
def UcdLoadsUptoCardSaid : Prop := Claim7.holds Tryd.pinned (.plain (OpenSpec.upto ucdLoadsSpec)) ucdLoadsUptoCard

/-- THE SECOND FORM's CARD OF 'scansionlaw04.UcdBytes'. -/
def ucdBytesUptoCard : Claim7 := { stood := { row := ucdBytesUptoRow, standIns := [], harness := (true, "2f3a3ee8a284539b53c97c62811910e1977e759f4171908273a3d7c9c989bded"), looks := false }, kinds := [], alts := [], laidByText := true, laidKinds := [.data], laidTests := true, laidLooks := .later }
def UcdBytesUptoCardSaid : Prop := Claim7.holds Tryd.pinned (.plain (OpenSpec.upto ucdBytesSpec)) ucdBytesUptoCard

/-- THE SECOND FORM's CARD OF 'scansionlaw04.UcdHangul'. -/
def ucdHangulUptoCard : Claim7 := { stood := { row := ucdHangulUptoRow, standIns := [], harness := (true, "2f3a3ee8a284539b53c97c62811910e1977e759f4171908273a3d7c9c989bded"), looks := false }, kinds := [], alts := [], laidByText := true, laidKinds := [.data], laidTests := true, laidLooks := .later }
def UcdHangulUptoCardSaid : Prop := Claim7.holds Tryd.pinned (.plain (OpenSpec.upto ucdHangulSpec)) ucdHangulUptoCard

/-- THE SECOND FORM's CARD OF 'scansionlaw04.UcdMarks'. -/
def ucdMarksUptoCard : Claim7 := { stood := { row := ucdMarksUptoRow, standIns := [], harness := (true, "2f3a3ee8a284539b53c97c62811910e1977e759f4171908273a3d7c9c989bded"), looks := false }, kinds := [], alts := [], laidByText := true, laidKinds := [.data], laidTests := true, laidLooks := .later }
def UcdMarksUptoCardSaid : Prop := Claim7.holds Tryd.pinned (.plain (OpenSpec.upto ucdMarksSpec)) ucdMarksUptoCard
end Rows
end Go.Proofs.YtpknmpgbaccffaaDoor
