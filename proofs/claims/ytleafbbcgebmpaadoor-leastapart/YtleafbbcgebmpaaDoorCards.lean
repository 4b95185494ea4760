/-
  DERIVED. GIVEN WITH THE SEED: THE CARDS: each row of YtleafbbcgebmpaaDoorRows.lean that lists a variable, with what it lists TIED to the program's text (the seventh form; the later family's looks); each row that meets fmt, with fmt's text TOLD by the authors' own Lean function (tested against real Go, not proved from fmt's source: count such statements apart). THE CARD IS WHAT COUNTS. Prove the row's statement (the work); the ties are given (YtleafbbcgebmpaaDoorTie.lean); close each card by the builder's one call (the guide's Derived/Test/ToyasCard.lean, 'card_holds'). Laid BY PROGRAM, IN A SANDBOX (cutbox-door.mjs). By AI agents, Wed Nov 11 2026. No macro, syntax, notation, axiom, sorry.
-/
import Derived.Test.YtleafbbcgebmpaaDoorRows
import GoSem.ClaimSeven
namespace Go.Proofs.YtleafbbcgebmpaaDoor
namespace Rows

/-- THE TIED CARD OF 'scansionlaw13.LeastMakes'. -/
def leastMakesCard : Claim7 := { stood := { row := leastMakesRow, standIns := [], harness := (true, "c8626c0a8cbb6c8d1f3777aa31bef8a329efeb7936ff409db157310014028537"), looks := false }, kinds := [], alts := [], laidByText := true, laidKinds := [.data, .data, .data], laidTests := true, laidLooks := .later }
def LeastMakesCardSaid : Prop := Claim7.holds Tryd.pinned (.plain (OpenSpec.ofChange leastMakesSpec)) leastMakesCard

/-- THE TIED CARD OF 'scansionlaw13.LeastApart'. -/
def leastApartCard : Claim7 := { stood := { row := leastApartRow, standIns := [], harness := (true, "c8626c0a8cbb6c8d1f3777aa31bef8a329efeb7936ff409db157310014028537"), looks := false }, kinds := [], alts := [], laidByText := true, laidKinds := [.data, .data, .data], laidTests := true, laidLooks := .later }
def LeastApartCardSaid : Prop := Claim7.holds Tryd.pinned (.plain (OpenSpec.ofChange leastApartSpec)) leastApartCard

/-- THE TIED CARD OF 'scansionlaw13.LeastWords'. -/
def leastWordsCard : Claim7 := { stood := { row := leastWordsRow, standIns := [], harness := (true, "c8626c0a8cbb6c8d1f3777aa31bef8a329efeb7936ff409db157310014028537"), looks := false }, kinds := [], alts := [], laidByText := true, laidKinds := [.data, .data, .data], laidTests := true, laidLooks := .later }
def LeastWordsCardSaid : Prop := Claim7.holds Tryd.pinned (.plain (OpenSpec.ofChange leastWordsSpec)) leastWordsCard

/-- THE TIED CARD OF 'scansionlaw13.LeastAgain'. -/
def leastAgainCard : Claim7 := { stood := { row := leastAgainRow, standIns := [], harness := (true, "c8626c0a8cbb6c8d1f3777aa31bef8a329efeb7936ff409db157310014028537"), looks := false }, kinds := [], alts := [], laidByText := true, laidKinds := [.data, .data, .data], laidTests := true, laidLooks := .later }
def LeastAgainCardSaid : Prop := Claim7.holds Tryd.pinned (.plain (OpenSpec.ofChange leastAgainSpec)) leastAgainCard

/-- THE TIED CARD OF 'scansionlaw13.LeastWitness'. -/
def leastWitnessCard : Claim7 := { stood := { row := leastWitnessRow, standIns := [], harness := (true, "c8626c0a8cbb6c8d1f3777aa31bef8a329efeb7936ff409db157310014028537"), looks := false }, kinds := [], alts := [], laidByText := true, laidKinds := [.data, .data, .data], laidTests := true, laidLooks := .later }
def LeastWitnessCardSaid : Prop := Claim7.holds Tryd.pinned (.plain (OpenSpec.ofChange leastWitnessSpec)) leastWitnessCard

/-- THE TIED CARD OF 'scansionlaw13.LeastNot'. -/
def leastNotCard : Claim7 := { stood := { row := leastNotRow, standIns := [], harness := (true, "c8626c0a8cbb6c8d1f3777aa31bef8a329efeb7936ff409db157310014028537"), looks := false }, kinds := [], alts := [], laidByText := true, laidKinds := [.data, .data, .data], laidTests := true, laidLooks := .later }
def LeastNotCardSaid : Prop := Claim7.holds Tryd.pinned (.plain (OpenSpec.ofChange leastNotSpec)) leastNotCard

/-- THE SECOND FORM's CARD OF 'scansionlaw13.LeastMakes'. -/
def leastMakesUptoCard : Claim7 := { stood := { row := leastMakesUptoRow, standIns := [], harness := (true, "c8626c0a8cbb6c8d1f3777aa31bef8a329efeb7936ff409db157310014028537"), looks := false }, kinds := [], alts := [], laidByText := true, laidKinds := [.data, .data, .data], laidTests := true, laidLooks := .later }
def LeastMakesUptoCardSaid : Prop := Claim7.holds Tryd.pinned (.plain (OpenSpec.upto leastMakesSpec)) leastMakesUptoCard

/-- THE SECOND FORM's CARD OF 'scansionlaw13.LeastApart'. -/
def leastApartUptoCard : Claim7 := { stood := { row := leastApartUptoRow, standIns := [], harness := (true, "c8626c0a8cbb6c8d1f3777aa31bef8a329efeb7936ff409db157310014028537"), looks := false }, kinds := [], alts := [], laidByText := true, laidKinds := [.data, .data, .data], laidTests := true, laidLooks := .later }
def LeastApartUptoCardSaid : Prop := Claim7.holds Tryd.pinned (.plain (OpenSpec.upto leastApartSpec)) leastApartUptoCard

/-- THE SECOND FORM's CARD OF 'scansionlaw13.LeastWords'. -/
def leastWordsUptoCard : Claim7 := { stood := { row := leastWordsUptoRow, standIns := [], harness := (true, "c8626c0a8cbb6c8d1f3777aa31bef8a329efeb7936ff409db157310014028537"), looks := false }, kinds := [], alts := [], laidByText := true, laidKinds := [.data, .data, .data], laidTests := true, laidLooks := .later }
def LeastWordsUptoCardSaid : Prop := Claim7.holds Tryd.pinned (.plain (OpenSpec.upto leastWordsSpec)) leastWordsUptoCard

/-- THE SECOND FORM's CARD OF 'scansionlaw13.LeastAgain'. -/
def leastAgainUptoCard : Claim7 := { stood := { row := leastAgainUptoRow, standIns := [], harness := (true, "c8626c0a8cbb6c8d1f3777aa31bef8a329efeb7936ff409db157310014028537"), looks := false }, kinds := [], alts := [], laidByText := true, laidKinds := [.data, .data, .data], laidTests := true, laidLooks := .later }
def LeastAgainUptoCardSaid : Prop := Claim7.holds Tryd.pinned (.plain (OpenSpec.upto leastAgainSpec)) leastAgainUptoCard

/-- THE SECOND FORM's CARD OF 'scansionlaw13.LeastWitness'. -/
def leastWitnessUptoCard : Claim7 := { stood := { row := leastWitnessUptoRow, standIns := [], harness := (true, "c8626c0a8cbb6c8d1f3777aa31bef8a329efeb7936ff409db157310014028537"), looks := false }, kinds := [], alts := [], laidByText := true, laidKinds := [.data, .data, .data], laidTests := true, laidLooks := .later }
def LeastWitnessUptoCardSaid : Prop := Claim7.holds Tryd.pinned (.plain (OpenSpec.upto leastWitnessSpec)) leastWitnessUptoCard

/-- THE SECOND FORM's CARD OF 'scansionlaw13.LeastNot'. -/
def leastNotUptoCard : Claim7 := { stood := { row := leastNotUptoRow, standIns := [], harness := (true, "c8626c0a8cbb6c8d1f3777aa31bef8a329efeb7936ff409db157310014028537"), looks := false }, kinds := [], alts := [], laidByText := true, laidKinds := [.data, .data, .data], laidTests := true, laidLooks := .later }
def LeastNotUptoCardSaid : Prop := Claim7.holds Tryd.pinned (.plain (OpenSpec.upto leastNotSpec)) leastNotUptoCard
end Rows
end Go.Proofs.YtleafbbcgebmpaaDoor
