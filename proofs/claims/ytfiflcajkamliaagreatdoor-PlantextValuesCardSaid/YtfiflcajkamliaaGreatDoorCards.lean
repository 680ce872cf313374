/-
  DERIVED. GIVEN WITH THE SEED: THE CARDS: each row of YtfiflcajkamliaaGreatDoorRows.lean that lists a variable, with what it lists TIED to the program's text (the seventh form; the later family's looks); each row that meets fmt, with fmt's text TOLD by the authors' own Lean function (tested against real Go, not proved from fmt's source: count such statements apart). THE CARD IS WHAT COUNTS. Prove the row's statement (the work); the ties are given (YtfiflcajkamliaaGreatDoorTie.lean); close each card by the builder's one call (the guide's Derived/Test/ToyasCard.lean, 'card_holds'). Laid BY PROGRAM, IN A SANDBOX (cutbox-door.mjs). By AI agents, Wed Nov 11 2026. No macro, syntax, notation, axiom, sorry.
-/
import Derived.Test.YtfiflcajkamliaaGreatDoorRows
import GoSem.ClaimSeven
namespace Go.Proofs.YtfiflcajkamliaaGreatDoor
namespace Rows

/-- THE TIED CARD OF 'vesperslaw08.PlantextReads'. -/
def plantextReadsCard : Claim7 := { stood := { row := plantextReadsRow, standIns := [], harness := (true, "34f5791f549f2425c32aa3ed8f2f54cfeaf283c2bb829e2b5441d760cb989284"), looks := false }, kinds := [], alts := [], laidByText := true, laidKinds := [.data, .pinned], laidTests := true, laidLooks := .later }
def PlantextReadsCardSaid : Prop := Claim7.holds Tryz.pinned (.plain (OpenSpec.ofChange plantextReadsSpec)) plantextReadsCard

/-- THE TIED CARD OF 'vesperslaw08.PlantextNames'. -/
def plantextNamesCard : Claim7 := { stood := { row := plantextNamesRow, standIns := [], harness := (true, "34f5791f549f2425c32aa3ed8f2f54cfeaf283c2bb829e2b5441d760cb989284"), looks := false }, kinds := [], alts := [], laidByText := true, laidKinds := [.data, .data, .data, .data, .pinned], laidTests := true, laidLooks := .later }
def PlantextNamesCardSaid : Prop := Claim7.holds Tryz.pinned (.plain (OpenSpec.ofChange plantextNamesSpec)) plantextNamesCard

/-- THE TIED CARD OF 'vesperslaw08.PlantextBack'. -/
def plantextBackCard : Claim7 := { stood := { row := plantextBackRow, standIns := [], harness := (true, "34f5791f549f2425c32aa3ed8f2f54cfeaf283c2bb829e2b5441d760cb989284"), looks := false }, kinds := [], alts := [], laidByText := true, laidKinds := [.data, .data, .data, .data, .pinned], laidTests := true, laidLooks := .later }
def PlantextBackCardSaid : Prop := Claim7.holds Tryz.pinned (.plain (OpenSpec.ofChange plantextBackSpec)) plantextBackCard

/-- THE TIED CARD OF 'vesperslaw08.PlantextValues'. -/
def plantextValuesCard : Claim7 := { stood := { row := plantextValuesRow, standIns := [], harness := (true, "34f5791f549f2425c32aa3ed8f2f54cfeaf283c2bb829e2b5441d760cb989284"), looks := false }, kinds := [], alts := [], laidByText := true, laidKinds := [.data, .data, .data, .data, .pinned], laidTests := true, laidLooks := .later }
def PlantextValuesCardSaid : Prop := Claim7.holds Tryz.pinned (.plain (OpenSpec.ofChange plantextValuesSpec)) plantextValuesCard

/-- THE TIED CARD OF 'vesperslaw08.PlantextAdds'. -/
def plantextAddsCard : Claim7 := { stood := { row := plantextAddsRow, standIns := [], harness := (true, "34f5791f549f2425c32aa3ed8f2f54cfeaf283c2bb829e2b5441d760cb989284"), looks := false }, kinds := [], alts := [], laidByText := true, laidKinds := [.data, .pinned], laidTests := true, laidLooks := .later }
def PlantextAddsCardSaid : Prop := Claim7.holds Tryz.pinned (.plain (OpenSpec.ofChange plantextAddsSpec)) plantextAddsCard

/-- THE SECOND FORM's CARD OF 'vesperslaw08.PlantextReads'. -/
def plantextReadsUptoCard : Claim7 := { stood := { row := plantextReadsUptoRow, standIns := [], harness := (true, "34f5791f549f2425c32aa3ed8f2f54cfeaf283c2bb829e2b5441d760cb989284"), looks := false }, kinds := [], alts := [], laidByText := true, laidKinds := [.data, .pinned], laidTests := true, laidLooks := .later }
def PlantextReadsUptoCardSaid : Prop := Claim7.holds Tryz.pinned (.plain (OpenSpec.upto plantextReadsSpec)) plantextReadsUptoCard

/-- THE SECOND FORM's CARD OF 'vesperslaw08.PlantextNames'. -/
def plantextNamesUptoCard : Claim7 := { stood := { row := plantextNamesUptoRow, standIns := [], harness := (true, "34f5791f549f2425c32aa3ed8f2f54cfeaf283c2bb829e2b5441d760cb989284"), looks := false }, kinds := [], alts := [], laidByText := true, laidKinds := [.data, .data, .data, .data, .pinned], laidTests := true, laidLooks := .later }
def PlantextNamesUptoCardSaid : Prop := Claim7.holds Tryz.pinned (.plain (OpenSpec.upto plantextNamesSpec)) plantextNamesUptoCard

/-- THE SECOND FORM's CARD OF 'vesperslaw08.PlantextBack'. -/
def plantextBackUptoCard : Claim7 := { stood := { row := plantextBackUptoRow, standIns := [], harness := (true, "34f5791f549f2425c32aa3ed8f2f54cfeaf283c2bb829e2b5441d760cb989284"), looks := false }, kinds := [], alts := [], laidByText := true, laidKinds := [.data, .data, .data, .data, .pinned], laidTests := true, laidLooks := .later }
def PlantextBackUptoCardSaid : Prop := Claim7.holds Tryz.pinned (.plain (OpenSpec.upto plantextBackSpec)) plantextBackUptoCard

/-- THE SECOND FORM's CARD OF 'vesperslaw08.PlantextValues'. -/
def plantextValuesUptoCard : Claim7 := { stood := { row := plantextValuesUptoRow, standIns := [], harness := (true, "34f5791f549f2425c32aa3ed8f2f54cfeaf283c2bb829e2b5441d760cb989284"), looks := false }, kinds := [], alts := [], laidByText := true, laidKinds := [.data, .data, .data, .data, .pinned], laidTests := true, laidLooks := .later }
def PlantextValuesUptoCardSaid : Prop := Claim7.holds Tryz.pinned (.plain (OpenSpec.upto plantextValuesSpec)) plantextValuesUptoCard

/-- THE SECOND FORM's CARD OF 'vesperslaw08.PlantextAdds'. -/
def plantextAddsUptoCard : Claim7 := { stood := { row := plantextAddsUptoRow, standIns := [], harness := (true, "34f5791f549f2425c32aa3ed8f2f54cfeaf283c2bb829e2b5441d760cb989284"), looks := false }, kinds := [], alts := [], laidByText := true, laidKinds := [.data, .pinned], laidTests := true, laidLooks := .later }
def PlantextAddsUptoCardSaid : Prop := Claim7.holds Tryz.pinned (.plain (OpenSpec.upto plantextAddsSpec)) plantextAddsUptoCard
end Rows
end Go.Proofs.YtfiflcajkamliaaGreatDoor
