/-
  DERIVED. GIVEN WITH THE SEED: THE CARDS: each row of YtdeiohcciafffaaGreatDoorRows.lean that lists a variable, with what it lists TIED to the program's text (the seventh form; the later family's looks); each row that meets fmt, with fmt's text TOLD by the authors' own Lean function (tested against real Go, not proved from fmt's source: count such statements apart). THE CARD IS WHAT COUNTS. Prove the row's statement (the work); the ties are given (YtdeiohcciafffaaGreatDoorTie.lean); close each card by the builder's one call (the guide's Derived/Test/ToyasCard.lean, 'card_holds'). Laid BY PROGRAM, IN A SANDBOX (cutbox-door.mjs). By AI agents, Wed Nov 11 2026. No macro, syntax, notation, axiom, sorry.
-/
import Derived.Test.YtdeiohcciafffaaGreatDoorRows
import GoSem.ClaimSeven
namespace Go.Proofs.YtdeiohcciafffaaGreatDoor
namespace Rows

/-- THE TIED CARD OF 'vesperslaw08.PlantextNames'. -/
def plantextNamesCard : Claim7 := { stood := { row := plantextNamesRow, standIns := [], harness := (true, "80cd00a74425c0e5271fd712e8e6da0d533d2ac3e0b1c27738c39e2063e6fbdc"), looks := false }, kinds := [], alts := [], laidByText := true, laidKinds := [.data, .data, .data, .data, .pinned], laidTests := true, laidLooks := .later }
def PlantextNamesCardSaid : Prop := Claim7.holds Tryz.pinned (.plain (OpenSpec.ofChange plantextNamesSpec)) plantextNamesCard

/-- THE TIED CARD OF 'vesperslaw08.PlantextBack'. -/
def plantextBackCard : Claim7 := { stood := { row := plantextBackRow, standIns := [], harness := (true, "80cd00a74425c0e5271fd712e8e6da0d533d2ac3e0b1c27738c39e2063e6fbdc"), looks := false }, kinds := [], alts := [], laidByText := true, laidKinds := [.data, .data, .data, .data, .pinned], laidTests := true, laidLooks := .later }
def PlantextBackCardSaid : Prop := Claim7.holds Tryz.pinned (.plain (OpenSpec.ofChange plantextBackSpec)) plantextBackCard

/-- THE TIED CARD OF 'vesperslaw08.PlantextAdds'. -/
def plantextAddsCard : Claim7 := { stood := { row := plantextAddsRow, standIns := [], harness := (true, "80cd00a74425c0e5271fd712e8e6da0d533d2ac3e0b1c27738c39e2063e6fbdc"), looks := false }, kinds := [], alts := [], laidByText := true, laidKinds := [.data, .pinned], laidTests := true, laidLooks := .later }
def PlantextAddsCardSaid : Prop := Claim7.holds Tryz.pinned (.plain (OpenSpec.ofChange plantextAddsSpec)) plantextAddsCard

/-- THE SECOND FORM's CARD OF 'vesperslaw08.PlantextNames'. -/
def plantextNamesUptoCard : Claim7 := { stood := { row := plantextNamesUptoRow, standIns := [], harness := (true, "80cd00a74425c0e5271fd712e8e6da0d533d2ac3e0b1c27738c39e2063e6fbdc"), looks := false }, kinds := [], alts := [], laidByText := true, laidKinds := [.data, .data, .data, .data, .pinned], laidTests := true, laidLooks := .later }
def PlantextNamesUptoCardSaid : Prop := Claim7.holds Tryz.pinned (.plain (OpenSpec.upto plantextNamesSpec)) plantextNamesUptoCard

/-- THE SECOND FORM's CARD OF 'vesperslaw08.PlantextBack'. -/
def plantextBackUptoCard : Claim7 := { stood := { row := plantextBackUptoRow, standIns := [], harness := (true, "80cd00a74425c0e5271fd712e8e6da0d533d2ac3e0b1c27738c39e2063e6fbdc"), looks := false }, kinds := [], alts := [], laidByText := true, laidKinds := [.data, .data, .data, .data, .pinned], laidTests := true, laidLooks := .later }
def PlantextBackUptoCardSaid : Prop := Claim7.holds Tryz.pinned (.plain (OpenSpec.upto plantextBackSpec)) plantextBackUptoCard

/-- THE SECOND FORM's CARD OF 'vesperslaw08.PlantextAdds'. -/
def plantextAddsUptoCard : Claim7 := { stood := { row := plantextAddsUptoRow, standIns := [], harness := (true, "80cd00a74425c0e5271fd712e8e6da0d533d2ac3e0b1c27738c39e2063e6fbdc"), looks := false }, kinds := [], alts := [], laidByText := true, laidKinds := [.data, .pinned], laidTests := true, laidLooks := .later }
def PlantextAddsUptoCardSaid : Prop := Claim7.holds Tryz.pinned (.plain (OpenSpec.upto plantextAddsSpec)) plantextAddsUptoCard
end Rows
end Go.Proofs.YtdeiohcciafffaaGreatDoor
