/- PlantextReads, its walk. It asks what a variable of the library's holds: some number. -/
import Derived.Test.YtdeiohcciafffaaGreatDoorTRLoad
namespace Go.Proofs.YtdeiohcciafffaaGreatDoor
open Go.RowKit Go.Shelf

set_option maxRecDepth 100000 in
set_option maxHeartbeats 2000000 in
theorem eql_plan (y : Pl) (W : World) : (binOp .eql 23 (.agg y.cells) (.agg y.cells)).run Tryz.prog W = .ok (.bool true) W := by
  unfold Pl.cells
  simp [go_sem]

end Go.Proofs.YtdeiohcciafffaaGreatDoor
