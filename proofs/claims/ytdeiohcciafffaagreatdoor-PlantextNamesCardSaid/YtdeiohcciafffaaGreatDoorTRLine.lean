/- The document's Line: what a line says, by a contract. No condition. -/
import Derived.Test.YtdeiohcciafffaaGreatDoorTRLineM
import Derived.Test.YtdeiohcciafffaaGreatDoorTNames
import Derived.Test.YtdeiohcciafffaaGreatDoorTRead
namespace Go.Proofs.YtdeiohcciafffaaGreatDoor
open Go.RowKit Go.Shelf

theorem below_of_eq {w w' : World} (h : w' = w) : Below w.heap.size w w' := h ▸ Below.refl _ _

end Go.Proofs.YtdeiohcciafffaaGreatDoor
