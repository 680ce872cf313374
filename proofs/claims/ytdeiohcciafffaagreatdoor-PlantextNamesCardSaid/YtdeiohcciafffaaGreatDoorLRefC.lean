/- The document's Check, Round and Numbers, by contracts: the program's own answers. No condition. -/
import Derived.Test.YtdeiohcciafffaaGreatDoorLRefF
namespace Go.Proofs.YtdeiohcciafffaaGreatDoor
open Go.RowKit Go.Shelf

section
variable (x : Pl) (w : World)

end
end Go.Proofs.YtdeiohcciafffaaGreatDoor
