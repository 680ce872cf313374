/- The document's number: a text's digits, by a contract. No condition. -/
import Derived.Test.YtdeiohcciafffaaGreatDoorTRTrim
namespace Go.Proofs.YtdeiohcciafffaaGreatDoor
open Go.RowKit Go.Shelf

/-- The number of a text, −1 where it is none. -/
def numI (l : List UInt8) : Int := match wholeT l with
  | some n => (n : Int)
  | none => -1

end Go.Proofs.YtdeiohcciafffaaGreatDoor
