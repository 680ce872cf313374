/- The document's Load, by a contract. No condition. -/
import Derived.Test.YtdeiohcciafffaaGreatDoorTRPars
import Derived.Test.YtdeiohcciafffaaGreatDoorTLoad
import Derived.Test.YtdeiohcciafffaaGreatDoorLRefC
namespace Go.Proofs.YtdeiohcciafffaaGreatDoor
open Go.RowKit Go.Shelf

theorem chkL_70 {x : Pl} (h : chkL x ≠ 0) : chkL x = 70 := by
  unfold chkL at h ⊢
  split
  · rename_i h2; rw [if_pos h2] at h; exact absurd rfl h
  · rfl

end Go.Proofs.YtdeiohcciafffaaGreatDoor
