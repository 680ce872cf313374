/- TableBegins, its walk. -/
import Derived.Test.YtdeiohcciafffaaPBegN
import Derived.Test.YtdeiohcciafffaaPBegF
import Derived.Test.YtdeiohcciafffaaPBegL
import Derived.Test.YtdeiohcciafffaaPBegU
import Derived.Test.YtdeiohcciafffaaPBegV
namespace Go.Proofs.Ytdeiohcciafffaa
open Go.RowKit Go.Shelf

theorem begins_walk (x : Pl) (r s : Int) (w : World) : Calls Try.prog 6 #[.agg x.cells, spotV r s] w fun e w' => e = .returned (.bool true) ∧ Below w.heap.size w w' := by
  cases hh : hasP x r s
  · exact begins_no x r s w hh
  obtain ⟨_, S⟩ := has_yes hh
  have r2 := S.r2
  by_cases hr : r < 2147483647
  · by_cases h0 : r = 0 ∧ s = 0
    · obtain ⟨rfl, rfl⟩ := h0
      exact begins_first x w hh
    · exact begins_low x r s w hh hr h0
  · obtain rfl : r = 2147483647 := by omega
    cases hg : ofB x (bgP x 2147483647 s - 1)
    · exact begins_max0 x s w hh hg
    · exact begins_max1 x s w hh hg
end Go.Proofs.Ytdeiohcciafffaa
