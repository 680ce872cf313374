/-
  No cell of these rows narrows 'for every input' (looked for: loops, veiled, ifaces, maps, wideKeys, modest, calm, conditions, laid).
  DERIVED. THE GIVEN ROWS OF THIS SEAT. 6 by the template 'for every input the law returns true; each argument reads behind the call as it read before'; 0 by the template 'total and deterministic' (their statements: YtdeiohcciafffaaTotals.lean).
  GIVEN WITH THE SEED: the statements are not yours to turn. If you find one false, say at which input.
  Laid BY PROGRAM, IN A SANDBOX (cutbox-rows.mjs): the forced cells as the released guide's own fill.sh prints them over the translation 06d5e78bb296ee99… (all of the seat's roots in one cut). By AI agents, Wed Nov 11 2026. No macro, syntax, notation, axiom, sorry.
-/
import Derived.Test.YtdeiohcciafffaaChecked
import GoSem.Claim
import GoSem.ClaimJoined
import GoSem.ClaimMapViews
import Derived.JoinedTies
import Derived.KernelRfl
namespace Go.Proofs.Ytdeiohcciafffaa
/- THE CELL 'sum', in the pinned program and in every row, IS THE sha256 OF THE DUMP (.gsa) THAT YtdeiohcciafffaaProg.lean LOADS. Nothing in Lean hashes anything: it is a label: what it is worth is what the hold of that sum in a sandbox is worth. -/
noncomputable def Try.pinned : Pinned := { name := "ytdeiohcciafffaa", sum := "06d5e78bb296ee99d902c38df531c69d16762fb9de863cbd87e66228da1652cc", checked := Try.checked }
namespace Rows
def none {H : Type} : Left H := { results := [], args := [] }

/-- 'vesperslaw09.TablePlaces': WHATEVER THE INPUT: true; the input reads as it did. -/
def tablePlacesSpec : ChangeSpec := { name := "tablePlaces", fn := fun _ => fun
  | [d1, d2, d3, d4] => { results := [.lit (.bool true)], args := [d1, d2, d3, d4] }
  | _ => none }
def tablePlacesRow : OpenClaim := { program := "ytdeiohcciafffaa", sum := "06d5e78bb296ee99d902c38df531c69d16762fb9de863cbd87e66228da1652cc", func := "vespers/vesperslaw09.TablePlaces", spec := "tablePlaces", unfollowed := true, recurses := true, apart := false }
def TablePlacesSaid : Prop := tablePlacesRow.holds Try.pinned (OpenSpec.ofChange tablePlacesSpec)

/-- ITS FALSE NEIGHBOUR: 'it returns false'. Refute it at one input. -/
def tablePlacesWrong : ChangeSpec := { name := "tablePlaces", fn := fun _ => fun
  | [d1, d2, d3, d4] => { results := [.lit (.bool false)], args := [d1, d2, d3, d4] }
  | _ => none }
def TablePlacesWrongFalsely : Prop := tablePlacesRow.holds Try.pinned (OpenSpec.ofChange tablePlacesWrong)

/-- 'vesperslaw09.TableTimes': WHATEVER THE INPUT: true; the input reads as it did. -/
def tableTimesSpec : ChangeSpec := { name := "tableTimes", fn := fun _ => fun
  | [d1, d2, d3] => { results := [.lit (.bool true)], args := [d1, d2, d3] }
  | _ => none }
def tableTimesRow : OpenClaim := { program := "ytdeiohcciafffaa", sum := "06d5e78bb296ee99d902c38df531c69d16762fb9de863cbd87e66228da1652cc", func := "vespers/vesperslaw09.TableTimes", spec := "tableTimes", unfollowed := true, recurses := true, apart := false }
def TableTimesSaid : Prop := tableTimesRow.holds Try.pinned (OpenSpec.ofChange tableTimesSpec)

/-- ITS FALSE NEIGHBOUR: 'it returns false'. Refute it at one input. -/
def tableTimesWrong : ChangeSpec := { name := "tableTimes", fn := fun _ => fun
  | [d1, d2, d3] => { results := [.lit (.bool false)], args := [d1, d2, d3] }
  | _ => none }
def TableTimesWrongFalsely : Prop := tableTimesRow.holds Try.pinned (OpenSpec.ofChange tableTimesWrong)

/-- 'vesperslaw09.TableNames': WHATEVER THE INPUT: true; the input reads as it did. -/
def tableNamesSpec : ChangeSpec := { name := "tableNames", fn := fun _ => fun
  | [] => { results := [.lit (.bool true)], args := [] }
  | _ => none }
def tableNamesRow : OpenClaim := { program := "ytdeiohcciafffaa", sum := "06d5e78bb296ee99d902c38df531c69d16762fb9de863cbd87e66228da1652cc", func := "vespers/vesperslaw09.TableNames", spec := "tableNames", unfollowed := true, recurses := true, apart := false }
def TableNamesSaid : Prop := tableNamesRow.holds Try.pinned (OpenSpec.ofChange tableNamesSpec)

/-- ITS FALSE NEIGHBOUR: 'it returns false'. Refute it at one input. -/
def tableNamesWrong : ChangeSpec := { name := "tableNames", fn := fun _ => fun
  | [] => { results := [.lit (.bool false)], args := [] }
  | _ => none }
def TableNamesWrongFalsely : Prop := tableNamesRow.holds Try.pinned (OpenSpec.ofChange tableNamesWrong)

/-- 'vesperslaw09.TableBegins': WHATEVER THE INPUT: true; the input reads as it did. -/
def tableBeginsSpec : ChangeSpec := { name := "tableBegins", fn := fun _ => fun
  | [d1, d2] => { results := [.lit (.bool true)], args := [d1, d2] }
  | _ => none }
def tableBeginsRow : OpenClaim := { program := "ytdeiohcciafffaa", sum := "06d5e78bb296ee99d902c38df531c69d16762fb9de863cbd87e66228da1652cc", func := "vespers/vesperslaw09.TableBegins", spec := "tableBegins", unfollowed := true, recurses := true, apart := false }
def TableBeginsSaid : Prop := tableBeginsRow.holds Try.pinned (OpenSpec.ofChange tableBeginsSpec)

/-- ITS FALSE NEIGHBOUR: 'it returns false'. Refute it at one input. -/
def tableBeginsWrong : ChangeSpec := { name := "tableBegins", fn := fun _ => fun
  | [d1, d2] => { results := [.lit (.bool false)], args := [d1, d2] }
  | _ => none }
def TableBeginsWrongFalsely : Prop := tableBeginsRow.holds Try.pinned (OpenSpec.ofChange tableBeginsWrong)

/-- 'vesperslaw09.TableWindows': WHATEVER THE INPUT: true; the input reads as it did. -/
def tableWindowsSpec : ChangeSpec := { name := "tableWindows", fn := fun _ => fun
  | [d1, d2, d3, d4] => { results := [.lit (.bool true)], args := [d1, d2, d3, d4] }
  | _ => none }
def tableWindowsRow : OpenClaim := { program := "ytdeiohcciafffaa", sum := "06d5e78bb296ee99d902c38df531c69d16762fb9de863cbd87e66228da1652cc", func := "vespers/vesperslaw09.TableWindows", spec := "tableWindows", unfollowed := true, recurses := true, apart := false }
def TableWindowsSaid : Prop := tableWindowsRow.holds Try.pinned (OpenSpec.ofChange tableWindowsSpec)

/-- ITS FALSE NEIGHBOUR: 'it returns false'. Refute it at one input. -/
def tableWindowsWrong : ChangeSpec := { name := "tableWindows", fn := fun _ => fun
  | [d1, d2, d3, d4] => { results := [.lit (.bool false)], args := [d1, d2, d3, d4] }
  | _ => none }
def TableWindowsWrongFalsely : Prop := tableWindowsRow.holds Try.pinned (OpenSpec.ofChange tableWindowsWrong)

/-- 'vesperslaw09.TableTurns': WHATEVER THE INPUT: true; the input reads as it did. -/
def tableTurnsSpec : ChangeSpec := { name := "tableTurns", fn := fun _ => fun
  | [d1, d2, d3] => { results := [.lit (.bool true)], args := [d1, d2, d3] }
  | _ => none }
def tableTurnsRow : OpenClaim := { program := "ytdeiohcciafffaa", sum := "06d5e78bb296ee99d902c38df531c69d16762fb9de863cbd87e66228da1652cc", func := "vespers/vesperslaw09.TableTurns", spec := "tableTurns", unfollowed := true, recurses := true, apart := false }
def TableTurnsSaid : Prop := tableTurnsRow.holds Try.pinned (OpenSpec.ofChange tableTurnsSpec)

/-- ITS FALSE NEIGHBOUR: 'it returns false'. Refute it at one input. -/
def tableTurnsWrong : ChangeSpec := { name := "tableTurns", fn := fun _ => fun
  | [d1, d2, d3] => { results := [.lit (.bool false)], args := [d1, d2, d3] }
  | _ => none }
def TableTurnsWrongFalsely : Prop := tableTurnsRow.holds Try.pinned (OpenSpec.ofChange tableTurnsWrong)

/- THE SECOND FORM. 'bulk': how many values and letters a reading holds, each counted each time it is reached (what is shared counts as often as it is met; a slice's spare places count too). A statement '..UptoSaid' is the law's where the arguments, and the package variables that the reading takes, are together of bulk at most 1048576: NARROWER than '..Said'. Prove '..Said' where nothing that the law and all that it calls make is longer than what came in: it says more and counts as full. Else prove '..UptoSaid'. A law counts once. -/
mutual
def uptoBulk {H : Type} : DataW H → Nat
  | .lit (.string bytes) => bytes.length + 1
  | .lit _ => 1
  | .nil => 1
  | .ptr d => uptoBulk d + 1
  | .slice elems spare => uptoBulkAll elems + uptoBulkAll spare + 1
  | .agg parts => uptoBulkAll parts + 1
  | .iface _ d => uptoBulk d + 1
  | .map entries => uptoBulkEntries entries + 1
  | .held _ => 1
def uptoBulkAll {H : Type} : List (DataW H) → Nat
  | [] => 0
  | d :: r => uptoBulk d + uptoBulkAll r
def uptoBulkEntries {H : Type} : List (Lit × DataW H) → Nat
  | [] => 0
  | x :: r => uptoBulkEntry x + uptoBulkEntries r
def uptoBulkEntry {H : Type} : Lit × DataW H → Nat
  | (.string bytes, d) => bytes.length + uptoBulk d + 1
  | (_, d) => uptoBulk d + 1
 end
def uptoSmall : (H : Type) → List (DataW H) → Bool := fun _ ds => decide (uptoBulkAll ds ≤ 1048576)
def OpenSpec.upto (s : _root_.Go.ChangeSpec) : _root_.Go.OpenSpec := { _root_.Go.OpenSpec.ofChange s with cond := some uptoSmall }

/-- 'vesperslaw09.TablePlaces', WHERE WHAT IT READS IS OF BULK AT MOST 1048576: true; the input reads as it did. -/
def tablePlacesUptoRow : OpenClaim := { program := "ytdeiohcciafffaa", sum := "06d5e78bb296ee99d902c38df531c69d16762fb9de863cbd87e66228da1652cc", func := "vespers/vesperslaw09.TablePlaces", spec := "tablePlaces", unfollowed := true, recurses := true, apart := false, narrowed := true }
def TablePlacesUptoSaid : Prop := tablePlacesUptoRow.holds Try.pinned (OpenSpec.upto tablePlacesSpec)

/-- 'vesperslaw09.TableTimes', WHERE WHAT IT READS IS OF BULK AT MOST 1048576: true; the input reads as it did. -/
def tableTimesUptoRow : OpenClaim := { program := "ytdeiohcciafffaa", sum := "06d5e78bb296ee99d902c38df531c69d16762fb9de863cbd87e66228da1652cc", func := "vespers/vesperslaw09.TableTimes", spec := "tableTimes", unfollowed := true, recurses := true, apart := false, narrowed := true }
def TableTimesUptoSaid : Prop := tableTimesUptoRow.holds Try.pinned (OpenSpec.upto tableTimesSpec)

/-- 'vesperslaw09.TableNames', WHERE WHAT IT READS IS OF BULK AT MOST 1048576: true; the input reads as it did. -/
def tableNamesUptoRow : OpenClaim := { program := "ytdeiohcciafffaa", sum := "06d5e78bb296ee99d902c38df531c69d16762fb9de863cbd87e66228da1652cc", func := "vespers/vesperslaw09.TableNames", spec := "tableNames", unfollowed := true, recurses := true, apart := false, narrowed := true }
def TableNamesUptoSaid : Prop := tableNamesUptoRow.holds Try.pinned (OpenSpec.upto tableNamesSpec)

/-- 'vesperslaw09.TableBegins', WHERE WHAT IT READS IS OF BULK AT MOST 1048576: true; the input reads as it did. -/
def tableBeginsUptoRow : OpenClaim := { program := "ytdeiohcciafffaa", sum := "06d5e78bb296ee99d902c38df531c69d16762fb9de863cbd87e66228da1652cc", func := "vespers/vesperslaw09.TableBegins", spec := "tableBegins", unfollowed := true, recurses := true, apart := false, narrowed := true }
def TableBeginsUptoSaid : Prop := tableBeginsUptoRow.holds Try.pinned (OpenSpec.upto tableBeginsSpec)

/-- 'vesperslaw09.TableWindows', WHERE WHAT IT READS IS OF BULK AT MOST 1048576: true; the input reads as it did. -/
def tableWindowsUptoRow : OpenClaim := { program := "ytdeiohcciafffaa", sum := "06d5e78bb296ee99d902c38df531c69d16762fb9de863cbd87e66228da1652cc", func := "vespers/vesperslaw09.TableWindows", spec := "tableWindows", unfollowed := true, recurses := true, apart := false, narrowed := true }
def TableWindowsUptoSaid : Prop := tableWindowsUptoRow.holds Try.pinned (OpenSpec.upto tableWindowsSpec)

/-- 'vesperslaw09.TableTurns', WHERE WHAT IT READS IS OF BULK AT MOST 1048576: true; the input reads as it did. -/
def tableTurnsUptoRow : OpenClaim := { program := "ytdeiohcciafffaa", sum := "06d5e78bb296ee99d902c38df531c69d16762fb9de863cbd87e66228da1652cc", func := "vespers/vesperslaw09.TableTurns", spec := "tableTurns", unfollowed := true, recurses := true, apart := false, narrowed := true }
def TableTurnsUptoSaid : Prop := tableTurnsUptoRow.holds Try.pinned (OpenSpec.upto tableTurnsSpec)

end Rows
end Go.Proofs.Ytdeiohcciafffaa
