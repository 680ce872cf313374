/-
  No cell of these rows narrows 'for every input' (looked for: loops, veiled, ifaces, maps, wideKeys, modest, calm, conditions, laid).
  DERIVED. THE GIVEN ROWS OF THIS SEAT. 5 by the template 'for every input the law returns true; each argument reads behind the call as it read before'; 0 by the template 'total and deterministic' (their statements: YtmplidgafdobkaaTotals.lean).
  GIVEN WITH THE SEED: the statements are not yours to turn. If you find one false, say at which input.
  Laid BY PROGRAM, IN A SANDBOX (cutbox-rows.mjs): the forced cells as the released guide's own fill.sh prints them over the translation 83b9daa1cdcb8d26… (all of the seat's roots in one cut). By AI agents, Wed Nov 11 2026. No macro, syntax, notation, axiom, sorry.
-/
import Derived.Test.YtmplidgafdobkaaChecked
import GoSem.Claim
import GoSem.ClaimJoined
import GoSem.ClaimMapViews
import Derived.JoinedTies
import Derived.KernelRfl
namespace Go.Proofs.Ytmplidgafdobkaa
/- THE CELL 'sum', in the pinned program and in every row, IS THE sha256 OF THE DUMP (.gsa) THAT YtmplidgafdobkaaProg.lean LOADS. Nothing in Lean hashes anything: it is a label: what it is worth is what the hold of that sum in a sandbox is worth. -/
noncomputable def Try.pinned : Pinned := { name := "ytmplidgafdobkaa", sum := "83b9daa1cdcb8d26ed778422bec9d80abab100002b0eda531052de7681ae5285", checked := Try.checked }
namespace Rows
def none {H : Type} : Left H := { results := [], args := [] }

/-- 'vesperslaw12.BusPlays': WHATEVER THE INPUT: true; the input reads as it did. -/
def busPlaysSpec : ChangeSpec := { name := "busPlays", fn := fun _ => fun
  | [d1, d2, d3, d4, d5] => { results := [.lit (.bool true)], args := [d1, d2, d3, d4, d5] }
  | _ => none }
def busPlaysRow : OpenClaim := { program := "ytmplidgafdobkaa", sum := "83b9daa1cdcb8d26ed778422bec9d80abab100002b0eda531052de7681ae5285", func := "vespers/vesperslaw12.BusPlays", spec := "busPlays", unfollowed := true, recurses := true, plainKeys := false, apart := false }
def BusPlaysSaid : Prop := busPlaysRow.holds Try.pinned (OpenSpec.ofChange busPlaysSpec)

/-- ITS FALSE NEIGHBOUR: 'it returns false'. Refute it at one input. -/
def busPlaysWrong : ChangeSpec := { name := "busPlays", fn := fun _ => fun
  | [d1, d2, d3, d4, d5] => { results := [.lit (.bool false)], args := [d1, d2, d3, d4, d5] }
  | _ => none }
def BusPlaysWrongFalsely : Prop := busPlaysRow.holds Try.pinned (OpenSpec.ofChange busPlaysWrong)

/-- 'vesperslaw12.BusNames': WHATEVER THE INPUT: true; the input reads as it did. -/
def busNamesSpec : ChangeSpec := { name := "busNames", fn := fun _ => fun
  | [] => { results := [.lit (.bool true)], args := [] }
  | _ => none }
def busNamesRow : OpenClaim := { program := "ytmplidgafdobkaa", sum := "83b9daa1cdcb8d26ed778422bec9d80abab100002b0eda531052de7681ae5285", func := "vespers/vesperslaw12.BusNames", spec := "busNames", unfollowed := true, recurses := true, plainKeys := false, apart := false }
def BusNamesSaid : Prop := busNamesRow.holds Try.pinned (OpenSpec.ofChange busNamesSpec)

/-- ITS FALSE NEIGHBOUR: 'it returns false'. Refute it at one input. -/
def busNamesWrong : ChangeSpec := { name := "busNames", fn := fun _ => fun
  | [] => { results := [.lit (.bool false)], args := [] }
  | _ => none }
def BusNamesWrongFalsely : Prop := busNamesRow.holds Try.pinned (OpenSpec.ofChange busNamesWrong)

/-- 'vesperslaw12.BusApart': WHATEVER THE INPUT: true; the input reads as it did. -/
def busApartSpec : ChangeSpec := { name := "busApart", fn := fun _ => fun
  | [d1, d2] => { results := [.lit (.bool true)], args := [d1, d2] }
  | _ => none }
def busApartRow : OpenClaim := { program := "ytmplidgafdobkaa", sum := "83b9daa1cdcb8d26ed778422bec9d80abab100002b0eda531052de7681ae5285", func := "vespers/vesperslaw12.BusApart", spec := "busApart", unfollowed := true, recurses := true, plainKeys := false, apart := false }
def BusApartSaid : Prop := busApartRow.holds Try.pinned (OpenSpec.ofChange busApartSpec)

/-- ITS FALSE NEIGHBOUR: 'it returns false'. Refute it at one input. -/
def busApartWrong : ChangeSpec := { name := "busApart", fn := fun _ => fun
  | [d1, d2] => { results := [.lit (.bool false)], args := [d1, d2] }
  | _ => none }
def BusApartWrongFalsely : Prop := busApartRow.holds Try.pinned (OpenSpec.ofChange busApartWrong)

/-- 'vesperslaw12.BusHears': WHATEVER THE INPUT: true; the input reads as it did. -/
def busHearsSpec : ChangeSpec := { name := "busHears", fn := fun _ => fun
  | [d1, d2] => { results := [.lit (.bool true)], args := [d1, d2] }
  | _ => none }
def busHearsRow : OpenClaim := { program := "ytmplidgafdobkaa", sum := "83b9daa1cdcb8d26ed778422bec9d80abab100002b0eda531052de7681ae5285", func := "vespers/vesperslaw12.BusHears", spec := "busHears", unfollowed := true, recurses := true, plainKeys := false, apart := false }
def BusHearsSaid : Prop := busHearsRow.holds Try.pinned (OpenSpec.ofChange busHearsSpec)

/-- ITS FALSE NEIGHBOUR: 'it returns false'. Refute it at one input. -/
def busHearsWrong : ChangeSpec := { name := "busHears", fn := fun _ => fun
  | [d1, d2] => { results := [.lit (.bool false)], args := [d1, d2] }
  | _ => none }
def BusHearsWrongFalsely : Prop := busHearsRow.holds Try.pinned (OpenSpec.ofChange busHearsWrong)

/-- 'vesperslaw12.BusBlocked': WHATEVER THE INPUT: true; the input reads as it did. -/
def busBlockedSpec : ChangeSpec := { name := "busBlocked", fn := fun _ => fun
  | [d1, d2] => { results := [.lit (.bool true)], args := [d1, d2] }
  | _ => none }
def busBlockedRow : OpenClaim := { program := "ytmplidgafdobkaa", sum := "83b9daa1cdcb8d26ed778422bec9d80abab100002b0eda531052de7681ae5285", func := "vespers/vesperslaw12.BusBlocked", spec := "busBlocked", unfollowed := true, recurses := true, plainKeys := false, apart := false }
def BusBlockedSaid : Prop := busBlockedRow.holds Try.pinned (OpenSpec.ofChange busBlockedSpec)

/-- ITS FALSE NEIGHBOUR: 'it returns false'. Refute it at one input. -/
def busBlockedWrong : ChangeSpec := { name := "busBlocked", fn := fun _ => fun
  | [d1, d2] => { results := [.lit (.bool false)], args := [d1, d2] }
  | _ => none }
def BusBlockedWrongFalsely : Prop := busBlockedRow.holds Try.pinned (OpenSpec.ofChange busBlockedWrong)

/- THE SECOND FORM. 'bulk': how many values and letters a reading holds, each counted each time it is reached (what is shared counts as often as it is met; a slice's spare places count too). A statement '..UptoSaid' is the law's where the arguments, and the package variables that the reading takes, are together of bulk at most 1048576: NARROWER than '..Said'. Prove '..Said' where nothing that the law and all that it calls make is longer than what came in: it says more and counts as full. Else prove '..UptoSaid'. A law counts once. -/
mutual
def uptoBulk {H : Type} : DataW H → Nat
  | .lit (.string bytes) => bytes.length + 1
  | .lit _ => 1
  | .nil => 1
  | .ptr d => uptoBulk d + 1
  | .slice elems spare => uptoBulkAll elems + uptoBulkAll spare + 1
  | .agg parts => uptoBulkAll parts + 1
  | .iface _ d => uptoBulk d + 1
  | .map entries => uptoBulkEntries entries + 1
  | .held _ => 1
def uptoBulkAll {H : Type} : List (DataW H) → Nat
  | [] => 0
  | d :: r => uptoBulk d + uptoBulkAll r
def uptoBulkEntries {H : Type} : List (Lit × DataW H) → Nat
  | [] => 0
  | x :: r => uptoBulkEntry x + uptoBulkEntries r
def uptoBulkEntry {H : Type} : Lit × DataW H → Nat
  | (.string bytes, d) => bytes.length + uptoBulk d + 1
  | (_, d) => uptoBulk d + 1
 end
def uptoSmall : (H : Type) → List (DataW H) → Bool := fun _ ds => decide (uptoBulkAll ds ≤ 1048576)
def OpenSpec.upto (s : _root_.Go.ChangeSpec) : _root_.Go.OpenSpec := { _root_.Go.OpenSpec.ofChange s with cond := some uptoSmall }

/-- 'vesperslaw12.BusPlays', WHERE WHAT IT READS IS OF BULK AT MOST 1048576: true; the input reads as it did. -/
def busPlaysUptoRow : OpenClaim := { program := "ytmplidgafdobkaa", sum := "83b9daa1cdcb8d26ed778422bec9d80abab100002b0eda531052de7681ae5285", func := "vespers/vesperslaw12.BusPlays", spec := "busPlays", unfollowed := true, recurses := true, plainKeys := false, apart := false, narrowed := true }
def BusPlaysUptoSaid : Prop := busPlaysUptoRow.holds Try.pinned (OpenSpec.upto busPlaysSpec)

/-- 'vesperslaw12.BusNames', WHERE WHAT IT READS IS OF BULK AT MOST 1048576: true; the input reads as it did. -/
def busNamesUptoRow : OpenClaim := { program := "ytmplidgafdobkaa", sum := "83b9daa1cdcb8d26ed778422bec9d80abab100002b0eda531052de7681ae5285", func := "vespers/vesperslaw12.BusNames", spec := "busNames", unfollowed := true, recurses := true, plainKeys := false, apart := false, narrowed := true }
def BusNamesUptoSaid : Prop := busNamesUptoRow.holds Try.pinned (OpenSpec.upto busNamesSpec)

/-- 'vesperslaw12.BusApart', WHERE WHAT IT READS IS OF BULK AT MOST 1048576: true; the input reads as it did. -/
def busApartUptoRow : OpenClaim := { program := "ytmplidgafdobkaa", sum := "83b9daa1cdcb8d26ed778422bec9d80abab100002b0eda531052de7681ae5285", func := "vespers/vesperslaw12.BusApart", spec := "busApart", unfollowed := true, recurses := true, plainKeys := false, apart := false, narrowed := true }
def BusApartUptoSaid : Prop := busApartUptoRow.holds Try.pinned (OpenSpec.upto busApartSpec)

/-- 'vesperslaw12.BusHears', WHERE WHAT IT READS IS OF BULK AT MOST 1048576: true; the input reads as it did. -/
def busHearsUptoRow : OpenClaim := { program := "ytmplidgafdobkaa", sum := "83b9daa1cdcb8d26ed778422bec9d80abab100002b0eda531052de7681ae5285", func := "vespers/vesperslaw12.BusHears", spec := "busHears", unfollowed := true, recurses := true, plainKeys := false, apart := false, narrowed := true }
def BusHearsUptoSaid : Prop := busHearsUptoRow.holds Try.pinned (OpenSpec.upto busHearsSpec)

/-- 'vesperslaw12.BusBlocked', WHERE WHAT IT READS IS OF BULK AT MOST 1048576: true; the input reads as it did. -/
def busBlockedUptoRow : OpenClaim := { program := "ytmplidgafdobkaa", sum := "83b9daa1cdcb8d26ed778422bec9d80abab100002b0eda531052de7681ae5285", func := "vespers/vesperslaw12.BusBlocked", spec := "busBlocked", unfollowed := true, recurses := true, plainKeys := false, apart := false, narrowed := true }
def BusBlockedUptoSaid : Prop := busBlockedUptoRow.holds Try.pinned (OpenSpec.upto busBlockedSpec)

end Rows
end Go.Proofs.Ytmplidgafdobkaa
