/-
  No cell of these rows narrows 'for every input' (looked for: loops, veiled, ifaces, maps, wideKeys, modest, calm, conditions, laid).
  DERIVED. THE GIVEN ROWS OF THIS SEAT. 6 by the template 'for every input the law returns true; each argument reads behind the call as it read before'; 0 by the template 'total and deterministic' (their statements: YtjgbgakdnapdhaaTotals.lean).
  GIVEN WITH THE SEED: the statements are not yours to turn. If you find one false, say at which input.
  Laid BY PROGRAM, IN A SANDBOX (cutbox-rows.mjs): the forced cells as the released guide's own fill.sh prints them over the translation 78378a7e48216b70… (all of the seat's roots in one cut). By AI agents, Wed Nov 11 2026. No macro, syntax, notation, axiom, sorry.
-/
import Derived.Test.YtjgbgakdnapdhaaChecked
import GoSem.Claim
import GoSem.ClaimJoined
import GoSem.ClaimMapViews
import Derived.JoinedTies
import Derived.KernelRfl
namespace Go.Proofs.Ytjgbgakdnapdhaa
/- THE CELL 'sum', in the pinned program and in every row, IS THE sha256 OF THE DUMP (.gsa) THAT YtjgbgakdnapdhaaProg.lean LOADS. Nothing in Lean hashes anything: it is a label: what it is worth is what the hold of that sum in a sandbox is worth. -/
noncomputable def Try.pinned : Pinned := { name := "ytjgbgakdnapdhaa", sum := "78378a7e48216b705b6680209241b41ca063a4c1c33013c7dd057a53c5ebb631", checked := Try.checked }
namespace Rows
def none {H : Type} : Left H := { results := [], args := [] }

/-- 'vesperslaw13.CapturePlays': WHATEVER THE INPUT: true; the input reads as it did. -/
def capturePlaysSpec : ChangeSpec := { name := "capturePlays", fn := fun _ => fun
  | [d1, d2] => { results := [.lit (.bool true)], args := [d1, d2] }
  | _ => none }
def capturePlaysRow : OpenClaim := { program := "ytjgbgakdnapdhaa", sum := "78378a7e48216b705b6680209241b41ca063a4c1c33013c7dd057a53c5ebb631", func := "vespers/vesperslaw13.CapturePlays", spec := "capturePlays", unfollowed := true, recurses := true, apart := false }
def CapturePlaysSaid : Prop := capturePlaysRow.holds Try.pinned (OpenSpec.ofChange capturePlaysSpec)

/-- ITS FALSE NEIGHBOUR: 'it returns false'. Refute it at one input. -/
def capturePlaysWrong : ChangeSpec := { name := "capturePlays", fn := fun _ => fun
  | [d1, d2] => { results := [.lit (.bool false)], args := [d1, d2] }
  | _ => none }
def CapturePlaysWrongFalsely : Prop := capturePlaysRow.holds Try.pinned (OpenSpec.ofChange capturePlaysWrong)

/-- 'vesperslaw13.CaptureNames': WHATEVER THE INPUT: true; the input reads as it did. -/
def captureNamesSpec : ChangeSpec := { name := "captureNames", fn := fun _ => fun
  | [] => { results := [.lit (.bool true)], args := [] }
  | _ => none }
def captureNamesRow : OpenClaim := { program := "ytjgbgakdnapdhaa", sum := "78378a7e48216b705b6680209241b41ca063a4c1c33013c7dd057a53c5ebb631", func := "vespers/vesperslaw13.CaptureNames", spec := "captureNames", unfollowed := true, recurses := true, apart := false }
def CaptureNamesSaid : Prop := captureNamesRow.holds Try.pinned (OpenSpec.ofChange captureNamesSpec)

/-- ITS FALSE NEIGHBOUR: 'it returns false'. Refute it at one input. -/
def captureNamesWrong : ChangeSpec := { name := "captureNames", fn := fun _ => fun
  | [] => { results := [.lit (.bool false)], args := [] }
  | _ => none }
def CaptureNamesWrongFalsely : Prop := captureNamesRow.holds Try.pinned (OpenSpec.ofChange captureNamesWrong)

/-- 'vesperslaw13.CaptureBetween': WHATEVER THE INPUT: true; the input reads as it did. -/
def captureBetweenSpec : ChangeSpec := { name := "captureBetween", fn := fun _ => fun
  | [d1, d2, d3, d4] => { results := [.lit (.bool true)], args := [d1, d2, d3, d4] }
  | _ => none }
def captureBetweenRow : OpenClaim := { program := "ytjgbgakdnapdhaa", sum := "78378a7e48216b705b6680209241b41ca063a4c1c33013c7dd057a53c5ebb631", func := "vespers/vesperslaw13.CaptureBetween", spec := "captureBetween", unfollowed := true, recurses := true, apart := false }
def CaptureBetweenSaid : Prop := captureBetweenRow.holds Try.pinned (OpenSpec.ofChange captureBetweenSpec)

/-- ITS FALSE NEIGHBOUR: 'it returns false'. Refute it at one input. -/
def captureBetweenWrong : ChangeSpec := { name := "captureBetween", fn := fun _ => fun
  | [d1, d2, d3, d4] => { results := [.lit (.bool false)], args := [d1, d2, d3, d4] }
  | _ => none }
def CaptureBetweenWrongFalsely : Prop := captureBetweenRow.holds Try.pinned (OpenSpec.ofChange captureBetweenWrong)

/-- 'vesperslaw13.CaptureOrder': WHATEVER THE INPUT: true; the input reads as it did. -/
def captureOrderSpec : ChangeSpec := { name := "captureOrder", fn := fun _ => fun
  | [d1, d2] => { results := [.lit (.bool true)], args := [d1, d2] }
  | _ => none }
def captureOrderRow : OpenClaim := { program := "ytjgbgakdnapdhaa", sum := "78378a7e48216b705b6680209241b41ca063a4c1c33013c7dd057a53c5ebb631", func := "vespers/vesperslaw13.CaptureOrder", spec := "captureOrder", unfollowed := true, recurses := true, apart := false }
def CaptureOrderSaid : Prop := captureOrderRow.holds Try.pinned (OpenSpec.ofChange captureOrderSpec)

/-- ITS FALSE NEIGHBOUR: 'it returns false'. Refute it at one input. -/
def captureOrderWrong : ChangeSpec := { name := "captureOrder", fn := fun _ => fun
  | [d1, d2] => { results := [.lit (.bool false)], args := [d1, d2] }
  | _ => none }
def CaptureOrderWrongFalsely : Prop := captureOrderRow.holds Try.pinned (OpenSpec.ofChange captureOrderWrong)

/-- 'vesperslaw13.CaptureValues': WHATEVER THE INPUT: true; the input reads as it did. -/
def captureValuesSpec : ChangeSpec := { name := "captureValues", fn := fun _ => fun
  | [d1, d2] => { results := [.lit (.bool true)], args := [d1, d2] }
  | _ => none }
def captureValuesRow : OpenClaim := { program := "ytjgbgakdnapdhaa", sum := "78378a7e48216b705b6680209241b41ca063a4c1c33013c7dd057a53c5ebb631", func := "vespers/vesperslaw13.CaptureValues", spec := "captureValues", unfollowed := true, recurses := true, apart := false }
def CaptureValuesSaid : Prop := captureValuesRow.holds Try.pinned (OpenSpec.ofChange captureValuesSpec)

/-- ITS FALSE NEIGHBOUR: 'it returns false'. Refute it at one input. -/
def captureValuesWrong : ChangeSpec := { name := "captureValues", fn := fun _ => fun
  | [d1, d2] => { results := [.lit (.bool false)], args := [d1, d2] }
  | _ => none }
def CaptureValuesWrongFalsely : Prop := captureValuesRow.holds Try.pinned (OpenSpec.ofChange captureValuesWrong)

/-- 'vesperslaw13.CaptureAgain': WHATEVER THE INPUT: true; the input reads as it did. -/
def captureAgainSpec : ChangeSpec := { name := "captureAgain", fn := fun _ => fun
  | [d] => { results := [.lit (.bool true)], args := [d] }
  | _ => none }
def captureAgainRow : OpenClaim := { program := "ytjgbgakdnapdhaa", sum := "78378a7e48216b705b6680209241b41ca063a4c1c33013c7dd057a53c5ebb631", func := "vespers/vesperslaw13.CaptureAgain", spec := "captureAgain", unfollowed := true, recurses := true, apart := false }
def CaptureAgainSaid : Prop := captureAgainRow.holds Try.pinned (OpenSpec.ofChange captureAgainSpec)

/-- ITS FALSE NEIGHBOUR: 'it returns false'. Refute it at one input. -/
def captureAgainWrong : ChangeSpec := { name := "captureAgain", fn := fun _ => fun
  | [d] => { results := [.lit (.bool false)], args := [d] }
  | _ => none }
def CaptureAgainWrongFalsely : Prop := captureAgainRow.holds Try.pinned (OpenSpec.ofChange captureAgainWrong)

/- THE SECOND FORM. 'bulk': how many values and letters a reading holds, each counted each time it is reached (what is shared counts as often as it is met; a slice's spare places count too). A statement '..UptoSaid' is the law's where the arguments, and the package variables that the reading takes, are together of bulk at most 1048576: NARROWER than '..Said'. Prove '..Said' where nothing that the law and all that it calls make is longer than what came in: it says more and counts as full. Else prove '..UptoSaid'. A law counts once. -/
mutual
def uptoBulk {H : Type} : DataW H → Nat
  | .lit (.string bytes) => bytes.length + 1
  | .lit _ => 1
  | .nil => 1
  | .ptr d => uptoBulk d + 1
  | .slice elems spare => uptoBulkAll elems + uptoBulkAll spare + 1
  | .agg parts => uptoBulkAll parts + 1
  | .iface _ d => uptoBulk d + 1
  | .map entries => uptoBulkEntries entries + 1
  | .held _ => 1
def uptoBulkAll {H : Type} : List (DataW H) → Nat
  | [] => 0
  | d :: r => uptoBulk d + uptoBulkAll r
def uptoBulkEntries {H : Type} : List (Lit × DataW H) → Nat
  | [] => 0
  | x :: r => uptoBulkEntry x + uptoBulkEntries r
def uptoBulkEntry {H : Type} : Lit × DataW H → Nat
  | (.string bytes, d) => bytes.length + uptoBulk d + 1
  | (_, d) => uptoBulk d + 1
 end
def uptoSmall : (H : Type) → List (DataW H) → Bool := fun _ ds => decide (uptoBulkAll ds ≤ 1048576)
def OpenSpec.upto (s : _root_.Go.ChangeSpec) : _root_.Go.OpenSpec := { _root_.Go.OpenSpec.ofChange s with cond := some uptoSmall }

/-- 'vesperslaw13.CapturePlays', WHERE WHAT IT READS IS OF BULK AT MOST 1048576: true; the input reads as it did. -/
def capturePlaysUptoRow : OpenClaim := { program := "ytjgbgakdnapdhaa", sum := "78378a7e48216b705b6680209241b41ca063a4c1c33013c7dd057a53c5ebb631", func := "vespers/vesperslaw13.CapturePlays", spec := "capturePlays", unfollowed := true, recurses := true, apart := false, narrowed := true }
def CapturePlaysUptoSaid : Prop := capturePlaysUptoRow.holds Try.pinned (OpenSpec.upto capturePlaysSpec)

/-- 'vesperslaw13.CaptureNames', WHERE WHAT IT READS IS OF BULK AT MOST 1048576: true; the input reads as it did. -/
def captureNamesUptoRow : OpenClaim := { program := "ytjgbgakdnapdhaa", sum := "78378a7e48216b705b6680209241b41ca063a4c1c33013c7dd057a53c5ebb631", func := "vespers/vesperslaw13.CaptureNames", spec := "captureNames", unfollowed := true, recurses := true, apart := false, narrowed := true }
def CaptureNamesUptoSaid : Prop := captureNamesUptoRow.holds Try.pinned (OpenSpec.upto captureNamesSpec)

/-- 'vesperslaw13.CaptureBetween', WHERE WHAT IT READS IS OF BULK AT MOST 1048576: true; the input reads as it did. -/
def captureBetweenUptoRow : OpenClaim := { program := "ytjgbgakdnapdhaa", sum := "78378a7e48216b705b6680209241b41ca063a4c1c33013c7dd057a53c5ebb631", func := "vespers/vesperslaw13.CaptureBetween", spec := "captureBetween", unfollowed := true, recurses := true, apart := false, narrowed := true }
def CaptureBetweenUptoSaid : Prop := captureBetweenUptoRow.holds Try.pinned (OpenSpec.upto captureBetweenSpec)

/-- 'vesperslaw13.CaptureOrder', WHERE WHAT IT READS IS OF BULK AT MOST 1048576: true; the input reads as it did. -/
def captureOrderUptoRow : OpenClaim := { program := "ytjgbgakdnapdhaa", sum := "78378a7e48216b705b6680209241b41ca063a4c1c33013c7dd057a53c5ebb631", func := "vespers/vesperslaw13.CaptureOrder", spec := "captureOrder", unfollowed := true, recurses := true, apart := false, narrowed := true }
def CaptureOrderUptoSaid : Prop := captureOrderUptoRow.holds Try.pinned (OpenSpec.upto captureOrderSpec)

/-- 'vesperslaw13.CaptureValues', WHERE WHAT IT READS IS OF BULK AT MOST 1048576: true; the input reads as it did. -/
def captureValuesUptoRow : OpenClaim := { program := "ytjgbgakdnapdhaa", sum := "78378a7e48216b705b6680209241b41ca063a4c1c33013c7dd057a53c5ebb631", func := "vespers/vesperslaw13.CaptureValues", spec := "captureValues", unfollowed := true, recurses := true, apart := false, narrowed := true }
def CaptureValuesUptoSaid : Prop := captureValuesUptoRow.holds Try.pinned (OpenSpec.upto captureValuesSpec)

/-- 'vesperslaw13.CaptureAgain', WHERE WHAT IT READS IS OF BULK AT MOST 1048576: true; the input reads as it did. -/
def captureAgainUptoRow : OpenClaim := { program := "ytjgbgakdnapdhaa", sum := "78378a7e48216b705b6680209241b41ca063a4c1c33013c7dd057a53c5ebb631", func := "vespers/vesperslaw13.CaptureAgain", spec := "captureAgain", unfollowed := true, recurses := true, apart := false, narrowed := true }
def CaptureAgainUptoSaid : Prop := captureAgainUptoRow.holds Try.pinned (OpenSpec.upto captureAgainSpec)

end Rows
end Go.Proofs.Ytjgbgakdnapdhaa
