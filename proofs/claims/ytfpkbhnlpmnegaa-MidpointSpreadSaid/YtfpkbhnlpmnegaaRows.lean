/-
  No cell of these rows narrows 'for every input' (looked for: loops, veiled, ifaces, maps, wideKeys, modest, calm, conditions, laid).
  DERIVED. THE GIVEN ROWS OF THIS SEAT. 6 by the template 'for every input the law returns true; each argument reads behind the call as it read before'; 0 by the template 'total and deterministic' (their statements: YtfpkbhnlpmnegaaTotals.lean).
  GIVEN WITH THE SEED: the statements are not yours to turn. If you find one false, say at which input.
  Laid BY PROGRAM, IN A SANDBOX (cutbox-rows.mjs): the forced cells as the released guide's own fill.sh prints them over the translation 378e891fc4ab45f2… (all of the seat's roots in one cut). By AI agents, Wed Nov 11 2026. No macro, syntax, notation, axiom, sorry.
-/
import Derived.Test.YtfpkbhnlpmnegaaChecked
import GoSem.Claim
import GoSem.ClaimJoined
import GoSem.ClaimMapViews
import Derived.JoinedTies
import Derived.KernelRfl
namespace Go.Proofs.Ytfpkbhnlpmnegaa
/- THE CELL 'sum', in the pinned program and in every row, IS THE sha256 OF THE DUMP (.gsa) THAT YtfpkbhnlpmnegaaProg.lean LOADS. Nothing in Lean hashes anything: it is a label: what it is worth is what the hold of that sum in a sandbox is worth. -/
noncomputable def Try.pinned : Pinned := { name := "ytfpkbhnlpmnegaa", sum := "378e891fc4ab45f29425d54b6c759f1b0f78e267f7618cddaadd100f8b69dc3a", checked := Try.checked }
namespace Rows
def none {H : Type} : Left H := { results := [], args := [] }

/-- 'vesperslaw14.MidpointTrims': WHATEVER THE INPUT: true; the input reads as it did. -/
def midpointTrimsSpec : ChangeSpec := { name := "midpointTrims", fn := fun _ => fun
  | [d1, d2] => { results := [.lit (.bool true)], args := [d1, d2] }
  | _ => none }
def midpointTrimsRow : OpenClaim := { program := "ytfpkbhnlpmnegaa", sum := "378e891fc4ab45f29425d54b6c759f1b0f78e267f7618cddaadd100f8b69dc3a", func := "vespers/vesperslaw14.MidpointTrims", spec := "midpointTrims", unfollowed := true, recurses := true, apart := false }
def MidpointTrimsSaid : Prop := midpointTrimsRow.holds Try.pinned (OpenSpec.ofChange midpointTrimsSpec)

/-- ITS FALSE NEIGHBOUR: 'it returns false'. Refute it at one input. -/
def midpointTrimsWrong : ChangeSpec := { name := "midpointTrims", fn := fun _ => fun
  | [d1, d2] => { results := [.lit (.bool false)], args := [d1, d2] }
  | _ => none }
def MidpointTrimsWrongFalsely : Prop := midpointTrimsRow.holds Try.pinned (OpenSpec.ofChange midpointTrimsWrong)

/-- 'vesperslaw14.MidpointNames': WHATEVER THE INPUT: true; the input reads as it did. -/
def midpointNamesSpec : ChangeSpec := { name := "midpointNames", fn := fun _ => fun
  | [] => { results := [.lit (.bool true)], args := [] }
  | _ => none }
def midpointNamesRow : OpenClaim := { program := "ytfpkbhnlpmnegaa", sum := "378e891fc4ab45f29425d54b6c759f1b0f78e267f7618cddaadd100f8b69dc3a", func := "vespers/vesperslaw14.MidpointNames", spec := "midpointNames", unfollowed := true, recurses := true, apart := false }
def MidpointNamesSaid : Prop := midpointNamesRow.holds Try.pinned (OpenSpec.ofChange midpointNamesSpec)

/-- ITS FALSE NEIGHBOUR: 'it returns false'. Refute it at one input. -/
def midpointNamesWrong : ChangeSpec := { name := "midpointNames", fn := fun _ => fun
  | [] => { results := [.lit (.bool false)], args := [] }
  | _ => none }
def MidpointNamesWrongFalsely : Prop := midpointNamesRow.holds Try.pinned (OpenSpec.ofChange midpointNamesWrong)

/-- 'vesperslaw14.MidpointWithin': WHATEVER THE INPUT: true; the input reads as it did. -/
def midpointWithinSpec : ChangeSpec := { name := "midpointWithin", fn := fun _ => fun
  | [d1, d2, d3, d4] => { results := [.lit (.bool true)], args := [d1, d2, d3, d4] }
  | _ => none }
def midpointWithinRow : OpenClaim := { program := "ytfpkbhnlpmnegaa", sum := "378e891fc4ab45f29425d54b6c759f1b0f78e267f7618cddaadd100f8b69dc3a", func := "vespers/vesperslaw14.MidpointWithin", spec := "midpointWithin", unfollowed := true, recurses := true, apart := false }
def MidpointWithinSaid : Prop := midpointWithinRow.holds Try.pinned (OpenSpec.ofChange midpointWithinSpec)

/-- ITS FALSE NEIGHBOUR: 'it returns false'. Refute it at one input. -/
def midpointWithinWrong : ChangeSpec := { name := "midpointWithin", fn := fun _ => fun
  | [d1, d2, d3, d4] => { results := [.lit (.bool false)], args := [d1, d2, d3, d4] }
  | _ => none }
def MidpointWithinWrongFalsely : Prop := midpointWithinRow.holds Try.pinned (OpenSpec.ofChange midpointWithinWrong)

/-- 'vesperslaw14.MidpointMoved': WHATEVER THE INPUT: true; the input reads as it did. -/
def midpointMovedSpec : ChangeSpec := { name := "midpointMoved", fn := fun _ => fun
  | [d1, d2, d3, d4] => { results := [.lit (.bool true)], args := [d1, d2, d3, d4] }
  | _ => none }
def midpointMovedRow : OpenClaim := { program := "ytfpkbhnlpmnegaa", sum := "378e891fc4ab45f29425d54b6c759f1b0f78e267f7618cddaadd100f8b69dc3a", func := "vespers/vesperslaw14.MidpointMoved", spec := "midpointMoved", unfollowed := true, recurses := true, apart := false }
def MidpointMovedSaid : Prop := midpointMovedRow.holds Try.pinned (OpenSpec.ofChange midpointMovedSpec)

/-- ITS FALSE NEIGHBOUR: 'it returns false'. Refute it at one input. -/
def midpointMovedWrong : ChangeSpec := { name := "midpointMoved", fn := fun _ => fun
  | [d1, d2, d3, d4] => { results := [.lit (.bool false)], args := [d1, d2, d3, d4] }
  | _ => none }
def MidpointMovedWrongFalsely : Prop := midpointMovedRow.holds Try.pinned (OpenSpec.ofChange midpointMovedWrong)

/-- 'vesperslaw14.MidpointTrimmed': WHATEVER THE INPUT: true; the input reads as it did. -/
def midpointTrimmedSpec : ChangeSpec := { name := "midpointTrimmed", fn := fun _ => fun
  | [d1, d2] => { results := [.lit (.bool true)], args := [d1, d2] }
  | _ => none }
def midpointTrimmedRow : OpenClaim := { program := "ytfpkbhnlpmnegaa", sum := "378e891fc4ab45f29425d54b6c759f1b0f78e267f7618cddaadd100f8b69dc3a", func := "vespers/vesperslaw14.MidpointTrimmed", spec := "midpointTrimmed", unfollowed := true, recurses := true, apart := false }
def MidpointTrimmedSaid : Prop := midpointTrimmedRow.holds Try.pinned (OpenSpec.ofChange midpointTrimmedSpec)

/-- ITS FALSE NEIGHBOUR: 'it returns false'. Refute it at one input. -/
def midpointTrimmedWrong : ChangeSpec := { name := "midpointTrimmed", fn := fun _ => fun
  | [d1, d2] => { results := [.lit (.bool false)], args := [d1, d2] }
  | _ => none }
def MidpointTrimmedWrongFalsely : Prop := midpointTrimmedRow.holds Try.pinned (OpenSpec.ofChange midpointTrimmedWrong)

/-- 'vesperslaw14.MidpointSpread': WHATEVER THE INPUT: true; the input reads as it did. -/
def midpointSpreadSpec : ChangeSpec := { name := "midpointSpread", fn := fun _ => fun
  | [d1, d2] => { results := [.lit (.bool true)], args := [d1, d2] }
  | _ => none }
def midpointSpreadRow : OpenClaim := { program := "ytfpkbhnlpmnegaa", sum := "378e891fc4ab45f29425d54b6c759f1b0f78e267f7618cddaadd100f8b69dc3a", func := "vespers/vesperslaw14.MidpointSpread", spec := "midpointSpread", unfollowed := true, recurses := true, apart := false }
def MidpointSpreadSaid : Prop := midpointSpreadRow.holds Try.pinned (OpenSpec.ofChange midpointSpreadSpec)

/-- ITS FALSE NEIGHBOUR: 'it returns false'. Refute it at one input. -/
def midpointSpreadWrong : ChangeSpec := { name := "midpointSpread", fn := fun _ => fun
  | [d1, d2] => { results := [.lit (.bool false)], args := [d1, d2] }
  | _ => none }
def MidpointSpreadWrongFalsely : Prop := midpointSpreadRow.holds Try.pinned (OpenSpec.ofChange midpointSpreadWrong)

/- THE SECOND FORM. 'bulk': how many values and letters a reading holds, each counted each time it is reached (what is shared counts as often as it is met; a slice's spare places count too). A statement '..UptoSaid' is the law's where the arguments, and the package variables that the reading takes, are together of bulk at most 1048576: NARROWER than '..Said'. Prove '..Said' where nothing that the law and all that it calls make is longer than what came in: it says more and counts as full. Else prove '..UptoSaid'. A law counts once. -/
mutual
def uptoBulk {H : Type} : DataW H → Nat
  | .lit (.string bytes) => bytes.length + 1
  | .lit _ => 1
  | .nil => 1
  | .ptr d => uptoBulk d + 1
  | .slice elems spare => uptoBulkAll elems + uptoBulkAll spare + 1
  | .agg parts => uptoBulkAll parts + 1
  | .iface _ d => uptoBulk d + 1
  | .map entries => uptoBulkEntries entries + 1
  | .held _ => 1
def uptoBulkAll {H : Type} : List (DataW H) → Nat
  | [] => 0
  | d :: r => uptoBulk d + uptoBulkAll r
def uptoBulkEntries {H : Type} : List (Lit × DataW H) → Nat
  | [] => 0
  | x :: r => uptoBulkEntry x + uptoBulkEntries r
def uptoBulkEntry {H : Type} : Lit × DataW H → Nat
  | (.string bytes, d) => bytes.length + uptoBulk d + 1
  | (_, d) => uptoBulk d + 1
 end
def uptoSmall : (H : Type) → List (DataW H) → Bool := fun _ ds => decide (uptoBulkAll ds ≤ 1048576)
def OpenSpec.upto (s : _root_.Go.ChangeSpec) : _root_.Go.OpenSpec := { _root_.Go.OpenSpec.ofChange s with cond := some uptoSmall }

/-- 'vesperslaw14.MidpointTrims', WHERE WHAT IT READS IS OF BULK AT MOST 1048576: true; the input reads as it did. -/
def midpointTrimsUptoRow : OpenClaim := { program := "ytfpkbhnlpmnegaa", sum := "378e891fc4ab45f29425d54b6c759f1b0f78e267f7618cddaadd100f8b69dc3a", func := "vespers/vesperslaw14.MidpointTrims", spec := "midpointTrims", unfollowed := true, recurses := true, apart := false, narrowed := true }
def MidpointTrimsUptoSaid : Prop := midpointTrimsUptoRow.holds Try.pinned (OpenSpec.upto midpointTrimsSpec)

/-- 'vesperslaw14.MidpointNames', WHERE WHAT IT READS IS OF BULK AT MOST 1048576: true; the input reads as it did. -/
def midpointNamesUptoRow : OpenClaim := { program := "ytfpkbhnlpmnegaa", sum := "378e891fc4ab45f29425d54b6c759f1b0f78e267f7618cddaadd100f8b69dc3a", func := "vespers/vesperslaw14.MidpointNames", spec := "midpointNames", unfollowed := true, recurses := true, apart := false, narrowed := true }
def MidpointNamesUptoSaid : Prop := midpointNamesUptoRow.holds Try.pinned (OpenSpec.upto midpointNamesSpec)

/-- 'vesperslaw14.MidpointWithin', WHERE WHAT IT READS IS OF BULK AT MOST 1048576: true; the input reads as it did. -/
def midpointWithinUptoRow : OpenClaim := { program := "ytfpkbhnlpmnegaa", sum := "378e891fc4ab45f29425d54b6c759f1b0f78e267f7618cddaadd100f8b69dc3a", func := "vespers/vesperslaw14.MidpointWithin", spec := "midpointWithin", unfollowed := true, recurses := true, apart := false, narrowed := true }
def MidpointWithinUptoSaid : Prop := midpointWithinUptoRow.holds Try.pinned (OpenSpec.upto midpointWithinSpec)

/-- 'vesperslaw14.MidpointMoved', WHERE WHAT IT READS IS OF BULK AT MOST 1048576: true; the input reads as it did. -/
def midpointMovedUptoRow : OpenClaim := { program := "ytfpkbhnlpmnegaa", sum := "378e891fc4ab45f29425d54b6c759f1b0f78e267f7618cddaadd100f8b69dc3a", func := "vespers/vesperslaw14.MidpointMoved", spec := "midpointMoved", unfollowed := true, recurses := true, apart := false, narrowed := true }
def MidpointMovedUptoSaid : Prop := midpointMovedUptoRow.holds Try.pinned (OpenSpec.upto midpointMovedSpec)

/-- 'vesperslaw14.MidpointTrimmed', WHERE WHAT IT READS IS OF BULK AT MOST 1048576: true; the input reads as it did. -/
def midpointTrimmedUptoRow : OpenClaim := { program := "ytfpkbhnlpmnegaa", sum := "378e891fc4ab45f29425d54b6c759f1b0f78e267f7618cddaadd100f8b69dc3a", func := "vespers/vesperslaw14.MidpointTrimmed", spec := "midpointTrimmed", unfollowed := true, recurses := true, apart := false, narrowed := true }
def MidpointTrimmedUptoSaid : Prop := midpointTrimmedUptoRow.holds Try.pinned (OpenSpec.upto midpointTrimmedSpec)

/-- 'vesperslaw14.MidpointSpread', WHERE WHAT IT READS IS OF BULK AT MOST 1048576: true; the input reads as it did. -/
def midpointSpreadUptoRow : OpenClaim := { program := "ytfpkbhnlpmnegaa", sum := "378e891fc4ab45f29425d54b6c759f1b0f78e267f7618cddaadd100f8b69dc3a", func := "vespers/vesperslaw14.MidpointSpread", spec := "midpointSpread", unfollowed := true, recurses := true, apart := false, narrowed := true }
def MidpointSpreadUptoSaid : Prop := midpointSpreadUptoRow.holds Try.pinned (OpenSpec.upto midpointSpreadSpec)

end Rows
end Go.Proofs.Ytfpkbhnlpmnegaa
