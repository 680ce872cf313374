/-
  No cell of these rows narrows 'for every input' (looked for: loops, veiled, ifaces, maps, wideKeys, modest, calm, conditions, laid).
  DERIVED. THE GIVEN ROWS OF THIS SEAT. 4 by the template 'for every input the law returns true; each argument reads behind the call as it read before'; 0 by the template 'total and deterministic' (their statements: YteljalgfkmnamaaTotals.lean).
  GIVEN WITH THE SEED: the statements are not yours to turn. If you find one false, say at which input.
  Laid BY PROGRAM, IN A SANDBOX (cutbox-rows.mjs): the forced cells as the released guide's own fill.sh prints them over the translation 467db52cb8b17ca9… (all of the seat's roots in one cut). By AI agents, Wed Nov 11 2026. No macro, syntax, notation, axiom, sorry.
-/
import Derived.Test.YteljalgfkmnamaaChecked
import GoSem.Claim
import GoSem.ClaimJoined
import GoSem.ClaimMapViews
import Derived.JoinedTies
import Derived.KernelRfl
namespace Go.Proofs.Yteljalgfkmnamaa
/- THE CELL 'sum', in the pinned program and in every row, IS THE sha256 OF THE DUMP (.gsa) THAT YteljalgfkmnamaaProg.lean LOADS. Nothing in Lean hashes anything: it is a label: what it is worth is what the hold of that sum in a sandbox is worth. -/
noncomputable def Try.pinned : Pinned := { name := "yteljalgfkmnamaa", sum := "467db52cb8b17ca9900dc45115878c079057e6bc423e12a35ae42f54fc956ae7", checked := Try.checked }
namespace Rows
def none {H : Type} : Left H := { results := [], args := [] }

/-- 'vesperslaw15.ResyncTurns': WHATEVER THE INPUT: true; the input reads as it did. -/
def resyncTurnsSpec : ChangeSpec := { name := "resyncTurns", fn := fun _ => fun
  | [d1, d2, d3, d4, d5] => { results := [.lit (.bool true)], args := [d1, d2, d3, d4, d5] }
  | _ => none }
def resyncTurnsRow : OpenClaim := { program := "yteljalgfkmnamaa", sum := "467db52cb8b17ca9900dc45115878c079057e6bc423e12a35ae42f54fc956ae7", func := "vespers/vesperslaw15.ResyncTurns", spec := "resyncTurns", unfollowed := true, recurses := true, apart := false }
def ResyncTurnsSaid : Prop := resyncTurnsRow.holds Try.pinned (OpenSpec.ofChange resyncTurnsSpec)

/-- ITS FALSE NEIGHBOUR: 'it returns false'. Refute it at one input. -/
def resyncTurnsWrong : ChangeSpec := { name := "resyncTurns", fn := fun _ => fun
  | [d1, d2, d3, d4, d5] => { results := [.lit (.bool false)], args := [d1, d2, d3, d4, d5] }
  | _ => none }
def ResyncTurnsWrongFalsely : Prop := resyncTurnsRow.holds Try.pinned (OpenSpec.ofChange resyncTurnsWrong)

/-- 'vesperslaw15.ResyncNames': WHATEVER THE INPUT: true; the input reads as it did. -/
def resyncNamesSpec : ChangeSpec := { name := "resyncNames", fn := fun _ => fun
  | [] => { results := [.lit (.bool true)], args := [] }
  | _ => none }
def resyncNamesRow : OpenClaim := { program := "yteljalgfkmnamaa", sum := "467db52cb8b17ca9900dc45115878c079057e6bc423e12a35ae42f54fc956ae7", func := "vespers/vesperslaw15.ResyncNames", spec := "resyncNames", unfollowed := true, recurses := true, apart := false }
def ResyncNamesSaid : Prop := resyncNamesRow.holds Try.pinned (OpenSpec.ofChange resyncNamesSpec)

/-- ITS FALSE NEIGHBOUR: 'it returns false'. Refute it at one input. -/
def resyncNamesWrong : ChangeSpec := { name := "resyncNames", fn := fun _ => fun
  | [] => { results := [.lit (.bool false)], args := [] }
  | _ => none }
def ResyncNamesWrongFalsely : Prop := resyncNamesRow.holds Try.pinned (OpenSpec.ofChange resyncNamesWrong)

/-- 'vesperslaw15.ResyncTogether': WHATEVER THE INPUT: true; the input reads as it did. -/
def resyncTogetherSpec : ChangeSpec := { name := "resyncTogether", fn := fun _ => fun
  | [d1, d2, d3, d4] => { results := [.lit (.bool true)], args := [d1, d2, d3, d4] }
  | _ => none }
def resyncTogetherRow : OpenClaim := { program := "yteljalgfkmnamaa", sum := "467db52cb8b17ca9900dc45115878c079057e6bc423e12a35ae42f54fc956ae7", func := "vespers/vesperslaw15.ResyncTogether", spec := "resyncTogether", unfollowed := true, recurses := true, apart := false }
def ResyncTogetherSaid : Prop := resyncTogetherRow.holds Try.pinned (OpenSpec.ofChange resyncTogetherSpec)

/-- ITS FALSE NEIGHBOUR: 'it returns false'. Refute it at one input. -/
def resyncTogetherWrong : ChangeSpec := { name := "resyncTogether", fn := fun _ => fun
  | [d1, d2, d3, d4] => { results := [.lit (.bool false)], args := [d1, d2, d3, d4] }
  | _ => none }
def ResyncTogetherWrongFalsely : Prop := resyncTogetherRow.holds Try.pinned (OpenSpec.ofChange resyncTogetherWrong)

/-- 'vesperslaw15.ResyncLimits': WHATEVER THE INPUT: true; the input reads as it did. -/
def resyncLimitsSpec : ChangeSpec := { name := "resyncLimits", fn := fun _ => fun
  | [d1, d2, d3] => { results := [.lit (.bool true)], args := [d1, d2, d3] }
  | _ => none }
def resyncLimitsRow : OpenClaim := { program := "yteljalgfkmnamaa", sum := "467db52cb8b17ca9900dc45115878c079057e6bc423e12a35ae42f54fc956ae7", func := "vespers/vesperslaw15.ResyncLimits", spec := "resyncLimits", unfollowed := true, recurses := true, apart := false }
def ResyncLimitsSaid : Prop := resyncLimitsRow.holds Try.pinned (OpenSpec.ofChange resyncLimitsSpec)

/-- ITS FALSE NEIGHBOUR: 'it returns false'. Refute it at one input. -/
def resyncLimitsWrong : ChangeSpec := { name := "resyncLimits", fn := fun _ => fun
  | [d1, d2, d3] => { results := [.lit (.bool false)], args := [d1, d2, d3] }
  | _ => none }
def ResyncLimitsWrongFalsely : Prop := resyncLimitsRow.holds Try.pinned (OpenSpec.ofChange resyncLimitsWrong)

/- THE SECOND FORM. 'bulk': how many values and letters a reading holds, each counted each time it is reached (what is shared counts as often as it is met; a slice's spare places count too). A statement '..UptoSaid' is the law's where the arguments, and the package variables that the reading takes, are together of bulk at most 1048576: NARROWER than '..Said'. Prove '..Said' where nothing that the law and all that it calls make is longer than what came in: it says more and counts as full. Else prove '..UptoSaid'. A law counts once. -/
mutual
def uptoBulk {H : Type} : DataW H → Nat
  | .lit (.string bytes) => bytes.length + 1
  | .lit _ => 1
  | .nil => 1
  | .ptr d => uptoBulk d + 1
  | .slice elems spare => uptoBulkAll elems + uptoBulkAll spare + 1
  | .agg parts => uptoBulkAll parts + 1
  | .iface _ d => uptoBulk d + 1
  | .map entries => uptoBulkEntries entries + 1
  | .held _ => 1
def uptoBulkAll {H : Type} : List (DataW H) → Nat
  | [] => 0
  | d :: r => uptoBulk d + uptoBulkAll r
def uptoBulkEntries {H : Type} : List (Lit × DataW H) → Nat
  | [] => 0
  | x :: r => uptoBulkEntry x + uptoBulkEntries r
def uptoBulkEntry {H : Type} : Lit × DataW H → Nat
  | (.string bytes, d) => bytes.length + uptoBulk d + 1
  | (_, d) => uptoBulk d + 1
 end
def uptoSmall : (H : Type) → List (DataW H) → Bool := fun _ ds => decide (uptoBulkAll ds ≤ 1048576)
def OpenSpec.upto (s : _root_.Go.ChangeSpec) : _root_.Go.OpenSpec := { _root_.Go.OpenSpec.ofChange s with cond := some uptoSmall }

/-- 'vesperslaw15.ResyncTurns', WHERE WHAT IT READS IS OF BULK AT MOST 1048576: true; the input reads as it did. -/
def resyncTurnsUptoRow : OpenClaim := { program := "yteljalgfkmnamaa", sum := "467db52cb8b17ca9900dc45115878c079057e6bc423e12a35ae42f54fc956ae7", func := "vespers/vesperslaw15.ResyncTurns", spec := "resyncTurns", unfollowed := true, recurses := true, apart := false, narrowed := true }
def ResyncTurnsUptoSaid : Prop := resyncTurnsUptoRow.holds Try.pinned (OpenSpec.upto resyncTurnsSpec)

/-- 'vesperslaw15.ResyncNames', WHERE WHAT IT READS IS OF BULK AT MOST 1048576: true; the input reads as it did. -/
def resyncNamesUptoRow : OpenClaim := { program := "yteljalgfkmnamaa", sum := "467db52cb8b17ca9900dc45115878c079057e6bc423e12a35ae42f54fc956ae7", func := "vespers/vesperslaw15.ResyncNames", spec := "resyncNames", unfollowed := true, recurses := true, apart := false, narrowed := true }
def ResyncNamesUptoSaid : Prop := resyncNamesUptoRow.holds Try.pinned (OpenSpec.upto resyncNamesSpec)

/-- 'vesperslaw15.ResyncTogether', WHERE WHAT IT READS IS OF BULK AT MOST 1048576: true; the input reads as it did. -/
def resyncTogetherUptoRow : OpenClaim := { program := "yteljalgfkmnamaa", sum := "467db52cb8b17ca9900dc45115878c079057e6bc423e12a35ae42f54fc956ae7", func := "vespers/vesperslaw15.ResyncTogether", spec := "resyncTogether", unfollowed := true, recurses := true, apart := false, narrowed := true }
def ResyncTogetherUptoSaid : Prop := resyncTogetherUptoRow.holds Try.pinned (OpenSpec.upto resyncTogetherSpec)

/-- 'vesperslaw15.ResyncLimits', WHERE WHAT IT READS IS OF BULK AT MOST 1048576: true; the input reads as it did. -/
def resyncLimitsUptoRow : OpenClaim := { program := "yteljalgfkmnamaa", sum := "467db52cb8b17ca9900dc45115878c079057e6bc423e12a35ae42f54fc956ae7", func := "vespers/vesperslaw15.ResyncLimits", spec := "resyncLimits", unfollowed := true, recurses := true, apart := false, narrowed := true }
def ResyncLimitsUptoSaid : Prop := resyncLimitsUptoRow.holds Try.pinned (OpenSpec.upto resyncLimitsSpec)

end Rows
end Go.Proofs.Yteljalgfkmnamaa
