/-
  No cell of these rows narrows 'for every input' (looked for: loops, veiled, ifaces, maps, wideKeys, modest, calm, conditions, laid).
  DERIVED. THE GIVEN ROWS OF THIS SEAT. 7 by the template 'for every input the law returns true; each argument reads behind the call as it read before'; 0 by the template 'total and deterministic' (their statements: YtljcaigaofalbaaTotals.lean).
  GIVEN WITH THE SEED: the statements are not yours to turn. If you find one false, say at which input.
  Laid BY PROGRAM, IN A SANDBOX (cutbox-rows.mjs): the forced cells as the released guide's own fill.sh prints them over the translation 74ca4335a9bbed0f… (all of the seat's roots in one cut). By AI agents, Wed Nov 11 2026. No macro, syntax, notation, axiom, sorry.
-/
import Derived.Test.YtljcaigaofalbaaChecked
import GoSem.Claim
import GoSem.ClaimJoined
import GoSem.ClaimMapViews
import Derived.JoinedTies
import Derived.KernelRfl
namespace Go.Proofs.Ytljcaigaofalbaa
/- THE CELL 'sum', in the pinned program and in every row, IS THE sha256 OF THE DUMP (.gsa) THAT YtljcaigaofalbaaProg.lean LOADS. Nothing in Lean hashes anything: it is a label: what it is worth is what the hold of that sum in a sandbox is worth. -/
noncomputable def Try.pinned : Pinned := { name := "ytljcaigaofalbaa", sum := "74ca4335a9bbed0f5e619e21a230b93693beb368f0080d82906bf9d9dfb333c1", checked := Try.checked }
namespace Rows
def none {H : Type} : Left H := { results := [], args := [] }

/-- 'vesperslaw11.ScriptForms': WHATEVER THE INPUT: true; the input reads as it did. -/
def scriptFormsSpec : ChangeSpec := { name := "scriptForms", fn := fun _ => fun
  | [d1, d2, d3] => { results := [.lit (.bool true)], args := [d1, d2, d3] }
  | _ => none }
def scriptFormsRow : OpenClaim := { program := "ytljcaigaofalbaa", sum := "74ca4335a9bbed0f5e619e21a230b93693beb368f0080d82906bf9d9dfb333c1", func := "vespers/vesperslaw11.ScriptForms", spec := "scriptForms", unfollowed := true, recurses := true, apart := false }
def ScriptFormsSaid : Prop := scriptFormsRow.holds Try.pinned (OpenSpec.ofChange scriptFormsSpec)

/-- ITS FALSE NEIGHBOUR: 'it returns false'. Refute it at one input. -/
def scriptFormsWrong : ChangeSpec := { name := "scriptForms", fn := fun _ => fun
  | [d1, d2, d3] => { results := [.lit (.bool false)], args := [d1, d2, d3] }
  | _ => none }
def ScriptFormsWrongFalsely : Prop := scriptFormsRow.holds Try.pinned (OpenSpec.ofChange scriptFormsWrong)

/-- 'vesperslaw11.ScriptFrames': WHATEVER THE INPUT: true; the input reads as it did. -/
def scriptFramesSpec : ChangeSpec := { name := "scriptFrames", fn := fun _ => fun
  | [d1, d2, d3, d4, d5, d6, d7] => { results := [.lit (.bool true)], args := [d1, d2, d3, d4, d5, d6, d7] }
  | _ => none }
def scriptFramesRow : OpenClaim := { program := "ytljcaigaofalbaa", sum := "74ca4335a9bbed0f5e619e21a230b93693beb368f0080d82906bf9d9dfb333c1", func := "vespers/vesperslaw11.ScriptFrames", spec := "scriptFrames", unfollowed := true, recurses := true, apart := false }
def ScriptFramesSaid : Prop := scriptFramesRow.holds Try.pinned (OpenSpec.ofChange scriptFramesSpec)

/-- ITS FALSE NEIGHBOUR: 'it returns false'. Refute it at one input. -/
def scriptFramesWrong : ChangeSpec := { name := "scriptFrames", fn := fun _ => fun
  | [d1, d2, d3, d4, d5, d6, d7] => { results := [.lit (.bool false)], args := [d1, d2, d3, d4, d5, d6, d7] }
  | _ => none }
def ScriptFramesWrongFalsely : Prop := scriptFramesRow.holds Try.pinned (OpenSpec.ofChange scriptFramesWrong)

/-- 'vesperslaw11.ScriptNames': WHATEVER THE INPUT: true; the input reads as it did. -/
def scriptNamesSpec : ChangeSpec := { name := "scriptNames", fn := fun _ => fun
  | [] => { results := [.lit (.bool true)], args := [] }
  | _ => none }
def scriptNamesRow : OpenClaim := { program := "ytljcaigaofalbaa", sum := "74ca4335a9bbed0f5e619e21a230b93693beb368f0080d82906bf9d9dfb333c1", func := "vespers/vesperslaw11.ScriptNames", spec := "scriptNames", unfollowed := true, recurses := true, apart := false }
def ScriptNamesSaid : Prop := scriptNamesRow.holds Try.pinned (OpenSpec.ofChange scriptNamesSpec)

/-- ITS FALSE NEIGHBOUR: 'it returns false'. Refute it at one input. -/
def scriptNamesWrong : ChangeSpec := { name := "scriptNames", fn := fun _ => fun
  | [] => { results := [.lit (.bool false)], args := [] }
  | _ => none }
def ScriptNamesWrongFalsely : Prop := scriptNamesRow.holds Try.pinned (OpenSpec.ofChange scriptNamesWrong)

/-- 'vesperslaw11.ScriptBack': WHATEVER THE INPUT: true; the input reads as it did. -/
def scriptBackSpec : ChangeSpec := { name := "scriptBack", fn := fun _ => fun
  | [d1, d2, d3] => { results := [.lit (.bool true)], args := [d1, d2, d3] }
  | _ => none }
def scriptBackRow : OpenClaim := { program := "ytljcaigaofalbaa", sum := "74ca4335a9bbed0f5e619e21a230b93693beb368f0080d82906bf9d9dfb333c1", func := "vespers/vesperslaw11.ScriptBack", spec := "scriptBack", unfollowed := true, recurses := true, apart := false }
def ScriptBackSaid : Prop := scriptBackRow.holds Try.pinned (OpenSpec.ofChange scriptBackSpec)

/-- ITS FALSE NEIGHBOUR: 'it returns false'. Refute it at one input. -/
def scriptBackWrong : ChangeSpec := { name := "scriptBack", fn := fun _ => fun
  | [d1, d2, d3] => { results := [.lit (.bool false)], args := [d1, d2, d3] }
  | _ => none }
def ScriptBackWrongFalsely : Prop := scriptBackRow.holds Try.pinned (OpenSpec.ofChange scriptBackWrong)

/-- 'vesperslaw11.ScriptDelays': WHATEVER THE INPUT: true; the input reads as it did. -/
def scriptDelaysSpec : ChangeSpec := { name := "scriptDelays", fn := fun _ => fun
  | [d1, d2, d3, d4, d5, d6] => { results := [.lit (.bool true)], args := [d1, d2, d3, d4, d5, d6] }
  | _ => none }
def scriptDelaysRow : OpenClaim := { program := "ytljcaigaofalbaa", sum := "74ca4335a9bbed0f5e619e21a230b93693beb368f0080d82906bf9d9dfb333c1", func := "vespers/vesperslaw11.ScriptDelays", spec := "scriptDelays", unfollowed := true, recurses := true, apart := false }
def ScriptDelaysSaid : Prop := scriptDelaysRow.holds Try.pinned (OpenSpec.ofChange scriptDelaysSpec)

/-- ITS FALSE NEIGHBOUR: 'it returns false'. Refute it at one input. -/
def scriptDelaysWrong : ChangeSpec := { name := "scriptDelays", fn := fun _ => fun
  | [d1, d2, d3, d4, d5, d6] => { results := [.lit (.bool false)], args := [d1, d2, d3, d4, d5, d6] }
  | _ => none }
def ScriptDelaysWrongFalsely : Prop := scriptDelaysRow.holds Try.pinned (OpenSpec.ofChange scriptDelaysWrong)

/-- 'vesperslaw11.ScriptHead': WHATEVER THE INPUT: true; the input reads as it did. -/
def scriptHeadSpec : ChangeSpec := { name := "scriptHead", fn := fun _ => fun
  | [d1, d2, d3] => { results := [.lit (.bool true)], args := [d1, d2, d3] }
  | _ => none }
def scriptHeadRow : OpenClaim := { program := "ytljcaigaofalbaa", sum := "74ca4335a9bbed0f5e619e21a230b93693beb368f0080d82906bf9d9dfb333c1", func := "vespers/vesperslaw11.ScriptHead", spec := "scriptHead", unfollowed := true, recurses := true, apart := false }
def ScriptHeadSaid : Prop := scriptHeadRow.holds Try.pinned (OpenSpec.ofChange scriptHeadSpec)

/-- ITS FALSE NEIGHBOUR: 'it returns false'. Refute it at one input. -/
def scriptHeadWrong : ChangeSpec := { name := "scriptHead", fn := fun _ => fun
  | [d1, d2, d3] => { results := [.lit (.bool false)], args := [d1, d2, d3] }
  | _ => none }
def ScriptHeadWrongFalsely : Prop := scriptHeadRow.holds Try.pinned (OpenSpec.ofChange scriptHeadWrong)

/-- 'vesperslaw11.ScriptSame': WHATEVER THE INPUT: true; the input reads as it did. -/
def scriptSameSpec : ChangeSpec := { name := "scriptSame", fn := fun _ => fun
  | [d1, d2, d3] => { results := [.lit (.bool true)], args := [d1, d2, d3] }
  | _ => none }
def scriptSameRow : OpenClaim := { program := "ytljcaigaofalbaa", sum := "74ca4335a9bbed0f5e619e21a230b93693beb368f0080d82906bf9d9dfb333c1", func := "vespers/vesperslaw11.ScriptSame", spec := "scriptSame", unfollowed := true, recurses := true, apart := false }
def ScriptSameSaid : Prop := scriptSameRow.holds Try.pinned (OpenSpec.ofChange scriptSameSpec)

/-- ITS FALSE NEIGHBOUR: 'it returns false'. Refute it at one input. -/
def scriptSameWrong : ChangeSpec := { name := "scriptSame", fn := fun _ => fun
  | [d1, d2, d3] => { results := [.lit (.bool false)], args := [d1, d2, d3] }
  | _ => none }
def ScriptSameWrongFalsely : Prop := scriptSameRow.holds Try.pinned (OpenSpec.ofChange scriptSameWrong)

/- THE SECOND FORM. 'bulk': how many values and letters a reading holds, each counted each time it is reached (what is shared counts as often as it is met; a slice's spare places count too). A statement '..UptoSaid' is the law's where the arguments, and the package variables that the reading takes, are together of bulk at most 1048576: NARROWER than '..Said'. Prove '..Said' where nothing that the law and all that it calls make is longer than what came in: it says more and counts as full. Else prove '..UptoSaid'. A law counts once. -/
mutual
def uptoBulk {H : Type} : DataW H → Nat
  | .lit (.string bytes) => bytes.length + 1
  | .lit _ => 1
  | .nil => 1
  | .ptr d => uptoBulk d + 1
  | .slice elems spare => uptoBulkAll elems + uptoBulkAll spare + 1
  | .agg parts => uptoBulkAll parts + 1
  | .iface _ d => uptoBulk d + 1
  | .map entries => uptoBulkEntries entries + 1
  | .held _ => 1
def uptoBulkAll {H : Type} : List (DataW H) → Nat
  | [] => 0
  | d :: r => uptoBulk d + uptoBulkAll r
def uptoBulkEntries {H : Type} : List (Lit × DataW H) → Nat
  | [] => 0
  | x :: r => uptoBulkEntry x + uptoBulkEntries r
def uptoBulkEntry {H : Type} : Lit × DataW H → Nat
  | (.string bytes, d) => bytes.length + uptoBulk d + 1
  | (_, d) => uptoBulk d + 1
 end
def uptoSmall : (H : Type) → List (DataW H) → Bool := fun _ ds => decide (uptoBulkAll ds ≤ 1048576)
def OpenSpec.upto (s : _root_.Go.ChangeSpec) : _root_.Go.OpenSpec := { _root_.Go.OpenSpec.ofChange s with cond := some uptoSmall }

/-- 'vesperslaw11.ScriptForms', WHERE WHAT IT READS IS OF BULK AT MOST 1048576: true; the input reads as it did. -/
def scriptFormsUptoRow : OpenClaim := { program := "ytljcaigaofalbaa", sum := "74ca4335a9bbed0f5e619e21a230b93693beb368f0080d82906bf9d9dfb333c1", func := "vespers/vesperslaw11.ScriptForms", spec := "scriptForms", unfollowed := true, recurses := true, apart := false, narrowed := true }
def ScriptFormsUptoSaid : Prop := scriptFormsUptoRow.holds Try.pinned (OpenSpec.upto scriptFormsSpec)

/-- 'vesperslaw11.ScriptFrames', WHERE WHAT IT READS IS OF BULK AT MOST 1048576: true; the input reads as it did. -/
def scriptFramesUptoRow : OpenClaim := { program := "ytljcaigaofalbaa", sum := "74ca4335a9bbed0f5e619e21a230b93693beb368f0080d82906bf9d9dfb333c1", func := "vespers/vesperslaw11.ScriptFrames", spec := "scriptFrames", unfollowed := true, recurses := true, apart := false, narrowed := true }
def ScriptFramesUptoSaid : Prop := scriptFramesUptoRow.holds Try.pinned (OpenSpec.upto scriptFramesSpec)

/-- 'vesperslaw11.ScriptNames', WHERE WHAT IT READS IS OF BULK AT MOST 1048576: true; the input reads as it did. -/
def scriptNamesUptoRow : OpenClaim := { program := "ytljcaigaofalbaa", sum := "74ca4335a9bbed0f5e619e21a230b93693beb368f0080d82906bf9d9dfb333c1", func := "vespers/vesperslaw11.ScriptNames", spec := "scriptNames", unfollowed := true, recurses := true, apart := false, narrowed := true }
def ScriptNamesUptoSaid : Prop := scriptNamesUptoRow.holds Try.pinned (OpenSpec.upto scriptNamesSpec)

/-- 'vesperslaw11.ScriptBack', WHERE WHAT IT READS IS OF BULK AT MOST 1048576: true; the input reads as it did. -/
def scriptBackUptoRow : OpenClaim := { program := "ytljcaigaofalbaa", sum := "74ca4335a9bbed0f5e619e21a230b93693beb368f0080d82906bf9d9dfb333c1", func := "vespers/vesperslaw11.ScriptBack", spec := "scriptBack", unfollowed := true, recurses := true, apart := false, narrowed := true }
def ScriptBackUptoSaid : Prop := scriptBackUptoRow.holds Try.pinned (OpenSpec.upto scriptBackSpec)

/-- 'vesperslaw11.ScriptDelays', WHERE WHAT IT READS IS OF BULK AT MOST 1048576: true; the input reads as it did. -/
def scriptDelaysUptoRow : OpenClaim := { program := "ytljcaigaofalbaa", sum := "74ca4335a9bbed0f5e619e21a230b93693beb368f0080d82906bf9d9dfb333c1", func := "vespers/vesperslaw11.ScriptDelays", spec := "scriptDelays", unfollowed := true, recurses := true, apart := false, narrowed := true }
def ScriptDelaysUptoSaid : Prop := scriptDelaysUptoRow.holds Try.pinned (OpenSpec.upto scriptDelaysSpec)

/-- 'vesperslaw11.ScriptHead', WHERE WHAT IT READS IS OF BULK AT MOST 1048576: true; the input reads as it did. -/
def scriptHeadUptoRow : OpenClaim := { program := "ytljcaigaofalbaa", sum := "74ca4335a9bbed0f5e619e21a230b93693beb368f0080d82906bf9d9dfb333c1", func := "vespers/vesperslaw11.ScriptHead", spec := "scriptHead", unfollowed := true, recurses := true, apart := false, narrowed := true }
def ScriptHeadUptoSaid : Prop := scriptHeadUptoRow.holds Try.pinned (OpenSpec.upto scriptHeadSpec)

/-- 'vesperslaw11.ScriptSame', WHERE WHAT IT READS IS OF BULK AT MOST 1048576: true; the input reads as it did. -/
def scriptSameUptoRow : OpenClaim := { program := "ytljcaigaofalbaa", sum := "74ca4335a9bbed0f5e619e21a230b93693beb368f0080d82906bf9d9dfb333c1", func := "vespers/vesperslaw11.ScriptSame", spec := "scriptSame", unfollowed := true, recurses := true, apart := false, narrowed := true }
def ScriptSameUptoSaid : Prop := scriptSameUptoRow.holds Try.pinned (OpenSpec.upto scriptSameSpec)

end Rows
end Go.Proofs.Ytljcaigaofalbaa
