/-
  No cell of these rows narrows 'for every input' (looked for: loops, veiled, ifaces, maps, wideKeys, modest, calm, conditions, laid).
  DERIVED. THE GIVEN ROWS OF THIS SEAT. 8 by the template 'for every input the law returns true; each argument reads behind the call as it read before'; 0 by the template 'total and deterministic' (their statements: YtnefjkbnolbpbaaTotals.lean).
  GIVEN WITH THE SEED: the statements are not yours to turn. If you find one false, say at which input.
  Laid BY PROGRAM, IN A SANDBOX (cutbox-rows.mjs): the forced cells as the released guide's own fill.sh prints them over the translation d87a7e914600edb8… (all of the seat's roots in one cut). By AI agents, Wed Nov 11 2026. No macro, syntax, notation, axiom, sorry.
-/
import Derived.Test.YtnefjkbnolbpbaaChecked
import GoSem.Claim
import GoSem.ClaimJoined
import GoSem.ClaimMapViews
import Derived.JoinedTies
import Derived.KernelRfl
namespace Go.Proofs.Ytnefjkbnolbpbaa
/- THE CELL 'sum', in the pinned program and in every row, IS THE sha256 OF THE DUMP (.gsa) THAT YtnefjkbnolbpbaaProg.lean LOADS. Nothing in Lean hashes anything: it is a label: what it is worth is what the hold of that sum in a sandbox is worth. -/
noncomputable def Try.pinned : Pinned := { name := "ytnefjkbnolbpbaa", sum := "d87a7e914600edb87197f5b319bad619d1666f2aa95ff4027efe4d7a110b4758", checked := Try.checked }
namespace Rows
def none {H : Type} : Left H := { results := [], args := [] }

/-- 'vesperslaw03.GroupAsks': WHATEVER THE INPUT: true; the input reads as it did. -/
def groupAsksSpec : ChangeSpec := { name := "groupAsks", fn := fun _ => fun
  | [d1, d2, d3] => { results := [.lit (.bool true)], args := [d1, d2, d3] }
  | _ => none }
def groupAsksRow : OpenClaim := { program := "ytnefjkbnolbpbaa", sum := "d87a7e914600edb87197f5b319bad619d1666f2aa95ff4027efe4d7a110b4758", func := "vespers/vesperslaw03.GroupAsks", spec := "groupAsks", unfollowed := true, recurses := true, apart := false }
def GroupAsksSaid : Prop := groupAsksRow.holds Try.pinned (OpenSpec.ofChange groupAsksSpec)

/-- ITS FALSE NEIGHBOUR: 'it returns false'. Refute it at one input. -/
def groupAsksWrong : ChangeSpec := { name := "groupAsks", fn := fun _ => fun
  | [d1, d2, d3] => { results := [.lit (.bool false)], args := [d1, d2, d3] }
  | _ => none }
def GroupAsksWrongFalsely : Prop := groupAsksRow.holds Try.pinned (OpenSpec.ofChange groupAsksWrong)

/-- 'vesperslaw03.GroupForms': WHATEVER THE INPUT: true; the input reads as it did. -/
def groupFormsSpec : ChangeSpec := { name := "groupForms", fn := fun _ => fun
  | [d1, d2, d3] => { results := [.lit (.bool true)], args := [d1, d2, d3] }
  | _ => none }
def groupFormsRow : OpenClaim := { program := "ytnefjkbnolbpbaa", sum := "d87a7e914600edb87197f5b319bad619d1666f2aa95ff4027efe4d7a110b4758", func := "vespers/vesperslaw03.GroupForms", spec := "groupForms", inPlace := ["internal/bytealg.IndexByteString", "internal/bytealg.IndexString"], unfollowed := true, recurses := true, named := ["internal/bytealg.MaxLen"], apart := false }
def GroupFormsSaid : Prop := groupFormsRow.holds Try.pinned (OpenSpec.ofChange groupFormsSpec)

/-- ITS FALSE NEIGHBOUR: 'it returns false'. Refute it at one input. -/
def groupFormsWrong : ChangeSpec := { name := "groupForms", fn := fun _ => fun
  | [d1, d2, d3] => { results := [.lit (.bool false)], args := [d1, d2, d3] }
  | _ => none }
def GroupFormsWrongFalsely : Prop := groupFormsRow.holds Try.pinned (OpenSpec.ofChange groupFormsWrong)

/-- 'vesperslaw03.GroupNames': WHATEVER THE INPUT: true; the input reads as it did. -/
def groupNamesSpec : ChangeSpec := { name := "groupNames", fn := fun _ => fun
  | [] => { results := [.lit (.bool true)], args := [] }
  | _ => none }
def groupNamesRow : OpenClaim := { program := "ytnefjkbnolbpbaa", sum := "d87a7e914600edb87197f5b319bad619d1666f2aa95ff4027efe4d7a110b4758", func := "vespers/vesperslaw03.GroupNames", spec := "groupNames", inPlace := ["internal/bytealg.IndexByteString", "internal/bytealg.IndexString"], unfollowed := true, recurses := true, named := ["internal/bytealg.MaxLen"], apart := false }
def GroupNamesSaid : Prop := groupNamesRow.holds Try.pinned (OpenSpec.ofChange groupNamesSpec)

/-- ITS FALSE NEIGHBOUR: 'it returns false'. Refute it at one input. -/
def groupNamesWrong : ChangeSpec := { name := "groupNames", fn := fun _ => fun
  | [] => { results := [.lit (.bool false)], args := [] }
  | _ => none }
def GroupNamesWrongFalsely : Prop := groupNamesRow.holds Try.pinned (OpenSpec.ofChange groupNamesWrong)

/-- 'vesperslaw03.GroupRound': WHATEVER THE INPUT: true; the input reads as it did. -/
def groupRoundSpec : ChangeSpec := { name := "groupRound", fn := fun _ => fun
  | [d1, d2] => { results := [.lit (.bool true)], args := [d1, d2] }
  | _ => none }
def groupRoundRow : OpenClaim := { program := "ytnefjkbnolbpbaa", sum := "d87a7e914600edb87197f5b319bad619d1666f2aa95ff4027efe4d7a110b4758", func := "vespers/vesperslaw03.GroupRound", spec := "groupRound", unfollowed := true, recurses := true, apart := false }
def GroupRoundSaid : Prop := groupRoundRow.holds Try.pinned (OpenSpec.ofChange groupRoundSpec)

/-- ITS FALSE NEIGHBOUR: 'it returns false'. Refute it at one input. -/
def groupRoundWrong : ChangeSpec := { name := "groupRound", fn := fun _ => fun
  | [d1, d2] => { results := [.lit (.bool false)], args := [d1, d2] }
  | _ => none }
def GroupRoundWrongFalsely : Prop := groupRoundRow.holds Try.pinned (OpenSpec.ofChange groupRoundWrong)

/-- 'vesperslaw03.GroupBack': WHATEVER THE INPUT: true; the input reads as it did. -/
def groupBackSpec : ChangeSpec := { name := "groupBack", fn := fun _ => fun
  | [d1, d2, d3] => { results := [.lit (.bool true)], args := [d1, d2, d3] }
  | _ => none }
def groupBackRow : OpenClaim := { program := "ytnefjkbnolbpbaa", sum := "d87a7e914600edb87197f5b319bad619d1666f2aa95ff4027efe4d7a110b4758", func := "vespers/vesperslaw03.GroupBack", spec := "groupBack", inPlace := ["internal/bytealg.IndexByteString", "internal/bytealg.IndexString"], unfollowed := true, recurses := true, named := ["internal/bytealg.MaxLen"], apart := false }
def GroupBackSaid : Prop := groupBackRow.holds Try.pinned (OpenSpec.ofChange groupBackSpec)

/-- ITS FALSE NEIGHBOUR: 'it returns false'. Refute it at one input. -/
def groupBackWrong : ChangeSpec := { name := "groupBack", fn := fun _ => fun
  | [d1, d2, d3] => { results := [.lit (.bool false)], args := [d1, d2, d3] }
  | _ => none }
def GroupBackWrongFalsely : Prop := groupBackRow.holds Try.pinned (OpenSpec.ofChange groupBackWrong)

/-- 'vesperslaw03.GroupRanks': WHATEVER THE INPUT: true; the input reads as it did. -/
def groupRanksSpec : ChangeSpec := { name := "groupRanks", fn := fun _ => fun
  | [d1, d2] => { results := [.lit (.bool true)], args := [d1, d2] }
  | _ => none }
def groupRanksRow : OpenClaim := { program := "ytnefjkbnolbpbaa", sum := "d87a7e914600edb87197f5b319bad619d1666f2aa95ff4027efe4d7a110b4758", func := "vespers/vesperslaw03.GroupRanks", spec := "groupRanks", unfollowed := true, recurses := true, apart := false }
def GroupRanksSaid : Prop := groupRanksRow.holds Try.pinned (OpenSpec.ofChange groupRanksSpec)

/-- ITS FALSE NEIGHBOUR: 'it returns false'. Refute it at one input. -/
def groupRanksWrong : ChangeSpec := { name := "groupRanks", fn := fun _ => fun
  | [d1, d2] => { results := [.lit (.bool false)], args := [d1, d2] }
  | _ => none }
def GroupRanksWrongFalsely : Prop := groupRanksRow.holds Try.pinned (OpenSpec.ofChange groupRanksWrong)

/-- 'vesperslaw03.GroupPlaces': WHATEVER THE INPUT: true; the input reads as it did. -/
def groupPlacesSpec : ChangeSpec := { name := "groupPlaces", fn := fun _ => fun
  | [d1, d2, d3] => { results := [.lit (.bool true)], args := [d1, d2, d3] }
  | _ => none }
def groupPlacesRow : OpenClaim := { program := "ytnefjkbnolbpbaa", sum := "d87a7e914600edb87197f5b319bad619d1666f2aa95ff4027efe4d7a110b4758", func := "vespers/vesperslaw03.GroupPlaces", spec := "groupPlaces", unfollowed := true, recurses := true, apart := false }
def GroupPlacesSaid : Prop := groupPlacesRow.holds Try.pinned (OpenSpec.ofChange groupPlacesSpec)

/-- ITS FALSE NEIGHBOUR: 'it returns false'. Refute it at one input. -/
def groupPlacesWrong : ChangeSpec := { name := "groupPlaces", fn := fun _ => fun
  | [d1, d2, d3] => { results := [.lit (.bool false)], args := [d1, d2, d3] }
  | _ => none }
def GroupPlacesWrongFalsely : Prop := groupPlacesRow.holds Try.pinned (OpenSpec.ofChange groupPlacesWrong)

/-- 'vesperslaw03.GroupTexts': WHATEVER THE INPUT: true; the input reads as it did. -/
def groupTextsSpec : ChangeSpec := { name := "groupTexts", fn := fun _ => fun
  | [d1, d2] => { results := [.lit (.bool true)], args := [d1, d2] }
  | _ => none }
def groupTextsRow : OpenClaim := { program := "ytnefjkbnolbpbaa", sum := "d87a7e914600edb87197f5b319bad619d1666f2aa95ff4027efe4d7a110b4758", func := "vespers/vesperslaw03.GroupTexts", spec := "groupTexts", unfollowed := true, recurses := true, apart := false }
def GroupTextsSaid : Prop := groupTextsRow.holds Try.pinned (OpenSpec.ofChange groupTextsSpec)

/-- ITS FALSE NEIGHBOUR: 'it returns false'. Refute it at one input. -/
def groupTextsWrong : ChangeSpec := { name := "groupTexts", fn := fun _ => fun
  | [d1, d2] => { results := [.lit (.bool false)], args := [d1, d2] }
  | _ => none }
def GroupTextsWrongFalsely : Prop := groupTextsRow.holds Try.pinned (OpenSpec.ofChange groupTextsWrong)

/- THE SECOND FORM. 'bulk': how many values and letters a reading holds, each counted each time it is reached (what is shared counts as often as it is met; a slice's spare places count too). A statement '..UptoSaid' is the law's where the arguments, and the package variables that the reading takes, are together of bulk at most 1048576: NARROWER than '..Said'. Prove '..Said' where nothing that the law and all that it calls make is longer than what came in: it says more and counts as full. Else prove '..UptoSaid'. A law counts once. -/
mutual
def uptoBulk {H : Type} : DataW H → Nat
  | .lit (.string bytes) => bytes.length + 1
  | .lit _ => 1
  | .nil => 1
  | .ptr d => uptoBulk d + 1
  | .slice elems spare => uptoBulkAll elems + uptoBulkAll spare + 1
  | .agg parts => uptoBulkAll parts + 1
  | .iface _ d => uptoBulk d + 1
  | .map entries => uptoBulkEntries entries + 1
  | .held _ => 1
def uptoBulkAll {H : Type} : List (DataW H) → Nat
  | [] => 0
  | d :: r => uptoBulk d + uptoBulkAll r
def uptoBulkEntries {H : Type} : List (Lit × DataW H) → Nat
  | [] => 0
  | x :: r => uptoBulkEntry x + uptoBulkEntries r
def uptoBulkEntry {H : Type} : Lit × DataW H → Nat
  | (.string bytes, d) => bytes.length + uptoBulk d + 1
  | (_, d) => uptoBulk d + 1
 end
def uptoSmall : (H : Type) → List (DataW H) → Bool := fun _ ds => decide (uptoBulkAll ds ≤ 1048576)
def OpenSpec.upto (s : _root_.Go.ChangeSpec) : _root_.Go.OpenSpec := { _root_.Go.OpenSpec.ofChange s with cond := some uptoSmall }

/-- 'vesperslaw03.GroupAsks', WHERE WHAT IT READS IS OF BULK AT MOST 1048576: true; the input reads as it did. -/
def groupAsksUptoRow : OpenClaim := { program := "ytnefjkbnolbpbaa", sum := "d87a7e914600edb87197f5b319bad619d1666f2aa95ff4027efe4d7a110b4758", func := "vespers/vesperslaw03.GroupAsks", spec := "groupAsks", unfollowed := true, recurses := true, apart := false, narrowed := true }
def GroupAsksUptoSaid : Prop := groupAsksUptoRow.holds Try.pinned (OpenSpec.upto groupAsksSpec)

/-- 'vesperslaw03.GroupForms', WHERE WHAT IT READS IS OF BULK AT MOST 1048576: true; the input reads as it did. -/
def groupFormsUptoRow : OpenClaim := { program := "ytnefjkbnolbpbaa", sum := "d87a7e914600edb87197f5b319bad619d1666f2aa95ff4027efe4d7a110b4758", func := "vespers/vesperslaw03.GroupForms", spec := "groupForms", inPlace := ["internal/bytealg.IndexByteString", "internal/bytealg.IndexString"], unfollowed := true, recurses := true, named := ["internal/bytealg.MaxLen"], apart := false, narrowed := true }
def GroupFormsUptoSaid : Prop := groupFormsUptoRow.holds Try.pinned (OpenSpec.upto groupFormsSpec)

/-- 'vesperslaw03.GroupNames', WHERE WHAT IT READS IS OF BULK AT MOST 1048576: true; the input reads as it did. -/
def groupNamesUptoRow : OpenClaim := { program := "ytnefjkbnolbpbaa", sum := "d87a7e914600edb87197f5b319bad619d1666f2aa95ff4027efe4d7a110b4758", func := "vespers/vesperslaw03.GroupNames", spec := "groupNames", inPlace := ["internal/bytealg.IndexByteString", "internal/bytealg.IndexString"], unfollowed := true, recurses := true, named := ["internal/bytealg.MaxLen"], apart := false, narrowed := true }
def GroupNamesUptoSaid : Prop := groupNamesUptoRow.holds Try.pinned (OpenSpec.upto groupNamesSpec)

/-- 'vesperslaw03.GroupRound', WHERE WHAT IT READS IS OF BULK AT MOST 1048576: true; the input reads as it did. -/
def groupRoundUptoRow : OpenClaim := { program := "ytnefjkbnolbpbaa", sum := "d87a7e914600edb87197f5b319bad619d1666f2aa95ff4027efe4d7a110b4758", func := "vespers/vesperslaw03.GroupRound", spec := "groupRound", unfollowed := true, recurses := true, apart := false, narrowed := true }
def GroupRoundUptoSaid : Prop := groupRoundUptoRow.holds Try.pinned (OpenSpec.upto groupRoundSpec)

/-- 'vesperslaw03.GroupBack', WHERE WHAT IT READS IS OF BULK AT MOST 1048576: true; the input reads as it did. -/
def groupBackUptoRow : OpenClaim := { program := "ytnefjkbnolbpbaa", sum := "d87a7e914600edb87197f5b319bad619d1666f2aa95ff4027efe4d7a110b4758", func := "vespers/vesperslaw03.GroupBack", spec := "groupBack", inPlace := ["internal/bytealg.IndexByteString", "internal/bytealg.IndexString"], unfollowed := true, recurses := true, named := ["internal/bytealg.MaxLen"], apart := false, narrowed := true }
def GroupBackUptoSaid : Prop := groupBackUptoRow.holds Try.pinned (OpenSpec.upto groupBackSpec)

/-- 'vesperslaw03.GroupRanks', WHERE WHAT IT READS IS OF BULK AT MOST 1048576: true; the input reads as it did. -/
def groupRanksUptoRow : OpenClaim := { program := "ytnefjkbnolbpbaa", sum := "d87a7e914600edb87197f5b319bad619d1666f2aa95ff4027efe4d7a110b4758", func := "vespers/vesperslaw03.GroupRanks", spec := "groupRanks", unfollowed := true, recurses := true, apart := false, narrowed := true }
def GroupRanksUptoSaid : Prop := groupRanksUptoRow.holds Try.pinned (OpenSpec.upto groupRanksSpec)

/-- 'vesperslaw03.GroupPlaces', WHERE WHAT IT READS IS OF BULK AT MOST 1048576: true; the input reads as it did. -/
def groupPlacesUptoRow : OpenClaim := { program := "ytnefjkbnolbpbaa", sum := "d87a7e914600edb87197f5b319bad619d1666f2aa95ff4027efe4d7a110b4758", func := "vespers/vesperslaw03.GroupPlaces", spec := "groupPlaces", unfollowed := true, recurses := true, apart := false, narrowed := true }
def GroupPlacesUptoSaid : Prop := groupPlacesUptoRow.holds Try.pinned (OpenSpec.upto groupPlacesSpec)

/-- 'vesperslaw03.GroupTexts', WHERE WHAT IT READS IS OF BULK AT MOST 1048576: true; the input reads as it did. -/
def groupTextsUptoRow : OpenClaim := { program := "ytnefjkbnolbpbaa", sum := "d87a7e914600edb87197f5b319bad619d1666f2aa95ff4027efe4d7a110b4758", func := "vespers/vesperslaw03.GroupTexts", spec := "groupTexts", unfollowed := true, recurses := true, apart := false, narrowed := true }
def GroupTextsUptoSaid : Prop := groupTextsUptoRow.holds Try.pinned (OpenSpec.upto groupTextsSpec)

end Rows
end Go.Proofs.Ytnefjkbnolbpbaa
