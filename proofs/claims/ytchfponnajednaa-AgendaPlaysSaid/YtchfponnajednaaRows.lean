/-
  No cell of these rows narrows 'for every input' (looked for: loops, veiled, ifaces, maps, wideKeys, modest, calm, conditions, laid).
  DERIVED. THE GIVEN ROWS OF THIS SEAT. 7 by the template 'for every input the law returns true; each argument reads behind the call as it read before'; 0 by the template 'total and deterministic' (their statements: YtchfponnajednaaTotals.lean).
  GIVEN WITH THE SEED: the statements are not yours to turn. If you find one false, say at which input.
  Laid BY PROGRAM, IN A SANDBOX (cutbox-rows.mjs): the forced cells as the released guide's own fill.sh prints them over the translation 8a789d222ebbb5f9… (all of the seat's roots in one cut). By AI agents, Wed Nov 11 2026. No macro, syntax, notation, axiom, sorry.
-/
import Derived.Test.YtchfponnajednaaChecked
import GoSem.Claim
import GoSem.ClaimJoined
import GoSem.ClaimMapViews
import Derived.JoinedTies
import Derived.KernelRfl
namespace Go.Proofs.Ytchfponnajednaa
/- THE CELL 'sum', in the pinned program and in every row, IS THE sha256 OF THE DUMP (.gsa) THAT YtchfponnajednaaProg.lean LOADS. Nothing in Lean hashes anything: it is a label: what it is worth is what the hold of that sum in a sandbox is worth. -/
noncomputable def Try.pinned : Pinned := { name := "ytchfponnajednaa", sum := "8a789d222ebbb5f9549a4c2875ced33340ac383a3c170b5f58cd86a1dc2ade28", checked := Try.checked }
namespace Rows
def none {H : Type} : Left H := { results := [], args := [] }

/-- 'vesperslaw10.AgendaPlays': WHATEVER THE INPUT: true; the input reads as it did. -/
def agendaPlaysSpec : ChangeSpec := { name := "agendaPlays", fn := fun _ => fun
  | [d] => { results := [.lit (.bool true)], args := [d] }
  | _ => none }
def agendaPlaysRow : OpenClaim := { program := "ytchfponnajednaa", sum := "8a789d222ebbb5f9549a4c2875ced33340ac383a3c170b5f58cd86a1dc2ade28", func := "vespers/vesperslaw10.AgendaPlays", spec := "agendaPlays", unfollowed := true, recurses := true, apart := false }
def AgendaPlaysSaid : Prop := agendaPlaysRow.holds Try.pinned (OpenSpec.ofChange agendaPlaysSpec)

/-- ITS FALSE NEIGHBOUR: 'it returns false'. Refute it at one input. -/
def agendaPlaysWrong : ChangeSpec := { name := "agendaPlays", fn := fun _ => fun
  | [d] => { results := [.lit (.bool false)], args := [d] }
  | _ => none }
def AgendaPlaysWrongFalsely : Prop := agendaPlaysRow.holds Try.pinned (OpenSpec.ofChange agendaPlaysWrong)

/-- 'vesperslaw10.AgendaNames': WHATEVER THE INPUT: true; the input reads as it did. -/
def agendaNamesSpec : ChangeSpec := { name := "agendaNames", fn := fun _ => fun
  | [] => { results := [.lit (.bool true)], args := [] }
  | _ => none }
def agendaNamesRow : OpenClaim := { program := "ytchfponnajednaa", sum := "8a789d222ebbb5f9549a4c2875ced33340ac383a3c170b5f58cd86a1dc2ade28", func := "vespers/vesperslaw10.AgendaNames", spec := "agendaNames", unfollowed := true, recurses := true, apart := false }
def AgendaNamesSaid : Prop := agendaNamesRow.holds Try.pinned (OpenSpec.ofChange agendaNamesSpec)

/-- ITS FALSE NEIGHBOUR: 'it returns false'. Refute it at one input. -/
def agendaNamesWrong : ChangeSpec := { name := "agendaNames", fn := fun _ => fun
  | [] => { results := [.lit (.bool false)], args := [] }
  | _ => none }
def AgendaNamesWrongFalsely : Prop := agendaNamesRow.holds Try.pinned (OpenSpec.ofChange agendaNamesWrong)

/-- 'vesperslaw10.AgendaOrder': WHATEVER THE INPUT: true; the input reads as it did. -/
def agendaOrderSpec : ChangeSpec := { name := "agendaOrder", fn := fun _ => fun
  | [d1, d2] => { results := [.lit (.bool true)], args := [d1, d2] }
  | _ => none }
def agendaOrderRow : OpenClaim := { program := "ytchfponnajednaa", sum := "8a789d222ebbb5f9549a4c2875ced33340ac383a3c170b5f58cd86a1dc2ade28", func := "vespers/vesperslaw10.AgendaOrder", spec := "agendaOrder", unfollowed := true, recurses := true, apart := false }
def AgendaOrderSaid : Prop := agendaOrderRow.holds Try.pinned (OpenSpec.ofChange agendaOrderSpec)

/-- ITS FALSE NEIGHBOUR: 'it returns false'. Refute it at one input. -/
def agendaOrderWrong : ChangeSpec := { name := "agendaOrder", fn := fun _ => fun
  | [d1, d2] => { results := [.lit (.bool false)], args := [d1, d2] }
  | _ => none }
def AgendaOrderWrongFalsely : Prop := agendaOrderRow.holds Try.pinned (OpenSpec.ofChange agendaOrderWrong)

/-- 'vesperslaw10.AgendaUntil': WHATEVER THE INPUT: true; the input reads as it did. -/
def agendaUntilSpec : ChangeSpec := { name := "agendaUntil", fn := fun _ => fun
  | [d1, d2, d3, d4] => { results := [.lit (.bool true)], args := [d1, d2, d3, d4] }
  | _ => none }
def agendaUntilRow : OpenClaim := { program := "ytchfponnajednaa", sum := "8a789d222ebbb5f9549a4c2875ced33340ac383a3c170b5f58cd86a1dc2ade28", func := "vespers/vesperslaw10.AgendaUntil", spec := "agendaUntil", unfollowed := true, recurses := true, apart := false }
def AgendaUntilSaid : Prop := agendaUntilRow.holds Try.pinned (OpenSpec.ofChange agendaUntilSpec)

/-- ITS FALSE NEIGHBOUR: 'it returns false'. Refute it at one input. -/
def agendaUntilWrong : ChangeSpec := { name := "agendaUntil", fn := fun _ => fun
  | [d1, d2, d3, d4] => { results := [.lit (.bool false)], args := [d1, d2, d3, d4] }
  | _ => none }
def AgendaUntilWrongFalsely : Prop := agendaUntilRow.holds Try.pinned (OpenSpec.ofChange agendaUntilWrong)

/-- 'vesperslaw10.AgendaHeap': WHATEVER THE INPUT: true; the input reads as it did. -/
def agendaHeapSpec : ChangeSpec := { name := "agendaHeap", fn := fun _ => fun
  | [d] => { results := [.lit (.bool true)], args := [d] }
  | _ => none }
def agendaHeapRow : OpenClaim := { program := "ytchfponnajednaa", sum := "8a789d222ebbb5f9549a4c2875ced33340ac383a3c170b5f58cd86a1dc2ade28", func := "vespers/vesperslaw10.AgendaHeap", spec := "agendaHeap", unfollowed := true, recurses := true, apart := false }
def AgendaHeapSaid : Prop := agendaHeapRow.holds Try.pinned (OpenSpec.ofChange agendaHeapSpec)

/-- ITS FALSE NEIGHBOUR: 'it returns false'. Refute it at one input. -/
def agendaHeapWrong : ChangeSpec := { name := "agendaHeap", fn := fun _ => fun
  | [d] => { results := [.lit (.bool false)], args := [d] }
  | _ => none }
def AgendaHeapWrongFalsely : Prop := agendaHeapRow.holds Try.pinned (OpenSpec.ofChange agendaHeapWrong)

/-- 'vesperslaw10.AgendaParts': WHATEVER THE INPUT: true; the input reads as it did. -/
def agendaPartsSpec : ChangeSpec := { name := "agendaParts", fn := fun _ => fun
  | [d1, d2, d3] => { results := [.lit (.bool true)], args := [d1, d2, d3] }
  | _ => none }
def agendaPartsRow : OpenClaim := { program := "ytchfponnajednaa", sum := "8a789d222ebbb5f9549a4c2875ced33340ac383a3c170b5f58cd86a1dc2ade28", func := "vespers/vesperslaw10.AgendaParts", spec := "agendaParts", unfollowed := true, recurses := true, apart := false }
def AgendaPartsSaid : Prop := agendaPartsRow.holds Try.pinned (OpenSpec.ofChange agendaPartsSpec)

/-- ITS FALSE NEIGHBOUR: 'it returns false'. Refute it at one input. -/
def agendaPartsWrong : ChangeSpec := { name := "agendaParts", fn := fun _ => fun
  | [d1, d2, d3] => { results := [.lit (.bool false)], args := [d1, d2, d3] }
  | _ => none }
def AgendaPartsWrongFalsely : Prop := agendaPartsRow.holds Try.pinned (OpenSpec.ofChange agendaPartsWrong)

/-- 'vesperslaw10.AgendaFirst': WHATEVER THE INPUT: true; the input reads as it did. -/
def agendaFirstSpec : ChangeSpec := { name := "agendaFirst", fn := fun _ => fun
  | [d] => { results := [.lit (.bool true)], args := [d] }
  | _ => none }
def agendaFirstRow : OpenClaim := { program := "ytchfponnajednaa", sum := "8a789d222ebbb5f9549a4c2875ced33340ac383a3c170b5f58cd86a1dc2ade28", func := "vespers/vesperslaw10.AgendaFirst", spec := "agendaFirst", unfollowed := true, recurses := true, apart := false }
def AgendaFirstSaid : Prop := agendaFirstRow.holds Try.pinned (OpenSpec.ofChange agendaFirstSpec)

/-- ITS FALSE NEIGHBOUR: 'it returns false'. Refute it at one input. -/
def agendaFirstWrong : ChangeSpec := { name := "agendaFirst", fn := fun _ => fun
  | [d] => { results := [.lit (.bool false)], args := [d] }
  | _ => none }
def AgendaFirstWrongFalsely : Prop := agendaFirstRow.holds Try.pinned (OpenSpec.ofChange agendaFirstWrong)

/- THE SECOND FORM. 'bulk': how many values and letters a reading holds, each counted each time it is reached (what is shared counts as often as it is met; a slice's spare places count too). A statement '..UptoSaid' is the law's where the arguments, and the package variables that the reading takes, are together of bulk at most 1048576: NARROWER than '..Said'. Prove '..Said' where nothing that the law and all that it calls make is longer than what came in: it says more and counts as full. Else prove '..UptoSaid'. A law counts once. -/
mutual
def uptoBulk {H : Type} : DataW H → Nat
  | .lit (.string bytes) => bytes.length + 1
  | .lit _ => 1
  | .nil => 1
  | .ptr d => uptoBulk d + 1
  | .slice elems spare => uptoBulkAll elems + uptoBulkAll spare + 1
  | .agg parts => uptoBulkAll parts + 1
  | .iface _ d => uptoBulk d + 1
  | .map entries => uptoBulkEntries entries + 1
  | .held _ => 1
def uptoBulkAll {H : Type} : List (DataW H) → Nat
  | [] => 0
  | d :: r => uptoBulk d + uptoBulkAll r
def uptoBulkEntries {H : Type} : List (Lit × DataW H) → Nat
  | [] => 0
  | x :: r => uptoBulkEntry x + uptoBulkEntries r
def uptoBulkEntry {H : Type} : Lit × DataW H → Nat
  | (.string bytes, d) => bytes.length + uptoBulk d + 1
  | (_, d) => uptoBulk d + 1
 end
def uptoSmall : (H : Type) → List (DataW H) → Bool := fun _ ds => decide (uptoBulkAll ds ≤ 1048576)
def OpenSpec.upto (s : _root_.Go.ChangeSpec) : _root_.Go.OpenSpec := { _root_.Go.OpenSpec.ofChange s with cond := some uptoSmall }

/-- 'vesperslaw10.AgendaPlays', WHERE WHAT IT READS IS OF BULK AT MOST 1048576: true; the input reads as it did. -/
def agendaPlaysUptoRow : OpenClaim := { program := "ytchfponnajednaa", sum := "8a789d222ebbb5f9549a4c2875ced33340ac383a3c170b5f58cd86a1dc2ade28", func := "vespers/vesperslaw10.AgendaPlays", spec := "agendaPlays", unfollowed := true, recurses := true, apart := false, narrowed := true }
def AgendaPlaysUptoSaid : Prop := agendaPlaysUptoRow.holds Try.pinned (OpenSpec.upto agendaPlaysSpec)

/-- 'vesperslaw10.AgendaNames', WHERE WHAT IT READS IS OF BULK AT MOST 1048576: true; the input reads as it did. -/
def agendaNamesUptoRow : OpenClaim := { program := "ytchfponnajednaa", sum := "8a789d222ebbb5f9549a4c2875ced33340ac383a3c170b5f58cd86a1dc2ade28", func := "vespers/vesperslaw10.AgendaNames", spec := "agendaNames", unfollowed := true, recurses := true, apart := false, narrowed := true }
def AgendaNamesUptoSaid : Prop := agendaNamesUptoRow.holds Try.pinned (OpenSpec.upto agendaNamesSpec)

/-- 'vesperslaw10.AgendaOrder', WHERE WHAT IT READS IS OF BULK AT MOST 1048576: true; the input reads as it did. -/
def agendaOrderUptoRow : OpenClaim := { program := "ytchfponnajednaa", sum := "8a789d222ebbb5f9549a4c2875ced33340ac383a3c170b5f58cd86a1dc2ade28", func := "vespers/vesperslaw10.AgendaOrder", spec := "agendaOrder", unfollowed := true, recurses := true, apart := false, narrowed := true }
def AgendaOrderUptoSaid : Prop := agendaOrderUptoRow.holds Try.pinned (OpenSpec.upto agendaOrderSpec)

/-- 'vesperslaw10.AgendaUntil', WHERE WHAT IT READS IS OF BULK AT MOST 1048576: true; the input reads as it did. -/
def agendaUntilUptoRow : OpenClaim := { program := "ytchfponnajednaa", sum := "8a789d222ebbb5f9549a4c2875ced33340ac383a3c170b5f58cd86a1dc2ade28", func := "vespers/vesperslaw10.AgendaUntil", spec := "agendaUntil", unfollowed := true, recurses := true, apart := false, narrowed := true }
def AgendaUntilUptoSaid : Prop := agendaUntilUptoRow.holds Try.pinned (OpenSpec.upto agendaUntilSpec)

/-- 'vesperslaw10.AgendaHeap', WHERE WHAT IT READS IS OF BULK AT MOST 1048576: true; the input reads as it did. -/
def agendaHeapUptoRow : OpenClaim := { program := "ytchfponnajednaa", sum := "8a789d222ebbb5f9549a4c2875ced33340ac383a3c170b5f58cd86a1dc2ade28", func := "vespers/vesperslaw10.AgendaHeap", spec := "agendaHeap", unfollowed := true, recurses := true, apart := false, narrowed := true }
def AgendaHeapUptoSaid : Prop := agendaHeapUptoRow.holds Try.pinned (OpenSpec.upto agendaHeapSpec)

/-- 'vesperslaw10.AgendaParts', WHERE WHAT IT READS IS OF BULK AT MOST 1048576: true; the input reads as it did. -/
def agendaPartsUptoRow : OpenClaim := { program := "ytchfponnajednaa", sum := "8a789d222ebbb5f9549a4c2875ced33340ac383a3c170b5f58cd86a1dc2ade28", func := "vespers/vesperslaw10.AgendaParts", spec := "agendaParts", unfollowed := true, recurses := true, apart := false, narrowed := true }
def AgendaPartsUptoSaid : Prop := agendaPartsUptoRow.holds Try.pinned (OpenSpec.upto agendaPartsSpec)

/-- 'vesperslaw10.AgendaFirst', WHERE WHAT IT READS IS OF BULK AT MOST 1048576: true; the input reads as it did. -/
def agendaFirstUptoRow : OpenClaim := { program := "ytchfponnajednaa", sum := "8a789d222ebbb5f9549a4c2875ced33340ac383a3c170b5f58cd86a1dc2ade28", func := "vespers/vesperslaw10.AgendaFirst", spec := "agendaFirst", unfollowed := true, recurses := true, apart := false, narrowed := true }
def AgendaFirstUptoSaid : Prop := agendaFirstUptoRow.holds Try.pinned (OpenSpec.upto agendaFirstSpec)

end Rows
end Go.Proofs.Ytchfponnajednaa
