/-
  No cell of these rows narrows 'for every input' (looked for: loops, veiled, ifaces, maps, wideKeys, modest, calm, conditions, laid).
  DERIVED. THE GIVEN ROWS OF THIS SEAT. 5 by the template 'for every input the law returns true; each argument reads behind the call as it read before'; 0 by the template 'total and deterministic' (their statements: YtjdkndpcjjjlfaaTotals.lean).
  GIVEN WITH THE SEED: the statements are not yours to turn. If you find one false, say at which input.
  Laid BY PROGRAM, IN A SANDBOX (cutbox-rows.mjs): the forced cells as the released guide's own fill.sh prints them over the translation 0fffd96f80ac9993… (all of the seat's roots in one cut). By AI agents, Wed Nov 11 2026. No macro, syntax, notation, axiom, sorry.
-/
import Derived.Test.YtjdkndpcjjjlfaaChecked
import GoSem.Claim
import GoSem.ClaimJoined
import GoSem.ClaimMapViews
import Derived.JoinedTies
import Derived.KernelRfl
namespace Go.Proofs.Ytjdkndpcjjjlfaa
/- THE CELL 'sum', in the pinned program and in every row, IS THE sha256 OF THE DUMP (.gsa) THAT YtjdkndpcjjjlfaaProg.lean LOADS. Nothing in Lean hashes anything: it is a label: what it is worth is what the hold of that sum in a sandbox is worth. -/
noncomputable def Try.pinned : Pinned := { name := "ytjdkndpcjjjlfaa", sum := "0fffd96f80ac99930b7f6b4cfb05b1f2298d9f0a38cd331e057ab3b6216ed6d4", checked := Try.checked }
namespace Rows
def none {H : Type} : Left H := { results := [], args := [] }

/-- 'vesperslaw06.RateClocks': WHATEVER THE INPUT: true; the input reads as it did. -/
def rateClocksSpec : ChangeSpec := { name := "rateClocks", fn := fun _ => fun
  | [d1, d2, d3, d4, d5] => { results := [.lit (.bool true)], args := [d1, d2, d3, d4, d5] }
  | _ => none }
def rateClocksRow : OpenClaim := { program := "ytjdkndpcjjjlfaa", sum := "0fffd96f80ac99930b7f6b4cfb05b1f2298d9f0a38cd331e057ab3b6216ed6d4", func := "vespers/vesperslaw06.RateClocks", spec := "rateClocks", unfollowed := true, recurses := true, apart := false }
def RateClocksSaid : Prop := rateClocksRow.holds Try.pinned (OpenSpec.ofChange rateClocksSpec)

/-- ITS FALSE NEIGHBOUR: 'it returns false'. Refute it at one input. -/
def rateClocksWrong : ChangeSpec := { name := "rateClocks", fn := fun _ => fun
  | [d1, d2, d3, d4, d5] => { results := [.lit (.bool false)], args := [d1, d2, d3, d4, d5] }
  | _ => none }
def RateClocksWrongFalsely : Prop := rateClocksRow.holds Try.pinned (OpenSpec.ofChange rateClocksWrong)

/-- 'vesperslaw06.RateNames': WHATEVER THE INPUT: true; the input reads as it did. -/
def rateNamesSpec : ChangeSpec := { name := "rateNames", fn := fun _ => fun
  | [] => { results := [.lit (.bool true)], args := [] }
  | _ => none }
def rateNamesRow : OpenClaim := { program := "ytjdkndpcjjjlfaa", sum := "0fffd96f80ac99930b7f6b4cfb05b1f2298d9f0a38cd331e057ab3b6216ed6d4", func := "vespers/vesperslaw06.RateNames", spec := "rateNames", unfollowed := true, recurses := true, apart := false }
def RateNamesSaid : Prop := rateNamesRow.holds Try.pinned (OpenSpec.ofChange rateNamesSpec)

/-- ITS FALSE NEIGHBOUR: 'it returns false'. Refute it at one input. -/
def rateNamesWrong : ChangeSpec := { name := "rateNames", fn := fun _ => fun
  | [] => { results := [.lit (.bool false)], args := [] }
  | _ => none }
def RateNamesWrongFalsely : Prop := rateNamesRow.holds Try.pinned (OpenSpec.ofChange rateNamesWrong)

/-- 'vesperslaw06.RateWhen': WHATEVER THE INPUT: true; the input reads as it did. -/
def rateWhenSpec : ChangeSpec := { name := "rateWhen", fn := fun _ => fun
  | [d1, d2, d3] => { results := [.lit (.bool true)], args := [d1, d2, d3] }
  | _ => none }
def rateWhenRow : OpenClaim := { program := "ytjdkndpcjjjlfaa", sum := "0fffd96f80ac99930b7f6b4cfb05b1f2298d9f0a38cd331e057ab3b6216ed6d4", func := "vespers/vesperslaw06.RateWhen", spec := "rateWhen", unfollowed := true, recurses := true, apart := false }
def RateWhenSaid : Prop := rateWhenRow.holds Try.pinned (OpenSpec.ofChange rateWhenSpec)

/-- ITS FALSE NEIGHBOUR: 'it returns false'. Refute it at one input. -/
def rateWhenWrong : ChangeSpec := { name := "rateWhen", fn := fun _ => fun
  | [d1, d2, d3] => { results := [.lit (.bool false)], args := [d1, d2, d3] }
  | _ => none }
def RateWhenWrongFalsely : Prop := rateWhenRow.holds Try.pinned (OpenSpec.ofChange rateWhenWrong)

/-- 'vesperslaw06.RateDrift': WHATEVER THE INPUT: true; the input reads as it did. -/
def rateDriftSpec : ChangeSpec := { name := "rateDrift", fn := fun _ => fun
  | [d1, d2, d3, d4] => { results := [.lit (.bool true)], args := [d1, d2, d3, d4] }
  | _ => none }
def rateDriftRow : OpenClaim := { program := "ytjdkndpcjjjlfaa", sum := "0fffd96f80ac99930b7f6b4cfb05b1f2298d9f0a38cd331e057ab3b6216ed6d4", func := "vespers/vesperslaw06.RateDrift", spec := "rateDrift", unfollowed := true, recurses := true, apart := false }
def RateDriftSaid : Prop := rateDriftRow.holds Try.pinned (OpenSpec.ofChange rateDriftSpec)

/-- ITS FALSE NEIGHBOUR: 'it returns false'. Refute it at one input. -/
def rateDriftWrong : ChangeSpec := { name := "rateDrift", fn := fun _ => fun
  | [d1, d2, d3, d4] => { results := [.lit (.bool false)], args := [d1, d2, d3, d4] }
  | _ => none }
def RateDriftWrongFalsely : Prop := rateDriftRow.holds Try.pinned (OpenSpec.ofChange rateDriftWrong)

/-- 'vesperslaw06.RateSet': WHATEVER THE INPUT: true; the input reads as it did. -/
def rateSetSpec : ChangeSpec := { name := "rateSet", fn := fun _ => fun
  | [d1, d2, d3] => { results := [.lit (.bool true)], args := [d1, d2, d3] }
  | _ => none }
def rateSetRow : OpenClaim := { program := "ytjdkndpcjjjlfaa", sum := "0fffd96f80ac99930b7f6b4cfb05b1f2298d9f0a38cd331e057ab3b6216ed6d4", func := "vespers/vesperslaw06.RateSet", spec := "rateSet", unfollowed := true, recurses := true, apart := false }
def RateSetSaid : Prop := rateSetRow.holds Try.pinned (OpenSpec.ofChange rateSetSpec)

/-- ITS FALSE NEIGHBOUR: 'it returns false'. Refute it at one input. -/
def rateSetWrong : ChangeSpec := { name := "rateSet", fn := fun _ => fun
  | [d1, d2, d3] => { results := [.lit (.bool false)], args := [d1, d2, d3] }
  | _ => none }
def RateSetWrongFalsely : Prop := rateSetRow.holds Try.pinned (OpenSpec.ofChange rateSetWrong)

/- THE SECOND FORM. 'bulk': how many values and letters a reading holds, each counted each time it is reached (what is shared counts as often as it is met; a slice's spare places count too). A statement '..UptoSaid' is the law's where the arguments, and the package variables that the reading takes, are together of bulk at most 1048576: NARROWER than '..Said'. Prove '..Said' where nothing that the law and all that it calls make is longer than what came in: it says more and counts as full. Else prove '..UptoSaid'. A law counts once. -/
mutual
def uptoBulk {H : Type} : DataW H → Nat
  | .lit (.string bytes) => bytes.length + 1
  | .lit _ => 1
  | .nil => 1
  | .ptr d => uptoBulk d + 1
  | .slice elems spare => uptoBulkAll elems + uptoBulkAll spare + 1
  | .agg parts => uptoBulkAll parts + 1
  | .iface _ d => uptoBulk d + 1
  | .map entries => uptoBulkEntries entries + 1
  | .held _ => 1
def uptoBulkAll {H : Type} : List (DataW H) → Nat
  | [] => 0
  | d :: r => uptoBulk d + uptoBulkAll r
def uptoBulkEntries {H : Type} : List (Lit × DataW H) → Nat
  | [] => 0
  | x :: r => uptoBulkEntry x + uptoBulkEntries r
def uptoBulkEntry {H : Type} : Lit × DataW H → Nat
  | (.string bytes, d) => bytes.length + uptoBulk d + 1
  | (_, d) => uptoBulk d + 1
 end
def uptoSmall : (H : Type) → List (DataW H) → Bool := fun _ ds => decide (uptoBulkAll ds ≤ 1048576)
def OpenSpec.upto (s : _root_.Go.ChangeSpec) : _root_.Go.OpenSpec := { _root_.Go.OpenSpec.ofChange s with cond := some uptoSmall }

/-- 'vesperslaw06.RateClocks', WHERE WHAT IT READS IS OF BULK AT MOST 1048576: true; the input reads as it did. -/
def rateClocksUptoRow : OpenClaim := { program := "ytjdkndpcjjjlfaa", sum := "0fffd96f80ac99930b7f6b4cfb05b1f2298d9f0a38cd331e057ab3b6216ed6d4", func := "vespers/vesperslaw06.RateClocks", spec := "rateClocks", unfollowed := true, recurses := true, apart := false, narrowed := true }
def RateClocksUptoSaid : Prop := rateClocksUptoRow.holds Try.pinned (OpenSpec.upto rateClocksSpec)

/-- 'vesperslaw06.RateNames', WHERE WHAT IT READS IS OF BULK AT MOST 1048576: true; the input reads as it did. -/
def rateNamesUptoRow : OpenClaim := { program := "ytjdkndpcjjjlfaa", sum := "0fffd96f80ac99930b7f6b4cfb05b1f2298d9f0a38cd331e057ab3b6216ed6d4", func := "vespers/vesperslaw06.RateNames", spec := "rateNames", unfollowed := true, recurses := true, apart := false, narrowed := true }
def RateNamesUptoSaid : Prop := rateNamesUptoRow.holds Try.pinned (OpenSpec.upto rateNamesSpec)

/-- 'vesperslaw06.RateWhen', WHERE WHAT IT READS IS OF BULK AT MOST 1048576: true; the input reads as it did. -/
def rateWhenUptoRow : OpenClaim := { program := "ytjdkndpcjjjlfaa", sum := "0fffd96f80ac99930b7f6b4cfb05b1f2298d9f0a38cd331e057ab3b6216ed6d4", func := "vespers/vesperslaw06.RateWhen", spec := "rateWhen", unfollowed := true, recurses := true, apart := false, narrowed := true }
def RateWhenUptoSaid : Prop := rateWhenUptoRow.holds Try.pinned (OpenSpec.upto rateWhenSpec)

/-- 'vesperslaw06.RateDrift', WHERE WHAT IT READS IS OF BULK AT MOST 1048576: true; the input reads as it did. -/
def rateDriftUptoRow : OpenClaim := { program := "ytjdkndpcjjjlfaa", sum := "0fffd96f80ac99930b7f6b4cfb05b1f2298d9f0a38cd331e057ab3b6216ed6d4", func := "vespers/vesperslaw06.RateDrift", spec := "rateDrift", unfollowed := true, recurses := true, apart := false, narrowed := true }
def RateDriftUptoSaid : Prop := rateDriftUptoRow.holds Try.pinned (OpenSpec.upto rateDriftSpec)

/-- 'vesperslaw06.RateSet', WHERE WHAT IT READS IS OF BULK AT MOST 1048576: true; the input reads as it did. -/
def rateSetUptoRow : OpenClaim := { program := "ytjdkndpcjjjlfaa", sum := "0fffd96f80ac99930b7f6b4cfb05b1f2298d9f0a38cd331e057ab3b6216ed6d4", func := "vespers/vesperslaw06.RateSet", spec := "rateSet", unfollowed := true, recurses := true, apart := false, narrowed := true }
def RateSetUptoSaid : Prop := rateSetUptoRow.holds Try.pinned (OpenSpec.upto rateSetSpec)

end Rows
end Go.Proofs.Ytjdkndpcjjjlfaa
