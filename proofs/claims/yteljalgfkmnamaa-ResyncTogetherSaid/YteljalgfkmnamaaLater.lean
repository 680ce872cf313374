/- A region that draws its order, whose operations only read, and whose callees may make memory: walked once, in the text's order. No condition. -/
import Derived.WalkKit
import Derived.Below
import Derived.WalkSmall
import Derived.BigQuiet
import Derived.Deep.QuietTactic
namespace Go.Proofs.Yteljalgfkmnamaa
open Go.RowKit

/-- A world in which all that lies in w lies as it lay. -/
structure Later (w : World) where
  at_ : World
  below : Below w.heap.size w at_
instance (w : World) : Nonempty (Later w) := ⟨⟨w, Below.refl _ _⟩⟩
theorem Later.cell {w : World} (y : Later w) {p : Addr} {v : Value} (h : w.cell? p = some v) : y.at_.cell? p = some v :=
  (y.below.cell (World.block_lt_of_cell? w p h)).trans h

theorem wp_region_later {P : Program} {id : Nat} {Q : Exit → Act → World → Prop} {a : Act} {w : World} {l : List Oper} (hm : P.follows .mixedOrders = true) (hB : Region.lexB .any l.toArray = true)
    (h : wpQuiet P l.toArray (fun w' => ∃ y : Later w, w' = y.at_) (fun a' => ∀ w', (∃ y : Later w, w' = y.at_) → Q .normal a' w') l a) : (Code.region id l.toArray true).wp P Q a w :=
  wp_region_quiet (C := fun w' => ∃ y : Later w, w' = y.at_) hm hB ⟨⟨_, below_drewN (Below.refl _ w) 1⟩, rfl⟩ (by simpa using h)

section
variable {P : Program} {f : FuncId} {args : Array Value} {w : World} {v : Value}
theorem later_of (y : Later w) (h : ∀ W, Calls P f args W fun e w' => e = .returned v ∧ Below W.heap.size W w') : Calls P f args y.at_ fun e w' => e = .returned v ∧ ∃ z : Later w, w' = z.at_ :=
  (h y.at_).mono fun _ w' k => ⟨k.1, ⟨w', y.below.trans (k.2.mono y.below.size)⟩, rfl⟩
theorem later_same (y : Later w) (h : ∀ W, Calls P f args W fun e w' => e = .returned v ∧ W = w') : Calls P f args y.at_ fun e w' => e = .returned v ∧ ∃ z : Later w, w' = z.at_ :=
  (h y.at_).mono fun _ _ k => ⟨k.1, y, k.2.symm⟩
theorem later_quiet (y : Later w) (h : ∀ W, Calls P f args W fun e w' => e = .returned v ∧ ∃ n, w' = W.drewN n) : Calls P f args y.at_ fun e w' => e = .returned v ∧ ∃ z : Later w, w' = z.at_ :=
  (h y.at_).mono fun _ w' k => ⟨k.1, ⟨w', by obtain ⟨n, rfl⟩ := k.2; exact below_drewN y.below n⟩, rfl⟩
end

end Go.Proofs.Yteljalgfkmnamaa
