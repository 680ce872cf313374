/- The names, by a contract: the program's, and the document's; a plan's numbers as a row. No condition. -/
import Derived.Test.YtdeiohcciafffaaGreatDoorTVal
namespace Go.Proofs.YtdeiohcciafffaaGreatDoor
open Go.RowKit Go.Shelf

/-- The names as values. -/
def namesV : List Value := namesL.map fun l => .string ⟨l.toArray⟩
def namesC : Array Value := namesV.toArray
theorem namesC_get {k : Nat} (hk : k < 16) : namesC[k]? = some (.string (nameB k)) := by
  rw [namesC, List.getElem?_toArray, namesV, List.getElem?_map, nameL_get hk]
  rfl
/-- The document's names: a new row. -/
def NamesD (w : World) (e : Ending) (w' : World) : Prop := ∃ b, e = .returned (.slice (some ⟨b, 0, none⟩) 16 16) ∧ w.heap.size ≤ b ∧ Whole w' b 9 namesC ∧ Below w.heap.size w w'
/-- A plan's numbers: a new row. -/
def NumbersD (x : Pl) (w : World) (e : Ending) (w' : World) : Prop := ∃ b, e = .returned (.slice (some ⟨b, 0, none⟩) 16 16) ∧ w.heap.size ≤ b ∧ Whole w' b 2 x.cells ∧ Below w.heap.size w w'
end Go.Proofs.YtdeiohcciafffaaGreatDoor
