/- The names, by a contract: the program's, and the document's; a plan's numbers as a row. No condition. -/
import Derived.Test.YtfiflcajkamliaaGreatDoorTVal
namespace Go.Proofs.YtfiflcajkamliaaGreatDoor
open Go.RowKit Go.Shelf

/-- The names as values. -/
def namesV : List Value := namesL.map fun l => .string ⟨l.toArray⟩
def namesC : Array Value := namesV.toArray
theorem namesC_get {k : Nat} (hk : k < 16) : namesC[k]? = some (.string (nameB k)) := by
  rw [namesC, List.getElem?_toArray, namesV, List.getElem?_map, nameL_get hk]
  rfl
/-- The document's names: a new row. -/
def NamesD (w : World) (e : Ending) (w' : World) : Prop := ∃ b, e = .returned (.slice (some ⟨b, 0, none⟩) 16 16) ∧ w.heap.size ≤ b ∧ Whole w' b 9 namesC ∧ Below w.heap.size w w'
set_option maxRecDepth 100000 in
set_option maxHeartbeats 1000000 in
theorem refNames_any (w : World) : Calls Tryz.prog 87 #[] w (NamesD w) := by
  have HX := Lib.hid (fun W => Whole.new W 9 namesC)
  have HB := Lib.hid (fun W : World => (Below.refl W.heap.size W).alloc (Nat.le_refl _) (.cells namesC 9))
  go_enter Tryz.func87, Tryz.ntmps87
  go_wp2
  go_ret
  exact ⟨w.heap.size, rfl, Nat.le_refl _, HX.out w, HB.out w⟩

/-- A plan's numbers: a new row. -/
def NumbersD (x : Pl) (w : World) (e : Ending) (w' : World) : Prop := ∃ b, e = .returned (.slice (some ⟨b, 0, none⟩) 16 16) ∧ w.heap.size ≤ b ∧ Whole w' b 2 x.cells ∧ Below w.heap.size w w'
set_option maxRecDepth 100000 in
set_option maxHeartbeats 4000000 in
theorem refNumbers8_any (x : Pl) (w : World) : Calls Tryz.prog 27 #[.agg x.cells] w (NumbersD x w) := by
  obtain ⟨⟨z0, z1, z2, z3⟩, ⟨z4, z5, z6, z7⟩, ⟨z8, z9, z10, z11⟩, ⟨z12, z13, z14, z15⟩, _⟩ := l_cells (Whole.new w 23 x.cells)
  have HC := Lib.hid (fun W => Whole.new W 2 x.cells)
  have HB := Lib.hid (fun W : World => ((Below.refl W.heap.size W).alloc (Nat.le_refl _) (.cells x.cells 23)).alloc (by simp) (.cells x.cells 2))
  go_enter Tryz.func27, Tryz.ntmps27
  go_wp2
  go_ret
  have hs : (w.alloc (.cells x.cells 23)).heap.size = w.heap.size + 1 := by simp
  have h2 := HC.out (w.alloc (.cells x.cells 23))
  rw [hs] at h2
  exact ⟨w.heap.size + 1, rfl, by omega, h2, HB.out w⟩

end Go.Proofs.YtfiflcajkamliaaGreatDoor
