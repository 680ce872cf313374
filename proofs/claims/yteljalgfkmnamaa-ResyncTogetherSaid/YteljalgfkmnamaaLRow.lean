/- A whole plan out of a block, and into one: its cells a letter, so the walk unrolls nothing. No condition. -/
import Derived.Test.YteljalgfkmnamaaLDef
import Derived.Deep.WholeRow
import Derived.BigFrame
namespace Go.Proofs.Yteljalgfkmnamaa
open Go.RowKit Go.Shelf

/-- A plan's cells: sixteen, each one a number. -/
structure CellsL (cs : Array Value) : Prop where
  size : cs.size = 16
  one : cs.all (·.oneCell') = true
theorem Pl.cellsL (x : Pl) : CellsL x.cells := ⟨rfl, by simp [Pl.cells, Value.oneCell']⟩
theorem info_plan : (Try.prog.info? 23).map (·.size) = some 16 := by kernel_rfl
theorem info_draft : (Try.prog.info? 66).map (·.size) = some 16 := by kernel_rfl
theorem CellsL.plan {cs : Array Value} (h : CellsL cs) : (Try.prog.info? 23).map (·.size) = some cs.size := by rw [h.size]; exact info_plan
theorem CellsL.draft {cs : Array Value} (h : CellsL cs) : (Try.prog.info? 66).map (·.size) = some cs.size := by rw [h.size]; exact info_draft

section
variable {P : Program} {ops : Array Oper} {rest : List Oper} {o : Oper} {a : Act} {w : World} {Q : Exit → Act → World → Prop}
/-- A whole row into the block that was made last. -/
theorem wpList_store_last (hgd : o.guard = none) (ty : TypeId) (x y : Operand) (ho : o.op = .store ty x y) (g : Nat) (cells : Array Value) (hx : a.eval x = .pointer (some ⟨g, 0, none⟩)) (hy : a.eval y = .agg cells)
    (t : TypeId) (old : Array Value) (hg : g = w.heap.size) (hi : (P.info? ty).map (·.size) = some cells.size) (hold : old.size = cells.size) (h1 : cells.all (·.oneCell') = true)
    (h : wpList P ops Q rest (a.put o.dst undef) (w.alloc (.cells cells t))) : wpList P ops Q (o :: rest) a (w.alloc (.cells old t)) := by
  subst hg
  refine wpList_store_row hgd ty x y ho w.heap.size cells hx hy t old (heap_alloc_last w _) hi hold h1 ?_
  rw [World.setRow_alloc_new]
  exact h
/-- A whole row read under a guard that is met. -/
theorem wpList_load_want (hw : Region.wanted o (yielded ops a.tmps) = true) (ty : TypeId) (x : Operand) (ho : o.op = .load ty x) (g : Nat) (hx : a.eval x = .pointer (some ⟨g, 0, none⟩)) (t : TypeId) (cs : Array Value) (fr : Nat × Nat) (d : TypeDesc)
    (hg : w.heap[g]? = some (.cells cs t fr)) (hu : P.underlying ty = some d) (hd : (match d with | .struct _ | .array _ _ => true | _ => false) = true) (hi : (P.info? ty).map (·.size) = some cs.size)
    (h : wpList P ops Q rest (a.put o.dst (.agg cs)) w) : wpList P ops Q (o :: rest) a w :=
  BigFrame.wpList_want hw fun _ hK => wp_load_row ty x ho g hx t cs fr d hg hu hd hi (hK _ _ h)
end

end Go.Proofs.Yteljalgfkmnamaa
