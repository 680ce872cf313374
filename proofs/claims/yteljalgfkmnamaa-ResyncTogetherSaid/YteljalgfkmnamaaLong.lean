/- Slices of numbers: how they are opened, held against each other, made new; contracts of the document's Longs. No condition. -/
import Derived.Test.YteljalgfkmnamaaRow
import Derived.Test.YteljalgfkmnamaaKMem
import Derived.BigQuiet
import Derived.Deep.QuietTactic
import Derived.WalkSmall
import Derived.LoopTactic
import Derived.Handy
import Derived.Shelf.Abstract
import Derived.RangeFuncNested
namespace Go.Proofs.Yteljalgfkmnamaa
open Go.RowKit Go.Shelf

def inC (v : Int) : List Value := [.int .i64 v]
theorem inC_cells {w : World} {g o : Nat} {x : Int} (h : w.rangeAt g o (inC x)) : w.cell? ⟨g, o, none⟩ = some (.int .i64 x) := h 0 _ rfl
theorem inC_ones : ∀ (d : Int), ∀ u ∈ inC d, u.oneCell' = true := by
  intro d u hu
  simp only [inC, List.mem_cons, List.not_mem_nil, or_false] at hu
  rw [hu]
  rfl
theorem flat_inC (L : List Int) : L.flatMap inC = L.map (Value.int .i64) := by
  induction L with
  | nil => rfl
  | cons d L ih => rw [List.flatMap_cons, List.map_cons, ih]; rfl
theorem i_i64 : (Try.prog.info? 2).map (fun i => (i.zero, i.size, i.bytes)) = some (some (.int .i64 0), 1, 8) := by kernel_rfl
theorem list_eq_of {α : Type} [Inhabited α] {xs ys : List α} (hl : xs.length = ys.length) (h : ∀ j, j < xs.length → xs.getD j default = ys.getD j default) : xs = ys := by
  apply List.ext_getElem hl
  intro i h1 h2
  have := h i h1
  rwa [List.getD_eq_getElem?_getD, List.getD_eq_getElem?_getD, List.getElem?_eq_getElem h1, List.getElem?_eq_getElem h2] at this

/-- A row of one's own that was made since. -/
def NewRow {α : Type} (cells : α → List Value) (k : Nat) (t : TypeId) (xs : List α) (w : World) (e : Ending) (w' : World) : Prop :=
  ∃ v, e = .returned v ∧ w'.ownsRow w.heap.size t k v xs.length (xs.flatMap cells) ∧ Below w.heap.size w w'
theorem ownsRow_putObj {w : World} {b D k n : Nat} {e : TypeId} {v : Value} {xs : List Value} {o o' : Obj} (h : w.ownsRow b e k v n xs) (hD : w.heap[D]? = some o') (ho : ∀ cs t p, o' ≠ .cells cs t p) : (w.putObj D o).ownsRow b e k v n xs := by
  refine ⟨h.1, ?_⟩
  rcases h.2 with h0 | ⟨g, cap, cur, rfl, hb, hgb, h3⟩
  · exact .inl h0
  · exact .inr ⟨g, cap, cur, rfl, hb, (World.putObj_heap_other (fun e => by rw [e, hD] at hgb; exact ho _ _ _ (by simpa using hgb))).trans hgb, h3⟩
theorem own_low {w : World} {b b' k n : Nat} {e : TypeId} {v : Value} {xs : List Value} (h : w.ownsRow b e k v n xs) (hb : b' ≤ b) : w.ownsRow b' e k v n xs := by
  refine ⟨h.1, ?_⟩
  rcases h.2 with h0 | ⟨g, cap, cur, e, h1, h3⟩
  · exact .inl h0
  · exact .inr ⟨g, cap, cur, e, by omega, h3⟩
/-- A new row reads as a slice. -/
theorem newrow_src {α : Type} {cells : α → List Value} {k : Nat} {t : TypeId} {xs : List α} {w w' : World} {e : Ending} (hc : ∀ a, (cells a).length = k) (h : NewRow cells k t xs w e w') :
    ∃ A c, e = .returned (.slice A xs.length c) ∧ RSrc cells k w' ⟨A, xs.length, c⟩ xs ∧ (∀ ad, A = some ad → w.heap.size ≤ ad.block) ∧ Below w.heap.size w w' := by
  obtain ⟨v, rfl, hr, hb⟩ := h
  obtain ⟨⟨A, n, c⟩, rfl, hs, hA⟩ := rsrc_of_own hc rfl hr
  have hn : xs.length = n := hs.len
  subst hn
  refine ⟨A, c, rfl, hs, fun ad e => ?_, hb⟩
  subst e
  exact (own_typed hr hA.symm).1
/-- A block that was just made reads as a slice. -/
theorem rsrc_whole {α : Type} {cells : α → List Value} {k : Nat} (hc : ∀ a, (cells a).length = k) {w : World} {g : Nat} {t : TypeId} {xs : List α} (h : Whole w g t (xs.flatMap cells).toArray) (hl : xs.length ≤ 1000000) : RSrc cells k w ⟨some ⟨g, 0, none⟩, xs.length, xs.length⟩ xs :=
  ⟨rfl, Nat.le_refl _, by show xs.length ≤ _; omega, (fun e => by cases e), fun _ => ⟨g, 0, rfl, fun i x hx j v hv => by
    have hj : j < k := by have := (List.getElem?_eq_some_iff.1 hv).1; rwa [hc] at this
    rw [h.cell, List.getElem?_toArray, Nat.zero_add, flat_get hc xs i x j hx hj]
    exact hv⟩⟩

end Go.Proofs.Yteljalgfkmnamaa
