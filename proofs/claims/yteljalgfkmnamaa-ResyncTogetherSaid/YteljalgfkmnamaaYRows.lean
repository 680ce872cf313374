/- Rows of numbers, as a slice of slices. No condition. -/
import Derived.Test.YteljalgfkmnamaaYTurn
namespace Go.Proofs.Yteljalgfkmnamaa
open Go.RowKit Go.Shelf

instance : Inhabited Sl := ⟨nilS⟩
/-- A slice's cell. -/
def slC (s : Sl) : List Value := [s.v]
theorem slC_cells {w : World} {g o : Nat} {s : Sl} (h : w.rangeAt g o (slC s)) : w.cell? ⟨g, o, none⟩ = some s.v := h 0 _ rfl
/-- The slice reads as slices, each of which reads as numbers. -/
structure Rws (w : World) (S : Sl) (ss : List Sl) (L : List (List Int)) : Prop where
  src : RSrc slC 1 w S ss
  len : L.length = ss.length
  row : ∀ i, i < ss.length → RSrc inC 1 w (ss.getD i default) (L.getD i [])
theorem Rws.later {w w' : World} {S : Sl} {ss : List Sl} {L : List (List Int)} (h : Rws w S ss L) (hb : Below w.heap.size w w') : Rws w' S ss L :=
  ⟨h.src.later hb, h.len, fun i hi => (h.row i hi).later hb⟩
theorem Rws.many {w : World} {S : Sl} {ss : List Sl} {L : List (List Int)} (h : Rws w S ss L) : L.length = S.n := h.len.trans h.src.len
/-- Each is short enough. -/
def Short (ss : List Sl) (N : Nat) : Prop := ∀ i, i < ss.length → (ss.getD i default).n ≤ N
end Go.Proofs.Yteljalgfkmnamaa
