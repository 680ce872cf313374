/- Of of a group, and the document's own, each by a contract. -/
import Derived.Test.YtnpjldolppikfaaGList
namespace Go.Proofs.Ytnpjldolppikfaa
open Go.RowKit

/-- The group of a list of numbers; 0, if one is no node. -/
def ofV (l : List Int) : Nat := if l.all nodeB = true then l.foldl withG 0 else 0
/-- The error that stands beside it. -/
def ofE (l : List Int) : Int := if l.all nodeB = true then 0 else 2

theorem fold_lt (l : List Int) : ∀ g, g < 65536 → l.foldl withG g < 65536 := by
  induction l with
  | nil => intro g h; exact h
  | cons x l ih => intro g h; exact ih _ (withG_lt x h)
theorem fold_take {l : List Int} {k : Nat} (h : k < l.length) : (l.take (k + 1)).foldl withG 0 = withG ((l.take k).foldl withG 0) l[k] := by
  rw [List.take_succ_eq_append_getElem h, List.foldl_append]
  rfl
theorem ofV_lt (l : List Int) : ofV l < 65536 := by
  unfold ofV
  split
  · exact fold_lt l 0 (by decide)
  · decide
theorem all_of {l : List Int} (h : ∀ j (hj : j < l.length), nodeB l[j] = true) : l.all nodeB = true := by
  rw [List.all_eq_true]
  intro x hx
  obtain ⟨j, hj, rfl⟩ := List.getElem_of_mem hx
  exact h j hj
theorem all_no {l : List Int} {j : Nat} (hj : j < l.length) (h : nodeB l[j] = false) : l.all nodeB = false := by
  rw [← Bool.not_eq_true, List.all_eq_true]
  intro hall
  rw [hall _ (List.getElem_mem hj)] at h
  cases h

/-- What Of says. -/
def SaysOf (w : World) (l : List Int) (e : Ending) (w' : World) : Prop := e = .returned (.tuple #[.int .u16 ((ofV l : Nat) : Int), .int .i64 (ofE l)]) ∧ w = w'
theorem SaysOf.good {w : World} {l : List Int} (h : l.all nodeB = true) : SaysOf w l (.returned (.tuple #[.int .u16 ((l.foldl withG 0 : Nat) : Int), .int .i64 0])) w := by
  refine ⟨?_, rfl⟩
  rw [ofV, ofE, if_pos h, if_pos h]
theorem SaysOf.bad {w : World} {l : List Int} (h : l.all nodeB = false) : SaysOf w l (.returned (.tuple #[.int .u16 0, .int .i64 2])) w := by
  refine ⟨?_, rfl⟩
  rw [ofV, ofE, if_neg (by rw [h]; decide), if_neg (by rw [h]; decide)]
  rfl

end Go.Proofs.Ytnpjldolppikfaa
