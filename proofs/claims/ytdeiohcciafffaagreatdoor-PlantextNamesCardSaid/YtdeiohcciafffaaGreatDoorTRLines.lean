/- The document's Lines: a text's lines, in a new row, by a contract. No condition. -/
import Derived.Test.YtdeiohcciafffaaGreatDoorTRLine
import Derived.Test.YtdeiohcciafffaaGreatDoorTNamesP
namespace Go.Proofs.YtdeiohcciafffaaGreatDoor
open Go.RowKit Go.Shelf

/-- Texts as values. -/
def strV (ls : List (List UInt8)) : List Value := ls.map fun l => .string (txt l)
theorem strV_append (a b : List (List UInt8)) : strV (a ++ b) = strV a ++ strV b := by simp [strV]
theorem strV_length (a : List (List UInt8)) : (strV a).length = a.length := by simp [strV]
theorem strV_get {a : List (List UInt8)} {k : Nat} (hk : k < a.length) : (strV a)[k]? = some (.string (txt a[k])) := by
  rw [strV, List.getElem?_map, List.getElem?_eq_getElem hk]
  rfl
theorem linesT_app {p : List UInt8} (h : p.contains 10 = false) (r : List UInt8) : linesT (p ++ 10 :: r) = p :: linesT r := by
  induction p with
  | nil => simp [linesT]
  | cons c t ih =>
    rw [List.contains_cons] at h
    have h1 : c ≠ 10 := by rintro rfl; simp at h
    have h2 : t.contains 10 = false := by
      cases hr : t.contains 10
      · rfl
      · rw [hr] at h; simp at h
    rw [List.cons_append]
    conv => lhs; unfold linesT
    rw [if_neg h1, ih h2]

/-- A text's lines are handed back, in a new row of one's own. -/
def FreshS (w : World) (ls : List (List UInt8)) (e : Ending) (w' : World) : Prop := ∃ v, e = .returned v ∧ w'.ownsRow w.heap.size 9 1 v ls.length (strV ls) ∧ Below w.heap.size w w'
theorem FreshS.opened {w w' : World} {ls : List (List UInt8)} {e : Ending} (h : FreshS w ls e w') (h0 : ls ≠ []) : ∃ b c, e = .returned (.slice (some ⟨b, 0, none⟩) ls.length c) ∧ w.heap.size ≤ b ∧ b < w'.heap.size ∧ (∀ k (hk : k < ls.length), w'.cell? ⟨b, k, none⟩ = some (.string (txt ls[k]))) ∧ (∀ k, w'.frozen? ⟨b, k, none⟩ = false) ∧ Below w.heap.size w w' := by
  obtain ⟨v, rfl, hown, hb⟩ := h
  rcases hown.2 with ⟨rfl, h1⟩ | ⟨g, cap, cur, rfl, hg, hblk, _⟩
  · exact absurd (List.length_eq_zero_iff.1 h1) h0
  · exact ⟨g, cap, rfl, hg, (Array.getElem?_eq_some_iff.1 hblk).1, fun k hk => by rw [hown.cellAt k (by omega), strV_get hk], fun k => hown.frozenAt k, hb⟩

end Go.Proofs.YtdeiohcciafffaaGreatDoor
