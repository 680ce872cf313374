/- A line that says nothing, put in among lines: what is read then. No condition. -/
import Derived.Test.YtdeiohcciafffaaGreatDoorTValM
namespace Go.Proofs.YtdeiohcciafffaaGreatDoor
open Go.RowKit Go.Shelf

/-- Texts joined by line feeds have these very lines. -/
theorem lines_join : ∀ (x : List UInt8) (r : List (List UInt8)), (∀ y ∈ x :: r, y.contains 10 = false) → linesT (Lib.join (x :: r) [10]) = x :: r
  | x, [], h => by
    rw [Lib.join_one, linesT_last (h x (by simp))]
  | x, y :: r, h => by
    have ih := lines_join y r fun z hz => h z (by simp at hz ⊢; exact .inr hz)
    have e : Lib.join (x :: y :: r) [10] = x ++ 10 :: Lib.join (y :: r) [10] := by simp [Lib.join_cons, Lib.joinTail]
    rw [e, linesT_app (h x (by simp)), ih]
theorem lines_no : ∀ {l x : List UInt8}, x ∈ linesT l → x.contains 10 = false
  | [], x, h => by
    simp [linesT] at h
    subst h
    rfl
  | c :: r, x, h => by
    unfold linesT at h
    split at h
    · rcases List.mem_cons.1 h with rfl | h
      · rfl
      · exact lines_no h
    · rename_i hc
      split at h
      · rename_i e
        exact absurd e (linesT_ne r)
      · rename_i hd t e
        rcases List.mem_cons.1 h with rfl | h
        · have := lines_no (l := r) (x := hd) (by rw [e]; simp)
          rw [List.contains_cons, this, Bool.or_false]
          simpa using fun e => hc e.symm
        · exact lines_no (l := r) (by rw [e]; simp [h])
theorem join_lines (l : List UInt8) : Lib.join (linesT l) [10] = l := by
  induction l with
  | nil => rfl
  | cons c r ih =>
    unfold linesT
    split
    · rename_i hc
      subst hc
      cases hl : linesT r with
      | nil => exact absurd hl (linesT_ne r)
      | cons y t =>
        rw [hl] at ih
        rw [Lib.join_cons]
        rw [Lib.join_cons] at ih
        simp [Lib.joinTail] at ih ⊢
        exact ih
    · split
      · rename_i e
        exact absurd e (linesT_ne r)
      · rename_i hd t e
        rw [e, Lib.join_cons] at ih
        rw [Lib.join_cons, ← ih]
        rfl
/-- A tab, a space, and a remark. -/
theorem remark_nothing (r : List UInt8) : lineT (9 :: 32 :: 35 :: r) = .nothing := by
  have h : countT (9 :: 32 :: 35 :: r) = [] := by
    have e : aheadL 35 (9 :: 32 :: 35 :: r) = [9, 32] := by simp [aheadL]
    rw [countT, e]
    decide
  unfold lineT
  rw [if_pos h]
/-- The number of a wrong line behind n others is one more. -/
def moved (n k : Nat) : Nat := if n < k then n else n + 1
theorem scan_ge : ∀ (b : List (List UInt8)) (k : Nat) (s : St8), (scanT b k s).1 = 0 ∨ k ≤ (scanT b k s).1
  | [], _, _ => .inl rfl
  | l :: r, k, s => by
    have h1 := fun s => scan_ge r (k + 1) s
    unfold scanT
    split
    · rcases h1 s with h | h
      · exact .inl h
      · exact .inr (by omega)
    · exact .inr (Nat.le_refl _)
    · split
      · exact .inr (Nat.le_refl _)
      · rename_i p n _ _
        rcases h1 (s.put p n) with h | h
        · exact .inl h
        · exact .inr (by omega)
theorem scan_later : ∀ (b : List (List UInt8)) (k : Nat) (s : St8), 0 < k → scanT b (k + 1) s = (if (scanT b k s).1 = 0 then 0 else (scanT b k s).1 + 1, (scanT b k s).2)
  | [], _, _, _ => rfl
  | l :: r, k, s, hk => by
    have h1 := fun s => scan_later r (k + 1) s (by omega)
    unfold scanT
    split
    · exact h1 s
    · simp; omega
    · split
      · simp; omega
      · exact h1 _
theorem scan_put {x : List UInt8} (hx : lineT x = .nothing) (b : List (List UInt8)) : ∀ (a : List (List UInt8)) (k : Nat) (s : St8), 0 < k →
    scanT (a ++ x :: b) k s = (if (scanT (a ++ b) k s).1 < k + a.length then (scanT (a ++ b) k s).1 else (scanT (a ++ b) k s).1 + 1, (scanT (a ++ b) k s).2)
  | [], k, s, hk => by
    have h := scan_later b k s hk
    have hg := scan_ge b k s
    rw [List.nil_append, List.nil_append, scanT, hx, h]
    simp only [List.length_nil, Nat.add_zero]
    congr 1
    rcases hg with g | g
    · rw [if_pos g, if_pos (by omega), g]
    · rw [if_neg (by omega), if_neg (by omega)]
  | l :: a, k, s, hk => by
    have h1 := fun s => scan_put hx b a (k + 1) s (by omega)
    have e : k + 1 + a.length = k + (l :: a).length := by simp; omega
    rw [e] at h1
    rw [List.cons_append, List.cons_append]
    conv => lhs; unfold scanT
    conv => rhs; unfold scanT
    split
    · exact h1 s
    · simp
    · split
      · simp
      · exact h1 _
/-- What Parse answers of a text among whose lines one that says nothing was put. -/
theorem parse_put {l : List UInt8} {x : List UInt8} {k : Nat} (hx : lineT x = .nothing) (hn : x.contains 10 = false) (hk : k ≤ (linesT l).length) (hl : l.length ≤ 4000)
    (h4 : (Lib.join ((linesT l).take k ++ x :: (linesT l).drop k) [10]).length ≤ 4000) :
    errT (Lib.join ((linesT l).take k ++ x :: (linesT l).drop k) [10]) = errT l ∧ planT (Lib.join ((linesT l).take k ++ x :: (linesT l).drop k) [10]) = planT l ∧
    lineNo (Lib.join ((linesT l).take k ++ x :: (linesT l).drop k) [10]) = if k < lineNo l then lineNo l + 1 else lineNo l := by
  have hall : ∀ y ∈ (linesT l).take k ++ x :: (linesT l).drop k, y.contains 10 = false := by
    intro y hy
    rw [List.mem_append, List.mem_cons] at hy
    rcases hy with hy | rfl | hy
    · exact lines_no (List.mem_of_mem_take hy)
    · exact hn
    · exact lines_no (List.mem_of_mem_drop hy)
  have hL : linesT (Lib.join ((linesT l).take k ++ x :: (linesT l).drop k) [10]) = (linesT l).take k ++ x :: (linesT l).drop k := by
    cases ht : (linesT l).take k with
    | nil => rw [ht] at hall; exact lines_join _ _ hall
    | cons y t => rw [ht] at hall; exact lines_join _ _ hall
  have hs := scan_put hx ((linesT l).drop k) ((linesT l).take k) 1 St8.start (by omega)
  rw [List.take_append_drop, List.length_take, Nat.min_eq_left hk] at hs
  have hg := scan_ge (linesT l) 1 St8.start
  have hlo : lineNo l = (scanT (linesT l) 1 St8.start).1 := if_neg (by omega)
  have hno : lineNo (Lib.join ((linesT l).take k ++ x :: (linesT l).drop k) [10]) = if k < lineNo l then lineNo l + 1 else lineNo l := by
    rw [lineNo, if_neg (by omega), hL, hs, hlo]
    simp only
    by_cases h : (scanT (linesT l) 1 St8.start).1 < 1 + k
    · rw [if_pos h, if_neg (by omega)]
    · rw [if_neg h, if_pos (by omega)]
  have hz : ((scanT (linesT (Lib.join ((linesT l).take k ++ x :: (linesT l).drop k) [10])) 1 St8.start).1 ≠ 0) ↔ ((scanT (linesT l) 1 St8.start).1 ≠ 0) := by
    rw [hL, hs]
    simp only
    split <;> omega
  have he : errT (Lib.join ((linesT l).take k ++ x :: (linesT l).drop k) [10]) = errT l := by
    unfold errT
    rw [decide_eq_decide.2 hz, hL, hs]
    have e1 : decide (4000 < (Lib.join ((linesT l).take k ++ x :: (linesT l).drop k) [10]).length) = false := decide_eq_false (by omega)
    have e2 : decide (4000 < l.length) = false := decide_eq_false (by omega)
    rw [e1, e2]
  refine ⟨he, ?_, hno⟩
  unfold planT
  rw [he, hL, hs]
end Go.Proofs.YtdeiohcciafffaaGreatDoor
