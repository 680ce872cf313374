/- The first of a sign, found from behind; what a trimmed line's parts are. No condition. -/
import Derived.Test.YtdeiohcciafffaaGreatDoorTRNum
namespace Go.Proofs.YtdeiohcciafffaaGreatDoor
open Go.RowKit Go.Shelf

/-- The place of the first sign c from place m on; the end, if there is none. -/
def lastF (c : UInt8) (l : List UInt8) (m : Nat) : Nat := m + (aheadL c (l.drop m)).length
theorem lastF_end (c : UInt8) (l : List UInt8) : lastF c l l.length = l.length := by simp [lastF, aheadL]
theorem lastF_le (c : UInt8) (l : List UInt8) {m : Nat} (hm : m ≤ l.length) : lastF c l m ≤ l.length := by
  have := ahead_le c (l.drop m)
  rw [List.length_drop] at this
  unfold lastF
  omega
theorem drop_pred {l : List UInt8} {m : Nat} (h0 : 0 < m) (hm : m ≤ l.length) : l.drop (m - 1) = l[m - 1]'(by omega) :: l.drop m := by
  rw [List.drop_eq_getElem_cons (by omega)]
  congr 2
  omega
theorem lastF_hit {c : UInt8} {l : List UInt8} {m : Nat} (h0 : 0 < m) (hm : m ≤ l.length) (h : l[m - 1]'(by omega) = c) : lastF c l (m - 1) = m - 1 := by
  rw [lastF, drop_pred h0 hm, h]
  simp [aheadL]
theorem lastF_miss {c : UInt8} {l : List UInt8} {m : Nat} (h0 : 0 < m) (hm : m ≤ l.length) (h : l[m - 1]'(by omega) ≠ c) : lastF c l (m - 1) = lastF c l m := by
  rw [lastF, drop_pred h0 hm, lastF, aheadL, List.takeWhile_cons, if_pos (by simpa using h), List.length_cons]
  unfold aheadL
  omega
theorem has_hit {c : UInt8} {l : List UInt8} {m : Nat} (h0 : 0 < m) (hm : m ≤ l.length) (h : l[m - 1]'(by omega) = c) : (l.drop (m - 1)).contains c = true := by
  rw [drop_pred h0 hm, h]
  simp
theorem has_miss {c : UInt8} {l : List UInt8} {m : Nat} (h0 : 0 < m) (hm : m ≤ l.length) (h : l[m - 1]'(by omega) ≠ c) : (l.drop (m - 1)).contains c = (l.drop m).contains c := by
  rw [drop_pred h0 hm, List.contains_cons]
  have : (c == l[m - 1]'(by omega)) = false := by simpa using fun e => h e.symm
  rw [this, Bool.false_or]
theorem take_ahead (c : UInt8) (l : List UInt8) : l.take (aheadL c l).length = aheadL c l := (List.prefix_iff_eq_take.1 (List.takeWhile_prefix _)).symm
theorem drop_behind (c : UInt8) : ∀ (l : List UInt8), l.drop ((aheadL c l).length + 1) = behindL c l
  | [] => rfl
  | b :: r => by
    have ih := drop_behind c r
    unfold aheadL behindL at ih ⊢
    rw [List.takeWhile_cons, List.dropWhile_cons]
    cases h : (b != c)
    · rfl
    · simpa using ih
theorem head_not {p : UInt8 → Bool} {l : List UInt8} {b : UInt8} (h : (l.dropWhile p).head? = some b) : p b = false := by
  have := List.head?_dropWhile_not p l
  rw [h] at this
  simpa using this
theorem trimS_head {x : List UInt8} {b : UInt8} (h : (Lib.trimS x blanksL).head? = some b) : blanksL.contains b = false := head_not (p := (blanksL.contains ·)) h
theorem right_last {x : List UInt8} {b : UInt8} (h : (Lib.trimRightS x blanksL).getLast? = some b) : blanksL.contains b = false := by
  unfold Lib.trimRightS at h
  rw [List.getLast?_reverse] at h
  exact head_not (p := (blanksL.contains ·)) h
theorem suffix_last {s y : List UInt8} (h : s <:+ y) (hs : s ≠ []) : y.getLast? = s.getLast? := by
  obtain ⟨t, rfl⟩ := h
  rw [List.getLast?_append]
  cases h : s.getLast? with
  | none => exact absurd (List.getLast?_eq_none_iff.1 h) hs
  | some b => rfl
theorem trimS_last {x : List UInt8} {b : UInt8} (h : (Lib.trimS x blanksL).getLast? = some b) : blanksL.contains b = false := by
  have hne : Lib.trimS x blanksL ≠ [] := by rintro e; rw [e] at h; simp at h
  exact right_last (x := x) (by rw [suffix_last (List.dropWhile_suffix _) hne]; exact h)
theorem left_same {x : List UInt8} (h : ∀ b, x.head? = some b → blanksL.contains b = false) : Lib.trimLeftS x blanksL = x := by
  cases x with
  | nil => rfl
  | cons b r => rw [Lib.trimLeftS, List.dropWhile_cons, if_neg (by rw [h b rfl]; simp)]
theorem right_same {x : List UInt8} (h : ∀ b, x.getLast? = some b → blanksL.contains b = false) : Lib.trimRightS x blanksL = x := by
  have h2 : ∀ b, x.reverse.head? = some b → blanksL.contains b = false := fun b hb => h b (by rw [List.head?_reverse] at hb; exact hb)
  have h3 : x.reverse.dropWhile (blanksL.contains ·) = x.reverse := left_same h2
  rw [Lib.trimRightS, h3, List.reverse_reverse]
theorem prefix_head {s y : List UInt8} (h : s <+: y) {b : UInt8} (hb : s.head? = some b) : y.head? = some b := by
  obtain ⟨t, rfl⟩ := h
  cases s with
  | nil => simp at hb
  | cons a r => simpa using hb
theorem right_prefix (x : List UInt8) : Lib.trimRightS x blanksL <+: x := by
  unfold Lib.trimRightS
  have := List.dropWhile_suffix (l := x.reverse) (blanksL.contains ·)
  rw [← List.reverse_prefix, List.reverse_reverse] at this
  exact this
/-- The name of a trimmed line, trimmed at both ends, is the name trimmed at its end. -/
theorem name_trim (x : List UInt8) : Lib.trimS (aheadL 61 (Lib.trimS x blanksL)) blanksL = nameOf (Lib.trimS x blanksL) := by
  rw [Lib.trimS, left_same]; · rfl
  intro b hb
  exact trimS_head (x := x) (prefix_head (List.takeWhile_prefix _) (prefix_head (right_prefix _) hb))
theorem rest_trim (x : List UInt8) : Lib.trimS (behindL 61 (Lib.trimS x blanksL)) blanksL = restOf (Lib.trimS x blanksL) := by
  rw [Lib.trimS, right_same]; · rfl
  intro b hb
  have hs : behindL 61 (Lib.trimS x blanksL) <:+ Lib.trimS x blanksL := (List.drop_suffix _ _).trans (List.dropWhile_suffix _)
  refine trimS_last (x := x) ?_
  rw [suffix_last hs (by rintro e; rw [e] at hb; simp at hb)]
  exact hb
theorem say_without {c : List UInt8} (h : c.contains 61 = false) : sayT c = none := by
  have h1 : restOf c = [] := by rw [restOf, (ahead_all h).2]; rfl
  have h2 : wholeT [] = none := rfl
  unfold sayT
  rw [h1, h2]
  split <;> rfl
/-- What a line's answer is. -/
def lineV (l : List UInt8) : Value := match lineT l with
  | .nothing => .tuple #[.int .i64 (-2), .int .i64 0]
  | .wrong => .tuple #[.int .i64 (-1), .int .i64 0]
  | .at_ k n => .tuple #[.int .i64 (k : Int), .int .i64 (n : Int)]
end Go.Proofs.YtdeiohcciafffaaGreatDoor
