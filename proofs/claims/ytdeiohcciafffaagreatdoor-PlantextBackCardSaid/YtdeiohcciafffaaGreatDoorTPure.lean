/- What a text says, line by line: functions of its bytes. No condition. -/
import Derived.Test.YtdeiohcciafffaaGreatDoorTFind
import Derived.Lib.IndexMore
import Derived.Lib.IndexBytes
import Derived.Lib.SlTrimSet
namespace Go.Proofs.YtdeiohcciafffaaGreatDoor
open Go.RowKit Go.Shelf

/-- What stands ahead of the first sign c, and behind it. -/
def aheadL (c : UInt8) (l : List UInt8) : List UInt8 := l.takeWhile (· != c)
def behindL (c : UInt8) (l : List UInt8) : List UInt8 := (l.dropWhile (· != c)).drop 1
theorem index_neg {l : List UInt8} {c : UInt8} : Lib.indexByte l c = -1 ↔ l.contains c = false := by
  induction l with
  | nil => simp [Lib.indexByte]
  | cons b r ih =>
    have hg := Lib.indexByte_ge r c
    unfold Lib.indexByte
    by_cases hb : b = c
    · subst hb
      simp
    · have h1 : (b == c) = false := by simpa using hb
      have h2 : (c == b) = false := by simpa using fun e => hb e.symm
      rw [h1, List.contains_cons, h2]
      by_cases hr : Lib.indexByte r c = -1
      · have h3 := ih.1 hr
        rw [h3]
        simp [hr]
      · have : r.contains c = true := by
          cases h : r.contains c
          · exact absurd (ih.2 h) hr
          · rfl
        have hne : (Lib.indexByte r c == -1) = false := by simpa using hr
        simp only [hne, this]
        simp
        omega
theorem cut_found (c : UInt8) : ∀ (l : List UInt8), l.contains c = true → 0 ≤ Lib.indexByte l c ∧ l.take (Lib.indexByte l c).toNat = aheadL c l ∧ l.drop ((Lib.indexByte l c).toNat + 1) = behindL c l
  | [], h => by simp at h
  | b :: r, h => by
    have hg := Lib.indexByte_ge r c
    unfold Lib.indexByte
    by_cases hb : b = c
    · subst hb
      simp [aheadL, behindL]
    · have h1 : (b == c) = false := by simpa using hb
      have h2 : (c == b) = false := by simpa using fun e => hb e.symm
      have h3 : (b != c) = true := by simpa using hb
      rw [List.contains_cons, h2] at h
      have hr : r.contains c = true := by simpa using h
      obtain ⟨i1, i2, i3⟩ := cut_found c r hr
      have hne : (Lib.indexByte r c == -1) = false := by simp; omega
      have e : (Lib.indexByte r c + 1).toNat = (Lib.indexByte r c).toNat + 1 := by omega
      simp only [h1, hne, Bool.false_eq_true, if_false]
      refine ⟨by omega, ?_, ?_⟩
      · rw [e, List.take_succ_cons, i2, aheadL, aheadL, List.takeWhile_cons, h3]
        rfl
      · rw [e, List.drop_succ_cons, i3, behindL, behindL, List.dropWhile_cons, h3]
        rfl
theorem ahead_all {c : UInt8} {l : List UInt8} (h : l.contains c = false) : aheadL c l = l ∧ behindL c l = [] := by
  have hall : ∀ x ∈ l, (x != c) = true := by
    intro x hx
    have : ¬ c ∈ l := by simpa using h
    have : x ≠ c := fun e => this (e ▸ hx)
    simpa using this
  constructor
  · unfold aheadL
    induction l with
    | nil => rfl
    | cons b r ih =>
      rw [List.takeWhile_cons, hall b (by simp)]
      simp only [if_true]
      rw [ih (by rw [List.contains_cons] at h; cases hr : r.contains c; { rfl }; { rw [hr] at h; simp at h }) fun x hx => hall x (by simp [hx])]
  · unfold behindL
    have : l.dropWhile (· != c) = [] := by
      clear h
      induction l with
      | nil => rfl
      | cons b r ih =>
        rw [List.dropWhile_cons, hall b (by simp)]
        simp only [if_true]
        exact ih fun x hx => hall x (by simp [hx])
    rw [this]
    rfl
theorem cut_eq (l : List UInt8) (c : UInt8) : Lib.cut l [c] = (aheadL c l, behindL c l, l.contains c) := by
  unfold Lib.cut
  rw [Lib.index_one]
  cases h : l.contains c
  · rw [index_neg.2 h, if_neg (by decide), (ahead_all h).1, (ahead_all h).2]
  · obtain ⟨i1, i2, i3⟩ := cut_found c l h
    rw [if_pos i1, i2]
    exact congrArg (fun x => (aheadL c l, x, true)) i3
theorem ahead_le (c : UInt8) (l : List UInt8) : (aheadL c l).length ≤ l.length := (List.takeWhile_sublist _).length_le
theorem behind_le (c : UInt8) (l : List UInt8) : (behindL c l).length ≤ l.length := by
  unfold behindL
  rw [List.length_drop]
  have := (List.dropWhile_sublist (l := l) (p := (· != c))).length_le
  omega
theorem behind_lt {c : UInt8} {l : List UInt8} (h : l.contains c = true) : (behindL c l).length < l.length := by
  obtain ⟨i1, i2, i3⟩ := cut_found c l h
  rw [← i3, List.length_drop]
  have : 0 < l.length := by
    cases l with
    | nil => simp at h
    | cons _ _ => simp
  omega
theorem ahead_behind {c : UInt8} : ∀ {l : List UInt8}, l.contains c = true → aheadL c l ++ c :: behindL c l = l
  | [], h => by simp at h
  | b :: r, h => by
    unfold aheadL behindL
    by_cases hb : b = c
    · subst hb
      simp
    · have h2 : (c == b) = false := by simpa using fun e => hb e.symm
      have h3 : (b != c) = true := by simpa using hb
      rw [List.contains_cons, h2] at h
      have := ahead_behind (l := r) (by simpa using h)
      unfold aheadL behindL at this
      rw [List.takeWhile_cons, List.dropWhile_cons, h3]
      simp only [if_true, List.cons_append, this]

/-- A text's lines. -/
def linesT : List UInt8 → List (List UInt8)
  | [] => [[]]
  | c :: r => if c = 10 then [] :: linesT r else match linesT r with
    | [] => [[c]]
    | h :: t => (c :: h) :: t
theorem linesT_ne (l : List UInt8) : linesT l ≠ [] := by
  cases l with
  | nil => simp [linesT]
  | cons c r =>
    unfold linesT
    split
    · simp
    · split <;> simp
theorem linesT_last {l : List UInt8} (h : l.contains 10 = false) : linesT l = [l] := by
  induction l with
  | nil => rfl
  | cons c r ih =>
    rw [List.contains_cons] at h
    have h1 : c ≠ 10 := by rintro rfl; simp at h
    have h2 : r.contains 10 = false := by
      cases hr : r.contains 10
      · rfl
      · rw [hr] at h; simp at h
    unfold linesT
    rw [if_neg h1, ih h2]
theorem linesT_more {l : List UInt8} (h : l.contains 10 = true) : linesT l = aheadL 10 l :: linesT (behindL 10 l) := by
  induction l with
  | nil => simp at h
  | cons c r ih =>
    by_cases hc : c = 10
    · subst hc
      simp [linesT, aheadL, behindL]
    · have h2 : r.contains 10 = true := by
        rw [List.contains_cons] at h
        have : ((10 : UInt8) == c) = false := by simpa using fun e => hc e.symm
        simpa [this] using h
      have h3 : (c != 10) = true := by simpa using hc
      have e0 : linesT (c :: r) = match linesT r with | [] => [[c]] | h :: t => (c :: h) :: t := by
        conv => lhs; unfold linesT
        rw [if_neg hc]
      rw [e0, ih h2]
      have e1 : aheadL 10 (c :: r) = c :: aheadL 10 r := by simp [aheadL, h3]
      have e2 : behindL 10 (c :: r) = behindL 10 r := by simp [behindL, h3]
      simp only [e1, e2]
theorem linesT_len (l : List UInt8) : (linesT l).length ≤ l.length + 1 := by
  induction l with
  | nil => simp [linesT]
  | cons c r ih =>
    unfold linesT
    split
    · simpa using ih
    · split
      · simp
      · rename_i h t e
        rw [e] at ih
        simp at ih ⊢
        omega

/-- Blanks. -/
def blanksL : List UInt8 := [32, 9]
/-- What counts of a line. -/
def countT (l : List UInt8) : List UInt8 := Lib.trimS (aheadL 35 l) blanksL
/-- The number that digits are; none, if they may not be one. -/
def digitsV (l : List UInt8) : Nat := l.foldl (fun n d => 10 * n + (d.toNat - 48)) 0
def digitB (d : UInt8) : Bool := decide (48 ≤ d.toNat ∧ d.toNat ≤ 57)
def wholeT (l : List UInt8) : Option Nat :=
  if l = [] ∨ 15 < l.length ∨ (l.head? = some 48 ∧ 1 < l.length) then none else if l.all digitB then some (digitsV l) else none
/-- The name and the number that are said. -/
def nameOf (l : List UInt8) : List UInt8 := Lib.trimRightS (aheadL 61 l) blanksL
def restOf (l : List UInt8) : List UInt8 := Lib.trimLeftS (behindL 61 l) blanksL
def sayT (l : List UInt8) : Option (Nat × Nat) :=
  if placeL (nameOf l) < 16 then (wholeT (restOf l)).map fun n => (placeL (nameOf l), n) else none
/-- What a line says: nothing, or a number at a place; or it has not the form. -/
inductive Said8 where
  | nothing
  | wrong
  | at_ (k n : Nat)
def lineT (l : List UInt8) : Said8 := if countT l = [] then .nothing else match sayT (countT l) with
  | none => .wrong
  | some (k, n) => .at_ k n
/-- What was said: a number at each place, or none yet. -/
abbrev St8 : Type := Nat → Option Nat
def St8.start : St8 := fun _ => none
def St8.put (s : St8) (k n : Nat) : St8 := fun j => if j = k then some n else s j
/-- Lines, from one of a number on: the number of the first wrong one (0, if there is none), and what was said ahead of it. -/
def scanT : List (List UInt8) → Nat → St8 → Nat × St8
  | [], _, s => (0, s)
  | l :: r, at_, s => match lineT l with
    | .nothing => scanT r (at_ + 1) s
    | .wrong => (at_, s)
    | .at_ k n => if (s k).isSome then (at_, s) else scanT r (at_ + 1) (s.put k n)
/-- How many were said. -/
def St8.count (s : St8) : Nat := ((List.range 16).filter fun k => (s k).isSome).length
/-- The plan of what was said. -/
def St8.plan (s : St8) : Pl := planL fun k => ((s k).getD 0 : Nat)

/-- What Parse answers: the error, the line, the plan. -/
def errT (l : List UInt8) : Bool := decide (4000 < l.length) || decide ((scanT (linesT l) 1 St8.start).1 ≠ 0) || decide ((scanT (linesT l) 1 St8.start).2.count ≠ 16)
def lineNo (l : List UInt8) : Nat := if 4000 < l.length then 0 else (scanT (linesT l) 1 St8.start).1
def planT (l : List UInt8) : Pl := if errT l then zeroP else (scanT (linesT l) 1 St8.start).2.plan
end Go.Proofs.YtdeiohcciafffaaGreatDoor
