/- What resync answers, in plain numbers. No condition. -/
import Derived.Test.YteljalgfkmnamaaLCode
import Derived.Test.YteljalgfkmnamaaZLawM
namespace Go.Proofs.Yteljalgfkmnamaa
open Go.RowKit Go.Shelf

/-- What was done. -/
structure Sy where
  r : Int
  s : Int
  t : Int
  b : Bool
def Sy.v (y : Sy) : Value := .agg #[.int .i64 y.r, .int .i64 y.s, .int .i64 y.t, .bool y.b]
def zeroY : Sy := ⟨0, 0, 0, false⟩
/-- May the plan be? -/
def planB (x : Pl) : Bool := decide (failsL x 11 = 0)
theorem chk_yes {x : Pl} (h : planB x = true) : chkL x = 0 := if_pos (of_decide_eq_true h)
theorem chk_no {x : Pl} (h : planB x = false) : chkL x = 70 := if_neg (of_decide_eq_false h)
theorem plan_tick {x : Pl} (h : planB x = true) : TickL x := tick_fails (last := 11) (by omega) (by omega) (of_decide_eq_true h)
theorem plan_cap {x : Pl} (h : planB x = true) : 0 ≤ x.cap ∧ x.cap ≤ 1048576 := by
  have T := plan_tick h
  have h0 : failsL x 11 = 0 := of_decide_eq_true h
  have hf := failsL_first x (last := 11) (by omega)
  rw [h0] at hf
  rcases hf with ⟨_, k⟩ | ⟨k, _⟩
  · have h6 := k 6 (by omega) (by omega)
    have e : lCap x ≤ x.cap ∧ x.cap ≤ 1048576 := h6
    have t1 := T.d2
    have t2 := T.q1
    unfold lCap aL eL gL at e
    generalize 2 * rdL x / x.rho = z at *
    omega
  · omega
/-- Are so many enough? -/
def enoughB (x : Pl) (many : Int) : Bool := planB x && decide (2 * x.kk + 1 ≤ many)
/-- The midpoint, its sign turned. -/
def wantC (x : Pl) (l : List Int) : Int := if enoughB x (l.length : Int) = true then -(midT l x.kk) else 0
theorem mid_bound (l : List Int) (k : Int) : -4294967296 ≤ midT l k ∧ midT l k ≤ 4294967296 := by
  obtain ⟨h1, h2⟩ := ends_ok l k
  rw [(midT_is l k).1]
  omega
theorem want_bound (x : Pl) (l : List Int) : -4294967296 ≤ wantC x l ∧ wantC x l ≤ 4294967296 := by
  have := mid_bound l x.kk
  unfold wantC
  split <;> omega
def overB (x : Pl) (l : List Int) : Bool := decide (x.cap < wantC x l ∨ wantC x l < -x.cap)
/-- The correction, and its error. -/
def corE (x : Pl) (l : List Int) : Int := if (planB x && okV l) = true then (if overB x l = true then 151 else 0) else 150
def corB (x : Pl) (l : List Int) : Int := if (planB x && okV l) = true then (if overB x l = true then 0 else wantC x l) else 0
def corV (x : Pl) (l : List Int) : Value := .tuple #[.int .i64 (corB x l), .int .i64 (corE x l)]
theorem corE_is (x : Pl) (l : List Int) : corE x l = 0 ∨ corE x l = 150 ∨ corE x l = 151 := by
  unfold corE
  split
  · split <;> simp
  · simp
theorem corB_bound (x : Pl) (l : List Int) : -4294967296 ≤ corB x l ∧ corB x l ≤ 4294967296 := by
  have := want_bound x l
  unfold corB
  split
  · split <;> omega
  · omega
/-- May what was done be? -/
def mayY (y : Sy) : Bool := decide ((0 ≤ y.r ∧ y.r ≤ 2147483647) ∧ (0 ≤ y.s ∧ y.s ≤ y.r) ∧ (-4294967296 ≤ y.t ∧ y.t ≤ 4294967296))
def oneN (by_ : Int) : Int := if by_ = 0 then 0 else 1
def nextY (by_ : Int) (y : Sy) : Sy := ⟨y.r + 1, y.s + oneN by_, y.t + by_, false⟩
def lostY (y : Sy) : Sy := ⟨y.r, y.s, y.t, true⟩
/-- What comes of a round, for its correction and its error. -/
structure Tn where
  y : Sy
  by_ : Int
  e : Int
def Tn.v (t : Tn) : Value := .tuple #[t.y.v, .int .i64 t.by_, .int .i64 t.e]
def turnY (e by_ : Int) (y : Sy) : Tn :=
  if e = 150 ∨ mayY y = false then ⟨zeroY, 0, 150⟩
  else if e = 151 ∨ y.b = true then ⟨lostY y, 0, 151⟩
  else if mayY (nextY by_ y) = true then ⟨nextY by_ y, by_, 0⟩
  else ⟨zeroY, 0, 150⟩
def turnL (x : Pl) (y : Sy) (l : List Int) : Tn := turnY (corE x l) (corB x l) y
theorem turn_e (x : Pl) (y : Sy) (l : List Int) : (turnL x y l).e = 0 ∨ (turnL x y l).e = 150 ∨ (turnL x y l).e = 151 := by
  unfold turnL turnY
  split
  · simp
  · split
    · simp
    · split <;> simp
/-- What was done behind k rounds, if none stops them. -/
def runY (x : Pl) (L : List (List Int)) : Nat → Tn
  | 0 => ⟨zeroY, 0, 0⟩
  | k + 1 => turnL x (runY x L k).y (L.getD k [])
/-- What was done behind k rounds: the first error stops them. -/
def foldY (x : Pl) (L : List (List Int)) : Nat → Sy × Int
  | 0 => (zeroY, 0)
  | k + 1 => if (foldY x L k).2 = 0 then ((turnL x (foldY x L k).1 (L.getD k [])).y, (turnL x (foldY x L k).1 (L.getD k [])).e) else foldY x L k
theorem fold_run (x : Pl) (L : List (List Int)) : ∀ k, (foldY x L k).2 = 0 → (foldY x L k).1 = (runY x L k).y
  | 0, _ => rfl
  | k + 1, h => by
    unfold foldY at h ⊢
    by_cases h0 : (foldY x L k).2 = 0
    · have ih := fold_run x L k h0
      rw [if_pos h0] at h ⊢
      unfold runY
      rw [← ih]
    · rw [if_neg h0] at h
      exact absurd h h0
theorem fold_step {x : Pl} {L : List (List Int)} {k : Nat} (h : (foldY x L k).2 = 0) : foldY x L (k + 1) = ((runY x L (k + 1)).y, (runY x L (k + 1)).e) := by
  have ih := fold_run x L k h
  conv => lhs; unfold foldY
  rw [if_pos h, ih]
  rfl
theorem fold_stop {x : Pl} {L : List (List Int)} {k : Nat} (h : (foldY x L k).2 ≠ 0) : ∀ n, k ≤ n → foldY x L n = foldY x L k := by
  intro n hn
  induction n with
  | zero => obtain rfl : k = 0 := by omega
            rfl
  | succ n ih =>
    rcases Nat.lt_or_ge n k with h1 | h1
    · obtain rfl : k = n + 1 := by omega
      rfl
    · have e := ih h1
      conv => lhs; unfold foldY
      rw [e, if_neg h]
end Go.Proofs.Yteljalgfkmnamaa
