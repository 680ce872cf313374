/- A plan as sixteen numbers; what the chapter's conditions ask of them; what a number has to be at least. No condition. -/
import Derived.Test.YteljalgfkmnamaaKMem
namespace Go.Proofs.Yteljalgfkmnamaa
open Go.RowKit Go.Shelf

/-- A plan's numbers, in their order. -/
structure Pl where
  nodes : Int
  kk : Int
  slot : Int
  sendOff : Int
  window : Int
  air : Int
  dmin : Int
  dmax : Int
  rho : Int
  pi : Int
  cap : Int
  delta : Int
  queue : Int
  burst : Int
  payload : Int
  horizon : Int

def Pl.cells (x : Pl) : Array Value := #[.int .i64 x.nodes, .int .i64 x.kk, .int .i64 x.slot, .int .i64 x.sendOff, .int .i64 x.window, .int .i64 x.air, .int .i64 x.dmin, .int .i64 x.dmax,
  .int .i64 x.rho, .int .i64 x.pi, .int .i64 x.cap, .int .i64 x.delta, .int .i64 x.queue, .int .i64 x.burst, .int .i64 x.payload, .int .i64 x.horizon]

/-- The round. -/
def rdL (x : Pl) : Int := x.nodes * x.slot
def eL (x : Pl) : Int := x.dmax - x.dmin + 6
def gL (x : Pl) : Int := 2 * (2 * rdL x / x.rho + 4)
def aL (x : Pl) : Int := 2 * (eL x + gL x)
def lPi (x : Pl) : Int := 2 * (aL x + gL x) + eL x
def lWin (x : Pl) : Int := x.pi + eL x
def lCap (x : Pl) : Int := aL x + 2 * gL x + 2 * eL x
def lSend (x : Pl) : Int := x.window + x.cap + x.pi
def lSlot (x : Pl) : Int := x.sendOff + x.window + 2 * (x.dmax + x.air) + x.cap + x.pi + 8
def frL (x : Pl) : Int := (x.queue + x.burst - 1) / x.burst
def lDel (x : Pl) : Int := (frL x + 3) * rdL x + 2 * x.pi
def lHor (x : Pl) : Int := 40 * rdL x

/-- The conditions, by their numbers. -/
def holdL (x : Pl) : Nat → Prop
  | 1 => (4 ≤ x.nodes ∧ x.nodes ≤ 16) ∧ (0 ≤ x.kk ∧ 2 * x.kk + 2 ≤ x.nodes)
  | 2 => (1 ≤ x.air ∧ x.air ≤ 1048576) ∧ 0 ≤ x.dmin ∧ (x.dmin ≤ x.dmax ∧ x.dmax ≤ 1048576)
  | 3 => (1 ≤ x.slot ∧ x.slot ≤ 1048576) ∧ (4 ≤ x.rho ∧ x.rho ≤ 1048576)
  | 4 => lPi x ≤ x.pi ∧ x.pi ≤ 1048576
  | 5 => lWin x ≤ x.window ∧ x.window ≤ 1048576
  | 6 => lCap x ≤ x.cap ∧ x.cap ≤ 1048576
  | 7 => lSend x ≤ x.sendOff ∧ x.sendOff ≤ 1048576
  | 8 => lSlot x ≤ x.slot
  | 9 => ((1 ≤ x.queue ∧ x.queue ≤ 64) ∧ (1 ≤ x.burst ∧ x.burst ≤ 8)) ∧ (1 ≤ x.payload ∧ x.payload ≤ 32)
  | 10 => lDel x ≤ x.delta ∧ x.delta ≤ 64 * rdL x
  | 11 => lHor x ≤ x.horizon ∧ x.horizon ≤ 2147483648
  | _ => True
instance (x : Pl) (k : Nat) : Decidable (holdL x k) := by
  unfold holdL
  split <;> infer_instance

/-- r is the number of the first condition, up to the last one to ask, that does not hold; 0, if these do. -/
def FirstL (x : Pl) (last r : Nat) : Prop :=
  (r = 0 ∧ ∀ j, 1 ≤ j → j ≤ last → holdL x j) ∨ (1 ≤ r ∧ r ≤ last ∧ ¬ holdL x r ∧ ∀ j, 1 ≤ j → j < r → holdL x j)
theorem FirstL.same {x : Pl} {last r s : Nat} (h : FirstL x last r) (k : FirstL x last s) : r = s := by
  rcases h with ⟨rfl, h⟩ | ⟨h1, h2, h3, h4⟩ <;> rcases k with ⟨rfl, k⟩ | ⟨k1, k2, k3, k4⟩
  · rfl
  · exact absurd (h s k1 k2) k3
  · exact absurd (k r h1 h2) h3
  · rcases Nat.lt_trichotomy r s with g | g | g
    · exact absurd (k4 r h1 g) h3
    · exact g
    · exact absurd (h4 s k1 g) k3
/-- The first of the conditions from k on, up to the last one, that does not hold; 0, if these do. -/
def scanL (x : Pl) (last : Nat) : Nat → Nat → Nat
  | 0, _ => 0
  | f + 1, k => if k ≤ last then (if holdL x k then scanL x last f (k + 1) else k) else 0
def failsL (x : Pl) (last : Nat) : Nat := scanL x last 12 1
theorem scanL_first {x : Pl} {last : Nat} : ∀ (f k : Nat), last < f + k → 1 ≤ k → (∀ j, 1 ≤ j → j < k → holdL x j) → FirstL x last (scanL x last f k)
  | 0, k, h, h1, h2 => by
    exact .inl ⟨rfl, fun j a b => h2 j a (by omega)⟩
  | f + 1, k, h, h1, h2 => by
    unfold scanL
    by_cases hk : k ≤ last
    · rw [if_pos hk]
      by_cases hh : holdL x k
      · rw [if_pos hh]
        exact scanL_first f (k + 1) (by omega) (by omega) fun j a b => by
          by_cases e : j = k
          · subst e; exact hh
          · exact h2 j a (by omega)
      · rw [if_neg hh]
        exact .inr ⟨h1, hk, hh, h2⟩
    · rw [if_neg hk]
      exact .inl ⟨rfl, fun j a b => h2 j a (by omega)⟩
theorem failsL_first (x : Pl) {last : Nat} (h : last ≤ 11) : FirstL x last (failsL x last) := scanL_first 12 1 (by omega) (by omega) fun j a b => by omega
theorem failsL_of {x : Pl} {last r : Nat} (h : FirstL x last r) (hl : last ≤ 11) : failsL x last = r := (failsL_first x hl).same h

/-- Sixteen cells. -/
theorem l_cells {w : World} {g : Nat} {t : TypeId} {x : Pl} (h : Whole w g t x.cells) :
    (w.cell? ⟨g, 0, none⟩ = some (.int .i64 x.nodes) ∧ w.cell? ⟨g, 1, none⟩ = some (.int .i64 x.kk) ∧ w.cell? ⟨g, 2, none⟩ = some (.int .i64 x.slot) ∧ w.cell? ⟨g, 3, none⟩ = some (.int .i64 x.sendOff)) ∧
    (w.cell? ⟨g, 4, none⟩ = some (.int .i64 x.window) ∧ w.cell? ⟨g, 5, none⟩ = some (.int .i64 x.air) ∧ w.cell? ⟨g, 6, none⟩ = some (.int .i64 x.dmin) ∧ w.cell? ⟨g, 7, none⟩ = some (.int .i64 x.dmax)) ∧
    (w.cell? ⟨g, 8, none⟩ = some (.int .i64 x.rho) ∧ w.cell? ⟨g, 9, none⟩ = some (.int .i64 x.pi) ∧ w.cell? ⟨g, 10, none⟩ = some (.int .i64 x.cap) ∧ w.cell? ⟨g, 11, none⟩ = some (.int .i64 x.delta)) ∧
    (w.cell? ⟨g, 12, none⟩ = some (.int .i64 x.queue) ∧ w.cell? ⟨g, 13, none⟩ = some (.int .i64 x.burst) ∧ w.cell? ⟨g, 14, none⟩ = some (.int .i64 x.payload) ∧ w.cell? ⟨g, 15, none⟩ = some (.int .i64 x.horizon)) ∧
    ∀ i, w.frozen? ⟨g, i, none⟩ = false :=
  ⟨⟨h.cell 0, h.cell 1, h.cell 2, h.cell 3⟩, ⟨h.cell 4, h.cell 5, h.cell 6, h.cell 7⟩, ⟨h.cell 8, h.cell 9, h.cell 10, h.cell 11⟩, ⟨h.cell 12, h.cell 13, h.cell 14, h.cell 15⟩, h.frozen⟩

/-- Bounds, where the first three conditions hold. -/
structure TickL (x : Pl) : Prop where
  n1 : 4 ≤ x.nodes
  n2 : x.nodes ≤ 16
  k1 : 0 ≤ x.kk
  k2 : 2 * x.kk + 2 ≤ x.nodes
  a1 : 1 ≤ x.air
  a2 : x.air ≤ 1048576
  d1 : 0 ≤ x.dmin
  d2 : x.dmin ≤ x.dmax
  d3 : x.dmax ≤ 1048576
  s1 : 0 ≤ x.slot
  s2 : x.slot ≤ 1048576
  r1 : 4 ≤ x.rho
  r2 : x.rho ≤ 1048576
  m1 : 0 ≤ rdL x
  m2 : rdL x ≤ 16777216
  q1 : 0 ≤ 2 * rdL x / x.rho
  q2 : 2 * rdL x / x.rho ≤ 8388608
theorem tick_of {x : Pl} (h1 : holdL x 1) (h2 : holdL x 2) (s1 : 0 ≤ x.slot) (s2 : x.slot ≤ 1048576) (r1 : 4 ≤ x.rho) (r2 : x.rho ≤ 1048576) : TickL x := by
  obtain ⟨⟨a, b⟩, c, d⟩ := h1
  obtain ⟨⟨e, f⟩, g, i, j⟩ := h2
  have m1 : 0 ≤ rdL x := Int.mul_nonneg (by omega) (by omega)
  have m2 : rdL x ≤ 16 * 1048576 := Int.mul_le_mul (by omega) (by omega) (by omega) (by omega)
  have q1 : 0 ≤ 2 * rdL x / x.rho := Int.ediv_nonneg (by omega) (by omega)
  have q2 : 2 * rdL x / x.rho ≤ 8388608 := by
    have : 2 * rdL x ≤ 8388608 * 4 := by omega
    have h4 : (8388608 : Int) * 4 ≤ 8388608 * x.rho := Int.mul_le_mul_of_nonneg_left r1 (by omega)
    exact Int.ediv_le_of_le_mul (by omega) (by omega)
  exact ⟨a, b, c, d, e, f, g, i, j, s1, s2, r1, r2, m1, by omega, q1, q2⟩
theorem tick_three {x : Pl} (h1 : holdL x 1) (h2 : holdL x 2) (h3 : holdL x 3) : TickL x := tick_of h1 h2 (by have := h3.1.1; omega) h3.1.2 h3.2.1 h3.2.2

end Go.Proofs.Yteljalgfkmnamaa
