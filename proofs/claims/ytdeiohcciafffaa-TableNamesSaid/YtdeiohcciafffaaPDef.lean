/- What a plan says of places, as numbers; bounds, where the plan may be and the place is its own. No condition. -/
import Derived.Test.YtdeiohcciafffaaLCode
namespace Go.Proofs.Ytdeiohcciafffaa
open Go.RowKit Go.Shelf

/-- The plan may be. -/
def okP (x : Pl) : Bool := decide (failsL x 11 = 0)
/-- A node's number, or its slot's. -/
def nodeP (x : Pl) (s : Int) : Bool := decide (0 ≤ s) && decide (s < x.nodes)
def roundP (r : Int) : Bool := decide (0 ≤ r) && decide (r ≤ 2147483647)
/-- A place is the plan's own. -/
def placeP (x : Pl) (r s : Int) : Bool := roundP r && nodeP x s
def hasP (x : Pl) (r s : Int) : Bool := okP x && placeP x r s
/-- How many slots are ahead. -/
def ahP (x : Pl) (r s : Int) : Int := r * x.nodes + s
def bgP (x : Pl) (r s : Int) : Int := ahP x r s * x.slot
def sdP (x : Pl) (r s : Int) : Int := bgP x r s + x.sendOff
def mdP (x : Pl) : Int := (x.dmin + x.dmax) / 2
def exP (x : Pl) (r s : Int) : Int := sdP x r s + mdP x

theorem okP_chk (x : Pl) : (chkL x == 0) = okP x := by
  unfold chkL okP
  by_cases h : failsL x 11 = 0
  · rw [if_pos h, decide_eq_true h]; rfl
  · rw [if_neg h, decide_eq_false h]; rfl
theorem okP_yes {x : Pl} (h : okP x = true) : failsL x 11 = 0 := of_decide_eq_true h

/-- Bounds of a plan that may be. -/
structure BoundP (x : Pl) : Prop where
  n1 : 4 ≤ x.nodes
  n2 : x.nodes ≤ 16
  s1 : 1 ≤ x.slot
  s2 : x.slot ≤ 1048576
  o1 : 0 ≤ x.sendOff
  o2 : x.sendOff ≤ 1048576
  w1 : 0 ≤ x.window
  w2 : x.window ≤ 1048576
  d1 : 0 ≤ x.dmin
  d2 : x.dmin ≤ x.dmax
  d3 : x.dmax ≤ 1048576
  p1 : 0 ≤ x.pi
  p2 : x.pi ≤ 1048576
  c1 : x.pi + (x.dmax - x.dmin) + 6 ≤ x.window
  c2 : x.window + x.pi + 1 ≤ x.sendOff
  c3 : x.sendOff + x.window + 2 * x.dmax + 8 ≤ x.slot
  f3 : failsL x 3 = 0
  m1 : 4 ≤ rdL x
  m2 : rdL x ≤ 16777216
theorem bound_of {x : Pl} (h : okP x = true) : BoundP x := by
  have h := okP_yes h
  have T := tick_fails (by omega) (Nat.le_refl 11) h
  have hh := failsL_first x (last := 11) (by omega)
  rw [h] at hh
  rcases hh with ⟨_, k⟩ | ⟨k, _⟩
  · have k3 : (1 ≤ x.slot ∧ x.slot ≤ 1048576) ∧ _ := k 3 (by omega) (by omega)
    have k2 : (1 ≤ x.air ∧ x.air ≤ 1048576) ∧ 0 ≤ x.dmin ∧ (x.dmin ≤ x.dmax ∧ x.dmax ≤ 1048576) := k 2 (by omega) (by omega)
    have k4 : 2 * (aL x + gL x) + eL x ≤ x.pi ∧ x.pi ≤ 1048576 := k 4 (by omega) (by omega)
    have k5 : x.pi + eL x ≤ x.window ∧ x.window ≤ 1048576 := k 5 (by omega) (by omega)
    have k6 : aL x + 2 * gL x + 2 * eL x ≤ x.cap ∧ x.cap ≤ 1048576 := k 6 (by omega) (by omega)
    have k7 : x.window + x.cap + x.pi ≤ x.sendOff ∧ x.sendOff ≤ 1048576 := k 7 (by omega) (by omega)
    have k8 : x.sendOff + x.window + 2 * (x.dmax + x.air) + x.cap + x.pi + 8 ≤ x.slot := k 8 (by omega) (by omega)
    have q1 := T.q1
    have n1 := T.n1
    have ha : aL x = 2 * (eL x + gL x) := rfl
    have he : eL x = x.dmax - x.dmin + 6 := rfl
    have hg : gL x = 2 * (2 * rdL x / x.rho + 4) := rfl
    have m1 : 4 * 1 ≤ x.nodes * x.slot := Int.mul_le_mul n1 k3.1.1 (by omega) (by omega)
    have m3 : rdL x = x.nodes * x.slot := rfl
    have f3 : failsL x 3 = 0 := failsL_of (.inl ⟨rfl, fun j a b => k j a (by omega)⟩) (by omega)
    have n2 := T.n2
    have t2 := T.m2
    clear k h T
    exact ⟨n1, n2, k3.1.1, k3.1.2, by omega, by omega, by omega, by omega, by omega, by omega, by omega, by omega, by omega, by omega, by omega, by omega, f3, by omega, t2⟩
  · omega

/-- Bounds of a place that lies in a plan. -/
structure SpotP (x : Pl) (r s : Int) : Prop where
  r1 : 0 ≤ r
  r2 : r ≤ 2147483647
  s1 : 0 ≤ s
  s2 : s < x.nodes
  a1 : 0 ≤ r * x.nodes
  a2 : r * x.nodes ≤ 34359738352
  b1 : 0 ≤ ahP x r s * x.slot
  b2 : ahP x r s * x.slot ≤ 36028797017915392
theorem spot_mk {x : Pl} {r s : Int} (B : BoundP x) (r1 : 0 ≤ r) (r2 : r ≤ 2147483647) (s1 : 0 ≤ s) (s2 : s < x.nodes) : SpotP x r s := by
  have n1 := B.n1
  have n2 := B.n2
  have t1 := B.s1
  have t2 := B.s2
  have a1 : 0 ≤ r * x.nodes := Int.mul_nonneg r1 (by omega)
  have a2 : r * x.nodes ≤ 2147483647 * 16 := Int.mul_le_mul r2 n2 (by omega) (by omega)
  have b0 : 0 ≤ ahP x r s := by unfold ahP; omega
  have b3 : ahP x r s ≤ 34359738367 := by unfold ahP; omega
  have b1 : 0 ≤ ahP x r s * x.slot := Int.mul_nonneg b0 (by omega)
  have b2 : ahP x r s * x.slot ≤ 34359738367 * 1048576 := Int.mul_le_mul b3 t2 (by omega) (by omega)
  exact ⟨r1, r2, s1, s2, a1, by omega, b1, by omega⟩
theorem node_yes {x : Pl} {s : Int} (h : nodeP x s = true) : 0 ≤ s ∧ s < x.nodes := by
  simpa [nodeP] using h
theorem place_yes {x : Pl} {r s : Int} (h : placeP x r s = true) : (0 ≤ r ∧ r ≤ 2147483647) ∧ 0 ≤ s ∧ s < x.nodes := by
  simpa [placeP, roundP, nodeP, and_assoc] using h
theorem has_yes {x : Pl} {r s : Int} (h : hasP x r s = true) : BoundP x ∧ SpotP x r s := by
  unfold hasP at h
  rw [Bool.and_eq_true] at h
  obtain ⟨h1, h2⟩ := h
  obtain ⟨⟨a, b⟩, c, d⟩ := place_yes h2
  exact ⟨bound_of h1, spot_mk (bound_of h1) a b c d⟩
theorem has_mk {x : Pl} {r s : Int} (h : okP x = true) (r1 : 0 ≤ r) (r2 : r ≤ 2147483647) (s1 : 0 ≤ s) (s2 : s < x.nodes) : hasP x r s = true := by
  simp [hasP, placeP, roundP, nodeP, h, r1, r2, s1, s2]
theorem mid_bounds {x : Pl} (B : BoundP x) : x.dmin ≤ mdP x ∧ mdP x ≤ x.dmax ∧ (x.dmin + x.dmax).tdiv 2 = mdP x := by
  have d1 := B.d1
  have d2 := B.d2
  have e : (x.dmin + x.dmax).tdiv 2 = mdP x := Int.tdiv_eq_ediv_of_nonneg (by omega)
  refine ⟨?_, ?_, e⟩ <;> unfold mdP <;> omega

/-- A place, as a value. -/
abbrev spotV (r s : Int) : Value := .agg #[.int .i64 r, .int .i64 s]
theorem info_sheet : (Try.prog.info? 53).map (·.size) = some 16 := by kernel_rfl
theorem CellsL.sheet {cs : Array Value} (h : CellsL cs) : (Try.prog.info? 53).map (·.size) = some cs.size := by rw [h.size]; exact info_sheet

end Go.Proofs.Ytdeiohcciafffaa
