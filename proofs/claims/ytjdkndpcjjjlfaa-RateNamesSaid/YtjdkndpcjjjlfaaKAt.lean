/- What a dial reads, and when first: by contracts. No condition but that the clock may be, and the time is one of its. -/
import Derived.Test.YtjdkndpcjjjlfaaKSet
namespace Go.Proofs.Ytjdkndpcjjjlfaa
open Go.RowKit Go.Shelf

def atV (n d o j t : Int) : Int := n * (t - o) / d + j
def firstV (n d o j r : Int) : Int := if r ≤ j then o else o + ((r - j) * d + n - 1) / n

/-- The bounds within which a dial reckons. -/
structure AtB (n d o t : Int) : Prop where
  d1 : 1 ≤ d
  d2 : d ≤ 65536
  n1 : 1 ≤ n
  n2 : n ≤ 131072
  t1 : 0 ≤ t - o
  t2 : t - o ≤ 4294967296
  m1 : 0 ≤ n * (t - o)
  m2 : n * (t - o) ≤ 562949953421312
  q1 : 0 ≤ n * (t - o) / d
  q2 : n * (t - o) / d ≤ 8589934592
theorem at_bounds {n d o j t : Int} (h : okK n d o j = true) (h1 : o ≤ t) (h2 : t ≤ 4294967296) : AtB n d o t := by
  obtain ⟨⟨d1, d2, n1, n2⟩, ⟨o1, o2⟩, j1, j2⟩ := okK_yes h
  have m1 : 0 ≤ n * (t - o) := Int.mul_nonneg (by omega) (by omega)
  have m2 : n * (t - o) ≤ 131072 * 4294967296 := Int.mul_le_mul (by omega) (by omega) (by omega) (by omega)
  have m3 : n * (t - o) ≤ (2 * d) * 4294967296 := Int.mul_le_mul (by omega) (by omega) (by omega) (by omega)
  have q1 : 0 ≤ n * (t - o) / d := Int.ediv_nonneg m1 (by omega)
  have q2 : n * (t - o) / d ≤ 8589934592 := by
    refine Int.ediv_le_of_le_mul (by omega) ?_
    omega
  exact ⟨d1, d2, n1, by omega, by omega, by omega, m1, by omega, q1, q2⟩

set_option maxHeartbeats 1000000 in
theorem at_any' (n d o j t : Int) (w : World) (h : okK n d o j = true) (h1 : o ≤ t) (h2 : t ≤ 4294967296) :
    Calls Try.prog 25 #[.agg #[.int .i64 n, .int .i64 d, .int .i64 o, .int .i64 j], .int .i64 t] w fun e w' => e = .returned (.int .i64 (atV n d o j t)) ∧ Below w.heap.size w w' := by
  obtain ⟨d1, d2, n1, n2, t1, t2, m1, m2, q1, q2⟩ := at_bounds h h1 h2
  obtain ⟨_, ⟨o1, o2⟩, j1, j2⟩ := okK_yes h
  have hb : Below w.heap.size w (w.alloc (.cells #[.int .i64 n, .int .i64 d, .int .i64 o, .int .i64 j] 47)) := (Below.refl _ _).alloc (Nat.le_refl _) _
  have e0 : (n * (t - o)).tdiv d = n * (t - o) / d := Int.tdiv_eq_ediv_of_nonneg m1
  have HV := Lib.hid (show atV n d o j t = n * (t - o) / d + j from rfl)
  generalize hm : n * (t - o) = m at *
  generalize hq : m / d = q at *
  clear h
  go_enter Try.func25, Try.ntmps25
  go_wp2
  go_quiet (fail)
  go_wp2
  go_ret
  exact ⟨by rw [HV.out]; rfl, below_drewN hb _⟩

structure FirstB (n d o j r : Int) : Prop where
  d1 : 1 ≤ d
  d2 : d ≤ 65536
  n1 : 1 ≤ n
  n2 : n ≤ 131072
  t1 : 1 ≤ r - j
  t2 : r - j ≤ 8589934592
  m1 : 1 ≤ (r - j) * d
  m2 : (r - j) * d ≤ 562949953421312
  q1 : 0 ≤ ((r - j) * d + n - 1) / n
  q2 : ((r - j) * d + n - 1) / n ≤ 562949953552384
theorem first_bounds {n d o j r : Int} (h : okK n d o j = true) (h1 : j < r) (h2 : r - j ≤ 8589934592) : FirstB n d o j r := by
  obtain ⟨⟨d1, d2, n1, n2⟩, ⟨o1, o2⟩, j1, j2⟩ := okK_yes h
  have m1 : 1 * 1 ≤ (r - j) * d := Int.mul_le_mul (by omega) (by omega) (by omega) (by omega)
  have m2 : (r - j) * d ≤ 8589934592 * 65536 := Int.mul_le_mul (by omega) (by omega) (by omega) (by omega)
  have q1 : 0 ≤ ((r - j) * d + n - 1) / n := Int.ediv_nonneg (by omega) (by omega)
  have q2 : ((r - j) * d + n - 1) / n ≤ (r - j) * d + n - 1 := Int.ediv_le_self _ (by omega)
  exact ⟨d1, d2, n1, by omega, by omega, by omega, by omega, by omega, q1, by omega⟩

set_option maxHeartbeats 1000000 in
theorem first_any' (n d o j r : Int) (w : World) (h : okK n d o j = true) (h2 : r - j ≤ 8589934592) :
    Calls Try.prog 27 #[.agg #[.int .i64 n, .int .i64 d, .int .i64 o, .int .i64 j], .int .i64 r] w fun e w' => e = .returned (.int .i64 (firstV n d o j r)) ∧ Below w.heap.size w w' := by
  obtain ⟨_, ⟨o1, o2⟩, j1, j2⟩ := okK_yes h
  have hb : Below w.heap.size w (w.alloc (.cells #[.int .i64 n, .int .i64 d, .int .i64 o, .int .i64 j] 47)) := (Below.refl _ _).alloc (Nat.le_refl _) _
  by_cases h1 : r ≤ j
  · have HV := Lib.hid (show firstV n d o j r = o from if_pos h1)
    clear h
    go_enter Try.func27, Try.ntmps27
    go_wp2
    go_ret
    exact ⟨by rw [HV.out]; rfl, hb⟩
  · obtain ⟨d1, d2, n1, n2, t1, t2, m1, m2, q1, q2⟩ := first_bounds h (by omega) h2
    have e1 : decide (r ≤ j) = false := decide_eq_false h1
    have e0 : ((r - j) * d + n - 1).tdiv n = ((r - j) * d + n - 1) / n := Int.tdiv_eq_ediv_of_nonneg (by omega)
    have HV := Lib.hid (show firstV n d o j r = o + ((r - j) * d + n - 1) / n from if_neg h1)
    generalize hm : (r - j) * d = m at *
    generalize hq : (m + n - 1) / n = q at *
    clear h h1
    go_enter Try.func27, Try.ntmps27
    go_wp2
    go_quiet (fail)
    go_wp2
    go_quiet (fail)
    go_wp2
    go_ret
    exact ⟨by rw [HV.out]; rfl, below_drewN (below_drewN hb _) _⟩

end Go.Proofs.Ytjdkndpcjjjlfaa
