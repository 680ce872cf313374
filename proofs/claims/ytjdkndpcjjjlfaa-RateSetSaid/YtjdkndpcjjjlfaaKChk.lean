/- Whether a clock may be, and a rate keeps a bound: the document's, by contracts. No condition. -/
import Derived.Test.YtjdkndpcjjjlfaaKRead
namespace Go.Proofs.Ytjdkndpcjjjlfaa
open Go.RowKit Go.Shelf

set_option maxHeartbeats 1000000 in
theorem refCheck_k (n d o j : Int) (w : World) : Calls Try.prog 17 #[.agg #[.int .i64 n, .int .i64 d, .int .i64 o, .int .i64 j]] w fun e w' => e = .returned (.int .i64 (refE (!okK n d o j))) ∧ Below w.heap.size w w' := by
  have hb : Below w.heap.size w (w.alloc (.cells #[.int .i64 n, .int .i64 d, .int .i64 o, .int .i64 j] 25)) := (Below.refl _ _).alloc (Nat.le_refl _) _
  have HN := Lib.hid (fun (h : ¬ ((1 ≤ d ∧ d ≤ 65536 ∧ 1 ≤ n ∧ n ≤ 2 * d) ∧ (0 ≤ o ∧ o ≤ 4294967296) ∧ -4294967296 ≤ j ∧ j ≤ 4294967296)) => (by rw [okK_no h]; rfl : refE (!okK n d o j) = 60))
  have HY := Lib.hid (fun (h : (1 ≤ d ∧ d ≤ 65536 ∧ 1 ≤ n ∧ n ≤ 2 * d) ∧ (0 ≤ o ∧ o ≤ 4294967296) ∧ -4294967296 ≤ j ∧ j ≤ 4294967296) => (by rw [okK_mk h]; rfl : refE (!okK n d o j) = 0))
  by_cases a0 : d < 1
  · have HC := Lib.hid (HN.out (by omega))
    go_enter Try.func17, Try.ntmps17
    go_wp2
    go_ret
    exact ⟨by rw [HC.out]; rfl, hb⟩
  have d0 : decide (d < 1) = false := decide_eq_false a0
  by_cases a1 : 65536 < d
  · have HC := Lib.hid (HN.out (by omega))
    go_enter Try.func17, Try.ntmps17
    go_wp2
    go_ret
    exact ⟨by rw [HC.out]; rfl, hb⟩
  have d1 : decide (65536 < d) = false := decide_eq_false a1
  by_cases a2 : n < 1
  · have HC := Lib.hid (HN.out (by omega))
    go_enter Try.func17, Try.ntmps17
    go_wp2
    go_ret
    exact ⟨by rw [HC.out]; rfl, hb⟩
  have d2 : decide (n < 1) = false := decide_eq_false a2
  by_cases a3 : 2 * d < n
  · have HC := Lib.hid (HN.out (by omega))
    go_enter Try.func17, Try.ntmps17
    go_wp2
    go_ret
    exact ⟨by rw [HC.out]; rfl, hb⟩
  have d3 : decide (2 * d < n) = false := decide_eq_false a3
  by_cases a4 : o < 0
  · have HC := Lib.hid (HN.out (by omega))
    go_enter Try.func17, Try.ntmps17
    go_wp2
    go_ret
    exact ⟨by rw [HC.out]; rfl, hb⟩
  have d4 : decide (o < 0) = false := decide_eq_false a4
  by_cases a5 : 4294967296 < o
  · have HC := Lib.hid (HN.out (by omega))
    go_enter Try.func17, Try.ntmps17
    go_wp2
    go_ret
    exact ⟨by rw [HC.out]; rfl, hb⟩
  have d5 : decide (4294967296 < o) = false := decide_eq_false a5
  by_cases a6 : j < -4294967296
  · have HC := Lib.hid (HN.out (by omega))
    go_enter Try.func17, Try.ntmps17
    go_wp2
    go_ret
    exact ⟨by rw [HC.out]; rfl, hb⟩
  have d6 : decide (j < -4294967296) = false := decide_eq_false a6
  by_cases a7 : 4294967296 < j
  · have HC := Lib.hid (HN.out (by omega))
    go_enter Try.func17, Try.ntmps17
    go_wp2
    go_ret
    exact ⟨by rw [HC.out]; rfl, hb⟩
  have d7 : decide (4294967296 < j) = false := decide_eq_false a7
  have HC := Lib.hid (HY.out (by omega))
  go_enter Try.func17, Try.ntmps17
  go_wp2
  go_ret
  exact ⟨by rw [HC.out]; rfl, hb⟩

end Go.Proofs.Ytjdkndpcjjjlfaa
