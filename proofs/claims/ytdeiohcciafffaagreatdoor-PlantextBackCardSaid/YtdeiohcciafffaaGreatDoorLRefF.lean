/- The document's Fails, by a contract. No condition. -/
import Derived.Test.YtdeiohcciafffaaGreatDoorLRef
namespace Go.Proofs.YtdeiohcciafffaaGreatDoor
open Go.RowKit Go.Shelf

theorem first_pos (x : Pl) : 0 ≤ firstI x ∧ firstI x ≤ 3 := by
  unfold firstI
  omega
theorem fails_first {x : Pl} (h : firstI x ≠ 0) : failsI x = firstI x := by
  revert h
  unfold firstI failsI
  split
  · split
    · split
      · exact fun h => absurd rfl h
      · exact fun _ => rfl
    · exact fun _ => rfl
  · exact fun _ => rfl
theorem first_tick {x : Pl} (h : firstI x = 0) : TickL x := by
  refine tick_fails (Nat.le_refl 3) (by omega) ?_
  have := first_eq x
  omega
theorem first_slot {x : Pl} (h : firstI x = 0) : 1 ≤ x.slot := by
  unfold firstI at h
  omega
theorem frac_eq {x : Pl} (h : holdL x 9) : 0 ≤ x.queue / x.burst ∧ x.queue / x.burst ≤ 64 ∧ 0 ≤ x.queue / x.burst * x.burst ∧ x.queue / x.burst * x.burst ≤ x.queue ∧ x.queue.tdiv x.burst = x.queue / x.burst ∧
    (x.queue / x.burst * x.burst < x.queue → frL x = x.queue / x.burst + 1) ∧ (¬ x.queue / x.burst * x.burst < x.queue → frL x = x.queue / x.burst) := by
  obtain ⟨⟨⟨q1, q2⟩, b1, b2⟩, _⟩ := h
  have d1 := Int.ediv_nonneg (show 0 ≤ x.queue by omega) (show 0 ≤ x.burst by omega)
  have d2 := Int.ediv_le_self (a := x.queue) x.burst (by omega)
  have d3 := Int.ediv_mul_le x.queue (show x.burst ≠ 0 by omega)
  have d4 := Int.mul_nonneg d1 (show 0 ≤ x.burst by omega)
  have d5 := Int.emod_add_mul_ediv x.queue x.burst
  have d6 := Int.emod_nonneg x.queue (show x.burst ≠ 0 by omega)
  have d7 := Int.emod_lt_of_pos x.queue (show 0 < x.burst by omega)
  rw [Int.mul_comm] at d5
  refine ⟨d1, by omega, d4, d3, Int.tdiv_eq_ediv_of_nonneg (by omega), fun h => ?_, fun h => ?_⟩
  · have e : x.queue + x.burst - 1 = (x.queue % x.burst - 1) + (x.queue / x.burst + 1) * x.burst := by
      rw [Int.add_mul, Int.one_mul]
      omega
    unfold frL
    rw [e, Int.add_mul_ediv_right _ _ (by omega), Int.ediv_eq_zero_of_lt (by omega) (by omega)]
    omega
  · have e : x.queue + x.burst - 1 = (x.burst - 1) + (x.queue / x.burst) * x.burst := by omega
    unfold frL
    rw [e, Int.add_mul_ediv_right _ _ (by omega), Int.ediv_eq_zero_of_lt (by omega) (by omega)]
    omega

end Go.Proofs.YtdeiohcciafffaaGreatDoor
