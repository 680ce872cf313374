/- The document's Fails, by a contract. No condition. -/
import Derived.Test.YteljalgfkmnamaaLRef
namespace Go.Proofs.Yteljalgfkmnamaa
open Go.RowKit Go.Shelf

theorem first_pos (x : Pl) : 0 ≤ firstI x ∧ firstI x ≤ 3 := by
  unfold firstI
  omega
theorem fails_first {x : Pl} (h : firstI x ≠ 0) : failsI x = firstI x := by
  revert h
  unfold firstI failsI
  split
  · split
    · split
      · exact fun h => absurd rfl h
      · exact fun _ => rfl
    · exact fun _ => rfl
  · exact fun _ => rfl
theorem first_tick {x : Pl} (h : firstI x = 0) : TickL x := by
  refine tick_fails (Nat.le_refl 3) (by omega) ?_
  have := first_eq x
  omega
theorem first_slot {x : Pl} (h : firstI x = 0) : 1 ≤ x.slot := by
  unfold firstI at h
  omega
theorem frac_eq {x : Pl} (h : holdL x 9) : 0 ≤ x.queue / x.burst ∧ x.queue / x.burst ≤ 64 ∧ 0 ≤ x.queue / x.burst * x.burst ∧ x.queue / x.burst * x.burst ≤ x.queue ∧ x.queue.tdiv x.burst = x.queue / x.burst ∧
    (x.queue / x.burst * x.burst < x.queue → frL x = x.queue / x.burst + 1) ∧ (¬ x.queue / x.burst * x.burst < x.queue → frL x = x.queue / x.burst) := by
  obtain ⟨⟨⟨q1, q2⟩, b1, b2⟩, _⟩ := h
  have d1 := Int.ediv_nonneg (show 0 ≤ x.queue by omega) (show 0 ≤ x.burst by omega)
  have d2 := Int.ediv_le_self (a := x.queue) x.burst (by omega)
  have d3 := Int.ediv_mul_le x.queue (show x.burst ≠ 0 by omega)
  have d4 := Int.mul_nonneg d1 (show 0 ≤ x.burst by omega)
  have d5 := Int.emod_add_mul_ediv x.queue x.burst
  have d6 := Int.emod_nonneg x.queue (show x.burst ≠ 0 by omega)
  have d7 := Int.emod_lt_of_pos x.queue (show 0 < x.burst by omega)
  rw [Int.mul_comm] at d5
  refine ⟨d1, by omega, d4, d3, Int.tdiv_eq_ediv_of_nonneg (by omega), fun h => ?_, fun h => ?_⟩
  · have e : x.queue + x.burst - 1 = (x.queue % x.burst - 1) + (x.queue / x.burst + 1) * x.burst := by
      rw [Int.add_mul, Int.one_mul]
      omega
    unfold frL
    rw [e, Int.add_mul_ediv_right _ _ (by omega), Int.ediv_eq_zero_of_lt (by omega) (by omega)]
    omega
  · have e : x.queue + x.burst - 1 = (x.burst - 1) + (x.queue / x.burst) * x.burst := by omega
    unfold frL
    rw [e, Int.add_mul_ediv_right _ _ (by omega), Int.ediv_eq_zero_of_lt (by omega) (by omega)]
    omega

set_option maxRecDepth 100000 in
set_option maxHeartbeats 8000000 in
theorem refFails_some (x : Pl) (w : World) (h0 : firstI x ≠ 0) : Calls Try.prog 26 #[.agg x.cells] w fun e w' => e = .returned (.int .i64 (failsI x)) ∧ Below w.heap.size w w' := by
  have HB := Lib.hid ((Below.refl w.heap.size w).alloc (Nat.le_refl _) (.cells x.cells 23))
  have HS := Lib.hid x.cellsL
  have HF := Lib.hid (fun W => first_any x W)
  have H := Lib.hid (fails_first h0)
  have hp : 0 < firstI x := by have := first_pos x; omega
  generalize firstI x = r at *
  generalize x.cells = cs at *
  clear h0
  go_enter Try.func26, Try.ntmps26
  go_wp2_with (first
    | (refine wpList_load_row rfl 23 _ rfl w.heap.size rfl 23 cs (0, 0) _ (heap_alloc_last w _) Try.underlying23 rfl HS.out.plan ?_)
    | (go_at_call 33; refine (HF.out _).mono ?_; rintro e' w' ⟨rfl, hb2⟩))
  go_ret
  exact ⟨by rw [H.out]; rfl, k_then hb2 HB.out⟩

set_option maxRecDepth 100000 in
set_option maxHeartbeats 8000000 in
theorem refFails_out (x : Pl) (w : World) (h0 : firstI x = 0) (T : TickL x) (h9 : ¬ (((1 ≤ x.queue ∧ x.queue ≤ 64) ∧ (1 ≤ x.burst ∧ x.burst ≤ 8)) ∧ (1 ≤ x.payload ∧ x.payload ≤ 32))) : Calls Try.prog 26 #[.agg x.cells] w fun e w' => e = .returned (.int .i64 (failsI x)) ∧ Below w.heap.size w w' := by
  have HB := Lib.hid ((Below.refl w.heap.size w).alloc (Nat.le_refl _) (.cells x.cells 23))
  have HW := Lib.hid (Whole.new w 23 x.cells)
  have HS := Lib.hid x.cellsL
  have HF := Lib.hid (fun W => first_any x W)
  rw [h0] at HF
  have HL := Lib.hid (fun W (h : Whole W w.heap.size 23 x.cells) => l_cells h)
  have HN := Lib.hid (fun W => refNumbers_any T W)
  have hm : x.nodes * x.slot = rdL x := rfl
  have s0 := first_slot h0
  obtain ⟨e1, e2, g1, g2, i1, i2⟩ := num_bounds T
  obtain ⟨n1, n2, k1, k2, a1, a2, d1, d2, d3, s1, s2, r1, r2, m1, m2, _, _⟩ := T
  clear h0
  go_enter Try.func26, Try.ntmps26
  go_wp2_with (first
    | (refine wpList_load_row rfl 23 _ rfl w.heap.size rfl 23 x.cells (0, 0) _ (heap_alloc_last w _) Try.underlying23 rfl HS.out.plan ?_)
    | (refine wpList_load_row rfl 23 _ rfl w.heap.size rfl 23 x.cells (0, 0) _ hw1 Try.underlying23 rfl HS.out.plan ?_)
    | (go_at_call 33; refine (HF.out _).mono ?_; rintro e' w1 ⟨rfl, hb1⟩; have hw1 := k_later hb1 HW.out; have hk1 := k_then hb1 HB.out)
    | (go_at_call 34; refine (HN.out _).mono ?_; rintro e' w2 ⟨rfl, hb2⟩; have HK := Lib.hid (k_then hb2 hk1); obtain ⟨⟨c0, c1, c2, c3⟩, ⟨c4, c5, c6, c7⟩, ⟨c8, c9, c10, c11⟩, ⟨c12, c13, c14, c15⟩, cf⟩ := HL.out _ (k_later hb2 hw1); clear hb1 hw1 hk1 hb2))
  all_goals first
    | (refine bodyPost_ret (v := .int .i64 (failsI x)) (by simp [results, Try.results26, go_sem]; unfold failsI; omega) rfl ⟨rfl, HK.out⟩)
    | (exfalso; omega)

set_option maxRecDepth 100000 in
set_option maxHeartbeats 8000000 in
theorem refFails_up (x : Pl) (w : World) (h0 : firstI x = 0) (T : TickL x) (h9 : holdL x 9) (hq : x.queue / x.burst * x.burst < x.queue) : Calls Try.prog 26 #[.agg x.cells] w fun e w' => e = .returned (.int .i64 (failsI x)) ∧ Below w.heap.size w w' := by
  have HB := Lib.hid ((Below.refl w.heap.size w).alloc (Nat.le_refl _) (.cells x.cells 23))
  have HW := Lib.hid (Whole.new w 23 x.cells)
  have HS := Lib.hid x.cellsL
  have HF := Lib.hid (fun W => first_any x W)
  rw [h0] at HF
  have HL := Lib.hid (fun W (h : Whole W w.heap.size 23 x.cells) => l_cells h)
  have HN := Lib.hid (fun W => refNumbers_any T W)
  have hm : x.nodes * x.slot = rdL x := rfl
  have s0 := first_slot h0
  obtain ⟨e1, e2, g1, g2, i1, i2⟩ := num_bounds T
  obtain ⟨v1, v2⟩ := del_bounds T h9
  obtain ⟨q1, q2, q3, q4, q5, q6, _⟩ := frac_eq h9
  have hf : x.queue / x.burst + 1 + 3 = frL x + 3 := by rw [q6 hq]
  have hf2 : x.queue / x.burst + 4 = frL x + 3 := by rw [q6 hq]; omega
  clear q6
  obtain ⟨⟨⟨y1, y2⟩, y3, y4⟩, y5, y6⟩ := h9
  obtain ⟨n1, n2, k1, k2, a1, a2, d1, d2, d3, s1, s2, r1, r2, m1, m2, _, _⟩ := T
  clear h0
  go_enter Try.func26, Try.ntmps26
  go_wp2_with (first
    | (refine wpList_load_row rfl 23 _ rfl w.heap.size rfl 23 x.cells (0, 0) _ (heap_alloc_last w _) Try.underlying23 rfl HS.out.plan ?_)
    | (refine wpList_load_row rfl 23 _ rfl w.heap.size rfl 23 x.cells (0, 0) _ hw1 Try.underlying23 rfl HS.out.plan ?_)
    | (go_at_call 33; refine (HF.out _).mono ?_; rintro e' w1 ⟨rfl, hb1⟩; have hw1 := k_later hb1 HW.out; have hk1 := k_then hb1 HB.out)
    | (go_at_call 34; refine (HN.out _).mono ?_; rintro e' w2 ⟨rfl, hb2⟩; have HK := Lib.hid (k_then hb2 hk1); obtain ⟨⟨c0, c1, c2, c3⟩, ⟨c4, c5, c6, c7⟩, ⟨c8, c9, c10, c11⟩, ⟨c12, c13, c14, c15⟩, cf⟩ := HL.out _ (k_later hb2 hw1); clear hb1 hw1 hk1 hb2))
  all_goals first
    | (refine bodyPost_ret (v := .int .i64 (failsI x)) (by simp [results, Try.results26, go_sem]; unfold failsI; omega) rfl ⟨rfl, HK.out⟩)
    | (exfalso; omega)

set_option maxRecDepth 100000 in
set_option maxHeartbeats 8000000 in
theorem refFails_even (x : Pl) (w : World) (h0 : firstI x = 0) (T : TickL x) (h9 : holdL x 9) (hq : x.queue ≤ x.queue / x.burst * x.burst) : Calls Try.prog 26 #[.agg x.cells] w fun e w' => e = .returned (.int .i64 (failsI x)) ∧ Below w.heap.size w w' := by
  have HB := Lib.hid ((Below.refl w.heap.size w).alloc (Nat.le_refl _) (.cells x.cells 23))
  have HW := Lib.hid (Whole.new w 23 x.cells)
  have HS := Lib.hid x.cellsL
  have HF := Lib.hid (fun W => first_any x W)
  rw [h0] at HF
  have HL := Lib.hid (fun W (h : Whole W w.heap.size 23 x.cells) => l_cells h)
  have HN := Lib.hid (fun W => refNumbers_any T W)
  have hm : x.nodes * x.slot = rdL x := rfl
  have s0 := first_slot h0
  obtain ⟨e1, e2, g1, g2, i1, i2⟩ := num_bounds T
  obtain ⟨v1, v2⟩ := del_bounds T h9
  obtain ⟨q1, q2, q3, q4, q5, _, q6⟩ := frac_eq h9
  have hf : x.queue / x.burst + 3 = frL x + 3 := by rw [q6 (by omega)]
  clear q6
  obtain ⟨⟨⟨y1, y2⟩, y3, y4⟩, y5, y6⟩ := h9
  obtain ⟨n1, n2, k1, k2, a1, a2, d1, d2, d3, s1, s2, r1, r2, m1, m2, _, _⟩ := T
  clear h0
  go_enter Try.func26, Try.ntmps26
  go_wp2_with (first
    | (refine wpList_load_row rfl 23 _ rfl w.heap.size rfl 23 x.cells (0, 0) _ (heap_alloc_last w _) Try.underlying23 rfl HS.out.plan ?_)
    | (refine wpList_load_row rfl 23 _ rfl w.heap.size rfl 23 x.cells (0, 0) _ hw1 Try.underlying23 rfl HS.out.plan ?_)
    | (go_at_call 33; refine (HF.out _).mono ?_; rintro e' w1 ⟨rfl, hb1⟩; have hw1 := k_later hb1 HW.out; have hk1 := k_then hb1 HB.out)
    | (go_at_call 34; refine (HN.out _).mono ?_; rintro e' w2 ⟨rfl, hb2⟩; have HK := Lib.hid (k_then hb2 hk1); obtain ⟨⟨c0, c1, c2, c3⟩, ⟨c4, c5, c6, c7⟩, ⟨c8, c9, c10, c11⟩, ⟨c12, c13, c14, c15⟩, cf⟩ := HL.out _ (k_later hb2 hw1); clear hb1 hw1 hk1 hb2))
  all_goals first
    | (refine bodyPost_ret (v := .int .i64 (failsI x)) (by simp [results, Try.results26, go_sem]; unfold failsI; omega) rfl ⟨rfl, HK.out⟩)
    | (exfalso; omega)

theorem refFails_any (x : Pl) (w : World) : Calls Try.prog 26 #[.agg x.cells] w fun e w' => e = .returned (.int .i64 (failsI x)) ∧ Below w.heap.size w w' := by
  by_cases h0 : firstI x = 0
  · have T := first_tick h0
    by_cases h9 : holdL x 9
    · by_cases hq : x.queue / x.burst * x.burst < x.queue
      · exact refFails_up x w h0 T h9 hq
      · exact refFails_even x w h0 T h9 (by omega)
    · exact refFails_out x w h0 T h9
  · exact refFails_some x w h0

end Go.Proofs.Yteljalgfkmnamaa
