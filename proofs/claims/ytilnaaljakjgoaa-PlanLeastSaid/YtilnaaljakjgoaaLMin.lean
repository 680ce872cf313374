/- PlanLeast: its plain facts, and the walk where nothing fits. No condition. -/
import Derived.Test.YtilnaaljakjgoaaLAlive
import Derived.Test.YtilnaaljakjgoaaLFits
import Derived.Test.YtilnaaljakjgoaaLChecks
namespace Go.Proofs.Ytilnaaljakjgoaa
open Go.RowKit Go.Shelf

/-- The least plan with another horizon. -/
def horL (x : Pl) (L h : Int) : Pl :=
  ⟨x.nodes, x.kk, L, (withL x L).sendOff, (withL x L).window, x.air, x.dmin, x.dmax, x.rho, (withL x L).pi, (withL x L).cap, (withL x L).delta, x.queue, x.burst, x.payload, h⟩
theorem horL_set (x : Pl) (L h : Int) : (withL x L).cells.setIfInBounds 15 (.int .i64 h) = (horL x L h).cells := rfl

theorem all_fails {x : Pl} : failsL x 11 = 0 ↔ ∀ j, 1 ≤ j → j ≤ 11 → holdL x j := by
  constructor
  · intro h
    have k := failsL_first x (last := 11) (by omega)
    rw [h] at k
    rcases k with ⟨_, k⟩ | ⟨k, _⟩
    · exact k
    · omega
  · exact fun h => failsL_of (.inl ⟨rfl, h⟩) (by omega)

section
variable {x : Pl} {L : Int}
theorem least_fails (h : FitOk x L) : failsL (withL x L) 11 = 0 := all_fails.2 h.2.2.2.1
theorem least_less (h : FitOk x L) (hL : 1 < L) : ((failsL (withL x (L - 1)) 11 : Nat) : Int) ≠ 0 := by
  intro k
  have k' := all_fails.1 (show failsL (withL x (L - 1)) 11 = 0 by omega) 8 (by omega) (by omega)
  have k8 : needL x (L - 1) ≤ L - 1 := k'
  have b := h.1
  have := h.2.2.1 (L - 1) (by omega) (by omega) k8
  omega
theorem least_tick (h : FitOk x L) : TickL (wishL x (L - 1)) := base_tick h.2.2.2.2.1 (by have := h.1; omega) (by have := h.1; omega)
theorem least_round (h : FitOk x L) (hz : Int) : roundL (horL x L hz) = rdL (withL x L) ∧ 0 ≤ rdL (withL x L) ∧ rdL (withL x L) ≤ 16777216 := by
  have hh := h.2.2.2.1
  have T := tick_three (hh 1 (by omega) (by omega)) (hh 2 (by omega) (by omega)) (hh 3 (by omega) (by omega))
  refine ⟨?_, T.m1, T.m2⟩
  have h3 : failsL (horL x L hz) 3 = 0 := failsL_of (.inl ⟨rfl, fun j a b => by
    have : j = 1 ∨ j = 2 ∨ j = 3 := by omega
    rcases this with rfl | rfl | rfl
    · exact hh 1 (by omega) (by omega)
    · exact hh 2 (by omega) (by omega)
    · exact hh 3 (by omega) (by omega)⟩) (by omega)
  exact if_pos h3
theorem least_hor (h : FitOk x L) (hz : Int) : failsL (horL x L hz) 11 = 0 ↔ 40 * rdL (withL x L) ≤ hz ∧ hz ≤ 2147483648 := by
  have hh := h.2.2.2.1
  constructor
  · intro k
    exact all_fails.1 k 11 (by omega) (by omega)
  · intro k
    refine all_fails.2 fun j a b => ?_
    have : j = 1 ∨ j = 2 ∨ j = 3 ∨ j = 4 ∨ j = 5 ∨ j = 6 ∨ j = 7 ∨ j = 8 ∨ j = 9 ∨ j = 10 ∨ j = 11 := by omega
    rcases this with rfl | rfl | rfl | rfl | rfl | rfl | rfl | rfl | rfl | rfl | rfl
    · exact hh 1 (by omega) (by omega)
    · exact hh 2 (by omega) (by omega)
    · exact hh 3 (by omega) (by omega)
    · exact hh 4 (by omega) (by omega)
    · exact hh 5 (by omega) (by omega)
    · exact hh 6 (by omega) (by omega)
    · exact hh 7 (by omega) (by omega)
    · exact hh 8 (by omega) (by omega)
    · exact hh 9 (by omega) (by omega)
    · exact hh 10 (by omega) (by omega)
    · exact k
theorem least_way (h : FitOk x L) (hz : Int) : (hz < 40 * rdL (withL x L) ∧ ∃ s : Int, s ≠ 0 ∧ ∀ W, Calls Try.prog 10 #[.agg (horL x L hz).cells] W fun e w' => e = .returned (.int .i64 s) ∧ Below W.heap.size W w') ∨ ((40 * rdL (withL x L) ≤ hz ∧ hz ≤ 2147483648) ∧ ∀ W, Calls Try.prog 10 #[.agg (horL x L hz).cells] W fun e w' => e = .returned (.int .i64 0) ∧ Below W.heap.size W w') ∨ ((40 * rdL (withL x L) ≤ hz ∧ 2147483648 < hz) ∧ ∃ s : Int, s ≠ 0 ∧ ∀ W, Calls Try.prog 10 #[.agg (horL x L hz).cells] W fun e w' => e = .returned (.int .i64 s) ∧ Below W.heap.size W w') := by
  have hi := least_hor h hz
  have hm := fun W => Fails_any (horL x L hz) W
  by_cases h1 : hz < 40 * rdL (withL x L)
  · exact .inl ⟨h1, _, fun k => by have := hi.1 (by omega); omega, hm⟩
  · by_cases h2 : hz ≤ 2147483648
    · rw [hi.2 ⟨by omega, h2⟩] at hm
      exact .inr (.inl ⟨⟨by omega, h2⟩, hm⟩)
    · exact .inr (.inr ⟨⟨by omega, by omega⟩, _, fun k => by have := hi.1 (by omega); omega, hm⟩)
end

set_option maxRecDepth 100000 in
set_option maxHeartbeats 4000000 in
theorem least_no (x : Pl) (hz : Int) (w : World) (h : ¬ ∃ L, FitOk x L) : Calls Try.prog 6 #[.agg x.cells, .int .i64 hz] w fun e w' => e = .returned (.bool true) ∧ Below w.heap.size w w' := by
  have HS := Lib.hid x.cellsL
  have HZ := Lib.hid zeroL.cellsL
  have HA := Lib.hid (fun W => alive_any W)
  have hf := fun W => Fit_any x W
  rw [show fitV x = .tuple #[.agg zeroL.cells, .int .i64 71] by rw [fitV, (fit_no h).1, (fit_no h).2]] at hf
  have HF := Lib.hid hf
  have hq : ∀ W, (binOp .eql 23 (.agg zeroL.cells) (.agg #[.int .i64 0, .int .i64 0, .int .i64 0, .int .i64 0, .int .i64 0, .int .i64 0, .int .i64 0, .int .i64 0, .int .i64 0, .int .i64 0, .int .i64 0, .int .i64 0, .int .i64 0, .int .i64 0, .int .i64 0, .int .i64 0])).run Try.prog W = .ok (.bool true) W := eql_plan zeroL
  have HB := Lib.hid ((Below.refl w.heap.size w).alloc (Nat.le_refl _) (.cells x.cells 23))
  have HW := Lib.hid (Whole.new w 23 x.cells)
  clear hf h
  go_enter Try.func6, Try.ntmps6
  go_wp2_with (first
    | (refine wpList_load_row rfl 23 _ rfl w.heap.size rfl 23 x.cells (0, 0) _ HW1.out Try.underlying23 rfl HS.out.plan ?_)
    | (refine wpList_load_want rfl 23 _ rfl w2.heap.size rfl 23 zeroL.cells (0, 0) _ HP2.out Try.underlying23 rfl HZ.out.plan ?_)
    | (refine wpList_store_last (w := w2) rfl 23 _ _ rfl _ zeroL.cells rfl rfl 23 _ rfl HZ.out.plan HZ.out.size.symm HZ.out.one ?_; have HP2 := Lib.hid (Whole.new w2 23 zeroL.cells); have HK3 := Lib.hid (HK2.out.alloc HK2.out.size (.cells zeroL.cells 23)))
    | (go_at_call 40; refine (HA.out _).mono ?_; rintro e w1 ⟨rfl, hb1⟩; have HW1 := Lib.hid (k_later hb1 HW.out); have HK1 := Lib.hid (k_then hb1 HB.out); clear hb1)
    | (go_at_call 16; refine (HF.out _).mono ?_; rintro e w2 ⟨rfl, hb2⟩; have HK2 := Lib.hid (k_then hb2 HK1.out); clear hb2))
  go_ret
  exact ⟨rfl, HK3.out⟩

end Go.Proofs.Ytilnaaljakjgoaa
