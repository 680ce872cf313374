/- TableNames: what it calls, at the chapter's plan and at the one of zeros. -/
import Derived.Test.YtdeiohcciafffaaPAlive
namespace Go.Proofs.Ytdeiohcciafffaa
open Go.RowKit Go.Shelf

theorem ok_zero : okP zeroL = false := by
  have h := fails_eq zeroL
  have e : failsI zeroL ≠ 0 := by decide
  exact decide_eq_false (by omega)
theorem has_zero {r s : Int} : hasP zeroL r s = false := by rw [hasP, ok_zero]; rfl

theorem names_E1 (W : World) : Calls Try.prog 19 #[.agg planS.cells, spotV 0 0] W fun e w' => e = .returned (.tuple #[.int .i64 250, .int .i64 154, .int .i64 346, .int .i64 0]) ∧ Below W.heap.size W w' := by
  have h := Expected_any planS W 0 0
  rw [hasS (by decide)] at h
  exact h
theorem names_L1 (W : World) : Calls Try.prog 21 #[.agg planS.cells, .int .i64 3] W fun e w' => e = .returned (.tuple #[.int .i64 7680, .int .i64 0]) ∧ Below W.heap.size W w' := by
  have h := Listen_any planS W 3
  rw [hasS (by decide)] at h
  exact h
theorem names_W1 (W : World) : Calls Try.prog 23 #[.agg planS.cells, .int .i64 3] W fun e w' => e = .returned (.tuple #[.int .i64 3584, .int .i64 0]) ∧ Below W.heap.size W w' := by
  have h := Wait_any planS W 3
  rw [hasS (by decide)] at h
  exact h
theorem names_S1 (W : World) : Calls Try.prog 17 #[.agg planS.cells, spotV 0 1] W fun e w' => e = .returned (.tuple #[.int .i64 760, .int .i64 0]) ∧ Below W.heap.size W w' := by
  have h := Sends_any planS W 0 1
  rw [hasS (by decide)] at h
  exact h
theorem names_X1 (W : World) : Calls Try.prog 13 #[.agg planS.cells, spotV 4 3] W fun e w' => e = .returned (.tuple #[spotV 5 0, .int .i64 0]) ∧ Below W.heap.size W w' := by
  have h := Next_any planS W 4 3
  rw [show nxB planS 4 3 = true by rw [nxB, hasS (by decide)]; decide] at h
  exact h
theorem names_A1 (W : World) : Calls Try.prog 15 #[.agg planS.cells, spotV 2 3, spotV 1 1] W fun e w' => e = .returned (.tuple #[.int .i64 (-6), .int .i64 0]) ∧ Below W.heap.size W w' := by
  have h := Apart_any planS W 2 3 1 1
  rw [hasS (r := 2) (s := 3) (by decide), hasS (r := 1) (s := 1) (by decide)] at h
  exact h
theorem names_M1 (W : World) : Calls Try.prog 27 #[.agg planS.cells] W fun e w' => e = .returned (.int .i64 2) ∧ Below W.heap.size W w' := by
  have h := Middle_any planS W
  rw [okS] at h
  exact h
theorem names_F1 (W : World) : Calls Try.prog 25 #[.agg planS.cells, spotV 0 0] W fun e w' => e = .returned (.bool true) ∧ Below W.heap.size W w' := by
  have h := Full_any planS W 0 0
  rw [fullP, hasS (by decide)] at h
  exact h
theorem names_F2 (W : World) : Calls Try.prog 25 #[.agg planS.cells, spotV 0 1] W fun e w' => e = .returned (.bool false) ∧ Below W.heap.size W w' := by
  have h := Full_any planS W 0 1
  rw [fullP, hasS (by decide)] at h
  exact h
theorem names_F3 (W : World) : Calls Try.prog 25 #[.agg planS.cells, spotV 1 1] W fun e w' => e = .returned (.bool true) ∧ Below W.heap.size W w' := by
  have h := Full_any planS W 1 1
  rw [fullP, hasS (by decide)] at h
  exact h
theorem names_F4 (W : World) : Calls Try.prog 25 #[.agg planS.cells, spotV 0 4] W fun e w' => e = .returned (.bool false) ∧ Below W.heap.size W w' := by
  have h := Full_any planS W 0 4
  rw [fullP, hasS_no (by decide)] at h
  exact h
theorem names_B1 (W : World) : Calls Try.prog 9 #[.agg planS.cells, spotV 0 4] W fun e w' => e = .returned (.tuple #[.int .i64 0, .int .i64 90]) ∧ Below W.heap.size W w' := by
  have h := Begin_any planS W 0 4
  rw [hasS_no (by decide)] at h
  exact h
theorem names_B2 (W : World) : Calls Try.prog 9 #[.agg planS.cells, spotV (-1) 0] W fun e w' => e = .returned (.tuple #[.int .i64 0, .int .i64 90]) ∧ Below W.heap.size W w' := by
  have h := Begin_any planS W (-1) 0
  rw [hasS_no (by decide)] at h
  exact h
theorem names_B3 (W : World) : Calls Try.prog 9 #[.agg planS.cells, spotV 2147483648 0] W fun e w' => e = .returned (.tuple #[.int .i64 0, .int .i64 90]) ∧ Below W.heap.size W w' := by
  have h := Begin_any planS W 2147483648 0
  rw [hasS_no (by decide)] at h
  exact h
theorem names_X2 (W : World) : Calls Try.prog 13 #[.agg planS.cells, spotV 2147483647 3] W fun e w' => e = .returned (.tuple #[spotV 0 0, .int .i64 90]) ∧ Below W.heap.size W w' := by
  have h := Next_any planS W 2147483647 3
  rw [show nxB planS 2147483647 3 = false by rw [nxB, hasS (by decide)]; decide] at h
  exact h
theorem names_O1 (W : World) : Calls Try.prog 11 #[.agg planS.cells, .int .i64 (-1)] W fun e w' => e = .returned (.tuple #[spotV 0 0, .int .i64 90]) ∧ Below W.heap.size W w' := by
  have h := Of_any planS W (-1)
  rw [show ofB planS (-1) = false by rw [ofB, okS]; decide] at h
  exact h
theorem names_O2 (W : World) : Calls Try.prog 11 #[.agg planS.cells, .int .i64 4398046509057] W fun e w' => e = .returned (.tuple #[spotV 0 0, .int .i64 90]) ∧ Below W.heap.size W w' := by
  have h := Of_any planS W 4398046509057
  rw [show ofB planS 4398046509057 = false by rw [ofB, okS]; decide] at h
  exact h
theorem names_O3 (W : World) : Calls Try.prog 11 #[.agg planS.cells, .int .i64 4398046509056] W fun e w' => e = .returned (.tuple #[spotV 2147483647 0, .int .i64 0]) ∧ Below W.heap.size W w' := by
  have h := Of_any planS W 4398046509056
  rw [show ofB planS 4398046509056 = true by rw [ofB, okS]; decide] at h
  exact h
theorem names_L2 (W : World) : Calls Try.prog 21 #[.agg planS.cells, .int .i64 4] W fun e w' => e = .returned (.tuple #[.int .i64 0, .int .i64 90]) ∧ Below W.heap.size W w' := by
  have h := Listen_any planS W 4
  rw [hasS_no (by decide)] at h
  exact h
theorem names_W2 (W : World) : Calls Try.prog 23 #[.agg planS.cells, .int .i64 (-1)] W fun e w' => e = .returned (.tuple #[.int .i64 0, .int .i64 90]) ∧ Below W.heap.size W w' := by
  have h := Wait_any planS W (-1)
  rw [hasS_no (by decide)] at h
  exact h
theorem names_BZ (W : World) : Calls Try.prog 9 #[.agg zeroL.cells, spotV 0 0] W fun e w' => e = .returned (.tuple #[.int .i64 0, .int .i64 90]) ∧ Below W.heap.size W w' := by
  have h := Begin_any zeroL W 0 0
  rw [has_zero] at h
  exact h
theorem names_EZ (W : World) : Calls Try.prog 19 #[.agg zeroL.cells, spotV 0 0] W fun e w' => e = .returned (.tuple #[.int .i64 0, .int .i64 0, .int .i64 0, .int .i64 90]) ∧ Below W.heap.size W w' := by
  have h := Expected_any zeroL W 0 0
  rw [has_zero] at h
  exact h
theorem names_MZ (W : World) : Calls Try.prog 27 #[.agg zeroL.cells] W fun e w' => e = .returned (.int .i64 0) ∧ Below W.heap.size W w' := by
  have h := Middle_any zeroL W
  rw [ok_zero] at h
  exact h
theorem names_FZ (W : World) : Calls Try.prog 25 #[.agg zeroL.cells, spotV 0 0] W fun e w' => e = .returned (.bool false) ∧ Below W.heap.size W w' := by
  have h := Full_any zeroL W 0 0
  rw [fullP, has_zero] at h
  exact h
end Go.Proofs.Ytdeiohcciafffaa
