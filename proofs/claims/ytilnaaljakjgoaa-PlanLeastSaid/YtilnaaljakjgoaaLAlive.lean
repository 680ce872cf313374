/- some and alive, of the laws: by contracts. No condition. -/
import Derived.Test.YtilnaaljakjgoaaLFit
namespace Go.Proofs.Ytilnaaljakjgoaa
open Go.RowKit Go.Shelf

/-- The chapter's plan, as far as it goes. -/
def someL : Pl := ⟨4, 1, 1000, 0, 0, 1, 1, 3, 100000, 0, 0, 0, 2, 1, 4, 0⟩
/-- Wishes that the chapter says nothing fits. -/
def noneL : Pl := ⟨4, 1, 0, 0, 0, 1, 0, 0, 4, 0, 0, 0, 1, 1, 1, 0⟩

set_option maxHeartbeats 1000000 in
theorem some_any (w : World) : Calls Try.prog 18 #[] w fun e w' => e = .returned (.agg someL.cells) ∧ Below w.heap.size w w' := by
  have HS := Lib.hid someL.cellsL
  have HB := Lib.hid ((Below.refl w.heap.size w).alloc (Nat.le_refl _) (.cells someL.cells 23))
  have HW := Lib.hid (Whole.new w 23 someL.cells)
  go_enter Try.func18, Try.ntmps18
  go_wp2_with (refine wpList_store_last rfl 23 _ _ rfl _ someL.cells rfl rfl 23 _ rfl HS.out.plan rfl HS.out.one ?_)
  refine bodyPost_ret (v := .agg someL.cells) (results_cell_row rfl _ _ _ 23 someL.cells (0, 0) _ rfl HW.out Try.underlying23 rfl HS.out.plan) rfl ⟨rfl, HB.out⟩

theorem some_three : failsL someL 3 = 0 := by
  have h := first_eq someL
  have : firstI someL = 0 := by decide
  omega
theorem some_fails : failsL someL 11 = 4 := by
  have h := fails_eq someL
  have : failsI someL = 4 := by decide
  omega
theorem zero_fails : failsL zeroL 11 = 1 := by
  have h := fails_eq zeroL
  have : failsI zeroL = 1 := by decide
  omega
theorem some_numbers : numV someL = .tuple #[.int .i64 8, .int .i64 8, .int .i64 32] := by
  unfold numV numE numG numA
  rw [if_pos some_three, if_pos some_three, if_pos some_three]
  rfl
theorem some_round : roundL someL = 4000 := by
  unfold roundL
  rw [if_pos some_three]
  rfl
theorem none_fit : fitV noneL = .tuple #[.agg zeroL.cells, .int .i64 71] := by
  have hno : ¬ ∃ L, FitOk noneL L := by
    rintro ⟨L, ⟨a, b⟩, c, _⟩
    rw [need_w, lPi_w, lCap_w] at c
    have e1 : gL (wishL noneL L) = 2 * (2 * (4 * L) / 4 + 4) := rfl
    have e2 : aL (wishL noneL L) = 2 * (eL noneL + gL (wishL noneL L)) := rfl
    have e3 : eL noneL = 6 := rfl
    have e4 : noneL.dmax = 0 := rfl
    have e5 : noneL.air = 1 := rfl
    omega
  rw [fitV, (fit_no hno).1, (fit_no hno).2]

set_option maxRecDepth 100000 in
set_option maxHeartbeats 4000000 in
theorem alive_any (w : World) : Calls Try.prog 40 #[] w fun e w' => e = .returned (.bool true) ∧ Below w.heap.size w w' := by
  have HS := Lib.hid (fun W => some_any W)
  have HZ := Lib.hid zeroL.cellsL
  have hn := fun W => Numbers_any someL W
  rw [some_numbers] at hn
  have ht := fun W => Fit_any noneL W
  rw [none_fit] at ht
  have hf1 := fun W => Fails_any zeroL W
  rw [zero_fails] at hf1
  have hf2 := fun W => Fails_any someL W
  rw [some_fails] at hf2
  have hr := fun W => Round_any someL W
  rw [some_round] at hr
  have HN := Lib.hid hn
  have HT := Lib.hid ht
  have HF1 := Lib.hid hf1
  have HF2 := Lib.hid hf2
  have HR := Lib.hid hr
  have HK := Lib.hid (Below.refl w.heap.size w)
  clear hn ht hf1 hf2 hr
  go_enter Try.func40, Try.ntmps40
  go_wp2_with (first
    | (refine wpList_store_last rfl 23 _ _ rfl _ zeroL.cells rfl rfl 23 _ rfl HZ.out.plan rfl HZ.out.one ?_; have HKs := HK; clear HK; have HK := Lib.hid (HKs.out.alloc HKs.out.size (.cells zeroL.cells 23)); clear HKs)
    | (go_at_call 18; refine (HS.out _).mono ?_; rintro e w1 ⟨rfl, hb1⟩; have HKs := HK; clear HK; have HK := Lib.hid (k_then hb1 HKs.out); clear HKs hb1)
    | (go_at_call 8; refine (HN.out _).mono ?_; rintro e w1 ⟨rfl, hb1⟩; have HKs := HK; clear HK; have HK := Lib.hid (k_then hb1 HKs.out); clear HKs hb1)
    | (go_at_call 16; refine (HT.out _).mono ?_; rintro e w1 ⟨rfl, hb1⟩; have HKs := HK; clear HK; have HK := Lib.hid (k_then hb1 HKs.out); clear HKs hb1)
    | (go_at_call 10; refine (HF1.out _).mono ?_; clear HF1; rintro e w1 ⟨rfl, hb1⟩; have HKs := HK; clear HK; have HK := Lib.hid (k_then hb1 HKs.out); clear HKs hb1)
    | (go_at_call 10; refine (HF2.out _).mono ?_; rintro e w1 ⟨rfl, hb1⟩; have HKs := HK; clear HK; have HK := Lib.hid (k_then hb1 HKs.out); clear HKs hb1)
    | (go_at_call 14; refine (HR.out _).mono ?_; rintro e w1 ⟨rfl, hb1⟩; have HKs := HK; clear HK; have HK := Lib.hid (k_then hb1 HKs.out); clear HKs hb1))
  go_ret
  exact ⟨rfl, HK.out⟩

end Go.Proofs.Ytilnaaljakjgoaa
