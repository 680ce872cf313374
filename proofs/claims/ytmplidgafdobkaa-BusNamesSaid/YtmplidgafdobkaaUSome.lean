/- some, of the laws: the chapter's plan. No condition. -/
import Derived.Test.YtmplidgafdobkaaUSame
import Derived.Test.YtmplidgafdobkaaLFit
namespace Go.Proofs.Ytmplidgafdobkaa
open Go.RowKit Go.Shelf

/-- The chapter's wishes, and the least plan for them. -/
def wishS : Pl := ⟨4, 1, 0, 0, 0, 1, 1, 3, 100000, 0, 0, 0, 2, 1, 4, 0⟩
def planS : Pl := ⟨4, 1, 512, 248, 96, 1, 1, 3, 100000, 88, 64, 10416, 2, 1, 4, 81920⟩
theorem wish_fitok : FitOk wishS 512 := by
  refine ⟨⟨by omega, by omega⟩, by decide, fun l h1 h2 h => ?_, fun j a b => ?_, ⟨⟨by decide, by decide⟩, by decide⟩, by decide⟩
  · rw [need_w, lPi_w, lCap_w] at h
    have e1 : gL (wishL wishS l) = 2 * (2 * (4 * l) / 100000 + 4) := rfl
    have e2 : aL (wishL wishS l) = 2 * (eL wishS + gL (wishL wishS l)) := rfl
    have e3 : eL wishS = 8 := rfl
    have e4 : wishS.dmax = 3 := rfl
    have e5 : wishS.air = 1 := rfl
    omega
  · have : j = 1 ∨ j = 2 ∨ j = 3 ∨ j = 4 ∨ j = 5 ∨ j = 6 ∨ j = 7 ∨ j = 8 ∨ j = 9 ∨ j = 10 ∨ j = 11 := by omega
    rcases this with rfl | rfl | rfl | rfl | rfl | rfl | rfl | rfl | rfl | rfl | rfl <;> decide
theorem wish_fit : fitV wishS = .tuple #[.agg planS.cells, .int .i64 0] := by
  rw [fitV, (fit_yes wish_fitok).1, (fit_yes wish_fitok).2]
  rfl
theorem failsS : failsL planS 11 = 0 := by decide
set_option maxRecDepth 100000 in
set_option maxHeartbeats 1000000 in
theorem someS_any (w : World) : Calls Try.prog 22 #[] w fun e w' => e = .returned (.agg planS.cells) ∧ Below w.heap.size w w' := by
  have hf := fun W => Fit_any wishS W
  rw [wish_fit] at hf
  have HF := Lib.hid hf
  have HS := Lib.hid planS.cellsL
  have HB := Lib.hid ((Below.refl w.heap.size w).alloc (Nat.le_refl _) (.cells zeroL.cells 23))
  have HR := Lib.hid (Whole.new w 23 zeroL.cells)
  clear hf
  generalize planS.cells = cs at *
  go_enter Try.func22, Try.ntmps22
  go_wp2_with (first
    | (go_at_call 41; refine (HF.out _).mono ?_; rintro e w1 ⟨rfl, hb1⟩; have HB1 := Lib.hid ((k_then hb1 HB.out).alloc (k_then hb1 HB.out).size (.cells cs 23)); have HR1 := Lib.hid ((k_later hb1 HR.out).alloc (.cells cs 23)); have HX1 := Lib.hid (Whole.new w1 23 cs); clear hb1)
    | (refine wpList_store_last (w := w1) rfl 23 (.tmp 1) (.tmp 6) rfl _ cs rfl rfl 23 _ rfl HS.out.plan HS.out.size.symm HS.out.one ?_)
    | (refine wpList_load_row rfl 23 (.tmp 1) rfl w1.heap.size rfl 23 cs (0, 0) _ HX1.out Try.underlying23 rfl HS.out.plan ?_)
    | (refine wpList_store_row rfl 23 (.tmp 0) (.tmp 8) rfl w.heap.size cs rfl rfl 23 zeroL.cells HR1.out HS.out.plan HS.out.size.symm HS.out.one ?_))
  refine bodyPost_ret (v := .agg cs) (u_results0 rfl _ _ _ 23 _ (0, 0) _ rfl (u_row_whole HR1.out) Try.underlying23 rfl HS.out.plan) rfl ⟨rfl, u_below_row HB1.out (Nat.le_refl _) _⟩

end Go.Proofs.Ytmplidgafdobkaa
