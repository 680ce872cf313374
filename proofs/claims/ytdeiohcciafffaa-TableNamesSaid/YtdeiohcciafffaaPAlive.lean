/- some and alive, of the laws: by contracts. No condition. -/
import Derived.Test.YtdeiohcciafffaaPRef4
import Derived.Test.YtdeiohcciafffaaHeld
import Derived.Test.YtdeiohcciafffaaLFit
namespace Go.Proofs.Ytdeiohcciafffaa
open Go.RowKit Go.Shelf

/-- The chapter's wishes, and the least plan for them. -/
def wishS : Pl := ⟨4, 1, 0, 0, 0, 1, 1, 3, 100000, 0, 0, 0, 2, 1, 4, 0⟩
def planS : Pl := ⟨4, 1, 512, 248, 96, 1, 1, 3, 100000, 88, 64, 10416, 2, 1, 4, 81920⟩
theorem wish_fitok : FitOk wishS 512 := by
  refine ⟨⟨by omega, by omega⟩, by decide, fun l h1 h2 h => ?_, fun j a b => ?_, ⟨⟨by decide, by decide⟩, by decide⟩, by decide⟩
  · rw [need_w, lPi_w, lCap_w] at h
    have e1 : gL (wishL wishS l) = 2 * (2 * (4 * l) / 100000 + 4) := rfl
    have e2 : aL (wishL wishS l) = 2 * (eL wishS + gL (wishL wishS l)) := rfl
    have e3 : eL wishS = 8 := rfl
    have e4 : wishS.dmax = 3 := rfl
    have e5 : wishS.air = 1 := rfl
    omega
  · have : j = 1 ∨ j = 2 ∨ j = 3 ∨ j = 4 ∨ j = 5 ∨ j = 6 ∨ j = 7 ∨ j = 8 ∨ j = 9 ∨ j = 10 ∨ j = 11 := by omega
    rcases this with rfl | rfl | rfl | rfl | rfl | rfl | rfl | rfl | rfl | rfl | rfl <;> decide
theorem wish_fit : fitV wishS = .tuple #[.agg planS.cells, .int .i64 0] := by
  rw [fitV, (fit_yes wish_fitok).1, (fit_yes wish_fitok).2]
  rfl
theorem okS : okP planS = true := by
  have h := fails_eq planS
  have e : failsI planS = 0 := by decide
  exact decide_eq_true (by omega)
theorem hasS {r s : Int} (h : placeP planS r s = true) : hasP planS r s = true := by rw [hasP, okS, h]; rfl
theorem hasS_no {r s : Int} (h : placeP planS r s = false) : hasP planS r s = false := by rw [hasP, h, Bool.and_false]

set_option maxRecDepth 100000 in
set_option maxHeartbeats 1000000 in
theorem someS_any (w : World) : Calls Try.prog 29 #[] w fun e w' => e = .returned (.agg planS.cells) ∧ Below w.heap.size w w' := by
  have hf := fun W => Fit_any wishS W
  rw [wish_fit] at hf
  have HF := Lib.hid hf
  have HS := Lib.hid planS.cellsL
  have HB := Lib.hid ((Below.refl w.heap.size w).alloc (Nat.le_refl _) (.cells zeroL.cells 23))
  have HR := Lib.hid (Whole.new w 23 zeroL.cells)
  clear hf
  generalize planS.cells = cs at *
  go_enter Try.func29, Try.ntmps29
  go_wp2_with (first
    | (go_at_call 45; refine (HF.out _).mono ?_; rintro e w1 ⟨rfl, hb1⟩; have HB1 := Lib.hid ((k_then hb1 HB.out).alloc (k_then hb1 HB.out).size (.cells cs 23)); have HR1 := Lib.hid ((k_later hb1 HR.out).alloc (.cells cs 23)); have HX1 := Lib.hid (Whole.new w1 23 cs); clear hb1)
    | (refine wpList_store_last (w := w1) rfl 23 (.tmp 1) (.tmp 6) rfl _ cs rfl rfl 23 _ rfl HS.out.plan HS.out.size.symm HS.out.one ?_)
    | (refine wpList_load_row rfl 23 (.tmp 1) rfl w1.heap.size rfl 23 cs (0, 0) _ HX1.out Try.underlying23 rfl HS.out.plan ?_)
    | (refine wpList_store_row rfl 23 (.tmp 0) (.tmp 8) rfl w.heap.size cs rfl rfl 23 zeroL.cells HR1.out HS.out.plan HS.out.size.symm HS.out.one ?_))
  refine bodyPost_ret (v := .agg cs) (p_results0 rfl _ _ _ 23 _ (0, 0) _ rfl (p_row_whole HR1.out) Try.underlying23 rfl HS.out.plan) rfl ⟨rfl, p_below_row HB1.out (Nat.le_refl _) _⟩

set_option maxRecDepth 100000 in
set_option maxHeartbeats 4000000 in
theorem aliveS_any (w : World) : Calls Try.prog 30 #[] w fun e w' => e = .returned (.bool true) ∧ Below w.heap.size w w' := by
  have hs := someS_any
  have h1 := fun W => Begin_any planS W 1 2
  rw [hasS (by decide), show bgP planS 1 2 = 3072 from rfl] at h1
  have h2 := fun W => Of_any planS W 3072
  rw [show ofB planS 3072 = true by rw [ofB, okS]; decide, show spotR planS (3072 / planS.slot) = 1 from rfl, show spotS planS (3072 / planS.slot) = 2 from rfl] at h2
  have h3 := fun W => Of_any planS W 3071
  rw [show ofB planS 3071 = true by rw [ofB, okS]; decide, show spotR planS (3071 / planS.slot) = 1 from rfl, show spotS planS (3071 / planS.slot) = 1 from rfl] at h3
  unfold tellP errP at h1
  unfold spotT tellP errP at h2 h3
  simp only [if_true] at h1 h2 h3
  generalize planS.cells = cs at *
  have HS := Lib.hid hs
  have H1 := Lib.hid h1
  have H2 := Lib.hid h2
  have H3 := Lib.hid h3
  have HX := Lib.hid (held_start w)
  clear hs h1 h2 h3
  go_enter Try.func30, Try.ntmps30
  go_upto_region 4 with (first
    | (go_at_call 29; refine (HS.out _).mono ?_; rintro e ws ⟨rfl, hb⟩; have HXs := HX; clear HX; have HX := Lib.hid (held_later hb HXs.out); clear HXs hb)
    | (go_at_call 9; refine (H1.out _).mono ?_; rintro e w1 ⟨rfl, hb⟩; have HXs := HX; clear HX; have HX := Lib.hid (held_later hb HXs.out); clear HXs hb)
    | (go_at_call 11; refine (H2.out _).mono ?_; clear H2; rintro e w2 ⟨rfl, hb⟩; have HXs := HX; clear HX; have HX := Lib.hid (held_later hb HXs.out); clear HXs hb)
    | (refine wpList_store_last (w := w2) rfl 25 (.tmp 3) (.tmp 16) rfl _ #[.int .i64 1, .int .i64 2] rfl rfl 25 _ rfl info_place rfl (spot_one 1 2) ?_; have HXs := HX; clear HX; have HX := Lib.hid (held_new HXs.out 25 #[.int .i64 1, .int .i64 2]); clear HXs)
    | (go_at_call 11; refine (H3.out _).mono ?_; clear H3; rintro e w3 ⟨rfl, hb⟩; have HXs := HX; clear HX; have HX := Lib.hid (held_later hb HXs.out); clear HXs hb)
    | (refine wpList_store_last (w := w3) rfl 25 (.tmp 5) (.tmp 21) rfl _ #[.int .i64 1, .int .i64 1] rfl rfl 25 _ rfl info_place rfl (spot_one 1 1) ?_; have HXs := HX; clear HX; have HX := Lib.hid (held_new HXs.out 25 #[.int .i64 1, .int .i64 1]); clear HXs))
  obtain ⟨a0, a1, _⟩ := k_two (held1 HX.out)
  obtain ⟨b0, b1, _⟩ := k_two (held2 HX.out)
  simp only at a0 a1 b0 b1
  go_wp2
  go_ret
  exact ⟨rfl, HX.out.1⟩
end Go.Proofs.Ytdeiohcciafffaa
