/- TableNames, its walk: closed. -/
import Derived.Test.YtdeiohcciafffaaPNamM
namespace Go.Proofs.Ytdeiohcciafffaa
open Go.RowKit Go.Shelf

set_option maxRecDepth 100000 in
set_option maxHeartbeats 20000000 in
theorem names_walk (w : World) : Calls Try.prog 5 #[] w fun e w' => e = .returned (.bool true) ∧ Below w.heap.size w w' := by
  have HS := Lib.hid planS.cellsL
  have HX := Lib.hid (held_start w)
  have HE1 := Lib.hid names_E1
  have HL1 := Lib.hid names_L1
  have HW1 := Lib.hid names_W1
  have HS1 := Lib.hid names_S1
  have HX1 := Lib.hid names_X1
  have HA1 := Lib.hid names_A1
  have HM1 := Lib.hid names_M1
  have HF1 := Lib.hid names_F1
  have HF2 := Lib.hid names_F2
  have HF3 := Lib.hid names_F3
  have HF4 := Lib.hid names_F4
  have HB1 := Lib.hid names_B1
  have HB2 := Lib.hid names_B2
  have HB3 := Lib.hid names_B3
  have HX2 := Lib.hid names_X2
  have HO1 := Lib.hid names_O1
  have HO2 := Lib.hid names_O2
  have HO3 := Lib.hid names_O3
  have HL2 := Lib.hid names_L2
  have HW2 := Lib.hid names_W2
  have HBZ := Lib.hid names_BZ
  have HEZ := Lib.hid names_EZ
  have HMZ := Lib.hid names_MZ
  have HFZ := Lib.hid names_FZ
  go_enter Try.func5, Try.ntmps5
  go_upto_region 8 with (first
    | (refine wpList_load_row rfl 23 (.tmp 1) rfl w1.heap.size rfl 23 planS.cells (0, 0) _ (held1 HX.out) Try.underlying23 rfl HS.out.plan ?_)
    | (go_at_call 29; refine (someS_any _).mono ?_; rintro e w1 ⟨rfl, hb⟩; have HXs := HX; clear HX; have HX := Lib.hid (held_later hb HXs.out); clear HXs hb)
    | (refine wpList_store_last (w := w1) rfl 23 (.tmp 1) (.tmp 42) rfl _ planS.cells rfl rfl 23 _ rfl HS.out.plan HS.out.size.symm HS.out.one ?_; have HXs := HX; clear HX; have HX := Lib.hid (held_new HXs.out 23 planS.cells); clear HXs)
    | (go_at_call 19; refine (HE1.out _).mono ?_; clear HE1; rintro e w2 ⟨rfl, hb⟩; have HXs := HX; clear HX; have HX := Lib.hid (held_later hb HXs.out); clear HXs hb)
    | (go_at_call 21; refine (HL1.out _).mono ?_; clear HL1; rintro e w3 ⟨rfl, hb⟩; have HXs := HX; clear HX; have HX := Lib.hid (held_later hb HXs.out); clear HXs hb)
    | (go_at_call 23; refine (HW1.out _).mono ?_; clear HW1; rintro e w4 ⟨rfl, hb⟩; have HXs := HX; clear HX; have HX := Lib.hid (held_later hb HXs.out); clear HXs hb)
    | (go_at_call 17; refine (HS1.out _).mono ?_; clear HS1; rintro e w5 ⟨rfl, hb⟩; have HXs := HX; clear HX; have HX := Lib.hid (held_later hb HXs.out); clear HXs hb)
    | (go_at_call 13; refine (HX1.out _).mono ?_; clear HX1; rintro e w6 ⟨rfl, hb⟩; have HXs := HX; clear HX; have HX := Lib.hid (held_later hb HXs.out); clear HXs hb)
    | (refine wpList_store_last (w := w6) rfl 25 (.tmp 12) (.tmp 71) rfl _ #[.int .i64 5, .int .i64 0] rfl rfl 25 _ rfl info_place rfl (spot_one 5 0) ?_; have HXs := HX; clear HX; have HX := Lib.hid (held_new HXs.out 25 #[.int .i64 5, .int .i64 0]); clear HXs)
    | (go_at_call 15; refine (HA1.out _).mono ?_; clear HA1; rintro e w7 ⟨rfl, hb⟩; have HXs := HX; clear HX; have HX := Lib.hid (held_later hb HXs.out); clear HXs hb))

  go_upto_region 9 with (first
    | (refine wpList_load_want rfl 23 (.tmp 1) rfl w1.heap.size rfl 23 planS.cells (0, 0) _ (held1 HX.out) Try.underlying23 rfl HS.out.plan ?_)
    | (refine wpList_load_want rfl 25 (.tmp 12) rfl w6.heap.size rfl 25 #[.int .i64 5, .int .i64 0] (0, 0) _ (held2 HX.out) Try.underlying25 rfl info_place ?_)
    | (go_at_call 27; refine (HM1.out _).mono ?_; clear HM1; rintro e w8 ⟨rfl, hb⟩; have HXs := HX; clear HX; have HX := Lib.hid (held_later hb HXs.out); clear HXs hb)
    | (go_at_call 25; refine (HF1.out _).mono ?_; clear HF1; rintro e w9 ⟨rfl, hb⟩; have HXs := HX; clear HX; have HX := Lib.hid (held_later hb HXs.out); clear HXs hb)
    | (go_at_call 25; refine (HF2.out _).mono ?_; clear HF2; rintro e w10 ⟨rfl, hb⟩; have HXs := HX; clear HX; have HX := Lib.hid (held_later hb HXs.out); clear HXs hb)
    | (go_at_call 25; refine (HF3.out _).mono ?_; clear HF3; rintro e w11 ⟨rfl, hb⟩; have HXs := HX; clear HX; have HX := Lib.hid (held_later hb HXs.out); clear HXs hb)
    | (go_at_call 25; refine (HF4.out _).mono ?_; clear HF4; rintro e w12 ⟨rfl, hb⟩; have HXs := HX; clear HX; have HX := Lib.hid (held_later hb HXs.out); clear HXs hb))
  go_upto_region 14 with (first
    | (refine wpList_load_row rfl 23 (.tmp 1) rfl w1.heap.size rfl 23 planS.cells (0, 0) _ (held1 HX.out) Try.underlying23 rfl HS.out.plan ?_)
    | (go_at_call 9; refine (HB1.out _).mono ?_; clear HB1; rintro e w13 ⟨rfl, hb⟩; have HXs := HX; clear HX; have HX := Lib.hid (held_later hb HXs.out); clear HXs hb)
    | (go_at_call 9; refine (HB2.out _).mono ?_; clear HB2; rintro e w14 ⟨rfl, hb⟩; have HXs := HX; clear HX; have HX := Lib.hid (held_later hb HXs.out); clear HXs hb)
    | (go_at_call 9; refine (HB3.out _).mono ?_; clear HB3; rintro e w15 ⟨rfl, hb⟩; have HXs := HX; clear HX; have HX := Lib.hid (held_later hb HXs.out); clear HXs hb)
    | (go_at_call 13; refine (HX2.out _).mono ?_; clear HX2; rintro e w16 ⟨rfl, hb⟩; have HXs := HX; clear HX; have HX := Lib.hid (held_later hb HXs.out); clear HXs hb)
    | (refine wpList_store_last (w := w16) rfl 25 (.tmp 23) (.tmp 184) rfl _ #[.int .i64 0, .int .i64 0] rfl rfl 25 _ rfl info_place rfl (spot_one 0 0) ?_; have HXs := HX; clear HX; have HX := Lib.hid (held_new HXs.out 25 #[.int .i64 0, .int .i64 0]); clear HXs)
    | (go_at_call 11; refine (HO1.out _).mono ?_; clear HO1; rintro e w17 ⟨rfl, hb⟩; have HXs := HX; clear HX; have HX := Lib.hid (held_later hb HXs.out); clear HXs hb)
    | (refine wpList_store_last (w := w17) rfl 25 (.tmp 25) (.tmp 189) rfl _ #[.int .i64 0, .int .i64 0] rfl rfl 25 _ rfl info_place rfl (spot_one 0 0) ?_; have HXs := HX; clear HX; have HX := Lib.hid (held_new HXs.out 25 #[.int .i64 0, .int .i64 0]); clear HXs))
  go_upto_region 20 with (first
    | (refine wpList_load_row rfl 23 (.tmp 1) rfl w1.heap.size rfl 23 planS.cells (0, 0) _ (held1 HX.out) Try.underlying23 rfl HS.out.plan ?_)
    | (go_at_call 11; refine (HO2.out _).mono ?_; clear HO2; rintro e w18 ⟨rfl, hb⟩; have HXs := HX; clear HX; have HX := Lib.hid (held_later hb HXs.out); clear HXs hb)
    | (refine wpList_store_last (w := w18) rfl 25 (.tmp 27) (.tmp 194) rfl _ #[.int .i64 0, .int .i64 0] rfl rfl 25 _ rfl info_place rfl (spot_one 0 0) ?_; have HXs := HX; clear HX; have HX := Lib.hid (held_new HXs.out 25 #[.int .i64 0, .int .i64 0]); clear HXs)
    | (go_at_call 11; refine (HO3.out _).mono ?_; clear HO3; rintro e w19 ⟨rfl, hb⟩; have HXs := HX; clear HX; have HX := Lib.hid (held_later hb HXs.out); clear HXs hb)
    | (refine wpList_store_last (w := w19) rfl 25 (.tmp 29) (.tmp 199) rfl _ #[.int .i64 2147483647, .int .i64 0] rfl rfl 25 _ rfl info_place rfl (spot_one 2147483647 0) ?_; have HXs := HX; clear HX; have HX := Lib.hid (held_new HXs.out 25 #[.int .i64 2147483647, .int .i64 0]); clear HXs)
    | (go_at_call 21; refine (HL2.out _).mono ?_; clear HL2; rintro e w20 ⟨rfl, hb⟩; have HXs := HX; clear HX; have HX := Lib.hid (held_later hb HXs.out); clear HXs hb)
    | (go_at_call 23; refine (HW2.out _).mono ?_; clear HW2; rintro e w21 ⟨rfl, hb⟩; have HXs := HX; clear HX; have HX := Lib.hid (held_later hb HXs.out); clear HXs hb)
    | (go_at_call 9; refine (HBZ.out _).mono ?_; clear HBZ; rintro e w22 ⟨rfl, hb⟩; have HXs := HX; clear HX; have HX := Lib.hid (held_later hb HXs.out); clear HXs hb)
    | (go_at_call 19; refine (HEZ.out _).mono ?_; clear HEZ; rintro e w23 ⟨rfl, hb⟩; have HXs := HX; clear HX; have HX := Lib.hid (held_later hb HXs.out); clear HXs hb))
  go_upto_region 21 with (first
    | (refine wpList_load_want rfl 25 (.tmp 29) rfl w19.heap.size rfl 25 #[.int .i64 2147483647, .int .i64 0] (0, 0) _ (held6 HX.out) Try.underlying25 rfl info_place ?_))
  go_wp2_with (first
    | (go_at_call 30; refine (aliveS_any _).mono ?_; rintro e w24 ⟨rfl, hb⟩; have HXs := HX; clear HX; have HX := Lib.hid (held_later hb HXs.out); clear HXs hb)
    | (go_at_call 27; refine (HMZ.out _).mono ?_; clear HMZ; rintro e w25 ⟨rfl, hb⟩; have HXs := HX; clear HX; have HX := Lib.hid (held_later hb HXs.out); clear HXs hb)
    | (go_at_call 25; refine (HFZ.out _).mono ?_; clear HFZ; rintro e w26 ⟨rfl, hb⟩; have HXs := HX; clear HX; have HX := Lib.hid (held_later hb HXs.out); clear HXs hb))
  go_ret
  exact ⟨rfl, HX.out.1⟩
end Go.Proofs.Ytdeiohcciafffaa
