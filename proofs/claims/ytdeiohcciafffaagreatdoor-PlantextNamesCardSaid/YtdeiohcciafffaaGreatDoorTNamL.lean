/- PlantextNames, its walk. It asks that the table of tens reads as the library lays it, and that a variable of the library's holds some number. -/
import Derived.Test.YtdeiohcciafffaaGreatDoorTNamQ
import Derived.Test.YtdeiohcciafffaaGreatDoorTNamesP
namespace Go.Proofs.YtdeiohcciafffaaGreatDoor
open Go.RowKit Go.Shelf

set_option maxRecDepth 100000 in
set_option maxHeartbeats 40000000 in
theorem names_walk (q : Int) (w : World) (ht : Tens w) (hm : Sized q w) : Calls Tryz.prog 3 #[] w fun e w' => e = .returned (.bool true) ∧ Below w.heap.size w w' := by
  have HQ := Lib.hid planN.cellsL
  have HQ2 := Lib.hid (loadP textN).cellsL
  have HQZ := Lib.hid zeroP.cellsL
  have heq := eql_plan planN
  have hsz := tN_size
  have hrs : rN.size = 3843 := by rw [txt_size, List.length_replicate]
  have HT := Lib.hid ht
  have HM := Lib.hid hm
  have HX := Lib.hid (held_start w)
  clear ht hm
  have HS1 := Lib.hid (fun W h => nam_show W h)
  have HP1 := Lib.hid (fun W h => nam_parse q W h)
  have HL1 := Lib.hid (fun W h => nam_load q W h)
  have HPF := Lib.hid (fun W => nam_pre W)
  have HSF := Lib.hid (fun W => nam_suf W)
  have HRP := Lib.hid (fun W h => nam_repl q W h)
  have HY0 := Lib.hid (fun W h => nam_says0 q W h)
  have HY1 := Lib.hid (fun W h => nam_says1 q W h)
  have HY2 := Lib.hid (fun W h => nam_says2 q W h)
  have HY3 := Lib.hid (fun W h => nam_says3 q W h)
  have HY4 := Lib.hid (fun W h => nam_says4 q W h)
  have HY5 := Lib.hid (fun W h => nam_says5 q W h)
  have HY6 := Lib.hid (fun W h => nam_says6 q W h)
  have HY7 := Lib.hid (fun W h => nam_says7 q W h)
  have HY8 := Lib.hid (fun W h => nam_says8 q W h)
  have HY9 := Lib.hid (fun W h => nam_says9 q W h)
  have HY10 := Lib.hid (fun W h => nam_says10 q W h)
  have HY11 := Lib.hid (fun W h => nam_says11 q W h)
  have HY12 := Lib.hid (fun W h => nam_says12 q W h)
  have HY13 := Lib.hid (fun W h => nam_says13 q W h)
  have HRE := Lib.hid (fun W => nam_repeat W)
  have HP2 := Lib.hid (fun W h => nam_long q W h)
  have HP3 := Lib.hid (fun W h => nam_over1 q W h)
  have HP4 := Lib.hid (fun W h => nam_over2 q W h)
  have HV1 := Lib.hid (fun W => nam_val1 W)
  have HV2 := Lib.hid (fun W => nam_val2 W)
  have HSK := Lib.hid (fun W h => nam_showK W h)
  have HCK := Lib.hid (fun W h => nam_has q W h)
  have HAL := Lib.hid (fun W h => alive_any q W h)
  have HNM := Lib.hid (fun W => Names_any W)
  generalize tN = tn at *
  generalize rN = rn at *
  generalize (lineNo textN : Nat) = l1 at *
  generalize (lineNo longN : Nat) = l2 at *
  generalize (loadP textN).cells = cl at *
  generalize txt replN = rt at *
  generalize txt textK = kt at *
  go_enter Tryz.func3, Tryz.ntmps3
  go_upto_region 5 with (first
    | (refine wpList_store_last (w := w) rfl 23 (.tmp 1) (.tmp 25) rfl _ planN.cells rfl rfl 23 _ rfl HQ.out.plan HQ.out.size.symm HQ.out.one ?_; have HXs := HX; clear HX; have HX := Lib.hid (held_new HXs.out 23 planN.cells); clear HXs)
    | (refine wpList_load_row rfl 23 (.tmp 1) rfl w.heap.size rfl 23 planN.cells (0, 0) _ (held1 HX.out) Tryz.underlying23 rfl HQ.out.plan ?_)
    | (go_at_call 6; refine (HS1.out _ (HT.out.later HX.out.1)).mono ?_; clear HS1; rintro e w1 ⟨rfl, hb⟩; have HXs := HX; clear HX; have HX := Lib.hid (held_later hb HXs.out); clear HXs hb)
    | (go_at_call 7; refine (HP1.out _ (HM.out.later HX.out.1)).mono ?_; clear HP1; rintro e w2 ⟨rfl, hb⟩; have HXs := HX; clear HX; have HX := Lib.hid (held_later hb HXs.out); clear HXs hb)
    | (refine wpList_store_last (w := w2) rfl 23 (.tmp 3) (.tmp 31) rfl _ planN.cells rfl rfl 23 _ rfl HQ.out.plan HQ.out.size.symm HQ.out.one ?_; have HXs := HX; clear HX; have HX := Lib.hid (held_new HXs.out 23 planN.cells); clear HXs)
    | (go_at_call 8; refine (HL1.out _ (HM.out.later HX.out.1)).mono ?_; clear HL1; rintro e w3 ⟨rfl, hb⟩; have HXs := HX; clear HX; have HX := Lib.hid (held_later hb HXs.out); clear HXs hb)
    | (refine wpList_store_last (w := w3) rfl 23 (.tmp 6) (.tmp 37) rfl _ cl rfl rfl 23 _ rfl HQ2.out.plan HQ2.out.size.symm HQ2.out.one ?_; have HXs := HX; clear HX; have HX := Lib.hid (held_new HXs.out 23 cl); clear HXs))
  generalize w3.alloc (.cells cl 23) = w4 at *
  go_upto_region 6 with (first
    | (go_at_call 9; refine (HPF.out _).mono ?_; clear HPF; rintro e wa ⟨rfl, rfl⟩)
    | (go_at_call 10; refine (HSF.out _).mono ?_; clear HSF; rintro e wb ⟨rfl, rfl⟩)
    | (refine wpList_load_want rfl 23 (.tmp 3) rfl w2.heap.size rfl 23 planN.cells (0, 0) _ (held2 HX.out) Tryz.underlying23 rfl HQ.out.plan ?_)
    | (refine wpList_load_want rfl 23 (.tmp 1) rfl w.heap.size rfl 23 planN.cells (0, 0) _ (held1 HX.out) Tryz.underlying23 rfl HQ.out.plan ?_))
  go_upto_region 7 with (first
    | (go_at_call 12; refine (HRP.out _ (HM.out.later HX.out.1)).mono ?_; clear HRP; rintro e w5 ⟨rfl, hb⟩; have HXs := HX; clear HX; have HX := Lib.hid (held_later hb HXs.out); clear HXs hb)
    | (go_at_call 11; refine (HY0.out _ (HM.out.later HX.out.1)).mono ?_; clear HY0; rintro e y0 ⟨rfl, hb⟩; have HXs := HX; clear HX; have HX := Lib.hid (held_later hb HXs.out); clear HXs hb)
    | (go_at_call 11; refine (HY1.out _ (HM.out.later HX.out.1)).mono ?_; clear HY1; rintro e y1 ⟨rfl, hb⟩; have HXs := HX; clear HX; have HX := Lib.hid (held_later hb HXs.out); clear HXs hb)
    | (go_at_call 11; refine (HY2.out _ (HM.out.later HX.out.1)).mono ?_; clear HY2; rintro e y2 ⟨rfl, hb⟩; have HXs := HX; clear HX; have HX := Lib.hid (held_later hb HXs.out); clear HXs hb)
    | (go_at_call 11; refine (HY3.out _ (HM.out.later HX.out.1)).mono ?_; clear HY3; rintro e y3 ⟨rfl, hb⟩; have HXs := HX; clear HX; have HX := Lib.hid (held_later hb HXs.out); clear HXs hb)
    | (go_at_call 11; refine (HY4.out _ (HM.out.later HX.out.1)).mono ?_; clear HY4; rintro e y4 ⟨rfl, hb⟩; have HXs := HX; clear HX; have HX := Lib.hid (held_later hb HXs.out); clear HXs hb)
    | (go_at_call 11; refine (HY5.out _ (HM.out.later HX.out.1)).mono ?_; clear HY5; rintro e y5 ⟨rfl, hb⟩; have HXs := HX; clear HX; have HX := Lib.hid (held_later hb HXs.out); clear HXs hb)
    | (go_at_call 11; refine (HY6.out _ (HM.out.later HX.out.1)).mono ?_; clear HY6; rintro e y6 ⟨rfl, hb⟩; have HXs := HX; clear HX; have HX := Lib.hid (held_later hb HXs.out); clear HXs hb)
    | (go_at_call 11; refine (HY7.out _ (HM.out.later HX.out.1)).mono ?_; clear HY7; rintro e y7 ⟨rfl, hb⟩; have HXs := HX; clear HX; have HX := Lib.hid (held_later hb HXs.out); clear HXs hb)
    | (go_at_call 11; refine (HY8.out _ (HM.out.later HX.out.1)).mono ?_; clear HY8; rintro e y8 ⟨rfl, hb⟩; have HXs := HX; clear HX; have HX := Lib.hid (held_later hb HXs.out); clear HXs hb)
    | (go_at_call 11; refine (HY9.out _ (HM.out.later HX.out.1)).mono ?_; clear HY9; rintro e y9 ⟨rfl, hb⟩; have HXs := HX; clear HX; have HX := Lib.hid (held_later hb HXs.out); clear HXs hb)
    | (go_at_call 11; refine (HY10.out _ (HM.out.later HX.out.1)).mono ?_; clear HY10; rintro e y10 ⟨rfl, hb⟩; have HXs := HX; clear HX; have HX := Lib.hid (held_later hb HXs.out); clear HXs hb)
    | (go_at_call 11; refine (HY11.out _ (HM.out.later HX.out.1)).mono ?_; clear HY11; rintro e y11 ⟨rfl, hb⟩; have HXs := HX; clear HX; have HX := Lib.hid (held_later hb HXs.out); clear HXs hb)
    | (go_at_call 11; refine (HY12.out _ (HM.out.later HX.out.1)).mono ?_; clear HY12; rintro e y12 ⟨rfl, hb⟩; have HXs := HX; clear HX; have HX := Lib.hid (held_later hb HXs.out); clear HXs hb)
    | (go_at_call 11; refine (HY13.out _ (HM.out.later HX.out.1)).mono ?_; clear HY13; rintro e y13 ⟨rfl, hb⟩; have HXs := HX; clear HX; have HX := Lib.hid (held_later hb HXs.out); clear HXs hb))
  go_upto_region 11 with (first
    | (go_at_call 13; refine (HRE.out _).mono ?_; clear HRE; rintro e w6 ⟨rfl, hb⟩; have HXs := HX; clear HX; have HX := Lib.hid (held_later hb HXs.out); clear HXs hb)
    | (go_at_call 7; refine (HP2.out _ (HM.out.later HX.out.1)).mono ?_; clear HP2; rintro e w7 ⟨rfl, hb⟩; have HXs := HX; clear HX; have HX := Lib.hid (held_later hb HXs.out); clear HXs hb)
    | (go_at_call 7; refine (HP3.out _ (HM.out.later HX.out.1)).mono ?_; clear HP3; rintro e w8 ⟨rfl, hb⟩; have HXs := HX; clear HX; have HX := Lib.hid (held_later hb HXs.out); clear HXs hb)
    | (go_at_call 7; refine (HP4.out _ (HM.out.later HX.out.1)).mono ?_; clear HP4; rintro e w9 ⟨rfl, hb⟩; have HXs := HX; clear HX; have HX := Lib.hid (held_later hb HXs.out); clear HXs hb)
    | (refine wpList_store_last (w := w7) rfl 23 (.tmp 11) (.tmp 123) rfl _ planN.cells rfl rfl 23 _ rfl HQ.out.plan HQ.out.size.symm HQ.out.one ?_; have HXs := HX; clear HX; have HX := Lib.hid (held_new HXs.out 23 planN.cells); clear HXs)
    | (refine wpList_store_last (w := w8) rfl 23 (.tmp 14) (.tmp 130) rfl _ zeroP.cells rfl rfl 23 _ rfl HQZ.out.plan HQZ.out.size.symm HQZ.out.one ?_; have HXs := HX; clear HX; have HX := Lib.hid (held_new HXs.out 23 zeroP.cells); clear HXs)
    | (refine wpList_store_last (w := w9) rfl 23 (.tmp 17) (.tmp 137) rfl _ zeroP.cells rfl rfl 23 _ rfl HQZ.out.plan HQZ.out.size.symm HQZ.out.one ?_; have HXs := HX; clear HX; have HX := Lib.hid (held_new HXs.out 23 zeroP.cells); clear HXs))
  generalize w9.alloc (.cells zeroP.cells 23) = w10 at *
  go_upto_region 14 with (first
    | (refine wpList_load_row rfl 23 (.tmp 1) rfl w.heap.size rfl 23 planN.cells (0, 0) _ (held1 HX.out) Tryz.underlying23 rfl HQ.out.plan ?_)
    | (go_at_call 14; refine (HV1.out _).mono ?_; clear HV1; rintro e w11 ⟨rfl, hb⟩; have HXs := HX; clear HX; have HX := Lib.hid (held_later hb HXs.out); clear HXs hb)
    | (go_at_call 14; refine (HV2.out _).mono ?_; clear HV2; rintro e w12 ⟨rfl, hb⟩; have HXs := HX; clear HX; have HX := Lib.hid (held_later hb HXs.out); clear HXs hb)
    | (go_at_call 6; refine (HSK.out _ (HT.out.later HX.out.1)).mono ?_; clear HSK; rintro e w13 ⟨rfl, hb⟩; have HXs := HX; clear HX; have HX := Lib.hid (held_later hb HXs.out); clear HXs hb))
  go_wp2_with (first
    | (go_at_call 15; refine (HAL.out _ (HM.out.later HX.out.1)).mono ?_; clear HAL; rintro e w14 ⟨rfl, hb⟩; have HXs := HX; clear HX; have HX := Lib.hid (held_later hb HXs.out); clear HXs hb)
    | (refine wpList_load_want rfl 23 (.tmp 11) rfl w7.heap.size rfl 23 planN.cells (0, 0) _ (held4 HX.out) Tryz.underlying23 rfl HQ.out.plan ?_)
    | (refine wpList_load_want rfl 23 (.tmp 1) rfl w.heap.size rfl 23 planN.cells (0, 0) _ (held1 HX.out) Tryz.underlying23 rfl HQ.out.plan ?_)
    | (go_at_call 16; refine (HCK.out _ (HM.out.later HX.out.1)).mono ?_; clear HCK; rintro e w15 ⟨rfl, rfl⟩)
    | (go_at_call 17; refine (HNM.out _).mono ?_; clear HNM; rintro e w16 hf; obtain ⟨nb, nc, rfl, hnb, hnl, hcell, hfz, hb⟩ := hf.opened; clear hf hnb hnl hcell hfz; have HXs := HX; clear HX; have HX := Lib.hid (held_later hb HXs.out); clear HXs hb))
  go_ret
  exact ⟨rfl, HX.out.1⟩
end Go.Proofs.YtdeiohcciafffaaGreatDoor
