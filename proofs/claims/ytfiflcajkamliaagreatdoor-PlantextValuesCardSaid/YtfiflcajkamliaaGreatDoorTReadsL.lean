/- PlantextReads, its walk. It asks what a variable of the library's holds: some number. -/
import Derived.Test.YtfiflcajkamliaaGreatDoorTRLoad
namespace Go.Proofs.YtfiflcajkamliaaGreatDoor
open Go.RowKit Go.Shelf

set_option maxRecDepth 100000 in
set_option maxHeartbeats 2000000 in
theorem eql_plan (y : Pl) (W : World) : (binOp .eql 23 (.agg y.cells) (.agg y.cells)).run Tryz.prog W = .ok (.bool true) W := by
  unfold Pl.cells
  simp [go_sem]

set_option maxRecDepth 100000 in
set_option maxHeartbeats 4000000 in
theorem reads_walk (s : ByteArray) (q : Int) (w : World) (hm : Sized q w) : Calls Tryz.prog 3 #[.string s] w fun e w' => e = .returned (.bool true) ∧ Below w.heap.size w w' := by
  by_cases h5 : 5000 < s.size
  · go_enter Tryz.func3, Tryz.ntmps3
    go_wp2
    go_ret
    exact ⟨rfl, Below.refl _ _⟩
  have h6 : s.size ≤ 5000 := by omega
  have hs : s = txt s.data.toList := rfl
  have hl : s.data.toList.length ≤ 1000000 := by have h : s.data.size = s.size := rfl; rw [Array.length_toList]; omega
  have hP := fun W (h : Sized q W) => Parse_any s.data.toList q W hl h
  have hR := fun W => refParse_any s.data.toList W hl
  have hU := fun W (h : Sized q W) => Load_any s.data.toList q W hl h
  have hV := fun W => refLoad_any s.data.toList W hl
  rw [← hs] at hP hR hU hV
  unfold parseV at hP hR
  unfold loadV at hU hV
  have HP := Lib.hid hP
  have HR := Lib.hid hR
  have HU := Lib.hid hU
  have HV := Lib.hid hV
  clear hP hR hU hV hs hl h5
  have HM := Lib.hid hm
  clear hm
  have hq1 := eql_plan (planT s.data.toList)
  have hq2 := eql_plan (if errT s.data.toList = true then zeroP else loadP s.data.toList)
  have HQ1 := Lib.hid (planT s.data.toList).cellsL
  have HQ2 := Lib.hid (if errT s.data.toList = true then zeroP else loadP s.data.toList).cellsL
  generalize (planT s.data.toList).cells = c1 at *
  generalize (if errT s.data.toList = true then zeroP else loadP s.data.toList).cells = c2 at *
  generalize (lineNo s.data.toList : Nat) = no at *
  generalize (if errT s.data.toList = true then (80 : Int) else 0) = er at *
  generalize loadE s.data.toList = le at *
  go_enter Tryz.func3, Tryz.ntmps3
  go_upto_region 7 with (first
    | (go_at_call 8; refine (HP.out _ HM.out).mono ?_; clear HP; rintro e w1 ⟨rfl, hb⟩; have HB1 := Lib.hid hb; clear hb)
    | (refine wpList_store_last (w := w1) rfl 23 (.tmp 3) (.tmp 19) rfl w1.heap.size c1 rfl rfl 23 _ rfl HQ1.out.plan HQ1.out.size.symm HQ1.out.one ?_; have HX1 := Lib.hid (Whole.new w1 23 c1); have HC1 := Lib.hid (HB1.out.alloc HB1.out.size (.cells c1 23)))
    | (go_at_call 9; refine (HR.out _).mono ?_; clear HR; rintro e w2 ⟨rfl, hb⟩; have HB2 := Lib.hid (k_then hb HC1.out); have HX12 := Lib.hid (k_later hb HX1.out); clear hb)
    | (refine wpList_store_last (w := w2) rfl 23 (.tmp 6) (.tmp 25) rfl w2.heap.size c1 rfl rfl 23 _ rfl HQ1.out.plan HQ1.out.size.symm HQ1.out.one ?_; have HX2 := Lib.hid (Whole.new w2 23 c1); have HX13 := Lib.hid (HX12.out.alloc (.cells c1 23)); have HC2 := Lib.hid (HB2.out.alloc HB2.out.size (.cells c1 23)))
    | (go_at_call 10; refine (HU.out _ (HM.out.later HC2.out)).mono ?_; clear HU; rintro e w3 ⟨rfl, hb⟩; have HB3 := Lib.hid (k_then hb HC2.out); have HX14 := Lib.hid (k_later hb HX13.out); have HX24 := Lib.hid (k_later hb HX2.out); clear hb)
    | (refine wpList_store_last (w := w3) rfl 23 (.tmp 9) (.tmp 31) rfl w3.heap.size c2 rfl rfl 23 _ rfl HQ2.out.plan HQ2.out.size.symm HQ2.out.one ?_; have HX3 := Lib.hid (Whole.new w3 23 c2); have HX15 := Lib.hid (HX14.out.alloc (.cells c2 23)); have HX25 := Lib.hid (HX24.out.alloc (.cells c2 23)); have HC3 := Lib.hid (HB3.out.alloc HB3.out.size (.cells c2 23)))
    | (go_at_call 11; refine (HV.out _).mono ?_; clear HV; rintro e w4 ⟨rfl, hb⟩; have HB4 := Lib.hid (k_then hb HC3.out); have HX16 := Lib.hid (k_later hb HX15.out); have HX26 := Lib.hid (k_later hb HX25.out); have HX36 := Lib.hid (k_later hb HX3.out); clear hb)
    | (refine wpList_store_last (w := w4) rfl 23 (.tmp 11) (.tmp 36) rfl w4.heap.size c2 rfl rfl 23 _ rfl HQ2.out.plan HQ2.out.size.symm HQ2.out.one ?_; have HX4 := Lib.hid (Whole.new w4 23 c2); have HX17 := Lib.hid (HX16.out.alloc (.cells c2 23)); have HX27 := Lib.hid (HX26.out.alloc (.cells c2 23)); have HX37 := Lib.hid (HX36.out.alloc (.cells c2 23)); have HC4 := Lib.hid (HB4.out.alloc HB4.out.size (.cells c2 23))))
  generalize w4.alloc (.cells c2 23) = w5 at *
  clear HB1 HX1 HC1 HB2 HX12 HX2 HX13 HC2 HB3 HX14 HX24 HX3 HX15 HX25 HC3 HB4 HX16 HX26 HX36 HM
  go_wp2_with (first
    | (refine wpList_load_row rfl 23 (.tmp 3) rfl w1.heap.size rfl 23 c1 (0, 0) _ HX17.out Tryz.underlying23 rfl HQ1.out.plan ?_)
    | (refine wpList_load_row rfl 23 (.tmp 6) rfl w2.heap.size rfl 23 c1 (0, 0) _ HX27.out Tryz.underlying23 rfl HQ1.out.plan ?_)
    | (refine wpList_load_want rfl 23 (.tmp 9) rfl w3.heap.size rfl 23 c2 (0, 0) _ HX37.out Tryz.underlying23 rfl HQ2.out.plan ?_)
    | (refine wpList_load_want rfl 23 (.tmp 11) rfl w4.heap.size rfl 23 c2 (0, 0) _ HX4.out Tryz.underlying23 rfl HQ2.out.plan ?_))
  go_ret
  exact ⟨rfl, HC4.out⟩
end Go.Proofs.YtfiflcajkamliaaGreatDoor
