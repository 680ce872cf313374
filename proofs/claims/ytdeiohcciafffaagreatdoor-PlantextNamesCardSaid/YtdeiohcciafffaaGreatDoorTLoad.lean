/- Load, by a contract: the program's. It asks what a variable of the library's holds: some number. -/
import Derived.Test.YtdeiohcciafffaaGreatDoorTParse
import Derived.Test.YtdeiohcciafffaaGreatDoorLCode
namespace Go.Proofs.YtdeiohcciafffaaGreatDoor
open Go.RowKit Go.Shelf

/-- What Load answers. -/
def loadP (l : List UInt8) : Pl := if chkL (planT l) = 0 then planT l else zeroP
def loadE (l : List UInt8) : Int := if errT l then 80 else chkL (planT l)
def loadV (l : List UInt8) : Value := .tuple #[.agg (if errT l then zeroP else loadP l).cells, .int .i64 (loadE l)]

set_option maxRecDepth 100000 in
set_option maxHeartbeats 8000000 in
theorem Load_any (l : List UInt8) (q : Int) (w : World) (hl : l.length ≤ 1000000) (hm : Sized q w) :
    Calls Tryz.prog 8 #[.string (txt l)] w fun e w' => e = .returned (loadV l) ∧ Below w.heap.size w w' := by
  obtain ⟨tl, htl⟩ : ∃ tl, tl = txt l := ⟨_, rfl⟩
  have HB := Lib.hid ((Below.refl w.heap.size w).alloc (Nat.le_refl _) (.cells zeroP.cells 23))
  have HZ := Lib.hid (Whole.new w 23 zeroP.cells)
  have hp := Parse_any l q (w.alloc (.cells zeroP.cells 23)) hl (hm.later HB.out)
  rw [parseV, ← htl] at hp
  rw [← htl]
  have HV := Lib.hid (show loadV l = .tuple #[.agg (if errT l then zeroP else loadP l).cells, .int .i64 (if errT l then 80 else chkL (planT l))] from rfl)
  unfold loadP at HV
  have HC := Lib.hid (fun W => Check_any (x := planT l) (w := W))
  have HQ := Lib.hid (planT l).cellsL
  generalize loadV l = lv at *
  generalize (lineNo l : Nat) = no at *
  clear htl hm
  cases he : errT l
  · rw [he] at hp HV
    have HPA := Lib.hid hp
    simp only [Bool.false_eq_true, if_false] at HV HPA
    clear hp
    generalize hch : chkL (planT l) = ch at *
    have HCH := Lib.hid hch
    clear hch
    by_cases h0 : ch = 0
    · subst h0
      have HW := Lib.hid (show lv = .tuple #[.agg (planT l).cells, .int .i64 0] by rw [HV.out, if_pos rfl])
      clear HV
      generalize (planT l).cells = cs at *
      go_enter Tryz.func8, Tryz.ntmps8
      go_wp2_with (first
        | (go_at_call 7; refine HPA.out.mono ?_; clear HPA; rintro e w2 ⟨rfl, hb⟩; have HZ2 := Lib.hid (k_later hb HZ.out); have HB2 := Lib.hid (k_then hb HB.out); clear hb)
        | (refine wpList_store_last (w := w2) rfl 23 (.tmp 4) (.tmp 11) rfl w2.heap.size cs rfl rfl 23 _ rfl HQ.out.plan HQ.out.size.symm HQ.out.one ?_; have HX := Lib.hid (Whole.new w2 23 cs); have HZ3 := Lib.hid (HZ2.out.alloc (.cells cs 23)); have HB3 := Lib.hid (HB2.out.alloc HB2.out.size (.cells cs 23)))
        | (refine wpList_load_row rfl 23 (.tmp 4) rfl w2.heap.size rfl 23 cs (0, 0) _ HX.out Tryz.underlying23 rfl HQ.out.plan ?_)
        | (go_at_call 28; refine (HC.out _).mono ?_; clear HC; rintro e w4 ⟨rfl, hb⟩; have HZ4 := Lib.hid (k_later hb HZ3.out); have HX4 := Lib.hid (k_later hb HX.out); have HB4 := Lib.hid (k_then hb HB3.out); clear hb)
        | (refine wpList_load_row rfl 23 (.tmp 4) rfl w2.heap.size rfl 23 cs (0, 0) _ HX4.out Tryz.underlying23 rfl HQ.out.plan ?_)
        | (refine wpList_store_row rfl 23 (.tmp 2) (.tmp 24) rfl w.heap.size cs rfl rfl 23 zeroP.cells HZ4.out HQ.out.plan HQ.out.size.symm HQ.out.one ?_))
      refine bodyPost_ret (v := lv) ?_ rfl ⟨rfl, below_setRow' HB4.out (Nat.le_refl _) _⟩
      rw [HW.out]
      exact results_row1 rfl _ _ _ 23 _ (0, 0) _ rfl rfl (setRow_whole HZ4.out) Tryz.underlying23 rfl HQ.out.plan
    · have h1 : (ch == 0) = false := by rw [beq_eq_false_iff_ne]; exact h0
      have h2 : (ch != 0) = true := by rw [bne_iff_ne]; exact h0
      have HW := Lib.hid (show lv = .tuple #[.agg zeroP.cells, .int .i64 ch] by rw [HV.out, if_neg h0])
      clear HV
      generalize (planT l).cells = cs at *
      go_enter Tryz.func8, Tryz.ntmps8
      go_wp2_with (first
        | (go_at_call 7; refine HPA.out.mono ?_; clear HPA; rintro e w2 ⟨rfl, hb⟩; have HZ2 := Lib.hid (k_later hb HZ.out); have HB2 := Lib.hid (k_then hb HB.out); clear hb)
        | (refine wpList_store_last (w := w2) rfl 23 (.tmp 4) (.tmp 11) rfl w2.heap.size cs rfl rfl 23 _ rfl HQ.out.plan HQ.out.size.symm HQ.out.one ?_; have HX := Lib.hid (Whole.new w2 23 cs); have HZ3 := Lib.hid (HZ2.out.alloc (.cells cs 23)); have HB3 := Lib.hid (HB2.out.alloc HB2.out.size (.cells cs 23)))
        | (refine wpList_load_row rfl 23 (.tmp 4) rfl w2.heap.size rfl 23 cs (0, 0) _ HX.out Tryz.underlying23 rfl HQ.out.plan ?_)
        | (go_at_call 28; refine (HC.out _).mono ?_; clear HC; rintro e w4 ⟨rfl, hb⟩; have HZ4 := Lib.hid (k_later hb HZ3.out); have HX4 := Lib.hid (k_later hb HX.out); have HB4 := Lib.hid (k_then hb HB3.out); clear hb)
        | (refine wpList_store_row rfl 23 (.tmp 2) (.tmp 22) rfl w.heap.size zeroP.cells rfl rfl 23 zeroP.cells HZ4.out zeroP.cellsL.plan rfl zeroP.cellsL.one ?_))
      refine bodyPost_ret (v := lv) ?_ rfl ⟨rfl, below_setRow' HB4.out (Nat.le_refl _) _⟩
      rw [HW.out]
      exact results_row1 rfl _ _ _ 23 _ (0, 0) _ rfl rfl (setRow_whole HZ4.out) Tryz.underlying23 rfl zeroP.cellsL.plan
  · have hpz : planT l = zeroP := by rw [planT, he]; rfl
    rw [he, hpz] at hp
    rw [he] at HV
    have HPA := Lib.hid hp
    simp only [if_true] at HV HPA
    clear hp hpz HC HQ
    have HW := HV
    clear HV
    go_enter Tryz.func8, Tryz.ntmps8
    go_wp2_with (first
      | (go_at_call 7; refine HPA.out.mono ?_; clear HPA; rintro e w2 ⟨rfl, hb⟩; have HZ2 := Lib.hid (k_later hb HZ.out); have HB2 := Lib.hid (k_then hb HB.out); clear hb)
      | (refine wpList_store_last (w := w2) rfl 23 (.tmp 4) (.tmp 11) rfl w2.heap.size zeroP.cells rfl rfl 23 _ rfl zeroP.cellsL.plan zeroP.cellsL.size.symm zeroP.cellsL.one ?_; have HX := Lib.hid (Whole.new w2 23 zeroP.cells); have HZ3 := Lib.hid (HZ2.out.alloc (.cells zeroP.cells 23)); have HB3 := Lib.hid (HB2.out.alloc HB2.out.size (.cells zeroP.cells 23)))
      | (refine wpList_store_row rfl 23 (.tmp 2) (.tmp 16) rfl w.heap.size zeroP.cells rfl rfl 23 zeroP.cells HZ3.out zeroP.cellsL.plan rfl zeroP.cellsL.one ?_))
    refine bodyPost_ret (v := lv) ?_ rfl ⟨rfl, below_setRow' HB3.out (Nat.le_refl _) _⟩
    rw [HW.out]
    exact results_row1 rfl _ _ _ 23 _ (0, 0) _ rfl rfl (setRow_whole HZ3.out) Tryz.underlying23 rfl zeroP.cellsL.plan
end Go.Proofs.YtdeiohcciafffaaGreatDoor
