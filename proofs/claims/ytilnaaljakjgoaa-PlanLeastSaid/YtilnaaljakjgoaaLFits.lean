/- PlanFits, its walk. -/
import Derived.Test.YtilnaaljakjgoaaLRefFit
namespace Go.Proofs.Ytilnaaljakjgoaa
open Go.RowKit Go.Shelf

set_option maxRecDepth 100000 in
set_option maxHeartbeats 2000000 in
theorem eql_plan (y : Pl) (W : World) : (binOp .eql 23 (.agg y.cells) (.agg y.cells)).run Try.prog W = .ok (.bool true) W := by
  unfold Pl.cells
  simp [go_sem]

set_option maxRecDepth 100000 in
set_option maxHeartbeats 4000000 in
theorem fits_walk (x : Pl) (w : World) : Calls Try.prog 4 #[.agg x.cells] w fun e w' => e = .returned (.bool true) ∧ Below w.heap.size w w' := by
  have HS := Lib.hid x.cellsL
  have HPC := Lib.hid (fitP x).cellsL
  have HA := Lib.hid (fun W => Fit_any x W)
  have HR := Lib.hid (fun W => refFit_any x W)
  have hq := eql_plan (fitP x)
  have hb := (Below.refl w.heap.size w).alloc (Nat.le_refl _) (.cells x.cells 23)
  have hw := Whole.new w 23 x.cells
  have HB := Lib.hid hb
  have HW := Lib.hid hw
  clear hb hw
  unfold fitV at HA HR
  generalize (fitP x).cells = ps at *
  generalize fitE x = fe at *
  generalize x.cells = cs at *
  go_enter Try.func4, Try.ntmps4
  go_wp2_with (first
    | (refine wpList_load_row rfl 23 _ rfl w.heap.size rfl 23 cs (0, 0) _ (heap_alloc_last w _) Try.underlying23 rfl HS.out.plan ?_)
    | (refine wpList_load_row rfl 23 _ rfl w.heap.size rfl 23 cs (0, 0) _ HW2.out Try.underlying23 rfl HS.out.plan ?_)
    | (refine wpList_load_row rfl 23 _ rfl _ rfl 23 ps (0, 0) _ HP4.out Try.underlying23 rfl HPC.out.plan ?_)
    | (refine wpList_load_row rfl 23 _ rfl _ rfl 23 ps (0, 0) _ (heap_alloc_last w3 _) Try.underlying23 rfl HPC.out.plan ?_)
    | (refine wpList_store_last (w := w1) rfl 23 _ _ rfl _ ps rfl rfl 23 _ rfl HPC.out.plan HPC.out.size.symm HPC.out.one ?_; have HP2 := Lib.hid (Whole.new w1 23 ps); have HW2 := Lib.hid (HW1.out.alloc (.cells ps 23)); have HK2 := Lib.hid (HK1.out.alloc HK1.out.size (.cells ps 23)))
    | (refine wpList_store_last (w := w3) rfl 23 _ _ rfl _ ps rfl rfl 23 _ rfl HPC.out.plan HPC.out.size.symm HPC.out.one ?_; have HP4 := Lib.hid (HP3.out.alloc (.cells ps 23)); have HK4 := Lib.hid (HK3.out.alloc HK3.out.size (.cells ps 23)))
    | (go_at_call 16; refine (HA.out _).mono ?_; rintro e w1 ⟨rfl, hb1⟩; have HW1 := Lib.hid (k_later hb1 HW.out); have HK1 := Lib.hid (k_then hb1 HB.out); clear hb1)
    | (go_at_call 17; refine (HR.out _).mono ?_; rintro e w3 ⟨rfl, hb3⟩; have HP3 := Lib.hid (k_later hb3 HP2.out); have HK3 := Lib.hid (k_then hb3 HK2.out); clear hb3))
  go_ret
  exact ⟨rfl, HK4.out⟩

end Go.Proofs.Ytilnaaljakjgoaa
