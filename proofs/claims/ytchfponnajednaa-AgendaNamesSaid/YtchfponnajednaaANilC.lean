/- What a nil agenda answers: First, Take. No condition. -/
import Derived.Test.YtchfponnajednaaANilB
namespace Go.Proofs.Ytchfponnajednaa
open Go.RowKit Go.Shelf

set_option maxRecDepth 100000 in
set_option maxHeartbeats 2000000 in
theorem agFirstNil_any (w : World) :
    Calls Try.prog 11 #[.pointer none] w fun e w' => e = .returned (headOf []) ∧ Below w.heap.size w w' := by
  have hb0 : Below w.heap.size w (w.alloc (.cells zeroEv.cells.toArray 36)) := (Below.refl _ _).alloc (Nat.le_refl _) _
  have hW0 : Whole (w.alloc (.cells zeroEv.cells.toArray 36)) w.heap.size 36 zeroEv.cells.toArray := Whole.new w _ _
  have hk0 := keptNil2 (w.alloc (.cells zeroEv.cells.toArray 36))
  have HB0 := Lib.hid hb0
  have HK0 := Lib.hid hk0
  have HW0 := Lib.hid hW0
  clear hb0 hk0 hW0
  unfold zeroEv Ev.cells at HB0 HK0 HW0
  go_enter Try.func11, Try.ntmps11
  go_wp2_with fail
  refine HK0.out.mono ?_
  rintro e w1 ⟨p, v, l, rfl, hp, hh, hpm, hb, _⟩
  have hW1 := k_later hb HW0.out
  have hb1 := k_then hb HB0.out
  clear HK0 HB0 HW0 hb
  have c0 := hW1.cell 0
  have c1 := hW1.cell 1
  have c2 := hW1.cell 2
  have c3 := hW1.cell 3
  have c4 := hW1.cell 4
  have hfr := hW1.frozen
  have hc := hp.cell0
  simp at c0 c1 c2 c3 c4
  obtain rfl := heap_none hpm
  obtain ⟨A, c, rfl⟩ := pile_slice hp
  have HB1 := Lib.hid hb1
  clear hp hh hpm hb1 hW1
  go_wp2_with (go_at_call 29; refine (len_any _ _ _ _).mono ?_; rintro e w' ⟨rfl, rfl⟩)
  refine bodyPost_ret (v := .tuple #[.agg #[.int .i64 0, .int .i64 0, .int .i64 0, .int .i64 0, .int .i64 0], .bool false]) (by simp [results, Try.results11, go_sem, c0, c1, c2, c3, c4]) rfl ⟨rfl, ?_⟩
  exact ((((HB1.out.setCell (p := ⟨w.heap.size, 0, none⟩) (Nat.le_refl _) _).setCell (p := ⟨w.heap.size, 1, none⟩) (Nat.le_refl _) _).setCell (p := ⟨w.heap.size, 2, none⟩) (Nat.le_refl _) _).setCell (p := ⟨w.heap.size, 3, none⟩) (Nat.le_refl _) _).setCell (p := ⟨w.heap.size, 4, none⟩) (Nat.le_refl _) _

set_option maxRecDepth 100000 in
set_option maxHeartbeats 2000000 in
theorem agTakeNil_any (w : World) :
    Calls Try.prog 17 #[.pointer none] w fun e w' => e = .returned (headOf []) ∧ Below w.heap.size w w' := by
  obtain ⟨L, hL⟩ : ∃ L : List En, L = [] := ⟨_, rfl⟩
  have hb0 : Below w.heap.size w (w.alloc (.cells #[.int .i64 0, .int .i64 0, .int .i64 0, .int .i64 0, .int .i64 0] 36)) := (Below.refl _ _).alloc (Nat.le_refl _) _
  have hW0 : Whole (w.alloc (.cells #[.int .i64 0, .int .i64 0, .int .i64 0, .int .i64 0, .int .i64 0] 36)) w.heap.size 36 #[.int .i64 0, .int .i64 0, .int .i64 0, .int .i64 0, .int .i64 0] := Whole.new w _ _
  have hk0 := agFirstNil_any (w.alloc (.cells #[.int .i64 0, .int .i64 0, .int .i64 0, .int .i64 0, .int .i64 0] 36))
  rw [← hL] at hk0 ⊢
  obtain ⟨hcs, hco⟩ := headV_cells L
  have hie : (Try.prog.info? 36).map (·.size) = some (headV L).toArray.size := by rw [hcs]; exact ev_info
  obtain ⟨cs, hce⟩ : ∃ cs, cs = (headV L).toArray := ⟨_, rfl⟩
  obtain ⟨b, hbe⟩ : ∃ b, b = !L.isEmpty := ⟨_, rfl⟩
  have hho : headOf L = .tuple #[.agg cs, .bool b] := by rw [hce, hbe]; rfl
  rw [hho] at hk0
  rw [← hce] at hcs hco hie
  have HCS := Lib.hid hcs
  have HCO := Lib.hid hco
  have HIE := Lib.hid hie
  have HHO := Lib.hid hho
  have HBE := Lib.hid hbe
  have HB0 := Lib.hid hb0
  have HK0 := Lib.hid hk0
  have HW0 := Lib.hid hW0
  clear hb0 hk0 hW0 hce hbe hcs hco hie
  rw [hho]
  clear hho
  go_enter Try.func17, Try.ntmps17
  go_wp2_with fail
  refine HK0.out.mono ?_
  rintro e w1 ⟨rfl, hb⟩
  have hb1 := k_then hb HB0.out
  have hW1 := k_later hb HW0.out
  have hb2 : Below w.heap.size w (w1.alloc (.cells cs 36)) := hb1.alloc hb1.size _
  have hW2 : Whole (w1.alloc (.cells cs 36)) w.heap.size 36 #[.int .i64 0, .int .i64 0, .int .i64 0, .int .i64 0, .int .i64 0] := hW1.alloc _
  have hX2 : Whole (w1.alloc (.cells cs 36)) w1.heap.size 36 cs := Whole.new w1 _ _
  have HB2 := Lib.hid hb2
  have HW2 := Lib.hid hW2
  have HX2 := Lib.hid hX2
  have HZ := Lib.hid hb1.size
  clear HK0 HB0 HW0 hb hb1 hW1 hb2 hW2 hX2
  subst hL
  obtain rfl : b = false := HBE.out
  go_wp2_with (first
    | (refine wpList_store_last rfl 36 (.tmp 4) (.tmp 9) rfl w1.heap.size cs rfl rfl 36 _ rfl HIE.out HCS.out.symm HCO.out ?_)
    | (refine wpList_load_row rfl 36 (.tmp 4) rfl w1.heap.size rfl 36 cs (0, 0) _ HX2.out Try.underlying36 rfl HIE.out ?_)
    | (refine wpList_store_row rfl 36 (.tmp 2) (.tmp 18) rfl w.heap.size cs rfl rfl 36 _ HW2.out HIE.out HCS.out.symm HCO.out ?_))
  refine bodyPost_ret (v := .tuple #[.agg cs, .bool false]) (results_cell_tmp rfl _ _ _ 36 cs (0, 0) _ rfl rfl (setRow_heap _ _ _ _ _ _ HW2.out) Try.underlying36 rfl HIE.out) rfl ⟨rfl, ?_⟩
  exact (((Kept.of_below HB2.out Empty).setRow (Nat.le_refl w.heap.size) cs)).below (fun _ _ h => h)
end Go.Proofs.Ytchfponnajednaa
