/- PlanApart, its walk. -/
import Derived.Test.YtilnaaljakjgoaaLAlive
import Derived.Test.YtilnaaljakjgoaaLChecks
namespace Go.Proofs.Ytilnaaljakjgoaa
open Go.RowKit Go.Shelf

/-- What a plan that may be has beside its conditions. -/
structure ApartL (x : Pl) : Prop where
  e1 : 6 ≤ eL x
  e2 : eL x ≤ 1048582
  g1 : 8 ≤ gL x
  g2 : gL x ≤ 16777224
  a1 : aL x = 2 * eL x + 2 * gL x
  p1 : 0 ≤ x.pi
  p2 : x.pi ≤ 1048576
  w1 : 0 ≤ x.window
  w2 : x.window ≤ 1048576
  s1 : 0 ≤ x.sendOff
  s2 : x.sendOff ≤ 1048576
  d1 : 0 ≤ x.dmin
  d2 : x.dmin ≤ 1048576
  d3 : 0 ≤ x.dmax
  d4 : x.dmax ≤ 1048576
  r1 : 1 ≤ x.air
  r2 : x.air ≤ 1048576
  c1 : x.pi - x.window ≤ -eL x
  c2 : x.cap < x.sendOff - x.pi + x.dmin
  c3 : x.sendOff + x.pi + x.dmax + x.air < x.slot
  c4 : 2 * (x.dmax + x.air) < x.slot
  c5 : x.cap < x.sendOff
  c6 : 2 * eL x + 2 * gL x < x.pi
  c7 : 2 * x.pi < x.slot
  c8 : x.delta < 2147483648
  m1 : rdL x < 33554432
theorem apart_of {x : Pl} (h : failsL x 11 = 0) : ApartL x ∧ failsL x 3 = 0 := by
  have T := tick_fails (by omega) (Nat.le_refl 11) h
  have hh := failsL_first x (last := 11) (by omega)
  rw [h] at hh
  rcases hh with ⟨_, k⟩ | ⟨k, _⟩
  · have k2 : (1 ≤ x.air ∧ x.air ≤ 1048576) ∧ 0 ≤ x.dmin ∧ (x.dmin ≤ x.dmax ∧ x.dmax ≤ 1048576) := k 2 (by omega) (by omega)
    have k4 : 2 * (aL x + gL x) + eL x ≤ x.pi ∧ x.pi ≤ 1048576 := k 4 (by omega) (by omega)
    have k5 : x.pi + eL x ≤ x.window ∧ x.window ≤ 1048576 := k 5 (by omega) (by omega)
    have k6 : aL x + 2 * gL x + 2 * eL x ≤ x.cap ∧ x.cap ≤ 1048576 := k 6 (by omega) (by omega)
    have k7 : x.window + x.cap + x.pi ≤ x.sendOff ∧ x.sendOff ≤ 1048576 := k 7 (by omega) (by omega)
    have k8 : x.sendOff + x.window + 2 * (x.dmax + x.air) + x.cap + x.pi + 8 ≤ x.slot := k 8 (by omega) (by omega)
    have k10 : (frL x + 3) * rdL x + 2 * x.pi ≤ x.delta ∧ x.delta ≤ 64 * rdL x := k 10 (by omega) (by omega)
    have hb := num_bounds T
    have ha : aL x = 2 * (eL x + gL x) := rfl
    have t := T.m2
    refine ⟨by constructor <;> omega, failsL_of (.inl ⟨rfl, fun j a b => k j a (by omega)⟩) (by omega)⟩
  · omega

set_option maxRecDepth 100000 in
set_option maxHeartbeats 4000000 in
theorem apart_no (x : Pl) (w : World) (h : failsL x 11 ≠ 0) : Calls Try.prog 7 #[.agg x.cells] w fun e w' => e = .returned (.bool true) ∧ Below w.heap.size w w' := by
  have HS := Lib.hid x.cellsL
  have HA := Lib.hid (fun W => alive_any W)
  have hc := fun W => Check_any x W
  rw [show chkL x = 70 from if_neg h] at hc
  have HC := Lib.hid hc
  have HF := Lib.hid (fun W => Fails_any x W)
  have hr : (0 : Int) < ((failsL x 11 : Nat) : Int) := by omega
  have HB := Lib.hid ((Below.refl w.heap.size w).alloc (Nat.le_refl _) (.cells x.cells 23))
  have HW := Lib.hid (Whole.new w 23 x.cells)
  clear hc h
  generalize ((failsL x 11 : Nat) : Int) = r at *
  go_enter Try.func7, Try.ntmps7
  go_wp2_with (first
    | (refine wpList_load_want rfl 23 _ rfl w.heap.size rfl 23 x.cells (0, 0) _ HW2.out Try.underlying23 rfl HS.out.plan ?_)
    | (refine wpList_load_row rfl 23 _ rfl w.heap.size rfl 23 x.cells (0, 0) _ HW2.out Try.underlying23 rfl HS.out.plan ?_)
    | (refine wpList_load_row rfl 23 _ rfl w.heap.size rfl 23 x.cells (0, 0) _ HW1.out Try.underlying23 rfl HS.out.plan ?_)
    | (go_at_call 40; refine (HA.out _).mono ?_; rintro e w1 ⟨rfl, hb1⟩; have HW1 := Lib.hid (k_later hb1 HW.out); have HK1 := Lib.hid (k_then hb1 HB.out); clear hb1)
    | (go_at_call 12; refine (HC.out _).mono ?_; rintro e w2 ⟨rfl, hb2⟩; have HW2 := Lib.hid (k_later hb2 HW1.out); have HK2 := Lib.hid (k_then hb2 HK1.out); clear hb2 HW1)
    | (go_at_call 10; refine (HF.out _).mono ?_; rintro e w3 ⟨rfl, hb3⟩; have HK3 := Lib.hid (k_then hb3 HK2.out)))
  go_ret
  exact ⟨rfl, HK3.out⟩

set_option maxRecDepth 100000 in
set_option maxHeartbeats 8000000 in
theorem apart_yes (x : Pl) (w : World) (h : failsL x 11 = 0) : Calls Try.prog 7 #[.agg x.cells] w fun e w' => e = .returned (.bool true) ∧ Below w.heap.size w w' := by
  obtain ⟨hA, h3⟩ := apart_of h
  have HS := Lib.hid x.cellsL
  have HA := Lib.hid (fun W => alive_any W)
  have hc := fun W => Check_any x W
  rw [show chkL x = 0 from if_pos h] at hc
  have HC := Lib.hid hc
  have hn := fun W => Numbers_any x W
  rw [show numV x = .tuple #[.int .i64 (eL x), .int .i64 (gL x), .int .i64 (aL x)] by simp [numV, numE, numG, numA, h3]] at hn
  have HN := Lib.hid hn
  have hr := fun W => Round_any x W
  rw [show roundL x = rdL x from if_pos h3] at hr
  have HR := Lib.hid hr
  have HB := Lib.hid ((Below.refl w.heap.size w).alloc (Nat.le_refl _) (.cells x.cells 23))
  have HW := Lib.hid (Whole.new w 23 x.cells)
  have HAP := Lib.hid hA
  clear hc hn hr h h3 hA
  go_enter Try.func7, Try.ntmps7
  go_wp2_with (first
    | (refine wpList_load_want rfl 23 _ rfl w.heap.size rfl 23 x.cells (0, 0) _ HW3.out Try.underlying23 rfl HS.out.plan ?_)
    | (refine wpList_load_row rfl 23 _ rfl w.heap.size rfl 23 x.cells (0, 0) _ HW2.out Try.underlying23 rfl HS.out.plan ?_)
    | (refine wpList_load_row rfl 23 _ rfl w.heap.size rfl 23 x.cells (0, 0) _ HW1.out Try.underlying23 rfl HS.out.plan ?_)
    | (go_at_call 40; refine (HA.out _).mono ?_; rintro e w1 ⟨rfl, hb1⟩; have HW1 := Lib.hid (k_later hb1 HW.out); have HK1 := Lib.hid (k_then hb1 HB.out); clear hb1)
    | (go_at_call 12; refine (HC.out _).mono ?_; rintro e w2 ⟨rfl, hb2⟩; have HW2 := Lib.hid (k_later hb2 HW1.out); have HK2 := Lib.hid (k_then hb2 HK1.out); clear hb2 HW1)
    | (go_at_call 8; refine (HN.out _).mono ?_; rintro e w3 ⟨rfl, hb3⟩; have HW3 := Lib.hid (k_later hb3 HW2.out); have HK3 := Lib.hid (k_then hb3 HK2.out); clear hb3))
  obtain ⟨e1, e2, g1, g2, a1, p1, p2, w1', w2', s1, s2, d1, d2, d3, d4, r1, r2, c1', c2', c3', c4', c5', c6', c7', c8', m1⟩ := HAP.out
  obtain ⟨⟨_, _, c2, c3⟩, ⟨c4, c5, c6, c7⟩, ⟨_, c9, c10, c11⟩, _, _⟩ := l_cells HW3.out
  rw [a1]
  generalize aL x = a at *
  generalize eL x = ev at *
  generalize gL x = gv at *
  generalize rdL x = m at *
  have l2 := fun y : Later w3 => y.cell c2
  have l3 := fun y : Later w3 => y.cell c3
  have l4 := fun y : Later w3 => y.cell c4
  have l5 := fun y : Later w3 => y.cell c5
  have l6 := fun y : Later w3 => y.cell c6
  have l7 := fun y : Later w3 => y.cell c7
  have l9 := fun y : Later w3 => y.cell c9
  have l10 := fun y : Later w3 => y.cell c10
  have l11 := fun y : Later w3 => y.cell c11
  clear c2 c3 c4 c5 c6 c7 c9 c10 c11 a1
  refine wp_region_later (by kernel_rfl) (by kernel_rfl) ?_
  repeat (go_big_quiet_step (fail))
  refine wpQuiet_nil ?_
  intro _ hw'
  obtain ⟨y, hw''⟩ := hw'
  subst hw''
  have HY := Lib.hid (later_row HW3.out _ ⟨y, rfl⟩)
  have HYK := Lib.hid (HK3.out.trans (y.below.mono HK3.out.size))
  go_wp2_with (first
    | (refine wpList_load_want rfl 23 _ rfl w.heap.size rfl 23 x.cells (0, 0) _ HY.out Try.underlying23 rfl HS.out.plan ?_)
    | (go_at_call 14; refine (HR.out _).mono ?_; rintro e w4 ⟨rfl, hb4⟩; have HK4 := Lib.hid (k_then hb4 HYK.out); clear hb4))
  go_ret
  exact ⟨rfl, HK4.out⟩

theorem apart_walk (x : Pl) (w : World) : Calls Try.prog 7 #[.agg x.cells] w fun e w' => e = .returned (.bool true) ∧ Below w.heap.size w w' := by
  by_cases h : failsL x 11 = 0
  · exact apart_yes x w h
  · exact apart_no x w h

end Go.Proofs.Ytilnaaljakjgoaa
