/- PlanLeast, its walk where a plan fits: a theorem a way. No condition. -/
import Derived.Test.YtilnaaljakjgoaaLMin
namespace Go.Proofs.Ytilnaaljakjgoaa
open Go.RowKit Go.Shelf

set_option maxRecDepth 100000 in
set_option maxHeartbeats 16000000 in
theorem least_yes0 (x : Pl) (hz L : Int) (w : World) (h : FitOk x L) (hg : ¬ 1 < L) : Calls Try.prog 6 #[.agg x.cells, .int .i64 hz] w fun e w' => e = .returned (.bool true) ∧ Below w.heap.size w w' := by
  have HS := Lib.hid x.cellsL
  have HC := Lib.hid (withL x L).cellsL
  have HD := Lib.hid (withL x (L - 1)).cellsL
  have HE := Lib.hid (horL x L hz).cellsL
  have HA := Lib.hid (fun W => alive_any W)
  have hf := fun W => Fit_any x W
  rw [show fitV x = .tuple #[.agg (withL x L).cells, .int .i64 0] by rw [fitV, (fit_yes h).1, (fit_yes h).2]] at hf
  have HF := Lib.hid hf
  have hc := fun W => Check_any (withL x L) W
  rw [show chkL (withL x L) = 0 from if_pos (least_fails h)] at hc
  have HK := Lib.hid hc
  have HT := Lib.hid (fun W => with_any x (L - 1) W (least_tick h) h.2.2.2.2.2)
  have hl := fun W => Fails_any (withL x (L - 1)) W
  have hr : True := trivial
  generalize ((failsL (withL x (L - 1)) 11 : Nat) : Int) = r at hl hr
  have HL := Lib.hid hl
  have hway : (hz < 40 * rdL (withL x L) ∧ ∃ s : Int, s ≠ 0 ∧ ∀ W, Calls Try.prog 10 #[.agg (horL x L hz).cells] W fun e w' => e = .returned (.int .i64 s) ∧ Below W.heap.size W w') ∨ ((40 * rdL (withL x L) ≤ hz ∧ hz ≤ 2147483648) ∧ ∀ W, Calls Try.prog 10 #[.agg (horL x L hz).cells] W fun e w' => e = .returned (.int .i64 0) ∧ Below W.heap.size W w') ∨ ((40 * rdL (withL x L) ≤ hz ∧ 2147483648 < hz) ∧ ∃ s : Int, s ≠ 0 ∧ ∀ W, Calls Try.prog 10 #[.agg (horL x L hz).cells] W fun e w' => e = .returned (.int .i64 s) ∧ Below W.heap.size W w') := least_way h hz
  have HWAY := Lib.hid hway
  clear hway
  have hd := fun W => Round_any (horL x L hz) W
  obtain ⟨hrd, hm1, hm2⟩ := least_round h hz
  rw [hrd] at hd
  have HR := Lib.hid hd
  generalize rdL (withL x L) = m at *
  have hb1 : 1 ≤ L := h.1.1
  have hb2 : L ≤ 1048576 := h.1.2
  have HB := Lib.hid ((Below.refl w.heap.size w).alloc (Nat.le_refl _) (.cells x.cells 23))
  have HW := Lib.hid (Whole.new w 23 x.cells)
  have HQ := Lib.hid (fun (W : World) (g : Nat) (k : Whole W g 23 (withL x L).cells) => show Whole (W.setCell ⟨g, 15, none⟩ (.int .i64 hz)) g 23 (horL x L hz).cells from k.set 15 (.int .i64 hz))
  have HX := Lib.hid (fun (W : World) (g : Nat) (k : Whole W g 23 x.cells) => (show (W.cell? ⟨g, 0, none⟩ = some (.int .i64 x.nodes) ∧ W.cell? ⟨g, 1, none⟩ = some (.int .i64 x.kk) ∧ W.cell? ⟨g, 5, none⟩ = some (.int .i64 x.air) ∧ W.cell? ⟨g, 6, none⟩ = some (.int .i64 x.dmin) ∧ W.cell? ⟨g, 7, none⟩ = some (.int .i64 x.dmax) ∧ W.cell? ⟨g, 8, none⟩ = some (.int .i64 x.rho) ∧ W.cell? ⟨g, 12, none⟩ = some (.int .i64 x.queue) ∧ W.cell? ⟨g, 13, none⟩ = some (.int .i64 x.burst) ∧ W.cell? ⟨g, 14, none⟩ = some (.int .i64 x.payload)) from ⟨k.cell 0, k.cell 1, k.cell 5, k.cell 6, k.cell 7, k.cell 8, k.cell 12, k.cell 13, k.cell 14⟩))
  have HY := Lib.hid (fun (W : World) (g : Nat) (k : Whole W g 23 (withL x L).cells) => (show (W.cell? ⟨g, 0, none⟩ = some (.int .i64 x.nodes) ∧ W.cell? ⟨g, 1, none⟩ = some (.int .i64 x.kk) ∧ W.cell? ⟨g, 5, none⟩ = some (.int .i64 x.air) ∧ W.cell? ⟨g, 6, none⟩ = some (.int .i64 x.dmin) ∧ W.cell? ⟨g, 7, none⟩ = some (.int .i64 x.dmax) ∧ W.cell? ⟨g, 8, none⟩ = some (.int .i64 x.rho) ∧ W.cell? ⟨g, 12, none⟩ = some (.int .i64 x.queue) ∧ W.cell? ⟨g, 13, none⟩ = some (.int .i64 x.burst) ∧ W.cell? ⟨g, 14, none⟩ = some (.int .i64 x.payload)) from ⟨k.cell 0, k.cell 1, k.cell 5, k.cell 6, k.cell 7, k.cell 8, k.cell 12, k.cell 13, k.cell 14⟩))
  have HZ := Lib.hid (fun (W : World) (g : Nat) (k : Whole W g 23 (withL x L).cells) => (show W.cell? ⟨g, 2, none⟩ = some (.int .i64 L) ∧ W.cell? ⟨g, 15, none⟩ = some (.int .i64 (withL x L).horizon) ∧ ∀ i, W.frozen? ⟨g, i, none⟩ = false from ⟨k.cell 2, k.cell 15, k.frozen⟩))
  clear hf hc hl hd hrd h
  generalize (withL x L).horizon = oldh at *
  generalize (horL x L hz).cells = hcs at *
  generalize (withL x L).cells = pcs at *
  generalize (withL x (L - 1)).cells = lcs at *
  generalize hxc : x.cells = xcs at *
  clear hxc
  go_enter Try.func6, Try.ntmps6
  go_upto_region 5 with (first
    | (refine wpList_load_row rfl 23 _ rfl w.heap.size rfl 23 xcs (0, 0) _ HW1.out Try.underlying23 rfl HS.out.plan ?_)
    | (refine wpList_store_last (w := w2) rfl 23 _ _ rfl _ pcs rfl rfl 23 _ rfl HC.out.plan HC.out.size.symm HC.out.one ?_; have HP3 := Lib.hid (Whole.new w2 23 pcs); have HW3 := Lib.hid (HW2.out.alloc (.cells pcs 23)); have HK3 := Lib.hid (HK2.out.alloc HK2.out.size (.cells pcs 23)))
    | (go_at_call 40; refine (HA.out _).mono ?_; rintro e w1 ⟨rfl, hb⟩; have HW1 := Lib.hid (k_later hb HW.out); have HK1 := Lib.hid (k_then hb HB.out); clear hb)
    | (go_at_call 16; refine (HF.out _).mono ?_; rintro e w2 ⟨rfl, hb⟩; have HK2 := Lib.hid (k_then hb HK1.out); have HW2 := Lib.hid (k_later hb HW1.out); have hlt := HW2.out.lt; clear hb))
  go_step
  refine wpList_load_row rfl 23 _ rfl w2.heap.size rfl 23 pcs (0, 0) _ HP3.out Try.underlying23 rfl HC.out.plan ?_
  go_wp2_with (first
    | (refine wpList_load_row rfl 23 _ rfl w.heap.size rfl 23 xcs (0, 0) _ HW1.out Try.underlying23 rfl HS.out.plan ?_)
    | (refine wpList_load_row rfl 23 _ rfl w.heap.size rfl 23 xcs (0, 0) _ HW4.out Try.underlying23 rfl HS.out.plan ?_)
    | (refine wpList_load_row rfl 23 _ rfl w2.heap.size rfl 23 pcs (0, 0) _ HP3.out Try.underlying23 rfl HC.out.plan ?_)
    | (refine wpList_load_want rfl 23 _ rfl w5.heap.size rfl 23 lcs (0, 0) _ HL6.out Try.underlying23 rfl HD.out.plan ?_)
    | (refine wpList_store_last (w := w2) rfl 23 _ _ rfl _ pcs rfl rfl 23 _ rfl HC.out.plan HC.out.size.symm HC.out.one ?_; have HP3 := Lib.hid (Whole.new w2 23 pcs); have HW3 := Lib.hid (HW2.out.alloc (.cells pcs 23)); have HK3 := Lib.hid (HK2.out.alloc HK2.out.size (.cells pcs 23)))
    | (refine wpList_store_last (w := w5) rfl 23 _ _ rfl _ lcs rfl rfl 23 _ rfl HD.out.plan HD.out.size.symm HD.out.one ?_; have HL6 := Lib.hid (Whole.new w5 23 lcs); have HP6 := Lib.hid (HP5.out.alloc (.cells lcs 23)); have HK6 := Lib.hid (HK5.out.alloc HK5.out.size (.cells lcs 23)); have hz6 := HZ.out _ _ HP6.out; obtain ⟨hz62, hz615, hz6f⟩ := hz6)
    | (go_at_call 40; refine (HA.out _).mono ?_; rintro e w1 ⟨rfl, hb⟩; have HW1 := Lib.hid (k_later hb HW.out); have HK1 := Lib.hid (k_then hb HB.out); clear hb)
    | (go_at_call 16; refine (HF.out _).mono ?_; rintro e w2 ⟨rfl, hb⟩; have HK2 := Lib.hid (k_then hb HK1.out); have HW2 := Lib.hid (k_later hb HW1.out); have hlt := HW2.out.lt; clear hb)
    | (go_at_call 12; refine (HK.out _).mono ?_; rintro e w4 ⟨rfl, hb⟩; have HK4 := Lib.hid (k_then hb HK3.out); have HW4 := Lib.hid (k_later hb HW3.out); have HP4 := Lib.hid (k_later hb HP3.out); clear hb; obtain ⟨x0, x1, x5, x6, x7, x8, x12, x13, x14⟩ := HX.out _ _ HW4.out; obtain ⟨y0, y1, y5, y6, y7, y8, y12, y13, y14⟩ := HY.out _ _ HP4.out; obtain ⟨hz42, hz415, hz4f⟩ := HZ.out _ _ HP4.out)
    | (go_at_call 41; refine (HT.out _).mono ?_; rintro e w5 ⟨rfl, hb⟩; clear x0 x1 x5 x6 x7 x8 x12 x13 x14 y0 y1 y5 y6 y7 y8 y12 y13 y14 hz42 hz415 hz4f; have HK5 := Lib.hid (k_then hb HK4.out); have HP5 := Lib.hid (k_later hb HP4.out); clear hb)
    | fail
    )
  have hP8 := HQ.out _ _ HP6.out
  have hK8 := HK6.out.setCell (p := ⟨w2.heap.size, 15, none⟩) (Nat.le_of_lt hlt) (.int .i64 hz)
  generalize hW8 : (w5.alloc (.cells lcs 23)).setCell ⟨w2.heap.size, 15, none⟩ (.int .i64 hz) = W8 at *
  clear hW8
  have HP8 := Lib.hid hP8
  have HK8 := Lib.hid hK8
  clear hP8 hK8
  rcases HWAY.out with ⟨hH, s, hs, hm⟩ | ⟨⟨hH1, hH2⟩, hm⟩ | ⟨⟨hH1, hH2⟩, s, hs, hm⟩
  · have HM := Lib.hid hm
    clear hm HWAY
    have hs1 : decide (s = 0) = false := decide_eq_false hs
    have hs2 : (s == 0) = false := by simpa using hs
    have d1 : decide (40 * m ≤ hz) = false := decide_eq_false (by omega)
    refine wp_region_later (by kernel_rfl) (by kernel_rfl) ?_
    repeat (first
      | (go_big_quiet_want; refine quiet_load_row 23 _ rfl w2.heap.size rfl 23 hcs (0, 0) _ (later_row HP8.out) Try.underlying23 rfl HE.out.plan ?_; simp only [Act.put, List.setIfInBounds_toArray, List.set_cons_succ, List.set_cons_zero]; go_big_quiet_on)
      | (go_big_quiet_step ((first
        | (go_at_call 10; exact later_of _ HM.out)
        | (go_at_call 14; exact later_of _ HR.out)))))
    refine wpQuiet_nil ?_
    intro _ hw'
    obtain ⟨y, hw''⟩ := hw'
    subst hw''
    go_wp2
    go_ret
    exact ⟨rfl, HK8.out.trans (y.below.mono HK8.out.size)⟩
  · have HM := Lib.hid hm
    clear hm HWAY
    have d1 : decide (40 * m ≤ hz) = true := decide_eq_true (by omega)
    have d2 : decide (hz ≤ 2147483648) = true := decide_eq_true (by omega)
    refine wp_region_later (by kernel_rfl) (by kernel_rfl) ?_
    repeat (first
      | (go_big_quiet_want; refine quiet_load_row 23 _ rfl w2.heap.size rfl 23 hcs (0, 0) _ (later_row HP8.out) Try.underlying23 rfl HE.out.plan ?_; simp only [Act.put, List.setIfInBounds_toArray, List.set_cons_succ, List.set_cons_zero]; go_big_quiet_on)
      | (go_big_quiet_step ((first
        | (go_at_call 10; exact later_of _ HM.out)
        | (go_at_call 14; exact later_of _ HR.out)))))
    refine wpQuiet_nil ?_
    intro _ hw'
    obtain ⟨y, hw''⟩ := hw'
    subst hw''
    go_wp2
    go_ret
    exact ⟨rfl, HK8.out.trans (y.below.mono HK8.out.size)⟩
  · have HM := Lib.hid hm
    clear hm HWAY
    have hs1 : decide (s = 0) = false := decide_eq_false hs
    have hs2 : (s == 0) = false := by simpa using hs
    have d1 : decide (40 * m ≤ hz) = true := decide_eq_true (by omega)
    have d2 : decide (hz ≤ 2147483648) = false := decide_eq_false (by omega)
    refine wp_region_later (by kernel_rfl) (by kernel_rfl) ?_
    repeat (first
      | (go_big_quiet_want; refine quiet_load_row 23 _ rfl w2.heap.size rfl 23 hcs (0, 0) _ (later_row HP8.out) Try.underlying23 rfl HE.out.plan ?_; simp only [Act.put, List.setIfInBounds_toArray, List.set_cons_succ, List.set_cons_zero]; go_big_quiet_on)
      | (go_big_quiet_step ((first
        | (go_at_call 10; exact later_of _ HM.out)
        | (go_at_call 14; exact later_of _ HR.out)))))
    refine wpQuiet_nil ?_
    intro _ hw'
    obtain ⟨y, hw''⟩ := hw'
    subst hw''
    go_wp2
    go_ret
    exact ⟨rfl, HK8.out.trans (y.below.mono HK8.out.size)⟩

set_option maxRecDepth 100000 in
set_option maxHeartbeats 16000000 in
theorem least_yes1 (x : Pl) (hz L : Int) (w : World) (h : FitOk x L) (hg : 1 < L) : Calls Try.prog 6 #[.agg x.cells, .int .i64 hz] w fun e w' => e = .returned (.bool true) ∧ Below w.heap.size w w' := by
  have HS := Lib.hid x.cellsL
  have HC := Lib.hid (withL x L).cellsL
  have HD := Lib.hid (withL x (L - 1)).cellsL
  have HE := Lib.hid (horL x L hz).cellsL
  have HA := Lib.hid (fun W => alive_any W)
  have hf := fun W => Fit_any x W
  rw [show fitV x = .tuple #[.agg (withL x L).cells, .int .i64 0] by rw [fitV, (fit_yes h).1, (fit_yes h).2]] at hf
  have HF := Lib.hid hf
  have hc := fun W => Check_any (withL x L) W
  rw [show chkL (withL x L) = 0 from if_pos (least_fails h)] at hc
  have HK := Lib.hid hc
  have HT := Lib.hid (fun W => with_any x (L - 1) W (least_tick h) h.2.2.2.2.2)
  have hl := fun W => Fails_any (withL x (L - 1)) W
  have hr := least_less h hg
  generalize ((failsL (withL x (L - 1)) 11 : Nat) : Int) = r at hl hr
  have HL := Lib.hid hl
  have hway : (hz < 40 * rdL (withL x L) ∧ ∃ s : Int, s ≠ 0 ∧ ∀ W, Calls Try.prog 10 #[.agg (horL x L hz).cells] W fun e w' => e = .returned (.int .i64 s) ∧ Below W.heap.size W w') ∨ ((40 * rdL (withL x L) ≤ hz ∧ hz ≤ 2147483648) ∧ ∀ W, Calls Try.prog 10 #[.agg (horL x L hz).cells] W fun e w' => e = .returned (.int .i64 0) ∧ Below W.heap.size W w') ∨ ((40 * rdL (withL x L) ≤ hz ∧ 2147483648 < hz) ∧ ∃ s : Int, s ≠ 0 ∧ ∀ W, Calls Try.prog 10 #[.agg (horL x L hz).cells] W fun e w' => e = .returned (.int .i64 s) ∧ Below W.heap.size W w') := least_way h hz
  have HWAY := Lib.hid hway
  clear hway
  have hd := fun W => Round_any (horL x L hz) W
  obtain ⟨hrd, hm1, hm2⟩ := least_round h hz
  rw [hrd] at hd
  have HR := Lib.hid hd
  generalize rdL (withL x L) = m at *
  have hb1 : 1 ≤ L := h.1.1
  have hb2 : L ≤ 1048576 := h.1.2
  have HB := Lib.hid ((Below.refl w.heap.size w).alloc (Nat.le_refl _) (.cells x.cells 23))
  have HW := Lib.hid (Whole.new w 23 x.cells)
  have HQ := Lib.hid (fun (W : World) (g : Nat) (k : Whole W g 23 (withL x L).cells) => show Whole (W.setCell ⟨g, 15, none⟩ (.int .i64 hz)) g 23 (horL x L hz).cells from k.set 15 (.int .i64 hz))
  have HX := Lib.hid (fun (W : World) (g : Nat) (k : Whole W g 23 x.cells) => (show (W.cell? ⟨g, 0, none⟩ = some (.int .i64 x.nodes) ∧ W.cell? ⟨g, 1, none⟩ = some (.int .i64 x.kk) ∧ W.cell? ⟨g, 5, none⟩ = some (.int .i64 x.air) ∧ W.cell? ⟨g, 6, none⟩ = some (.int .i64 x.dmin) ∧ W.cell? ⟨g, 7, none⟩ = some (.int .i64 x.dmax) ∧ W.cell? ⟨g, 8, none⟩ = some (.int .i64 x.rho) ∧ W.cell? ⟨g, 12, none⟩ = some (.int .i64 x.queue) ∧ W.cell? ⟨g, 13, none⟩ = some (.int .i64 x.burst) ∧ W.cell? ⟨g, 14, none⟩ = some (.int .i64 x.payload)) from ⟨k.cell 0, k.cell 1, k.cell 5, k.cell 6, k.cell 7, k.cell 8, k.cell 12, k.cell 13, k.cell 14⟩))
  have HY := Lib.hid (fun (W : World) (g : Nat) (k : Whole W g 23 (withL x L).cells) => (show (W.cell? ⟨g, 0, none⟩ = some (.int .i64 x.nodes) ∧ W.cell? ⟨g, 1, none⟩ = some (.int .i64 x.kk) ∧ W.cell? ⟨g, 5, none⟩ = some (.int .i64 x.air) ∧ W.cell? ⟨g, 6, none⟩ = some (.int .i64 x.dmin) ∧ W.cell? ⟨g, 7, none⟩ = some (.int .i64 x.dmax) ∧ W.cell? ⟨g, 8, none⟩ = some (.int .i64 x.rho) ∧ W.cell? ⟨g, 12, none⟩ = some (.int .i64 x.queue) ∧ W.cell? ⟨g, 13, none⟩ = some (.int .i64 x.burst) ∧ W.cell? ⟨g, 14, none⟩ = some (.int .i64 x.payload)) from ⟨k.cell 0, k.cell 1, k.cell 5, k.cell 6, k.cell 7, k.cell 8, k.cell 12, k.cell 13, k.cell 14⟩))
  have HZ := Lib.hid (fun (W : World) (g : Nat) (k : Whole W g 23 (withL x L).cells) => (show W.cell? ⟨g, 2, none⟩ = some (.int .i64 L) ∧ W.cell? ⟨g, 15, none⟩ = some (.int .i64 (withL x L).horizon) ∧ ∀ i, W.frozen? ⟨g, i, none⟩ = false from ⟨k.cell 2, k.cell 15, k.frozen⟩))
  clear hf hc hl hd hrd h
  generalize (withL x L).horizon = oldh at *
  generalize (horL x L hz).cells = hcs at *
  generalize (withL x L).cells = pcs at *
  generalize (withL x (L - 1)).cells = lcs at *
  generalize hxc : x.cells = xcs at *
  clear hxc
  go_enter Try.func6, Try.ntmps6
  go_upto_region 5 with (first
    | (refine wpList_load_row rfl 23 _ rfl w.heap.size rfl 23 xcs (0, 0) _ HW1.out Try.underlying23 rfl HS.out.plan ?_)
    | (refine wpList_store_last (w := w2) rfl 23 _ _ rfl _ pcs rfl rfl 23 _ rfl HC.out.plan HC.out.size.symm HC.out.one ?_; have HP3 := Lib.hid (Whole.new w2 23 pcs); have HW3 := Lib.hid (HW2.out.alloc (.cells pcs 23)); have HK3 := Lib.hid (HK2.out.alloc HK2.out.size (.cells pcs 23)))
    | (go_at_call 40; refine (HA.out _).mono ?_; rintro e w1 ⟨rfl, hb⟩; have HW1 := Lib.hid (k_later hb HW.out); have HK1 := Lib.hid (k_then hb HB.out); clear hb)
    | (go_at_call 16; refine (HF.out _).mono ?_; rintro e w2 ⟨rfl, hb⟩; have HK2 := Lib.hid (k_then hb HK1.out); have HW2 := Lib.hid (k_later hb HW1.out); have hlt := HW2.out.lt; clear hb))
  go_step
  refine wpList_load_row rfl 23 _ rfl w2.heap.size rfl 23 pcs (0, 0) _ HP3.out Try.underlying23 rfl HC.out.plan ?_
  go_wp2_with (first
    | (refine wpList_load_row rfl 23 _ rfl w.heap.size rfl 23 xcs (0, 0) _ HW1.out Try.underlying23 rfl HS.out.plan ?_)
    | (refine wpList_load_row rfl 23 _ rfl w.heap.size rfl 23 xcs (0, 0) _ HW4.out Try.underlying23 rfl HS.out.plan ?_)
    | (refine wpList_load_row rfl 23 _ rfl w2.heap.size rfl 23 pcs (0, 0) _ HP3.out Try.underlying23 rfl HC.out.plan ?_)
    | (refine wpList_load_want rfl 23 _ rfl w5.heap.size rfl 23 lcs (0, 0) _ HL6.out Try.underlying23 rfl HD.out.plan ?_)
    | (refine wpList_store_last (w := w2) rfl 23 _ _ rfl _ pcs rfl rfl 23 _ rfl HC.out.plan HC.out.size.symm HC.out.one ?_; have HP3 := Lib.hid (Whole.new w2 23 pcs); have HW3 := Lib.hid (HW2.out.alloc (.cells pcs 23)); have HK3 := Lib.hid (HK2.out.alloc HK2.out.size (.cells pcs 23)))
    | (refine wpList_store_last (w := w5) rfl 23 _ _ rfl _ lcs rfl rfl 23 _ rfl HD.out.plan HD.out.size.symm HD.out.one ?_; have HL6 := Lib.hid (Whole.new w5 23 lcs); have HP6 := Lib.hid (HP5.out.alloc (.cells lcs 23)); have HK6 := Lib.hid (HK5.out.alloc HK5.out.size (.cells lcs 23)); have hz6 := HZ.out _ _ HP6.out; obtain ⟨hz62, hz615, hz6f⟩ := hz6)
    | (go_at_call 40; refine (HA.out _).mono ?_; rintro e w1 ⟨rfl, hb⟩; have HW1 := Lib.hid (k_later hb HW.out); have HK1 := Lib.hid (k_then hb HB.out); clear hb)
    | (go_at_call 16; refine (HF.out _).mono ?_; rintro e w2 ⟨rfl, hb⟩; have HK2 := Lib.hid (k_then hb HK1.out); have HW2 := Lib.hid (k_later hb HW1.out); have hlt := HW2.out.lt; clear hb)
    | (go_at_call 12; refine (HK.out _).mono ?_; rintro e w4 ⟨rfl, hb⟩; have HK4 := Lib.hid (k_then hb HK3.out); have HW4 := Lib.hid (k_later hb HW3.out); have HP4 := Lib.hid (k_later hb HP3.out); clear hb; obtain ⟨x0, x1, x5, x6, x7, x8, x12, x13, x14⟩ := HX.out _ _ HW4.out; obtain ⟨y0, y1, y5, y6, y7, y8, y12, y13, y14⟩ := HY.out _ _ HP4.out; obtain ⟨hz42, hz415, hz4f⟩ := HZ.out _ _ HP4.out)
    | (go_at_call 41; refine (HT.out _).mono ?_; rintro e w5 ⟨rfl, hb⟩; clear x0 x1 x5 x6 x7 x8 x12 x13 x14 y0 y1 y5 y6 y7 y8 y12 y13 y14 hz42 hz415 hz4f; have HK5 := Lib.hid (k_then hb HK4.out); have HP5 := Lib.hid (k_later hb HP4.out); clear hb)
    | (go_at_call 10; refine (HL.out _).mono ?_; rintro e w7 ⟨rfl, hb⟩; clear hz62 hz615 hz6f; have HK7 := Lib.hid (k_then hb HK6.out); have HP7 := Lib.hid (k_later hb HP6.out); clear hb; obtain ⟨hz72, hz715, hz7f⟩ := HZ.out _ _ HP7.out)
    )
  have hP8 := HQ.out _ _ HP7.out
  have hK8 := HK7.out.setCell (p := ⟨w2.heap.size, 15, none⟩) (Nat.le_of_lt hlt) (.int .i64 hz)
  generalize hW8 : w7.setCell ⟨w2.heap.size, 15, none⟩ (.int .i64 hz) = W8 at *
  clear hW8
  have HP8 := Lib.hid hP8
  have HK8 := Lib.hid hK8
  clear hP8 hK8
  rcases HWAY.out with ⟨hH, s, hs, hm⟩ | ⟨⟨hH1, hH2⟩, hm⟩ | ⟨⟨hH1, hH2⟩, s, hs, hm⟩
  · have HM := Lib.hid hm
    clear hm HWAY
    have hs1 : decide (s = 0) = false := decide_eq_false hs
    have hs2 : (s == 0) = false := by simpa using hs
    have d1 : decide (40 * m ≤ hz) = false := decide_eq_false (by omega)
    refine wp_region_later (by kernel_rfl) (by kernel_rfl) ?_
    repeat (first
      | (go_big_quiet_want; refine quiet_load_row 23 _ rfl w2.heap.size rfl 23 hcs (0, 0) _ (later_row HP8.out) Try.underlying23 rfl HE.out.plan ?_; simp only [Act.put, List.setIfInBounds_toArray, List.set_cons_succ, List.set_cons_zero]; go_big_quiet_on)
      | (go_big_quiet_step ((first
        | (go_at_call 10; exact later_of _ HM.out)
        | (go_at_call 14; exact later_of _ HR.out)))))
    refine wpQuiet_nil ?_
    intro _ hw'
    obtain ⟨y, hw''⟩ := hw'
    subst hw''
    go_wp2
    go_ret
    exact ⟨rfl, HK8.out.trans (y.below.mono HK8.out.size)⟩
  · have HM := Lib.hid hm
    clear hm HWAY
    have d1 : decide (40 * m ≤ hz) = true := decide_eq_true (by omega)
    have d2 : decide (hz ≤ 2147483648) = true := decide_eq_true (by omega)
    refine wp_region_later (by kernel_rfl) (by kernel_rfl) ?_
    repeat (first
      | (go_big_quiet_want; refine quiet_load_row 23 _ rfl w2.heap.size rfl 23 hcs (0, 0) _ (later_row HP8.out) Try.underlying23 rfl HE.out.plan ?_; simp only [Act.put, List.setIfInBounds_toArray, List.set_cons_succ, List.set_cons_zero]; go_big_quiet_on)
      | (go_big_quiet_step ((first
        | (go_at_call 10; exact later_of _ HM.out)
        | (go_at_call 14; exact later_of _ HR.out)))))
    refine wpQuiet_nil ?_
    intro _ hw'
    obtain ⟨y, hw''⟩ := hw'
    subst hw''
    go_wp2
    go_ret
    exact ⟨rfl, HK8.out.trans (y.below.mono HK8.out.size)⟩
  · have HM := Lib.hid hm
    clear hm HWAY
    have hs1 : decide (s = 0) = false := decide_eq_false hs
    have hs2 : (s == 0) = false := by simpa using hs
    have d1 : decide (40 * m ≤ hz) = true := decide_eq_true (by omega)
    have d2 : decide (hz ≤ 2147483648) = false := decide_eq_false (by omega)
    refine wp_region_later (by kernel_rfl) (by kernel_rfl) ?_
    repeat (first
      | (go_big_quiet_want; refine quiet_load_row 23 _ rfl w2.heap.size rfl 23 hcs (0, 0) _ (later_row HP8.out) Try.underlying23 rfl HE.out.plan ?_; simp only [Act.put, List.setIfInBounds_toArray, List.set_cons_succ, List.set_cons_zero]; go_big_quiet_on)
      | (go_big_quiet_step ((first
        | (go_at_call 10; exact later_of _ HM.out)
        | (go_at_call 14; exact later_of _ HR.out)))))
    refine wpQuiet_nil ?_
    intro _ hw'
    obtain ⟨y, hw''⟩ := hw'
    subst hw''
    go_wp2
    go_ret
    exact ⟨rfl, HK8.out.trans (y.below.mono HK8.out.size)⟩

theorem least_walk (x : Pl) (hz : Int) (w : World) : Calls Try.prog 6 #[.agg x.cells, .int .i64 hz] w fun e w' => e = .returned (.bool true) ∧ Below w.heap.size w w' := by
  by_cases h : ∃ L, FitOk x L
  · obtain ⟨L, h⟩ := h
    by_cases g : 1 < L
    · exact least_yes1 x hz L w h g
    · exact least_yes0 x hz L w h g
  · exact least_no x hz w h

end Go.Proofs.Ytilnaaljakjgoaa
