/- TableTurns, its walk. -/
import Derived.Test.YtdeiohcciafffaaPAlive
import Derived.Test.YtdeiohcciafffaaPLawM
namespace Go.Proofs.Ytdeiohcciafffaa
open Go.RowKit Go.Shelf

set_option maxRecDepth 100000 in
set_option maxHeartbeats 8000000 in
theorem turns_walk (x : Pl) (r n : Int) (w : World) : Calls Try.prog 8 #[.agg x.cells, .int .i64 r, .int .i64 n] w fun e w' => e = .returned (.bool true) ∧ Below w.heap.size w w' := by
  have HS := Lib.hid x.cellsL
  have HA := Lib.hid (fun W => aliveS_any W)
  have H1 := Lib.hid (fun W => Full_any x W r n)
  have H2 := Lib.hid (fun W => Full_any x W (wrap64 (r + 1)) n)
  have h3 := fun W => Begin_any x W r n
  have h4 := fun W => Begin_any x W (wrap64 (r + 1)) n
  have h5 := fun W => Listen_any x W n
  have h6 := fun W => Wait_any x W n
  have h7 := fun W => Listen_any x W (wrap64 (n + 1))
  have h8 := fun W => Wait_any x W (wrap64 (n + 1))
  rw [node_any 3 (by omega) (by omega)] at h5 h7
  rw [node_any 1 (by omega) (by omega)] at h6 h8
  have HF := Lib.hid (fun h h2 => turn_full (x := x) (r := r) (s := n) h h2)
  have HE := Lib.hid (show (okP x && nodeP x n) = false → hasP x r n = false by
    intro h
    cases hr : roundP r <;> simp_all [hasP, placeP])
  have HN := Lib.hid (show (okP x && nodeP x n) = true → BoundP x ∧ 0 ≤ n ∧ n < x.nodes ∧ wrap64 (n + 1) = n + 1 by
    intro h
    simp only [Bool.and_eq_true] at h
    have B := bound_of h.1
    obtain ⟨k1, k2⟩ := node_yes h.2
    have n2 := B.n2
    exact ⟨B, k1, k2, by unfold wrap64; omega⟩)
  have hx := held_new (held_start w) 23 x.cells
  simp only [List.nil_append] at hx
  have HX := Lib.hid hx
  clear hx
  generalize tellP (hasP x r n) (bgP x r n) = v1 at *
  generalize tellP (hasP x (wrap64 (r + 1)) n) (bgP x (wrap64 (r + 1)) n) = v2 at *
  generalize fullP x r n = f1 at *
  generalize fullP x (wrap64 (r + 1)) n = f2 at *
  generalize hasP x r n = k1 at *
  generalize hasP x (wrap64 (r + 1)) n = k2 at *
  have H3 := Lib.hid h3
  have H4 := Lib.hid h4
  have H5 := Lib.hid h5
  have H6 := Lib.hid h6
  have H7 := Lib.hid h7
  have H8 := Lib.hid h8
  clear h3 h4 h5 h6 h7 h8
  go_enter Try.func8, Try.ntmps8
  go_upto_region 1 with fail
  generalize w.alloc (.cells x.cells 23) = w0 at *
  go_upto_region 2 with (first
    | (go_at_call 30; refine (HA.out _).mono ?_; clear HA; rintro e wa ⟨rfl, hb⟩; have HXs := HX; clear HX; have HX := Lib.hid (held_later hb HXs.out); clear HXs hb))
  refine wp_region_later (by kernel_rfl) (by kernel_rfl) ?_
  go_big_quiet_want
  refine quiet_load_row 23 (.tmp 3) rfl w.heap.size rfl 23 x.cells (0, 0) _ (later_row (held1 HX.out)) Try.underlying23 rfl HS.out.plan ?_
  simp only [Act.put, List.setIfInBounds_toArray, List.set_cons_succ, List.set_cons_zero]
  go_big_quiet_on
  go_big_quiet_step (fail)
  go_big_quiet_step (fail)
  go_big_quiet_step (fail)
  go_big_quiet_step ((go_at_call 25; exact later_of _ H1.out))
  go_big_quiet_want
  refine quiet_load_row 23 (.tmp 3) rfl w.heap.size rfl 23 x.cells (0, 0) _ (later_row (held1 HX.out)) Try.underlying23 rfl HS.out.plan ?_
  simp only [Act.put, List.setIfInBounds_toArray, List.set_cons_succ, List.set_cons_zero]
  go_big_quiet_on
  go_big_quiet_step (fail)
  go_big_quiet_step (fail)
  go_big_quiet_step (fail)
  go_big_quiet_step (fail)
  go_big_quiet_step ((go_at_call 25; exact later_of _ H2.out))
  go_big_quiet_step (fail)
  go_big_quiet_step (fail)
  refine wpQuiet_nil ?_
  intro _ hw'
  obtain ⟨y, hw''⟩ := hw'
  subst hw''
  have HXs := HX
  clear HX H1 H2
  have HX := Lib.hid (held_later y.below HXs.out)
  clear HXs
  generalize y.at_ = wy at *
  have H9 := Lib.hid (fun W => Round_any x W)
  cases hown : okP x && nodeP x n
  · have hk1 := HE.out hown
    rw [hown] at H5 H6
    subst hk1
    unfold errP tellP at H5 H6
    unfold errP at H3
    simp only [Bool.false_eq_true, if_false] at H3 H5 H6
    generalize errP k2 = e4 at *
    generalize errP (okP x && nodeP x (wrap64 (n + 1))) = e7 at *
    generalize tellP (okP x && nodeP x (wrap64 (n + 1))) (bgP x 3 (wrap64 (n + 1))) = v7 at *
    generalize tellP (okP x && nodeP x (wrap64 (n + 1))) (bgP x 1 (wrap64 (n + 1))) = v8 at *
    clear HF HE HN H9
    go_wp2_with (first
      | (refine wpList_load_row rfl 23 _ rfl w.heap.size rfl 23 x.cells (0, 0) _ (held1 HX.out) Try.underlying23 rfl HS.out.plan ?_)
      | (go_at_call 9; refine (H3.out _).mono ?_; clear H3; rintro e w3 ⟨rfl, hb⟩; have HXs := HX; clear HX; have HX := Lib.hid (held_later hb HXs.out); clear HXs hb)
      | (go_at_call 9; refine (H4.out _).mono ?_; clear H4; rintro e w4 ⟨rfl, hb⟩; have HXs := HX; clear HX; have HX := Lib.hid (held_later hb HXs.out); clear HXs hb)
      | (go_at_call 21; refine (H5.out _).mono ?_; clear H5; rintro e w5 ⟨rfl, hb⟩; have HXs := HX; clear HX; have HX := Lib.hid (held_later hb HXs.out); clear HXs hb)
      | (go_at_call 21; refine (H7.out _).mono ?_; clear H7; rintro e w7 ⟨rfl, hb⟩; have HXs := HX; clear HX; have HX := Lib.hid (held_later hb HXs.out); clear HXs hb)
      | (go_at_call 23; refine (H6.out _).mono ?_; clear H6; rintro e w6 ⟨rfl, hb⟩; have HXs := HX; clear HX; have HX := Lib.hid (held_later hb HXs.out); clear HXs hb)
      | (go_at_call 23; refine (H8.out _).mono ?_; clear H8; rintro e w8 ⟨rfl, hb⟩; have HXs := HX; clear HX; have HX := Lib.hid (held_later hb HXs.out); clear HXs hb))
    go_ret
    exact ⟨rfl, HX.out.1⟩
  obtain ⟨B, n0, n1, hw⟩ := HN.out hown
  have n2 := B.n2
  have t1 := B.s1
  have t2 := B.s2
  have m1 := B.m1
  have m2 := B.m2
  have l1 := turn_listen (x := x) n
  have l2 := turn_listen (x := x) (n + 1)
  have l3 := turn_on (x := x) 1 n
  have l4 := turn_wait B n0
  have hok : okP x = true := by simp only [Bool.and_eq_true] at hown; exact hown.1
  have l5 : bgP x 1 n ≤ 36028797017915392 := (spot_mk (r := 1) (s := n) B (by omega) (by omega) n0 n1).b2
  rw [turn_round B] at H9
  rw [hw, l2, l3] at H7
  rw [hw, l3] at H8
  rw [l1] at H5
  rw [hown] at H5 H6
  unfold errP tellP at H5 H6
  simp only [if_true] at H5 H6
  clear l1 l2 l3 B hown hw hok
  generalize bgP x 1 n = a at *
  generalize rdL x = rd at *
  cases hq : okP x && nodeP x (n + 1)
  · rw [hq] at H7 H8
    unfold errP tellP at H7 H8
    simp only [Bool.false_eq_true, if_false] at H7 H8
    clear hq H9
    cases k1
    · unfold errP at H3
      simp only [Bool.false_eq_true, if_false] at H3
      generalize errP k2 = e4 at *
      go_wp2_with (first
        | (refine wpList_load_row rfl 23 _ rfl w.heap.size rfl 23 x.cells (0, 0) _ (held1 HX.out) Try.underlying23 rfl HS.out.plan ?_)
        | (go_at_call 9; refine (H3.out _).mono ?_; clear H3; rintro e w3 ⟨rfl, hb⟩; have HXs := HX; clear HX; have HX := Lib.hid (held_later hb HXs.out); clear HXs hb)
        | (go_at_call 9; refine (H4.out _).mono ?_; clear H4; rintro e w4 ⟨rfl, hb⟩; have HXs := HX; clear HX; have HX := Lib.hid (held_later hb HXs.out); clear HXs hb)
        | (go_at_call 21; refine (H5.out _).mono ?_; clear H5; rintro e w5 ⟨rfl, hb⟩; have HXs := HX; clear HX; have HX := Lib.hid (held_later hb HXs.out); clear HXs hb)
        | (go_at_call 21; refine (H7.out _).mono ?_; clear H7; rintro e w7 ⟨rfl, hb⟩; have HXs := HX; clear HX; have HX := Lib.hid (held_later hb HXs.out); clear HXs hb)
        | (go_at_call 23; refine (H6.out _).mono ?_; clear H6; rintro e w6 ⟨rfl, hb⟩; have HXs := HX; clear HX; have HX := Lib.hid (held_later hb HXs.out); clear HXs hb)
        | (go_at_call 23; refine (H8.out _).mono ?_; clear H8; rintro e w8 ⟨rfl, hb⟩; have HXs := HX; clear HX; have HX := Lib.hid (held_later hb HXs.out); clear HXs hb))
      go_ret
      exact ⟨rfl, HX.out.1⟩
    cases k2
    · unfold errP at H3 H4
      simp only [Bool.false_eq_true, if_false, if_true] at H3 H4
      go_wp2_with (first
        | (refine wpList_load_row rfl 23 _ rfl w.heap.size rfl 23 x.cells (0, 0) _ (held1 HX.out) Try.underlying23 rfl HS.out.plan ?_)
        | (go_at_call 9; refine (H3.out _).mono ?_; clear H3; rintro e w3 ⟨rfl, hb⟩; have HXs := HX; clear HX; have HX := Lib.hid (held_later hb HXs.out); clear HXs hb)
        | (go_at_call 9; refine (H4.out _).mono ?_; clear H4; rintro e w4 ⟨rfl, hb⟩; have HXs := HX; clear HX; have HX := Lib.hid (held_later hb HXs.out); clear HXs hb)
        | (go_at_call 21; refine (H5.out _).mono ?_; clear H5; rintro e w5 ⟨rfl, hb⟩; have HXs := HX; clear HX; have HX := Lib.hid (held_later hb HXs.out); clear HXs hb)
        | (go_at_call 21; refine (H7.out _).mono ?_; clear H7; rintro e w7 ⟨rfl, hb⟩; have HXs := HX; clear HX; have HX := Lib.hid (held_later hb HXs.out); clear HXs hb)
        | (go_at_call 23; refine (H6.out _).mono ?_; clear H6; rintro e w6 ⟨rfl, hb⟩; have HXs := HX; clear HX; have HX := Lib.hid (held_later hb HXs.out); clear HXs hb)
        | (go_at_call 23; refine (H8.out _).mono ?_; clear H8; rintro e w8 ⟨rfl, hb⟩; have HXs := HX; clear HX; have HX := Lib.hid (held_later hb HXs.out); clear HXs hb))
      go_ret
      exact ⟨rfl, HX.out.1⟩
    have hf := HF.out rfl rfl
    clear HF HE HN
    unfold errP at H3 H4
    simp only [if_true] at H3 H4
    revert hf
    cases f1 <;> cases f2 <;> intro hf <;> first | exact absurd hf (by decide) | skip
    · clear hf
      go_wp2_with (first
        | (refine wpList_load_row rfl 23 _ rfl w.heap.size rfl 23 x.cells (0, 0) _ (held1 HX.out) Try.underlying23 rfl HS.out.plan ?_)
        | (go_at_call 9; refine (H3.out _).mono ?_; clear H3; rintro e w3 ⟨rfl, hb⟩; have HXs := HX; clear HX; have HX := Lib.hid (held_later hb HXs.out); clear HXs hb)
        | (go_at_call 9; refine (H4.out _).mono ?_; clear H4; rintro e w4 ⟨rfl, hb⟩; have HXs := HX; clear HX; have HX := Lib.hid (held_later hb HXs.out); clear HXs hb)
        | (go_at_call 21; refine (H5.out _).mono ?_; clear H5; rintro e w5 ⟨rfl, hb⟩; have HXs := HX; clear HX; have HX := Lib.hid (held_later hb HXs.out); clear HXs hb)
        | (go_at_call 21; refine (H7.out _).mono ?_; clear H7; rintro e w7 ⟨rfl, hb⟩; have HXs := HX; clear HX; have HX := Lib.hid (held_later hb HXs.out); clear HXs hb)
        | (go_at_call 23; refine (H6.out _).mono ?_; clear H6; rintro e w6 ⟨rfl, hb⟩; have HXs := HX; clear HX; have HX := Lib.hid (held_later hb HXs.out); clear HXs hb)
        | (go_at_call 23; refine (H8.out _).mono ?_; clear H8; rintro e w8 ⟨rfl, hb⟩; have HXs := HX; clear HX; have HX := Lib.hid (held_later hb HXs.out); clear HXs hb))
      go_ret
      exact ⟨rfl, HX.out.1⟩
    · clear hf
      go_wp2_with (first
        | (refine wpList_load_row rfl 23 _ rfl w.heap.size rfl 23 x.cells (0, 0) _ (held1 HX.out) Try.underlying23 rfl HS.out.plan ?_)
        | (go_at_call 9; refine (H3.out _).mono ?_; clear H3; rintro e w3 ⟨rfl, hb⟩; have HXs := HX; clear HX; have HX := Lib.hid (held_later hb HXs.out); clear HXs hb)
        | (go_at_call 9; refine (H4.out _).mono ?_; clear H4; rintro e w4 ⟨rfl, hb⟩; have HXs := HX; clear HX; have HX := Lib.hid (held_later hb HXs.out); clear HXs hb)
        | (go_at_call 21; refine (H5.out _).mono ?_; clear H5; rintro e w5 ⟨rfl, hb⟩; have HXs := HX; clear HX; have HX := Lib.hid (held_later hb HXs.out); clear HXs hb)
        | (go_at_call 21; refine (H7.out _).mono ?_; clear H7; rintro e w7 ⟨rfl, hb⟩; have HXs := HX; clear HX; have HX := Lib.hid (held_later hb HXs.out); clear HXs hb)
        | (go_at_call 23; refine (H6.out _).mono ?_; clear H6; rintro e w6 ⟨rfl, hb⟩; have HXs := HX; clear HX; have HX := Lib.hid (held_later hb HXs.out); clear HXs hb)
        | (go_at_call 23; refine (H8.out _).mono ?_; clear H8; rintro e w8 ⟨rfl, hb⟩; have HXs := HX; clear HX; have HX := Lib.hid (held_later hb HXs.out); clear HXs hb))
      go_ret
      exact ⟨rfl, HX.out.1⟩
  rw [hq] at H7 H8
  unfold errP tellP at H7 H8
  simp only [if_true] at H7 H8
  clear hq
  cases k1
  · unfold errP at H3
    simp only [Bool.false_eq_true, if_false] at H3
    generalize errP k2 = e4 at *
    go_upto_region 15 with (first
      | (refine wpList_load_row rfl 23 _ rfl w.heap.size rfl 23 x.cells (0, 0) _ (held1 HX.out) Try.underlying23 rfl HS.out.plan ?_)
      | (go_at_call 9; refine (H3.out _).mono ?_; clear H3; rintro e w3 ⟨rfl, hb⟩; have HXs := HX; clear HX; have HX := Lib.hid (held_later hb HXs.out); clear HXs hb)
      | (go_at_call 9; refine (H4.out _).mono ?_; clear H4; rintro e w4 ⟨rfl, hb⟩; have HXs := HX; clear HX; have HX := Lib.hid (held_later hb HXs.out); clear HXs hb)
      | (go_at_call 21; refine (H5.out _).mono ?_; clear H5; rintro e w5 ⟨rfl, hb⟩; have HXs := HX; clear HX; have HX := Lib.hid (held_later hb HXs.out); clear HXs hb)
      | (go_at_call 21; refine (H7.out _).mono ?_; clear H7; rintro e w7 ⟨rfl, hb⟩; have HXs := HX; clear HX; have HX := Lib.hid (held_later hb HXs.out); clear HXs hb)
      | (go_at_call 23; refine (H6.out _).mono ?_; clear H6; rintro e w6 ⟨rfl, hb⟩; have HXs := HX; clear HX; have HX := Lib.hid (held_later hb HXs.out); clear HXs hb)
      | (go_at_call 23; refine (H8.out _).mono ?_; clear H8; rintro e w8 ⟨rfl, hb⟩; have HXs := HX; clear HX; have HX := Lib.hid (held_later hb HXs.out); clear HXs hb))
    obtain ⟨⟨_, _, c2, _⟩, _⟩ := l_cells (held1 HX.out)
    simp only at c2
    go_wp2_with (first
      | (refine wpList_load_want rfl 23 _ rfl w.heap.size rfl 23 x.cells (0, 0) _ (held1 HX.out) Try.underlying23 rfl HS.out.plan ?_)
      | (go_at_call 31; refine (H9.out _).mono ?_; rintro e w9 ⟨rfl, hb⟩; have HXs := HX; clear HX; have HX := Lib.hid (held_later hb HXs.out); clear HXs hb; have c2 := (l_cells (held1 HX.out)).1.2.2.1; simp only at c2))
    go_ret
    exact ⟨rfl, HX.out.1⟩
  cases k2
  · unfold errP at H3 H4
    simp only [Bool.false_eq_true, if_false, if_true] at H3 H4
    go_upto_region 15 with (first
      | (refine wpList_load_row rfl 23 _ rfl w.heap.size rfl 23 x.cells (0, 0) _ (held1 HX.out) Try.underlying23 rfl HS.out.plan ?_)
      | (go_at_call 9; refine (H3.out _).mono ?_; clear H3; rintro e w3 ⟨rfl, hb⟩; have HXs := HX; clear HX; have HX := Lib.hid (held_later hb HXs.out); clear HXs hb)
      | (go_at_call 9; refine (H4.out _).mono ?_; clear H4; rintro e w4 ⟨rfl, hb⟩; have HXs := HX; clear HX; have HX := Lib.hid (held_later hb HXs.out); clear HXs hb)
      | (go_at_call 21; refine (H5.out _).mono ?_; clear H5; rintro e w5 ⟨rfl, hb⟩; have HXs := HX; clear HX; have HX := Lib.hid (held_later hb HXs.out); clear HXs hb)
      | (go_at_call 21; refine (H7.out _).mono ?_; clear H7; rintro e w7 ⟨rfl, hb⟩; have HXs := HX; clear HX; have HX := Lib.hid (held_later hb HXs.out); clear HXs hb)
      | (go_at_call 23; refine (H6.out _).mono ?_; clear H6; rintro e w6 ⟨rfl, hb⟩; have HXs := HX; clear HX; have HX := Lib.hid (held_later hb HXs.out); clear HXs hb)
      | (go_at_call 23; refine (H8.out _).mono ?_; clear H8; rintro e w8 ⟨rfl, hb⟩; have HXs := HX; clear HX; have HX := Lib.hid (held_later hb HXs.out); clear HXs hb))
    obtain ⟨⟨_, _, c2, _⟩, _⟩ := l_cells (held1 HX.out)
    simp only at c2
    go_wp2_with (first
      | (refine wpList_load_want rfl 23 _ rfl w.heap.size rfl 23 x.cells (0, 0) _ (held1 HX.out) Try.underlying23 rfl HS.out.plan ?_)
      | (go_at_call 31; refine (H9.out _).mono ?_; rintro e w9 ⟨rfl, hb⟩; have HXs := HX; clear HX; have HX := Lib.hid (held_later hb HXs.out); clear HXs hb; have c2 := (l_cells (held1 HX.out)).1.2.2.1; simp only at c2))
    go_ret
    exact ⟨rfl, HX.out.1⟩
  have hf := HF.out rfl rfl
  clear HF HE HN
  unfold errP at H3 H4
  simp only [if_true] at H3 H4
  revert hf
  cases f1 <;> cases f2 <;> intro hf <;> first | exact absurd hf (by decide) | skip
  · clear hf
    go_upto_region 15 with (first
      | (refine wpList_load_row rfl 23 _ rfl w.heap.size rfl 23 x.cells (0, 0) _ (held1 HX.out) Try.underlying23 rfl HS.out.plan ?_)
      | (go_at_call 9; refine (H3.out _).mono ?_; clear H3; rintro e w3 ⟨rfl, hb⟩; have HXs := HX; clear HX; have HX := Lib.hid (held_later hb HXs.out); clear HXs hb)
      | (go_at_call 9; refine (H4.out _).mono ?_; clear H4; rintro e w4 ⟨rfl, hb⟩; have HXs := HX; clear HX; have HX := Lib.hid (held_later hb HXs.out); clear HXs hb)
      | (go_at_call 21; refine (H5.out _).mono ?_; clear H5; rintro e w5 ⟨rfl, hb⟩; have HXs := HX; clear HX; have HX := Lib.hid (held_later hb HXs.out); clear HXs hb)
      | (go_at_call 21; refine (H7.out _).mono ?_; clear H7; rintro e w7 ⟨rfl, hb⟩; have HXs := HX; clear HX; have HX := Lib.hid (held_later hb HXs.out); clear HXs hb)
      | (go_at_call 23; refine (H6.out _).mono ?_; clear H6; rintro e w6 ⟨rfl, hb⟩; have HXs := HX; clear HX; have HX := Lib.hid (held_later hb HXs.out); clear HXs hb)
      | (go_at_call 23; refine (H8.out _).mono ?_; clear H8; rintro e w8 ⟨rfl, hb⟩; have HXs := HX; clear HX; have HX := Lib.hid (held_later hb HXs.out); clear HXs hb))
    obtain ⟨⟨_, _, c2, _⟩, _⟩ := l_cells (held1 HX.out)
    simp only at c2
    go_wp2_with (first
      | (refine wpList_load_want rfl 23 _ rfl w.heap.size rfl 23 x.cells (0, 0) _ (held1 HX.out) Try.underlying23 rfl HS.out.plan ?_)
      | (go_at_call 31; refine (H9.out _).mono ?_; rintro e w9 ⟨rfl, hb⟩; have HXs := HX; clear HX; have HX := Lib.hid (held_later hb HXs.out); clear HXs hb; have c2 := (l_cells (held1 HX.out)).1.2.2.1; simp only at c2))
    go_ret
    exact ⟨rfl, HX.out.1⟩
  · clear hf
    go_upto_region 15 with (first
      | (refine wpList_load_row rfl 23 _ rfl w.heap.size rfl 23 x.cells (0, 0) _ (held1 HX.out) Try.underlying23 rfl HS.out.plan ?_)
      | (go_at_call 9; refine (H3.out _).mono ?_; clear H3; rintro e w3 ⟨rfl, hb⟩; have HXs := HX; clear HX; have HX := Lib.hid (held_later hb HXs.out); clear HXs hb)
      | (go_at_call 9; refine (H4.out _).mono ?_; clear H4; rintro e w4 ⟨rfl, hb⟩; have HXs := HX; clear HX; have HX := Lib.hid (held_later hb HXs.out); clear HXs hb)
      | (go_at_call 21; refine (H5.out _).mono ?_; clear H5; rintro e w5 ⟨rfl, hb⟩; have HXs := HX; clear HX; have HX := Lib.hid (held_later hb HXs.out); clear HXs hb)
      | (go_at_call 21; refine (H7.out _).mono ?_; clear H7; rintro e w7 ⟨rfl, hb⟩; have HXs := HX; clear HX; have HX := Lib.hid (held_later hb HXs.out); clear HXs hb)
      | (go_at_call 23; refine (H6.out _).mono ?_; clear H6; rintro e w6 ⟨rfl, hb⟩; have HXs := HX; clear HX; have HX := Lib.hid (held_later hb HXs.out); clear HXs hb)
      | (go_at_call 23; refine (H8.out _).mono ?_; clear H8; rintro e w8 ⟨rfl, hb⟩; have HXs := HX; clear HX; have HX := Lib.hid (held_later hb HXs.out); clear HXs hb))
    obtain ⟨⟨_, _, c2, _⟩, _⟩ := l_cells (held1 HX.out)
    simp only at c2
    go_wp2_with (first
      | (refine wpList_load_want rfl 23 _ rfl w.heap.size rfl 23 x.cells (0, 0) _ (held1 HX.out) Try.underlying23 rfl HS.out.plan ?_)
      | (go_at_call 31; refine (H9.out _).mono ?_; rintro e w9 ⟨rfl, hb⟩; have HXs := HX; clear HX; have HX := Lib.hid (held_later hb HXs.out); clear HXs hb; have c2 := (l_cells (held1 HX.out)).1.2.2.1; simp only at c2))
    go_ret
    exact ⟨rfl, HX.out.1⟩
end Go.Proofs.Ytdeiohcciafffaa
