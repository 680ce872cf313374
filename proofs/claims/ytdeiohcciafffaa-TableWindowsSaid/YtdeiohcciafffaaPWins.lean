/- TableWindows, its walk. -/
import Derived.Test.YtdeiohcciafffaaPAlive
namespace Go.Proofs.Ytdeiohcciafffaa
open Go.RowKit Go.Shelf

set_option maxRecDepth 100000 in
set_option maxHeartbeats 8000000 in
theorem wins_walk (x : Pl) (r s dl ap : Int) (w : World) : Calls Try.prog 7 #[.agg x.cells, spotV r s, .int .i64 dl, .int .i64 ap] w fun e w' => e = .returned (.bool true) ∧ Below w.heap.size w w' := by
  have HS := Lib.hid x.cellsL
  have HA := Lib.hid (fun W => aliveS_any W)
  have h1 := fun W => Begin_any x W r s
  have h2 := fun W => Sends_any x W r s
  have h3 := fun W => Expected_any x W r s
  unfold expV at h3
  have hx := held_new (held_new (held_start w) 23 x.cells) 25 #[.int .i64 r, .int .i64 s]
  simp only [World.size_alloc, List.nil_append, List.cons_append] at hx
  have HX := Lib.hid hx
  clear hx
  cases hh : hasP x r s
  · rw [hh] at h1 h2 h3
    unfold tellP errP at h1 h2 h3
    simp only [Bool.false_eq_true, if_false] at h1 h2 h3
    have H1 := Lib.hid h1
    have H2 := Lib.hid h2
    have H3 := Lib.hid h3
    clear h1 h2 h3 hh
    generalize x.cells = cs at *
    go_enter Try.func7, Try.ntmps7
    go_upto_region 1 with fail
    generalize (w.alloc (.cells cs 23)).alloc (.cells #[.int .i64 r, .int .i64 s] 25) = w0 at *
    go_wp2_with (first
      | (refine wpList_load_row rfl 23 _ rfl w.heap.size rfl 23 cs (0, 0) _ (held1 HX.out) Try.underlying23 rfl HS.out.plan ?_)
      | (refine wpList_load_row rfl 25 (.tmp 5) rfl (w.heap.size + 1) rfl 25 #[.int .i64 r, .int .i64 s] (0, 0) _ (held2 HX.out) Try.underlying25 rfl info_place ?_)
      | (go_at_call 30; refine (HA.out _).mono ?_; clear HA; rintro e wa ⟨rfl, hb⟩; have HXs := HX; clear HX; have HX := Lib.hid (held_later hb HXs.out); clear HXs hb)
      | (go_at_call 9; refine (H1.out _).mono ?_; clear H1; rintro e w1 ⟨rfl, hb⟩; have HXs := HX; clear HX; have HX := Lib.hid (held_later hb HXs.out); clear HXs hb)
      | (go_at_call 17; refine (H2.out _).mono ?_; clear H2; rintro e w2 ⟨rfl, hb⟩; have HXs := HX; clear HX; have HX := Lib.hid (held_later hb HXs.out); clear HXs hb)
      | (go_at_call 19; refine (H3.out _).mono ?_; clear H3; rintro e w3 ⟨rfl, hb⟩; have HXs := HX; clear HX; have HX := Lib.hid (held_later hb HXs.out); clear HXs hb))
    go_ret
    exact ⟨rfl, HX.out.1⟩
  obtain ⟨B, S⟩ := has_yes hh
  have hk : okP x = true := by simp only [hasP, Bool.and_eq_true] at hh; exact hh.1
  have h4 := fun W => Middle_any x W
  rw [hk] at h4
  have b1 : 0 ≤ bgP x r s := S.b1
  have b2 : bgP x r s ≤ 36028797017915392 := S.b2
  have he : exP x r s = bgP x r s + x.sendOff + mdP x := rfl
  have hsd : sdP x r s = bgP x r s + x.sendOff := rfl
  obtain ⟨m1, m2, m3⟩ := mid_bounds B
  rw [hh, he] at h3
  rw [hh, hsd] at h2
  rw [hh] at h1
  unfold tellP errP at h1 h2 h3
  unfold tellP at h4
  simp only [if_true] at h1 h2 h3 h4
  have hmd : 2 * mdP x ≤ x.dmin + x.dmax ∧ x.dmin + x.dmax ≤ 2 * mdP x + 1 := by unfold mdP; omega
  obtain ⟨_, _, t1, t2, o1, o2, v1, v2, d1, d2, d3, p1, p2, c1, c2, c3, _, _, _⟩ := B
  have H1 := Lib.hid h1
  have H2 := Lib.hid h2
  have H3 := Lib.hid h3
  have H4 := Lib.hid h4
  clear h1 h2 h3 h4 he hsd hh hk S m3
  obtain ⟨hm1, hm2⟩ := hmd
  generalize bgP x r s = q at *
  generalize mdP x = m at *
  go_enter Try.func7, Try.ntmps7
  go_upto_region 1 with fail
  generalize (w.alloc (.cells x.cells 23)).alloc (.cells #[.int .i64 r, .int .i64 s] 25) = w0 at *
  go_upto_region 7 with (first
    | (refine wpList_load_row rfl 23 _ rfl w.heap.size rfl 23 x.cells (0, 0) _ (held1 HX.out) Try.underlying23 rfl HS.out.plan ?_)
    | (refine wpList_load_row rfl 25 (.tmp 5) rfl (w.heap.size + 1) rfl 25 #[.int .i64 r, .int .i64 s] (0, 0) _ (held2 HX.out) Try.underlying25 rfl info_place ?_)
    | (go_at_call 30; refine (HA.out _).mono ?_; clear HA; rintro e wa ⟨rfl, hb⟩; have HXs := HX; clear HX; have HX := Lib.hid (held_later hb HXs.out); clear HXs hb)
    | (go_at_call 9; refine (H1.out _).mono ?_; clear H1; rintro e w1 ⟨rfl, hb⟩; have HXs := HX; clear HX; have HX := Lib.hid (held_later hb HXs.out); clear HXs hb)
    | (go_at_call 17; refine (H2.out _).mono ?_; clear H2; rintro e w2 ⟨rfl, hb⟩; have HXs := HX; clear HX; have HX := Lib.hid (held_later hb HXs.out); clear HXs hb)
    | (go_at_call 19; refine (H3.out _).mono ?_; clear H3; rintro e w3 ⟨rfl, hb⟩; have HXs := HX; clear HX; have HX := Lib.hid (held_later hb HXs.out); clear HXs hb))
  have e1 : q + x.sendOff + m - x.window + (q + x.sendOff + m + x.window) = 2 * (q + x.sendOff + m) := by omega
  have e2 : decide (q + x.sendOff + m - x.window ≤ q) = false := decide_eq_false (by omega)
  have e3 : decide (q + x.slot ≤ q + x.sendOff + m + x.window) = false := decide_eq_false (by omega)
  obtain ⟨⟨_, _, k2, k3⟩, _⟩ := l_cells (held1 HX.out)
  simp only at k2 k3
  go_upto_region 9 with (first
    | (refine wpList_load_want rfl 23 _ rfl w.heap.size rfl 23 x.cells (0, 0) _ (held1 HX.out) Try.underlying23 rfl HS.out.plan ?_)
    | (go_at_call 27; refine (H4.out _).mono ?_; clear H4 k2 k3; rintro e w4 ⟨rfl, hb⟩; have HXs := HX; clear HX; have HX := Lib.hid (held_later hb HXs.out); clear HXs hb; obtain ⟨⟨_, _, k2, k3⟩, _⟩ := l_cells (held1 HX.out)))
  obtain ⟨_, ⟨_, _, k6, k7⟩, ⟨_, k9, _, _⟩, _⟩ := l_cells (held1 HX.out)
  simp only at k6 k7 k9
  clear k2 k3 e1 e2 e3
  by_cases g1 : dl < x.dmin
  · clear t1 t2 o1 o2 v1 v2 c1 c2 c3 hm1 hm2 b1 b2 m1 m2
    go_wp2
    go_ret
    exact ⟨rfl, HX.out.1⟩
  have g1' : x.dmin ≤ dl := by omega
  clear g1
  by_cases g2 : x.dmax < dl
  · clear t1 t2 o1 o2 v1 v2 c1 c2 c3 hm1 hm2 b1 b2 m1 m2
    go_wp2
    go_ret
    exact ⟨rfl, HX.out.1⟩
  have g2' : dl ≤ x.dmax := by omega
  clear g2
  by_cases g3 : ap < -x.pi
  · clear t1 t2 o1 o2 v1 v2 c1 c2 c3 hm1 hm2 b1 b2 m1 m2
    go_wp2
    go_ret
    exact ⟨rfl, HX.out.1⟩
  have g3' : -x.pi ≤ ap := by omega
  clear g3
  by_cases g4 : x.pi < ap
  · clear t1 t2 o1 o2 v1 v2 c1 c2 c3 hm1 hm2 b1 b2 m1 m2
    go_wp2
    go_ret
    exact ⟨rfl, HX.out.1⟩
  have g4' : ap ≤ x.pi := by omega
  clear g4
  have f1 : q + x.sendOff + m - x.window ≤ q + x.sendOff + ap + dl := by omega
  have f2 : q + x.sendOff + ap + dl ≤ q + x.sendOff + m + x.window := by omega
  go_wp2
  go_ret
  exact ⟨rfl, HX.out.1⟩
end Go.Proofs.Ytdeiohcciafffaa
