/- TableTimes, its walk. -/
import Derived.Test.YtdeiohcciafffaaPRef4
import Derived.Test.YtdeiohcciafffaaHeld
namespace Go.Proofs.Ytdeiohcciafffaa
open Go.RowKit Go.Shelf

set_option maxRecDepth 100000 in
set_option maxHeartbeats 8000000 in
theorem times_walk (x : Pl) (r s n : Int) (w : World) : Calls Try.prog 4 #[.agg x.cells, spotV r s, .int .i64 n] w fun e w' => e = .returned (.bool true) ∧ Below w.heap.size w w' := by
  have HS := Lib.hid x.cellsL
  have H1 := Lib.hid (fun W => Sends_any x W r s)
  have H2 := Lib.hid (fun W => refSends_any x W r s)
  have H3 := Lib.hid (fun W => Expected_any x W r s)
  have H4 := Lib.hid (fun W => refExpected_any x W r s)
  have H5 := Lib.hid (fun W => Listen_any x W n)
  have H6 := Lib.hid (fun W => refListen_any x W n)
  have H7 := Lib.hid (fun W => Wait_any x W n)
  have H8 := Lib.hid (fun W => refWait_any x W n)
  have H9 := Lib.hid (fun W => Full_any x W r s)
  have HA := Lib.hid (fun W => refFull_any x W r s)
  have HB := Lib.hid (fun W => Middle_any x W)
  have HC := Lib.hid (fun W => refMiddle_any x W)
  unfold expV at H3 H4
  generalize tellP (hasP x r s) (sdP x r s) = v1 at *
  generalize tellP (hasP x r s) (exP x r s) = v2 at *
  generalize tellP (hasP x r s) (exP x r s - x.window) = v3 at *
  generalize tellP (hasP x r s) (exP x r s + x.window) = v4 at *
  generalize errP (hasP x r s) = e1 at *
  generalize tellP (hasP x 3 n) (bgP x 3 n) = v5 at *
  generalize errP (hasP x 3 n) = e2 at *
  generalize tellP (hasP x 1 n) (bgP x 1 n) = v6 at *
  generalize errP (hasP x 1 n) = e3 at *
  generalize fullP x r s = b1 at *
  generalize tellP (okP x) (mdP x) = v7 at *
  generalize x.cells = cs at *
  have hx := held_new (held_new (held_start w) 23 cs) 25 #[.int .i64 r, .int .i64 s]
  simp only [World.size_alloc, List.nil_append, List.cons_append] at hx
  have HX := Lib.hid hx
  clear hx
  go_enter Try.func4, Try.ntmps4
  go_upto_region 1 with fail
  generalize (w.alloc (.cells cs 23)).alloc (.cells #[.int .i64 r, .int .i64 s] 25) = w0 at *
  go_upto_region 9 with (first
    | (refine wpList_load_row rfl 23 _ rfl w.heap.size rfl 23 cs (0, 0) _ (held1 HX.out) Try.underlying23 rfl HS.out.plan ?_)
    | (refine wpList_load_row rfl 25 (.tmp 4) rfl (w.heap.size + 1) rfl 25 #[.int .i64 r, .int .i64 s] (0, 0) _ (held2 HX.out) Try.underlying25 rfl info_place ?_)
    | (go_at_call 17; refine (H1.out _).mono ?_; clear H1; rintro e w1 ⟨rfl, hb⟩; have HXs := HX; clear HX; have HX := Lib.hid (held_later hb HXs.out); clear HXs hb)
    | (go_at_call 18; refine (H2.out _).mono ?_; clear H2; rintro e w2 ⟨rfl, hb⟩; have HXs := HX; clear HX; have HX := Lib.hid (held_later hb HXs.out); clear HXs hb)
    | (go_at_call 19; refine (H3.out _).mono ?_; clear H3; rintro e w3 ⟨rfl, hb⟩; have HXs := HX; clear HX; have HX := Lib.hid (held_later hb HXs.out); clear HXs hb)
    | (go_at_call 20; refine (H4.out _).mono ?_; clear H4; rintro e w4 ⟨rfl, hb⟩; have HXs := HX; clear HX; have HX := Lib.hid (held_later hb HXs.out); clear HXs hb)
    | (go_at_call 21; refine (H5.out _).mono ?_; clear H5; rintro e w5 ⟨rfl, hb⟩; have HXs := HX; clear HX; have HX := Lib.hid (held_later hb HXs.out); clear HXs hb)
    | (go_at_call 22; refine (H6.out _).mono ?_; clear H6; rintro e w6 ⟨rfl, hb⟩; have HXs := HX; clear HX; have HX := Lib.hid (held_later hb HXs.out); clear HXs hb)
    | (go_at_call 23; refine (H7.out _).mono ?_; clear H7; rintro e w7 ⟨rfl, hb⟩; have HXs := HX; clear HX; have HX := Lib.hid (held_later hb HXs.out); clear HXs hb)
    | (go_at_call 24; refine (H8.out _).mono ?_; clear H8; rintro e w8 ⟨rfl, hb⟩; have HXs := HX; clear HX; have HX := Lib.hid (held_later hb HXs.out); clear HXs hb))
  simp only [List.append_eq, List.cons_append, List.nil_append]
  refine wp_region_later (by kernel_rfl) (by kernel_rfl) ?_
  repeat (first
    | (go_big_quiet_want; refine quiet_load_row 23 _ rfl w.heap.size rfl 23 cs (0, 0) _ (later_row (held1 HX.out)) Try.underlying23 rfl HS.out.plan ?_; simp only [Act.put, List.setIfInBounds_toArray, List.set_cons_succ, List.set_cons_zero]; go_big_quiet_on)
    | (go_big_quiet_want; refine quiet_load_row 25 (.tmp 4) rfl (w.heap.size + 1) rfl 25 #[.int .i64 r, .int .i64 s] (0, 0) _ (later_row (held2 HX.out)) Try.underlying25 rfl info_place ?_; simp only [Act.put, List.setIfInBounds_toArray, List.set_cons_succ, List.set_cons_zero]; go_big_quiet_on)
    | (go_big_quiet_step ((first
      | (go_at_call 25; exact later_of _ H9.out)
      | (go_at_call 26; exact later_of _ HA.out)
      | (go_at_call 27; exact later_of _ HB.out)
      | (go_at_call 28; exact later_of _ HC.out)))))
  refine wpQuiet_nil ?_
  intro _ hw'
  obtain ⟨y, hw''⟩ := hw'
  subst hw''
  go_wp2
  go_ret
  exact ⟨rfl, HX.out.1.trans (y.below.mono HX.out.1.size)⟩

end Go.Proofs.Ytdeiohcciafffaa
