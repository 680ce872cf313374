/- TablePlaces, its walk. -/
import Derived.Test.YtdeiohcciafffaaPRef4
import Derived.Test.YtdeiohcciafffaaHeld
namespace Go.Proofs.Ytdeiohcciafffaa
open Go.RowKit Go.Shelf

set_option maxRecDepth 100000 in
set_option maxHeartbeats 8000000 in
theorem places_walk (x : Pl) (r s r' s' l : Int) (w : World) : Calls Try.prog 3 #[.agg x.cells, spotV r s, spotV r' s', .int .i64 l] w fun e w' => e = .returned (.bool true) ∧ Below w.heap.size w w' := by
  have HS := Lib.hid x.cellsL
  have H1 := Lib.hid (fun W => Begin_any x W r s)
  have H2 := Lib.hid (fun W => refBegin_any x W r s)
  have H3 := Lib.hid (fun W => Of_any x W l)
  have H4 := Lib.hid (fun W => refOf_any x W l)
  have H5 := Lib.hid (fun W => Next_any x W r s)
  have H6 := Lib.hid (fun W => refNext_any x W r s)
  have H7 := Lib.hid (fun W => Apart_any x W r s r' s')
  have H8 := Lib.hid (fun W => refApart_any x W r s r' s')
  unfold spotT at H3 H4 H5 H6
  generalize tellP (hasP x r s) (bgP x r s) = v1 at *
  generalize errP (hasP x r s) = e1 at *
  generalize tellP (ofB x l) (spotR x (l / x.slot)) = v2 at *
  generalize tellP (ofB x l) (spotS x (l / x.slot)) = v3 at *
  generalize errP (ofB x l) = e2 at *
  generalize tellP (nxB x r s) (spotR x (ahP x r s + 1)) = v4 at *
  generalize tellP (nxB x r s) (spotS x (ahP x r s + 1)) = v5 at *
  generalize errP (nxB x r s) = e3 at *
  generalize tellP (hasP x r s && hasP x r' s') (apartP x r s r' s') = v6 at *
  generalize errP (hasP x r s && hasP x r' s') = e4 at *
  generalize x.cells = cs at *
  have hx := held_new (held_new (held_new (held_start w) 23 cs) 25 #[.int .i64 r, .int .i64 s]) 25 #[.int .i64 r', .int .i64 s']
  simp only [World.size_alloc, List.nil_append, List.cons_append] at hx
  have HX := Lib.hid hx
  clear hx
  go_enter Try.func3, Try.ntmps3
  go_upto_region 1 with fail
  generalize ((w.alloc (.cells cs 23)).alloc (.cells #[.int .i64 r, .int .i64 s] 25)).alloc (.cells #[.int .i64 r', .int .i64 s'] 25) = w0 at *
  go_upto_region 9 with (first
    | (refine wpList_load_row rfl 23 _ rfl w.heap.size rfl 23 cs (0, 0) _ (held1 HX.out) Try.underlying23 rfl HS.out.plan ?_)
    | (refine wpList_load_row rfl 25 (.tmp 5) rfl (w.heap.size + 1) rfl 25 #[.int .i64 r, .int .i64 s] (0, 0) _ (held2 HX.out) Try.underlying25 rfl info_place ?_)
    | (refine wpList_load_row rfl 25 (.tmp 6) rfl (w.heap.size + 1 + 1) rfl 25 #[.int .i64 r', .int .i64 s'] (0, 0) _ (held3 HX.out) Try.underlying25 rfl info_place ?_)
    | (go_at_call 9; refine (H1.out _).mono ?_; clear H1; rintro e w1 ⟨rfl, hb⟩; have HXs := HX; clear HX; have HX := Lib.hid (held_later hb HXs.out); clear HXs hb)
    | (go_at_call 10; refine (H2.out _).mono ?_; clear H2; rintro e w2 ⟨rfl, hb⟩; have HXs := HX; clear HX; have HX := Lib.hid (held_later hb HXs.out); clear HXs hb)
    | (go_at_call 11; refine (H3.out _).mono ?_; clear H3; rintro e w3 ⟨rfl, hb⟩; have HXs := HX; clear HX; have HX := Lib.hid (held_later hb HXs.out); clear HXs hb)
    | (refine wpList_store_last (w := w3) rfl 25 (.tmp 13) (.tmp 41) rfl _ #[.int .i64 v2, .int .i64 v3] rfl rfl 25 _ rfl info_place rfl (spot_one v2 v3) ?_; have HXs := HX; clear HX; have HX := Lib.hid (held_new HXs.out 25 #[.int .i64 v2, .int .i64 v3]); clear HXs)
    | (go_at_call 12; refine (H4.out _).mono ?_; clear H4; rintro e w4 ⟨rfl, hb⟩; have HXs := HX; clear HX; have HX := Lib.hid (held_later hb HXs.out); clear HXs hb)
    | (refine wpList_store_last (w := w4) rfl 25 (.tmp 15) (.tmp 47) rfl _ #[.int .i64 v2, .int .i64 v3] rfl rfl 25 _ rfl info_place rfl (spot_one v2 v3) ?_; have HXs := HX; clear HX; have HX := Lib.hid (held_new HXs.out 25 #[.int .i64 v2, .int .i64 v3]); clear HXs)
    | (go_at_call 13; refine (H5.out _).mono ?_; clear H5; rintro e w5 ⟨rfl, hb⟩; have HXs := HX; clear HX; have HX := Lib.hid (held_later hb HXs.out); clear HXs hb)
    | (refine wpList_store_last (w := w5) rfl 25 (.tmp 17) (.tmp 53) rfl _ #[.int .i64 v4, .int .i64 v5] rfl rfl 25 _ rfl info_place rfl (spot_one v4 v5) ?_; have HXs := HX; clear HX; have HX := Lib.hid (held_new HXs.out 25 #[.int .i64 v4, .int .i64 v5]); clear HXs)
    | (go_at_call 14; refine (H6.out _).mono ?_; clear H6; rintro e w6 ⟨rfl, hb⟩; have HXs := HX; clear HX; have HX := Lib.hid (held_later hb HXs.out); clear HXs hb)
    | (refine wpList_store_last (w := w6) rfl 25 (.tmp 19) (.tmp 59) rfl _ #[.int .i64 v4, .int .i64 v5] rfl rfl 25 _ rfl info_place rfl (spot_one v4 v5) ?_; have HXs := HX; clear HX; have HX := Lib.hid (held_new HXs.out 25 #[.int .i64 v4, .int .i64 v5]); clear HXs)
    | (go_at_call 15; refine (H7.out _).mono ?_; clear H7; rintro e w7 ⟨rfl, hb⟩; have HXs := HX; clear HX; have HX := Lib.hid (held_later hb HXs.out); clear HXs hb)
    | (go_at_call 16; refine (H8.out _).mono ?_; clear H8; rintro e w8 ⟨rfl, hb⟩; have HXs := HX; clear HX; have HX := Lib.hid (held_later hb HXs.out); clear HXs hb))
  obtain ⟨a0, a1, _⟩ := k_two (held4 HX.out)
  obtain ⟨b0, b1, _⟩ := k_two (held5 HX.out)
  obtain ⟨c0, c1, _⟩ := k_two (held6 HX.out)
  obtain ⟨d0, d1, _⟩ := k_two (held7 HX.out)
  simp only at a0 a1 b0 b1 c0 c1 d0 d1
  go_wp2
  go_ret
  exact ⟨rfl, HX.out.1⟩

end Go.Proofs.Ytdeiohcciafffaa
