/- TableBegins, its walk: a place ahead of the last round. -/
import Derived.Test.YtdeiohcciafffaaPBegA
namespace Go.Proofs.Ytdeiohcciafffaa
open Go.RowKit Go.Shelf

set_option maxRecDepth 100000 in
set_option maxHeartbeats 20000000 in
theorem begins_low (x : Pl) (r s : Int) (w : World) (hh : hasP x r s = true) (hr : r < 2147483647) (h00 : ¬ (r = 0 ∧ s = 0)) : Calls Try.prog 6 #[.agg x.cells, spotV r s] w fun e w' => e = .returned (.bool true) ∧ Below w.heap.size w w' := by
  have HS := Lib.hid x.cellsL
  have HA := Lib.hid (fun W => aliveS_any W)
  have h1 := fun W => Begin_any x W r s
  have hx := held_new (held_new (held_start w) 23 x.cells) 25 #[.int .i64 r, .int .i64 s]
  simp only [World.size_alloc, List.nil_append, List.cons_append] at hx
  have HX := Lib.hid hx
  clear hx
  obtain ⟨B, S⟩ := has_yes hh
  rw [hh] at h1
  unfold tellP errP at h1
  simp only [if_true] at h1
  have b1 : 0 ≤ bgP x r s := S.b1
  have b2 : bgP x r s ≤ 36028797017915392 := S.b2
  have t1 := B.s1
  have t2 := B.s2
  have n1 := B.n1
  have n2 := B.n2
  have s1 := S.s1
  have h2 := fun W => Of_any x W (bgP x r s)
  have h3 := fun W => Of_any x W (bgP x r s - 1)
  have h4 := fun W => Next_any x W r s
  have hf := beg_f hh
  obtain ⟨v3, hv3⟩ : ∃ v, v = tellP (ofB x (bgP x r s - 1)) (spotR x ((bgP x r s - 1) / x.slot)) := ⟨_, rfl⟩
  obtain ⟨v4, hv4⟩ : ∃ v, v = tellP (ofB x (bgP x r s - 1)) (spotS x ((bgP x r s - 1) / x.slot)) := ⟨_, rfl⟩
  obtain ⟨e2, he2⟩ : ∃ v, v = errP (ofB x (bgP x r s - 1)) := ⟨_, rfl⟩
  obtain ⟨v5, hv5⟩ : ∃ v, v = tellP (nxB x r s) (spotR x (ahP x r s + 1)) := ⟨_, rfl⟩
  obtain ⟨v6, hv6⟩ : ∃ v, v = tellP (nxB x r s) (spotS x (ahP x r s + 1)) := ⟨_, rfl⟩
  obtain ⟨e3, he3⟩ : ∃ v, v = errP (nxB x r s) := ⟨_, rfl⟩
  have hg := beg_g hh hv3 hv4 he2
  have hn := beg_h hh hv5 hv6 he3
  unfold spotT at h2 h3 h4
  rw [← hv3, ← hv4, ← he2] at h3
  rw [← hv5, ← hv6, ← he3] at h4
  generalize tellP (ofB x (bgP x r s)) (spotR x (bgP x r s / x.slot)) = v1 at *
  generalize tellP (ofB x (bgP x r s)) (spotS x (bgP x r s / x.slot)) = v2 at *
  generalize errP (ofB x (bgP x r s)) = e1 at *
  obtain ⟨x1, x2, x3⟩ := hf hr
  have x2 := x2.symm
  have x3 := x3.symm
  subst x1 x2 x3
  rcases hn with ⟨_, xm, _⟩ | ⟨x1, hb1, hb2⟩
  · exact absurd xm (by omega)
  have HB1 := Lib.hid hb1
  have HB2 := Lib.hid hb2
  rcases hg with ⟨_, x0⟩ | ⟨x2, _, hn1, hn2⟩
  · exact absurd (x0 hr) h00
  have HN1 := Lib.hid hn1
  have HN2 := Lib.hid hn2
  subst x1 x2
  have hz : (r == 0 && s == 0) = false := by
    rw [Bool.and_eq_false_iff, beq_eq_false_iff_ne, beq_eq_false_iff_ne]
    omega
  clear hf hv3 hv4 he2 hv5 hv6 he3 hh B S hb1 hb2 hn1 hn2 h00
  have H1 := Lib.hid h1
  have H2 := Lib.hid h2
  have H3 := Lib.hid h3
  have H4 := Lib.hid h4
  clear h1 h2 h3 h4
  generalize bgP x r s = q at *
  go_enter Try.func6, Try.ntmps6
  go_upto_region 1 with fail
  generalize (w.alloc (.cells x.cells 23)).alloc (.cells #[.int .i64 r, .int .i64 s] 25) = w0 at *
  go_upto_region 8 with (first
    | (refine wpList_load_row rfl 23 _ rfl w.heap.size rfl 23 x.cells (0, 0) _ (held1 HX.out) Try.underlying23 rfl HS.out.plan ?_)
    | (refine wpList_load_row rfl 25 (.tmp 3) rfl (w.heap.size + 1) rfl 25 #[.int .i64 r, .int .i64 s] (0, 0) _ (held2 HX.out) Try.underlying25 rfl info_place ?_)
    | (go_at_call 30; refine (HA.out _).mono ?_; clear HA; rintro e wa ⟨rfl, hb⟩; have HXs := HX; clear HX; have HX := Lib.hid (held_later hb HXs.out); clear HXs hb)
    | (go_at_call 9; refine (H1.out _).mono ?_; clear H1; rintro e w1 ⟨rfl, hb⟩; have HXs := HX; clear HX; have HX := Lib.hid (held_later hb HXs.out); clear HXs hb)
    | (go_at_call 11; refine (H2.out _).mono ?_; clear H2; rintro e w2 ⟨rfl, hb⟩; have HXs := HX; clear HX; have HX := Lib.hid (held_later hb HXs.out); clear HXs hb)
    | (refine wpList_store_last (w := w2) rfl 25 (.tmp 8) (.tmp 41) rfl _ #[.int .i64 r, .int .i64 s] rfl rfl 25 _ rfl info_place rfl (spot_one r s) ?_; have HXs := HX; clear HX; have HX := Lib.hid (held_new HXs.out 25 #[.int .i64 r, .int .i64 s]); clear HXs)
    | (go_at_call 11; refine (H3.out _).mono ?_; clear H3; rintro e w3 ⟨rfl, hb⟩; have HXs := HX; clear HX; have HX := Lib.hid (held_later hb HXs.out); clear HXs hb)
    | (refine wpList_store_last (w := w3) rfl 25 (.tmp 10) (.tmp 48) rfl _ #[.int .i64 v3, .int .i64 v4] rfl rfl 25 _ rfl info_place rfl (spot_one v3 v4) ?_; have HXs := HX; clear HX; have HX := Lib.hid (held_new HXs.out 25 #[.int .i64 v3, .int .i64 v4]); clear HXs)
    | (go_at_call 13; refine (H4.out _).mono ?_; clear H4; rintro e w4 ⟨rfl, hb⟩; have HXs := HX; clear HX; have HX := Lib.hid (held_later hb HXs.out); clear HXs hb)
    | (refine wpList_store_last (w := w4) rfl 25 (.tmp 12) (.tmp 54) rfl _ #[.int .i64 v5, .int .i64 v6] rfl rfl 25 _ rfl info_place rfl (spot_one v5 v6) ?_; have HXs := HX; clear HX; have HX := Lib.hid (held_new HXs.out 25 #[.int .i64 v5, .int .i64 v6]); clear HXs))
  generalize w4.alloc (.cells #[.int .i64 v5, .int .i64 v6] 25) = w5 at *
  have hq0 := eql_spot r s 0 0
  go_upto_region 9 with (refine wpList_load_row rfl 25 (.tmp 3) rfl (w.heap.size + 1) rfl 25 #[.int .i64 r, .int .i64 s] (0, 0) _ (held2 HX.out) Try.underlying25 rfl info_place ?_)
  clear hq0
  first | rw [hz] | skip
  clear hz
  obtain ⟨a0, a1, _⟩ := k_two (held2 HX.out)
  simp only at a0 a1
  go_upto_region 11 with (first
    | (refine wpList_load_want rfl 25 (.tmp 3) rfl (w.heap.size + 1) rfl 25 #[.int .i64 r, .int .i64 s] (0, 0) _ (held2 HX.out) Try.underlying25 rfl info_place ?_)
    | (refine wpList_load_want rfl 25 (.tmp 8) rfl w2.heap.size rfl 25 #[.int .i64 r, .int .i64 s] (0, 0) _ (held3 HX.out) Try.underlying25 rfl info_place ?_))
  go_upto_region 14 with (first
    | (refine wpList_load_row rfl 23 _ rfl w.heap.size rfl 23 x.cells (0, 0) _ (held1 HX.out) Try.underlying23 rfl HS.out.plan ?_)
    | (refine wpList_load_row rfl 25 (.tmp 10) rfl w3.heap.size rfl 25 #[.int .i64 v3, .int .i64 v4] (0, 0) _ (held4 HX.out) Try.underlying25 rfl info_place ?_)
    | (refine wpList_load_row rfl 25 (.tmp 3) rfl (w.heap.size + 1) rfl 25 #[.int .i64 r, .int .i64 s] (0, 0) _ (held2 HX.out) Try.underlying25 rfl info_place ?_)
    | (go_at_call 13; refine (HN1.out _).mono ?_; clear HN1; rintro e w6 ⟨rfl, hb⟩; have HXs := HX; clear HX; have HX := Lib.hid (held_later hb HXs.out); clear HXs hb)
    | (refine wpList_store_last (w := w6) rfl 25 (.tmp 15) (.tmp 88) rfl _ #[.int .i64 r, .int .i64 s] rfl rfl 25 _ rfl info_place rfl (spot_one r s) ?_; have HXs := HX; clear HX; have HX := Lib.hid (held_new HXs.out 25 #[.int .i64 r, .int .i64 s]); clear HXs)
    | (go_at_call 15; refine (HN2.out _).mono ?_; clear HN2; rintro e w7 ⟨rfl, hb⟩; have HXs := HX; clear HX; have HX := Lib.hid (held_later hb HXs.out); clear HXs hb))
  clear a0 a1
  go_upto_region 16 with (first
    | (refine wpList_load_want rfl 25 (.tmp 15) rfl w6.heap.size rfl 25 #[.int .i64 r, .int .i64 s] (0, 0) _ (held6 HX.out) Try.underlying25 rfl info_place ?_)
    | (refine wpList_load_want rfl 25 (.tmp 3) rfl (w.heap.size + 1) rfl 25 #[.int .i64 r, .int .i64 s] (0, 0) _ (held2 HX.out) Try.underlying25 rfl info_place ?_))
  obtain ⟨a0, a1, _⟩ := k_two (held2 HX.out)
  simp only at a0 a1
  clear a0 a1
  go_upto_region 20 with (first
    | (refine wpList_load_row rfl 23 _ rfl w.heap.size rfl 23 x.cells (0, 0) _ (held1 HX.out) Try.underlying23 rfl HS.out.plan ?_)
    | (refine wpList_load_row rfl 25 (.tmp 12) rfl w4.heap.size rfl 25 #[.int .i64 v5, .int .i64 v6] (0, 0) _ (held5 HX.out) Try.underlying25 rfl info_place ?_)
    | (refine wpList_load_row rfl 25 (.tmp 3) rfl (w.heap.size + 1) rfl 25 #[.int .i64 r, .int .i64 s] (0, 0) _ (held2 HX.out) Try.underlying25 rfl info_place ?_)
    | (go_at_call 9; refine (HB1.out _).mono ?_; clear HB1; rintro e w8 ⟨rfl, hb⟩; have HXs := HX; clear HX; have HX := Lib.hid (held_later hb HXs.out); clear HXs hb)
    | (go_at_call 15; refine (HB2.out _).mono ?_; clear HB2; rintro e w9 ⟨rfl, hb⟩; have HXs := HX; clear HX; have HX := Lib.hid (held_later hb HXs.out); clear HXs hb))
  obtain ⟨⟨_, _, c2, _⟩, _⟩ := l_cells (held1 HX.out)
  simp only at c2
  go_wp2
  go_ret
  exact ⟨rfl, HX.out.1⟩
end Go.Proofs.Ytdeiohcciafffaa
