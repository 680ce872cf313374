/- TableBegins, its walk: the place is none of the plan's. -/
import Derived.Test.YtdeiohcciafffaaPBegA
namespace Go.Proofs.Ytdeiohcciafffaa
open Go.RowKit Go.Shelf

set_option maxRecDepth 100000 in
set_option maxHeartbeats 20000000 in
theorem begins_no (x : Pl) (r s : Int) (w : World) (hh : hasP x r s = false) : Calls Try.prog 6 #[.agg x.cells, spotV r s] w fun e w' => e = .returned (.bool true) ∧ Below w.heap.size w w' := by
  have HS := Lib.hid x.cellsL
  have HA := Lib.hid (fun W => aliveS_any W)
  have h1 := fun W => Begin_any x W r s
  have hx := held_new (held_new (held_start w) 23 x.cells) 25 #[.int .i64 r, .int .i64 s]
  simp only [World.size_alloc, List.nil_append, List.cons_append] at hx
  have HX := Lib.hid hx
  clear hx
  rw [hh] at h1
  unfold tellP errP at h1
  simp only [Bool.false_eq_true, if_false] at h1
  have H1 := Lib.hid h1
  clear h1 hh
  generalize x.cells = cs at *
  go_enter Try.func6, Try.ntmps6
  go_upto_region 1 with fail
  generalize (w.alloc (.cells cs 23)).alloc (.cells #[.int .i64 r, .int .i64 s] 25) = w0 at *
  go_wp2_with (first
    | (refine wpList_load_row rfl 23 _ rfl w.heap.size rfl 23 cs (0, 0) _ (held1 HX.out) Try.underlying23 rfl HS.out.plan ?_)
    | (refine wpList_load_row rfl 25 (.tmp 3) rfl (w.heap.size + 1) rfl 25 #[.int .i64 r, .int .i64 s] (0, 0) _ (held2 HX.out) Try.underlying25 rfl info_place ?_)
    | (go_at_call 30; refine (HA.out _).mono ?_; clear HA; rintro e wa ⟨rfl, hb⟩; have HXs := HX; clear HX; have HX := Lib.hid (held_later hb HXs.out); clear HXs hb)
    | (go_at_call 9; refine (H1.out _).mono ?_; clear H1; rintro e w1 ⟨rfl, hb⟩; have HXs := HX; clear HX; have HX := Lib.hid (held_later hb HXs.out); clear HXs hb))
  go_ret
  exact ⟨rfl, HX.out.1⟩
end Go.Proofs.Ytdeiohcciafffaa
