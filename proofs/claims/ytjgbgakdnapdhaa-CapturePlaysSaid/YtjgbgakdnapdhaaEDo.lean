/- A play's call, kind by kind. No condition. -/
import Derived.Test.YtjgbgakdnapdhaaEPlayW
import Derived.Test.YtjgbgakdnapdhaaEOpen
import Derived.WalkLawsBesides
import Derived.Deep.DrawnRows
namespace Go.Proofs.Ytjgbgakdnapdhaa
open Go.RowKit Go.Shelf

set_option maxRecDepth 1000000 in
set_option maxHeartbeats 4000000 in
theorem do_note (w W : World) (pp a rr : Nat) (v : Value) (D : List Oe) (n c x : Int) (h : PlayE w pp a rr D v D W) (hg : GoodD D) (hl : D.length ≤ 999) :
    Calls Try.prog 9 #[.pointer (some ⟨pp, 0, none⟩), .agg #[.int .i64 0, .int .i64 n, .int .i64 c, .int .i64 x]] W (Did w pp D) := by
  obtain ⟨W0, hW0⟩ : ∃ W0, W0 = W.alloc (.cells #[.int .i64 0, .int .i64 n, .int .i64 c, .int .i64 x] 40) := ⟨_, rfl⟩
  have hb0 : Below W.heap.size W W0 := by rw [hW0]; exact (Below.refl _ _).alloc (Nat.le_refl _) _
  have hx0 : Whole W0 W.heap.size 40 #[.int .i64 0, .int .i64 n, .int .i64 c, .int .i64 x] := by rw [hW0]; exact Whole.new _ _ _
  have h0 := h.later hb0
  obtain ⟨bx, hbx⟩ : ∃ bx, bx = W.heap.size := ⟨_, rfl⟩
  rw [← hbx] at hx0
  have HW0 := Lib.hid (And.intro hW0 hbx)
  have HG := Lib.hid hg
  have H0 := Lib.hid h0
  have HX0 := Lib.hid hx0
  have y0 := hx0.cell 0
  have y1 := hx0.cell 1
  have y2 := hx0.cell 2
  have y3 := hx0.cell 3
  have p0 := h0.play.cell 0
  have p1 := h0.play.cell 1
  simp at y0 y1 y2 y3 p0 p1
  clear h hg hW0 hbx hb0 h0 hx0
  have K0 := Lib.hid (show (fun V : World => V.cell? ⟨pp, 0, none⟩ = some (.pointer (some ⟨a, 0, none⟩)) ∧ V.cell? ⟨pp, 1, none⟩ = some (.pointer (some ⟨rr, 0, none⟩)) ∧ V.cell? ⟨bx, 1, none⟩ = some (.int .i64 n) ∧ V.cell? ⟨bx, 2, none⟩ = some (.int .i64 c) ∧ V.cell? ⟨bx, 3, none⟩ = some (.int .i64 x)) W0.drew from ⟨p0, p1, y1, y2, y3⟩)
  have HPC := Lib.hid (fun V C v' D' (h : PlayE w pp a rr C v' D' V) (hx : Whole V bx 40 #[.int .i64 0, .int .i64 n, .int .i64 c, .int .i64 x]) => (show (fun V : World => V.cell? ⟨pp, 0, none⟩ = some (.pointer (some ⟨a, 0, none⟩)) ∧ V.cell? ⟨pp, 1, none⟩ = some (.pointer (some ⟨rr, 0, none⟩)) ∧ V.cell? ⟨bx, 1, none⟩ = some (.int .i64 n) ∧ V.cell? ⟨bx, 2, none⟩ = some (.int .i64 c) ∧ V.cell? ⟨bx, 3, none⟩ = some (.int .i64 x)) V from ⟨h.play.cell 0, h.play.cell 1, hx.cell 1, hx.cell 2, hx.cell 3⟩))
  have h0d := H0.out.later (Below.refl _ W0).drew
  have hx0d : Whole W0.drew bx 40 #[.int .i64 0, .int .i64 n, .int .i64 c, .int .i64 x] := HX0.out
  have H0D := Lib.hid h0d
  have HX0D := Lib.hid hx0d
  clear h0d hx0d
  go_enter Try.func9, Try.ntmps9
  go_upto_region 1 with fail
  rw [← HW0.out.1, ← HW0.out.2]
  go_upto_region 3 with fail
  go_region_held3 (fun V : World => V.cell? ⟨pp, 0, none⟩ = some (.pointer (some ⟨a, 0, none⟩)) ∧ V.cell? ⟨pp, 1, none⟩ = some (.pointer (some ⟨rr, 0, none⟩)) ∧ V.cell? ⟨bx, 1, none⟩ = some (.int .i64 n) ∧ V.cell? ⟨bx, 2, none⟩ = some (.int .i64 c) ∧ V.cell? ⟨bx, 3, none⟩ = some (.int .i64 x)) (first | with_reducible exact K6.out | with_reducible exact K5.out | with_reducible exact K0.out | exact K0.out) (first
    | (go_at_call 19; refine (p_note H0D.out HG.out n c x).mono ?_; rintro e w5 ⟨rfl, k5⟩; have H5 := Lib.hid (H0D.out.toCap k5); have HX5 := Lib.hid (box_cap H0D.out HX0D.out k5); have K5 := Lib.hid (HPC.out w5 _ _ _ H5.out HX5.out); clear k5)
    | (go_at_call 24; refine (refNote_any H5.out.ref (by omega) (by have := H5.out.cap.below.size; omega) n c x).mono ?_; rintro e w6 ⟨rfl, k6⟩; obtain ⟨v6, h6⟩ := H5.out.toRef k6; have K6 := Lib.hid (HPC.out w6 _ _ _ h6 (box_ref H5.out HX5.out k6)); have H6 := Lib.hid h6; clear k6 h6))
  clear K0 HPC H0 H0D HX0 HX0D HW0 y0 y1 y2 y3 p0 p1
  go_wp2
  go_ret
  exact ⟨by simp, a, rr, v6, _, H6.out, (noteD_good HG.out n c x).1, noteD_len D n c x⟩

set_option maxRecDepth 1000000 in
set_option maxHeartbeats 4000000 in
theorem do_forget (w W : World) (pp a rr : Nat) (v : Value) (D : List Oe) (n c x : Int) (h : PlayE w pp a rr D v D W) (hg : GoodD D) (hl : D.length ≤ 999) :
    Calls Try.prog 9 #[.pointer (some ⟨pp, 0, none⟩), .agg #[.int .i64 1, .int .i64 n, .int .i64 c, .int .i64 x]] W (Did w pp D) := by
  obtain ⟨W0, hW0⟩ : ∃ W0, W0 = W.alloc (.cells #[.int .i64 1, .int .i64 n, .int .i64 c, .int .i64 x] 40) := ⟨_, rfl⟩
  have hb0 : Below W.heap.size W W0 := by rw [hW0]; exact (Below.refl _ _).alloc (Nat.le_refl _) _
  have hx0 : Whole W0 W.heap.size 40 #[.int .i64 1, .int .i64 n, .int .i64 c, .int .i64 x] := by rw [hW0]; exact Whole.new _ _ _
  have h0 := h.later hb0
  obtain ⟨bx, hbx⟩ : ∃ bx, bx = W.heap.size := ⟨_, rfl⟩
  rw [← hbx] at hx0
  have HW0 := Lib.hid (And.intro hW0 hbx)
  have HG := Lib.hid hg
  have H0 := Lib.hid h0
  have HX0 := Lib.hid hx0
  have y0 := hx0.cell 0
  have y1 := hx0.cell 1
  have y2 := hx0.cell 2
  have y3 := hx0.cell 3
  have p0 := h0.play.cell 0
  have p1 := h0.play.cell 1
  simp at y0 y1 y2 y3 p0 p1
  clear h hg hW0 hbx hb0 h0 hx0
  have K0 := Lib.hid (show (fun V : World => V.cell? ⟨pp, 0, none⟩ = some (.pointer (some ⟨a, 0, none⟩)) ∧ V.cell? ⟨pp, 1, none⟩ = some (.pointer (some ⟨rr, 0, none⟩)) ∧ V.cell? ⟨bx, 1, none⟩ = some (.int .i64 n) ∧ V.cell? ⟨bx, 2, none⟩ = some (.int .i64 c) ∧ V.cell? ⟨bx, 3, none⟩ = some (.int .i64 x)) W0.drew from ⟨p0, p1, y1, y2, y3⟩)
  have HPC := Lib.hid (fun V C v' D' (h : PlayE w pp a rr C v' D' V) (hx : Whole V bx 40 #[.int .i64 1, .int .i64 n, .int .i64 c, .int .i64 x]) => (show (fun V : World => V.cell? ⟨pp, 0, none⟩ = some (.pointer (some ⟨a, 0, none⟩)) ∧ V.cell? ⟨pp, 1, none⟩ = some (.pointer (some ⟨rr, 0, none⟩)) ∧ V.cell? ⟨bx, 1, none⟩ = some (.int .i64 n) ∧ V.cell? ⟨bx, 2, none⟩ = some (.int .i64 c) ∧ V.cell? ⟨bx, 3, none⟩ = some (.int .i64 x)) V from ⟨h.play.cell 0, h.play.cell 1, hx.cell 1, hx.cell 2, hx.cell 3⟩))
  have h0d := H0.out.later (Below.refl _ W0).drew
  have hx0d : Whole W0.drew bx 40 #[.int .i64 1, .int .i64 n, .int .i64 c, .int .i64 x] := HX0.out
  have H0D := Lib.hid h0d
  have HX0D := Lib.hid hx0d
  clear h0d hx0d
  go_enter Try.func9, Try.ntmps9
  go_upto_region 1 with fail
  rw [← HW0.out.1, ← HW0.out.2]
  go_upto_region 5 with fail
  go_region_held3 (fun V : World => V.cell? ⟨pp, 0, none⟩ = some (.pointer (some ⟨a, 0, none⟩)) ∧ V.cell? ⟨pp, 1, none⟩ = some (.pointer (some ⟨rr, 0, none⟩)) ∧ V.cell? ⟨bx, 1, none⟩ = some (.int .i64 n) ∧ V.cell? ⟨bx, 2, none⟩ = some (.int .i64 c) ∧ V.cell? ⟨bx, 3, none⟩ = some (.int .i64 x)) (first | with_reducible exact K6.out | with_reducible exact K5.out | with_reducible exact K0.out | exact K0.out) (first
    | (go_at_call 21; refine (p_forget H0D.out HG.out n).mono ?_; rintro e w5 ⟨rfl, k5⟩; have H5 := Lib.hid (H0D.out.toCap k5); have HX5 := Lib.hid (box_cap H0D.out HX0D.out k5); have K5 := Lib.hid (HPC.out w5 _ _ _ H5.out HX5.out); clear k5)
    | (go_at_call 25; refine (refForget_any H5.out.ref HG.out (by omega) (by have := H5.out.cap.below.size; omega) n).mono ?_; rintro e w6 ⟨rfl, k6⟩; obtain ⟨v6, h6⟩ := H5.out.toRef k6; have K6 := Lib.hid (HPC.out w6 _ _ _ h6 (box_ref H5.out HX5.out k6)); have H6 := Lib.hid h6; clear k6 h6))
  clear K0 HPC H0 H0D HX0 HX0D HW0 y0 y1 y2 y3 p0 p1
  go_wp2
  go_ret
  exact ⟨by simp, a, rr, v6, _, H6.out, dropD_good HG.out n, by have := dropD_len D n; omega⟩

set_option maxRecDepth 1000000 in
set_option maxHeartbeats 4000000 in
theorem do_clear (w W : World) (pp a rr : Nat) (v : Value) (D : List Oe) (n c x : Int) (h : PlayE w pp a rr D v D W) (hg : GoodD D) (hl : D.length ≤ 999) :
    Calls Try.prog 9 #[.pointer (some ⟨pp, 0, none⟩), .agg #[.int .i64 2, .int .i64 n, .int .i64 c, .int .i64 x]] W (Did w pp D) := by
  obtain ⟨W0, hW0⟩ : ∃ W0, W0 = W.alloc (.cells #[.int .i64 2, .int .i64 n, .int .i64 c, .int .i64 x] 40) := ⟨_, rfl⟩
  have hb0 : Below W.heap.size W W0 := by rw [hW0]; exact (Below.refl _ _).alloc (Nat.le_refl _) _
  have hx0 : Whole W0 W.heap.size 40 #[.int .i64 2, .int .i64 n, .int .i64 c, .int .i64 x] := by rw [hW0]; exact Whole.new _ _ _
  have h0 := h.later hb0
  obtain ⟨bx, hbx⟩ : ∃ bx, bx = W.heap.size := ⟨_, rfl⟩
  rw [← hbx] at hx0
  have HW0 := Lib.hid (And.intro hW0 hbx)
  have HG := Lib.hid hg
  have H0 := Lib.hid h0
  have HX0 := Lib.hid hx0
  have y0 := hx0.cell 0
  have y1 := hx0.cell 1
  have y2 := hx0.cell 2
  have y3 := hx0.cell 3
  have p0 := h0.play.cell 0
  have p1 := h0.play.cell 1
  simp at y0 y1 y2 y3 p0 p1
  clear h hg hW0 hbx hb0 h0 hx0
  have K0 := Lib.hid (show (fun V : World => V.cell? ⟨pp, 0, none⟩ = some (.pointer (some ⟨a, 0, none⟩)) ∧ V.cell? ⟨pp, 1, none⟩ = some (.pointer (some ⟨rr, 0, none⟩)) ∧ V.cell? ⟨bx, 1, none⟩ = some (.int .i64 n) ∧ V.cell? ⟨bx, 2, none⟩ = some (.int .i64 c) ∧ V.cell? ⟨bx, 3, none⟩ = some (.int .i64 x)) W0.drew from ⟨p0, p1, y1, y2, y3⟩)
  have HPC := Lib.hid (fun V C v' D' (h : PlayE w pp a rr C v' D' V) (hx : Whole V bx 40 #[.int .i64 2, .int .i64 n, .int .i64 c, .int .i64 x]) => (show (fun V : World => V.cell? ⟨pp, 0, none⟩ = some (.pointer (some ⟨a, 0, none⟩)) ∧ V.cell? ⟨pp, 1, none⟩ = some (.pointer (some ⟨rr, 0, none⟩)) ∧ V.cell? ⟨bx, 1, none⟩ = some (.int .i64 n) ∧ V.cell? ⟨bx, 2, none⟩ = some (.int .i64 c) ∧ V.cell? ⟨bx, 3, none⟩ = some (.int .i64 x)) V from ⟨h.play.cell 0, h.play.cell 1, hx.cell 1, hx.cell 2, hx.cell 3⟩))
  have h0d := H0.out.later (Below.refl _ W0).drew
  have hx0d : Whole W0.drew bx 40 #[.int .i64 2, .int .i64 n, .int .i64 c, .int .i64 x] := HX0.out
  have H0D := Lib.hid h0d
  have HX0D := Lib.hid hx0d
  clear h0d hx0d
  go_enter Try.func9, Try.ntmps9
  go_upto_region 1 with fail
  rw [← HW0.out.1, ← HW0.out.2]
  go_upto_region 7 with fail
  go_region_held3 (fun V : World => V.cell? ⟨pp, 0, none⟩ = some (.pointer (some ⟨a, 0, none⟩)) ∧ V.cell? ⟨pp, 1, none⟩ = some (.pointer (some ⟨rr, 0, none⟩)) ∧ V.cell? ⟨bx, 1, none⟩ = some (.int .i64 n) ∧ V.cell? ⟨bx, 2, none⟩ = some (.int .i64 c) ∧ V.cell? ⟨bx, 3, none⟩ = some (.int .i64 x)) (first | with_reducible exact K6.out | with_reducible exact K5.out | with_reducible exact K0.out | exact K0.out) (first
    | (go_at_call 22; refine (p_clear H0D.out).mono ?_; rintro e w5 ⟨rfl, k5⟩; have H5 := Lib.hid (H0D.out.toCap k5); have HX5 := Lib.hid (box_cap H0D.out HX0D.out k5); have K5 := Lib.hid (HPC.out w5 _ _ _ H5.out HX5.out); clear k5)
    | (go_at_call 26; refine (refClear_any H5.out.ref HG.out (by omega) (by have := H5.out.cap.below.size; omega)).mono ?_; rintro e w6 ⟨rfl, k6⟩; obtain ⟨v6, h6⟩ := H5.out.toRef k6; have K6 := Lib.hid (HPC.out w6 _ _ _ h6 (box_ref H5.out HX5.out k6)); have H6 := Lib.hid h6; clear k6 h6))
  clear K0 HPC H0 H0D HX0 HX0D HW0 y0 y1 y2 y3 p0 p1
  go_wp2
  go_ret
  exact ⟨by simp, a, rr, v6, _, H6.out, good_nil, Nat.zero_le _⟩

set_option maxRecDepth 1000000 in
set_option maxHeartbeats 4000000 in
theorem do_copy (w W : World) (pp a rr : Nat) (v : Value) (D : List Oe) (n c x : Int) (h : PlayE w pp a rr D v D W) (hg : GoodD D) (hl : D.length ≤ 999) :
    Calls Try.prog 9 #[.pointer (some ⟨pp, 0, none⟩), .agg #[.int .i64 3, .int .i64 n, .int .i64 c, .int .i64 x]] W (Did w pp D) := by
  obtain ⟨W0, hW0⟩ : ∃ W0, W0 = W.alloc (.cells #[.int .i64 3, .int .i64 n, .int .i64 c, .int .i64 x] 40) := ⟨_, rfl⟩
  have hb0 : Below W.heap.size W W0 := by rw [hW0]; exact (Below.refl _ _).alloc (Nat.le_refl _) _
  have hx0 : Whole W0 W.heap.size 40 #[.int .i64 3, .int .i64 n, .int .i64 c, .int .i64 x] := by rw [hW0]; exact Whole.new _ _ _
  have h0 := h.later hb0
  obtain ⟨bx, hbx⟩ : ∃ bx, bx = W.heap.size := ⟨_, rfl⟩
  rw [← hbx] at hx0
  have HW0 := Lib.hid (And.intro hW0 hbx)
  have HG := Lib.hid hg
  have H0 := Lib.hid h0
  have HX0 := Lib.hid hx0
  have y0 := hx0.cell 0
  have y1 := hx0.cell 1
  have y2 := hx0.cell 2
  have y3 := hx0.cell 3
  have p0 := h0.play.cell 0
  have p1 := h0.play.cell 1
  simp at y0 y1 y2 y3 p0 p1
  clear h hg hW0 hbx hb0 h0 hx0
  go_enter Try.func9, Try.ntmps9
  go_upto_region 1 with fail
  rw [← HW0.out.1, ← HW0.out.2]
  go_upto_region 10 with fail
  have pf := fun i => H0.out.play.frozen i
  have HCP := Lib.hid (law_copy H0.out.cap)
  clear y0 y1 y2 y3 HW0 HX0
  go_upto_region 11 with (go_at_call 20; refine HCP.out.mono ?_; (rintro e w5 ⟨rfl, h5, h6, hb5⟩; have H5 := Lib.hid ((H0.out.later hb5).store0 h6); have HB5 := Lib.hid (H0.out.later hb5); have HNE := Lib.hid (show W0.heap.size ≠ a from by have := H0.out.cap.cap.lt; omega); have p0 := HB5.out.play.cell 0; have pf := HB5.out.play.frozen 0; simp at p0; clear h5 h6 hb5))
  generalize W0.heap.size = b0 at *
  generalize (w5.setCell _ _ : World) = w6 at *
  have p0 := H5.out.1.play.cell 0
  have p1 := H5.out.1.play.cell 1
  have pf := H5.out.1.play.frozen 1
  simp at p0 p1
  have HRC := Lib.hid (refCopy_any H5.out.1.ref (by omega) H5.out.1.cap.below.size)
  clear HCP HB5 H0
  go_upto_region 12 with (go_at_call 27; refine HRC.out.mono ?_; (rintro e w7 ⟨rfl, ⟨v7, h7⟩, hb7⟩; have H7 := Lib.hid ((H5.out.1.later hb7).store1 h7 (by have := H5.out.1.cap.below.size; omega) (H5.out.2.later hb7)); have p1 := (H5.out.1.later hb7).play.cell 1; have pf := (H5.out.1.later hb7).play.frozen 1; simp at p1; clear h7 hb7))
  generalize w6.heap.size = r2 at *
  generalize (w7.setCell _ _ : World) = w8 at *
  clear HRC H5 p0 p1 pf
  have HCL := Lib.hid (clear_any H7.out.2.cap)
  go_wp2_with (go_at_call 22; refine HCL.out.mono ?_; (rintro e w9 ⟨rfl, k9⟩; have H9 := Lib.hid (H7.out.1.cleared H7.out.2 HNE.out k9); clear k9))
  go_ret
  exact ⟨rfl, b0, r2, v7, D, H9.out, HG.out, Nat.le_succ _⟩

set_option maxRecDepth 1000000 in
set_option maxHeartbeats 4000000 in
theorem do_none (w W : World) (pp a rr : Nat) (v : Value) (D : List Oe) (k n c x : Int) (h : PlayE w pp a rr D v D W) (hg : GoodD D) (h0' : k ≠ 0) (h1 : k ≠ 1) (h2 : k ≠ 2) (h3 : k ≠ 3) :
    Calls Try.prog 9 #[.pointer (some ⟨pp, 0, none⟩), .agg #[.int .i64 k, .int .i64 n, .int .i64 c, .int .i64 x]] W (Did w pp D) := by
  obtain ⟨W0, hW0⟩ : ∃ W0, W0 = W.alloc (.cells #[.int .i64 k, .int .i64 n, .int .i64 c, .int .i64 x] 40) := ⟨_, rfl⟩
  have hb0 : Below W.heap.size W W0 := by rw [hW0]; exact (Below.refl _ _).alloc (Nat.le_refl _) _
  have hx0 : Whole W0 W.heap.size 40 #[.int .i64 k, .int .i64 n, .int .i64 c, .int .i64 x] := by rw [hW0]; exact Whole.new _ _ _
  have h0 := h.later hb0
  obtain ⟨bx, hbx⟩ : ∃ bx, bx = W.heap.size := ⟨_, rfl⟩
  rw [← hbx] at hx0
  have HW0 := Lib.hid (And.intro hW0 hbx)
  have HG := Lib.hid hg
  have H0 := Lib.hid h0
  have HX0 := Lib.hid hx0
  have y0 := hx0.cell 0
  have y1 := hx0.cell 1
  have y2 := hx0.cell 2
  have y3 := hx0.cell 3
  have p0 := h0.play.cell 0
  have p1 := h0.play.cell 1
  simp at y0 y1 y2 y3 p0 p1
  clear h hg hW0 hbx hb0 h0 hx0
  have k0 : (k == 0) = false := beq_eq_false_iff_ne.2 h0'
  have k1 : (k == 1) = false := beq_eq_false_iff_ne.2 h1
  have k2 : (k == 2) = false := beq_eq_false_iff_ne.2 h2
  have k3 : (k == 3) = false := beq_eq_false_iff_ne.2 h3
  clear h0' h1 h2 h3
  go_enter Try.func9, Try.ntmps9
  go_upto_region 1 with fail
  rw [← HW0.out.1, ← HW0.out.2]
  go_wp2
  go_ret
  exact ⟨rfl, a, rr, v, D, H0.out, HG.out, Nat.le_succ _⟩
theorem do_any (w W : World) (pp a rr : Nat) (v : Value) (D : List Oe) (o : Oe) (h : PlayE w pp a rr D v D W) (hg : GoodD D) (hl : D.length ≤ 999) :
    Calls Try.prog 9 #[.pointer (some ⟨pp, 0, none⟩), .agg #[.int .i64 o.k, .int .i64 o.n, .int .i64 o.c, .int .i64 o.v]] W (Did w pp D) := by
  obtain ⟨k, n, c, x⟩ := o
  dsimp only
  by_cases h0 : k = 0
  · subst h0; exact do_note w W pp a rr v D n c x h hg hl
  by_cases h1 : k = 1
  · subst h1; exact do_forget w W pp a rr v D n c x h hg hl
  by_cases h2 : k = 2
  · subst h2; exact do_clear w W pp a rr v D n c x h hg hl
  by_cases h3 : k = 3
  · subst h3; exact do_copy w W pp a rr v D n c x h hg hl
  exact do_none w W pp a rr v D k n c x h hg h0 h1 h2 h3
end Go.Proofs.Ytjgbgakdnapdhaa
