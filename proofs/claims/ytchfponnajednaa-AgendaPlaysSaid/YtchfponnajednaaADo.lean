/- A play's call, kind by kind. No condition. -/
import Derived.Test.YtchfponnajednaaADoM
import Derived.WalkLawsBesides
import Derived.Deep.DrawnRows
namespace Go.Proofs.Ytchfponnajednaa
open Go.RowKit Go.Shelf
attribute [local go_sem ↓] Go.wp_at_zero Go.wp_at_succ

/-- What a play's call leaves. -/
def Did (F : Nat → Prop) (w1 : World) (pp nx : Nat) (L : List En) (e : Ending) (W' : World) : Prop :=
  e = .returned (.bool true) ∧ ∃ a rr A c ny M, PlayS (St1 a ny M) F w1 pp a rr A c (M.map En.e) W' ∧ ny ≤ nx + 1 ∧ M.length ≤ L.length + 1
theorem do_cells {St : (Nat → Prop) → World → Prop} {F : Nat → Prop} {w1 V : World} {pp a rr c bx : Nat} {A : Option Addr} {es : List Ev} {o : Int} {x : Ev} (h : PlayS St (fun k => F k ∨ k = bx) w1 pp a rr A c es V) (hw : Whole w1 bx 38 #[.int .i64 o, .int .i64 x.t, .int .i64 x.k, .int .i64 x.n, .int .i64 x.m, .int .i64 x.v]) :
    V.cell? ⟨pp, 0, none⟩ = some (.pointer (some ⟨a, 0, none⟩)) ∧ V.cell? ⟨pp, 1, none⟩ = some (.pointer (some ⟨rr, 0, none⟩)) ∧ V.cell? ⟨bx, 1, none⟩ = some (.int .i64 x.t) ∧ V.cell? ⟨bx, 2, none⟩ = some (.int .i64 x.k) ∧ V.cell? ⟨bx, 3, none⟩ = some (.int .i64 x.n) ∧
    V.cell? ⟨bx, 4, none⟩ = some (.int .i64 x.m) ∧ V.cell? ⟨bx, 5, none⟩ = some (.int .i64 x.v) := by
  have h2 := h.whole (.inr rfl) hw
  exact ⟨h.play.cell 0, h.play.cell 1, h2.cell 1, h2.cell 2, h2.cell 3, h2.cell 4, h2.cell 5⟩

set_option maxRecDepth 1000000 in
set_option maxHeartbeats 4000000 in
theorem do_put (F : Nat → Prop) (w1 W : World) (pp a rr nx : Nat) (A : Option Addr) (c : Nat) (L : List En) (x : Ev) (h : PlayS (St1 a nx L) F w1 pp a rr A c (L.map En.e) W) (hl : L.length ≤ 1000) (hnx : nx < 1000000) :
    Calls Try.prog 10 #[.pointer (some ⟨pp, 0, none⟩), .agg #[.int .i64 0, .int .i64 x.t, .int .i64 x.k, .int .i64 x.n, .int .i64 x.m, .int .i64 x.v]] W (Did F w1 pp nx L) := by
  have hp0 := h.box (isSt1 _ _ _) (.cells #[.int .i64 0, .int .i64 x.t, .int .i64 x.k, .int .i64 x.n, .int .i64 x.m, .int .i64 x.v] 38)
  have hw0 := Whole.new W 38 #[.int .i64 0, .int .i64 x.t, .int .i64 x.k, .int .i64 x.n, .int .i64 x.m, .int .i64 x.v]
  have HH := Lib.hid h
  have HP0 := Lib.hid hp0
  have HW0 := Lib.hid hw0
  have HSO := Lib.hid h.sorted
  clear h hp0 hw0
  go_enter Try.func10, Try.ntmps10
  go_wp2_with fail
  have hpd := HP0.out.drew (isSt1 _ _ _)
  obtain ⟨bx, hbx⟩ : ∃ bx, bx = W.heap.size := ⟨_, rfl⟩
  obtain ⟨W0, hW0⟩ : ∃ W0, W0 = W.alloc (.cells #[.int .i64 0, .int .i64 x.t, .int .i64 x.k, .int .i64 x.n, .int .i64 x.m, .int .i64 x.v] 38) := ⟨_, rfl⟩
  have HFIN := Lib.hid (fun (a' rr' ny : Nat) (A' : Option Addr) (c' : Nat) (M : List En) (V : World) (h2 : PlayS (St1 a' ny M) (fun k => F k ∨ k = W.heap.size) (W.alloc (.cells #[.int .i64 0, .int .i64 x.t, .int .i64 x.k, .int .i64 x.n, .int .i64 x.m, .int .i64 x.v] 38)) pp a' rr' A' c' (M.map En.e) V) => HH.out.back (isSt1 _ _ _) h2)
  rw [← hW0, ← hbx] at HP0 HW0 HFIN hpd
  rw [← hW0, ← hbx]
  clear hW0 hbx
  go_region_held3 (fun w' => w'.cell? ⟨pp, 0, none⟩ = some (.pointer (some ⟨a, 0, none⟩)) ∧ w'.cell? ⟨pp, 1, none⟩ = some (.pointer (some ⟨rr, 0, none⟩)) ∧ w'.cell? ⟨bx, 1, none⟩ = some (.int .i64 x.t) ∧ w'.cell? ⟨bx, 2, none⟩ = some (.int .i64 x.k) ∧ w'.cell? ⟨bx, 3, none⟩ = some (.int .i64 x.n) ∧ w'.cell? ⟨bx, 4, none⟩ = some (.int .i64 x.m) ∧ w'.cell? ⟨bx, 5, none⟩ = some (.int .i64 x.v)) (first | exact do_cells hpd HW0.out | exact do_cells hp5 HW0.out | exact do_cells hp6 HW0.out | exact do_cells hp7 HW0.out | go_keep) (first
    | (go_at_call 16; refine (put_p (x := x) hpd (by omega)).mono ?_; rintro e w5 ⟨rfl, hp5⟩)
    | (go_at_call 23; refine (refPut_p (x := x) HSO.out hp5 hl).mono ?_; rintro e w6 ⟨rfl, B, d, hp6⟩))
  go_wp2
  go_ret
  exact ⟨rfl, a, rr, B, d, putN nx L x, putL nx L x, HFIN.out _ _ _ _ _ _ _ hp6, putN_le _ _ _, putL_length _ _ _⟩

theorem hx_two {St : (Nat → Prop) → World → Prop} {F : Nat → Prop} {w1 V : World} {pp a rr c : Nat} {A : Option Addr} {es : List Ev} (h : PlayS St F w1 pp a rr A c es V) :
    V.cell? ⟨pp, 0, none⟩ = some (.pointer (some ⟨a, 0, none⟩)) ∧ V.cell? ⟨pp, 1, none⟩ = some (.pointer (some ⟨rr, 0, none⟩)) := ⟨h.play.cell 0, h.play.cell 1⟩

set_option maxRecDepth 1000000 in
set_option maxHeartbeats 4000000 in
theorem do_take (F : Nat → Prop) (w1 W : World) (pp a rr nx : Nat) (A : Option Addr) (c : Nat) (L : List En) (x : Ev) (h : PlayS (St1 a nx L) F w1 pp a rr A c (L.map En.e) W) (hl : L.length ≤ 1000) :
    Calls Try.prog 10 #[.pointer (some ⟨pp, 0, none⟩), .agg #[.int .i64 1, .int .i64 x.t, .int .i64 x.k, .int .i64 x.n, .int .i64 x.m, .int .i64 x.v]] W (Did F w1 pp nx L) := by
  have hp0 := h.box (isSt1 _ _ _) (.cells #[.int .i64 1, .int .i64 x.t, .int .i64 x.k, .int .i64 x.n, .int .i64 x.m, .int .i64 x.v] 38)
  have hw0 := Whole.new W 38 #[.int .i64 1, .int .i64 x.t, .int .i64 x.k, .int .i64 x.n, .int .i64 x.m, .int .i64 x.v]
  have HH := Lib.hid h
  have HP0 := Lib.hid hp0
  have HW0 := Lib.hid hw0
  have HSO := Lib.hid h.sorted
  clear h hp0 hw0
  obtain ⟨p0, p1⟩ := hx_two HP0.out
  have HFIN := Lib.hid (fun (a' rr' ny : Nat) (A' : Option Addr) (c' : Nat) (M : List En) (V : World) (h2 : PlayS (St1 a' ny M) (fun k => F k ∨ k = W.heap.size) (W.alloc (.cells #[.int .i64 1, .int .i64 x.t, .int .i64 x.k, .int .i64 x.n, .int .i64 x.m, .int .i64 x.v] 38)) pp a' rr' A' c' (M.map En.e) V) => HH.out.back (isSt1 _ _ _) h2)
  go_enter Try.func10, Try.ntmps10
  go_wp2_with fail
  refine (take_p HP0.out (by omega)).mono ?_
  rintro e w5 ⟨rfl, hp5⟩
  have HP5 := Lib.hid hp5
  clear hp5 HP0 p0 p1
  cases L with
  | nil =>
    rw [head_nil]
    unfold zeroEv
    simp only [List.tail_nil] at HP5
    have hx5 := HP5.out.box (isSt1 _ _ _) (.cells #[.int .i64 0, .int .i64 0, .int .i64 0, .int .i64 0, .int .i64 0] 36)
    have HW5 := Lib.hid (Whole.new w5 36 #[.int .i64 0, .int .i64 0, .int .i64 0, .int .i64 0, .int .i64 0])
    have HX5 := Lib.hid hx5
    clear hx5
    obtain ⟨p0, p1⟩ := hx_two HX5.out
    go_wp2_with fail
    refine (refTake_p HX5.out (Nat.le_trans hl (by decide))).mono ?_
    rintro e w6 ⟨rfl, B, d, hp6⟩
    have hw6 := hp6.whole (.inr rfl) HW5.out
    have HB6 := Lib.hid (HFIN.out _ _ _ _ _ _ _ (HP5.out.back (isSt1 _ _ _) hp6))
    have hbx : Below w6.heap.size w6 (w6.alloc (.cells #[.int .i64 0, .int .i64 0, .int .i64 0, .int .i64 0, .int .i64 0] 36)) := (Below.refl _ _).alloc (Nat.le_refl _) _
    have HB7 := Lib.hid (HB6.out.later (isSt1 _ _ _) hbx)
    have hw7 := k_later hbx hw6
    have hw8 := Whole.new w6 36 #[.int .i64 0, .int .i64 0, .int .i64 0, .int .i64 0, .int .i64 0]
    obtain ⟨a0, a1, a2, a3, a4⟩ := five_whole hw7
    obtain ⟨b0, b1, b2, b3, b4⟩ := five_whole hw8
    have m1 := fun V => ev_equal_self ⟨0, 0, 0, 0, 0⟩ V
    have m2 := fun V => ev_eql_self ⟨0, 0, 0, 0, 0⟩ V
    clear hp6 hw6 hbx hw7 hw8 HB6 HX5 HW5 HP5 p0 p1
    rw [head_nil]
    unfold zeroEv
    go_wp2
    go_ret
    exact ⟨rfl, a, rr, B, d, nx, [], HB7.out, Nat.le_succ _, Nat.zero_le _⟩
  | cons y L =>
    rw [head_cons]
    simp only [List.tail_cons] at HP5
    have hx5 := HP5.out.box (isSt1 _ _ _) (.cells #[.int .i64 y.e.t, .int .i64 y.e.k, .int .i64 y.e.n, .int .i64 y.e.m, .int .i64 y.e.v] 36)
    have HW5 := Lib.hid (Whole.new w5 36 #[.int .i64 y.e.t, .int .i64 y.e.k, .int .i64 y.e.n, .int .i64 y.e.m, .int .i64 y.e.v])
    have HX5 := Lib.hid hx5
    clear hx5
    obtain ⟨p0, p1⟩ := hx_two HX5.out
    go_wp2_with fail
    refine (refTake_p HX5.out (Nat.le_trans hl (by decide))).mono ?_
    rintro e w6 ⟨rfl, B, d, hp6⟩
    have hw6 := hp6.whole (.inr rfl) HW5.out
    have HB6 := Lib.hid (HFIN.out _ _ _ _ _ _ _ (HP5.out.back (isSt1 _ _ _) hp6))
    have hbx : Below w6.heap.size w6 (w6.alloc (.cells #[.int .i64 y.e.t, .int .i64 y.e.k, .int .i64 y.e.n, .int .i64 y.e.m, .int .i64 y.e.v] 36)) := (Below.refl _ _).alloc (Nat.le_refl _) _
    have HB7 := Lib.hid (HB6.out.later (isSt1 _ _ _) hbx)
    have hw7 := k_later hbx hw6
    have hw8 := Whole.new w6 36 #[.int .i64 y.e.t, .int .i64 y.e.k, .int .i64 y.e.n, .int .i64 y.e.m, .int .i64 y.e.v]
    obtain ⟨a0, a1, a2, a3, a4⟩ := five_whole hw7
    obtain ⟨b0, b1, b2, b3, b4⟩ := five_whole hw8
    have m1 := fun V => ev_equal_self y.e V
    have m2 := fun V => ev_eql_self y.e V
    clear hp6 hw6 hbx hw7 hw8 HB6 HX5 HW5 HP5 p0 p1
    rw [head_cons]
    go_wp2
    go_ret
    exact ⟨rfl, a, rr, B, d, nx, L, HB7.out, Nat.le_succ _, by simp only [List.length_cons]; omega⟩

set_option maxRecDepth 1000000 in
set_option maxHeartbeats 4000000 in
theorem do_drop (F : Nat → Prop) (w1 W : World) (pp a rr nx : Nat) (A : Option Addr) (c : Nat) (L : List En) (x : Ev) (h : PlayS (St1 a nx L) F w1 pp a rr A c (L.map En.e) W) (hl : L.length ≤ 1000) :
    Calls Try.prog 10 #[.pointer (some ⟨pp, 0, none⟩), .agg #[.int .i64 2, .int .i64 x.t, .int .i64 x.k, .int .i64 x.n, .int .i64 x.m, .int .i64 x.v]] W (Did F w1 pp nx L) := by
  have hp0 := h.box (isSt1 _ _ _) (.cells #[.int .i64 2, .int .i64 x.t, .int .i64 x.k, .int .i64 x.n, .int .i64 x.m, .int .i64 x.v] 38)
  have hw0 := Whole.new W 38 #[.int .i64 2, .int .i64 x.t, .int .i64 x.k, .int .i64 x.n, .int .i64 x.m, .int .i64 x.v]
  have HH := Lib.hid h
  have HP0 := Lib.hid hp0
  have HW0 := Lib.hid hw0
  have HSO := Lib.hid h.sorted
  clear h hp0 hw0
  go_enter Try.func10, Try.ntmps10
  go_wp2_with fail
  have hpd := HP0.out.drew (isSt1 _ _ _)
  obtain ⟨bx, hbx⟩ : ∃ bx, bx = W.heap.size := ⟨_, rfl⟩
  obtain ⟨W0, hW0⟩ : ∃ W0, W0 = W.alloc (.cells #[.int .i64 2, .int .i64 x.t, .int .i64 x.k, .int .i64 x.n, .int .i64 x.m, .int .i64 x.v] 38) := ⟨_, rfl⟩
  have HFIN := Lib.hid (fun (a' rr' ny : Nat) (A' : Option Addr) (c' : Nat) (M : List En) (V : World) (h2 : PlayS (St1 a' ny M) (fun k => F k ∨ k = W.heap.size) (W.alloc (.cells #[.int .i64 2, .int .i64 x.t, .int .i64 x.k, .int .i64 x.n, .int .i64 x.m, .int .i64 x.v] 38)) pp a' rr' A' c' (M.map En.e) V) => HH.out.back (isSt1 _ _ _) h2)
  rw [← hW0, ← hbx] at HP0 HW0 HFIN hpd
  rw [← hW0, ← hbx]
  clear hW0 hbx
  go_region_held3 (fun w' => w'.cell? ⟨pp, 0, none⟩ = some (.pointer (some ⟨a, 0, none⟩)) ∧ w'.cell? ⟨pp, 1, none⟩ = some (.pointer (some ⟨rr, 0, none⟩)) ∧ w'.cell? ⟨bx, 1, none⟩ = some (.int .i64 x.t) ∧ w'.cell? ⟨bx, 2, none⟩ = some (.int .i64 x.k) ∧ w'.cell? ⟨bx, 3, none⟩ = some (.int .i64 x.n) ∧ w'.cell? ⟨bx, 4, none⟩ = some (.int .i64 x.m) ∧ w'.cell? ⟨bx, 5, none⟩ = some (.int .i64 x.v)) (first | exact do_cells hpd HW0.out | exact do_cells hp5 HW0.out | exact do_cells hp6 HW0.out | exact do_cells hp7 HW0.out | go_keep) (first
    | (go_at_call 19; refine (drop_p (kind := x.k) (node := x.n) hpd (by omega)).mono ?_; rintro e w5 ⟨rfl, hp5⟩)
    | (go_at_call 25; refine (refDrop_p (kd := x.k) (nd := x.n) hp5 hl).mono ?_; rintro e w6 ⟨rfl, B, d, hp6⟩))
  go_wp2
  go_ret
  exact ⟨rfl, a, rr, B, d, nx, L.filter (keepB x.k x.n), HFIN.out _ _ _ _ _ _ _ hp6, Nat.le_succ _, Nat.le_succ_of_le (List.length_filter_le _ _)⟩

set_option maxRecDepth 1000000 in
set_option maxHeartbeats 4000000 in
theorem do_until (F : Nat → Prop) (w1 W : World) (pp a rr nx : Nat) (A : Option Addr) (c : Nat) (L : List En) (x : Ev) (h : PlayS (St1 a nx L) F w1 pp a rr A c (L.map En.e) W) (hl : L.length ≤ 1000) :
    Calls Try.prog 10 #[.pointer (some ⟨pp, 0, none⟩), .agg #[.int .i64 3, .int .i64 x.t, .int .i64 x.k, .int .i64 x.n, .int .i64 x.m, .int .i64 x.v]] W (Did F w1 pp nx L) := by
  have hp0 := h.box (isSt1 _ _ _) (.cells #[.int .i64 3, .int .i64 x.t, .int .i64 x.k, .int .i64 x.n, .int .i64 x.m, .int .i64 x.v] 38)
  have hw0 := Whole.new W 38 #[.int .i64 3, .int .i64 x.t, .int .i64 x.k, .int .i64 x.n, .int .i64 x.m, .int .i64 x.v]
  have HH := Lib.hid h
  have HP0 := Lib.hid hp0
  have HW0 := Lib.hid hw0
  have HSO := Lib.hid h.sorted
  clear h hp0 hw0
  go_enter Try.func10, Try.ntmps10
  go_wp2_with fail
  have hpd := HP0.out.drew (isSt1 _ _ _)
  obtain ⟨bx, hbx⟩ : ∃ bx, bx = W.heap.size := ⟨_, rfl⟩
  obtain ⟨W0, hW0⟩ : ∃ W0, W0 = W.alloc (.cells #[.int .i64 3, .int .i64 x.t, .int .i64 x.k, .int .i64 x.n, .int .i64 x.m, .int .i64 x.v] 38) := ⟨_, rfl⟩
  have HFIN := Lib.hid (fun (a' rr' ny : Nat) (A' : Option Addr) (c' : Nat) (M : List En) (V : World) (h2 : PlayS (St1 a' ny M) (fun k => F k ∨ k = W.heap.size) (W.alloc (.cells #[.int .i64 3, .int .i64 x.t, .int .i64 x.k, .int .i64 x.n, .int .i64 x.m, .int .i64 x.v] 38)) pp a' rr' A' c' (M.map En.e) V) => HH.out.back (isSt1 _ _ _) h2)
  rw [← hW0, ← hbx] at HP0 HW0 HFIN hpd
  rw [← hW0, ← hbx]
  clear hW0 hbx
  go_region_held3 (fun w' => w'.cell? ⟨pp, 0, none⟩ = some (.pointer (some ⟨a, 0, none⟩)) ∧ w'.cell? ⟨pp, 1, none⟩ = some (.pointer (some ⟨rr, 0, none⟩)) ∧ w'.cell? ⟨bx, 1, none⟩ = some (.int .i64 x.t) ∧ w'.cell? ⟨bx, 2, none⟩ = some (.int .i64 x.k) ∧ w'.cell? ⟨bx, 3, none⟩ = some (.int .i64 x.n) ∧ w'.cell? ⟨bx, 4, none⟩ = some (.int .i64 x.m) ∧ w'.cell? ⟨bx, 5, none⟩ = some (.int .i64 x.v)) (first | exact do_cells hpd HW0.out | exact do_cells hp5 HW0.out | exact do_cells hp6 HW0.out | exact do_cells hp7 HW0.out | go_keep) (first
    | (go_at_call 20; refine (until_p (t := x.t) hpd (by omega)).mono ?_; rintro e w5 ⟨B5, n5, d5, rfl, hup5, hs5, hp5⟩)
    | (go_at_call 26; refine (refUntil_p (t := x.t) hup5 hp5 hs5 (by omega)).mono ?_; rintro e w6 ⟨B6, d6, rfl, hs6, hs7, B, d, hp6⟩)
    | (go_at_call 15; refine (events_any _ _ _ _ _ _ _ _ _ hs7 hs6 (by have := hup5.le; omega) (by have := hup5.le; omega)).mono ?_; rintro e w7 ⟨rfl, q7, rfl⟩; have hp7 := hp6.later (isSt1 _ _ _) (below_drewN (Below.refl _ _) q7)))
  go_wp2
  go_ret
  exact ⟨rfl, a, rr, B, d, nx, L.drop n5, HFIN.out _ _ _ _ _ _ _ hp7, Nat.le_succ _, (by rw [List.length_drop]; omega)⟩

set_option maxRecDepth 1000000 in
set_option maxHeartbeats 4000000 in
theorem do_copy (F : Nat → Prop) (w1 W : World) (pp a rr nx : Nat) (A : Option Addr) (c : Nat) (L : List En) (x : Ev) (h : PlayS (St1 a nx L) F w1 pp a rr A c (L.map En.e) W) (hl : L.length ≤ 1000) (hnx : nx < 1000000) :
    Calls Try.prog 10 #[.pointer (some ⟨pp, 0, none⟩), .agg #[.int .i64 4, .int .i64 x.t, .int .i64 x.k, .int .i64 x.n, .int .i64 x.m, .int .i64 x.v]] W (Did F w1 pp nx L) := by
  have hp0 := h.box (isSt1 _ _ _) (.cells #[.int .i64 4, .int .i64 x.t, .int .i64 x.k, .int .i64 x.n, .int .i64 x.m, .int .i64 x.v] 38)
  have hw0 := Whole.new W 38 #[.int .i64 4, .int .i64 x.t, .int .i64 x.k, .int .i64 x.n, .int .i64 x.m, .int .i64 x.v]
  have HH := Lib.hid h
  have HP0 := Lib.hid hp0
  have HW0 := Lib.hid hw0
  have HSO := Lib.hid h.sorted
  clear h hp0 hw0
  obtain ⟨p0, p1⟩ := hx_two HP0.out
  have HFIN := Lib.hid (fun (a' rr' ny : Nat) (A' : Option Addr) (c' : Nat) (M : List En) (V : World) (h2 : PlayS (St1 a' ny M) (fun k => F k ∨ k = W.heap.size) (W.alloc (.cells #[.int .i64 4, .int .i64 x.t, .int .i64 x.k, .int .i64 x.n, .int .i64 x.m, .int .i64 x.v] 38)) pp a' rr' A' c' (M.map En.e) V) => HH.out.back (isSt1 _ _ _) h2)
  go_enter Try.func10, Try.ntmps10
  go_wp2_with fail
  refine (copy_p HP0.out (by omega)).mono ?_
  rintro e w5 ⟨b, rfl, hp5⟩
  have HP5 := Lib.hid (hp5.store0 (isSt2 _ _ _ _ _ _) b)
  have hf := hp5.play.frozen 0
  clear p0 p1
  obtain ⟨p0, p1⟩ := hx_two hp5
  clear hp5 HP0
  go_wp2_with fail
  refine (refCopy_p (isSt2 _ _ _ _ _ _) HP5.out (by rw [List.length_map]; omega)).mono ?_
  rintro e w6 ⟨r2, B, d, rfl, hw6, hp6⟩
  clear hf p0 p1
  have hf := hw6.frozen 1
  have p1 := hw6.cell 1
  have HP6 := Lib.hid hp6
  clear hp6 hw6 HP5
  go_wp2_with fail
  refine (empty_p2 HP6.out (by omega)).mono ?_
  rintro e w7 ⟨⟨v, rfl⟩, hp7⟩
  clear p1 hf
  obtain ⟨p0, p1, d1, d2, d3, d4, d5⟩ := do_cells hp7 HW0.out
  have HP7 := Lib.hid hp7
  clear hp7 HP6 p0 p1
  go_wp2_with fail
  refine (put_p2 (x := x) HP7.out (by omega)).mono ?_
  rintro e w8 ⟨rfl, hp8⟩
  have HP8 := Lib.hid (HFIN.out _ _ _ _ _ _ _ (hp8.mapSt fun _ hg => hg.snd))
  clear hp8 HP7 d1 d2 d3 d4 d5
  go_wp2
  go_ret
  exact ⟨rfl, b, r2, B, d, nx, L, HP8.out, Nat.le_succ _, Nat.le_succ _⟩

set_option maxRecDepth 1000000 in
set_option maxHeartbeats 4000000 in
theorem do_else (F : Nat → Prop) (w1 W : World) (pp a rr nx : Nat) (A : Option Addr) (c : Nat) (L : List En) (o : Int) (h0 : ¬ o = 0) (h1 : ¬ o = 1) (h2 : ¬ o = 2) (h3 : ¬ o = 3) (h4 : ¬ o = 4) (x : Ev) (h : PlayS (St1 a nx L) F w1 pp a rr A c (L.map En.e) W)  :
    Calls Try.prog 10 #[.pointer (some ⟨pp, 0, none⟩), .agg #[.int .i64 o, .int .i64 x.t, .int .i64 x.k, .int .i64 x.n, .int .i64 x.m, .int .i64 x.v]] W (Did F w1 pp nx L) := by
  have hp0 := h.box (isSt1 _ _ _) (.cells #[.int .i64 o, .int .i64 x.t, .int .i64 x.k, .int .i64 x.n, .int .i64 x.m, .int .i64 x.v] 38)
  have hw0 := Whole.new W 38 #[.int .i64 o, .int .i64 x.t, .int .i64 x.k, .int .i64 x.n, .int .i64 x.m, .int .i64 x.v]
  have HH := Lib.hid h
  have HP0 := Lib.hid hp0
  have HW0 := Lib.hid hw0
  have HSO := Lib.hid h.sorted
  clear h hp0 hw0
  have HFIN := Lib.hid (fun (a' rr' ny : Nat) (A' : Option Addr) (c' : Nat) (M : List En) (V : World) (h2 : PlayS (St1 a' ny M) (fun k => F k ∨ k = W.heap.size) (W.alloc (.cells #[.int .i64 o, .int .i64 x.t, .int .i64 x.k, .int .i64 x.n, .int .i64 x.m, .int .i64 x.v] 38)) pp a' rr' A' c' (M.map En.e) V) => HH.out.back (isSt1 _ _ _) h2)
  have HE := Lib.hid (HFIN.out _ _ _ _ _ _ _ HP0.out)
  clear HP0 HFIN
  go_enter Try.func10, Try.ntmps10
  go_wp2
  go_ret
  exact ⟨rfl, a, rr, A, c, nx, L, HE.out, Nat.le_succ _, Nat.le_succ _⟩

theorem do_any (F : Nat → Prop) (w1 W : World) (pp a rr nx : Nat) (A : Option Addr) (c : Nat) (L : List En) (o : Int) (x : Ev) (h : PlayS (St1 a nx L) F w1 pp a rr A c (L.map En.e) W) (hl : L.length ≤ 1000) (hnx : nx < 1000000) :
    Calls Try.prog 10 #[.pointer (some ⟨pp, 0, none⟩), .agg #[.int .i64 o, .int .i64 x.t, .int .i64 x.k, .int .i64 x.n, .int .i64 x.m, .int .i64 x.v]] W (Did F w1 pp nx L) := by
  by_cases h0 : o = 0
  · subst h0; exact do_put F w1 W pp a rr nx A c L x h hl hnx
  by_cases h1 : o = 1
  · subst h1; exact do_take F w1 W pp a rr nx A c L x h hl
  by_cases h2 : o = 2
  · subst h2; exact do_drop F w1 W pp a rr nx A c L x h hl
  by_cases h3 : o = 3
  · subst h3; exact do_until F w1 W pp a rr nx A c L x h hl
  by_cases h4 : o = 4
  · subst h4; exact do_copy F w1 W pp a rr nx A c L x h hl hnx
  exact do_else F w1 W pp a rr nx A c L o h0 h1 h2 h3 h4 x h
end Go.Proofs.Ytchfponnajednaa
