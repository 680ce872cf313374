/- Turn, by its contract. No condition. -/
import Derived.Test.YteljalgfkmnamaaYMay
namespace Go.Proofs.Yteljalgfkmnamaa
open Go.RowKit Go.Shelf

theorem boxes_turn (x : Pl) (cs : Array Value) (w : World) : Below w.heap.size w (((w.alloc (.cells x.cells 23)).alloc (.cells cs 25)).alloc (.cells #[.int .i64 0, .int .i64 0, .int .i64 0, .bool false] 25)) ∧
    Whole (((w.alloc (.cells x.cells 23)).alloc (.cells cs 25)).alloc (.cells #[.int .i64 0, .int .i64 0, .int .i64 0, .bool false] 25)) w.heap.size 23 x.cells ∧
    Whole (((w.alloc (.cells x.cells 23)).alloc (.cells cs 25)).alloc (.cells #[.int .i64 0, .int .i64 0, .int .i64 0, .bool false] 25)) (w.heap.size + 1) 25 cs ∧
    Whole (((w.alloc (.cells x.cells 23)).alloc (.cells cs 25)).alloc (.cells #[.int .i64 0, .int .i64 0, .int .i64 0, .bool false] 25)) (w.heap.size + 2) 25 #[.int .i64 0, .int .i64 0, .int .i64 0, .bool false] := by
  have h1 := Whole.new w 23 x.cells
  have h2 := Whole.new (w.alloc (.cells x.cells 23)) 25 cs
  have h3 := Whole.new ((w.alloc (.cells x.cells 23)).alloc (.cells cs 25)) 25 #[.int .i64 0, .int .i64 0, .int .i64 0, .bool false]
  simp only [World.size_alloc] at h2 h3
  exact ⟨(((Below.refl _ _).alloc (Nat.le_refl _) _).alloc (by simp) _).alloc (by simp; omega) _, (h1.alloc _).alloc _, h2.alloc _, h3⟩

/-- Four cells of a state. -/
theorem y_four {w : World} {g : Nat} {t : TypeId} {a b c : Int} {d : Bool} (h : Whole w g t #[.int .i64 a, .int .i64 b, .int .i64 c, .bool d]) :
    w.cell? ⟨g, 0, none⟩ = some (.int .i64 a) ∧ w.cell? ⟨g, 1, none⟩ = some (.int .i64 b) ∧ w.cell? ⟨g, 2, none⟩ = some (.int .i64 c) ∧ w.cell? ⟨g, 3, none⟩ = some (.bool d) ∧ ∀ i, w.frozen? ⟨g, i, none⟩ = false :=
  ⟨h.cell 0, h.cell 1, h.cell 2, h.cell 3, h.frozen⟩


/-- A state laid into its block, number by number. -/
theorem y_store {w : World} {g : Nat} {t : TypeId} {p0 p1 p2 p3 : Value} (h : Whole w g t #[p0, p1, p2, p3]) (v0 v1 v2 v3 : Value) :
    Whole ((((w.setCell ⟨g, 0, none⟩ v0).setCell ⟨g, 1, none⟩ v1).setCell ⟨g, 2, none⟩ v2).setCell ⟨g, 3, none⟩ v3) g t #[v0, v1, v2, v3] := (((h.set 0 v0).set 1 v1).set 2 v2).set 3 v3
theorem y_below {n : Nat} {a w : World} {g : Nat} (h : Below n a w) (hg : n ≤ g) (v0 v1 v2 v3 : Value) :
    Below n a ((((w.setCell ⟨g, 0, none⟩ v0).setCell ⟨g, 1, none⟩ v1).setCell ⟨g, 2, none⟩ v2).setCell ⟨g, 3, none⟩ v3) := (((h.setCell hg _).setCell hg _).setCell hg _).setCell hg _

set_option maxRecDepth 100000 in
set_option maxHeartbeats 4000000 in
theorem turn_no (x : Pl) (y : Sy) (w : World) (s : Sl) (l : List Int) (h : RSrc inC 1 w s l) (hn : s.n ≤ 1000) (he : corE x l = 150) : Calls Try.prog 9 #[.agg x.cells, y.v, s.v] w fun e w' => e = .returned (Tn.v ⟨zeroY, 0, 150⟩) ∧ Below w.heap.size w w' := by
  have hc := fun W (hb : Below w.heap.size w W) => Correction_any x W s l (h.later hb) hn
  unfold corV at hc
  rw [he] at hc
  have HC := Lib.hid hc
  have HS := Lib.hid x.cellsL
  obtain ⟨r, t, u, b⟩ := y
  unfold Tn.v
  unfold zeroY
  unfold Sy.v at *
  dsimp only at *
  obtain ⟨k0, k1, k2, k3⟩ := boxes_turn x #[.int .i64 r, .int .i64 t, .int .i64 u, .bool b] w
  have H0 := Lib.hid (And.intro k0 (And.intro k1 (And.intro k2 k3)))
  generalize corB x l = by_ at *
  obtain ⟨A, n, c⟩ := s
  unfold Sl.v at *
  dsimp only at *
  clear h hn he hc k0 k1 k2 k3 
  go_enter Try.func9, Try.ntmps9
  go_wp2_with (first
    | (refine wpList_load_row rfl 23 (.tmp 3) rfl w.heap.size rfl 23 x.cells (0, 0) _ H0.out.2.1 Try.underlying23 rfl HS.out.plan ?_)
    | (go_at_call 7; refine (HC.out _ H0.out.1).mono ?_; rintro e w1 ⟨rfl, hb⟩; have H1 := Lib.hid (k_then hb H0.out.1); have HY1 := Lib.hid (k_later hb H0.out.2.2.1); have HR1 := Lib.hid (k_later hb H0.out.2.2.2); obtain ⟨a0, a1, a2, a3, a4⟩ := y_four HY1.out; obtain ⟨c0, c1, c2, c3, c4⟩ := y_four HR1.out; clear hb HC))
  exact bodyPost_ret (results_sy3 rfl _ _ _ 25 _ (0, 0) _ rfl rfl rfl (y_store HR1.out _ _ _ _) Try.underlying25 rfl sy_info) rfl ⟨rfl, y_below H1.out (by omega) _ _ _ _⟩

set_option maxRecDepth 100000 in
set_option maxHeartbeats 4000000 in
theorem turn_bad0 (x : Pl) (y : Sy) (w : World) (s : Sl) (l : List Int) (h : RSrc inC 1 w s l) (hn : s.n ≤ 1000) (he : corE x l = 0) (hy : mayY y = false) : Calls Try.prog 9 #[.agg x.cells, y.v, s.v] w fun e w' => e = .returned (Tn.v ⟨zeroY, 0, 150⟩) ∧ Below w.heap.size w w' := by
  have hc := fun W (hb : Below w.heap.size w W) => Correction_any x W s l (h.later hb) hn
  unfold corV at hc
  rw [he] at hc
  have HC := Lib.hid hc
  have HS := Lib.hid x.cellsL
  have hm := fun W => mayBe_any y W
  rw [hy] at hm
  have HM := Lib.hid hm
  obtain ⟨r, t, u, b⟩ := y
  unfold Tn.v
  unfold zeroY
  unfold Sy.v at *
  dsimp only at *
  obtain ⟨k0, k1, k2, k3⟩ := boxes_turn x #[.int .i64 r, .int .i64 t, .int .i64 u, .bool b] w
  have H0 := Lib.hid (And.intro k0 (And.intro k1 (And.intro k2 k3)))
  generalize corB x l = by_ at *
  obtain ⟨A, n, c⟩ := s
  unfold Sl.v at *
  dsimp only at *
  clear h hn he hc k0 k1 k2 k3 hy hm
  go_enter Try.func9, Try.ntmps9
  go_wp2_with (first
    | (refine wpList_load_row rfl 23 (.tmp 3) rfl w.heap.size rfl 23 x.cells (0, 0) _ H0.out.2.1 Try.underlying23 rfl HS.out.plan ?_)
    | (go_at_call 7; refine (HC.out _ H0.out.1).mono ?_; rintro e w1 ⟨rfl, hb⟩; have H1 := Lib.hid (k_then hb H0.out.1); have HY1 := Lib.hid (k_later hb H0.out.2.2.1); have HR1 := Lib.hid (k_later hb H0.out.2.2.2); obtain ⟨a0, a1, a2, a3, a4⟩ := y_four HY1.out; obtain ⟨c0, c1, c2, c3, c4⟩ := y_four HR1.out; clear hb HC)
    | (go_at_call 22; with_reducible refine (HM.out _).mono ?_; (rintro e w2 ⟨rfl, hb⟩; have H2 := Lib.hid (k_then hb H1.out); have HY2 := Lib.hid (k_later hb HY1.out); have HR2 := Lib.hid (k_later hb HR1.out); clear a0 a1 a2 a3 a4 c0 c1 c2 c3 c4; obtain ⟨a0, a1, a2, a3, a4⟩ := y_four HY2.out; obtain ⟨c0, c1, c2, c3, c4⟩ := y_four HR2.out; clear hb HM)))
  exact bodyPost_ret (results_sy3 rfl _ _ _ 25 _ (0, 0) _ rfl rfl rfl (y_store HR2.out _ _ _ _) Try.underlying25 rfl sy_info) rfl ⟨rfl, y_below H2.out (by omega) _ _ _ _⟩

set_option maxRecDepth 100000 in
set_option maxHeartbeats 4000000 in
theorem turn_bad1 (x : Pl) (y : Sy) (w : World) (s : Sl) (l : List Int) (h : RSrc inC 1 w s l) (hn : s.n ≤ 1000) (he : corE x l = 151) (hy : mayY y = false) : Calls Try.prog 9 #[.agg x.cells, y.v, s.v] w fun e w' => e = .returned (Tn.v ⟨zeroY, 0, 150⟩) ∧ Below w.heap.size w w' := by
  have hc := fun W (hb : Below w.heap.size w W) => Correction_any x W s l (h.later hb) hn
  unfold corV at hc
  rw [he] at hc
  have HC := Lib.hid hc
  have HS := Lib.hid x.cellsL
  have hm := fun W => mayBe_any y W
  rw [hy] at hm
  have HM := Lib.hid hm
  obtain ⟨r, t, u, b⟩ := y
  unfold Tn.v
  unfold zeroY
  unfold Sy.v at *
  dsimp only at *
  obtain ⟨k0, k1, k2, k3⟩ := boxes_turn x #[.int .i64 r, .int .i64 t, .int .i64 u, .bool b] w
  have H0 := Lib.hid (And.intro k0 (And.intro k1 (And.intro k2 k3)))
  generalize corB x l = by_ at *
  obtain ⟨A, n, c⟩ := s
  unfold Sl.v at *
  dsimp only at *
  clear h hn he hc k0 k1 k2 k3 hy hm
  go_enter Try.func9, Try.ntmps9
  go_wp2_with (first
    | (refine wpList_load_row rfl 23 (.tmp 3) rfl w.heap.size rfl 23 x.cells (0, 0) _ H0.out.2.1 Try.underlying23 rfl HS.out.plan ?_)
    | (go_at_call 7; refine (HC.out _ H0.out.1).mono ?_; rintro e w1 ⟨rfl, hb⟩; have H1 := Lib.hid (k_then hb H0.out.1); have HY1 := Lib.hid (k_later hb H0.out.2.2.1); have HR1 := Lib.hid (k_later hb H0.out.2.2.2); obtain ⟨a0, a1, a2, a3, a4⟩ := y_four HY1.out; obtain ⟨c0, c1, c2, c3, c4⟩ := y_four HR1.out; clear hb HC)
    | (go_at_call 22; with_reducible refine (HM.out _).mono ?_; (rintro e w2 ⟨rfl, hb⟩; have H2 := Lib.hid (k_then hb H1.out); have HY2 := Lib.hid (k_later hb HY1.out); have HR2 := Lib.hid (k_later hb HR1.out); clear a0 a1 a2 a3 a4 c0 c1 c2 c3 c4; obtain ⟨a0, a1, a2, a3, a4⟩ := y_four HY2.out; obtain ⟨c0, c1, c2, c3, c4⟩ := y_four HR2.out; clear hb HM)))
  exact bodyPost_ret (results_sy3 rfl _ _ _ 25 _ (0, 0) _ rfl rfl rfl (y_store HR2.out _ _ _ _) Try.underlying25 rfl sy_info) rfl ⟨rfl, y_below H2.out (by omega) _ _ _ _⟩

set_option maxRecDepth 100000 in
set_option maxHeartbeats 4000000 in
theorem turn_lost (x : Pl) (y : Sy) (w : World) (s : Sl) (l : List Int) (h : RSrc inC 1 w s l) (hn : s.n ≤ 1000) (he : corE x l = 151) (hy : mayY y = true) : Calls Try.prog 9 #[.agg x.cells, y.v, s.v] w fun e w' => e = .returned (Tn.v ⟨lostY y, 0, 151⟩) ∧ Below w.heap.size w w' := by
  have hc := fun W (hb : Below w.heap.size w W) => Correction_any x W s l (h.later hb) hn
  unfold corV at hc
  rw [he] at hc
  have HC := Lib.hid hc
  have HS := Lib.hid x.cellsL
  have hm := fun W => mayBe_any y W
  rw [hy] at hm
  have HM := Lib.hid hm
  obtain ⟨r, t, u, b⟩ := y
  unfold Tn.v
  unfold lostY
  unfold Sy.v at *
  dsimp only at *
  obtain ⟨k0, k1, k2, k3⟩ := boxes_turn x #[.int .i64 r, .int .i64 t, .int .i64 u, .bool b] w
  have H0 := Lib.hid (And.intro k0 (And.intro k1 (And.intro k2 k3)))
  generalize corB x l = by_ at *
  obtain ⟨A, n, c⟩ := s
  unfold Sl.v at *
  dsimp only at *
  clear h hn he hc k0 k1 k2 k3 hy hm
  go_enter Try.func9, Try.ntmps9
  go_wp2_with (first
    | (refine wpList_load_row rfl 23 (.tmp 3) rfl w.heap.size rfl 23 x.cells (0, 0) _ H0.out.2.1 Try.underlying23 rfl HS.out.plan ?_)
    | (go_at_call 7; refine (HC.out _ H0.out.1).mono ?_; rintro e w1 ⟨rfl, hb⟩; have H1 := Lib.hid (k_then hb H0.out.1); have HY1 := Lib.hid (k_later hb H0.out.2.2.1); have HR1 := Lib.hid (k_later hb H0.out.2.2.2); obtain ⟨a0, a1, a2, a3, a4⟩ := y_four HY1.out; obtain ⟨c0, c1, c2, c3, c4⟩ := y_four HR1.out; clear hb HC)
    | (go_at_call 22; with_reducible refine (HM.out _).mono ?_; (rintro e w2 ⟨rfl, hb⟩; have H2 := Lib.hid (k_then hb H1.out); have HY2 := Lib.hid (k_later hb HY1.out); have HR2 := Lib.hid (k_later hb HR1.out); clear a0 a1 a2 a3 a4 c0 c1 c2 c3 c4; obtain ⟨a0, a1, a2, a3, a4⟩ := y_four HY2.out; obtain ⟨c0, c1, c2, c3, c4⟩ := y_four HR2.out; clear hb HM)))
  have HZ := Lib.hid (And.intro (y_below (H2.out.setCell (p := ⟨w.heap.size + 1, 3, none⟩) (by simp) (.bool true)) (show w.heap.size ≤ w.heap.size + 1 + 1 by omega) (.int .i64 r) (.int .i64 t) (.int .i64 u) (.bool true)) (y_store (HR2.out.far (p := ⟨w.heap.size + 1, 3, none⟩) (by simp) (.bool true)) (.int .i64 r) (.int .i64 t) (.int .i64 u) (.bool true)))
  exact bodyPost_ret (results_sy3 rfl _ _ _ 25 _ (0, 0) _ rfl rfl rfl HZ.out.2 Try.underlying25 rfl sy_info) rfl ⟨rfl, HZ.out.1⟩

set_option maxRecDepth 100000 in
set_option maxHeartbeats 4000000 in
theorem turn_was (x : Pl) (y : Sy) (w : World) (s : Sl) (l : List Int) (h : RSrc inC 1 w s l) (hn : s.n ≤ 1000) (he : corE x l = 0) (hy : mayY y = true) (hl : y.b = true) : Calls Try.prog 9 #[.agg x.cells, y.v, s.v] w fun e w' => e = .returned (Tn.v ⟨lostY y, 0, 151⟩) ∧ Below w.heap.size w w' := by
  have hc := fun W (hb : Below w.heap.size w W) => Correction_any x W s l (h.later hb) hn
  unfold corV at hc
  rw [he] at hc
  have HC := Lib.hid hc
  have HS := Lib.hid x.cellsL
  have hm := fun W => mayBe_any y W
  rw [hy] at hm
  have HM := Lib.hid hm
  obtain ⟨r, t, u, b⟩ := y
  unfold Tn.v
  unfold lostY
  unfold Sy.v at *
  dsimp only at *
  subst hl
  obtain ⟨k0, k1, k2, k3⟩ := boxes_turn x #[.int .i64 r, .int .i64 t, .int .i64 u, .bool true] w
  have H0 := Lib.hid (And.intro k0 (And.intro k1 (And.intro k2 k3)))
  generalize corB x l = by_ at *
  obtain ⟨A, n, c⟩ := s
  unfold Sl.v at *
  dsimp only at *
  clear h hn he hc k0 k1 k2 k3 hy hm
  go_enter Try.func9, Try.ntmps9
  go_wp2_with (first
    | (refine wpList_load_row rfl 23 (.tmp 3) rfl w.heap.size rfl 23 x.cells (0, 0) _ H0.out.2.1 Try.underlying23 rfl HS.out.plan ?_)
    | (go_at_call 7; refine (HC.out _ H0.out.1).mono ?_; rintro e w1 ⟨rfl, hb⟩; have H1 := Lib.hid (k_then hb H0.out.1); have HY1 := Lib.hid (k_later hb H0.out.2.2.1); have HR1 := Lib.hid (k_later hb H0.out.2.2.2); obtain ⟨a0, a1, a2, a3, a4⟩ := y_four HY1.out; obtain ⟨c0, c1, c2, c3, c4⟩ := y_four HR1.out; clear hb HC)
    | (go_at_call 22; with_reducible refine (HM.out _).mono ?_; (rintro e w2 ⟨rfl, hb⟩; have H2 := Lib.hid (k_then hb H1.out); have HY2 := Lib.hid (k_later hb HY1.out); have HR2 := Lib.hid (k_later hb HR1.out); clear a0 a1 a2 a3 a4 c0 c1 c2 c3 c4; obtain ⟨a0, a1, a2, a3, a4⟩ := y_four HY2.out; obtain ⟨c0, c1, c2, c3, c4⟩ := y_four HR2.out; clear hb HM)))
  have HZ := Lib.hid (And.intro (y_below (H2.out.setCell (p := ⟨w.heap.size + 1, 3, none⟩) (by simp) (.bool true)) (show w.heap.size ≤ w.heap.size + 1 + 1 by omega) (.int .i64 r) (.int .i64 t) (.int .i64 u) (.bool true)) (y_store (HR2.out.far (p := ⟨w.heap.size + 1, 3, none⟩) (by simp) (.bool true)) (.int .i64 r) (.int .i64 t) (.int .i64 u) (.bool true)))
  exact bodyPost_ret (results_sy3 rfl _ _ _ 25 _ (0, 0) _ rfl rfl rfl HZ.out.2 Try.underlying25 rfl sy_info) rfl ⟨rfl, HZ.out.1⟩

set_option maxRecDepth 100000 in
set_option maxHeartbeats 4000000 in
theorem turn_on (x : Pl) (y : Sy) (w : World) (s : Sl) (l : List Int) (h : RSrc inC 1 w s l) (hn : s.n ≤ 1000) (he : corE x l = 0) (hy : mayY y = true) (hl : y.b = false) (hx : mayY (nextY (corB x l) y) = true) : Calls Try.prog 9 #[.agg x.cells, y.v, s.v] w fun e w' => e = .returned (Tn.v ⟨nextY (corB x l) y, corB x l, 0⟩) ∧ Below w.heap.size w w' := by
  have hc := fun W (hb : Below w.heap.size w W) => Correction_any x W s l (h.later hb) hn
  unfold corV at hc
  rw [he] at hc
  have HC := Lib.hid hc
  have HS := Lib.hid x.cellsL
  have hm := fun W => mayBe_any y W
  rw [hy] at hm
  have HM := Lib.hid hm
  have hz := fun W => mayBe_any (nextY (corB x l) y) W
  rw [hx] at hz
  have HM2 := Lib.hid hz
  have HN := Lib.hid (fun W => behind_any y (corB x l) hy hl (corB_bound x l) W)
  obtain ⟨r, t, u, b⟩ := y
  unfold Tn.v
  unfold nextY at *
  unfold Sy.v at *
  dsimp only at *
  subst hl
  obtain ⟨k0, k1, k2, k3⟩ := boxes_turn x #[.int .i64 r, .int .i64 t, .int .i64 u, .bool false] w
  have H0 := Lib.hid (And.intro k0 (And.intro k1 (And.intro k2 k3)))
  generalize corB x l = by_ at *
  generalize r + 1 = r1 at *
  generalize t + oneN by_ = t1 at *
  generalize u + by_ = u1 at *
  obtain ⟨A, n, c⟩ := s
  unfold Sl.v at *
  dsimp only at *
  clear h hn he hc k0 k1 k2 k3 hy hm hx hz
  go_enter Try.func9, Try.ntmps9
  go_wp2_with (first
    | (refine wpList_load_row rfl 23 (.tmp 3) rfl w.heap.size rfl 23 x.cells (0, 0) _ H0.out.2.1 Try.underlying23 rfl HS.out.plan ?_)
    | (go_at_call 7; refine (HC.out _ H0.out.1).mono ?_; rintro e w1 ⟨rfl, hb⟩; have H1 := Lib.hid (k_then hb H0.out.1); have HY1 := Lib.hid (k_later hb H0.out.2.2.1); have HR1 := Lib.hid (k_later hb H0.out.2.2.2); obtain ⟨a0, a1, a2, a3, a4⟩ := y_four HY1.out; obtain ⟨c0, c1, c2, c3, c4⟩ := y_four HR1.out; clear hb HC)
    | (go_at_call 22; with_reducible refine (HM.out _).mono ?_; (rintro e w2 ⟨rfl, hb⟩; have H2 := Lib.hid (k_then hb H1.out); have HY2 := Lib.hid (k_later hb HY1.out); have HR2 := Lib.hid (k_later hb HR1.out); clear a0 a1 a2 a3 a4 c0 c1 c2 c3 c4; obtain ⟨a0, a1, a2, a3, a4⟩ := y_four HY2.out; obtain ⟨c0, c1, c2, c3, c4⟩ := y_four HR2.out; clear hb HM))
    | (go_at_call 23; with_reducible refine (HN.out _).mono ?_; (rintro e w3 ⟨rfl, hb⟩; have H3 := Lib.hid (k_then hb H2.out); have HR3 := Lib.hid (k_later hb HR2.out); clear a0 a1 a2 a3 a4 c0 c1 c2 c3 c4; obtain ⟨c0, c1, c2, c3, c4⟩ := y_four HR3.out; clear hb HN))
    | (go_at_call 22; with_reducible refine (HM2.out _).mono ?_; (rintro e w4 ⟨rfl, hb⟩; have H4 := Lib.hid (k_then hb (y_below H3.out (by omega) _ _ _ _)); have HR4 := Lib.hid (k_later hb (y_store HR3.out _ _ _ _)); clear c0 c1 c2 c3 c4; obtain ⟨c0, c1, c2, c3, c4⟩ := y_four HR4.out; clear hb HM2)))
  exact bodyPost_ret (results_sy3 rfl _ _ _ 25 _ (0, 0) _ rfl rfl rfl (y_store HR4.out _ _ _ _) Try.underlying25 rfl sy_info) rfl ⟨rfl, y_below H4.out (by omega) _ _ _ _⟩

set_option maxRecDepth 100000 in
set_option maxHeartbeats 4000000 in
theorem turn_over (x : Pl) (y : Sy) (w : World) (s : Sl) (l : List Int) (h : RSrc inC 1 w s l) (hn : s.n ≤ 1000) (he : corE x l = 0) (hy : mayY y = true) (hl : y.b = false) (hx : mayY (nextY (corB x l) y) = false) : Calls Try.prog 9 #[.agg x.cells, y.v, s.v] w fun e w' => e = .returned (Tn.v ⟨zeroY, 0, 150⟩) ∧ Below w.heap.size w w' := by
  have hc := fun W (hb : Below w.heap.size w W) => Correction_any x W s l (h.later hb) hn
  unfold corV at hc
  rw [he] at hc
  have HC := Lib.hid hc
  have HS := Lib.hid x.cellsL
  have hm := fun W => mayBe_any y W
  rw [hy] at hm
  have HM := Lib.hid hm
  have hz := fun W => mayBe_any (nextY (corB x l) y) W
  rw [hx] at hz
  have HM2 := Lib.hid hz
  have HN := Lib.hid (fun W => behind_any y (corB x l) hy hl (corB_bound x l) W)
  obtain ⟨r, t, u, b⟩ := y
  unfold Tn.v
  unfold zeroY
  unfold nextY at *
  unfold Sy.v at *
  dsimp only at *
  subst hl
  obtain ⟨k0, k1, k2, k3⟩ := boxes_turn x #[.int .i64 r, .int .i64 t, .int .i64 u, .bool false] w
  have H0 := Lib.hid (And.intro k0 (And.intro k1 (And.intro k2 k3)))
  generalize corB x l = by_ at *
  generalize r + 1 = r1 at *
  generalize t + oneN by_ = t1 at *
  generalize u + by_ = u1 at *
  obtain ⟨A, n, c⟩ := s
  unfold Sl.v at *
  dsimp only at *
  clear h hn he hc k0 k1 k2 k3 hy hm hx hz
  go_enter Try.func9, Try.ntmps9
  go_wp2_with (first
    | (refine wpList_load_row rfl 23 (.tmp 3) rfl w.heap.size rfl 23 x.cells (0, 0) _ H0.out.2.1 Try.underlying23 rfl HS.out.plan ?_)
    | (go_at_call 7; refine (HC.out _ H0.out.1).mono ?_; rintro e w1 ⟨rfl, hb⟩; have H1 := Lib.hid (k_then hb H0.out.1); have HY1 := Lib.hid (k_later hb H0.out.2.2.1); have HR1 := Lib.hid (k_later hb H0.out.2.2.2); obtain ⟨a0, a1, a2, a3, a4⟩ := y_four HY1.out; obtain ⟨c0, c1, c2, c3, c4⟩ := y_four HR1.out; clear hb HC)
    | (go_at_call 22; with_reducible refine (HM.out _).mono ?_; (rintro e w2 ⟨rfl, hb⟩; have H2 := Lib.hid (k_then hb H1.out); have HY2 := Lib.hid (k_later hb HY1.out); have HR2 := Lib.hid (k_later hb HR1.out); clear a0 a1 a2 a3 a4 c0 c1 c2 c3 c4; obtain ⟨a0, a1, a2, a3, a4⟩ := y_four HY2.out; obtain ⟨c0, c1, c2, c3, c4⟩ := y_four HR2.out; clear hb HM))
    | (go_at_call 23; with_reducible refine (HN.out _).mono ?_; (rintro e w3 ⟨rfl, hb⟩; have H3 := Lib.hid (k_then hb H2.out); have HR3 := Lib.hid (k_later hb HR2.out); clear a0 a1 a2 a3 a4 c0 c1 c2 c3 c4; obtain ⟨c0, c1, c2, c3, c4⟩ := y_four HR3.out; clear hb HN))
    | (go_at_call 22; with_reducible refine (HM2.out _).mono ?_; (rintro e w4 ⟨rfl, hb⟩; have H4 := Lib.hid (k_then hb (y_below H3.out (by omega) _ _ _ _)); have HR4 := Lib.hid (k_later hb (y_store HR3.out _ _ _ _)); clear c0 c1 c2 c3 c4; obtain ⟨c0, c1, c2, c3, c4⟩ := y_four HR4.out; clear hb HM2)))
  exact bodyPost_ret (results_sy3 rfl _ _ _ 25 _ (0, 0) _ rfl rfl rfl (y_store HR4.out _ _ _ _) Try.underlying25 rfl sy_info) rfl ⟨rfl, y_below H4.out (by omega) _ _ _ _⟩


theorem Turn_any (x : Pl) (y : Sy) (w : World) (s : Sl) (l : List Int) (h : RSrc inC 1 w s l) (hn : s.n ≤ 1000) : Calls Try.prog 9 #[.agg x.cells, y.v, s.v] w fun e w' => e = .returned (turnL x y l).v ∧ Below w.heap.size w w' := by
  unfold turnL turnY
  rcases corE_is x l with he | he | he
  · rw [he]
    cases hy : mayY y
    · rw [if_pos (.inr rfl)]
      exact turn_bad0 x y w s l h hn he hy
    · rw [if_neg (by simp)]
      cases hl : y.b
      · rw [if_neg (by simp)]
        cases hx : mayY (nextY (corB x l) y)
        · rw [if_neg (by simp)]
          exact turn_over x y w s l h hn he hy hl hx
        · rw [if_pos rfl]
          exact turn_on x y w s l h hn he hy hl hx
      · rw [if_pos (.inr rfl)]
        exact turn_was x y w s l h hn he hy hl
  · rw [he, if_pos (.inl rfl)]
    exact turn_no x y w s l h hn he
  · rw [he]
    cases hy : mayY y
    · rw [if_pos (.inr rfl)]
      exact turn_bad1 x y w s l h hn he hy
    · rw [if_neg (by simp), if_pos (.inl rfl)]
      exact turn_lost x y w s l h hn he hy
end Go.Proofs.Yteljalgfkmnamaa
