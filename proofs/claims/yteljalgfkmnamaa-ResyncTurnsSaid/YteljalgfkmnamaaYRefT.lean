/- The document's Turn, by its contract. No condition. -/
import Derived.Test.YteljalgfkmnamaaYTurn
import Derived.Test.YteljalgfkmnamaaYRefC
namespace Go.Proofs.Yteljalgfkmnamaa
open Go.RowKit Go.Shelf

set_option maxRecDepth 100000 in
set_option maxHeartbeats 4000000 in
theorem rturn_no1 (x : Pl) (y : Sy) (w : World) (s : Sl) (l : List Int) (h : RSrc inC 1 w s l) (hn : s.n ≤ 1000) (he : corE x l = 150) (hy : mayY y = true) : Calls Try.prog 10 #[.agg x.cells, y.v, s.v] w fun e w' => e = .returned (Tn.v ⟨zeroY, 0, 150⟩) ∧ Below w.heap.size w w' := by
  have hc := fun W (hb : Below w.heap.size w W) => refCorrection_any x W s l (h.later hb) hn
  unfold corV at hc
  rw [he] at hc
  have HC := Lib.hid hc
  have HS := Lib.hid x.cellsL
  have hm := fun W => refMay_any y W
  rw [hy] at hm
  have HM := Lib.hid hm
  obtain ⟨r, t, u, b⟩ := y
  unfold Tn.v
  unfold zeroY
  unfold Sy.v at *
  dsimp only at *
  obtain ⟨k0, k1, k2, k3⟩ := boxes_turn x #[.int .i64 r, .int .i64 t, .int .i64 u, .bool b] w
  have H0 := Lib.hid (And.intro k0 (And.intro k1 (And.intro k2 k3)))
  generalize corB x l = by_ at *
  obtain ⟨A, n, c⟩ := s
  unfold Sl.v at *
  dsimp only at *
  clear h hn he hc hy hm k0 k1 k2 k3 
  go_enter Try.func10, Try.ntmps10
  go_wp2_with (first
    | (refine wpList_load_row rfl 23 (.tmp 3) rfl w.heap.size rfl 23 x.cells (0, 0) _ H0.out.2.1 Try.underlying23 rfl HS.out.plan ?_)
    | (go_at_call 8; refine (HC.out _ H0.out.1).mono ?_; rintro e w1 ⟨rfl, hb⟩; have H1 := Lib.hid (k_then hb H0.out.1); have HY1 := Lib.hid (k_later hb H0.out.2.2.1); have HR1 := Lib.hid (k_later hb H0.out.2.2.2); obtain ⟨a0, a1, a2, a3, a4⟩ := y_four HY1.out; clear hb HC)
    | (go_at_call 24; with_reducible refine (HM.out _).mono ?_; (rintro e w2 ⟨rfl, hb⟩; have H2 := Lib.hid (k_then hb H1.out); have HY2 := Lib.hid (k_later hb HY1.out); have HR2 := Lib.hid (k_later hb HR1.out); clear a0 a1 a2 a3 a4; obtain ⟨a0, a1, a2, a3, a4⟩ := y_four HY2.out; obtain ⟨c0, c1, c2, c3, c4⟩ := y_four HR2.out; clear hb HM)))
  exact bodyPost_ret (results_sy3 rfl _ _ _ 25 _ (0, 0) _ rfl rfl rfl (y_store HR2.out _ _ _ _) Try.underlying25 rfl sy_info) rfl ⟨rfl, y_below H2.out (by omega) _ _ _ _⟩

set_option maxRecDepth 100000 in
set_option maxHeartbeats 4000000 in
theorem rturn_no0 (x : Pl) (y : Sy) (w : World) (s : Sl) (l : List Int) (h : RSrc inC 1 w s l) (hn : s.n ≤ 1000) (he : corE x l = 150) (hy : mayY y = false) : Calls Try.prog 10 #[.agg x.cells, y.v, s.v] w fun e w' => e = .returned (Tn.v ⟨zeroY, 0, 150⟩) ∧ Below w.heap.size w w' := by
  have hc := fun W (hb : Below w.heap.size w W) => refCorrection_any x W s l (h.later hb) hn
  unfold corV at hc
  rw [he] at hc
  have HC := Lib.hid hc
  have HS := Lib.hid x.cellsL
  have hm := fun W => refMay_any y W
  rw [hy] at hm
  have HM := Lib.hid hm
  obtain ⟨r, t, u, b⟩ := y
  unfold Tn.v
  unfold zeroY
  unfold Sy.v at *
  dsimp only at *
  obtain ⟨k0, k1, k2, k3⟩ := boxes_turn x #[.int .i64 r, .int .i64 t, .int .i64 u, .bool b] w
  have H0 := Lib.hid (And.intro k0 (And.intro k1 (And.intro k2 k3)))
  generalize corB x l = by_ at *
  obtain ⟨A, n, c⟩ := s
  unfold Sl.v at *
  dsimp only at *
  clear h hn he hc hy hm k0 k1 k2 k3 
  go_enter Try.func10, Try.ntmps10
  go_wp2_with (first
    | (refine wpList_load_row rfl 23 (.tmp 3) rfl w.heap.size rfl 23 x.cells (0, 0) _ H0.out.2.1 Try.underlying23 rfl HS.out.plan ?_)
    | (go_at_call 8; refine (HC.out _ H0.out.1).mono ?_; rintro e w1 ⟨rfl, hb⟩; have H1 := Lib.hid (k_then hb H0.out.1); have HY1 := Lib.hid (k_later hb H0.out.2.2.1); have HR1 := Lib.hid (k_later hb H0.out.2.2.2); obtain ⟨a0, a1, a2, a3, a4⟩ := y_four HY1.out; clear hb HC)
    | (go_at_call 24; with_reducible refine (HM.out _).mono ?_; (rintro e w2 ⟨rfl, hb⟩; have H2 := Lib.hid (k_then hb H1.out); have HY2 := Lib.hid (k_later hb HY1.out); have HR2 := Lib.hid (k_later hb HR1.out); clear a0 a1 a2 a3 a4; obtain ⟨a0, a1, a2, a3, a4⟩ := y_four HY2.out; obtain ⟨c0, c1, c2, c3, c4⟩ := y_four HR2.out; clear hb HM)))
  exact bodyPost_ret (results_sy3 rfl _ _ _ 25 _ (0, 0) _ rfl rfl rfl (y_store HR2.out _ _ _ _) Try.underlying25 rfl sy_info) rfl ⟨rfl, y_below H2.out (by omega) _ _ _ _⟩

set_option maxRecDepth 100000 in
set_option maxHeartbeats 4000000 in
theorem rturn_bad0 (x : Pl) (y : Sy) (w : World) (s : Sl) (l : List Int) (h : RSrc inC 1 w s l) (hn : s.n ≤ 1000) (he : corE x l = 0) (hy : mayY y = false) : Calls Try.prog 10 #[.agg x.cells, y.v, s.v] w fun e w' => e = .returned (Tn.v ⟨zeroY, 0, 150⟩) ∧ Below w.heap.size w w' := by
  have hc := fun W (hb : Below w.heap.size w W) => refCorrection_any x W s l (h.later hb) hn
  unfold corV at hc
  rw [he] at hc
  have HC := Lib.hid hc
  have HS := Lib.hid x.cellsL
  have hm := fun W => refMay_any y W
  rw [hy] at hm
  have HM := Lib.hid hm
  obtain ⟨r, t, u, b⟩ := y
  unfold Tn.v
  unfold zeroY
  unfold Sy.v at *
  dsimp only at *
  obtain ⟨k0, k1, k2, k3⟩ := boxes_turn x #[.int .i64 r, .int .i64 t, .int .i64 u, .bool b] w
  have H0 := Lib.hid (And.intro k0 (And.intro k1 (And.intro k2 k3)))
  generalize corB x l = by_ at *
  obtain ⟨A, n, c⟩ := s
  unfold Sl.v at *
  dsimp only at *
  clear h hn he hc hy hm k0 k1 k2 k3 
  go_enter Try.func10, Try.ntmps10
  go_wp2_with (first
    | (refine wpList_load_row rfl 23 (.tmp 3) rfl w.heap.size rfl 23 x.cells (0, 0) _ H0.out.2.1 Try.underlying23 rfl HS.out.plan ?_)
    | (go_at_call 8; refine (HC.out _ H0.out.1).mono ?_; rintro e w1 ⟨rfl, hb⟩; have H1 := Lib.hid (k_then hb H0.out.1); have HY1 := Lib.hid (k_later hb H0.out.2.2.1); have HR1 := Lib.hid (k_later hb H0.out.2.2.2); obtain ⟨a0, a1, a2, a3, a4⟩ := y_four HY1.out; clear hb HC)
    | (go_at_call 24; with_reducible refine (HM.out _).mono ?_; (rintro e w2 ⟨rfl, hb⟩; have H2 := Lib.hid (k_then hb H1.out); have HY2 := Lib.hid (k_later hb HY1.out); have HR2 := Lib.hid (k_later hb HR1.out); clear a0 a1 a2 a3 a4; obtain ⟨a0, a1, a2, a3, a4⟩ := y_four HY2.out; obtain ⟨c0, c1, c2, c3, c4⟩ := y_four HR2.out; clear hb HM)))
  exact bodyPost_ret (results_sy3 rfl _ _ _ 25 _ (0, 0) _ rfl rfl rfl (y_store HR2.out _ _ _ _) Try.underlying25 rfl sy_info) rfl ⟨rfl, y_below H2.out (by omega) _ _ _ _⟩

set_option maxRecDepth 100000 in
set_option maxHeartbeats 4000000 in
theorem rturn_bad1 (x : Pl) (y : Sy) (w : World) (s : Sl) (l : List Int) (h : RSrc inC 1 w s l) (hn : s.n ≤ 1000) (he : corE x l = 151) (hy : mayY y = false) : Calls Try.prog 10 #[.agg x.cells, y.v, s.v] w fun e w' => e = .returned (Tn.v ⟨zeroY, 0, 150⟩) ∧ Below w.heap.size w w' := by
  have hc := fun W (hb : Below w.heap.size w W) => refCorrection_any x W s l (h.later hb) hn
  unfold corV at hc
  rw [he] at hc
  have HC := Lib.hid hc
  have HS := Lib.hid x.cellsL
  have hm := fun W => refMay_any y W
  rw [hy] at hm
  have HM := Lib.hid hm
  obtain ⟨r, t, u, b⟩ := y
  unfold Tn.v
  unfold zeroY
  unfold Sy.v at *
  dsimp only at *
  obtain ⟨k0, k1, k2, k3⟩ := boxes_turn x #[.int .i64 r, .int .i64 t, .int .i64 u, .bool b] w
  have H0 := Lib.hid (And.intro k0 (And.intro k1 (And.intro k2 k3)))
  generalize corB x l = by_ at *
  obtain ⟨A, n, c⟩ := s
  unfold Sl.v at *
  dsimp only at *
  clear h hn he hc hy hm k0 k1 k2 k3 
  go_enter Try.func10, Try.ntmps10
  go_wp2_with (first
    | (refine wpList_load_row rfl 23 (.tmp 3) rfl w.heap.size rfl 23 x.cells (0, 0) _ H0.out.2.1 Try.underlying23 rfl HS.out.plan ?_)
    | (go_at_call 8; refine (HC.out _ H0.out.1).mono ?_; rintro e w1 ⟨rfl, hb⟩; have H1 := Lib.hid (k_then hb H0.out.1); have HY1 := Lib.hid (k_later hb H0.out.2.2.1); have HR1 := Lib.hid (k_later hb H0.out.2.2.2); obtain ⟨a0, a1, a2, a3, a4⟩ := y_four HY1.out; clear hb HC)
    | (go_at_call 24; with_reducible refine (HM.out _).mono ?_; (rintro e w2 ⟨rfl, hb⟩; have H2 := Lib.hid (k_then hb H1.out); have HY2 := Lib.hid (k_later hb HY1.out); have HR2 := Lib.hid (k_later hb HR1.out); clear a0 a1 a2 a3 a4; obtain ⟨a0, a1, a2, a3, a4⟩ := y_four HY2.out; obtain ⟨c0, c1, c2, c3, c4⟩ := y_four HR2.out; clear hb HM)))
  exact bodyPost_ret (results_sy3 rfl _ _ _ 25 _ (0, 0) _ rfl rfl rfl (y_store HR2.out _ _ _ _) Try.underlying25 rfl sy_info) rfl ⟨rfl, y_below H2.out (by omega) _ _ _ _⟩

set_option maxRecDepth 100000 in
set_option maxHeartbeats 4000000 in
theorem rturn_was (x : Pl) (y : Sy) (w : World) (s : Sl) (l : List Int) (h : RSrc inC 1 w s l) (hn : s.n ≤ 1000) (ev : Int) (hev : ev = 0 ∨ ev = 151) (he : corE x l = ev) (hy : mayY y = true) (hl : y.b = true) : Calls Try.prog 10 #[.agg x.cells, y.v, s.v] w fun e w' => e = .returned (Tn.v ⟨lostY y, 0, 151⟩) ∧ Below w.heap.size w w' := by
  have hc := fun W (hb : Below w.heap.size w W) => refCorrection_any x W s l (h.later hb) hn
  unfold corV at hc
  rw [he] at hc
  have HC := Lib.hid hc
  have HS := Lib.hid x.cellsL
  have hm := fun W => refMay_any y W
  rw [hy] at hm
  have HM := Lib.hid hm
  have v1 : (ev == 150) = false := beq_eq_false_iff_ne.2 (by omega)
  clear hev
  obtain ⟨r, t, u, b⟩ := y
  unfold Tn.v
  unfold lostY
  unfold Sy.v at *
  dsimp only at *
  subst hl
  obtain ⟨k0, k1, k2, k3⟩ := boxes_turn x #[.int .i64 r, .int .i64 t, .int .i64 u, .bool true] w
  have H0 := Lib.hid (And.intro k0 (And.intro k1 (And.intro k2 k3)))
  generalize corB x l = by_ at *
  obtain ⟨A, n, c⟩ := s
  unfold Sl.v at *
  dsimp only at *
  clear h hn he hc hy hm k0 k1 k2 k3 
  go_enter Try.func10, Try.ntmps10
  go_wp2_with (first
    | (refine wpList_load_row rfl 23 (.tmp 3) rfl w.heap.size rfl 23 x.cells (0, 0) _ H0.out.2.1 Try.underlying23 rfl HS.out.plan ?_)
    | (go_at_call 8; refine (HC.out _ H0.out.1).mono ?_; rintro e w1 ⟨rfl, hb⟩; have H1 := Lib.hid (k_then hb H0.out.1); have HY1 := Lib.hid (k_later hb H0.out.2.2.1); have HR1 := Lib.hid (k_later hb H0.out.2.2.2); obtain ⟨a0, a1, a2, a3, a4⟩ := y_four HY1.out; clear hb HC)
    | (go_at_call 24; with_reducible refine (HM.out _).mono ?_; (rintro e w2 ⟨rfl, hb⟩; have H2 := Lib.hid (k_then hb H1.out); have HY2 := Lib.hid (k_later hb HY1.out); have HR2 := Lib.hid (k_later hb HR1.out); clear a0 a1 a2 a3 a4; obtain ⟨a0, a1, a2, a3, a4⟩ := y_four HY2.out; obtain ⟨c0, c1, c2, c3, c4⟩ := y_four HR2.out; clear hb HM)))
  exact bodyPost_ret (results_sy3 rfl _ _ _ 25 _ (0, 0) _ rfl rfl rfl (y_store HR2.out _ _ _ _) Try.underlying25 rfl sy_info) rfl ⟨rfl, y_below H2.out (by omega) _ _ _ _⟩

set_option maxRecDepth 100000 in
set_option maxHeartbeats 4000000 in
theorem rturn_lost (x : Pl) (y : Sy) (w : World) (s : Sl) (l : List Int) (h : RSrc inC 1 w s l) (hn : s.n ≤ 1000) (he : corE x l = 151) (hy : mayY y = true) (hl : y.b = false) : Calls Try.prog 10 #[.agg x.cells, y.v, s.v] w fun e w' => e = .returned (Tn.v ⟨lostY y, 0, 151⟩) ∧ Below w.heap.size w w' := by
  have hc := fun W (hb : Below w.heap.size w W) => refCorrection_any x W s l (h.later hb) hn
  unfold corV at hc
  rw [he] at hc
  have HC := Lib.hid hc
  have HS := Lib.hid x.cellsL
  have hm := fun W => refMay_any y W
  rw [hy] at hm
  have HM := Lib.hid hm
  obtain ⟨r, t, u, b⟩ := y
  unfold Tn.v
  unfold lostY
  unfold Sy.v at *
  dsimp only at *
  subst hl
  obtain ⟨k0, k1, k2, k3⟩ := boxes_turn x #[.int .i64 r, .int .i64 t, .int .i64 u, .bool false] w
  have H0 := Lib.hid (And.intro k0 (And.intro k1 (And.intro k2 k3)))
  generalize corB x l = by_ at *
  obtain ⟨A, n, c⟩ := s
  unfold Sl.v at *
  dsimp only at *
  clear h hn he hc hy hm k0 k1 k2 k3 
  go_enter Try.func10, Try.ntmps10
  go_wp2_with (first
    | (refine wpList_load_row rfl 23 (.tmp 3) rfl w.heap.size rfl 23 x.cells (0, 0) _ H0.out.2.1 Try.underlying23 rfl HS.out.plan ?_)
    | (go_at_call 8; refine (HC.out _ H0.out.1).mono ?_; rintro e w1 ⟨rfl, hb⟩; have H1 := Lib.hid (k_then hb H0.out.1); have HY1 := Lib.hid (k_later hb H0.out.2.2.1); have HR1 := Lib.hid (k_later hb H0.out.2.2.2); obtain ⟨a0, a1, a2, a3, a4⟩ := y_four HY1.out; clear hb HC)
    | (go_at_call 24; with_reducible refine (HM.out _).mono ?_; (rintro e w2 ⟨rfl, hb⟩; have H2 := Lib.hid (k_then hb H1.out); have HY2 := Lib.hid (k_later hb HY1.out); have HR2 := Lib.hid (k_later hb HR1.out); clear a0 a1 a2 a3 a4; obtain ⟨a0, a1, a2, a3, a4⟩ := y_four HY2.out; obtain ⟨c0, c1, c2, c3, c4⟩ := y_four HR2.out; clear hb HM)))
  exact bodyPost_ret (results_sy3 rfl _ _ _ 25 _ (0, 0) _ rfl rfl rfl (y_store HR2.out _ _ _ _) Try.underlying25 rfl sy_info) rfl ⟨rfl, y_below H2.out (by omega) _ _ _ _⟩

set_option maxRecDepth 100000 in
set_option maxHeartbeats 4000000 in
theorem rturn_onz (x : Pl) (y : Sy) (w : World) (s : Sl) (l : List Int) (h : RSrc inC 1 w s l) (hn : s.n ≤ 1000) (he : corE x l = 0) (hy : mayY y = true) (hl : y.b = false) (hby : corB x l = 0) (hx : mayY (nextY (corB x l) y) = true) : Calls Try.prog 10 #[.agg x.cells, y.v, s.v] w fun e w' => e = .returned (Tn.v ⟨nextY (corB x l) y, corB x l, 0⟩) ∧ Below w.heap.size w w' := by
  have hc := fun W (hb : Below w.heap.size w W) => refCorrection_any x W s l (h.later hb) hn
  unfold corV at hc
  rw [he] at hc
  have HC := Lib.hid hc
  have HS := Lib.hid x.cellsL
  have hm := fun W => refMay_any y W
  rw [hy] at hm
  have HM := Lib.hid hm
  have hz := fun W => refMay_any (nextY (corB x l) y) W
  rw [hx] at hz
  have hp := may_parts hy
  have hbb := corB_bound x l
  obtain ⟨r, t, u, b⟩ := y
  unfold Tn.v
  unfold nextY at *
  unfold Sy.v at *
  dsimp only at *
  subst hl
  obtain ⟨k0, k1, k2, k3⟩ := boxes_turn x #[.int .i64 r, .int .i64 t, .int .i64 u, .bool false] w
  have H0 := Lib.hid (And.intro k0 (And.intro k1 (And.intro k2 k3)))
  generalize corB x l = by_ at *
  subst hby
  obtain ⟨r1, hr1⟩ : ∃ r1, r1 = r + 1 := ⟨_, rfl⟩
  have s1 : IntKind.i64.wrap (r + 1) = r1 := by rw [hr1]; exact IntWalk.i64_in _ (by omega)
  have s3 : IntKind.i64.wrap u = u := IntWalk.i64_in _ (by omega)
  have e3 : u + 0 = u := Int.add_zero u
  have e4 : t + oneN 0 = t := by unfold oneN; rw [if_pos rfl]; omega
  rw [← hr1, e3, e4] at hz
  rw [← hr1, e3, e4]
  have HM2 := Lib.hid hz
  clear hr1 hz e4 hp hbb hx
  obtain ⟨A, n, c⟩ := s
  unfold Sl.v at *
  dsimp only at *
  clear h hn he hc hy hm k0 k1 k2 k3 
  go_enter Try.func10, Try.ntmps10
  go_wp2_with (first
    | (refine wpList_load_row rfl 23 (.tmp 3) rfl w.heap.size rfl 23 x.cells (0, 0) _ H0.out.2.1 Try.underlying23 rfl HS.out.plan ?_)
    | (go_at_call 8; refine (HC.out _ H0.out.1).mono ?_; rintro e w1 ⟨rfl, hb⟩; have H1 := Lib.hid (k_then hb H0.out.1); have HY1 := Lib.hid (k_later hb H0.out.2.2.1); have HR1 := Lib.hid (k_later hb H0.out.2.2.2); obtain ⟨a0, a1, a2, a3, a4⟩ := y_four HY1.out; clear hb HC)
    | (go_at_call 24; with_reducible refine (HM.out _).mono ?_; (rintro e w2 ⟨rfl, hb⟩; have H2 := Lib.hid (k_then hb H1.out); have HY2 := Lib.hid (k_later hb HY1.out); have HR2 := Lib.hid (k_later hb HR1.out); clear a0 a1 a2 a3 a4; obtain ⟨a0, a1, a2, a3, a4⟩ := y_four HY2.out; obtain ⟨c0, c1, c2, c3, c4⟩ := y_four HR2.out; clear hb HM))
    | (go_at_call 24; with_reducible refine (HM2.out _).mono ?_; (rintro e w4 ⟨rfl, hb⟩; have H4 := Lib.hid (k_then hb (H2.out.alloc H2.out.size _)); have HR4 := Lib.hid (k_later hb (HR2.out.alloc _)); have HT4 := Lib.hid (k_later hb (Whole.new w2 _ _)); clear a0 a1 a2 a3 a4 c0 c1 c2 c3 c4; obtain ⟨c0, c1, c2, c3, c4⟩ := y_four HR4.out; obtain ⟨a0, a1, a2, a3, a4⟩ := y_four HT4.out; clear hb HM2)))
  exact bodyPost_ret (results_sy3 rfl _ _ _ 25 _ (0, 0) _ rfl rfl rfl (y_store HR4.out _ _ _ _) Try.underlying25 rfl sy_info) rfl ⟨rfl, y_below H4.out (by omega) _ _ _ _⟩

set_option maxRecDepth 100000 in
set_option maxHeartbeats 4000000 in
theorem rturn_onp (x : Pl) (y : Sy) (w : World) (s : Sl) (l : List Int) (h : RSrc inC 1 w s l) (hn : s.n ≤ 1000) (he : corE x l = 0) (hy : mayY y = true) (hl : y.b = false) (hby : 0 < corB x l) (hx : mayY (nextY (corB x l) y) = true) : Calls Try.prog 10 #[.agg x.cells, y.v, s.v] w fun e w' => e = .returned (Tn.v ⟨nextY (corB x l) y, corB x l, 0⟩) ∧ Below w.heap.size w w' := by
  have hc := fun W (hb : Below w.heap.size w W) => refCorrection_any x W s l (h.later hb) hn
  unfold corV at hc
  rw [he] at hc
  have HC := Lib.hid hc
  have HS := Lib.hid x.cellsL
  have hm := fun W => refMay_any y W
  rw [hy] at hm
  have HM := Lib.hid hm
  have hz := fun W => refMay_any (nextY (corB x l) y) W
  rw [hx] at hz
  have hp := may_parts hy
  have hbb := corB_bound x l
  obtain ⟨r, t, u, b⟩ := y
  unfold Tn.v
  unfold nextY at *
  unfold Sy.v at *
  dsimp only at *
  subst hl
  obtain ⟨k0, k1, k2, k3⟩ := boxes_turn x #[.int .i64 r, .int .i64 t, .int .i64 u, .bool false] w
  have H0 := Lib.hid (And.intro k0 (And.intro k1 (And.intro k2 k3)))
  generalize corB x l = by_ at *
  obtain ⟨r1, hr1⟩ : ∃ r1, r1 = r + 1 := ⟨_, rfl⟩
  obtain ⟨t1, ht1⟩ : ∃ t1, t1 = t + 1 := ⟨_, rfl⟩
  obtain ⟨u1, hu1⟩ : ∃ u1, u1 = u + by_ := ⟨_, rfl⟩
  have s1 : IntKind.i64.wrap (r + 1) = r1 := by rw [hr1]; exact IntWalk.i64_in _ (by omega)
  have s2 : IntKind.i64.wrap (t + 1) = t1 := by rw [ht1]; exact IntWalk.i64_in _ (by omega)
  have s3 : IntKind.i64.wrap (u + by_) = u1 := by rw [hu1]; exact IntWalk.i64_in _ (by omega)
  have e4 : t + oneN by_ = t1 := by unfold oneN; rw [if_neg (by omega)]; exact ht1.symm
  rw [← hr1, ← hu1, e4] at hz
  rw [← hr1, ← hu1, e4]
  have HM2 := Lib.hid hz
  have d1 : decide (0 < by_) = true := decide_eq_true hby
  clear hr1 ht1 hu1 hz e4 hp hbb hx hby
  obtain ⟨A, n, c⟩ := s
  unfold Sl.v at *
  dsimp only at *
  clear h hn he hc hy hm k0 k1 k2 k3 
  go_enter Try.func10, Try.ntmps10
  go_wp2_with (first
    | (refine wpList_load_row rfl 23 (.tmp 3) rfl w.heap.size rfl 23 x.cells (0, 0) _ H0.out.2.1 Try.underlying23 rfl HS.out.plan ?_)
    | (go_at_call 8; refine (HC.out _ H0.out.1).mono ?_; rintro e w1 ⟨rfl, hb⟩; have H1 := Lib.hid (k_then hb H0.out.1); have HY1 := Lib.hid (k_later hb H0.out.2.2.1); have HR1 := Lib.hid (k_later hb H0.out.2.2.2); obtain ⟨a0, a1, a2, a3, a4⟩ := y_four HY1.out; clear hb HC)
    | (go_at_call 24; with_reducible refine (HM.out _).mono ?_; (rintro e w2 ⟨rfl, hb⟩; have H2 := Lib.hid (k_then hb H1.out); have HY2 := Lib.hid (k_later hb HY1.out); have HR2 := Lib.hid (k_later hb HR1.out); clear a0 a1 a2 a3 a4; obtain ⟨a0, a1, a2, a3, a4⟩ := y_four HY2.out; obtain ⟨c0, c1, c2, c3, c4⟩ := y_four HR2.out; clear hb HM))
    | (go_at_call 24; with_reducible refine (HM2.out _).mono ?_; (rintro e w4 ⟨rfl, hb⟩; have H4 := Lib.hid (k_then hb (H2.out.alloc H2.out.size _)); have HR4 := Lib.hid (k_later hb (HR2.out.alloc _)); have HT4 := Lib.hid (k_later hb (Whole.new w2 _ _)); clear a0 a1 a2 a3 a4 c0 c1 c2 c3 c4; obtain ⟨c0, c1, c2, c3, c4⟩ := y_four HR4.out; obtain ⟨a0, a1, a2, a3, a4⟩ := y_four HT4.out; clear hb HM2)))
  exact bodyPost_ret (results_sy3 rfl _ _ _ 25 _ (0, 0) _ rfl rfl rfl (y_store HR4.out _ _ _ _) Try.underlying25 rfl sy_info) rfl ⟨rfl, y_below H4.out (by omega) _ _ _ _⟩

set_option maxRecDepth 100000 in
set_option maxHeartbeats 4000000 in
theorem rturn_onn (x : Pl) (y : Sy) (w : World) (s : Sl) (l : List Int) (h : RSrc inC 1 w s l) (hn : s.n ≤ 1000) (he : corE x l = 0) (hy : mayY y = true) (hl : y.b = false) (hby : corB x l < 0) (hx : mayY (nextY (corB x l) y) = true) : Calls Try.prog 10 #[.agg x.cells, y.v, s.v] w fun e w' => e = .returned (Tn.v ⟨nextY (corB x l) y, corB x l, 0⟩) ∧ Below w.heap.size w w' := by
  have hc := fun W (hb : Below w.heap.size w W) => refCorrection_any x W s l (h.later hb) hn
  unfold corV at hc
  rw [he] at hc
  have HC := Lib.hid hc
  have HS := Lib.hid x.cellsL
  have hm := fun W => refMay_any y W
  rw [hy] at hm
  have HM := Lib.hid hm
  have hz := fun W => refMay_any (nextY (corB x l) y) W
  rw [hx] at hz
  have hp := may_parts hy
  have hbb := corB_bound x l
  obtain ⟨r, t, u, b⟩ := y
  unfold Tn.v
  unfold nextY at *
  unfold Sy.v at *
  dsimp only at *
  subst hl
  obtain ⟨k0, k1, k2, k3⟩ := boxes_turn x #[.int .i64 r, .int .i64 t, .int .i64 u, .bool false] w
  have H0 := Lib.hid (And.intro k0 (And.intro k1 (And.intro k2 k3)))
  generalize corB x l = by_ at *
  obtain ⟨r1, hr1⟩ : ∃ r1, r1 = r + 1 := ⟨_, rfl⟩
  obtain ⟨t1, ht1⟩ : ∃ t1, t1 = t + 1 := ⟨_, rfl⟩
  obtain ⟨u1, hu1⟩ : ∃ u1, u1 = u + by_ := ⟨_, rfl⟩
  have s1 : IntKind.i64.wrap (r + 1) = r1 := by rw [hr1]; exact IntWalk.i64_in _ (by omega)
  have s2 : IntKind.i64.wrap (t + 1) = t1 := by rw [ht1]; exact IntWalk.i64_in _ (by omega)
  have s3 : IntKind.i64.wrap (u + by_) = u1 := by rw [hu1]; exact IntWalk.i64_in _ (by omega)
  have e4 : t + oneN by_ = t1 := by unfold oneN; rw [if_neg (by omega)]; exact ht1.symm
  rw [← hr1, ← hu1, e4] at hz
  rw [← hr1, ← hu1, e4]
  have HM2 := Lib.hid hz
  have d1 : decide (0 < by_) = false := decide_eq_false (by omega)
  have d2 : decide (by_ < 0) = true := decide_eq_true hby
  clear hr1 ht1 hu1 hz e4 hp hbb hx hby
  obtain ⟨A, n, c⟩ := s
  unfold Sl.v at *
  dsimp only at *
  clear h hn he hc hy hm k0 k1 k2 k3 
  go_enter Try.func10, Try.ntmps10
  go_wp2_with (first
    | (refine wpList_load_row rfl 23 (.tmp 3) rfl w.heap.size rfl 23 x.cells (0, 0) _ H0.out.2.1 Try.underlying23 rfl HS.out.plan ?_)
    | (go_at_call 8; refine (HC.out _ H0.out.1).mono ?_; rintro e w1 ⟨rfl, hb⟩; have H1 := Lib.hid (k_then hb H0.out.1); have HY1 := Lib.hid (k_later hb H0.out.2.2.1); have HR1 := Lib.hid (k_later hb H0.out.2.2.2); obtain ⟨a0, a1, a2, a3, a4⟩ := y_four HY1.out; clear hb HC)
    | (go_at_call 24; with_reducible refine (HM.out _).mono ?_; (rintro e w2 ⟨rfl, hb⟩; have H2 := Lib.hid (k_then hb H1.out); have HY2 := Lib.hid (k_later hb HY1.out); have HR2 := Lib.hid (k_later hb HR1.out); clear a0 a1 a2 a3 a4; obtain ⟨a0, a1, a2, a3, a4⟩ := y_four HY2.out; obtain ⟨c0, c1, c2, c3, c4⟩ := y_four HR2.out; clear hb HM))
    | (go_at_call 24; with_reducible refine (HM2.out _).mono ?_; (rintro e w4 ⟨rfl, hb⟩; have H4 := Lib.hid (k_then hb (H2.out.alloc H2.out.size _)); have HR4 := Lib.hid (k_later hb (HR2.out.alloc _)); have HT4 := Lib.hid (k_later hb (Whole.new w2 _ _)); clear a0 a1 a2 a3 a4 c0 c1 c2 c3 c4; obtain ⟨c0, c1, c2, c3, c4⟩ := y_four HR4.out; obtain ⟨a0, a1, a2, a3, a4⟩ := y_four HT4.out; clear hb HM2)))
  exact bodyPost_ret (results_sy3 rfl _ _ _ 25 _ (0, 0) _ rfl rfl rfl (y_store HR4.out _ _ _ _) Try.underlying25 rfl sy_info) rfl ⟨rfl, y_below H4.out (by omega) _ _ _ _⟩

set_option maxRecDepth 100000 in
set_option maxHeartbeats 4000000 in
theorem rturn_overz (x : Pl) (y : Sy) (w : World) (s : Sl) (l : List Int) (h : RSrc inC 1 w s l) (hn : s.n ≤ 1000) (he : corE x l = 0) (hy : mayY y = true) (hl : y.b = false) (hby : corB x l = 0) (hx : mayY (nextY (corB x l) y) = false) : Calls Try.prog 10 #[.agg x.cells, y.v, s.v] w fun e w' => e = .returned (Tn.v ⟨zeroY, 0, 150⟩) ∧ Below w.heap.size w w' := by
  have hc := fun W (hb : Below w.heap.size w W) => refCorrection_any x W s l (h.later hb) hn
  unfold corV at hc
  rw [he] at hc
  have HC := Lib.hid hc
  have HS := Lib.hid x.cellsL
  have hm := fun W => refMay_any y W
  rw [hy] at hm
  have HM := Lib.hid hm
  have hz := fun W => refMay_any (nextY (corB x l) y) W
  rw [hx] at hz
  have hp := may_parts hy
  have hbb := corB_bound x l
  obtain ⟨r, t, u, b⟩ := y
  unfold Tn.v
  unfold zeroY
  unfold nextY at *
  unfold Sy.v at *
  dsimp only at *
  subst hl
  obtain ⟨k0, k1, k2, k3⟩ := boxes_turn x #[.int .i64 r, .int .i64 t, .int .i64 u, .bool false] w
  have H0 := Lib.hid (And.intro k0 (And.intro k1 (And.intro k2 k3)))
  generalize corB x l = by_ at *
  subst hby
  obtain ⟨r1, hr1⟩ : ∃ r1, r1 = r + 1 := ⟨_, rfl⟩
  have s1 : IntKind.i64.wrap (r + 1) = r1 := by rw [hr1]; exact IntWalk.i64_in _ (by omega)
  have s3 : IntKind.i64.wrap u = u := IntWalk.i64_in _ (by omega)
  have e3 : u + 0 = u := Int.add_zero u
  have e4 : t + oneN 0 = t := by unfold oneN; rw [if_pos rfl]; omega
  rw [← hr1, e3, e4] at hz
  have HM2 := Lib.hid hz
  clear hr1 hz e4 hp hbb hx
  obtain ⟨A, n, c⟩ := s
  unfold Sl.v at *
  dsimp only at *
  clear h hn he hc hy hm k0 k1 k2 k3 
  go_enter Try.func10, Try.ntmps10
  go_wp2_with (first
    | (refine wpList_load_row rfl 23 (.tmp 3) rfl w.heap.size rfl 23 x.cells (0, 0) _ H0.out.2.1 Try.underlying23 rfl HS.out.plan ?_)
    | (go_at_call 8; refine (HC.out _ H0.out.1).mono ?_; rintro e w1 ⟨rfl, hb⟩; have H1 := Lib.hid (k_then hb H0.out.1); have HY1 := Lib.hid (k_later hb H0.out.2.2.1); have HR1 := Lib.hid (k_later hb H0.out.2.2.2); obtain ⟨a0, a1, a2, a3, a4⟩ := y_four HY1.out; clear hb HC)
    | (go_at_call 24; with_reducible refine (HM.out _).mono ?_; (rintro e w2 ⟨rfl, hb⟩; have H2 := Lib.hid (k_then hb H1.out); have HY2 := Lib.hid (k_later hb HY1.out); have HR2 := Lib.hid (k_later hb HR1.out); clear a0 a1 a2 a3 a4; obtain ⟨a0, a1, a2, a3, a4⟩ := y_four HY2.out; obtain ⟨c0, c1, c2, c3, c4⟩ := y_four HR2.out; clear hb HM))
    | (go_at_call 24; with_reducible refine (HM2.out _).mono ?_; (rintro e w4 ⟨rfl, hb⟩; have H4 := Lib.hid (k_then hb (H2.out.alloc H2.out.size _)); have HR4 := Lib.hid (k_later hb (HR2.out.alloc _)); have HT4 := Lib.hid (k_later hb (Whole.new w2 _ _)); clear a0 a1 a2 a3 a4 c0 c1 c2 c3 c4; obtain ⟨c0, c1, c2, c3, c4⟩ := y_four HR4.out; obtain ⟨a0, a1, a2, a3, a4⟩ := y_four HT4.out; clear hb HM2)))
  exact bodyPost_ret (results_sy3 rfl _ _ _ 25 _ (0, 0) _ rfl rfl rfl (y_store HR4.out _ _ _ _) Try.underlying25 rfl sy_info) rfl ⟨rfl, y_below H4.out (by omega) _ _ _ _⟩

set_option maxRecDepth 100000 in
set_option maxHeartbeats 4000000 in
theorem rturn_overp (x : Pl) (y : Sy) (w : World) (s : Sl) (l : List Int) (h : RSrc inC 1 w s l) (hn : s.n ≤ 1000) (he : corE x l = 0) (hy : mayY y = true) (hl : y.b = false) (hby : 0 < corB x l) (hx : mayY (nextY (corB x l) y) = false) : Calls Try.prog 10 #[.agg x.cells, y.v, s.v] w fun e w' => e = .returned (Tn.v ⟨zeroY, 0, 150⟩) ∧ Below w.heap.size w w' := by
  have hc := fun W (hb : Below w.heap.size w W) => refCorrection_any x W s l (h.later hb) hn
  unfold corV at hc
  rw [he] at hc
  have HC := Lib.hid hc
  have HS := Lib.hid x.cellsL
  have hm := fun W => refMay_any y W
  rw [hy] at hm
  have HM := Lib.hid hm
  have hz := fun W => refMay_any (nextY (corB x l) y) W
  rw [hx] at hz
  have hp := may_parts hy
  have hbb := corB_bound x l
  obtain ⟨r, t, u, b⟩ := y
  unfold Tn.v
  unfold zeroY
  unfold nextY at *
  unfold Sy.v at *
  dsimp only at *
  subst hl
  obtain ⟨k0, k1, k2, k3⟩ := boxes_turn x #[.int .i64 r, .int .i64 t, .int .i64 u, .bool false] w
  have H0 := Lib.hid (And.intro k0 (And.intro k1 (And.intro k2 k3)))
  generalize corB x l = by_ at *
  obtain ⟨r1, hr1⟩ : ∃ r1, r1 = r + 1 := ⟨_, rfl⟩
  obtain ⟨t1, ht1⟩ : ∃ t1, t1 = t + 1 := ⟨_, rfl⟩
  obtain ⟨u1, hu1⟩ : ∃ u1, u1 = u + by_ := ⟨_, rfl⟩
  have s1 : IntKind.i64.wrap (r + 1) = r1 := by rw [hr1]; exact IntWalk.i64_in _ (by omega)
  have s2 : IntKind.i64.wrap (t + 1) = t1 := by rw [ht1]; exact IntWalk.i64_in _ (by omega)
  have s3 : IntKind.i64.wrap (u + by_) = u1 := by rw [hu1]; exact IntWalk.i64_in _ (by omega)
  have e4 : t + oneN by_ = t1 := by unfold oneN; rw [if_neg (by omega)]; exact ht1.symm
  rw [← hr1, ← hu1, e4] at hz
  have HM2 := Lib.hid hz
  have d1 : decide (0 < by_) = true := decide_eq_true hby
  clear hr1 ht1 hu1 hz e4 hp hbb hx hby
  obtain ⟨A, n, c⟩ := s
  unfold Sl.v at *
  dsimp only at *
  clear h hn he hc hy hm k0 k1 k2 k3 
  go_enter Try.func10, Try.ntmps10
  go_wp2_with (first
    | (refine wpList_load_row rfl 23 (.tmp 3) rfl w.heap.size rfl 23 x.cells (0, 0) _ H0.out.2.1 Try.underlying23 rfl HS.out.plan ?_)
    | (go_at_call 8; refine (HC.out _ H0.out.1).mono ?_; rintro e w1 ⟨rfl, hb⟩; have H1 := Lib.hid (k_then hb H0.out.1); have HY1 := Lib.hid (k_later hb H0.out.2.2.1); have HR1 := Lib.hid (k_later hb H0.out.2.2.2); obtain ⟨a0, a1, a2, a3, a4⟩ := y_four HY1.out; clear hb HC)
    | (go_at_call 24; with_reducible refine (HM.out _).mono ?_; (rintro e w2 ⟨rfl, hb⟩; have H2 := Lib.hid (k_then hb H1.out); have HY2 := Lib.hid (k_later hb HY1.out); have HR2 := Lib.hid (k_later hb HR1.out); clear a0 a1 a2 a3 a4; obtain ⟨a0, a1, a2, a3, a4⟩ := y_four HY2.out; obtain ⟨c0, c1, c2, c3, c4⟩ := y_four HR2.out; clear hb HM))
    | (go_at_call 24; with_reducible refine (HM2.out _).mono ?_; (rintro e w4 ⟨rfl, hb⟩; have H4 := Lib.hid (k_then hb (H2.out.alloc H2.out.size _)); have HR4 := Lib.hid (k_later hb (HR2.out.alloc _)); have HT4 := Lib.hid (k_later hb (Whole.new w2 _ _)); clear a0 a1 a2 a3 a4 c0 c1 c2 c3 c4; obtain ⟨c0, c1, c2, c3, c4⟩ := y_four HR4.out; obtain ⟨a0, a1, a2, a3, a4⟩ := y_four HT4.out; clear hb HM2)))
  exact bodyPost_ret (results_sy3 rfl _ _ _ 25 _ (0, 0) _ rfl rfl rfl (y_store HR4.out _ _ _ _) Try.underlying25 rfl sy_info) rfl ⟨rfl, y_below H4.out (by omega) _ _ _ _⟩

set_option maxRecDepth 100000 in
set_option maxHeartbeats 4000000 in
theorem rturn_overn (x : Pl) (y : Sy) (w : World) (s : Sl) (l : List Int) (h : RSrc inC 1 w s l) (hn : s.n ≤ 1000) (he : corE x l = 0) (hy : mayY y = true) (hl : y.b = false) (hby : corB x l < 0) (hx : mayY (nextY (corB x l) y) = false) : Calls Try.prog 10 #[.agg x.cells, y.v, s.v] w fun e w' => e = .returned (Tn.v ⟨zeroY, 0, 150⟩) ∧ Below w.heap.size w w' := by
  have hc := fun W (hb : Below w.heap.size w W) => refCorrection_any x W s l (h.later hb) hn
  unfold corV at hc
  rw [he] at hc
  have HC := Lib.hid hc
  have HS := Lib.hid x.cellsL
  have hm := fun W => refMay_any y W
  rw [hy] at hm
  have HM := Lib.hid hm
  have hz := fun W => refMay_any (nextY (corB x l) y) W
  rw [hx] at hz
  have hp := may_parts hy
  have hbb := corB_bound x l
  obtain ⟨r, t, u, b⟩ := y
  unfold Tn.v
  unfold zeroY
  unfold nextY at *
  unfold Sy.v at *
  dsimp only at *
  subst hl
  obtain ⟨k0, k1, k2, k3⟩ := boxes_turn x #[.int .i64 r, .int .i64 t, .int .i64 u, .bool false] w
  have H0 := Lib.hid (And.intro k0 (And.intro k1 (And.intro k2 k3)))
  generalize corB x l = by_ at *
  obtain ⟨r1, hr1⟩ : ∃ r1, r1 = r + 1 := ⟨_, rfl⟩
  obtain ⟨t1, ht1⟩ : ∃ t1, t1 = t + 1 := ⟨_, rfl⟩
  obtain ⟨u1, hu1⟩ : ∃ u1, u1 = u + by_ := ⟨_, rfl⟩
  have s1 : IntKind.i64.wrap (r + 1) = r1 := by rw [hr1]; exact IntWalk.i64_in _ (by omega)
  have s2 : IntKind.i64.wrap (t + 1) = t1 := by rw [ht1]; exact IntWalk.i64_in _ (by omega)
  have s3 : IntKind.i64.wrap (u + by_) = u1 := by rw [hu1]; exact IntWalk.i64_in _ (by omega)
  have e4 : t + oneN by_ = t1 := by unfold oneN; rw [if_neg (by omega)]; exact ht1.symm
  rw [← hr1, ← hu1, e4] at hz
  have HM2 := Lib.hid hz
  have d1 : decide (0 < by_) = false := decide_eq_false (by omega)
  have d2 : decide (by_ < 0) = true := decide_eq_true hby
  clear hr1 ht1 hu1 hz e4 hp hbb hx hby
  obtain ⟨A, n, c⟩ := s
  unfold Sl.v at *
  dsimp only at *
  clear h hn he hc hy hm k0 k1 k2 k3 
  go_enter Try.func10, Try.ntmps10
  go_wp2_with (first
    | (refine wpList_load_row rfl 23 (.tmp 3) rfl w.heap.size rfl 23 x.cells (0, 0) _ H0.out.2.1 Try.underlying23 rfl HS.out.plan ?_)
    | (go_at_call 8; refine (HC.out _ H0.out.1).mono ?_; rintro e w1 ⟨rfl, hb⟩; have H1 := Lib.hid (k_then hb H0.out.1); have HY1 := Lib.hid (k_later hb H0.out.2.2.1); have HR1 := Lib.hid (k_later hb H0.out.2.2.2); obtain ⟨a0, a1, a2, a3, a4⟩ := y_four HY1.out; clear hb HC)
    | (go_at_call 24; with_reducible refine (HM.out _).mono ?_; (rintro e w2 ⟨rfl, hb⟩; have H2 := Lib.hid (k_then hb H1.out); have HY2 := Lib.hid (k_later hb HY1.out); have HR2 := Lib.hid (k_later hb HR1.out); clear a0 a1 a2 a3 a4; obtain ⟨a0, a1, a2, a3, a4⟩ := y_four HY2.out; obtain ⟨c0, c1, c2, c3, c4⟩ := y_four HR2.out; clear hb HM))
    | (go_at_call 24; with_reducible refine (HM2.out _).mono ?_; (rintro e w4 ⟨rfl, hb⟩; have H4 := Lib.hid (k_then hb (H2.out.alloc H2.out.size _)); have HR4 := Lib.hid (k_later hb (HR2.out.alloc _)); have HT4 := Lib.hid (k_later hb (Whole.new w2 _ _)); clear a0 a1 a2 a3 a4 c0 c1 c2 c3 c4; obtain ⟨c0, c1, c2, c3, c4⟩ := y_four HR4.out; obtain ⟨a0, a1, a2, a3, a4⟩ := y_four HT4.out; clear hb HM2)))
  exact bodyPost_ret (results_sy3 rfl _ _ _ 25 _ (0, 0) _ rfl rfl rfl (y_store HR4.out _ _ _ _) Try.underlying25 rfl sy_info) rfl ⟨rfl, y_below H4.out (by omega) _ _ _ _⟩


theorem refTurn_any (x : Pl) (y : Sy) (w : World) (s : Sl) (l : List Int) (h : RSrc inC 1 w s l) (hn : s.n ≤ 1000) : Calls Try.prog 10 #[.agg x.cells, y.v, s.v] w fun e w' => e = .returned (turnL x y l).v ∧ Below w.heap.size w w' := by
  unfold turnL turnY
  rcases corE_is x l with he | he | he
  · rw [he]
    cases hy : mayY y
    · rw [if_pos (.inr rfl)]
      exact rturn_bad0 x y w s l h hn he hy
    · rw [if_neg (by simp)]
      cases hl : y.b
      · rw [if_neg (by simp)]
        cases hx : mayY (nextY (corB x l) y)
        · rw [if_neg (by simp)]
          rcases Int.lt_trichotomy (corB x l) 0 with hb | hb | hb
          · exact rturn_overn x y w s l h hn he hy hl hb hx
          · exact rturn_overz x y w s l h hn he hy hl hb hx
          · exact rturn_overp x y w s l h hn he hy hl hb hx
        · rw [if_pos rfl]
          rcases Int.lt_trichotomy (corB x l) 0 with hb | hb | hb
          · exact rturn_onn x y w s l h hn he hy hl hb hx
          · exact rturn_onz x y w s l h hn he hy hl hb hx
          · exact rturn_onp x y w s l h hn he hy hl hb hx
      · rw [if_pos (.inr rfl)]
        exact rturn_was x y w s l h hn 0 (.inl rfl) he hy hl
  · rw [he, if_pos (.inl rfl)]
    cases hy : mayY y
    · exact rturn_no0 x y w s l h hn he hy
    · exact rturn_no1 x y w s l h hn he hy
  · rw [he]
    cases hy : mayY y
    · rw [if_pos (.inr rfl)]
      exact rturn_bad1 x y w s l h hn he hy
    · rw [if_neg (by simp), if_pos (.inl rfl)]
      cases hl : y.b
      · exact rturn_lost x y w s l h hn he hy hl
      · exact rturn_was x y w s l h hn 151 (.inr rfl) he hy hl
end Go.Proofs.Yteljalgfkmnamaa
