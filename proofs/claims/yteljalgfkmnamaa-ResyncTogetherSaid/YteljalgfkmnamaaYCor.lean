/- Enough, Correction and what they call, by their contracts. No condition. -/
import Derived.Test.YteljalgfkmnamaaYDef
namespace Go.Proofs.Yteljalgfkmnamaa
open Go.RowKit Go.Shelf

/-- A plan's box, and what was made behind it. -/
theorem box_plan (x : Pl) (w : World) : Below w.heap.size w (w.alloc (.cells x.cells 23)) ∧ Whole (w.alloc (.cells x.cells 23)) w.heap.size 23 x.cells :=
  ⟨(Below.refl _ _).alloc (Nat.le_refl _) _, Whole.new _ _ _⟩
theorem kk_cell {w : World} {g : Nat} {t : TypeId} {x : Pl} (h : Whole w g t x.cells) : w.cell? ⟨g, 1, none⟩ = some (.int .i64 x.kk) := h.cell 1
theorem cap_cell {w : World} {g : Nat} {t : TypeId} {x : Pl} (h : Whole w g t x.cells) : w.cell? ⟨g, 10, none⟩ = some (.int .i64 x.cap) := h.cell 10

set_option maxRecDepth 100000 in
set_option maxHeartbeats 1000000 in
theorem Enough_any (x : Pl) (many : Int) (w : World) : Calls Try.prog 14 #[.agg x.cells, .int .i64 many] w fun e w' => e = .returned (.bool (enoughB x many)) ∧ Below w.heap.size w w' := by
  obtain ⟨hb, hW⟩ := box_plan x w
  have HB := Lib.hid hb
  have HW := Lib.hid hW
  have HS := Lib.hid x.cellsL
  have hc := fun W => Check_any x W
  clear hb hW
  unfold enoughB
  cases hp : planB x
  · rw [chk_no hp] at hc
    have HC := Lib.hid hc
    clear hc hp
    rw [Bool.false_and]
    go_enter Try.func14, Try.ntmps14
    go_wp2_with (first
      | (refine wpList_load_row rfl 23 _ rfl w.heap.size rfl 23 x.cells (0, 0) _ HW.out Try.underlying23 rfl HS.out.plan ?_)
      | (go_at_call 18; refine (HC.out _).mono ?_; rintro e w1 ⟨rfl, hb⟩; have H1 := Lib.hid (k_then hb HB.out); clear hb))
    go_ret
    exact ⟨rfl, H1.out⟩
  · rw [chk_yes hp] at hc
    have HC := Lib.hid hc
    have hk1 := (plan_tick hp).k1
    have hk2 := (plan_tick hp).k2
    have hk3 := (plan_tick hp).n2
    have s1 : IntKind.i64.wrap (2 * x.kk) = 2 * x.kk := IntWalk.i64_in _ (by omega)
    have s2 : IntKind.i64.wrap (2 * x.kk + 1) = 2 * x.kk + 1 := IntWalk.i64_in _ (by omega)
    rw [Bool.true_and]
    clear hc hp hk1 hk2 hk3
    go_enter Try.func14, Try.ntmps14
    go_wp2_with (first
      | (refine wpList_load_row rfl 23 _ rfl w.heap.size rfl 23 x.cells (0, 0) _ HW.out Try.underlying23 rfl HS.out.plan ?_)
      | (go_at_call 18; refine (HC.out _).mono ?_; rintro e w1 ⟨rfl, hb⟩; have H1 := Lib.hid (k_then hb HB.out); have c1 := kk_cell (k_later hb HW.out); clear hb))
    go_ret
    exact ⟨rfl, H1.out⟩

set_option maxRecDepth 100000 in
set_option maxHeartbeats 1000000 in
theorem areY_any (w : World) (s : Sl) (l : List Int) (h : RSrc inC 1 w s l) (hn : s.n ≤ 1000) : Calls Try.prog 19 #[s.v] w fun e w' => e = .returned (.bool (okV l)) ∧ Below w.heap.size w w' := by
  have hl := h.len
  have HO := Lib.hid (Of_any w s l 0 h hn)
  have ho : s.n = 0 ∨ errT l 0 = if okV l = true then 0 else 140 := by
    rcases Nat.eq_zero_or_pos s.n with h0 | h0
    · exact .inl h0
    · right
      have hk : okN l.length 0 = true := okN_iff.2 ⟨0, rfl, by omega⟩
      unfold errT okM
      rw [hk, Bool.and_true]
  have hz : s.n = 0 → okV l = true := fun e => by
    have : l = [] := List.eq_nil_of_length_eq_zero (by omega)
    subst this
    rfl
  generalize midT l 0 = m at *
  generalize errT l 0 = z at *
  generalize okV l = b at *
  obtain ⟨A, n, c⟩ := s
  unfold Sl.v at *
  dsimp only at *
  clear h hl hn
  by_cases h0 : n = 0
  · rw [hz h0]
    subst h0
    clear hz ho
    go_enter Try.func19, Try.ntmps19
    go_wp2_with (go_at_call 29; refine HO.out.mono ?_; rintro e w1 ⟨rfl, hb⟩; have HB := Lib.hid hb; clear hb)
    go_ret
    exact ⟨rfl, HB.out⟩
  · have hz2 := ho.resolve_left h0
    have e1 : ((n : Int) == 0) = false := beq_eq_false_iff_ne.2 (by omega)
    clear hz ho
    cases b
    · rw [if_neg (by decide)] at hz2
      subst hz2
      go_enter Try.func19, Try.ntmps19
      go_wp2_with (go_at_call 29; refine HO.out.mono ?_; rintro e w1 ⟨rfl, hb⟩; have HB := Lib.hid hb; clear hb)
      go_ret
      exact ⟨rfl, HB.out⟩
    · rw [if_pos rfl] at hz2
      subst hz2
      go_enter Try.func19, Try.ntmps19
      go_wp2_with (go_at_call 29; refine HO.out.mono ?_; rintro e w1 ⟨rfl, hb⟩; have HB := Lib.hid hb; clear hb)
      go_ret
      exact ⟨rfl, HB.out⟩

set_option maxRecDepth 100000 in
set_option maxHeartbeats 1000000 in
theorem correction_any (x : Pl) (w : World) (s : Sl) (l : List Int) (h : RSrc inC 1 w s l) (hn : s.n ≤ 1000) : Calls Try.prog 20 #[.agg x.cells, s.v] w fun e w' => e = .returned (.int .i64 (wantC x l)) ∧ Below w.heap.size w w' := by
  have hl := h.len
  obtain ⟨hb, hW⟩ := box_plan x w
  have HB := Lib.hid hb
  have HW := Lib.hid hW
  have HS := Lib.hid x.cellsL
  have HE := Lib.hid (fun W => Enough_any x (s.n : Int) W)
  have HO := Lib.hid (fun W (hb : Below w.heap.size w W) => Of_any W s l x.kk (h.later hb) hn)
  have hm := mid_bound l x.kk
  unfold wantC
  rw [hl]
  generalize midT l x.kk = m at *
  generalize errT l x.kk = z at *
  generalize enoughB x (s.n : Int) = b at *
  have s1 : IntKind.i64.wrap (-m) = -m := IntWalk.i64_in _ (by omega)
  obtain ⟨A, n, c⟩ := s
  unfold Sl.v at *
  dsimp only at *
  clear h hl hn hb hW hm
  cases b
  · rw [if_neg (by decide)]
    go_enter Try.func20, Try.ntmps20
    go_wp2_with (first
      | (refine wpList_load_row rfl 23 _ rfl w.heap.size rfl 23 x.cells (0, 0) _ HW.out Try.underlying23 rfl HS.out.plan ?_)
      | (go_at_call 14; refine (HE.out _).mono ?_; rintro e w1 ⟨rfl, hb⟩; have H1 := Lib.hid (k_then hb HB.out); clear hb))
    go_ret
    exact ⟨rfl, H1.out⟩
  · rw [if_pos rfl]
    go_enter Try.func20, Try.ntmps20
    go_wp2_with (first
      | (refine wpList_load_row rfl 23 _ rfl w.heap.size rfl 23 x.cells (0, 0) _ HW.out Try.underlying23 rfl HS.out.plan ?_)
      | (go_at_call 14; refine (HE.out _).mono ?_; rintro e w1 ⟨rfl, hb⟩; have H1 := Lib.hid (k_then hb HB.out); have c1 := kk_cell (k_later hb HW.out); clear hb)
      | (go_at_call 29; refine (HO.out _ H1.out).mono ?_; rintro e w2 ⟨rfl, hb⟩; have H2 := Lib.hid (k_then hb H1.out); clear hb))
    go_ret
    exact ⟨rfl, H2.out⟩

set_option maxRecDepth 100000 in
set_option maxHeartbeats 2000000 in
theorem Correction_any (x : Pl) (w : World) (s : Sl) (l : List Int) (h : RSrc inC 1 w s l) (hn : s.n ≤ 1000) : Calls Try.prog 7 #[.agg x.cells, s.v] w fun e w' => e = .returned (corV x l) ∧ Below w.heap.size w w' := by
  obtain ⟨hb, hW⟩ := box_plan x w
  have HB := Lib.hid hb
  have HW := Lib.hid hW
  have HS := Lib.hid x.cellsL
  have hc := fun W => Check_any x W
  have HV := Lib.hid (fun W (hb : Below w.heap.size w W) => areY_any W s l (h.later hb) hn)
  have HC2 := Lib.hid (fun W (hb : Below w.heap.size w W) => correction_any x W s l (h.later hb) hn)
  unfold corV corB corE overB
  generalize okV l = v at *
  generalize wantC x l = m at *
  obtain ⟨A, n, c⟩ := s
  unfold Sl.v at *
  dsimp only at *
  clear h hn hb hW
  cases hp : planB x
  · rw [chk_no hp] at hc
    have HC := Lib.hid hc
    clear hc hp
    rw [Bool.false_and, if_neg (by decide), if_neg (by decide)]
    go_enter Try.func7, Try.ntmps7
    go_wp2_with (first
      | (refine wpList_load_row rfl 23 _ rfl w.heap.size rfl 23 x.cells (0, 0) _ HW.out Try.underlying23 rfl HS.out.plan ?_)
      | (go_at_call 18; refine (HC.out _).mono ?_; rintro e w1 ⟨rfl, hb⟩; have H1 := Lib.hid (k_then hb HB.out); clear hb))
    go_ret2
    exact ⟨rfl, H1.out⟩
  · rw [chk_yes hp] at hc
    have HC := Lib.hid hc
    have hcap := plan_cap hp
    clear hc hp
    rw [Bool.true_and]
    cases v
    · rw [if_neg (by decide), if_neg (by decide)]
      go_enter Try.func7, Try.ntmps7
      go_wp2_with (first
        | (refine wpList_load_row rfl 23 _ rfl w.heap.size rfl 23 x.cells (0, 0) _ HW.out Try.underlying23 rfl HS.out.plan ?_)
        | (go_at_call 18; refine (HC.out _).mono ?_; rintro e w1 ⟨rfl, hb⟩; have H1 := Lib.hid (k_then hb HB.out); clear hb)
        | (go_at_call 19; refine (HV.out _ H1.out).mono ?_; rintro e w2 ⟨rfl, hb⟩; have H2 := Lib.hid (k_then hb H1.out); clear hb))
      go_ret2
      exact ⟨rfl, H2.out⟩
    · rw [if_pos rfl, if_pos rfl]
      generalize hcc : x.cap = cc at *
      have s1 : IntKind.i64.wrap (-cc) = -cc := IntWalk.i64_in _ (by omega)
      have HK := Lib.hid (fun (W : World) (hW : Whole W w.heap.size 23 x.cells) => (hcc ▸ cap_cell hW : W.cell? ⟨w.heap.size, 10, none⟩ = some (.int .i64 cc)))
      clear hcc hcap
      by_cases q : cc < m
      · have q1 : decide (cc < m ∨ m < -cc) = true := decide_eq_true (.inl q)
        rw [q1, if_pos rfl, if_pos rfl]
        clear q1
        go_enter Try.func7, Try.ntmps7
        go_wp2_with (first
          | (refine wpList_load_row rfl 23 (.tmp 2) rfl w.heap.size rfl 23 x.cells (0, 0) _ HW.out Try.underlying23 rfl HS.out.plan ?_)
          | (refine wpList_load_row rfl 23 (.tmp 2) rfl w.heap.size rfl 23 x.cells (0, 0) _ HX2.out Try.underlying23 rfl HS.out.plan ?_)
          | (go_at_call 18; refine (HC.out _).mono ?_; rintro e w1 ⟨rfl, hb⟩; have H1 := Lib.hid (k_then hb HB.out); have HX1 := Lib.hid (k_later hb HW.out); clear hb)
          | (go_at_call 19; refine (HV.out _ H1.out).mono ?_; rintro e w2 ⟨rfl, hb⟩; have H2 := Lib.hid (k_then hb H1.out); have HX2 := Lib.hid (k_later hb HX1.out); clear hb)
          | (go_at_call 20; refine (HC2.out _ H2.out).mono ?_; rintro e w3 ⟨rfl, hb⟩; have H3 := Lib.hid (k_then hb H2.out); have c10 := HK.out _ (k_later hb HX2.out); clear hb))
        go_ret2
        exact ⟨rfl, H3.out⟩
      · by_cases q2 : m < -cc
        · have q1 : decide (cc < m ∨ m < -cc) = true := decide_eq_true (.inr q2)
          rw [q1, if_pos rfl, if_pos rfl]
          clear q1
          go_enter Try.func7, Try.ntmps7
          go_wp2_with (first
            | (refine wpList_load_row rfl 23 (.tmp 2) rfl w.heap.size rfl 23 x.cells (0, 0) _ HW.out Try.underlying23 rfl HS.out.plan ?_)
            | (refine wpList_load_row rfl 23 (.tmp 2) rfl w.heap.size rfl 23 x.cells (0, 0) _ HX2.out Try.underlying23 rfl HS.out.plan ?_)
            | (go_at_call 18; refine (HC.out _).mono ?_; rintro e w1 ⟨rfl, hb⟩; have H1 := Lib.hid (k_then hb HB.out); have HX1 := Lib.hid (k_later hb HW.out); clear hb)
            | (go_at_call 19; refine (HV.out _ H1.out).mono ?_; rintro e w2 ⟨rfl, hb⟩; have H2 := Lib.hid (k_then hb H1.out); have HX2 := Lib.hid (k_later hb HX1.out); clear hb)
            | (go_at_call 20; refine (HC2.out _ H2.out).mono ?_; rintro e w3 ⟨rfl, hb⟩; have H3 := Lib.hid (k_then hb H2.out); have c10 := HK.out _ (k_later hb HX2.out); clear hb))
          go_ret2
          exact ⟨rfl, H3.out⟩
        · have q1 : decide (cc < m ∨ m < -cc) = false := decide_eq_false (by omega)
          rw [q1, if_neg (by decide), if_neg (by decide)]
          clear q1
          go_enter Try.func7, Try.ntmps7
          go_wp2_with (first
            | (refine wpList_load_row rfl 23 (.tmp 2) rfl w.heap.size rfl 23 x.cells (0, 0) _ HW.out Try.underlying23 rfl HS.out.plan ?_)
            | (refine wpList_load_row rfl 23 (.tmp 2) rfl w.heap.size rfl 23 x.cells (0, 0) _ HX2.out Try.underlying23 rfl HS.out.plan ?_)
            | (go_at_call 18; refine (HC.out _).mono ?_; rintro e w1 ⟨rfl, hb⟩; have H1 := Lib.hid (k_then hb HB.out); have HX1 := Lib.hid (k_later hb HW.out); clear hb)
            | (go_at_call 19; refine (HV.out _ H1.out).mono ?_; rintro e w2 ⟨rfl, hb⟩; have H2 := Lib.hid (k_then hb H1.out); have HX2 := Lib.hid (k_later hb HX1.out); clear hb)
            | (go_at_call 20; refine (HC2.out _ H2.out).mono ?_; rintro e w3 ⟨rfl, hb⟩; have H3 := Lib.hid (k_then hb H2.out); have c10 := HK.out _ (k_later hb HX2.out); clear hb))
          go_ret2
          exact ⟨rfl, H3.out⟩
end Go.Proofs.Yteljalgfkmnamaa
