/- The document's Middle, Sends, Expected, Listen, Wait, Full: by contracts: the program's own answers. No condition. -/
import Derived.Test.YtdeiohcciafffaaPRef
namespace Go.Proofs.Ytdeiohcciafffaa
open Go.RowKit Go.Shelf

theorem even_two (r s : Int) : ((r + s) % 2 == 0) = ((r % 2 == 0) == (s % 2 == 0)) := by
  have h : r % 2 = 0 ∨ r % 2 = 1 := by omega
  have k : s % 2 = 0 ∨ s % 2 = 1 := by omega
  rcases h with h | h <;> rcases k with k | k
  · rw [h, k, show (r + s) % 2 = 0 by omega]; rfl
  · rw [h, k, show (r + s) % 2 = 1 by omega]; rfl
  · rw [h, k, show (r + s) % 2 = 1 by omega]; rfl
  · rw [h, k, show (r + s) % 2 = 0 by omega]; rfl

section
variable (x : Pl) (w : World)

set_option maxRecDepth 100000 in
set_option maxHeartbeats 4000000 in
theorem refMiddle_any : Calls Try.prog 28 #[.agg x.cells] w fun e w' => e = .returned (.int .i64 (tellP (okP x) (mdP x))) ∧ Below w.heap.size w w' := by
  have HS := Lib.hid x.cellsL
  have HB := Lib.hid ((Below.refl w.heap.size w).alloc (Nat.le_refl _) (.cells x.cells 23))
  have HP := Lib.hid (Whole.new w 23 x.cells)
  have hc := fun W => refCheck_any x W
  rw [chk_err] at hc
  cases hk : okP x
  · rw [hk] at hc
    have HC := Lib.hid hc
    clear hk hc
    go_enter Try.func28, Try.ntmps28
    go_wp2_with (first
      | (refine wpList_load_row rfl 23 _ rfl w.heap.size rfl 23 x.cells (0, 0) _ HP.out Try.underlying23 rfl HS.out.plan ?_)
      | (go_at_call 38; refine (HC.out _).mono ?_; rintro e w1 ⟨rfl, hb1⟩))
    go_ret
    exact ⟨rfl, k_then hb1 HB.out⟩
  · have B := bound_of hk
    have d1 := B.d1
    have d2 := B.d2
    have d3 := B.d3
    have e1 : (x.dmax - x.dmin).tdiv 2 = (x.dmax - x.dmin) / 2 := Int.tdiv_eq_ediv_of_nonneg (by omega)
    have H := Lib.hid (show x.dmin + (x.dmax - x.dmin) / 2 = mdP x by unfold mdP; omega)
    rw [hk] at hc
    have HC := Lib.hid hc
    clear hk hc B
    go_enter Try.func28, Try.ntmps28
    go_wp2_with (first
      | (refine wpList_load_row rfl 23 _ rfl w.heap.size rfl 23 x.cells (0, 0) _ HP.out Try.underlying23 rfl HS.out.plan ?_)
      | (go_at_call 38; refine (HC.out _).mono ?_; rintro e w1 ⟨rfl, hb1⟩; obtain ⟨_, ⟨_, _, c6, c7⟩, _⟩ := l_cells (k_later hb1 HP.out)))
    go_ret
    exact ⟨by rw [← H.out]; rfl, k_then hb1 HB.out⟩

set_option maxRecDepth 100000 in
set_option maxHeartbeats 4000000 in
theorem refSends_any (r s : Int) : Calls Try.prog 18 #[.agg x.cells, spotV r s] w fun e w' => e = .returned (.tuple #[.int .i64 (tellP (hasP x r s) (sdP x r s)), .int .i64 (errP (hasP x r s))]) ∧ Below w.heap.size w w' := by
  obtain ⟨hb, hp, hl⟩ := p_boxes2 x.cells #[.int .i64 r, .int .i64 s] w 23 25
  have HS := Lib.hid x.cellsL
  have HB := Lib.hid hb
  have HP := Lib.hid hp
  obtain ⟨l0, l1, _⟩ := k_two hl
  have hg := fun W => refBegin_any x W r s
  clear hb hp hl
  cases hh : hasP x r s
  · rw [hh] at hg
    have HG := Lib.hid hg
    clear hh hg
    unfold tellP errP at HG
    simp only [Bool.false_eq_true, if_false] at HG
    go_enter Try.func18, Try.ntmps18
    go_wp2_with (first
      | (refine wpList_load_row rfl 23 _ rfl w.heap.size rfl 23 x.cells (0, 0) _ HP.out Try.underlying23 rfl HS.out.plan ?_)
      | (go_at_call 10; refine (HG.out _).mono ?_; rintro e w1 ⟨rfl, hb1⟩))
    refine bodyPost_ret (v := .tuple #[.int .i64 0, .int .i64 90]) (by simp [results, Try.results18, go_sem]) rfl ⟨rfl, k_then hb1 HB.out⟩
  · obtain ⟨B, S⟩ := has_yes hh
    have b1 : 0 ≤ bgP x r s := S.b1
    have b2 : bgP x r s ≤ 36028797017915392 := S.b2
    have HV := Lib.hid (show sdP x r s = bgP x r s + x.sendOff from rfl)
    obtain ⟨_, _, _, _, o1, o2, _⟩ := B
    rw [hh] at hg
    have HG := Lib.hid hg
    clear hh hg S
    unfold tellP errP at HG
    simp only [if_true] at HG
    generalize bgP x r s = q at *
    go_enter Try.func18, Try.ntmps18
    go_wp2_with (first
      | (refine wpList_load_row rfl 23 _ rfl w.heap.size rfl 23 x.cells (0, 0) _ HP.out Try.underlying23 rfl HS.out.plan ?_)
      | (go_at_call 10; refine (HG.out _).mono ?_; rintro e w1 ⟨rfl, hb1⟩; obtain ⟨⟨_, _, _, c3⟩, _⟩ := l_cells (k_later hb1 HP.out); clear l0 l1))
    refine bodyPost_ret (v := .tuple #[.int .i64 (q + x.sendOff), .int .i64 0]) (by simp [results, Try.results18, go_sem]) rfl ⟨by rw [HV.out]; rfl, k_then hb1 HB.out⟩

set_option maxRecDepth 100000 in
set_option maxHeartbeats 4000000 in
theorem refExpected_any (r s : Int) : Calls Try.prog 20 #[.agg x.cells, spotV r s] w fun e w' => e = .returned (expV (hasP x r s) (exP x r s) x.window) ∧ Below w.heap.size w w' := by
  obtain ⟨hb, hp, hl⟩ := p_boxes2 x.cells #[.int .i64 r, .int .i64 s] w 23 25
  have HS := Lib.hid x.cellsL
  have HB := Lib.hid hb
  have HP := Lib.hid hp
  obtain ⟨l0, l1, _⟩ := k_two hl
  have hg := fun W => refSends_any x W r s
  clear hb hp hl
  cases hh : hasP x r s
  · rw [hh] at hg
    have HG := Lib.hid hg
    clear hh hg
    unfold tellP errP at HG
    simp only [Bool.false_eq_true, if_false] at HG
    go_enter Try.func20, Try.ntmps20
    go_wp2_with (first
      | (refine wpList_load_row rfl 23 _ rfl w.heap.size rfl 23 x.cells (0, 0) _ HP.out Try.underlying23 rfl HS.out.plan ?_)
      | (go_at_call 18; refine (HG.out _).mono ?_; rintro e w1 ⟨rfl, hb1⟩))
    refine bodyPost_ret (v := .tuple #[.int .i64 0, .int .i64 0, .int .i64 0, .int .i64 90]) (by simp [results, Try.results20, go_sem]) rfl ⟨rfl, k_then hb1 HB.out⟩
  · obtain ⟨B, S⟩ := has_yes hh
    have hk : okP x = true := by simp only [hasP, Bool.and_eq_true] at hh; exact hh.1
    have hm := fun W => refMiddle_any x W
    rw [hk] at hm
    have HM := Lib.hid hm
    have b1 : 0 ≤ bgP x r s := S.b1
    have b2 : bgP x r s ≤ 36028797017915392 := S.b2
    have hv : sdP x r s = bgP x r s + x.sendOff := rfl
    have HV := Lib.hid (show exP x r s = sdP x r s + mdP x from rfl)
    obtain ⟨m1, m2, _⟩ := mid_bounds B
    obtain ⟨_, _, _, _, o1, o2, v1, v2, d1, d2, d3, _⟩ := B
    rw [hh] at hg
    have HG := Lib.hid hg
    clear hh hg S hk hm
    unfold tellP errP at HG
    unfold tellP at HM
    simp only [if_true] at HG HM
    have f1 : 0 ≤ sdP x r s := by omega
    have f2 : sdP x r s ≤ 36028797018963968 := by omega
    generalize sdP x r s = q at *
    generalize mdP x = m at *
    clear hv b1 b2 o1 o2
    go_enter Try.func20, Try.ntmps20
    go_wp2_with (first
      | (refine wpList_load_row rfl 23 _ rfl w.heap.size rfl 23 x.cells (0, 0) _ HP.out Try.underlying23 rfl HS.out.plan ?_)
      | (refine wpList_load_row rfl 23 _ rfl w.heap.size rfl 23 x.cells (0, 0) _ HP1.out Try.underlying23 rfl HS.out.plan ?_)
      | (go_at_call 18; refine (HG.out _).mono ?_; rintro e w1 ⟨rfl, hb1⟩; have HP1 := Lib.hid (k_later hb1 HP.out); have HB1 := Lib.hid (k_then hb1 HB.out); clear l0 l1 hb1)
      | (go_at_call 28; refine (HM.out _).mono ?_; rintro e w2 ⟨rfl, hb2⟩; obtain ⟨_, ⟨c4, _⟩, _⟩ := l_cells (k_later hb2 HP1.out); have HB2 := Lib.hid (k_then hb2 HB1.out)))
    go_quiet (fail)
    go_wp2
    refine bodyPost_ret (v := .tuple #[.int .i64 (q + m), .int .i64 (q + m - x.window), .int .i64 (q + m + x.window), .int .i64 0]) (by simp [results, Try.results20, go_sem]) rfl ⟨by rw [HV.out]; rfl, below_drewN HB2.out _⟩

set_option maxRecDepth 100000 in
set_option maxHeartbeats 1000000 in
theorem refListen_any (s : Int) : Calls Try.prog 22 #[.agg x.cells, .int .i64 s] w fun e w' => e = .returned (.tuple #[.int .i64 (tellP (hasP x 3 s) (bgP x 3 s)), .int .i64 (errP (hasP x 3 s))]) ∧ Below w.heap.size w w' := by
  have HS := Lib.hid x.cellsL
  have HB := Lib.hid ((Below.refl w.heap.size w).alloc (Nat.le_refl _) (.cells x.cells 23))
  have HG := Lib.hid (fun W => refBegin_any x W 3 s)
  generalize x.cells = cs at *
  generalize tellP (hasP x 3 s) (bgP x 3 s) = v at *
  generalize errP (hasP x 3 s) = er at *
  go_enter Try.func22, Try.ntmps22
  go_wp2_with (first
    | (refine wpList_load_row rfl 23 _ rfl w.heap.size rfl 23 cs (0, 0) _ (heap_alloc_last w _) Try.underlying23 rfl HS.out.plan ?_)
    | (go_at_call 10; refine (HG.out _).mono ?_; rintro e w1 ⟨rfl, hb1⟩))
  refine bodyPost_ret (v := .tuple #[.int .i64 v, .int .i64 er]) (by simp [results, Try.results22, go_sem]) rfl ⟨rfl, k_then hb1 HB.out⟩
set_option maxRecDepth 100000 in
set_option maxHeartbeats 1000000 in
theorem refWait_any (s : Int) : Calls Try.prog 24 #[.agg x.cells, .int .i64 s] w fun e w' => e = .returned (.tuple #[.int .i64 (tellP (hasP x 1 s) (bgP x 1 s)), .int .i64 (errP (hasP x 1 s))]) ∧ Below w.heap.size w w' := by
  have HS := Lib.hid x.cellsL
  have HB := Lib.hid ((Below.refl w.heap.size w).alloc (Nat.le_refl _) (.cells x.cells 23))
  have HG := Lib.hid (fun W => refBegin_any x W 1 s)
  generalize x.cells = cs at *
  generalize tellP (hasP x 1 s) (bgP x 1 s) = v at *
  generalize errP (hasP x 1 s) = er at *
  go_enter Try.func24, Try.ntmps24
  go_wp2_with (first
    | (refine wpList_load_row rfl 23 _ rfl w.heap.size rfl 23 cs (0, 0) _ (heap_alloc_last w _) Try.underlying23 rfl HS.out.plan ?_)
    | (go_at_call 10; refine (HG.out _).mono ?_; rintro e w1 ⟨rfl, hb1⟩))
  refine bodyPost_ret (v := .tuple #[.int .i64 v, .int .i64 er]) (by simp [results, Try.results24, go_sem]) rfl ⟨rfl, k_then hb1 HB.out⟩

set_option maxRecDepth 100000 in
set_option maxHeartbeats 4000000 in
theorem refFull_any (r s : Int) : Calls Try.prog 26 #[.agg x.cells, spotV r s] w fun e w' => e = .returned (.bool (fullP x r s)) ∧ Below w.heap.size w w' := by
  obtain ⟨hb, hp, hl⟩ := p_boxes2 x.cells #[.int .i64 r, .int .i64 s] w 23 25
  have HS := Lib.hid x.cellsL
  have HB := Lib.hid hb
  have HP := Lib.hid hp
  have HL := Lib.hid hl
  obtain ⟨l0, l1, _⟩ := k_two hl
  have hg := fun W => refHas_any x W r s
  clear hb hp hl
  cases hh : hasP x r s
  · have HF := Lib.hid (show fullP x r s = false by simp [fullP, hh])
    rw [hh] at hg
    have HG := Lib.hid hg
    clear hh hg
    go_enter Try.func26, Try.ntmps26
    go_wp2_with (first
      | (refine wpList_load_row rfl 23 _ rfl w.heap.size rfl 23 x.cells (0, 0) _ HP.out Try.underlying23 rfl HS.out.plan ?_)
      | (go_at_call 34; refine (HG.out _).mono ?_; rintro e w1 ⟨rfl, hb1⟩))
    go_ret
    exact ⟨by rw [HF.out]; rfl, k_then hb1 HB.out⟩
  · obtain ⟨B, S⟩ := has_yes hh
    obtain ⟨r1, r2, s1, s2, _⟩ := S
    have e1 : r.tmod 2 = r % 2 := Int.tmod_eq_emod_of_nonneg r1
    have e2 : s.tmod 2 = s % 2 := Int.tmod_eq_emod_of_nonneg s1
    have n2 := B.n2
    have HF := Lib.hid (show fullP x r s = ((r % 2 == 0) == (s % 2 == 0)) by rw [fullP, hh, Bool.true_and, even_two])
    rw [hh] at hg
    have HG := Lib.hid hg
    clear hh hg B
    go_enter Try.func26, Try.ntmps26
    go_wp2_with (first
      | (refine wpList_load_row rfl 23 _ rfl w.heap.size rfl 23 x.cells (0, 0) _ HP.out Try.underlying23 rfl HS.out.plan ?_)
      | (go_at_call 34; refine (HG.out _).mono ?_; rintro e w1 ⟨rfl, hb1⟩; obtain ⟨d0, d1, _⟩ := k_two (k_later hb1 HL.out); clear l0 l1))
    go_ret
    exact ⟨by rw [HF.out]; rfl, k_then hb1 HB.out⟩
end
end Go.Proofs.Ytdeiohcciafffaa
