/- The document's Has, Begin, Sends, Middle, Expected, Listen, Wait, Full: by contracts: the program's own answers. No condition. -/
import Derived.Test.YtdeiohcciafffaaPFun3
namespace Go.Proofs.Ytdeiohcciafffaa
open Go.RowKit Go.Shelf

theorem chk_err (x : Pl) : chkL x = if okP x then 0 else 70 := by
  unfold chkL okP
  by_cases h : failsL x 11 = 0 <;> simp [h]
theorem ref_begin (x : Pl) (r s : Int) : r * rdL x + s * x.slot = bgP x r s := by
  show r * (x.nodes * x.slot) + s * x.slot = (r * x.nodes + s) * x.slot
  rw [Int.add_mul, Int.mul_assoc]

section
variable (x : Pl) (w : World)

set_option maxRecDepth 100000 in
set_option maxHeartbeats 4000000 in
theorem refHas_any (r s : Int) : Calls Try.prog 34 #[.agg x.cells, spotV r s] w fun e w' => e = .returned (.bool (hasP x r s)) ∧ Below w.heap.size w w' := by
  obtain ⟨hb, hp, hl⟩ := p_boxes2 x.cells #[.int .i64 r, .int .i64 s] w 23 25
  have HS := Lib.hid x.cellsL
  have HB := Lib.hid hb
  have HP := Lib.hid hp
  have HL := Lib.hid hl
  have hc := fun W => refCheck_any x W
  rw [chk_err] at hc
  clear hb hp hl
  cases hk : okP x
  · have HF := Lib.hid (show hasP x r s = false by simp [hasP, hk])
    rw [hk] at hc
    have HC := Lib.hid hc
    clear hk hc
    go_enter Try.func34, Try.ntmps34
    go_wp2_with (first
      | (refine wpList_load_row rfl 23 _ rfl w.heap.size rfl 23 x.cells (0, 0) _ HP.out Try.underlying23 rfl HS.out.plan ?_)
      | (go_at_call 38; refine (HC.out _).mono ?_; rintro e w1 ⟨rfl, hb1⟩))
    go_ret
    exact ⟨by rw [HF.out]; rfl, k_then hb1 HB.out⟩
  · rw [hk] at hc
    have HC := Lib.hid hc
    have HF0 := Lib.hid (show hasP x r s = (nodeP x s && roundP r) by simp [hasP, hk, placeP, Bool.and_comm])
    clear hk hc
    unfold nodeP roundP at HF0
    by_cases h1 : 0 ≤ s
    case neg =>
      have HF := Lib.hid (show hasP x r s = false by rw [HF0.out]; simp [h1])
      have d1 : decide (0 ≤ s) = false := decide_eq_false h1
      go_enter Try.func34, Try.ntmps34
      go_wp2_with (first
        | (refine wpList_load_row rfl 23 _ rfl w.heap.size rfl 23 x.cells (0, 0) _ HP.out Try.underlying23 rfl HS.out.plan ?_)
        | (go_at_call 38; refine (HC.out _).mono ?_; rintro e w1 ⟨rfl, hb1⟩; obtain ⟨⟨c0, _⟩, _⟩ := l_cells (k_later hb1 HP.out); obtain ⟨d0, d1', _⟩ := k_two (k_later hb1 HL.out)))
      go_ret
      exact ⟨by rw [HF.out]; rfl, k_then hb1 HB.out⟩
    by_cases h2 : s < x.nodes
    case neg =>
      have HF := Lib.hid (show hasP x r s = false by rw [HF0.out]; simp [h2])
      have d2 : decide (s < x.nodes) = false := decide_eq_false h2
      go_enter Try.func34, Try.ntmps34
      go_wp2_with (first
        | (refine wpList_load_row rfl 23 _ rfl w.heap.size rfl 23 x.cells (0, 0) _ HP.out Try.underlying23 rfl HS.out.plan ?_)
        | (go_at_call 38; refine (HC.out _).mono ?_; rintro e w1 ⟨rfl, hb1⟩; obtain ⟨⟨c0, _⟩, _⟩ := l_cells (k_later hb1 HP.out); obtain ⟨d0, d1', _⟩ := k_two (k_later hb1 HL.out)))
      go_ret
      exact ⟨by rw [HF.out]; rfl, k_then hb1 HB.out⟩
    by_cases h3 : 0 ≤ r
    case neg =>
      have HF := Lib.hid (show hasP x r s = false by rw [HF0.out]; simp [h3])
      have d3 : decide (0 ≤ r) = false := decide_eq_false h3
      go_enter Try.func34, Try.ntmps34
      go_wp2_with (first
        | (refine wpList_load_row rfl 23 _ rfl w.heap.size rfl 23 x.cells (0, 0) _ HP.out Try.underlying23 rfl HS.out.plan ?_)
        | (go_at_call 38; refine (HC.out _).mono ?_; rintro e w1 ⟨rfl, hb1⟩; obtain ⟨⟨c0, _⟩, _⟩ := l_cells (k_later hb1 HP.out); obtain ⟨d0, d1', _⟩ := k_two (k_later hb1 HL.out)))
      go_ret
      exact ⟨by rw [HF.out]; rfl, k_then hb1 HB.out⟩
    have HF := Lib.hid (show hasP x r s = decide (r ≤ 2147483647) by rw [HF0.out]; simp [h1, h2, h3])
    go_enter Try.func34, Try.ntmps34
    go_wp2_with (first
      | (refine wpList_load_row rfl 23 _ rfl w.heap.size rfl 23 x.cells (0, 0) _ HP.out Try.underlying23 rfl HS.out.plan ?_)
      | (go_at_call 38; refine (HC.out _).mono ?_; rintro e w1 ⟨rfl, hb1⟩; obtain ⟨⟨c0, _⟩, _⟩ := l_cells (k_later hb1 HP.out); obtain ⟨d0, d1', _⟩ := k_two (k_later hb1 HL.out)))
    go_ret
    exact ⟨by rw [HF.out]; rfl, k_then hb1 HB.out⟩

set_option maxRecDepth 100000 in
set_option maxHeartbeats 4000000 in
theorem refBegin_any (r s : Int) : Calls Try.prog 10 #[.agg x.cells, spotV r s] w fun e w' => e = .returned (.tuple #[.int .i64 (tellP (hasP x r s) (bgP x r s)), .int .i64 (errP (hasP x r s))]) ∧ Below w.heap.size w w' := by
  obtain ⟨hb, hp, hl⟩ := p_boxes2 x.cells #[.int .i64 r, .int .i64 s] w 23 25
  have HS := Lib.hid x.cellsL
  have HB := Lib.hid hb
  have HP := Lib.hid hp
  have HL := Lib.hid hl
  have HH := Lib.hid (fun W => refHas_any x W r s)
  obtain ⟨l0, l1, _⟩ := k_two hl
  clear hb hp hl
  cases hh : hasP x r s
  · rw [hh] at HH
    clear hh
    go_enter Try.func10, Try.ntmps10
    go_wp2_with (first
      | (refine wpList_load_row rfl 23 _ rfl w.heap.size rfl 23 x.cells (0, 0) _ HP.out Try.underlying23 rfl HS.out.plan ?_)
      | (go_at_call 34; refine (HH.out _).mono ?_; rintro e w1 ⟨rfl, hb1⟩))
    refine bodyPost_ret (v := .tuple #[.int .i64 0, .int .i64 90]) (by simp [results, Try.results10, go_sem]) rfl ⟨rfl, k_then hb1 HB.out⟩
  · obtain ⟨B, S⟩ := has_yes hh
    have hr := fun W => refRound_any x W
    rw [show roundL x = rdL x from if_pos B.f3] at hr
    have HR := Lib.hid hr
    have HV := Lib.hid (ref_begin x r s)
    have e0 := ref_begin x r s
    have m1 := B.m1
    have m2 := B.m2
    have t1 := B.s1
    have t2 := B.s2
    have n2 := B.n2
    obtain ⟨r1, r2, s1, s2, _, _, b1, b2⟩ := S
    have p1 : 0 ≤ r * rdL x := Int.mul_nonneg r1 (by omega)
    have p2 : r * rdL x ≤ 2147483647 * 16777216 := Int.mul_le_mul r2 m2 (by omega) (by omega)
    have p3 : 0 ≤ s * x.slot := Int.mul_nonneg s1 (by omega)
    have p4 : s * x.slot ≤ 16 * 1048576 := Int.mul_le_mul (by omega) t2 (by omega) (by omega)
    rw [hh] at HH
    clear hh hr B b1 b2 e0
    generalize rdL x = m at *
    generalize hq : r * m = q at *
    generalize hv : s * x.slot = v at *
    go_enter Try.func10, Try.ntmps10
    go_upto_region 4 with (first
      | (refine wpList_load_row rfl 23 _ rfl w.heap.size rfl 23 x.cells (0, 0) _ HP.out Try.underlying23 rfl HS.out.plan ?_)
      | (go_at_call 34; refine (HH.out _).mono ?_; rintro e w1 ⟨rfl, hb1⟩; have HP1 := Lib.hid (k_later hb1 HP.out); have HL1 := Lib.hid (k_later hb1 HL.out); have HB1 := Lib.hid (k_then hb1 HB.out); clear hb1 l0 l1))
    obtain ⟨⟨_, _, c2, _⟩, _⟩ := l_cells HP1.out
    obtain ⟨d0, d1, _⟩ := k_two HL1.out
    have f2 := fun y : Later w1 => y.cell c2
    have g0 := fun y : Later w1 => y.cell d0
    have g1 := fun y : Later w1 => y.cell d1
    clear c2 d0 d1
    refine wp_region_later (by kernel_rfl) (by kernel_rfl) ?_
    iterate 2 (go_big_quiet_step (fail))
    go_big_quiet_want
    refine quiet_load_row 23 _ rfl w.heap.size rfl 23 x.cells (0, 0) _ (later_row HP1.out) Try.underlying23 rfl HS.out.plan ?_
    simp only [Act.put, List.setIfInBounds_toArray, List.set_cons_succ, List.set_cons_zero]
    go_big_quiet_on
    go_big_quiet_step ((go_at_call 35; exact later_of _ HR.out))
    repeat (go_big_quiet_step (fail))
    refine wpQuiet_nil ?_
    intro _ hw'
    obtain ⟨y, hw''⟩ := hw'
    subst hw''
    go_wp2
    refine bodyPost_ret (v := .tuple #[.int .i64 (q + v), .int .i64 0]) (by simp [results, Try.results10, go_sem]) rfl ⟨by rw [← HV.out]; rfl, HB1.out.trans (y.below.mono HB1.out.size)⟩
end
end Go.Proofs.Ytdeiohcciafffaa
