/- The table's methods: by contracts. No condition but bounds of what they reckon with. -/
import Derived.Test.YtdeiohcciafffaaPRow
import Derived.Test.YtdeiohcciafffaaLChecks
namespace Go.Proofs.Ytdeiohcciafffaa
open Go.RowKit Go.Shelf

/-- A call's contract at a later world. -/
theorem later_of_at {P : Program} {f : FuncId} {args : Array Value} {w : World} {v : Value} (y : Later w) (h : Calls P f args y.at_ fun e w' => e = .returned v ∧ Below y.at_.heap.size y.at_ w') : Calls P f args y.at_ fun e w' => e = .returned v ∧ ∃ z : Later w, w' = z.at_ :=
  h.mono fun _ w' k => ⟨k.1, ⟨w', y.below.trans (k.2.mono y.below.size)⟩, rfl⟩

section
variable {x : Pl} {g : Nat} {t : TypeId} {w : World}

set_option maxRecDepth 100000 in
set_option maxHeartbeats 1000000 in
theorem mayBe_any (hW : Whole w g t x.cells) : Calls Try.prog 36 #[.pointer (some ⟨g, 0, none⟩)] w fun e w' => e = .returned (.bool (okP x)) ∧ Below w.heap.size w w' := by
  have HC := Lib.hid (fun W => Check_any x W)
  have HS := Lib.hid x.cellsL
  have HW := Lib.hid hW
  have H := Lib.hid (okP_chk x)
  clear hW
  go_enter Try.func36, Try.ntmps36
  go_wp2_with (first
    | (refine wpList_load_row rfl 53 _ rfl g rfl t x.cells (0, 0) _ HW.out Try.underlying53 rfl HS.out.sheet ?_)
    | (go_at_call 49; refine (HC.out _).mono ?_; rintro e w' ⟨rfl, hb2⟩))
  go_ret
  exact ⟨by rw [← H.out]; rfl, hb2⟩

set_option maxHeartbeats 1000000 in
theorem hasNode_any (s : Int) (hW : Whole w g t x.cells) : Calls Try.prog 51 #[.pointer (some ⟨g, 0, none⟩), .int .i64 s] w fun e w' => e = .returned (.bool (nodeP x s)) ∧ w' = w := by
  obtain ⟨⟨c0, _⟩, _⟩ := l_cells hW
  by_cases h1 : 0 ≤ s
  · by_cases h2 : s < x.nodes
    · have H := Lib.hid (show nodeP x s = true by simp [nodeP, h1, h2])
      clear hW
      go_enter Try.func51, Try.ntmps51
      go_wp2
      go_ret
      exact ⟨by rw [H.out]; rfl, rfl⟩
    · have H := Lib.hid (show nodeP x s = false by simp [nodeP, h2])
      have d2 : decide (s < x.nodes) = false := decide_eq_false h2
      clear hW
      go_enter Try.func51, Try.ntmps51
      go_wp2
      go_ret
      exact ⟨by rw [H.out]; rfl, rfl⟩
  · have H := Lib.hid (show nodeP x s = false by simp [nodeP, h1])
    have d1 : decide (0 ≤ s) = false := decide_eq_false h1
    clear hW
    go_enter Try.func51, Try.ntmps51
    go_wp2
    go_ret
    exact ⟨by rw [H.out]; rfl, rfl⟩

set_option maxHeartbeats 1000000 in
theorem ahead_any {r s : Int} (B : BoundP x) (S : SpotP x r s) (hW : Whole w g t x.cells) :
    Calls Try.prog 40 #[.pointer (some ⟨g, 0, none⟩), spotV r s] w fun e w' => e = .returned (.int .i64 (ahP x r s)) ∧ Below w.heap.size w w' := by
  have hb : Below w.heap.size w (w.alloc (.cells #[.int .i64 r, .int .i64 s] 25)) := (Below.refl _ _).alloc (Nat.le_refl _) _
  obtain ⟨⟨c0, _⟩, _⟩ := l_cells (hW.alloc (.cells #[.int .i64 r, .int .i64 s] 25))
  obtain ⟨d0, d1, _⟩ := k_two (Whole.new w 25 #[.int .i64 r, .int .i64 s])
  obtain ⟨_, n2, _⟩ := B
  obtain ⟨_, _, s1, s2, a1, a2, _, _⟩ := S
  have H := Lib.hid (show ahP x r s = r * x.nodes + s from rfl)
  generalize hm : r * x.nodes = m at *
  clear hW
  go_enter Try.func40, Try.ntmps40
  go_wp2
  go_quiet (fail)
  go_wp2
  go_ret
  exact ⟨by rw [H.out]; rfl, below_drewN hb _⟩

set_option maxRecDepth 100000 in
set_option maxHeartbeats 1000000 in
theorem begins_any {r s : Int} (B : BoundP x) (S : SpotP x r s) (hW : Whole w g t x.cells) :
    Calls Try.prog 33 #[.pointer (some ⟨g, 0, none⟩), spotV r s] w fun e w' => e = .returned (.int .i64 (bgP x r s)) ∧ Below w.heap.size w w' := by
  have hb : Below w.heap.size w (w.alloc (.cells #[.int .i64 r, .int .i64 s] 25)) := (Below.refl _ _).alloc (Nat.le_refl _) _
  have hW1 := hW.alloc (.cells #[.int .i64 r, .int .i64 s] 25)
  have hP := Whole.new w 25 #[.int .i64 r, .int .i64 s]
  obtain ⟨⟨_, _, c2, _⟩, _⟩ := l_cells hW1
  have l2 := fun y : Later (w.alloc (.cells #[.int .i64 r, .int .i64 s] 25)) => y.cell c2
  have HA := Lib.hid (fun W (h : Whole W g t x.cells) => ahead_any (w := W) B S h)
  have HW := Lib.hid hW1
  have HP := Lib.hid hP
  have HB := Lib.hid hb
  have H := Lib.hid (show bgP x r s = ahP x r s * x.slot from rfl)
  obtain ⟨_, _, _, _, _, _, b1, b2⟩ := S
  generalize ahP x r s = a at *
  generalize hm : a * x.slot = m at *
  clear hW hW1 hP hb B c2
  go_enter Try.func33, Try.ntmps33
  go_wp2
  refine wp_region_later (by kernel_rfl) (by kernel_rfl) ?_
  go_big_quiet_step (fail)
  go_big_quiet_want
  refine quiet_load_row 25 _ rfl w.heap.size rfl 25 #[.int .i64 r, .int .i64 s] (0, 0) _ (later_row HP.out) Try.underlying25 rfl info_place ?_
  simp only [Act.put, List.setIfInBounds_toArray, List.set_cons_succ, List.set_cons_zero]
  go_big_quiet_on
  go_big_quiet_step ((go_at_call 40; exact later_of_at _ (HA.out _ (later_row HW.out _ ⟨_, rfl⟩))))
  repeat (go_big_quiet_step (fail))
  refine wpQuiet_nil ?_
  intro _ hw'
  obtain ⟨y, hw''⟩ := hw'
  subst hw''
  go_wp2
  go_ret
  exact ⟨by rw [H.out]; rfl, HB.out.trans (y.below.mono HB.out.size)⟩

set_option maxHeartbeats 1000000 in
theorem middle_any (B : BoundP x) (hW : Whole w g t x.cells) :
    Calls Try.prog 44 #[.pointer (some ⟨g, 0, none⟩)] w fun e w' => e = .returned (.int .i64 (mdP x)) ∧ ∃ n, w' = w.drewN n := by
  obtain ⟨_, ⟨_, _, c6, c7⟩, _⟩ := l_cells hW
  obtain ⟨m1, m2, m3⟩ := mid_bounds B
  obtain ⟨_, _, _, _, _, _, _, _, d1, d2, d3, _⟩ := B
  generalize mdP x = m at *
  clear hW
  go_enter Try.func44, Try.ntmps44
  go_wp2
  go_quiet (fail)
  go_wp2
  go_ret
  exact ⟨rfl, _, rfl⟩

set_option maxRecDepth 100000 in
set_option maxHeartbeats 1000000 in
theorem sends_any {r s : Int} (B : BoundP x) (S : SpotP x r s) (hW : Whole w g t x.cells) :
    Calls Try.prog 41 #[.pointer (some ⟨g, 0, none⟩), spotV r s] w fun e w' => e = .returned (.int .i64 (sdP x r s)) ∧ Below w.heap.size w w' := by
  have hb : Below w.heap.size w (w.alloc (.cells #[.int .i64 r, .int .i64 s] 25)) := (Below.refl _ _).alloc (Nat.le_refl _) _
  have hW1 := hW.alloc (.cells #[.int .i64 r, .int .i64 s] 25)
  have hP := Whole.new w 25 #[.int .i64 r, .int .i64 s]
  obtain ⟨⟨_, _, _, c3⟩, _⟩ := l_cells hW1
  have l3 := fun y : Later (w.alloc (.cells #[.int .i64 r, .int .i64 s] 25)) => y.cell c3
  have HA := Lib.hid (fun W (h : Whole W g t x.cells) => begins_any (w := W) B S h)
  have HW := Lib.hid hW1
  have HP := Lib.hid hP
  have HB := Lib.hid hb
  have H := Lib.hid (show sdP x r s = bgP x r s + x.sendOff from rfl)
  have b1 : 0 ≤ bgP x r s := S.b1
  have b2 : bgP x r s ≤ 36028797017915392 := S.b2
  obtain ⟨_, _, _, _, o1, o2, _⟩ := B
  generalize bgP x r s = a at *
  clear hW hW1 hP hb S c3
  go_enter Try.func41, Try.ntmps41
  go_wp2
  refine wp_region_later (by kernel_rfl) (by kernel_rfl) ?_
  go_big_quiet_step (fail)
  go_big_quiet_want
  refine quiet_load_row 25 _ rfl w.heap.size rfl 25 #[.int .i64 r, .int .i64 s] (0, 0) _ (later_row HP.out) Try.underlying25 rfl info_place ?_
  simp only [Act.put, List.setIfInBounds_toArray, List.set_cons_succ, List.set_cons_zero]
  go_big_quiet_on
  go_big_quiet_step ((go_at_call 33; exact later_of_at _ (HA.out _ (later_row HW.out _ ⟨_, rfl⟩))))
  repeat (go_big_quiet_step (fail))
  refine wpQuiet_nil ?_
  intro _ hw'
  obtain ⟨y, hw''⟩ := hw'
  subst hw''
  go_wp2
  go_ret
  exact ⟨by rw [H.out]; rfl, HB.out.trans (y.below.mono HB.out.size)⟩

set_option maxHeartbeats 1000000 in
theorem expected_any {r s : Int} (B : BoundP x) (S : SpotP x r s) (hW : Whole w g t x.cells) :
    Calls Try.prog 42 #[.pointer (some ⟨g, 0, none⟩), spotV r s] w fun e w' => e = .returned (.int .i64 (exP x r s)) ∧ Below w.heap.size w w' := by
  have hb : Below w.heap.size w (w.alloc (.cells #[.int .i64 r, .int .i64 s] 25)) := (Below.refl _ _).alloc (Nat.le_refl _) _
  have hW1 := hW.alloc (.cells #[.int .i64 r, .int .i64 s] 25)
  have HA := Lib.hid (fun W (h : Whole W g t x.cells) => sends_any (w := W) B S h)
  have HM := Lib.hid (fun W (h : Whole W g t x.cells) => middle_any (w := W) B h)
  have HW := Lib.hid hW1
  have HB := Lib.hid hb
  have H := Lib.hid (show exP x r s = sdP x r s + mdP x from rfl)
  have b1 : 0 ≤ bgP x r s := S.b1
  have b2 : bgP x r s ≤ 36028797017915392 := S.b2
  have hs : sdP x r s = bgP x r s + x.sendOff := rfl
  obtain ⟨m1, m2, _⟩ := mid_bounds B
  obtain ⟨_, _, _, _, o1, o2, _, _, d1, d2, d3, _⟩ := B
  generalize mdP x = m at *
  have f1 : 0 ≤ sdP x r s := by omega
  have f2 : sdP x r s ≤ 36028797018963968 := by omega
  generalize sdP x r s = a at *
  have m3 : 0 ≤ m := by omega
  have m4 : m ≤ 1048576 := by omega
  clear hW hW1 hb S hs b1 b2 o1 o2 d1 d2 d3 m1 m2
  go_enter Try.func42, Try.ntmps42
  go_wp2_with (first
    | (go_at_call 41; refine (HA.out _ HW.out).mono ?_; rintro e w1 ⟨rfl, hb1⟩; have HW1 := Lib.hid (k_later hb1 HW.out))
    | (go_at_call 44; refine (HM.out _ HW1.out).mono ?_; rintro e w2 ⟨rfl, n, rfl⟩))
  go_ret
  exact ⟨by rw [H.out]; rfl, below_drewN (k_then hb1 HB.out) _⟩

/-- The place that has so many slots ahead of it. -/
def spotR (x : Pl) (n : Int) : Int := n / x.nodes
def spotS (x : Pl) (n : Int) : Int := n % x.nodes
set_option maxHeartbeats 1000000 in
theorem place_any {n : Int} (B : BoundP x) (h1 : 0 ≤ n) (h2 : n ≤ 1152921504606846976) (hW : Whole w g t x.cells) :
    Calls Try.prog 37 #[.pointer (some ⟨g, 0, none⟩), .int .i64 n] w fun e w' => e = .returned (spotV (spotR x n) (spotS x n)) ∧ Below w.heap.size w w' := by
  have hb : Below w.heap.size w (w.alloc (.cells #[.int .i64 0, .int .i64 0] 25)) := (Below.refl _ _).alloc (Nat.le_refl _) _
  have hP := Whole.new w 25 #[.int .i64 0, .int .i64 0]
  obtain ⟨⟨c0, _⟩, _⟩ := l_cells (hW.alloc (.cells #[.int .i64 0, .int .i64 0] 25))
  obtain ⟨_, _, pf⟩ := k_two hP
  obtain ⟨n1, n2, _⟩ := B
  have e1 : n.tdiv x.nodes = spotR x n := Int.tdiv_eq_ediv_of_nonneg h1
  have e2 : n.tmod x.nodes = spotS x n := Int.tmod_eq_emod_of_nonneg h1
  have q1 : 0 ≤ spotR x n := Int.ediv_nonneg h1 (by omega)
  have q2 : spotR x n ≤ n := Int.ediv_le_self _ h1
  have q3 : 0 ≤ spotS x n := Int.emod_nonneg _ (by omega)
  have q4 : spotS x n < x.nodes := Int.emod_lt_of_pos _ (by omega)
  generalize spotR x n = q at *
  generalize spotS x n = p at *
  clear hW
  go_enter Try.func37, Try.ntmps37
  go_wp2
  generalize hw1 : w.alloc _ = w1 at *
  have HB := Lib.hid hb
  have HP := Lib.hid hP
  clear hw1 hb hP pf
  have z1 : ¬ x.nodes = 0 := by omega
  have z2 : IntKind.i64.wrap q = q := IntWalk.i64_in _ (by omega)
  go_still_tail 7, (by kernel_rfl)
  change wpList _ _ _ _ _ w1.drew
  obtain ⟨w2, hw2⟩ : ∃ w2, w2 = w1.drew := ⟨_, rfl⟩
  have HP2 := Lib.hid (show Whole w2 w.heap.size 25 #[.int .i64 0, .int .i64 0] from hw2 ▸ HP.out)
  have HB2 := Lib.hid (show Below w.heap.size w w2 from hw2 ▸ ⟨HB.out.os, HB.out.tape, HB.out.output, HB.out.size, HB.out.block⟩)
  rw [← hw2]
  clear hw2 HP HB c0
  refine wpList_store_row rfl 25 _ _ rfl w.heap.size #[.int .i64 q, .int .i64 p] rfl rfl 25 #[.int .i64 0, .int .i64 0] HP2.out info_place rfl (spot_one q p) ?_
  go_wp2
  refine bodyPost_ret (v := spotV q p) ?_ rfl ⟨rfl, p_below_row HB2.out (Nat.le_refl _) _⟩
  exact p_results0 rfl _ _ _ 25 _ (0, 0) _ rfl (p_row_whole HP2.out) Try.underlying25 rfl info_place

end
end Go.Proofs.Ytdeiohcciafffaa
