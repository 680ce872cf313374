/- Apart: by a contract. No condition. -/
import Derived.Test.YtdeiohcciafffaaPFun2
namespace Go.Proofs.Ytdeiohcciafffaa
open Go.RowKit Go.Shelf

def apartP (x : Pl) (r s r' s' : Int) : Int := ahP x r' s' - ahP x r s

set_option maxRecDepth 100000 in
set_option maxHeartbeats 4000000 in
theorem Apart_any (x : Pl) (w : World) (r s r' s' : Int) : Calls Try.prog 15 #[.agg x.cells, spotV r s, spotV r' s'] w fun e w' => e = .returned (.tuple #[.int .i64 (tellP (hasP x r s && hasP x r' s') (apartP x r s r' s')), .int .i64 (errP (hasP x r s && hasP x r' s'))]) ∧ Below w.heap.size w w' := by
  obtain ⟨hb, hp, hl⟩ := p_boxes2 x.cells #[.int .i64 r, .int .i64 s] w 23 25
  have hz : ((w.alloc (.cells x.cells 23)).alloc (.cells #[.int .i64 r, .int .i64 s] 25)).heap.size = w.heap.size + 2 := by simp
  have hm := p_new 25 #[.int .i64 r', .int .i64 s'] hz
  have hp2 := hp.alloc (.cells #[.int .i64 r', .int .i64 s'] 25)
  have hl2 := hl.alloc (.cells #[.int .i64 r', .int .i64 s'] 25)
  have hb2 := hb.alloc hb.size (.cells #[.int .i64 r', .int .i64 s'] 25)
  have hz3 : (((w.alloc (.cells x.cells 23)).alloc (.cells #[.int .i64 r, .int .i64 s] 25)).alloc (.cells #[.int .i64 r', .int .i64 s'] 25)).heap.size = w.heap.size + 3 := by simp
  have HS := Lib.hid x.cellsL
  have HP := Lib.hid hp2
  have HM := Lib.hid (hm.alloc (.cells x.cells 53))
  have HL := Lib.hid (hl2.alloc (.cells x.cells 53))
  have HW := Lib.hid (p_new 53 x.cells hz3)
  have HB := Lib.hid (hb2.alloc hb2.size (.cells x.cells 53))
  have HA := Lib.hid (fun W b c u (h : Whole W (w.heap.size + 3) 53 x.cells) (hP : Whole W b u #[.int .i64 r, .int .i64 s, .int .i64 r', .int .i64 s']) => has2_any (w := W) r s r' s' b c u h hP)
  clear hb hp hm hz hl hp2 hl2 hb2 hz3
  go_enter Try.func15, Try.ntmps15
  go_upto_region 2 with (first
    | (refine wpList_load_row rfl 23 _ rfl w.heap.size rfl 23 x.cells (0, 0) _ HP.out Try.underlying23 rfl HS.out.plan ?_)
    | (refine wpList_store_last rfl 53 _ _ rfl _ x.cells rfl rfl 53 _ (by simp) HS.out.sheet HS.out.size.symm HS.out.one ?_))
  generalize (((w.alloc (.cells x.cells 23)).alloc (.cells #[.int .i64 r, .int .i64 s] 25)).alloc (.cells #[.int .i64 r', .int .i64 s'] 25)).alloc (.cells x.cells 53) = w3 at *
  obtain ⟨l0, l1, _⟩ := k_two HL.out
  obtain ⟨n0, n1, _⟩ := k_two HM.out
  cases hh : hasP x r s && hasP x r' s'
  · have HQ := Lib.hid hh
    rw [hh] at HA
    clear hh
    go_wp2_with (first
      | (go_at_call 39; refine (HA.out _ _ _ 25 (HW.out.alloc _) (Whole.new w3 25 #[.int .i64 r, .int .i64 s, .int .i64 r', .int .i64 s'])).mono ?_; rintro e w4 ⟨rfl, hb4⟩; have HB4 := Lib.hid (k_then hb4 (HB.out.alloc HB.out.size _)); clear hb4 l0 l1 n0 n1))
    refine bodyPost_ret (v := .tuple #[.int .i64 0, .int .i64 90]) (by simp [results, Try.results15, go_sem]) rfl ⟨by rw [HQ.out]; rfl, HB4.out⟩
  · have HE := Lib.hid hh
    rw [hh] at HA
    rw [Bool.and_eq_true] at hh
    obtain ⟨B, S⟩ := has_yes hh.1
    obtain ⟨_, S'⟩ := has_yes hh.2
    have HG := Lib.hid (fun W (h : Whole W (w.heap.size + 3) 53 x.cells) => ahead_any (w := W) B S h)
    have HH := Lib.hid (fun W (h : Whole W (w.heap.size + 3) 53 x.cells) => ahead_any (w := W) B S' h)
    have e1 : 0 ≤ ahP x r s := by have := S.a1; have := S.s1; unfold ahP; omega
    have e2 : ahP x r s ≤ 34359738368 := by have := S.a2; have := S.s2; have := B.n2; unfold ahP; omega
    have e3 : 0 ≤ ahP x r' s' := by have := S'.a1; have := S'.s1; unfold ahP; omega
    have e4 : ahP x r' s' ≤ 34359738368 := by have := S'.a2; have := S'.s2; have := B.n2; unfold ahP; omega
    have HQ := Lib.hid (show apartP x r s r' s' = ahP x r' s' - ahP x r s from rfl)
    generalize ahP x r s = q at *
    generalize ahP x r' s' = q' at *
    clear hh B S S'
    go_upto_region 4 with (first
      | (go_at_call 39; refine (HA.out _ _ _ 25 (HW.out.alloc _) (Whole.new w3 25 #[.int .i64 r, .int .i64 s, .int .i64 r', .int .i64 s'])).mono ?_; rintro e w4 ⟨rfl, hb4⟩; have HB4 := Lib.hid (k_then hb4 (HB.out.alloc HB.out.size _)); have HW4 := Lib.hid (k_later hb4 (HW.out.alloc _)); have HL4 := Lib.hid (k_later hb4 (HL.out.alloc _)); have HM4 := Lib.hid (k_later hb4 (HM.out.alloc _)); clear hb4 l0 l1 n0 n1))
    refine wp_region_later (by kernel_rfl) (by kernel_rfl) ?_
    go_big_quiet_want
    refine quiet_load_row 25 _ rfl (w.heap.size + 2) rfl 25 #[.int .i64 r', .int .i64 s'] (0, 0) _ (later_row HM4.out) Try.underlying25 rfl info_place ?_
    simp only [Act.put, List.setIfInBounds_toArray, List.set_cons_succ, List.set_cons_zero]
    go_big_quiet_on
    go_big_quiet_step ((go_at_call 40; exact later_of_at _ (HH.out _ (later_row HW4.out _ ⟨_, rfl⟩))))
    go_big_quiet_want
    refine quiet_load_row 25 _ rfl (w.heap.size + 1) rfl 25 #[.int .i64 r, .int .i64 s] (0, 0) _ (later_row HL4.out) Try.underlying25 rfl info_place ?_
    simp only [Act.put, List.setIfInBounds_toArray, List.set_cons_succ, List.set_cons_zero]
    go_big_quiet_on
    go_big_quiet_step ((go_at_call 40; exact later_of_at _ (HG.out _ (later_row HW4.out _ ⟨_, rfl⟩))))
    repeat (go_big_quiet_step (fail))
    refine wpQuiet_nil ?_
    intro _ hw'
    obtain ⟨y, hw''⟩ := hw'
    subst hw''
    go_wp2
    refine bodyPost_ret (v := .tuple #[.int .i64 (q' - q), .int .i64 0]) (by simp [results, Try.results15, go_sem]) rfl ⟨by rw [HQ.out, HE.out]; rfl, HB4.out.trans (y.below.mono HB4.out.size)⟩

end Go.Proofs.Ytdeiohcciafffaa
