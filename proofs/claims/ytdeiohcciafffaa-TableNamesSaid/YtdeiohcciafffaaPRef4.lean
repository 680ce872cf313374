/- The document's Next, Apart: by contracts: the program's own answers. No condition. -/
import Derived.Test.YtdeiohcciafffaaPRef3
namespace Go.Proofs.Ytdeiohcciafffaa
open Go.RowKit Go.Shelf

/-- A slot on, or the next round's first one: where so many slots are ahead. -/
theorem spot_on {x : Pl} {r s : Int} (h1 : 0 ≤ s) (h2 : s + 1 < x.nodes) : spotR x (ahP x r s + 1) = r ∧ spotS x (ahP x r s + 1) = s + 1 := by
  have e : ahP x r s + 1 = (s + 1) + r * x.nodes := by unfold ahP; omega
  unfold spotR spotS
  rw [e]
  exact ⟨by rw [Int.add_mul_ediv_right _ _ (by omega), Int.ediv_eq_zero_of_lt (by omega) h2]; omega, by rw [Int.add_mul_emod_self_right, Int.emod_eq_of_lt (by omega) h2]⟩
theorem spot_over {x : Pl} {r s : Int} (h1 : 0 ≤ s) (h2 : s + 1 = x.nodes) : spotR x (ahP x r s + 1) = r + 1 ∧ spotS x (ahP x r s + 1) = 0 := by
  have e : ahP x r s + 1 = (r + 1) * x.nodes := by unfold ahP; rw [Int.add_mul]; omega
  unfold spotR spotS
  rw [e]
  exact ⟨Int.mul_ediv_cancel _ (by omega), Int.mul_emod_left _ _⟩

section
variable (x : Pl) (w : World)

set_option maxRecDepth 100000 in
set_option maxHeartbeats 4000000 in
theorem refApart_any (r s r' s' : Int) : Calls Try.prog 16 #[.agg x.cells, spotV r s, spotV r' s'] w fun e w' => e = .returned (.tuple #[.int .i64 (tellP (hasP x r s && hasP x r' s') (apartP x r s r' s')), .int .i64 (errP (hasP x r s && hasP x r' s'))]) ∧ Below w.heap.size w w' := by
  obtain ⟨hb, hp, hl⟩ := p_boxes2 x.cells #[.int .i64 r, .int .i64 s] w 23 25
  have hz : ((w.alloc (.cells x.cells 23)).alloc (.cells #[.int .i64 r, .int .i64 s] 25)).heap.size = w.heap.size + 2 := by simp
  have hm := p_new 25 #[.int .i64 r', .int .i64 s'] hz
  have hp2 := hp.alloc (.cells #[.int .i64 r', .int .i64 s'] 25)
  have hl2 := hl.alloc (.cells #[.int .i64 r', .int .i64 s'] 25)
  have hb2 := hb.alloc hb.size (.cells #[.int .i64 r', .int .i64 s'] 25)
  have HS := Lib.hid x.cellsL
  have HP := Lib.hid hp2
  have HB := Lib.hid hb2
  have HM := Lib.hid hm
  obtain ⟨l0, l1, _⟩ := k_two hl2
  have hg := fun W => refBegin_any x W r s
  have hg' := fun W => refBegin_any x W r' s'
  clear hb hp hm hz hl hp2 hl2 hb2
  cases hh : hasP x r s
  · cases hh' : hasP x r' s'
    all_goals
      rw [hh] at hg
      rw [hh'] at hg'
      clear hh hh'
      unfold tellP errP at hg hg'
      simp only [Bool.false_eq_true, if_false, if_true] at hg hg'
      generalize bgP x r' s' = q' at *
      have HG := Lib.hid hg
      have HG' := Lib.hid hg'
      clear hg hg'
      go_enter Try.func16, Try.ntmps16
      go_wp2_with (first
        | (refine wpList_load_row rfl 23 _ rfl w.heap.size rfl 23 x.cells (0, 0) _ HP.out Try.underlying23 rfl HS.out.plan ?_)
        | (refine wpList_load_row rfl 23 _ rfl w.heap.size rfl 23 x.cells (0, 0) _ HP1.out Try.underlying23 rfl HS.out.plan ?_)
        | (go_at_call 10; refine (HG.out _).mono ?_; clear HG; rintro e w1 ⟨rfl, hb1⟩; have HP1 := Lib.hid (k_later hb1 HP.out); have HB1 := Lib.hid (k_then hb1 HB.out); obtain ⟨m0, m1, _⟩ := k_two (k_later hb1 HM.out); clear hb1 l0 l1)
        | (go_at_call 10; refine (HG'.out _).mono ?_; rintro e w2 ⟨rfl, hb2⟩; have HB2 := Lib.hid (k_then hb2 HB1.out); clear hb2 m0 m1))
      refine bodyPost_ret (v := .tuple #[.int .i64 0, .int .i64 90]) (by simp [results, Try.results16, go_sem]) rfl ⟨rfl, HB2.out⟩
  obtain ⟨B, S⟩ := has_yes hh
  have b1 : 0 ≤ bgP x r s := S.b1
  have b2 : bgP x r s ≤ 36028797017915392 := S.b2
  have t1 := B.s1
  cases hh' : hasP x r' s'
  · have HE := Lib.hid (show (hasP x r s && hasP x r' s') = false by simp [hh'])
    rw [hh] at hg
    rw [hh'] at hg'
    clear hh hh' S B
    unfold tellP errP at hg hg'
    simp only [Bool.false_eq_true, if_false, if_true] at hg hg'
    generalize bgP x r s = q at *
    have HG := Lib.hid hg
    have HG' := Lib.hid hg'
    clear hg hg'
    go_enter Try.func16, Try.ntmps16
    go_wp2_with (first
      | (refine wpList_load_row rfl 23 _ rfl w.heap.size rfl 23 x.cells (0, 0) _ HP.out Try.underlying23 rfl HS.out.plan ?_)
      | (refine wpList_load_row rfl 23 _ rfl w.heap.size rfl 23 x.cells (0, 0) _ HP1.out Try.underlying23 rfl HS.out.plan ?_)
      | (go_at_call 10; refine (HG.out _).mono ?_; clear HG; rintro e w1 ⟨rfl, hb1⟩; have HP1 := Lib.hid (k_later hb1 HP.out); have HB1 := Lib.hid (k_then hb1 HB.out); obtain ⟨m0, m1, _⟩ := k_two (k_later hb1 HM.out); clear hb1 l0 l1)
      | (go_at_call 10; refine (HG'.out _).mono ?_; rintro e w2 ⟨rfl, hb2⟩; have HB2 := Lib.hid (k_then hb2 HB1.out); clear hb2 m0 m1))
    refine bodyPost_ret (v := .tuple #[.int .i64 0, .int .i64 90]) (by simp [results, Try.results16, go_sem]) rfl ⟨rfl, HB2.out⟩
  obtain ⟨_, S'⟩ := has_yes hh'
  have b3 : 0 ≤ bgP x r' s' := S'.b1
  have b4 : bgP x r' s' ≤ 36028797017915392 := S'.b2
  have e0 : bgP x r' s' - bgP x r s = apartP x r s r' s' * x.slot := by unfold bgP apartP; rw [Int.sub_mul]
  have e1 : (bgP x r' s' - bgP x r s).tdiv x.slot = apartP x r s r' s' := by rw [e0]; exact Int.mul_tdiv_cancel _ (by omega)
  have f1 : -34359738384 ≤ apartP x r s r' s' ∧ apartP x r s r' s' ≤ 34359738384 := by
    have := S.a1; have := S.a2; have := S.s1; have := S.s2; have := S'.a1; have := S'.a2; have := S'.s1; have := S'.s2; have := B.n2
    unfold apartP ahP
    omega
  rw [hh] at hg
  rw [hh'] at hg'
  clear hh hh' S S' B e0
  unfold tellP errP at hg hg'
  simp only [if_true] at hg hg'
  obtain ⟨d, hd⟩ : ∃ d, d = apartP x r s r' s' := ⟨_, rfl⟩
  have HV := Lib.hid hd
  rw [← hd] at e1 f1
  clear hd
  generalize bgP x r s = q at *
  generalize bgP x r' s' = q' at *
  obtain ⟨f2, f3⟩ := f1
  have HG := Lib.hid hg
  have HG' := Lib.hid hg'
  clear hg hg'
  go_enter Try.func16, Try.ntmps16
  go_wp2_with (first
    | (refine wpList_load_row rfl 23 _ rfl w.heap.size rfl 23 x.cells (0, 0) _ HP.out Try.underlying23 rfl HS.out.plan ?_)
    | (refine wpList_load_row rfl 23 _ rfl w.heap.size rfl 23 x.cells (0, 0) _ HP1.out Try.underlying23 rfl HS.out.plan ?_)
    | (go_at_call 10; refine (HG.out _).mono ?_; clear HG; rintro e w1 ⟨rfl, hb1⟩; have HP1 := Lib.hid (k_later hb1 HP.out); have HB1 := Lib.hid (k_then hb1 HB.out); obtain ⟨m0, m1, _⟩ := k_two (k_later hb1 HM.out); clear hb1 l0 l1)
    | (go_at_call 10; refine (HG'.out _).mono ?_; rintro e w2 ⟨rfl, hb2⟩; have HB2 := Lib.hid (k_then hb2 HB1.out); obtain ⟨⟨_, _, c2, _⟩, _⟩ := l_cells (k_later hb2 HP1.out); clear hb2 m0 m1))
  refine bodyPost_ret (v := .tuple #[.int .i64 d, .int .i64 0]) (by simp [results, Try.results16, go_sem]) rfl ⟨by rw [← HV.out]; rfl, HB2.out⟩
/-- A place may be laid behind whatever was laid, and written. -/
def NextAt (g : Nat) (w : World) (v : Value) (e : Ending) (w' : World) : Prop := e = .returned v ∧ Below g w w'

set_option maxRecDepth 100000 in
set_option maxHeartbeats 4000000 in
theorem refNext_any (r s : Int) : Calls Try.prog 14 #[.agg x.cells, spotV r s] w fun e w' => e = .returned (spotT (nxB x r s) (spotR x (ahP x r s + 1)) (spotS x (ahP x r s + 1))) ∧ Below w.heap.size w w' := by
  obtain ⟨hb, hp, hl⟩ := p_boxes2 x.cells #[.int .i64 r, .int .i64 s] w 23 25
  have hz : ((w.alloc (.cells x.cells 23)).alloc (.cells #[.int .i64 r, .int .i64 s] 25)).heap.size = w.heap.size + 2 := by simp
  have hr := p_new 25 zeroSpot hz
  have HS := Lib.hid x.cellsL
  have HP := Lib.hid (hp.alloc (.cells zeroSpot 25))
  have HR := Lib.hid hr
  have HL := Lib.hid (hl.alloc (.cells zeroSpot 25))
  have HB := Lib.hid (hb.alloc hb.size (.cells zeroSpot 25))
  obtain ⟨l0, l1, _⟩ := k_two (hl.alloc (.cells zeroSpot 25))
  have hg := fun W => refHas_any x W r s
  have HF0 := Lib.hid (fun (h : nxB x r s = false) (a b : Int) => (by rw [h]; rfl : spotT (nxB x r s) a b = spotT false 0 0))
  clear hb hp hr hz hl
  go_enter Try.func14, Try.ntmps14
  go_upto_region 1 with fail
  generalize ((w.alloc (.cells x.cells 23)).alloc (.cells #[.int .i64 r, .int .i64 s] 25)).alloc (.cells zeroSpot 25) = w3 at *
  cases hh : hasP x r s
  · have HF := Lib.hid (HF0.out (by simp [nxB, hh]) (spotR x (ahP x r s + 1)) (spotS x (ahP x r s + 1)))
    rw [hh] at hg
    have HG := Lib.hid hg
    clear hh HF0 hg
    by_cases h1 : x.nodes ≤ wrap64 (s + 1)
    · go_upto_region 5 with (first
        | (refine wpList_load_row rfl 23 _ rfl w.heap.size rfl 23 x.cells (0, 0) _ HP.out Try.underlying23 rfl HS.out.plan ?_)
        | (go_at_call 34; refine (HG.out _).mono ?_; rintro e w4 ⟨rfl, hb4⟩; have HP4 := Lib.hid (k_later hb4 HP.out); have HR4 := Lib.hid (k_later hb4 HR.out); have HB4 := Lib.hid (k_then hb4 HB.out); obtain ⟨⟨c0, _⟩, _⟩ := l_cells ((k_later hb4 HP.out).alloc (.cells #[.int .i64 r, .int .i64 (wrap64 (s + 1))] 25)); obtain ⟨m0, m1, _⟩ := k_two (k_later hb4 HL.out); obtain ⟨k0, k1, _⟩ := k_two ((k_later hb4 HL.out).alloc (.cells #[.int .i64 r, .int .i64 (wrap64 (s + 1))] 25)); clear hb4 l0 l1))
      have HR5 := Lib.hid (HR4.out.alloc (.cells #[.int .i64 (wrap64 (r + 1)), .int .i64 0] 25))
      have HB5 := Lib.hid (HB4.out.alloc HB4.out.size (.cells #[.int .i64 (wrap64 (r + 1)), .int .i64 0] 25))
      clear c0 m0 m1 k0 k1
      go_wp2_with (refine wpList_store_row rfl 25 (.tmp 4) _ rfl (w.heap.size + 2) zeroSpot rfl rfl 25 zeroSpot HR5.out info_place rfl (spot_one _ _) ?_)
      refine bodyPost_ret (v := spotT false 0 0) (p_results1 rfl _ _ _ 25 _ (0, 0) _ rfl rfl (p_row_whole HR5.out) Try.underlying25 rfl info_place) rfl ⟨by rw [HF.out], p_below_row HB5.out (by omega) _⟩
    · go_upto_region 5 with (first
        | (refine wpList_load_row rfl 23 _ rfl w.heap.size rfl 23 x.cells (0, 0) _ HP.out Try.underlying23 rfl HS.out.plan ?_)
        | (go_at_call 34; refine (HG.out _).mono ?_; rintro e w4 ⟨rfl, hb4⟩; have HP4 := Lib.hid (k_later hb4 HP.out); have HR4 := Lib.hid (k_later hb4 HR.out); have HB4 := Lib.hid (k_then hb4 HB.out); obtain ⟨⟨c0, _⟩, _⟩ := l_cells ((k_later hb4 HP.out).alloc (.cells #[.int .i64 r, .int .i64 (wrap64 (s + 1))] 25)); obtain ⟨m0, m1, _⟩ := k_two (k_later hb4 HL.out); obtain ⟨k0, k1, _⟩ := k_two ((k_later hb4 HL.out).alloc (.cells #[.int .i64 r, .int .i64 (wrap64 (s + 1))] 25)); clear hb4 l0 l1))
      have HR5 := Lib.hid (HR4.out.alloc (.cells #[.int .i64 r, .int .i64 (wrap64 (s + 1))] 25))
      have HB5 := Lib.hid (HB4.out.alloc HB4.out.size (.cells #[.int .i64 r, .int .i64 (wrap64 (s + 1))] 25))
      clear c0 m0 m1 k0 k1
      go_wp2_with (refine wpList_store_row rfl 25 (.tmp 4) _ rfl (w.heap.size + 2) zeroSpot rfl rfl 25 zeroSpot HR5.out info_place rfl (spot_one _ _) ?_)
      refine bodyPost_ret (v := spotT false 0 0) (p_results1 rfl _ _ _ 25 _ (0, 0) _ rfl rfl (p_row_whole HR5.out) Try.underlying25 rfl info_place) rfl ⟨by rw [HF.out], p_below_row HB5.out (by omega) _⟩
  rw [hh] at hg
  have HG := Lib.hid hg
  obtain ⟨B, S⟩ := has_yes hh
  obtain ⟨r1, r2, s1, s2, _⟩ := S
  have n2 := B.n2
  by_cases h1 : s + 1 < x.nodes
  · obtain ⟨q1, q2⟩ := spot_on (r := r) s1 h1
    have HF := Lib.hid (show spotT (nxB x r s) (spotR x (ahP x r s + 1)) (spotS x (ahP x r s + 1)) = spotT true r (s + 1) by rw [nxB, hh, q1, q2, decide_eq_true r2]; rfl)
    clear hh HF0 hg B q1 q2
    go_upto_region 5 with (first
      | (refine wpList_load_row rfl 23 _ rfl w.heap.size rfl 23 x.cells (0, 0) _ HP.out Try.underlying23 rfl HS.out.plan ?_)
      | (go_at_call 34; refine (HG.out _).mono ?_; rintro e w4 ⟨rfl, hb4⟩; have HP4 := Lib.hid (k_later hb4 HP.out); have HR4 := Lib.hid (k_later hb4 HR.out); have HB4 := Lib.hid (k_then hb4 HB.out); obtain ⟨⟨c0, _⟩, _⟩ := l_cells ((k_later hb4 HP.out).alloc (.cells #[.int .i64 r, .int .i64 (s + 1)] 25)); obtain ⟨m0, m1, _⟩ := k_two (k_later hb4 HL.out); obtain ⟨k0, k1, _⟩ := k_two ((k_later hb4 HL.out).alloc (.cells #[.int .i64 r, .int .i64 (s + 1)] 25)); clear hb4 l0 l1))
    have HR5 := Lib.hid (HR4.out.alloc (.cells #[.int .i64 r, .int .i64 (s + 1)] 25))
    have HB5 := Lib.hid (HB4.out.alloc HB4.out.size (.cells #[.int .i64 r, .int .i64 (s + 1)] 25))
    clear c0 m0 m1 k0 k1
    go_wp2_with (refine wpList_store_row rfl 25 (.tmp 4) _ rfl (w.heap.size + 2) #[.int .i64 r, .int .i64 (s + 1)] rfl rfl 25 zeroSpot HR5.out info_place rfl (spot_one _ _) ?_)
    refine bodyPost_ret (v := spotT true r (s + 1)) (p_results1 rfl _ _ _ 25 _ (0, 0) _ rfl rfl (p_row_whole HR5.out) Try.underlying25 rfl info_place) rfl ⟨by rw [HF.out], p_below_row HB5.out (by omega) _⟩
  · obtain ⟨q1, q2⟩ := spot_over (r := r) s1 (by omega : s + 1 = x.nodes)
    have h2 : x.nodes ≤ s + 1 := by omega
    by_cases h3 : r < 2147483647
    · have HF := Lib.hid (show spotT (nxB x r s) (spotR x (ahP x r s + 1)) (spotS x (ahP x r s + 1)) = spotT true (r + 1) 0 by rw [nxB, hh, q1, q2, decide_eq_true (by omega : r + 1 ≤ 2147483647)]; rfl)
      clear hh HF0 hg B q1 q2 h1
      go_upto_region 5 with (first
        | (refine wpList_load_row rfl 23 _ rfl w.heap.size rfl 23 x.cells (0, 0) _ HP.out Try.underlying23 rfl HS.out.plan ?_)
        | (go_at_call 34; refine (HG.out _).mono ?_; rintro e w4 ⟨rfl, hb4⟩; have HP4 := Lib.hid (k_later hb4 HP.out); have HR4 := Lib.hid (k_later hb4 HR.out); have HB4 := Lib.hid (k_then hb4 HB.out); obtain ⟨⟨c0, _⟩, _⟩ := l_cells ((k_later hb4 HP.out).alloc (.cells #[.int .i64 r, .int .i64 (s + 1)] 25)); obtain ⟨m0, m1, _⟩ := k_two (k_later hb4 HL.out); obtain ⟨k0, k1, _⟩ := k_two ((k_later hb4 HL.out).alloc (.cells #[.int .i64 r, .int .i64 (s + 1)] 25)); clear hb4 l0 l1))
      have HR5 := Lib.hid (HR4.out.alloc (.cells #[.int .i64 (r + 1), .int .i64 0] 25))
      have HB5 := Lib.hid (HB4.out.alloc HB4.out.size (.cells #[.int .i64 (r + 1), .int .i64 0] 25))
      clear c0 m0 m1 k0 k1
      go_wp2_with (refine wpList_store_row rfl 25 (.tmp 4) _ rfl (w.heap.size + 2) #[.int .i64 (r + 1), .int .i64 0] rfl rfl 25 zeroSpot HR5.out info_place rfl (spot_one _ _) ?_)
      refine bodyPost_ret (v := spotT true (r + 1) 0) (p_results1 rfl _ _ _ 25 _ (0, 0) _ rfl rfl (p_row_whole HR5.out) Try.underlying25 rfl info_place) rfl ⟨by rw [HF.out], p_below_row HB5.out (by omega) _⟩
    · have HF := Lib.hid (HF0.out (by rw [nxB, q1, decide_eq_false (by omega : ¬ r + 1 ≤ 2147483647), Bool.and_false]) (spotR x (ahP x r s + 1)) (spotS x (ahP x r s + 1)))
      have h4 : 2147483647 < r + 1 := by omega
      clear hh HF0 hg B q1 q2 h1
      go_upto_region 5 with (first
        | (refine wpList_load_row rfl 23 _ rfl w.heap.size rfl 23 x.cells (0, 0) _ HP.out Try.underlying23 rfl HS.out.plan ?_)
        | (go_at_call 34; refine (HG.out _).mono ?_; rintro e w4 ⟨rfl, hb4⟩; have HP4 := Lib.hid (k_later hb4 HP.out); have HR4 := Lib.hid (k_later hb4 HR.out); have HB4 := Lib.hid (k_then hb4 HB.out); obtain ⟨⟨c0, _⟩, _⟩ := l_cells ((k_later hb4 HP.out).alloc (.cells #[.int .i64 r, .int .i64 (s + 1)] 25)); obtain ⟨m0, m1, _⟩ := k_two (k_later hb4 HL.out); obtain ⟨k0, k1, _⟩ := k_two ((k_later hb4 HL.out).alloc (.cells #[.int .i64 r, .int .i64 (s + 1)] 25)); clear hb4 l0 l1))
      have HR5 := Lib.hid (HR4.out.alloc (.cells #[.int .i64 (r + 1), .int .i64 0] 25))
      have HB5 := Lib.hid (HB4.out.alloc HB4.out.size (.cells #[.int .i64 (r + 1), .int .i64 0] 25))
      clear c0 m0 m1 k0 k1
      go_wp2_with (refine wpList_store_row rfl 25 (.tmp 4) _ rfl (w.heap.size + 2) zeroSpot rfl rfl 25 zeroSpot HR5.out info_place rfl (spot_one _ _) ?_)
      refine bodyPost_ret (v := spotT false 0 0) (p_results1 rfl _ _ _ 25 _ (0, 0) _ rfl rfl (p_row_whole HR5.out) Try.underlying25 rfl info_place) rfl ⟨by rw [HF.out], p_below_row HB5.out (by omega) _⟩

end
end Go.Proofs.Ytdeiohcciafffaa
