/- The document's Of: by a contract: the program's own answer. No condition. -/
import Derived.Test.YtdeiohcciafffaaPRef2
namespace Go.Proofs.Ytdeiohcciafffaa
open Go.RowKit Go.Shelf

theorem of_last (x : Pl) : 2147483647 * rdL x = bgP x 2147483647 0 := by
  rw [← ref_begin x 2147483647 0]
  omega
theorem of_round (x : Pl) (l : Int) (h : 0 ≤ x.slot) : l / rdL x = spotR x (l / x.slot) := by
  unfold rdL spotR
  rw [Int.ediv_ediv_of_nonneg h, Int.mul_comm]
theorem of_slot (x : Pl) (l : Int) (h : 1 ≤ x.slot) : l % rdL x / x.slot = spotS x (l / x.slot) := by
  have h1 := of_round x l (by omega)
  have h2 : l % rdL x = l - rdL x * (l / rdL x) := Int.emod_def ..
  have h3 : spotS x (l / x.slot) = l / x.slot - x.nodes * spotR x (l / x.slot) := Int.emod_def ..
  rw [h2, h3, h1]
  generalize spotR x (l / x.slot) = a
  have e : l - rdL x * a = l + (-(x.nodes * a)) * x.slot := by
    unfold rdL
    rw [Int.neg_mul, Int.mul_assoc, Int.mul_assoc, Int.mul_comm x.slot a]
    omega
  rw [e, Int.add_mul_ediv_right _ _ (by omega)]
  omega

section
variable (x : Pl) (w : World)

set_option maxRecDepth 100000 in
set_option maxHeartbeats 4000000 in
theorem refOf_any (l : Int) : Calls Try.prog 12 #[.agg x.cells, .int .i64 l] w fun e w' => e = .returned (spotT (ofB x l) (spotR x (l / x.slot)) (spotS x (l / x.slot))) ∧ Below w.heap.size w w' := by
  obtain ⟨hb, hp, hr⟩ := p_boxes2 x.cells zeroSpot w 23 25
  have HS := Lib.hid x.cellsL
  have HP := Lib.hid hp
  have HR := Lib.hid hr
  have HB := Lib.hid hb
  have HN := Lib.hid (fun W => refRound_any x W)
  have hc := fun W => refCheck_any x W
  rw [chk_err] at hc
  have HF0 := Lib.hid (fun (h : ofB x l = false) (a b : Int) => (by rw [h]; rfl : spotT (ofB x l) a b = spotT false 0 0))
  clear hb hp hr
  cases hk : okP x
  · have HF := Lib.hid (HF0.out (by simp [ofB, hk]) (spotR x (l / x.slot)) (spotS x (l / x.slot)))
    rw [hk] at hc
    have HC := Lib.hid hc
    generalize roundL x = m at *
    clear hk hc HF0
    go_enter Try.func12, Try.ntmps12
    go_wp2_with (first
      | (refine wpList_load_row rfl 23 _ rfl w.heap.size rfl 23 x.cells (0, 0) _ HP.out Try.underlying23 rfl HS.out.plan ?_)
      | (refine wpList_load_row rfl 23 _ rfl w.heap.size rfl 23 x.cells (0, 0) _ HP1.out Try.underlying23 rfl HS.out.plan ?_)
      | (go_at_call 35; refine (HN.out _).mono ?_; rintro e w1 ⟨rfl, hb1⟩; have HP1 := Lib.hid (k_later hb1 HP.out); have HR1 := Lib.hid (k_later hb1 HR.out); have HB1 := Lib.hid (k_then hb1 HB.out); clear hb1)
      | (go_at_call 38; refine (HC.out _).mono ?_; rintro e w2 ⟨rfl, hb2⟩; have HR2 := Lib.hid (k_later hb2 HR1.out); have HB2 := Lib.hid (k_then hb2 HB1.out); clear hb2)
      | (refine wpList_store_row rfl 25 (.tmp 4) _ rfl (w.heap.size + 1) zeroSpot rfl rfl 25 zeroSpot HR2.out info_place rfl (spot_one 0 0) ?_))
    refine bodyPost_ret (v := spotT false 0 0) (p_results1 rfl _ _ _ 25 _ (0, 0) _ rfl rfl (p_row_whole HR2.out) Try.underlying25 rfl info_place) rfl ⟨by rw [HF.out], p_below_row HB2.out (by omega) _⟩
  have B := bound_of hk
  rw [hk] at hc
  have HC := Lib.hid hc
  rw [show roundL x = rdL x from if_pos B.f3] at HN
  have m1 := B.m1
  have m2 := B.m2
  by_cases h1 : 0 ≤ l
  case neg =>
    have HF := Lib.hid (HF0.out (by simp [ofB, h1]) (spotR x (l / x.slot)) (spotS x (l / x.slot)))
    have d1 : l < 0 := by omega
    generalize rdL x = m at *
    clear hk hc HF0 B
    go_enter Try.func12, Try.ntmps12
    go_wp2_with (first
      | (refine wpList_load_row rfl 23 _ rfl w.heap.size rfl 23 x.cells (0, 0) _ HP.out Try.underlying23 rfl HS.out.plan ?_)
      | (refine wpList_load_row rfl 23 _ rfl w.heap.size rfl 23 x.cells (0, 0) _ HP1.out Try.underlying23 rfl HS.out.plan ?_)
      | (go_at_call 35; refine (HN.out _).mono ?_; rintro e w1 ⟨rfl, hb1⟩; have HP1 := Lib.hid (k_later hb1 HP.out); have HR1 := Lib.hid (k_later hb1 HR.out); have HB1 := Lib.hid (k_then hb1 HB.out); clear hb1)
      | (go_at_call 38; refine (HC.out _).mono ?_; rintro e w2 ⟨rfl, hb2⟩; have HR2 := Lib.hid (k_later hb2 HR1.out); have HB2 := Lib.hid (k_then hb2 HB1.out); clear hb2)
      | (refine wpList_store_row rfl 25 (.tmp 4) _ rfl (w.heap.size + 1) zeroSpot rfl rfl 25 zeroSpot HR2.out info_place rfl (spot_one 0 0) ?_))
    refine bodyPost_ret (v := spotT false 0 0) (p_results1 rfl _ _ _ 25 _ (0, 0) _ rfl rfl (p_row_whole HR2.out) Try.underlying25 rfl info_place) rfl ⟨by rw [HF.out], p_below_row HB2.out (by omega) _⟩
  by_cases h2 : l ≤ 2147483647 * rdL x
  case neg =>
    have HF := Lib.hid (HF0.out (by simp [ofB, ← of_last, h2]) (spotR x (l / x.slot)) (spotS x (l / x.slot)))
    generalize rdL x = m at *
    have d2 : 2147483647 * m < l := by omega
    clear hk hc HF0 B h2
    go_enter Try.func12, Try.ntmps12
    go_wp2_with (first
      | (refine wpList_load_row rfl 23 _ rfl w.heap.size rfl 23 x.cells (0, 0) _ HP.out Try.underlying23 rfl HS.out.plan ?_)
      | (refine wpList_load_row rfl 23 _ rfl w.heap.size rfl 23 x.cells (0, 0) _ HP1.out Try.underlying23 rfl HS.out.plan ?_)
      | (go_at_call 35; refine (HN.out _).mono ?_; rintro e w1 ⟨rfl, hb1⟩; have HP1 := Lib.hid (k_later hb1 HP.out); have HR1 := Lib.hid (k_later hb1 HR.out); have HB1 := Lib.hid (k_then hb1 HB.out); clear hb1)
      | (go_at_call 38; refine (HC.out _).mono ?_; rintro e w2 ⟨rfl, hb2⟩; have HR2 := Lib.hid (k_later hb2 HR1.out); have HB2 := Lib.hid (k_then hb2 HB1.out); clear hb2)
      | (refine wpList_store_row rfl 25 (.tmp 4) _ rfl (w.heap.size + 1) zeroSpot rfl rfl 25 zeroSpot HR2.out info_place rfl (spot_one 0 0) ?_))
    refine bodyPost_ret (v := spotT false 0 0) (p_results1 rfl _ _ _ 25 _ (0, 0) _ rfl rfl (p_row_whole HR2.out) Try.underlying25 rfl info_place) rfl ⟨by rw [HF.out], p_below_row HB2.out (by omega) _⟩
  have s1 := B.s1
  have s2 := B.s2
  obtain ⟨a, ha⟩ : ∃ a, a = l / rdL x := ⟨_, rfl⟩
  obtain ⟨u0, hu⟩ : ∃ u, u = l % rdL x := ⟨_, rfl⟩
  have HF := Lib.hid (fun (k : Int) (h : k = u0 / x.slot) => (by
    rw [show ofB x l = true by simp [ofB, hk, h1, ← of_last, h2], ← of_round x l (by omega), ← of_slot x l s1, ← ha, ← hu, h] : spotT (ofB x l) (spotR x (l / x.slot)) (spotS x (l / x.slot)) = spotT true a k))
  have e1 : l.tdiv (rdL x) = a := by rw [ha]; exact Int.tdiv_eq_ediv_of_nonneg h1
  have e2 : l.tmod (rdL x) = u0 := by rw [hu]; exact Int.tmod_eq_emod_of_nonneg h1
  have u1 : 0 ≤ u0 := by rw [hu]; exact Int.emod_nonneg _ (by omega)
  have u2 : u0 < 16777216 := by have := Int.emod_lt_of_pos l (show 0 < rdL x by omega); omega
  have a1 : 0 ≤ a := by rw [ha]; exact Int.ediv_nonneg h1 (by omega)
  have a2 : a ≤ l := by rw [ha]; exact Int.ediv_le_self _ h1
  generalize rdL x = m at *
  clear hk hc HF0 B hu ha
  go_enter Try.func12, Try.ntmps12
  go_upto_region 4 with (first
    | (refine wpList_load_row rfl 23 _ rfl w.heap.size rfl 23 x.cells (0, 0) _ HP.out Try.underlying23 rfl HS.out.plan ?_)
    | (refine wpList_load_row rfl 23 _ rfl w.heap.size rfl 23 x.cells (0, 0) _ HP1.out Try.underlying23 rfl HS.out.plan ?_)
    | (go_at_call 35; refine (HN.out _).mono ?_; rintro e w1 ⟨rfl, hb1⟩; have HP1 := Lib.hid (k_later hb1 HP.out); have HR1 := Lib.hid (k_later hb1 HR.out); have HB1 := Lib.hid (k_then hb1 HB.out); clear hb1)
    | (go_at_call 38; refine (HC.out _).mono ?_; rintro e w2 ⟨rfl, hb2⟩; have HP2 := Lib.hid (k_later hb2 HP1.out); have HR2 := Lib.hid (k_later hb2 HR1.out); have HB2 := Lib.hid (k_then hb2 HB1.out); clear hb2))
  have HA := Lib.hid (Whole.new w2 25 #[.int .i64 a, .int .i64 0])
  have HP3 := Lib.hid (HP2.out.alloc (.cells #[.int .i64 a, .int .i64 0] 25))
  have HR3 := Lib.hid (HR2.out.alloc (.cells #[.int .i64 a, .int .i64 0] 25))
  have HB3 := Lib.hid (HB2.out.alloc HB2.out.size (.cells #[.int .i64 a, .int .i64 0] 25))
  have HZ := Lib.hid HR2.out.lt
  go_upto_region 5 with (refine wpList_store_last (w := w2) rfl 25 (.tmp 7) (.tmp 28) rfl _ #[.int .i64 a, .int .i64 0] rfl rfl 25 _ rfl info_place rfl (spot_one a 0) ?_)
  generalize w2.alloc (.cells #[.int .i64 a, .int .i64 0] 25) = w4 at *
  have hz0 := HZ.out
  generalize hgz : w2.heap.size = gz at *
  clear hgz
  go_wp2
  go_loopw [8] (fun v W => ∃ k u : Int, v = .int .i64 u ∧ u + k * x.slot = u0 ∧ 0 ≤ u ∧ 0 ≤ k ∧ Whole W gz 25 #[.int .i64 a, .int .i64 k] ∧ Whole W w.heap.size 23 x.cells ∧ Whole W (w.heap.size + 1) 25 zeroSpot ∧ Below w.heap.size w W) (fun v _ => (intOf v).toNat)
  case atStart => exact ⟨0, u0, rfl, by omega, u1, by omega, HA.out, HP3.out, HR3.out, HB3.out⟩
  case round =>
    obtain ⟨k, u, rfl, hku, hu0, hk0, hA, hP, hR, hB⟩ := hrel
    obtain ⟨⟨_, _, c2, _⟩, _⟩ := l_cells hP
    obtain ⟨k0, k1, kf⟩ := k_two hA
    have hks : k * 1 ≤ k * x.slot := Int.mul_le_mul_of_nonneg_left s1 hk0
    have hkb : k ≤ 16777216 := by omega
    have hub : u ≤ 16777216 := by omega
    have HAr := Lib.hid hA
    have HPr := Lib.hid hP
    have HRr := Lib.hid hR
    have HBr := Lib.hid hB
    have HK := Lib.hid hku
    clear hA hP hR hB hku hks
    by_cases hlt : x.slot ≤ u
    · go_wp2
      go_round
      case rel =>
        refine ⟨k + 1, u - x.slot, by go_num, ?_, by omega, by omega, HAr.out.set 1 (.int .i64 (k + 1)), HPr.out.far (by show w.heap.size ≠ gz; omega) _, HRr.out.far (by show w.heap.size + 1 ≠ gz; omega) _, HBr.out.setCell (p := ⟨gz, 1, none⟩) (by show w.heap.size ≤ gz; omega) _⟩
        have := HK.out
        rw [Int.add_mul]
        omega
      case measure => simp [intOf]; omega
    · have HQ := Lib.hid (HF.out k (by
        have h3 : u0 = u + k * x.slot := HK.out.symm
        rw [h3, Int.add_mul_ediv_right _ _ (by omega), Int.ediv_eq_zero_of_lt hu0 (by omega)]
        omega))
      go_wp2_with (refine wpList_store_row rfl 25 (.tmp 4) _ rfl (w.heap.size + 1) #[.int .i64 a, .int .i64 k] rfl rfl 25 zeroSpot HRr.out info_place rfl (spot_one a k) ?_)
      refine bodyPost_ret (v := spotT true a k) (p_results1 rfl _ _ _ 25 _ (0, 0) _ rfl rfl (p_row_whole HRr.out) Try.underlying25 rfl info_place) rfl ⟨by rw [HQ.out], p_below_row HBr.out (by omega) _⟩

end
end Go.Proofs.Ytdeiohcciafffaa
