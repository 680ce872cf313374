/- Of, Next, Apart: by contracts. No condition. -/
import Derived.Test.YtdeiohcciafffaaPFun
namespace Go.Proofs.Ytdeiohcciafffaa
open Go.RowKit Go.Shelf

/-- A box, one behind it, and one more: all are whole; and one more. -/
theorem p_boxes2 (c1 c2 : Array Value) (w : World) (a b : TypeId) : Below w.heap.size w ((w.alloc (.cells c1 a)).alloc (.cells c2 b)) ∧ Whole ((w.alloc (.cells c1 a)).alloc (.cells c2 b)) w.heap.size a c1 ∧ Whole ((w.alloc (.cells c1 a)).alloc (.cells c2 b)) (w.heap.size + 1) b c2 := by
  have h1 := Whole.new w a c1
  have h2 := Whole.new (w.alloc (.cells c1 a)) b c2
  simp only [World.size_alloc] at h2
  exact ⟨((Below.refl _ _).alloc (Nat.le_refl _) _).alloc (by simp) _, h1.alloc _, h2⟩
theorem p_new {w : World} {n : Nat} (t : TypeId) (cs : Array Value) (h : w.heap.size = n) : Whole (w.alloc (.cells cs t)) n t cs := h ▸ Whole.new w t cs

abbrev zeroSpot : Array Value := #[.int .i64 0, .int .i64 0]
/-- The place of a local time. -/
def ofB (x : Pl) (l : Int) : Bool := okP x && (decide (0 ≤ l) && decide (l ≤ bgP x 2147483647 0))
def spotT (b : Bool) (r s : Int) : Value := .tuple #[spotV (tellP b r) (tellP b s), .int .i64 (errP b)]
/-- The next place. -/
def nxB (x : Pl) (r s : Int) : Bool := hasP x r s && decide (spotR x (ahP x r s + 1) ≤ 2147483647)

section
variable (x : Pl) (w : World)

set_option maxRecDepth 100000 in
set_option maxHeartbeats 4000000 in
theorem Of_any (l : Int) : Calls Try.prog 11 #[.agg x.cells, .int .i64 l] w fun e w' => e = .returned (spotT (ofB x l) (spotR x (l / x.slot)) (spotS x (l / x.slot))) ∧ Below w.heap.size w w' := by
  obtain ⟨hb, hp, hr⟩ := p_boxes2 x.cells zeroSpot w 23 25
  have hz : ((w.alloc (.cells x.cells 23)).alloc (.cells zeroSpot 25)).heap.size = w.heap.size + 2 := by simp
  have HS := Lib.hid x.cellsL
  have HP := Lib.hid hp
  have HR := Lib.hid (hr.alloc (.cells x.cells 53))
  have HW := Lib.hid (p_new 53 x.cells hz)
  have HPL := Lib.hid (hp.alloc (.cells x.cells 53))
  have HB := Lib.hid (hb.alloc hb.size (.cells x.cells 53))
  have HM := Lib.hid (mayBe_any (p_new 53 x.cells hz))
  clear hb hp hr hz
  go_enter Try.func11, Try.ntmps11
  go_upto_region 2 with (first
    | (refine wpList_load_row rfl 23 _ rfl w.heap.size rfl 23 x.cells (0, 0) _ HP.out Try.underlying23 rfl HS.out.plan ?_)
    | (refine wpList_store_last rfl 53 _ _ rfl _ x.cells rfl rfl 53 _ (by simp) HS.out.sheet HS.out.size.symm HS.out.one ?_))
  generalize ((w.alloc (.cells x.cells 23)).alloc (.cells zeroSpot 25)).alloc (.cells x.cells 53) = w3 at *
  have HF0 := Lib.hid (fun (h : ofB x l = false) (a b : Int) => (by rw [h]; rfl : spotT (ofB x l) a b = spotT false 0 0))
  cases hk : okP x
  · have HF := Lib.hid (HF0.out (by simp [ofB, hk]) (spotR x (l / x.slot)) (spotS x (l / x.slot)))
    rw [hk] at HM
    clear hk
    go_wp2_with (first
      | (go_at_call 36; refine HM.out.mono ?_; rintro e w4 ⟨rfl, hb4⟩; have HR4 := Lib.hid (k_later hb4 HR.out); have HW4 := Lib.hid (k_later hb4 HW.out); have HB4 := Lib.hid (k_then hb4 HB.out); clear hb4)
      | (refine wpList_store_row rfl 25 (.tmp 4) _ rfl (w.heap.size + 1) zeroSpot rfl rfl 25 zeroSpot HR4.out info_place rfl (spot_one 0 0) ?_))
    refine bodyPost_ret (v := spotT false 0 0) (p_results1 rfl _ _ _ 25 _ (0, 0) _ rfl rfl (p_row_whole HR4.out) Try.underlying25 rfl info_place) rfl ⟨by rw [HF.out], p_below_row HB4.out (by omega) _⟩
  rw [hk] at HM
  have B := bound_of hk
  by_cases h1 : 0 ≤ l
  case neg =>
    have HF := Lib.hid (HF0.out (by simp [ofB, h1]) (spotR x (l / x.slot)) (spotS x (l / x.slot)))
    clear hk B
    have d1 : l < 0 := by omega
    go_wp2_with (first
      | (go_at_call 36; refine HM.out.mono ?_; rintro e w4 ⟨rfl, hb4⟩; have HR4 := Lib.hid (k_later hb4 HR.out); have HW4 := Lib.hid (k_later hb4 HW.out); have HB4 := Lib.hid (k_then hb4 HB.out); clear hb4)
      | (refine wpList_store_row rfl 25 (.tmp 4) _ rfl (w.heap.size + 1) zeroSpot rfl rfl 25 zeroSpot HR4.out info_place rfl (spot_one 0 0) ?_))
    refine bodyPost_ret (v := spotT false 0 0) (p_results1 rfl _ _ _ 25 _ (0, 0) _ rfl rfl (p_row_whole HR4.out) Try.underlying25 rfl info_place) rfl ⟨by rw [HF.out], p_below_row HB4.out (by omega) _⟩
  have S := spot_mk B (r := 2147483647) (s := 0) (by omega) (by omega) (by omega) (by have := B.n1; omega)
  have HG := Lib.hid (fun W (h : Whole W (w.heap.size + 2) 53 x.cells) => begins_any (w := W) B S h)
  have b1 : 0 ≤ bgP x 2147483647 0 := S.b1
  have b2 : bgP x 2147483647 0 ≤ 36028797017915392 := S.b2
  by_cases h2 : l ≤ bgP x 2147483647 0
  case neg =>
    have HF := Lib.hid (HF0.out (by simp [ofB, h2]) (spotR x (l / x.slot)) (spotS x (l / x.slot)))
    generalize bgP x 2147483647 0 = bg at *
    clear hk B S
    go_wp2_with (first
      | (go_at_call 36; refine HM.out.mono ?_; rintro e w4 ⟨rfl, hb4⟩; have HR4 := Lib.hid (k_later hb4 HR.out); have HW4 := Lib.hid (k_later hb4 HW.out); have HB4 := Lib.hid (k_then hb4 HB.out); clear hb4)
      | (go_at_call 33; refine (HG.out _ HW4.out).mono ?_; rintro e w5 ⟨rfl, hb5⟩; have HR5 := Lib.hid (k_later hb5 HR4.out); have HB5 := Lib.hid (k_then hb5 HB4.out); clear hb5)
      | (refine wpList_store_row rfl 25 (.tmp 4) _ rfl (w.heap.size + 1) zeroSpot rfl rfl 25 zeroSpot HR5.out info_place rfl (spot_one 0 0) ?_))
    refine bodyPost_ret (v := spotT false 0 0) (p_results1 rfl _ _ _ 25 _ (0, 0) _ rfl rfl (p_row_whole HR5.out) Try.underlying25 rfl info_place) rfl ⟨by rw [HF.out], p_below_row HB5.out (by omega) _⟩
  obtain ⟨q, hq⟩ : ∃ q, q = l / x.slot := ⟨_, rfl⟩
  obtain ⟨rr, hrr⟩ : ∃ rr, rr = spotR x q := ⟨_, rfl⟩
  obtain ⟨ss, hss⟩ : ∃ ss, ss = spotS x q := ⟨_, rfl⟩
  have HF := Lib.hid (show spotT (ofB x l) (spotR x (l / x.slot)) (spotS x (l / x.slot)) = spotT true rr ss by rw [show ofB x l = true by simp [ofB, hk, h1, h2], hrr, hss, hq])
  have s1 := B.s1
  have q1 : 0 ≤ l / x.slot := Int.ediv_nonneg h1 (by omega)
  have q2 : l / x.slot ≤ l := Int.ediv_le_self _ h1
  have e0 : l.tdiv x.slot = l / x.slot := Int.tdiv_eq_ediv_of_nonneg h1
  have HQ := Lib.hid (fun W (h : Whole W (w.heap.size + 2) 53 x.cells) => place_any (w := W) (n := l / x.slot) B q1 (by omega) h)
  rw [← hq] at HQ e0 q1 q2
  rw [← hrr, ← hss] at HQ
  generalize bgP x 2147483647 0 = bg at *
  clear hk B S HF0 hq hrr hss
  go_wp2_with (first
    | (go_at_call 36; refine HM.out.mono ?_; rintro e w4 ⟨rfl, hb4⟩; have HR4 := Lib.hid (k_later hb4 HR.out); have HW4 := Lib.hid (k_later hb4 HW.out); have HP4 := Lib.hid (k_later hb4 HPL.out); have HB4 := Lib.hid (k_then hb4 HB.out); clear hb4)
    | (go_at_call 33; refine (HG.out _ HW4.out).mono ?_; rintro e w5 ⟨rfl, hb5⟩; have HR5 := Lib.hid (k_later hb5 HR4.out); have HW5 := Lib.hid (k_later hb5 HW4.out); have HB5 := Lib.hid (k_then hb5 HB4.out); obtain ⟨⟨_, _, c2, _⟩, _⟩ := l_cells (k_later hb5 HP4.out); clear hb5)
    | (go_at_call 37; refine (HQ.out _ HW5.out).mono ?_; rintro e w6 ⟨rfl, hb6⟩; have HR6 := Lib.hid (k_later hb6 HR5.out); have HB6 := Lib.hid (k_then hb6 HB5.out); clear hb6)
    | (refine wpList_store_row rfl 25 (.tmp 4) _ rfl (w.heap.size + 1) #[.int .i64 rr, .int .i64 ss] rfl rfl 25 zeroSpot HR6.out info_place rfl (spot_one rr ss) ?_))
  refine bodyPost_ret (v := spotT true rr ss) (p_results1 rfl _ _ _ 25 _ (0, 0) _ rfl rfl (p_row_whole HR6.out) Try.underlying25 rfl info_place) rfl ⟨by rw [HF.out], p_below_row HB6.out (by omega) _⟩

set_option maxRecDepth 100000 in
set_option maxHeartbeats 4000000 in
theorem Next_any (r s : Int) : Calls Try.prog 13 #[.agg x.cells, spotV r s] w fun e w' => e = .returned (spotT (nxB x r s) (spotR x (ahP x r s + 1)) (spotS x (ahP x r s + 1))) ∧ Below w.heap.size w w' := by
  obtain ⟨hb, hp, hl⟩ := p_boxes2 x.cells #[.int .i64 r, .int .i64 s] w 23 25
  have hz : ((w.alloc (.cells x.cells 23)).alloc (.cells #[.int .i64 r, .int .i64 s] 25)).heap.size = w.heap.size + 2 := by simp
  have hr := p_new 25 zeroSpot hz
  have hp2 := hp.alloc (.cells zeroSpot 25)
  have hl2 := hl.alloc (.cells zeroSpot 25)
  have hb2 := hb.alloc hb.size (.cells zeroSpot 25)
  have hz3 : (((w.alloc (.cells x.cells 23)).alloc (.cells #[.int .i64 r, .int .i64 s] 25)).alloc (.cells zeroSpot 25)).heap.size = w.heap.size + 3 := by simp
  have HS := Lib.hid x.cellsL
  have HP := Lib.hid hp2
  have HR := Lib.hid (hr.alloc (.cells x.cells 53))
  have HL := Lib.hid (hl2.alloc (.cells x.cells 53))
  have HW := Lib.hid (p_new 53 x.cells hz3)
  have HB := Lib.hid (hb2.alloc hb2.size (.cells x.cells 53))
  have HA := Lib.hid (fun W b c u (h : Whole W (w.heap.size + 3) 53 x.cells) (hP : Whole W b u #[.int .i64 r, .int .i64 s]) => has1_any (w := W) r s b c u h hP)
  clear hb hp hr hz hl hp2 hl2 hb2 hz3
  go_enter Try.func13, Try.ntmps13
  go_upto_region 2 with (first
    | (refine wpList_load_row rfl 23 _ rfl w.heap.size rfl 23 x.cells (0, 0) _ HP.out Try.underlying23 rfl HS.out.plan ?_)
    | (refine wpList_store_last rfl 53 _ _ rfl _ x.cells rfl rfl 53 _ (by simp) HS.out.sheet HS.out.size.symm HS.out.one ?_))
  generalize (((w.alloc (.cells x.cells 23)).alloc (.cells #[.int .i64 r, .int .i64 s] 25)).alloc (.cells zeroSpot 25)).alloc (.cells x.cells 53) = w3 at *
  obtain ⟨l0, l1, _⟩ := k_two HL.out
  have HF0 := Lib.hid (fun (h : nxB x r s = false) (a b : Int) => (by rw [h]; rfl : spotT (nxB x r s) a b = spotT false 0 0))
  cases hh : hasP x r s
  · have HF := Lib.hid (HF0.out (by simp [nxB, hh]) (spotR x (ahP x r s + 1)) (spotS x (ahP x r s + 1)))
    rw [hh] at HA
    clear hh HF0
    go_wp2_with (first
      | (go_at_call 39; refine (HA.out _ _ _ 25 (HW.out.alloc _) (Whole.new w3 25 #[.int .i64 r, .int .i64 s])).mono ?_; rintro e w4 ⟨rfl, hb4⟩; have HR4 := Lib.hid (k_later hb4 (HR.out.alloc _)); have HW4 := Lib.hid (k_later hb4 (HW.out.alloc _)); obtain ⟨m0, m1, _⟩ := k_two (k_later hb4 (HL.out.alloc _)); have HB4 := Lib.hid (k_then hb4 (HB.out.alloc HB.out.size _)); clear hb4 l0 l1)
      | (refine wpList_store_row rfl 25 (.tmp 4) _ rfl (w.heap.size + 2) zeroSpot rfl rfl 25 zeroSpot HR4.out info_place rfl (spot_one 0 0) ?_))
    refine bodyPost_ret (v := spotT false 0 0) (p_results1 rfl _ _ _ 25 _ (0, 0) _ rfl rfl (p_row_whole HR4.out) Try.underlying25 rfl info_place) rfl ⟨by rw [HF.out], p_below_row HB4.out (by omega) _⟩
  rw [hh] at HA
  obtain ⟨B, S⟩ := has_yes hh
  have HG := Lib.hid (fun W (h : Whole W (w.heap.size + 3) 53 x.cells) => ahead_any (w := W) B S h)
  have n1 := B.n1
  have n2 := B.n2
  have hah : ahP x r s = r * x.nodes + s := rfl
  obtain ⟨r1, r2, s1, s2, a1, a2, _, _⟩ := S
  have f1 : 0 ≤ ahP x r s := by omega
  have f2 : ahP x r s ≤ 34359738368 := by omega
  obtain ⟨q, hq⟩ : ∃ q, q = ahP x r s := ⟨_, rfl⟩
  obtain ⟨rr, hrr⟩ : ∃ rr, rr = spotR x (q + 1) := ⟨_, rfl⟩
  obtain ⟨ss, hss⟩ : ∃ ss, ss = spotS x (q + 1) := ⟨_, rfl⟩
  have HQ := Lib.hid (fun W (h : Whole W (w.heap.size + 3) 53 x.cells) => place_any (w := W) (n := q + 1) B (by omega) (by omega) h)
  rw [← hrr, ← hss] at HQ
  rw [← hq] at HG f1 f2
  clear hah a1 a2
  by_cases hm : rr ≤ 2147483647
  · have HF := Lib.hid (show spotT (nxB x r s) (spotR x (ahP x r s + 1)) (spotS x (ahP x r s + 1)) = spotT true rr ss by rw [show nxB x r s = true by simp [nxB, hh, ← hq, ← hrr, hm], hrr, hss, hq])
    clear HF0 hq hrr hss hh B
    go_wp2_with (first
      | (go_at_call 39; refine (HA.out _ _ _ 25 (HW.out.alloc _) (Whole.new w3 25 #[.int .i64 r, .int .i64 s])).mono ?_; rintro e w4 ⟨rfl, hb4⟩; have HR4 := Lib.hid (k_later hb4 (HR.out.alloc _)); have HW4 := Lib.hid (k_later hb4 (HW.out.alloc _)); obtain ⟨m0, m1, _⟩ := k_two (k_later hb4 (HL.out.alloc _)); have HB4 := Lib.hid (k_then hb4 (HB.out.alloc HB.out.size _)); clear hb4 l0 l1)
      | (go_at_call 40; refine (HG.out _ HW4.out).mono ?_; rintro e w5 ⟨rfl, hb5⟩; have HR5 := Lib.hid (k_later hb5 HR4.out); have HW5 := Lib.hid (k_later hb5 HW4.out); have HB5 := Lib.hid (k_then hb5 HB4.out); clear hb5)
      | (go_at_call 37; refine (HQ.out _ HW5.out).mono ?_; rintro e w6 ⟨rfl, hb6⟩; have HR6 := Lib.hid ((k_later hb6 HR5.out).alloc (.cells #[.int .i64 rr, .int .i64 ss] 25)); have HB6 := Lib.hid ((k_then hb6 HB5.out).alloc (k_then hb6 HB5.out).size (.cells #[.int .i64 rr, .int .i64 ss] 25)); clear hb6)
      | (refine wpList_store_last (w := w6) rfl 25 (.tmp 7) _ rfl _ #[.int .i64 rr, .int .i64 ss] rfl rfl 25 _ rfl info_place rfl (spot_one rr ss) ?_)
      | (refine wpList_store_row rfl 25 (.tmp 4) _ rfl (w.heap.size + 2) #[.int .i64 rr, .int .i64 ss] rfl rfl 25 zeroSpot HR6.out info_place rfl (spot_one rr ss) ?_))
    refine bodyPost_ret (v := spotT true rr ss) (p_results1 rfl _ _ _ 25 _ (0, 0) _ rfl rfl (p_row_whole HR6.out) Try.underlying25 rfl info_place) rfl ⟨by rw [HF.out], p_below_row HB6.out (by omega) _⟩
  · have HF := Lib.hid (HF0.out (by simp [nxB, hh, ← hq, ← hrr, hm]) (spotR x (ahP x r s + 1)) (spotS x (ahP x r s + 1)))
    have hm2 : 2147483647 < rr := by omega
    clear HF0 hq hrr hss hh B hm
    go_wp2_with (first
      | (go_at_call 39; refine (HA.out _ _ _ 25 (HW.out.alloc _) (Whole.new w3 25 #[.int .i64 r, .int .i64 s])).mono ?_; rintro e w4 ⟨rfl, hb4⟩; have HR4 := Lib.hid (k_later hb4 (HR.out.alloc _)); have HW4 := Lib.hid (k_later hb4 (HW.out.alloc _)); obtain ⟨m0, m1, _⟩ := k_two (k_later hb4 (HL.out.alloc _)); have HB4 := Lib.hid (k_then hb4 (HB.out.alloc HB.out.size _)); clear hb4 l0 l1)
      | (go_at_call 40; refine (HG.out _ HW4.out).mono ?_; rintro e w5 ⟨rfl, hb5⟩; have HR5 := Lib.hid (k_later hb5 HR4.out); have HW5 := Lib.hid (k_later hb5 HW4.out); have HB5 := Lib.hid (k_then hb5 HB4.out); clear hb5)
      | (go_at_call 37; refine (HQ.out _ HW5.out).mono ?_; rintro e w6 ⟨rfl, hb6⟩; have HR6 := Lib.hid ((k_later hb6 HR5.out).alloc (.cells #[.int .i64 rr, .int .i64 ss] 25)); have HB6 := Lib.hid ((k_then hb6 HB5.out).alloc (k_then hb6 HB5.out).size (.cells #[.int .i64 rr, .int .i64 ss] 25)); clear hb6)
      | (refine wpList_store_last (w := w6) rfl 25 (.tmp 7) _ rfl _ #[.int .i64 rr, .int .i64 ss] rfl rfl 25 _ rfl info_place rfl (spot_one rr ss) ?_)
      | (refine wpList_store_row rfl 25 (.tmp 4) _ rfl (w.heap.size + 2) zeroSpot rfl rfl 25 zeroSpot HR6.out info_place rfl (spot_one 0 0) ?_))
    refine bodyPost_ret (v := spotT false 0 0) (p_results1 rfl _ _ _ 25 _ (0, 0) _ rfl rfl (p_row_whole HR6.out) Try.underlying25 rfl info_place) rfl ⟨by rw [HF.out], p_below_row HB6.out (by omega) _⟩

end
end Go.Proofs.Ytdeiohcciafffaa
