/- The document's Fit: by a contract, the program's own answer. No condition. -/
import Derived.Test.YtilnaaljakjgoaaLFit
namespace Go.Proofs.Ytilnaaljakjgoaa
open Go.RowKit Go.Shelf

def oneL (x : Pl) : Pl := { x with slot := 1 }
theorem base_first {x : Pl} : firstI (oneL x) = 0 ↔ BaseL x := by
  have e := first_eq (oneL x)
  have h := failsL_first (oneL x) (last := 3) (by omega)
  constructor
  · intro k
    have k' : failsL (oneL x) 3 = 0 := by omega
    rw [k'] at h
    rcases h with ⟨_, h⟩ | ⟨h, _⟩
    · exact ⟨⟨h 1 (by omega) (by omega), h 2 (by omega) (by omega)⟩, (h 3 (by omega) (by omega)).2⟩
    · omega
  · intro hB
    rcases h with ⟨h, _⟩ | ⟨h1, h2, h3, _⟩
    · omega
    · exfalso
      generalize failsL (oneL x) 3 = r at *
      have : r = 1 ∨ r = 2 ∨ r = 3 := by omega
      rcases this with rfl | rfl | rfl
      · exact h3 hB.1.1
      · exact h3 hB.1.2
      · exact h3 ⟨⟨by show (1 : Int) ≤ 1; omega, by show (1 : Int) ≤ 1048576; omega⟩, hB.2⟩

theorem fit_none {x : Pl} (h : ¬ ∃ L, FitOk x L) : fitV x = .tuple #[.agg zeroL.cells, .int .i64 71] := by rw [fitV, (fit_no h).1, (fit_no h).2]
/-- What the loop asks of a slot's length. -/
theorem want_eq {x : Pl} {n : Int} (hB : BaseL x) (h0 : 0 ≤ n) (h1 : n ≤ 1048576) :
    needL x n = (withL x n).sendOff + (withL x n).window + 2 * x.dmax + 2 * x.air + (withL x n).cap + (withL x n).pi + 8 ∧
    (0 ≤ (withL x n).sendOff ∧ (withL x n).sendOff ≤ 10000000000) ∧ (0 ≤ (withL x n).window ∧ (withL x n).window ≤ 10000000000) ∧ (0 ≤ (withL x n).cap ∧ (withL x n).cap ≤ 10000000000) ∧ (0 ≤ (withL x n).pi ∧ (withL x n).pi ≤ 10000000000) ∧
    (0 ≤ x.dmax ∧ x.dmax ≤ 1048576) ∧ (1 ≤ x.air ∧ x.air ≤ 1048576) := by
  have T := base_tick hB h0 h1
  have hb := num_bounds T
  have he : eL (wishL x n) = eL x := rfl
  have w1 := lPi_w x n
  have w2 := lCap_w x n
  have e1 : (withL x n).sendOff = lPi (wishL x n) + eL x + lCap (wishL x n) + lPi (wishL x n) := rfl
  have e2 : (withL x n).window = lPi (wishL x n) + eL x := rfl
  have e3 : (withL x n).cap = lCap (wishL x n) := rfl
  have e4 : (withL x n).pi = lPi (wishL x n) := rfl
  have e5 := need_w x n
  obtain ⟨⟨_, ⟨q1, q2⟩, q3, q4, q5⟩, _⟩ := hB
  omega

set_option maxRecDepth 100000 in
set_option maxHeartbeats 8000000 in
theorem refFit_any (x : Pl) (w : World) : Calls Try.prog 17 #[.agg x.cells] w fun e w' => e = .returned (fitV x) ∧ Below w.heap.size w w' := by
  have HX := Lib.hid (fit_frame (oneL x) w)
  have HS := Lib.hid (oneL x).cellsL
  have HZC := Lib.hid zeroL.cellsL
  have HF := Lib.hid (fun W => first_any (oneL x) W)
  have HFF := Lib.hid (fun y W => refFails_is y W)
  have HLC := Lib.hid (fun W (h : Whole W w.heap.size 23 (oneL x).cells) => l_cells h)
  have z2 : x.cells[2]? = some (.int .i64 x.slot) := rfl
  go_enter Try.func17, Try.ntmps17
  go_upto_region 2 with fail
  obtain ⟨hb, h1, h2⟩ := HX.out
  change Code.wp _ _ _ _ ((w.alloc (.cells (oneL x).cells 23)).alloc (.cells zeroL.cells 23))
  generalize (w.alloc (.cells (oneL x).cells 23)).alloc (.cells zeroL.cells 23) = w1 at *
  have HB1 := Lib.hid hb
  have H1 := Lib.hid h1
  have H2 := Lib.hid h2
  clear hb h1 h2 HX z2
  by_cases hB : BaseL x
  · have hf := base_first.2 hB
    rw [hf] at HF
    by_cases h9 : holdL x 9
    · have HW := Lib.hid (fun n W (h0 : 0 ≤ n) (h1 : n ≤ 1048576) => with_any (oneL x) n W (base_tick (x := oneL x) hB h0 h1) h9)
      have HBB := Lib.hid hB
      have H9 := Lib.hid h9
      obtain ⟨⟨⟨y1, y2⟩, y3, y4⟩, y5, y6⟩ := h9
      clear hf hB
      go_wp2_with (first
        | (refine wpList_load_row rfl 23 _ rfl _ rfl 23 (oneL x).cells (0, 0) _ H1.out Try.underlying23 rfl HS.out.plan ?_)
        | (go_at_call 44; refine (HF.out _).mono ?_; rintro e w2 ⟨rfl, hb2⟩; have HB2 := Lib.hid (k_then hb2 HB1.out); have HO2 := Lib.hid (k_later hb2 H1.out); have HZ2 := Lib.hid (k_later hb2 H2.out); obtain ⟨_, _, _, ⟨c12, c13, c14, _⟩, _⟩ := HLC.out _ HO2.out; simp only [oneL] at c12 c13 c14; clear hb2))
      clear c12 c13 c14 y1 y2 y3 y4 y5 y6
      go_loopw [4] (fun l V => ∃ n : Int, l = .int .i64 n ∧ 1 ≤ n ∧ (∀ m, 1 ≤ m → m ≤ 1048576 → needL x m ≤ m → n ≤ m) ∧ Whole V w.heap.size 23 (oneL x).cells ∧ Whole V (w.heap.size + 1) 23 zeroL.cells ∧ Below w.heap.size w V) (fun l _ => (1048577 - intOf l).toNat)
      case atStart => exact ⟨1, rfl, Int.le_refl _, fun m h _ _ => h, HO2.out, HZ2.out, HB2.out⟩
      case round =>
        obtain ⟨n, rfl, hn, hlow, ho, hz, hk⟩ := hrel
        have HO := Lib.hid ho
        have HZ := Lib.hid hz
        have HK := Lib.hid hk
        have HLW := Lib.hid hlow
        clear ho hz hk HO2 HZ2 HB2 hlow
        by_cases hlt : n ≤ 1048576
        · have HWn := Lib.hid (fun W => HW.out n W (by omega) hlt)
          obtain ⟨hw, ⟨b1, b2⟩, ⟨b3, b4⟩, ⟨b5, b6⟩, ⟨b7, b8⟩, ⟨b9, b10⟩, b11, b12⟩ := want_eq HBB.out (n := n) (by omega) hlt
          obtain ⟨⟨_, _, _, t3⟩, ⟨t4, t5, _, t7⟩, ⟨_, t9, t10, _⟩, _⟩ := (withL x n).at
          have HC := Lib.hid (withL x n).cellsL
          have t5' : (withL x n).cells[5]? = some (.int .i64 x.air) := t5
          have t7' : (withL x n).cells[7]? = some (.int .i64 x.dmax) := t7
          have HFn := Lib.hid (fun W => HFF.out (withL x n) W)
          have HNM := Lib.hid (fun m (h1 : 1 ≤ m) (h2 : m ≤ 1048576) (h3 : needL x m ≤ m) => Int.le_trans (need_mono HBB.out (HLW.out m h1 h2 h3)) h3)
          have HDN := Lib.hid (fun L (h : FitOk x L) (hle : needL x n ≤ n) => (show L = n from Int.le_antisymm (h.2.2.1 n hn hlt hle) (HLW.out L h.1.1 h.1.2 h.2.1)))
          have HHW := Lib.hid hw
          clear t5 t7 hw
          rw [show withL (oneL x) n = withL x n from rfl] at HWn
          have HQ : needL x n = needL x n := rfl
          generalize hso : (withL x n).sendOff = so at *
          generalize hwi : (withL x n).window = wi at *
          generalize hca : (withL x n).cap = ca at *
          generalize hpi : (withL x n).pi = pi at *
          clear hso hwi hca hpi HQ
          have HCP := Lib.hid (rfl : (withL x n).cells = (withL x n).cells)
          by_cases hle : needL x n ≤ n
          · have hle' := hle
            rw [HHW.out] at hle'
            by_cases h0 : failsL (withL x n) 11 = 0
            · have hok : FitOk x n := by
                have hff := failsL_first (withL x n) (last := 11) (by omega)
                rw [h0] at hff
                rcases hff with ⟨_, g⟩ | ⟨g, _⟩
                · exact ⟨⟨hn, hlt⟩, hle, HLW.out, g, HBB.out, H9.out⟩
                · omega
              have HV := Lib.hid (show fitV x = .tuple #[.agg (withL x n).cells, .int .i64 0] by rw [fitV, (fit_yes hok).1, (fit_yes hok).2])
              rw [h0] at HFn
              clear h0 hok hle HDN HNM HLW HBB H9
              generalize (withL x n).cells = ps at *
              go_wp2_with (first
                | (refine wpList_load_row rfl 23 _ rfl _ rfl 23 (oneL x).cells (0, 0) _ HO.out Try.underlying23 rfl HS.out.plan ?_)
                | (refine wpList_load_row rfl 23 _ rfl _ rfl 23 ps (0, 0) _ HP.out Try.underlying23 rfl HC.out.plan ?_)
                | (refine wpList_load_row rfl 23 _ rfl _ rfl 23 ps (0, 0) _ HP7.out Try.underlying23 rfl HC.out.plan ?_)
                | (refine wpList_store_row rfl 23 _ _ rfl _ ps rfl rfl 23 zeroL.cells HZ7.out HC.out.plan HC.out.size.symm HC.out.one ?_)
                | (refine wpList_store_last rfl 23 _ _ rfl _ ps rfl rfl 23 _ rfl HC.out.plan HC.out.size.symm HC.out.one ?_; have HP := Lib.hid (Whole.new w5 23 ps); have HZ6 := Lib.hid (HZ5.out.alloc (.cells ps 23)); have HK6 := Lib.hid (HK5.out.alloc HK5.out.size (.cells ps 23)))
                | (go_at_call 41; refine (HWn.out _).mono ?_; rintro e w5 ⟨rfl, hb5⟩; have HZ5 := Lib.hid (k_later hb5 HZ.out); have HK5 := Lib.hid (k_then hb5 HK.out))
                | (go_at_call 11; refine (HFn.out _).mono ?_; rintro e w7 ⟨rfl, hb7⟩; have HZ7 := Lib.hid (k_later hb7 HZ6.out); have HK7 := Lib.hid (k_then hb7 HK6.out); have HP7 := Lib.hid (k_later hb7 HP.out)))
              refine bodyPost_ret (v := fitV x) (by rw [HV.out]; exact results_cell_tmp rfl _ _ _ 23 ps (0, 0) _ rfl rfl (setRow_heap _ _ _ _ _ _ HZ7.out) Try.underlying23 rfl HC.out.plan) rfl ⟨rfl, ?_⟩
              exact below_setRow HK7.out (by omega)
            · have hno : ¬ ∃ L, FitOk x L := by
                rintro ⟨L, hL⟩
                obtain rfl := HDN.out L hL hle
                have hff := failsL_first (withL x L) (last := 11) (by omega)
                rcases hff with ⟨g, _⟩ | ⟨g1, g2, g3, _⟩
                · exact h0 g
                · exact g3 (hL.2.2.2.1 _ g1 g2)
              have HV := Lib.hid (fit_none hno)
              have hpos : (0 : Int) < ((failsL (withL x n) 11 : Nat) : Int) := by omega
              generalize ((failsL (withL x n) 11 : Nat) : Int) = r at *
              clear h0 hno hle HDN HNM HLW HBB H9
              generalize (withL x n).cells = ps at *
              go_wp2_with (first
                | (refine wpList_load_row rfl 23 _ rfl _ rfl 23 (oneL x).cells (0, 0) _ HO.out Try.underlying23 rfl HS.out.plan ?_)
                | (refine wpList_load_row rfl 23 _ rfl _ rfl 23 ps (0, 0) _ HP.out Try.underlying23 rfl HC.out.plan ?_)
                | (refine wpList_store_row rfl 23 _ _ rfl _ zeroL.cells rfl rfl 23 zeroL.cells HZ7.out HZC.out.plan rfl HZC.out.one ?_)
                | (refine wpList_store_last rfl 23 _ _ rfl _ ps rfl rfl 23 _ rfl HC.out.plan HC.out.size.symm HC.out.one ?_; have HP := Lib.hid (Whole.new w5 23 ps); have HZ6 := Lib.hid (HZ5.out.alloc (.cells ps 23)); have HK6 := Lib.hid (HK5.out.alloc HK5.out.size (.cells ps 23)))
                | (go_at_call 41; refine (HWn.out _).mono ?_; rintro e w5 ⟨rfl, hb5⟩; have HZ5 := Lib.hid (k_later hb5 HZ.out); have HK5 := Lib.hid (k_then hb5 HK.out))
                | (go_at_call 11; refine (HFn.out _).mono ?_; rintro e w7 ⟨rfl, hb7⟩; have HZ7 := Lib.hid (k_later hb7 HZ6.out); have HK7 := Lib.hid (k_then hb7 HK6.out)))
              refine bodyPost_ret (v := fitV x) (by rw [HV.out]; exact results_cell_tmp rfl _ _ _ 23 zeroL.cells (0, 0) _ rfl rfl (setRow_heap _ _ _ _ _ _ HZ7.out) Try.underlying23 rfl HZC.out.plan) rfl ⟨rfl, ?_⟩
              exact below_setRow HK7.out (by omega)
          · have hle' : n < needL x n := by omega
            have hle2 := hle'
            rw [HHW.out] at hle2
            have HLE := Lib.hid hle'
            clear hle hle' HDN HLW HFn
            generalize (withL x n).cells = ps at *
            go_wp2_with (first
              | (refine wpList_load_row rfl 23 _ rfl _ rfl 23 (oneL x).cells (0, 0) _ HO.out Try.underlying23 rfl HS.out.plan ?_)
              | (refine wpList_store_last rfl 23 _ _ rfl _ ps rfl rfl 23 _ rfl HC.out.plan HC.out.size.symm HC.out.one ?_; have HZ6 := Lib.hid (HZ5.out.alloc (.cells ps 23)); have HO6 := Lib.hid (HO5.out.alloc (.cells ps 23)); have HK6 := Lib.hid (HK5.out.alloc HK5.out.size (.cells ps 23)))
              | (go_at_call 41; refine (HWn.out _).mono ?_; rintro e w5 ⟨rfl, hb5⟩; have HO5 := Lib.hid (k_later hb5 HO.out); have HZ5 := Lib.hid (k_later hb5 HZ.out); have HK5 := Lib.hid (k_then hb5 HK.out)))
            go_roundw
            case rel =>
              have e := HHW.out
              have := HLE.out
              exact ⟨_, rfl, by omega, fun m h1 h2 h3 => by have := HNM.out m h1 h2 h3; omega, HO6.out, HZ6.out, HK6.out⟩
            case measure =>
              have e := HHW.out
              have := HLE.out
              simp only [intOf]
              omega
        · have hno : ¬ ∃ L, FitOk x L := fun ⟨L, hL⟩ => hlt (Int.le_trans (HLW.out L hL.1.1 hL.1.2 hL.2.1) hL.1.2)
          have HV := Lib.hid (fit_none hno)
          have hlt' : 1048576 < n := by omega
          clear hno hlt HLW
          go_wp2_with (refine wpList_store_row rfl 23 _ _ rfl _ zeroL.cells rfl rfl 23 zeroL.cells HZ.out HZC.out.plan rfl HZC.out.one ?_)
          refine bodyPost_ret (v := fitV x) (by rw [HV.out]; exact results_cell_tmp rfl _ _ _ 23 zeroL.cells (0, 0) _ rfl rfl (setRow_heap _ _ _ _ _ _ HZ.out) Try.underlying23 rfl HZC.out.plan) rfl ⟨rfl, ?_⟩
          exact below_setRow HK.out (by omega)
    · have HV := Lib.hid (fit_none (x := x) fun ⟨L, hL⟩ => h9 hL.2.2.2.2.2)
      have h9' : ¬ (((1 ≤ x.queue ∧ x.queue ≤ 64) ∧ (1 ≤ x.burst ∧ x.burst ≤ 8)) ∧ (1 ≤ x.payload ∧ x.payload ≤ 32)) := h9
      clear hf hB h9
      go_wp2_with (first
        | (refine wpList_load_row rfl 23 _ rfl _ rfl 23 (oneL x).cells (0, 0) _ H1.out Try.underlying23 rfl HS.out.plan ?_)
        | (refine wpList_store_row rfl 23 _ _ rfl _ zeroL.cells rfl rfl 23 zeroL.cells HZ2.out HZC.out.plan rfl HZC.out.one ?_)
        | (go_at_call 44; refine (HF.out _).mono ?_; rintro e w2 ⟨rfl, hb2⟩; have HB2 := Lib.hid (k_then hb2 HB1.out); have HO2 := Lib.hid (k_later hb2 H1.out); have HZ2 := Lib.hid (k_later hb2 H2.out); obtain ⟨_, _, _, ⟨c12, c13, c14, _⟩, _⟩ := HLC.out _ HO2.out; simp only [oneL] at c12 c13 c14; clear hb2))
      all_goals first
        | (refine bodyPost_ret (v := fitV x) (by rw [HV.out]; exact results_cell_tmp rfl _ _ _ 23 zeroL.cells (0, 0) _ rfl rfl (setRow_heap _ _ _ _ _ _ HZ2.out) Try.underlying23 rfl HZC.out.plan) rfl ⟨rfl, below_setRow HB2.out (by omega)⟩)
        | (exfalso; omega)
  · have HV := Lib.hid (fit_none (x := x) fun ⟨L, hL⟩ => hB hL.2.2.2.2.1)
    have hp : 0 < firstI (oneL x) := by
      have := first_pos (oneL x)
      have : firstI (oneL x) ≠ 0 := fun e => hB (base_first.1 e)
      omega
    generalize firstI (oneL x) = r at *
    clear hB
    go_wp2_with (first
      | (refine wpList_load_row rfl 23 _ rfl _ rfl 23 (oneL x).cells (0, 0) _ H1.out Try.underlying23 rfl HS.out.plan ?_)
      | (refine wpList_store_row rfl 23 _ _ rfl _ zeroL.cells rfl rfl 23 zeroL.cells HZ2.out HZC.out.plan rfl HZC.out.one ?_)
      | (go_at_call 44; refine (HF.out _).mono ?_; rintro e w2 ⟨rfl, hb2⟩; have HB2 := Lib.hid (k_then hb2 HB1.out); have HZ2 := Lib.hid (k_later hb2 H2.out); clear hb2))
    refine bodyPost_ret (v := fitV x) (by rw [HV.out]; exact results_cell_tmp rfl _ _ _ 23 zeroL.cells (0, 0) _ rfl rfl (setRow_heap _ _ _ _ _ _ HZ2.out) Try.underlying23 rfl HZC.out.plan) rfl ⟨rfl, below_setRow HB2.out (by omega)⟩

end Go.Proofs.Ytilnaaljakjgoaa
