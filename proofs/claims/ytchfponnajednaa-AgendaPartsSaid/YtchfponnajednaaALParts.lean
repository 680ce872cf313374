/- AgendaParts, of a slice that reads as events. No condition. -/
import Derived.Test.YtchfponnajednaaALawS
import Derived.WalkLawsBesides
namespace Go.Proofs.Ytchfponnajednaa
open Go.RowKit Go.Shelf

set_option maxRecDepth 100000 in
set_option maxHeartbeats 4000000 in
theorem partsLaw_any (w : World) (A : Option Addr) (n c : Nat) (es : List Ev) (s t : Int) (h : VSrc w A n es) (hn : n ≤ 9223372036854775807) :
    Calls Try.prog 8 #[.slice A n c, .int .i64 s, .int .i64 t] w (Says w true) := by
  have H := Lib.hid h
  clear h
  go_enter Try.func8, Try.ntmps8
  go_wp2_with fail
  refine (alive_any w).mono ?_
  rintro e w1 ⟨rfl, hb1⟩
  by_cases hlt : 150 < n
  · have HB1 := Lib.hid hb1
    have hd : decide ((150 : Int) < (n : Int)) = true := by simp only [decide_eq_true_eq]; omega
    clear hb1 hlt
    go_wp2
    go_ret
    exact ⟨rfl, HB1.out⟩
  have hd : decide ((150 : Int) < (n : Int)) = false := by simp only [decide_eq_false_iff_not]; omega
  have HB1 := Lib.hid hb1
  have HX := Lib.hid (AgQ.start w1)
  have HNN := Lib.hid (show n ≤ 150 by omega)
  clear hb1 hlt
  go_wp2
  clear hd
  go_loopw [9, 26] (fun _ iv wr => ∃ k : Nat, k ≤ n ∧ iv = .int .i64 (k : Int) ∧ AgQ w1 w1.heap.size (fillN (es.take k)) (fillL (es.take k)) (fun _ => True) wr) (fun _ iv _ => n - (intOf iv).toNat)
  case atStart => exact ⟨0, Nat.zero_le _, rfl, HX.out⟩
  case round =>
    obtain ⟨k, hk, rfl, hx⟩ := hrel
    by_cases hlt : k < n
    · have hsrc := H.out.later (k_then hx.below HB1.out)
      obtain ⟨g, o, rfl, hc⟩ := hsrc.at_ hlt
      have hkl : k < es.length := by rw [H.out.1]; exact hlt
      have hft := fill_take hkl
      obtain ⟨x, hxx⟩ : ∃ x, x = es.getD k default := ⟨_, rfl⟩
      rw [← hxx] at hc hft
      obtain ⟨a0, a1, a2, a3, a4⟩ := five_of hc
      have hfs := fill_small _ (es.take k) rfl
      rw [List.length_take] at hfs
      have hput := put_q (x := x) hx (by have := HNN.out; omega)
      rw [← hft.1, ← hft.2] at hput
      have HP := Lib.hid hput
      clear hsrc hc hkl hft hxx hfs hput hx
      go_wp2_with fail
      refine HP.out.mono ?_
      rintro e w2 ⟨rfl, hx2⟩
      have HX2 := Lib.hid hx2
      clear hx2 HP a0 a1 a2 a3 a4
      go_wp2
      go_roundw
      case rel => exact ⟨k + 1, by omega, by go_num, HX2.out⟩
      case measure => simp [intOf]; omega
    · obtain rfl : k = n := by omega
      have e1 : es.take k = es := List.take_of_length_le (by rw [H.out.1]; exact Nat.le_refl _)
      rw [e1] at hx
      have hfs := fill_small _ es rfl
      rw [H.out.1] at hfs
      obtain ⟨L, hL⟩ : ∃ L, L = fillL es := ⟨_, rfl⟩
      obtain ⟨nx, hnx⟩ : ∃ nx, nx = fillN es := ⟨_, rfl⟩
      rw [← hL, ← hnx] at hx
      rw [← hL] at hfs
      have HLL := Lib.hid (show L.length ≤ 150 by have := HNN.out; omega)
      have HX2 := Lib.hid (show HoldQ (fun F V => AgF F w1.heap.size nx L V) w1 (fun _ => True) wr from hx)
      clear hx hL hnx hfs e1 HX
      have hL6 : L.length ≤ 1000000 := by have := HLL.out; omega
      have HC := Lib.hid (copy_h HX2.out hL6)
      have HL6 := Lib.hid hL6
      obtain ⟨i0, hi, hy0, hy1, hy2⟩ := info_parts ev_infos
      clear hL6 HX2
      rcases Int.lt_trichotomy s t with hst | hst | hst
      ·
        have k1 : s ≤ t := by omega
        have k2 : ¬ t ≤ s := by omega
        have k3 : ¬ t < s := by omega
        go_wp2_with fail
        refine HC.out.mono ?_
        rintro e w2 ⟨b, rfl, hx3⟩
        have HU := Lib.hid (until_h2 (t := s) hx3 HL6.out)
        clear hx3 HC
        go_wp2_with fail
        refine HU.out.mono ?_
        rintro e w3 ⟨B1, n1, d1, rfl, hup1, hr1⟩
        have HU2 := Lib.hid (until_r2 (t := t) hr1 (by rw [List.length_drop]; have := HL6.out; omega))
        have HUP1 := Lib.hid hup1
        clear hr1 HU hup1
        go_wp2_with fail
        refine HU2.out.mono ?_
        rintro e w4 ⟨B2, n2, d2, rfl, hup2, hr2⟩
        have HR2 := Lib.hid hr2
        have hup := upTo_add (by omega) HUP1.out hup2
        have HUP := Lib.hid hup
        have HL2 := Lib.hid (show n1 + n2 ≤ 1000000 by have := hup.le; have := HL6.out; omega)
        clear hr2 HU2 hup2 hup
        go_wp2_with (at_builtin; refine wpList_append_evs _ rfl (.tmp 39) (.tmp 43) 29 rfl 36 i0 _ Try.underlying29 hi hy0 hy1 hy2 rfl (.slice B1 n1 d1) n1 (flatV (evs L n1)) rfl HR2.out.row B2 n2 d2 (evs (L.drop n1) n2) rfl HR2.out.fact.2.src HL2.out ?_; intro v5 w5 h1 h2 h3; rw [← flatV_append, evs_add] at h1; obtain ⟨n3, hn3⟩ : ∃ n3, n3 = n1 + n2 := ⟨_, rfl⟩; rw [← hn3] at h1; have HN3 := Lib.hid hn3; clear hn3; obtain ⟨X, dx, rfl, hx5⟩ := HR2.out.grown (isSt2 _ _ _ _ _ _) h1 h2 (by rcases h3 with h3 | h3; exact .inl h3; exact .inr ⟨_, h3, Nat.le_refl _⟩); have HX5 := Lib.hid hx5; clear h1 h2 h3 hx5)
        have HU3 := Lib.hid (until_r2 (t := t) HX5.out.swap2 HL6.out)
        clear HR2
        go_wp2_with fail
        refine HU3.out.mono ?_
        rintro e w6 ⟨B3, n4, d3, rfl, hup3, hr3⟩
        have hn3 := HN3.out
        have hup := HUP.out
        rw [← hn3] at hup
        obtain rfl := upTo_eq hup hup3
        have hx6 := hr3.swap2
        rw [List.drop_drop, ← hn3] at hx6
        obtain ⟨E, hE⟩ : ∃ E, E = evs L n3 := ⟨_, rfl⟩
        rw [← hE] at hx6
        have HE := Lib.hid (show E.length = n3 by rw [hE]; exact evs_length hup.le)
        have HNO := Lib.hid (show ∀ x R, L.drop n3 = x :: R → t < x.e.t by
          intro x R hR
          have hlt : n3 < L.length := by
            have := congrArg List.length hR
            simp at this
            omega
          have h1 := hup.no hlt
          rw [← Nat.add_zero n3, ← getD_drop, hR] at h1
          exact h1)
        obtain ⟨R, hR⟩ : ∃ R, R = L.drop n3 := ⟨_, rfl⟩
        have HRL := Lib.hid (show R.length ≤ 1000000 by rw [hR, List.length_drop]; have := HL6.out; omega)
        have hno := HNO.out
        rw [← hR] at hx6 hno
        have HNO2 := Lib.hid hno
        have HX6 := Lib.hid hx6
        have HF := Lib.hid (first_r2 hx6)
        have HL3 := Lib.hid (show n3 ≤ 1000000 by have := HL2.out; omega)
        clear HL2 hn3 HN3 hr3 hup3 hup HNO hno hx6 hR hE HU3 HX5 HUP HUP1
        go_wp2_with fail
        refine HF.out.mono ?_
        rintro e w7 ⟨rfl, hb7⟩
        have HX7 := Lib.hid (HX6.out.later (isSt2 _ _ _ _ _ _) hb7)
        clear HX6 HF hb7
        cases R with
        | nil =>
          rw [head_nil]
          unfold zeroEv
          have HX8 := Lib.hid (HX7.out.add (isSt2 _ _ _ _ _ _) ((Below.refl _ _).alloc (Nat.le_refl _) _) (Whole.new w7 36 #[.int .i64 0, .int .i64 0, .int .i64 0, .int .i64 0, .int .i64 0]) (only_whole ⟨Nat.le_refl _, by simp⟩))
          clear HX7
          go_wp2_with fail
          refine (events_any _ _ _ _ _ _ _ E E HX8.out.row.src HX8.out.fact.1.2.src HL3.out HL3.out).mono ?_
          rintro e w9 ⟨rfl, q, rfl⟩
          rw [decide_eq_true (Eq.refl E)]
          have HX9 := Lib.hid (HX8.out.later (isSt2 _ _ _ _ _ _) (below_drewN (Below.refl _ _) q))
          clear HX8
          go_wp2_with fail
          refine (all_r2 HX9.out HRL.out).mono ?_
          rintro e w9 ⟨C, cc, rfl, hx9⟩
          have HY := Lib.hid hx9.swap2
          clear hx9
          go_wp2_with fail
          refine (all_r2 HY.out HRL.out).mono ?_
          rintro e w10 ⟨D, cd, rfl, hx9⟩
          have HX10 := Lib.hid hx9.swap2
          clear hx9 HY HX9
          go_wp2_with fail
          refine (events_any _ _ _ _ _ _ _ _ _ HX10.out.fact.1.2.src HX10.out.fact.2.src HRL.out HRL.out).mono ?_
          rintro e w11 ⟨rfl, q2, rfl⟩
          rw [decide_eq_true rfl]
          have HX11 := Lib.hid (HX10.out.later (isSt2 _ _ _ _ _ _) (below_drewN (Below.refl _ _) q2))
          clear HX10
          go_wp2_with fail
          refine (len_r2 HX11.out).mono ?_
          rintro e w12 ⟨rfl, hb12⟩
          have HFIN := Lib.hid (k_then (HX11.out.below.trans (hb12.mono (HX11.out.below.size))) HB1.out)
          clear HX11 hb12
          go_wp2
          go_ret
          exact ⟨rfl, HFIN.out⟩
        | cons x R =>
          rw [head_cons]
          have HX8 := Lib.hid (HX7.out.add (isSt2 _ _ _ _ _ _) ((Below.refl _ _).alloc (Nat.le_refl _) _) (Whole.new w7 36 #[.int .i64 x.e.t, .int .i64 x.e.k, .int .i64 x.e.n, .int .i64 x.e.m, .int .i64 x.e.v]) (only_whole ⟨Nat.le_refl _, by simp⟩))
          have hd := HNO2.out x R rfl
          have hd1 : decide (t < x.e.t) = true := decide_eq_true hd
          have hd2 : decide ((0 : Int) < (R.length : Int) + 1) = true := by simp only [decide_eq_true_eq]; omega
          clear HX7
          go_wp2_with fail
          refine (events_any _ _ _ _ _ _ _ E E HX8.out.row.src HX8.out.fact.1.2.src HL3.out HL3.out).mono ?_
          rintro e w9 ⟨rfl, q, rfl⟩
          rw [decide_eq_true (Eq.refl E)]
          have HX9 := Lib.hid (HX8.out.later (isSt2 _ _ _ _ _ _) (below_drewN (Below.refl _ _) q))
          clear HX8
          go_wp2_with fail
          refine (all_r2 HX9.out HRL.out).mono ?_
          rintro e w9 ⟨C, cc, rfl, hx9⟩
          have HY := Lib.hid hx9.swap2
          clear hx9
          go_wp2_with fail
          refine (all_r2 HY.out HRL.out).mono ?_
          rintro e w10 ⟨D, cd, rfl, hx9⟩
          have HX10 := Lib.hid hx9.swap2
          clear hx9 HY HX9
          go_wp2_with fail
          refine (events_any _ _ _ _ _ _ _ _ _ HX10.out.fact.1.2.src HX10.out.fact.2.src HRL.out HRL.out).mono ?_
          rintro e w11 ⟨rfl, q2, rfl⟩
          rw [decide_eq_true rfl]
          have HX11 := Lib.hid (HX10.out.later (isSt2 _ _ _ _ _ _) (below_drewN (Below.refl _ _) q2))
          clear HX10
          obtain ⟨c0, c1, c2, c3, c4⟩ := five_whole HX11.out.fact.1.1.2
          go_wp2_with fail
          refine (len_r2 HX11.out).mono ?_
          rintro e w12 ⟨rfl, hb12⟩
          have HFIN := Lib.hid (k_then (HX11.out.below.trans (hb12.mono (HX11.out.below.size))) HB1.out)
          clear HX11 hb12
          go_wp2
          go_ret
          exact ⟨rfl, HFIN.out⟩
      ·
        subst hst
        have k1 : s ≤ s := by omega
        have k2 : ¬ s < s := by omega
        go_wp2_with fail
        refine HC.out.mono ?_
        rintro e w2 ⟨b, rfl, hx3⟩
        have HU := Lib.hid (until_h2 (t := s) hx3 HL6.out)
        clear hx3 HC
        go_wp2_with fail
        refine HU.out.mono ?_
        rintro e w3 ⟨B1, n1, d1, rfl, hup1, hr1⟩
        have HU2 := Lib.hid (until_r2 (t := s) hr1 (by rw [List.length_drop]; have := HL6.out; omega))
        have HUP1 := Lib.hid hup1
        clear hr1 HU hup1
        go_wp2_with fail
        refine HU2.out.mono ?_
        rintro e w4 ⟨B2, n2, d2, rfl, hup2, hr2⟩
        have HR2 := Lib.hid hr2
        have hup := upTo_add (by omega) HUP1.out hup2
        have HUP := Lib.hid hup
        have HL2 := Lib.hid (show n1 + n2 ≤ 1000000 by have := hup.le; have := HL6.out; omega)
        clear hr2 HU2 hup2 hup
        go_wp2_with (at_builtin; refine wpList_append_evs _ rfl (.tmp 39) (.tmp 43) 29 rfl 36 i0 _ Try.underlying29 hi hy0 hy1 hy2 rfl (.slice B1 n1 d1) n1 (flatV (evs L n1)) rfl HR2.out.row B2 n2 d2 (evs (L.drop n1) n2) rfl HR2.out.fact.2.src HL2.out ?_; intro v5 w5 h1 h2 h3; rw [← flatV_append, evs_add] at h1; obtain ⟨n3, hn3⟩ : ∃ n3, n3 = n1 + n2 := ⟨_, rfl⟩; rw [← hn3] at h1; have HN3 := Lib.hid hn3; clear hn3; obtain ⟨X, dx, rfl, hx5⟩ := HR2.out.grown (isSt2 _ _ _ _ _ _) h1 h2 (by rcases h3 with h3 | h3; exact .inl h3; exact .inr ⟨_, h3, Nat.le_refl _⟩); have HX5 := Lib.hid hx5; clear h1 h2 h3 hx5)
        have HU3 := Lib.hid (until_r2 (t := s) HX5.out.swap2 HL6.out)
        clear HR2
        go_wp2_with fail
        refine HU3.out.mono ?_
        rintro e w6 ⟨B3, n4, d3, rfl, hup3, hr3⟩
        have hn3 := HN3.out
        have hup := HUP.out
        rw [← hn3] at hup
        obtain rfl := upTo_eq hup hup3
        have hx6 := hr3.swap2
        rw [List.drop_drop, ← hn3] at hx6
        obtain ⟨E, hE⟩ : ∃ E, E = evs L n3 := ⟨_, rfl⟩
        rw [← hE] at hx6
        have HE := Lib.hid (show E.length = n3 by rw [hE]; exact evs_length hup.le)
        have HNO := Lib.hid (show ∀ x R, L.drop n3 = x :: R → s < x.e.t by
          intro x R hR
          have hlt : n3 < L.length := by
            have := congrArg List.length hR
            simp at this
            omega
          have h1 := hup.no hlt
          rw [← Nat.add_zero n3, ← getD_drop, hR] at h1
          exact h1)
        obtain ⟨R, hR⟩ : ∃ R, R = L.drop n3 := ⟨_, rfl⟩
        have HRL := Lib.hid (show R.length ≤ 1000000 by rw [hR, List.length_drop]; have := HL6.out; omega)
        have hno := HNO.out
        rw [← hR] at hx6 hno
        have HNO2 := Lib.hid hno
        have HX6 := Lib.hid hx6
        have HF := Lib.hid (first_r2 hx6)
        have HL3 := Lib.hid (show n3 ≤ 1000000 by have := HL2.out; omega)
        clear HL2 hn3 HN3 hr3 hup3 hup HNO hno hx6 hR hE HU3 HX5 HUP HUP1
        go_wp2_with fail
        refine HF.out.mono ?_
        rintro e w7 ⟨rfl, hb7⟩
        have HX7 := Lib.hid (HX6.out.later (isSt2 _ _ _ _ _ _) hb7)
        clear HX6 HF hb7
        cases R with
        | nil =>
          rw [head_nil]
          unfold zeroEv
          have HX8 := Lib.hid (HX7.out.add (isSt2 _ _ _ _ _ _) ((Below.refl _ _).alloc (Nat.le_refl _) _) (Whole.new w7 36 #[.int .i64 0, .int .i64 0, .int .i64 0, .int .i64 0, .int .i64 0]) (only_whole ⟨Nat.le_refl _, by simp⟩))
          clear HX7
          go_wp2_with fail
          refine (events_any _ _ _ _ _ _ _ E E HX8.out.row.src HX8.out.fact.1.2.src HL3.out HL3.out).mono ?_
          rintro e w9 ⟨rfl, q, rfl⟩
          rw [decide_eq_true (Eq.refl E)]
          have HX9 := Lib.hid (HX8.out.later (isSt2 _ _ _ _ _ _) (below_drewN (Below.refl _ _) q))
          clear HX8
          go_wp2_with fail
          refine (all_r2 HX9.out HRL.out).mono ?_
          rintro e w9 ⟨C, cc, rfl, hx9⟩
          have HY := Lib.hid hx9.swap2
          clear hx9
          go_wp2_with fail
          refine (all_r2 HY.out HRL.out).mono ?_
          rintro e w10 ⟨D, cd, rfl, hx9⟩
          have HX10 := Lib.hid hx9.swap2
          clear hx9 HY HX9
          go_wp2_with fail
          refine (events_any _ _ _ _ _ _ _ _ _ HX10.out.fact.1.2.src HX10.out.fact.2.src HRL.out HRL.out).mono ?_
          rintro e w11 ⟨rfl, q2, rfl⟩
          rw [decide_eq_true rfl]
          have HX11 := Lib.hid (HX10.out.later (isSt2 _ _ _ _ _ _) (below_drewN (Below.refl _ _) q2))
          clear HX10
          go_wp2_with fail
          refine (len_r2 HX11.out).mono ?_
          rintro e w12 ⟨rfl, hb12⟩
          have HFIN := Lib.hid (k_then (HX11.out.below.trans (hb12.mono (HX11.out.below.size))) HB1.out)
          clear HX11 hb12
          go_wp2
          go_ret
          exact ⟨rfl, HFIN.out⟩
        | cons x R =>
          rw [head_cons]
          have HX8 := Lib.hid (HX7.out.add (isSt2 _ _ _ _ _ _) ((Below.refl _ _).alloc (Nat.le_refl _) _) (Whole.new w7 36 #[.int .i64 x.e.t, .int .i64 x.e.k, .int .i64 x.e.n, .int .i64 x.e.m, .int .i64 x.e.v]) (only_whole ⟨Nat.le_refl _, by simp⟩))
          have hd := HNO2.out x R rfl
          have hd1 : decide (s < x.e.t) = true := decide_eq_true hd
          have hd2 : decide ((0 : Int) < (R.length : Int) + 1) = true := by simp only [decide_eq_true_eq]; omega
          clear HX7
          go_wp2_with fail
          refine (events_any _ _ _ _ _ _ _ E E HX8.out.row.src HX8.out.fact.1.2.src HL3.out HL3.out).mono ?_
          rintro e w9 ⟨rfl, q, rfl⟩
          rw [decide_eq_true (Eq.refl E)]
          have HX9 := Lib.hid (HX8.out.later (isSt2 _ _ _ _ _ _) (below_drewN (Below.refl _ _) q))
          clear HX8
          go_wp2_with fail
          refine (all_r2 HX9.out HRL.out).mono ?_
          rintro e w9 ⟨C, cc, rfl, hx9⟩
          have HY := Lib.hid hx9.swap2
          clear hx9
          go_wp2_with fail
          refine (all_r2 HY.out HRL.out).mono ?_
          rintro e w10 ⟨D, cd, rfl, hx9⟩
          have HX10 := Lib.hid hx9.swap2
          clear hx9 HY HX9
          go_wp2_with fail
          refine (events_any _ _ _ _ _ _ _ _ _ HX10.out.fact.1.2.src HX10.out.fact.2.src HRL.out HRL.out).mono ?_
          rintro e w11 ⟨rfl, q2, rfl⟩
          rw [decide_eq_true rfl]
          have HX11 := Lib.hid (HX10.out.later (isSt2 _ _ _ _ _ _) (below_drewN (Below.refl _ _) q2))
          clear HX10
          obtain ⟨c0, c1, c2, c3, c4⟩ := five_whole HX11.out.fact.1.1.2
          go_wp2_with fail
          refine (len_r2 HX11.out).mono ?_
          rintro e w12 ⟨rfl, hb12⟩
          have HFIN := Lib.hid (k_then (HX11.out.below.trans (hb12.mono (HX11.out.below.size))) HB1.out)
          clear HX11 hb12
          go_wp2
          go_ret
          exact ⟨rfl, HFIN.out⟩
      ·
        have k1 : t ≤ s := by omega
        have k2 : ¬ s ≤ t := by omega
        have k3 : ¬ s < t := by omega
        go_wp2_with fail
        refine HC.out.mono ?_
        rintro e w2 ⟨b, rfl, hx3⟩
        have HU := Lib.hid (until_h2 (t := t) hx3 HL6.out)
        clear hx3 HC
        go_wp2_with fail
        refine HU.out.mono ?_
        rintro e w3 ⟨B1, n1, d1, rfl, hup1, hr1⟩
        have HU2 := Lib.hid (until_r2 (t := s) hr1 (by rw [List.length_drop]; have := HL6.out; omega))
        have HUP1 := Lib.hid hup1
        clear hr1 HU hup1
        go_wp2_with fail
        refine HU2.out.mono ?_
        rintro e w4 ⟨B2, n2, d2, rfl, hup2, hr2⟩
        have HR2 := Lib.hid hr2
        have hup := upTo_add (by omega) HUP1.out hup2
        have HUP := Lib.hid hup
        have HL2 := Lib.hid (show n1 + n2 ≤ 1000000 by have := hup.le; have := HL6.out; omega)
        clear hr2 HU2 hup2 hup
        go_wp2_with (at_builtin; refine wpList_append_evs _ rfl (.tmp 39) (.tmp 43) 29 rfl 36 i0 _ Try.underlying29 hi hy0 hy1 hy2 rfl (.slice B1 n1 d1) n1 (flatV (evs L n1)) rfl HR2.out.row B2 n2 d2 (evs (L.drop n1) n2) rfl HR2.out.fact.2.src HL2.out ?_; intro v5 w5 h1 h2 h3; rw [← flatV_append, evs_add] at h1; obtain ⟨n3, hn3⟩ : ∃ n3, n3 = n1 + n2 := ⟨_, rfl⟩; rw [← hn3] at h1; have HN3 := Lib.hid hn3; clear hn3; obtain ⟨X, dx, rfl, hx5⟩ := HR2.out.grown (isSt2 _ _ _ _ _ _) h1 h2 (by rcases h3 with h3 | h3; exact .inl h3; exact .inr ⟨_, h3, Nat.le_refl _⟩); have HX5 := Lib.hid hx5; clear h1 h2 h3 hx5)
        have HU3 := Lib.hid (until_r2 (t := s) HX5.out.swap2 HL6.out)
        clear HR2
        go_wp2_with fail
        refine HU3.out.mono ?_
        rintro e w6 ⟨B3, n4, d3, rfl, hup3, hr3⟩
        have hn3 := HN3.out
        have hup := HUP.out
        rw [← hn3] at hup
        obtain rfl := upTo_eq hup hup3
        have hx6 := hr3.swap2
        rw [List.drop_drop, ← hn3] at hx6
        obtain ⟨E, hE⟩ : ∃ E, E = evs L n3 := ⟨_, rfl⟩
        rw [← hE] at hx6
        have HE := Lib.hid (show E.length = n3 by rw [hE]; exact evs_length hup.le)
        have HNO := Lib.hid (show ∀ x R, L.drop n3 = x :: R → s < x.e.t by
          intro x R hR
          have hlt : n3 < L.length := by
            have := congrArg List.length hR
            simp at this
            omega
          have h1 := hup.no hlt
          rw [← Nat.add_zero n3, ← getD_drop, hR] at h1
          exact h1)
        obtain ⟨R, hR⟩ : ∃ R, R = L.drop n3 := ⟨_, rfl⟩
        have HRL := Lib.hid (show R.length ≤ 1000000 by rw [hR, List.length_drop]; have := HL6.out; omega)
        have hno := HNO.out
        rw [← hR] at hx6 hno
        have HNO2 := Lib.hid hno
        have HX6 := Lib.hid hx6
        have HF := Lib.hid (first_r2 hx6)
        have HL3 := Lib.hid (show n3 ≤ 1000000 by have := HL2.out; omega)
        clear HL2 hn3 HN3 hr3 hup3 hup HNO hno hx6 hR hE HU3 HX5 HUP HUP1
        go_wp2_with fail
        refine HF.out.mono ?_
        rintro e w7 ⟨rfl, hb7⟩
        have HX7 := Lib.hid (HX6.out.later (isSt2 _ _ _ _ _ _) hb7)
        clear HX6 HF hb7
        cases R with
        | nil =>
          rw [head_nil]
          unfold zeroEv
          have HX8 := Lib.hid (HX7.out.add (isSt2 _ _ _ _ _ _) ((Below.refl _ _).alloc (Nat.le_refl _) _) (Whole.new w7 36 #[.int .i64 0, .int .i64 0, .int .i64 0, .int .i64 0, .int .i64 0]) (only_whole ⟨Nat.le_refl _, by simp⟩))
          clear HX7
          go_wp2_with fail
          refine (events_any _ _ _ _ _ _ _ E E HX8.out.row.src HX8.out.fact.1.2.src HL3.out HL3.out).mono ?_
          rintro e w9 ⟨rfl, q, rfl⟩
          rw [decide_eq_true (Eq.refl E)]
          have HX9 := Lib.hid (HX8.out.later (isSt2 _ _ _ _ _ _) (below_drewN (Below.refl _ _) q))
          clear HX8
          go_wp2_with fail
          refine (all_r2 HX9.out HRL.out).mono ?_
          rintro e w9 ⟨C, cc, rfl, hx9⟩
          have HY := Lib.hid hx9.swap2
          clear hx9
          go_wp2_with fail
          refine (all_r2 HY.out HRL.out).mono ?_
          rintro e w10 ⟨D, cd, rfl, hx9⟩
          have HX10 := Lib.hid hx9.swap2
          clear hx9 HY HX9
          go_wp2_with fail
          refine (events_any _ _ _ _ _ _ _ _ _ HX10.out.fact.1.2.src HX10.out.fact.2.src HRL.out HRL.out).mono ?_
          rintro e w11 ⟨rfl, q2, rfl⟩
          rw [decide_eq_true rfl]
          have HX11 := Lib.hid (HX10.out.later (isSt2 _ _ _ _ _ _) (below_drewN (Below.refl _ _) q2))
          clear HX10
          go_wp2_with fail
          refine (len_r2 HX11.out).mono ?_
          rintro e w12 ⟨rfl, hb12⟩
          have HFIN := Lib.hid (k_then (HX11.out.below.trans (hb12.mono (HX11.out.below.size))) HB1.out)
          clear HX11 hb12
          go_wp2
          go_ret
          exact ⟨rfl, HFIN.out⟩
        | cons x R =>
          rw [head_cons]
          have HX8 := Lib.hid (HX7.out.add (isSt2 _ _ _ _ _ _) ((Below.refl _ _).alloc (Nat.le_refl _) _) (Whole.new w7 36 #[.int .i64 x.e.t, .int .i64 x.e.k, .int .i64 x.e.n, .int .i64 x.e.m, .int .i64 x.e.v]) (only_whole ⟨Nat.le_refl _, by simp⟩))
          have hd := HNO2.out x R rfl
          have hd1 : decide (s < x.e.t) = true := decide_eq_true hd
          have hd2 : decide ((0 : Int) < (R.length : Int) + 1) = true := by simp only [decide_eq_true_eq]; omega
          clear HX7
          go_wp2_with fail
          refine (events_any _ _ _ _ _ _ _ E E HX8.out.row.src HX8.out.fact.1.2.src HL3.out HL3.out).mono ?_
          rintro e w9 ⟨rfl, q, rfl⟩
          rw [decide_eq_true (Eq.refl E)]
          have HX9 := Lib.hid (HX8.out.later (isSt2 _ _ _ _ _ _) (below_drewN (Below.refl _ _) q))
          clear HX8
          go_wp2_with fail
          refine (all_r2 HX9.out HRL.out).mono ?_
          rintro e w9 ⟨C, cc, rfl, hx9⟩
          have HY := Lib.hid hx9.swap2
          clear hx9
          go_wp2_with fail
          refine (all_r2 HY.out HRL.out).mono ?_
          rintro e w10 ⟨D, cd, rfl, hx9⟩
          have HX10 := Lib.hid hx9.swap2
          clear hx9 HY HX9
          go_wp2_with fail
          refine (events_any _ _ _ _ _ _ _ _ _ HX10.out.fact.1.2.src HX10.out.fact.2.src HRL.out HRL.out).mono ?_
          rintro e w11 ⟨rfl, q2, rfl⟩
          rw [decide_eq_true rfl]
          have HX11 := Lib.hid (HX10.out.later (isSt2 _ _ _ _ _ _) (below_drewN (Below.refl _ _) q2))
          clear HX10
          obtain ⟨c0, c1, c2, c3, c4⟩ := five_whole HX11.out.fact.1.1.2
          go_wp2_with fail
          refine (len_r2 HX11.out).mono ?_
          rintro e w12 ⟨rfl, hb12⟩
          have HFIN := Lib.hid (k_then (HX11.out.below.trans (hb12.mono (HX11.out.below.size))) HB1.out)
          clear HX11 hb12
          go_wp2
          go_ret
          exact ⟨rfl, HFIN.out⟩
end Go.Proofs.Ytchfponnajednaa
