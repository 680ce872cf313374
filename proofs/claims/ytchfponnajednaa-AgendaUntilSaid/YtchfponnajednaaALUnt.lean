/- AgendaUntil, of a slice that reads as events. No condition. -/
import Derived.Test.YtchfponnajednaaALawT
import Derived.WalkLawsBesides
namespace Go.Proofs.Ytchfponnajednaa
open Go.RowKit Go.Shelf

set_option maxRecDepth 100000 in
set_option maxHeartbeats 4000000 in
theorem untilLaw_any (w : World) (A : Option Addr) (n c : Nat) (es : List Ev) (t kd nd : Int) (h : VSrc w A n es) (hn : n ≤ 9223372036854775807) :
    Calls Try.prog 6 #[.slice A n c, .int .i64 t, .int .i64 kd, .int .i64 nd] w (Says w true) := by
  have H := Lib.hid h
  clear h
  go_enter Try.func6, Try.ntmps6
  go_wp2_with fail
  refine (alive_any w).mono ?_
  rintro e w1 ⟨rfl, hb1⟩
  by_cases hlt : 150 < n
  · have HB1 := Lib.hid hb1
    have hd : decide ((150 : Int) < (n : Int)) = true := by simp only [decide_eq_true_eq]; omega
    clear hb1 hlt
    go_wp2
    go_ret
    exact ⟨rfl, HB1.out⟩
  have hd : decide ((150 : Int) < (n : Int)) = false := by simp only [decide_eq_false_iff_not]; omega
  have HB1 := Lib.hid hb1
  have HX := Lib.hid (AgQ.start w1)
  have HNN := Lib.hid (show n ≤ 150 by omega)
  clear hb1 hlt
  go_wp2
  clear hd
  go_loopw [11, 30] (fun _ iv wr => ∃ k : Nat, k ≤ n ∧ iv = .int .i64 (k : Int) ∧ AgQ w1 w1.heap.size (fillN (es.take k)) (fillL (es.take k)) (fun _ => True) wr) (fun _ iv _ => n - (intOf iv).toNat)
  case atStart => exact ⟨0, Nat.zero_le _, rfl, HX.out⟩
  case round =>
    obtain ⟨k, hk, rfl, hx⟩ := hrel
    by_cases hlt : k < n
    · have hsrc := H.out.later (k_then hx.below HB1.out)
      obtain ⟨g, o, rfl, hc⟩ := hsrc.at_ hlt
      have hkl : k < es.length := by rw [H.out.1]; exact hlt
      have hft := fill_take hkl
      obtain ⟨x, hxx⟩ : ∃ x, x = es.getD k default := ⟨_, rfl⟩
      rw [← hxx] at hc hft
      obtain ⟨a0, a1, a2, a3, a4⟩ := five_of hc
      have hfs := fill_small _ (es.take k) rfl
      rw [List.length_take] at hfs
      have hput := put_q (x := x) hx (by have := HNN.out; omega)
      rw [← hft.1, ← hft.2] at hput
      have HP := Lib.hid hput
      clear hsrc hc hkl hft hxx hfs hput hx
      go_wp2_with fail
      refine HP.out.mono ?_
      rintro e w2 ⟨rfl, hx2⟩
      have HX2 := Lib.hid hx2
      clear hx2 HP a0 a1 a2 a3 a4
      go_wp2
      go_roundw
      case rel => exact ⟨k + 1, by omega, by go_num, HX2.out⟩
      case measure => simp [intOf]; omega
    · obtain rfl : k = n := by omega
      have e1 : es.take k = es := List.take_of_length_le (by rw [H.out.1]; exact Nat.le_refl _)
      rw [e1] at hx
      have hfs := fill_small _ es rfl
      rw [H.out.1] at hfs
      obtain ⟨L, hL⟩ : ∃ L, L = fillL es := ⟨_, rfl⟩
      obtain ⟨nx, hnx⟩ : ∃ nx, nx = fillN es := ⟨_, rfl⟩
      rw [← hL, ← hnx] at hx
      rw [← hL] at hfs
      have HLL := Lib.hid (show L.length ≤ 150 by have := HNN.out; omega)
      have HX2 := Lib.hid (show HoldQ (fun F V => AgF F w1.heap.size nx L V) w1 (fun _ => True) wr from hx)
      clear hx hL hnx hfs e1 HX
      have hL6 : L.length ≤ 1000000 := by have := HLL.out; omega
      have HA := Lib.hid (all_h HX2.out hL6)
      have HL6 := Lib.hid hL6
      obtain ⟨i0, hi, hy0, hy1, hy2⟩ := info_parts ev_infos
      clear hL6 HX2
      go_wp2_with fail
      refine HA.out.mono ?_
      rintro e w2 ⟨C, cc, rfl, hx3⟩
      have HX3 := Lib.hid hx3.toQ
      have HC := Lib.hid (copy_h HX3.out HL6.out)
      clear hx3 HA
      go_wp2_with fail
      refine HC.out.mono ?_
      rintro e w3 ⟨b, rfl, hx4⟩
      have HU := Lib.hid (until_h2 (t := t) hx4.swap2 HL6.out)
      clear hx4 HC HX3
      go_wp2_with fail
      refine HU.out.mono ?_
      rintro e w4 ⟨B, m, d, rfl, hup, hr⟩
      have HUP := Lib.hid hup
      have HX5 := Lib.hid hr.toQ
      clear hr hup HU
      have HX6 := Lib.hid (HX5.out.lit0 (isSt2 _ _ _ _ _ _))
      have HML := Lib.hid (show m ≤ 1000000 by have := HUP.out.le; have := HL6.out; omega)
      clear HX5
      go_wp2_with (at_builtin; refine wpList_append_evs _ rfl (.tmp 44) (.tmp 45) 29 rfl 36 i0 _ Try.underlying29 hi hy0 hy1 hy2 rfl (.slice (some ⟨w4.heap.size, 0, none⟩) 0 0) 0 (flatV []) rfl HX6.out.row B m d (evs L m) rfl HX6.out.fact.2.src (by have := HML.out; omega) ?_; intro v5 w5 h1 h2 h3; rw [← flatV_append, List.nil_append, Nat.zero_add] at h1; obtain ⟨X, dx, rfl, hx7⟩ := HX6.out.grown (isSt2 _ _ _ _ _ _) h1 h2 (by rcases h3 with h3 | h3; exact .inl h3; exact .inr ⟨_, h3, Nat.le_refl _⟩); have HX7 := Lib.hid hx7; clear h1 h2 h3 hx7 HX6)
      obtain ⟨R, hR⟩ : ∃ R, R = L.drop m := ⟨_, rfl⟩
      have hx7 := HX7.out
      rw [← hR] at hx7
      have HLEN := Lib.hid (show m + R.length = L.length by rw [hR, List.length_drop]; have := HUP.out.le; omega)
      have HRE := Lib.hid (show evs L m ++ R.map En.e = L.map En.e by rw [hR]; exact evs_rest L m)
      have HALB := Lib.hid (all_r2 hx7 (by have := HLEN.out; have := HL6.out; omega))
      clear hx7 hR
      clear HX7
      go_wp2_with fail
      refine HALB.out.mono ?_
      rintro e w6 ⟨D, dd, rfl, hx8⟩
      have HX8 := Lib.hid hx8
      clear hx8 HALB
      go_wp2_with (at_builtin; go_loud (refine wpList_append_evs _ rfl (.tmp 46) (.tmp 48) 29 rfl 36 i0 _ Try.underlying29 hi hy0 hy1 hy2 rfl (.slice X m dx) m (flatV (evs L m)) rfl HX8.out.row D R.length dd (R.map En.e) rfl HX8.out.fact.2.src (by have := HLEN.out; have := HL6.out; omega) ?_; intro v7 w7 h1 h2 h3; rw [← flatV_append, HRE.out, HLEN.out] at h1; obtain ⟨Y, dy, rfl, hx9⟩ := HX8.out.grown (isSt2 _ _ _ _ _ _) h1 h2 (by rcases h3 with h3 | h3; exact .inl h3; exact .inr ⟨_, h3, Nat.le_refl _⟩); have HX9 := Lib.hid hx9; clear h1 h2 h3 hx9 HX8 HLEN HRE))
      refine (events_any _ _ _ _ _ _ _ _ _ HX9.out.row.src HX9.out.fact.1.1.2.src HL6.out HL6.out).mono ?_
      rintro e w8 ⟨rfl, q, rfl⟩
      rw [decide_eq_true rfl]
      obtain ⟨Q, hQ, hx10⟩ : ∃ Q : World → Prop, (∀ V, Q V → RowV V C L.length cc (L.map En.e)) ∧ HoldQ (fun F V => AgF F w1.heap.size nx L V) w1 Q (w7.drewN q) := ⟨_, fun V h => h.1.1.1.2, (HX9.out.later (isSt2 _ _ _ _ _ _) (below_drewN (Below.refl _ _) q)).toQ.swap2.fst2⟩
      have HSO := Lib.hid hx10.sorted
      have HQ := Lib.hid hQ
      have HX10 := Lib.hid hx10
      clear hQ hx10 HX9
      generalize w7.drewN q = w8 at *
      go_wp2
      go_loopw [15, 55] (fun _ iv wr => ∃ j : Nat, j ≤ L.length ∧ iv = .int .i64 (j : Int) ∧ HoldQ (fun F V => AgF F w1.heap.size nx L V) w1 Q wr) (fun _ iv _ => L.length - (intOf iv).toNat)
      case atStart => exact ⟨0, Nat.zero_le _, rfl, HX10.out⟩
      case round =>
        obtain ⟨j, hj, rfl, hx⟩ := hrel
        by_cases hlt : j < L.length
        · obtain ⟨g, o, rfl, hc⟩ := (HQ.out _ hx.fact).src.at_ hlt
          have htime := upTo_time HSO.out HUP.out hlt
          rw [map_getD hlt] at hc
          obtain ⟨x, hxx⟩ : ∃ x, x = (L.getD j default).e := ⟨_, rfl⟩
          rw [← hxx] at hc htime
          obtain ⟨a0, a1, a2, a3, a4⟩ := five_of hc
          have HX11 := Lib.hid hx
          have hj6 : j + 1 ≤ 150 := by have := HLL.out; omega
          clear hc hx hxx
          by_cases hjm : j < m
          · have hd1 := htime.2 hjm
            clear htime
            go_wp2
            go_roundw
            case rel => exact ⟨j + 1, by omega, by go_num, HX11.out⟩
            case measure => simp [intOf]; omega
          · have hd1 : ¬ x.t ≤ t := fun h => hjm (htime.1 h)
            clear htime
            go_wp2
            go_roundw
            case rel => exact ⟨j + 1, by omega, by go_num, HX11.out⟩
            case measure => simp [intOf]; omega
        · obtain rfl : j = L.length := by omega
          have HX11 := Lib.hid hx
          clear hx HX10
          have HD := Lib.hid (drop_h (kind := kd) (node := nd) HX11.out HL6.out)
          clear HX11
          go_wp2_with fail
          refine HD.out.mono ?_
          rintro e w9 ⟨rfl, hx12⟩
          obtain ⟨M, hM⟩ : ∃ M, M = L.filter (keepB kd nd) := ⟨_, rfl⟩
          rw [← hM] at hx12
          rw [← hM]
          have HMM := Lib.hid hM
          have HMN := Lib.hid (show M.length ≤ L.length by rw [hM]; exact List.length_filter_le _ _)
          have HX12 := Lib.hid hx12
          clear hx12 hM HD
          go_wp2
          go_loopw [17, 18, 76] (fun v _ iv wr => ∃ (j : Nat) (P : List En) (Z : Option Addr) (p dz : Nat), P.length = p ∧ j ≤ L.length ∧ iv = .int .i64 (j : Int) ∧ P = (L.take j).filter (keepB kd nd) ∧ v = .slice Z p dz ∧ HoldR (fun F V => AgF F w1.heap.size nx M V) w1 Q Z p dz (P.map En.e) wr) (fun _ _ iv _ => L.length - (intOf iv).toNat)
          case atStart => exact ⟨0, [], none, 0, 0, rfl, Nat.zero_le _, rfl, rfl, rfl, HX12.out.row0 (isSt1 _ _ _)⟩
          case round =>
            clear HX12
            obtain ⟨j, P, Z, p, dz, hp, hj, rfl, hP, rfl, hx⟩ := hrel
            by_cases hlt : j < L.length
            · obtain ⟨g, o, rfl, hc⟩ := (HQ.out _ hx.fact).src.at_ hlt
              rw [map_getD hlt] at hc
              obtain ⟨x, hxx⟩ : ∃ x, x = L.getD j default := ⟨_, rfl⟩
              rw [← hxx] at hc
              have hmore := keep_more hlt hxx hP
              obtain ⟨a0, a1, a2, a3, a4⟩ := five_of hc
              have hj6 : j + 1 ≤ 150 := by have := HLL.out; omega
              have hPl : p ≤ 150 := by
                have h1 : P.length ≤ (L.take j).length := by rw [hP]; exact List.length_filter_le _ _
                rw [List.length_take] at h1
                omega
              have HX13 := Lib.hid hx
              have HPP := Lib.hid hp
              clear hc hx hxx hp
              by_cases hkk : x.e.k = kd
              · by_cases hnn : x.e.n = nd
                · have hke := hmore.2 (by rw [dropB_no]; simp [hkk, hnn])
                  have HKE := Lib.hid hke
                  clear hmore hke hP
                  subst hkk hnn
                  go_wp2
                  go_roundw
                  case rel => exact ⟨j + 1, P, Z, p, dz, HPP.out, by omega, by go_num, HKE.out, rfl, HX13.out⟩
                  case measure => simp [intOf]; omega
                · have hnn2 : ¬ nd = x.e.n := fun h => hnn h.symm
                  have hke := hmore.1 (by rw [dropB_no]; simp [hnn])
                  subst hkk
                  have HS1 := Lib.hid (one_new wr x.e)
                  have HXA := Lib.hid (HX13.out.later (isSt1 _ _ _) ((Below.refl _ _).alloc (Nat.le_refl _) (.cells #[.int .i64 x.e.t, .int .i64 x.e.k, .int .i64 x.e.n, .int .i64 x.e.m, .int .i64 x.e.v] 36)))
                  clear hmore HX13 hP
                  go_wp2_with (at_builtin; go_loud (refine wpList_append_evs _ rfl (.tmp 95) (.tmp 100) 29 rfl 36 i0 _ Try.underlying29 hi hy0 hy1 hy2 rfl (.slice Z p dz) p (flatV (P.map En.e)) rfl HXA.out.row (some ⟨wr.heap.size, 0, none⟩) 1 1 [x.e] rfl HS1.out (by omega) ?_; intro v5 w5 h1 h2 h3; rw [← flatV_append, show P.map En.e ++ [x.e] = (P ++ [x]).map En.e by simp] at h1; obtain ⟨Z2, dz2, rfl, hx14⟩ := HXA.out.grown (isSt1 _ _ _) h1 h2 (by rcases h3 with h3 | h3; exact .inl h3; exact .inr ⟨_, h3, Nat.le_refl _⟩); have HX14 := Lib.hid hx14; have HKE := Lib.hid hke; clear h1 h2 h3 hx14 HXA HS1 hke))
                  go_roundw
                  case rel => exact ⟨j + 1, P ++ [x], Z2, p + 1, dz2, by rw [List.length_append, HPP.out]; rfl, by omega, by go_num, HKE.out, rfl, HX14.out⟩
                  case measure => simp [intOf]; omega
              · have hkk2 : ¬ kd = x.e.k := fun h => hkk h.symm
                have hke := hmore.1 (by rw [dropB_no]; simp [hkk])
                have HS1 := Lib.hid (one_new wr x.e)
                have HXA := Lib.hid (HX13.out.later (isSt1 _ _ _) ((Below.refl _ _).alloc (Nat.le_refl _) (.cells #[.int .i64 x.e.t, .int .i64 x.e.k, .int .i64 x.e.n, .int .i64 x.e.m, .int .i64 x.e.v] 36)))
                clear hmore HX13 hP
                go_wp2_with (at_builtin; go_loud (refine wpList_append_evs _ rfl (.tmp 95) (.tmp 100) 29 rfl 36 i0 _ Try.underlying29 hi hy0 hy1 hy2 rfl (.slice Z p dz) p (flatV (P.map En.e)) rfl HXA.out.row (some ⟨wr.heap.size, 0, none⟩) 1 1 [x.e] rfl HS1.out (by omega) ?_; intro v5 w5 h1 h2 h3; rw [← flatV_append, show P.map En.e ++ [x.e] = (P ++ [x]).map En.e by simp] at h1; obtain ⟨Z2, dz2, rfl, hx14⟩ := HXA.out.grown (isSt1 _ _ _) h1 h2 (by rcases h3 with h3 | h3; exact .inl h3; exact .inr ⟨_, h3, Nat.le_refl _⟩); have HX14 := Lib.hid hx14; have HKE := Lib.hid hke; clear h1 h2 h3 hx14 HXA HS1 hke))
                go_roundw
                case rel => exact ⟨j + 1, P ++ [x], Z2, p + 1, dz2, by rw [List.length_append, HPP.out]; rfl, by omega, by go_num, HKE.out, rfl, HX14.out⟩
                case measure => simp [intOf]; omega
            · obtain rfl : j = L.length := by omega
              obtain rfl : P = M := by rw [hP, HMM.out, List.take_of_length_le (Nat.le_refl _)]
              have HX13 := Lib.hid hx
              subst hp
              have h1 := HMN.out
              have h2 := HLL.out
              have HP6 := Lib.hid (show P.length ≤ 1000000 by omega)
              clear hx hP
              go_wp2_with fail
              refine (all_r HX13.out HP6.out).mono ?_
              rintro e w10 ⟨E1, de, rfl, hx15⟩
              have HX15 := Lib.hid hx15
              clear hx15 HX13
              go_wp2_with fail
              refine (events_any _ _ _ _ _ _ _ _ _ HX15.out.fact.2.src HX15.out.row.src HP6.out HP6.out).mono ?_
              rintro e w11 ⟨rfl, q2, rfl⟩
              rw [decide_eq_true rfl]
              have HFIN := Lib.hid (k_then (HX15.out.below.trans ((below_drewN (Below.refl _ _) q2).mono HX15.out.below.size)) HB1.out)
              clear HX15
              go_wp2
              go_ret
              exact ⟨rfl, HFIN.out⟩
end Go.Proofs.Ytchfponnajednaa
