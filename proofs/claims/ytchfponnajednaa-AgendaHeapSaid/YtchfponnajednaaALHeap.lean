/- AgendaHeap, of a slice that reads as events. No condition. -/
import Derived.Test.YtchfponnajednaaALHeapD
import Derived.WalkLawsBesides
namespace Go.Proofs.Ytchfponnajednaa
open Go.RowKit Go.Shelf

set_option maxRecDepth 100000 in
set_option maxHeartbeats 4000000 in
theorem heapLaw_any (w : World) (A : Option Addr) (n c : Nat) (es : List Ev) (h : VSrc w A n es) (hn : n ≤ 9223372036854775807) :
    Calls Try.prog 7 #[.slice A n c] w (Says w true) := by
  have H := Lib.hid h
  clear h
  go_enter Try.func7, Try.ntmps7
  go_wp2_with fail
  refine (alive_any w).mono ?_
  rintro e w1 ⟨rfl, hb1⟩
  by_cases hlt : 100 < n
  · have HB1 := Lib.hid hb1
    have hd : decide ((100 : Int) < (n : Int)) = true := by simp only [decide_eq_true_eq]; omega
    clear hb1 hlt
    go_wp2
    go_ret
    exact ⟨rfl, HB1.out⟩
  have hd : decide ((100 : Int) < (n : Int)) = false := by simp only [decide_eq_false_iff_not]; omega
  have HB1 := Lib.hid hb1
  have HNN := Lib.hid (show n ≤ 100 by omega)
  obtain ⟨i0, hi, hy0, hy1, hy2⟩ := info_parts ev_infos
  have HS := Lib.hid ((H.out.later hb1).later (newEv_below w1))
  have HX6 := Lib.hid ((HoldQ.begin w1).lit0 isSt0)
  clear hb1 hlt
  go_wp2_with (at_builtin; refine wpList_append_evs _ rfl (.tmp 17) (.tmp 18) 29 rfl 36 i0 _ Try.underlying29 hi hy0 hy1 hy2 rfl (.slice (some ⟨w1.heap.size, 0, none⟩) 0 0) 0 (flatV []) rfl HX6.out.row A n c es rfl HS.out (by have := HNN.out; omega) ?_; intro v2 w2 h1 h2 h3; rw [← flatV_append, List.nil_append, Nat.zero_add] at h1; obtain ⟨X, dx, rfl, hx7⟩ := HX6.out.grown isSt0 h1 h2 (by rcases h3 with h3 | h3; exact .inl h3; exact .inr ⟨_, h3, Nat.le_refl _⟩); have HX7 := Lib.hid hx7.new2; clear h1 h2 h3 hx7 HX6 HS)
  have HEL := Lib.hid (show es.length = n from H.out.1)
  go_loopw [6, 22] (fun _ iv wr => ∃ k : Nat, k ≤ n ∧ iv = .int .i64 (k : Int) ∧ HoldR (fun F V => Ag2 F w2.heap.size (fillN ((numL es).take k)) (fillL ((numL es).take k)) (w2.heap.size + 1) 0 [] V) w1 (fun _ => True) X n dx (midL es k) wr) (fun _ iv _ => n - (intOf iv).toNat)
  case atStart => exact ⟨0, Nat.zero_le _, rfl, by rw [midL_zero]; exact HX7.out⟩
  case round =>
    clear HX7
    obtain ⟨k, hk, rfl, hx⟩ := hrel
    by_cases hlt : k < n
    · obtain ⟨_, g, rfl, hc, hf⟩ := hx.row.spot hlt
      have hke : k < es.length := by rw [HEL.out]; exact hlt
      have hkn : k < (numL es).length := by rw [numL_length]; exact hke
      have hx8 := hx.stored (isSt2 _ _ _ _ _ _) (k * 5 + 3) (.int .i64 (k : Int)) (flatV_set3 (midL es k) k (k : Int) (by rw [midL_length _ _ (by omega)]; exact hke))
      rw [midL_get hke, midL_set hke] at hx8
      rw [midL_get hke] at hc
      obtain ⟨_, g', e, hc', _⟩ := hx8.row.spot hlt
      simp only [Option.some.injEq, Addr.mk.injEq, and_true] at e
      obtain rfl := e
      obtain ⟨y, hy⟩ : ∃ y, y = (numL es).getD k default := ⟨_, rfl⟩
      have hm : (midL es (k + 1)).getD k default = y := by
        rw [hy]
        unfold midL
        rw [List.getD_eq_getElem?_getD, List.getElem?_append_left (by simp [numL_length]; omega), List.getElem?_take, if_pos (by omega), ← List.getD_eq_getElem?_getD]
      rw [hm] at hc'
      obtain ⟨x, hxx⟩ : ∃ x, x = es.getD k default := ⟨_, rfl⟩
      rw [← hxx] at hc
      obtain ⟨a0, a1, a2, a3, a4⟩ := five_of hc
      obtain ⟨b0, b1, b2, b3, b4⟩ := five_of hc'
      have f3 := hf (k * 5 + 3)
      have hft := fill_take hkn
      rw [← hy] at hft
      have hfs := fill_small _ ((numL es).take k) rfl
      rw [List.length_take] at hfs
      have hput := put_r2 (x := y) hx8 (by have := HNN.out; omega)
      rw [← hft.1, ← hft.2] at hput
      have HP := Lib.hid hput
      have hk6 : k + 1 ≤ 100 := by have := HNN.out; omega
      clear hx hc hc' hf hke hkn hx8 hm hxx hft hfs hput hy a0 a1 a2 a4
      go_wp2_with fail
      refine HP.out.mono ?_
      rintro e w3 ⟨rfl, hx9⟩
      have HX9 := Lib.hid hx9
      clear hx9 HP b0 b1 b2 b3 b4 a3 f3
      go_wp2
      go_roundw
      case rel => exact ⟨k + 1, by omega, by go_num, HX9.out⟩
      case measure => simp [intOf]; omega
    · obtain rfl : k = n := by omega
      have e1 : (numL es).take k = numL es := List.take_of_length_le (by rw [numL_length, HEL.out]; exact Nat.le_refl _)
      have e2 : midL es k = numL es := by rw [← HEL.out]; exact midL_all es
      rw [e1, e2] at hx
      obtain ⟨L, hL⟩ : ∃ L, L = fillL (numL es) := ⟨_, rfl⟩
      obtain ⟨nx, hnx⟩ : ∃ nx, nx = fillN (numL es) := ⟨_, rfl⟩
      obtain ⟨rs, hrs⟩ : ∃ rs, rs = (numL es).reverse := ⟨_, rfl⟩
      rw [← hL, ← hnx] at hx
      have HL := Lib.hid hL
      have HRS := Lib.hid hrs
      have HRL := Lib.hid (show rs.length = k by rw [hrs, List.length_reverse, numL_length]; exact HEL.out)
      have HX8 := Lib.hid hx
      have hk6 : k ≤ 100 := HNN.out
      clear hx hL hnx hrs e1 e2
      go_wp2
      go_loopw [7, 39] (fun iv _ wr => ∃ p : Nat, p ≤ k ∧ iv = .int .i64 ((k : Int) - 1 - (p : Int)) ∧ HoldR (fun F V => Ag2 F w2.heap.size nx L (w2.heap.size + 1) (fillN (rs.take p)) (fillL (rs.take p)) V) w1 (fun _ => True) X k dx (numL es) wr) (fun iv _ _ => (intOf iv + 1).toNat)
      case atStart => exact ⟨0, Nat.zero_le _, by simp, HX8.out⟩
      case round =>
        clear HX8
        obtain ⟨p, hp, rfl, hx⟩ := hrel
        by_cases hlt2 : p < k
        · obtain ⟨i, hii⟩ : ∃ i : Nat, (k : Int) - 1 - (p : Int) = (i : Int) := ⟨k - 1 - p, by omega⟩
          have hik : i < k := by omega
          obtain ⟨_, g, rfl, hc, _⟩ := hx.row.spot hik
          have hpr : p < rs.length := by rw [HRL.out]; exact hlt2
          have hpn : p < (numL es).length := by rw [numL_length, HEL.out]; exact hlt2
          obtain ⟨y, hy⟩ : ∃ y, y = rs.getD p default := ⟨_, rfl⟩
          have hyi : (numL es).getD i default = y := by
            rw [hy, HRS.out, rev_get hpn, numL_length, HEL.out, show k - 1 - p = i by omega]
          rw [hyi] at hc
          obtain ⟨b0, b1, b2, b3, b4⟩ := five_of hc
          have hft := fill_take hpr
          rw [← hy] at hft
          have hfs := fill_small _ (rs.take p) rfl
          rw [List.length_take] at hfs
          have hput := put_r2 (x := y) hx.swap2 (by have := HNN.out; omega)
          rw [← hft.1, ← hft.2] at hput
          have HP := Lib.hid hput
          have HII := Lib.hid (show (i : Int) - 1 = (k : Int) - 1 - ((p + 1 : Nat) : Int) by omega)
          have hi6 : i ≤ 100 := by have := HNN.out; omega
          have HLT := Lib.hid (show p + 1 ≤ k by omega)
          rw [hii]
          clear hx hc hpr hpn hyi hft hfs hput hy hii hlt2 hp
          go_wp2_with fail
          refine HP.out.mono ?_
          rintro e w3 ⟨rfl, hx9⟩
          have HX9 := Lib.hid hx9.swap2
          clear hx9 HP b0 b1 b2 b3 b4
          go_wp2
          go_roundw
          case rel => exact ⟨p + 1, HLT.out, by rw [← HII.out], HX9.out⟩
          case measure => simp [intOf]
        · obtain rfl : p = k := by omega
          rw [show (p : Int) - 1 - (p : Int) = -1 by omega]
          have e1 : rs.take p = rs := List.take_of_length_le (by rw [HRL.out]; exact Nat.le_refl _)
          rw [e1] at hx
          obtain ⟨M, hM⟩ : ∃ M, M = fillL rs := ⟨_, rfl⟩
          obtain ⟨ny, hny⟩ : ∃ ny, ny = fillN rs := ⟨_, rfl⟩
          have hs1 := hx.fst2.sorted
          have hs2 := hx.swap2.fst2.sorted
          have heq : L.map En.e = M.map En.e := by
            rw [HL.out] at hs1 ⊢
            rw [hM]
            refine same_lists (by rw [HRS.out]; exact (List.reverse_perm _).symm) (by rw [numL_length, HEL.out]; have := HNN.out; omega) (numL_apart es) hs1 hs2
          have hll : L.length = M.length := by simpa using congrArg List.length heq
          rw [← hM, ← hny] at hx
          have HX9 := Lib.hid hx
          have HEQ := Lib.hid heq
          have HLL := Lib.hid hll
          have hls : L.length ≤ 100 := by
            have h1 := (fill_small _ (numL es) rfl).2
            rw [← HL.out, numL_length, HEL.out] at h1
            have := HNN.out
            omega
          have HL6 := Lib.hid (show L.length ≤ 1000000 by omega)
          have HM6 := Lib.hid (show M.length ≤ 1000000 by omega)
          clear hx e1 hM hny hs1 hs2 heq hll
          go_wp2_with fail
          refine (all_r2 HX9.out HL6.out).mono ?_
          rintro e w4 ⟨C, cc, rfl, hx10⟩
          have HX10 := Lib.hid hx10.swap2
          clear hx10 HX9
          go_wp2_with fail
          refine (all_r2 HX10.out HM6.out).mono ?_
          rintro e w5 ⟨D, cd, rfl, hx11⟩
          have HX11 := Lib.hid hx11.swap2
          clear hx11 HX10
          go_wp2_with fail
          refine (events_any _ _ _ _ _ _ _ _ _ HX11.out.fact.1.2.src HX11.out.fact.2.src HL6.out HM6.out).mono ?_
          rintro e w6 ⟨rfl, q, rfl⟩
          rw [decide_eq_true HEQ.out]
          have HX12 := Lib.hid (HX11.out.later (isSt2 _ _ _ _ _ _) (below_drewN (Below.refl _ _) q))
          clear HX11
          go_wp2_with fail
          refine (len_r2 HX12.out).mono ?_
          rintro e w7 ⟨rfl, hb7⟩
          have HX13 := Lib.hid (HX12.out.later (isSt2 _ _ _ _ _ _) hb7).swap2
          clear HX12 hb7
          go_wp2_with fail
          refine (len_r2 HX13.out).mono ?_
          rintro e w8 ⟨rfl, hb8⟩
          have HFIN := Lib.hid (k_then (HX13.out.below.trans (hb8.mono HX13.out.below.size)) HB1.out)
          rw [HLL.out]
          clear HX13 hb8
          go_wp2
          go_ret
          exact ⟨rfl, HFIN.out⟩
end Go.Proofs.Ytchfponnajednaa
