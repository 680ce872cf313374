/- AgendaFirst, of a slice that reads as events. No condition. -/
import Derived.Test.YtchfponnajednaaALawM
import Derived.Deep.DrawnRows
namespace Go.Proofs.Ytchfponnajednaa
open Go.RowKit Go.Shelf
attribute [local go_sem ↓] Go.wp_at_zero Go.wp_at_succ

set_option maxRecDepth 100000 in
set_option maxHeartbeats 4000000 in
theorem firstLaw_any (w : World) (A : Option Addr) (n c : Nat) (es : List Ev) (h : VSrc w A n es) (hn : n ≤ 9223372036854775807) :
    Calls Try.prog 9 #[.slice A n c] w (Says w true) := by
  have H := Lib.hid h
  clear h
  go_enter Try.func9, Try.ntmps9
  go_wp2_with fail
  refine (alive_any w).mono ?_
  rintro e w1 ⟨rfl, hb1⟩
  by_cases hlt : 150 < n
  · have HB1 := Lib.hid hb1
    have hd : decide ((150 : Int) < (n : Int)) = true := by simp only [decide_eq_true_eq]; omega
    clear hb1 hlt
    go_wp2
    go_ret
    exact ⟨rfl, HB1.out⟩
  have hd : decide ((150 : Int) < (n : Int)) = false := by simp only [decide_eq_false_iff_not]; omega
  have HB1 := Lib.hid hb1
  have HX := Lib.hid (AgQ.start w1)
  have HNN := Lib.hid (show n ≤ 150 by omega)
  clear hb1 hlt
  go_wp2
  clear hd
  go_loopw [5, 24] (fun _ iv wr => ∃ k : Nat, k ≤ n ∧ iv = .int .i64 (k : Int) ∧ AgQ w1 w1.heap.size (fillN (es.take k)) (fillL (es.take k)) (fun _ => True) wr) (fun _ iv _ => n - (intOf iv).toNat)
  case atStart => exact ⟨0, Nat.zero_le _, rfl, HX.out⟩
  case round =>
    obtain ⟨k, hk, rfl, hx⟩ := hrel
    by_cases hlt : k < n
    · have hsrc := H.out.later (k_then hx.below HB1.out)
      obtain ⟨g, o, rfl, hc⟩ := hsrc.at_ hlt
      have hkl : k < es.length := by rw [H.out.1]; exact hlt
      have hft := fill_take hkl
      obtain ⟨x, hxx⟩ : ∃ x, x = es.getD k default := ⟨_, rfl⟩
      rw [← hxx] at hc hft
      obtain ⟨a0, a1, a2, a3, a4⟩ := five_of hc
      have hfs := fill_small _ (es.take k) rfl
      rw [List.length_take] at hfs
      have hput := put_q (x := x) hx (by have := HNN.out; omega)
      rw [← hft.1, ← hft.2] at hput
      have HP := Lib.hid hput
      clear hsrc hc hkl hft hxx hfs hput hx
      go_wp2_with fail
      refine HP.out.mono ?_
      rintro e w2 ⟨rfl, hx2⟩
      have HX2 := Lib.hid hx2
      clear hx2 HP a0 a1 a2 a3 a4
      go_wp2
      go_roundw
      case rel => exact ⟨k + 1, by omega, by go_num, HX2.out⟩
      case measure => simp [intOf]; omega
    · obtain rfl : k = n := by omega
      have e1 : es.take k = es := List.take_of_length_le (by rw [H.out.1]; exact Nat.le_refl _)
      rw [e1] at hx
      have hfs := fill_small _ es rfl
      rw [H.out.1] at hfs
      obtain ⟨L, hL⟩ : ∃ L, L = fillL es := ⟨_, rfl⟩
      obtain ⟨nx, hnx⟩ : ∃ nx, nx = fillN es := ⟨_, rfl⟩
      rw [← hL, ← hnx] at hx
      rw [← hL] at hfs
      have HLL := Lib.hid (show L.length ≤ 150 by have := HNN.out; omega)
      have hall := all_q hx (by have := HLL.out; omega)
      have HX2 := Lib.hid hx
      have HALL := Lib.hid hall
      clear hall hx hL hnx hfs e1 HX
      go_wp2_with fail
      refine HALL.out.mono ?_
      rintro e w2 ⟨⟨B, d, rfl, hLd, hx3⟩, _⟩
      have HX3 := Lib.hid hx3
      have HF := Lib.hid (first_q HX3.out)
      have HLD := Lib.hid hLd
      clear hx3 HALL HX2 hLd
      go_wp2_with fail
      refine HF.out.mono ?_
      rintro e w3 ⟨rfl, hb3⟩
      have HX4 := Lib.hid (HX3.out.later hb3)
      clear hb3 HX3 HF
      cases L with
      | nil =>
        rw [head_nil]
        unfold zeroEv
        have HX5 := Lib.hid (HX4.out.box 36 #[.int .i64 0, .int .i64 0, .int .i64 0, .int .i64 0, .int .i64 0])
        clear HX4
        go_wp2_with fail
        refine (len_q HX5.out).mono ?_
        rintro e w5 ⟨rfl, hb5⟩
        have hx6 := HX5.out.later hb5
        have ht := take_q hx6 (by simp)
        rw [head_nil] at ht
        unfold zeroEv at ht
        have HT := Lib.hid ht
        clear hx6 ht hb5 HX5
        go_wp2_with fail
        refine HT.out.mono ?_
        rintro e w6 ⟨rfl, hx6⟩
        have hx7 := hx6.box 36 #[.int .i64 0, .int .i64 0, .int .i64 0, .int .i64 0, .int .i64 0]
        have hw := hx7.fact.1.2
        obtain ⟨c0, c1, c2, c3, c4⟩ := five_whole hw
        have m1 := fun V => ev_equal_self ⟨0, 0, 0, 0, 0⟩ V
        have n1 := fun V => ev_eql_self ⟨0, 0, 0, 0, 0⟩ V
        have HFIN := Lib.hid (k_then hx7.below HB1.out)
        clear hx6 hx7 hw HT
        go_wp2
        go_ret
        exact ⟨rfl, HFIN.out⟩
      | cons x L =>
        rw [head_cons]
        have HX5 := Lib.hid (HX4.out.box 36 #[.int .i64 x.e.t, .int .i64 x.e.k, .int .i64 x.e.n, .int .i64 x.e.m, .int .i64 x.e.v])
        clear HX4
        have hg1 : ¬ (L.length : Int) + 1 = 0 := by omega
        go_wp2_with fail
        refine (len_q HX5.out).mono ?_
        rintro e w5 ⟨rfl, hb5⟩
        have hx6 := HX5.out.later hb5
        have ht := take_q hx6 (by have := HLL.out; omega)
        rw [head_cons] at ht
        have HT := Lib.hid ht
        clear hx6 ht hb5 HX5
        go_wp2_with fail
        refine HT.out.mono ?_
        rintro e w6 ⟨rfl, hx6⟩
        simp only [List.tail_cons] at hx6
        have HX7 := Lib.hid (hx6.box 36 #[.int .i64 x.e.t, .int .i64 x.e.k, .int .i64 x.e.n, .int .i64 x.e.m, .int .i64 x.e.v])
        clear hx6 HT
        go_upto_region 18 with fail
        generalize w6.alloc (.cells #[.int .i64 x.e.t, .int .i64 x.e.k, .int .i64 x.e.n, .int .i64 x.e.m, .int .i64 x.e.v] 36) = W at *
        obtain ⟨⟨⟨_, hsrc⟩, hw7⟩, hw11⟩ := HX7.out.fact
        obtain ⟨g, o, rfl, hc⟩ := hsrc.at_ (i := 0) (by simp)
        rw [Nat.zero_mul, Nat.add_zero] at hc
        obtain ⟨a0, a1, a2, a3, a4⟩ := five_of hc
        simp only [List.map_cons, List.getD_cons_zero] at a0 a1 a2 a3 a4
        obtain ⟨c0, c1, c2, c3, c4⟩ := five_whole hw7
        obtain ⟨d0, d1, d2, d3, d4⟩ := five_whole hw11
        have m1 := fun V => ev_equal_self x.e V
        have n1 := fun V => ev_eql_self x.e V
        have HSR := Lib.hid hsrc
        clear hsrc hw7 hw11 hc
        have e1 : (0 : Int) < (L.length : Int) + 1 := by omega
        have e2 : (1 : Int) ≤ (L.length : Int) + 1 := by omega
        have e3 : (L.length : Int) + 1 ≤ (d : Int) := by have := HLD.out; simp at this; omega
        have hLn : ¬ d = 0 := by have := HLD.out; simp at this; omega
        by_cases hd1 : d = 1
        · subst hd1
          obtain rfl : L = [] := by
            have := HLD.out
            simp at this
            exact this
          go_region_with (first
            | (go_at_call 13; refine (all_q (HX7.out.later (below_drewN (Below.refl _ W) 1)) (by simp)).mono ?_; rintro e w8 ⟨⟨C, cc, rfl, _, hx8⟩, hb8⟩; have HX8 := Lib.hid hx8; clear hx8 hb8)
            | (go_at_call 15; refine (events_any _ _ _ _ _ _ _ [] [] (VSrc.zero _ _) (VSrc.zero _ _) (by omega) (by omega)).mono ?_; rintro e w9 ⟨rfl, q, rfl⟩))
          all_goals go_wp2
          all_goals go_ret
          all_goals exact ⟨rfl, below_drewN (k_then HX8.out.below HB1.out) _⟩
        · have hd2 : ¬ 1 = d := by omega
          go_region_with (first
            | (go_at_call 13; refine (all_q (HX7.out.later (below_drewN (Below.refl _ W) 1)) (by have := HLL.out; simp at this; omega)).mono ?_; rintro e w8 ⟨⟨C, cc, rfl, _, hx8⟩, hb8⟩; have HX8 := Lib.hid hx8; clear hx8 hb8)
            | (go_at_call 15; refine (events_any _ _ _ _ _ _ _ (L.map En.e) (L.map En.e) HX8.out.fact.2 (VSrc.tail HX8.out.fact.1.1.1.2) (by have := HLL.out; simp at this; omega) (by have := HLL.out; simp at this; omega)).mono ?_; rintro e w9 ⟨rfl, q, rfl⟩))
          all_goals go_wp2
          all_goals go_ret
          all_goals exact ⟨rfl, below_drewN (k_then HX8.out.below HB1.out) _⟩
end Go.Proofs.Ytchfponnajednaa
