/- AgendaOrder, of a slice that reads as events. No condition. -/
import Derived.Test.YtchfponnajednaaALOrdD
import Derived.WalkLawsBesides
import Derived.Deep.DrawnRows
namespace Go.Proofs.Ytchfponnajednaa
open Go.RowKit Go.Shelf
attribute [local go_sem ↓] Go.wp_at_zero Go.wp_at_succ

set_option maxRecDepth 100000 in
set_option maxHeartbeats 4000000 in
theorem orderLaw_any (w : World) (A : Option Addr) (n c : Nat) (es : List Ev) (x1 : Nat) (hx1 : x1 < 256) (h : VSrc w A n es) (hn : n ≤ 9223372036854775807) :
    Calls Try.prog 5 #[.slice A n c, .int .u8 (x1 : Int)] w (Says w true) := by
  have H := Lib.hid h
  clear h
  go_enter Try.func5, Try.ntmps5
  go_wp2_with fail
  refine (alive_any w).mono ?_
  rintro e w1 ⟨rfl, hb1⟩
  by_cases hlt : 150 < n
  · have HB1 := Lib.hid hb1
    have hd : decide ((150 : Int) < (n : Int)) = true := by simp only [decide_eq_true_eq]; omega
    clear hb1 hlt
    go_wp2
    go_ret
    exact ⟨rfl, HB1.out⟩
  have hd : decide ((150 : Int) < (n : Int)) = false := by simp only [decide_eq_false_iff_not]; omega
  have HB1 := Lib.hid hb1
  have HNN := Lib.hid (show n ≤ 150 by omega)
  obtain ⟨i0, hi, hy0, hy1, hy2⟩ := info_parts ev_infos
  have HS := Lib.hid ((H.out.later hb1).later (newEv_below w1))
  have HX6 := Lib.hid ((HoldQ.begin w1).lit0 isSt0)
  clear hb1 hlt
  go_wp2_with (at_builtin; refine wpList_append_evs _ rfl (.tmp 27) (.tmp 28) 29 rfl 36 i0 _ Try.underlying29 hi hy0 hy1 hy2 rfl (.slice (some ⟨w1.heap.size, 0, none⟩) 0 0) 0 (flatV []) rfl HX6.out.row A n c es rfl HS.out (by have := HNN.out; omega) ?_; intro v2 w2 h1 h2 h3; rw [← flatV_append, List.nil_append, Nat.zero_add] at h1; obtain ⟨X, dx, rfl, hx7⟩ := HX6.out.grown isSt0 h1 h2 (by rcases h3 with h3 | h3; exact .inl h3; exact .inr ⟨_, h3, Nat.le_refl _⟩); have HX7 := Lib.hid hx7.new1; clear h1 h2 h3 hx7 HX6 HS)
  have HEL := Lib.hid (show es.length = n from H.out.1)
  go_loopw [7, 8, 9, 32] (fun mv tv _ iv wr => ∃ (k many taken nx : Nat) (L : List En), k ≤ n ∧ iv = .int .i64 (k : Int) ∧ mv = .int .i64 (many : Int) ∧ tv = .int .i64 (taken : Int) ∧ many = taken + L.length ∧ many ≤ k ∧ nx ≤ k ∧ TV L nx k ∧ HoldR (fun F V => AgF F w2.heap.size nx L V) w1 (fun _ => True) X n dx (midW es k) wr) (fun _ _ _ iv _ => n - (intOf iv).toNat)
  case atStart => exact ⟨0, 0, 0, 0, [], Nat.zero_le _, rfl, rfl, rfl, rfl, Nat.le_refl _, Nat.le_refl _, TV.nil, by rw [midW_zero]; exact HX7.out⟩
  case round =>
    clear HX7
    obtain ⟨k, many, taken, nx, L, hk, rfl, rfl, rfl, hmt, hmk, hnk, htv, hx⟩ := hrel
    by_cases hlt : k < n
    · obtain ⟨_, g, rfl, hc, hf⟩ := hx.row.spot hlt
      have hke : k < es.length := by rw [HEL.out]; exact hlt
      have hx8 := hx.stored (isSt1 _ _ _) (k * 5 + 4) (.int .i64 (k : Int)) (flatV_set4 (midW es k) k (k : Int) (by rw [midW_length _ _ (by omega)]; exact hke))
      rw [midW_get hke, midW_set hke] at hx8
      rw [midW_get hke] at hc
      obtain ⟨_, g', e, hc', _⟩ := hx8.row.spot hlt
      simp only [Option.some.injEq, Addr.mk.injEq, and_true] at e
      obtain rfl := e
      obtain ⟨y, hy⟩ : ∃ y, y = (valL es).getD k default := ⟨_, rfl⟩
      have hyv : y.v = (k : Int) := by rw [hy, valL_get hke]
      rw [midW_new hke, ← hy] at hc'
      obtain ⟨x, hxx⟩ : ∃ x, x = es.getD k default := ⟨_, rfl⟩
      rw [← hxx] at hc
      obtain ⟨a0, a1, a2, a3, a4⟩ := five_of hc
      obtain ⟨b0, b1, b2, b3, b4⟩ := five_of hc'
      have f4 := hf (k * 5 + 4)
      have HP := Lib.hid (put_r (x := y) hx8 (by have := HNN.out; omega))
      have HYV := Lib.hid hyv
      have HTV := Lib.hid htv
      have HMT := Lib.hid (And.intro hmt (And.intro hmk hnk))
      have hk6 : k + 1 ≤ 150 := by have := HNN.out; omega
      have hm6 : many ≤ 150 := by omega
      have ht6 : taken ≤ 150 := by omega
      clear hx hc hc' hf hke hx8 hxx hy hyv htv hmt hmk hnk a0 a1 a2 a3
      go_wp2_with fail
      refine HP.out.mono ?_
      rintro e w3 ⟨rfl, hx9⟩
      unfold putE putN putL at *
      cases hpb : putB L y with
      | false =>
        simp only [hpb, Bool.false_eq_true, if_false] at hx9 ⊢
        have HX9 := Lib.hid hx9
        clear hx9 HP b0 b1 b2 b3 b4 a4 f4
        go_wp2
        go_roundw
        case rel => exact ⟨k + 1, many, taken, nx, L, by omega, by go_num, rfl, rfl, HMT.out.1, by have := HMT.out.2.1; omega, by have := HMT.out.2.2; omega, HTV.out.more, HX9.out⟩
        case measure => simp [intOf]; omega
      | true =>
        simp only [hpb, if_true] at hx9 ⊢
        have HTV2 := Lib.hid (HTV.out.put HYV.out)
        obtain ⟨K, hK⟩ : ∃ K, K = insE ⟨y, nx⟩ L := ⟨_, rfl⟩
        have HKL := Lib.hid (show K.length = L.length + 1 by rw [hK]; simpa using (insE_perm ⟨y, nx⟩ L).length_eq)
        have hx10 := hx9
        have htv2 := HTV2.out
        rw [← hK] at hx10 htv2
        have HX9 := Lib.hid hx10
        have HTV3 := Lib.hid htv2
        clear hx9 hx10 htv2 HTV2 hK HP b0 b1 b2 b3 b4 a4 f4
        cases hrem : ((k : Int) % (2 + (x1 : Int)) == 1) with
        | false =>
          go_wp2
          go_roundw
          case rel => exact ⟨k + 1, many + 1, taken, nx + 1, K, by omega, by go_num, by go_num, rfl, by have := HMT.out.1; have := HKL.out; omega, by have := HMT.out.2.1; omega, by have := HMT.out.2.2; omega, HTV3.out, HX9.out⟩
          case measure => simp [intOf]; omega
        | true =>
          have HSO := Lib.hid HX9.out.sorted
          have HT := Lib.hid (take_r HX9.out (by have := HKL.out; have := HMT.out; omega))
          clear HX9
          go_wp2_with fail
          refine HT.out.mono ?_
          rintro e w4 ⟨rfl, hx10⟩
          cases K with
          | nil =>
            have := HKL.out
            simp at this
          | cons z R =>
            rw [head_cons]
            simp only [List.tail_cons] at hx10
            have HX11 := Lib.hid (hx10.box (isSt1 _ _ _) 36 #[.int .i64 z.e.t, .int .i64 z.e.k, .int .i64 z.e.n, .int .i64 z.e.m, .int .i64 z.e.v])
            clear hx10 HT
            go_wp2_with fail
            refine (first_r HX11.out).mono ?_
            rintro e w5 ⟨rfl, hb5⟩
            have hx12 := HX11.out.later (isSt1 _ _ _) hb5
            cases R with
            | nil =>
              rw [head_nil]
              unfold zeroEv
              have HX13 := Lib.hid (hx12.box (isSt1 _ _ _) 36 #[.int .i64 0, .int .i64 0, .int .i64 0, .int .i64 0, .int .i64 0])
              clear hb5 hx12 HX11
              go_wp2
              go_roundw
              case rel => exact ⟨k + 1, many + 1, taken + 1, nx + 1, [], by omega, by go_num, by go_num, by go_num, by have h1 := HMT.out.1; have h2 := HKL.out; simp only [List.length_cons, List.length_nil] at h2 ⊢; omega, by have := HMT.out.2.1; omega, by have := HMT.out.2.2; omega, HTV3.out.tail, HX13.out.forget⟩
              case measure => simp [intOf]; omega
            | cons y2 R =>
              rw [head_cons]
              have hfo := follow HSO.out HTV3.out
              have HX13 := Lib.hid (hx12.box (isSt1 _ _ _) 36 #[.int .i64 y2.e.t, .int .i64 y2.e.k, .int .i64 y2.e.n, .int .i64 y2.e.m, .int .i64 y2.e.v])
              clear hb5 hx12 HX11
              obtain ⟨f1, f2⟩ := hfo
              obtain ⟨d0, d1, d2, d3, d4⟩ := five_whole HX13.out.fact.1.2
              obtain ⟨e0, e1, e2, e3, e4⟩ := five_whole HX13.out.fact.2
              go_wp2_with fail
              refine (after_any z.e y2.e _).mono ?_
              rintro e w6 ⟨rfl, hb6⟩
              rw [f1]
              have HX14 := Lib.hid (HX13.out.later (isSt1 _ _ _) hb6)
              clear hb6 HX13 f1 d0 d1 d2 d3 d4 e0 e1 e2 e3 e4
              obtain ⟨d0, d1, d2, d3, d4⟩ := five_whole HX14.out.fact.1.2
              obtain ⟨e0, e1, e2, e3, e4⟩ := five_whole HX14.out.fact.2
              rcases f2 with f2 | ⟨f2, f3⟩
              · go_wp2_with fail
                refine (after_any y2.e z.e _).mono ?_
                rintro e w7 ⟨rfl, hb7⟩
                rw [f2]
                have HXW := Lib.hid (HX14.out.later (isSt1 _ _ _) hb7)
                clear hb7 HX14 f2 d0 d1 d2 d3 d4 e0 e1 e2 e3 e4
                have hx17 := HXW.out.forget
                have HX17 := Lib.hid hx17
                clear hx17 HXW
                go_wp2
                go_roundw
                case rel => exact ⟨k + 1, many + 1, taken + 1, nx + 1, y2 :: R, by omega, by go_num, by go_num, by go_num, by have h1 := HMT.out.1; have h2 := HKL.out; simp only [List.length_cons] at h2 ⊢; omega, by have := HMT.out.2.1; omega, by have := HMT.out.2.2; omega, HTV3.out.tail, HX17.out⟩
                case measure => simp [intOf]; omega
              · go_wp2_with fail
                refine (after_any y2.e z.e _).mono ?_
                rintro e w7 ⟨rfl, hb7⟩
                rw [f2]
                have HXW := Lib.hid (HX14.out.later (isSt1 _ _ _) hb7)
                clear hb7 HX14 f2 d0 d1 d2 d3 d4 e0 e1 e2 e3 e4
                have d4 := (five_whole HXW.out.fact.1.2).2.2.2.2
                have e4 := (five_whole HXW.out.fact.2).2.2.2.2
                have f5 : decide (y2.e.v < z.e.v) = false := decide_eq_false (by omega)
                have hx17 := HXW.out.forget
                have HX17 := Lib.hid hx17
                clear hx17 HXW
                go_wp2
                go_roundw
                case rel => exact ⟨k + 1, many + 1, taken + 1, nx + 1, y2 :: R, by omega, by go_num, by go_num, by go_num, by have h1 := HMT.out.1; have h2 := HKL.out; simp only [List.length_cons] at h2 ⊢; omega, by have := HMT.out.2.1; omega, by have := HMT.out.2.2; omega, HTV3.out.tail, HX17.out⟩
                case measure => simp [intOf]; omega
    · obtain rfl : k = n := by omega
      have hx2 := (hx.toQ).forget
      have HX2 := Lib.hid hx2
      have HTV := Lib.hid htv
      have HMT := Lib.hid (And.intro hmt (And.intro hmk hnk))
      have hm6 : many ≤ 150 := by have := HNN.out; omega
      have ht6 : taken ≤ 150 := by omega
      clear hx hx2 htv hmt hmk hnk
      have HX3 := Lib.hid (HX2.out.box1 (isSt1 _ _ _) ⟨0, 0, 0, 0, 0⟩)
      have HSO := Lib.hid HX2.out.sorted
      go_wp2_with fail
      generalize wr.heap.size = lb at *
      go_loopw [8, 15] (fun tv hv V => ∃ (t2 : Nat) (L2 : List En) (last : Ev), tv = .int .i64 (t2 : Int) ∧ many = t2 + L2.length ∧ HoldR (fun F V => AgF F w2.heap.size nx L2 V) w1 (fun _ => True) (some ⟨lb, 0, none⟩) 1 1 [last] V ∧ ((hv = .bool false ∧ L2.Pairwise lessP ∧ TV L2 nx k) ∨ ∃ z : En, hv = .bool true ∧ last = z.e ∧ (z :: L2).Pairwise lessP ∧ TV (z :: L2) nx k)) (fun tv _ _ => many - (intOf tv).toNat)
      case atStart => exact ⟨taken, L, _, rfl, HMT.out.1, HX3.out, .inl ⟨rfl, HSO.out, HTV.out⟩⟩
      case round =>
        clear HX3 HX2 HSO HTV ht6 HMT
        obtain ⟨t2, L2, last, rfl, hm, hx, hz⟩ := hrel
        have hl6 : L2.length ≤ 150 := by omega
        have HM := Lib.hid hm
        have HX4 := Lib.hid hx
        have HZ := Lib.hid hz
        have ht6 : t2 ≤ 150 := by omega
        clear hm hx hz
        go_wp2_with fail
        refine (len_r HX4.out).mono ?_
        rintro e w3 ⟨rfl, hb3⟩
        have HX5 := Lib.hid (HX4.out.later (isSt1 _ _ _) hb3)
        clear hb3 HX4
        cases L2 with
        | nil =>
          have e1 : t2 = many := by have := HM.out; simp at this; omega
          subst e1
          have HFIN := Lib.hid (k_then HX5.out.below HB1.out)
          clear HX5 HZ
          go_wp2
          go_ret
          exact ⟨rfl, HFIN.out⟩
        | cons y R =>
          have e1 : decide ((0 : Int) < (R.length : Int) + 1) = true := by simp only [decide_eq_true_eq]; omega
          have HT := Lib.hid (take_r HX5.out (by omega))
          have HM2 := Lib.hid (show many = t2 + 1 + R.length by have := HM.out; simp only [List.length_cons] at this; omega)
          have hl7 : t2 + 1 ≤ 150 := by have := HM2.out; omega
          clear HX5
          go_wp2_with fail
          refine HT.out.mono ?_
          rintro e w4 ⟨rfl, hx6⟩
          rw [head_cons]
          simp only [List.tail_cons] at hx6
          have HX7 := Lib.hid (hx6.box (isSt1 _ _ _) 36 #[.int .i64 y.e.t, .int .i64 y.e.k, .int .i64 y.e.n, .int .i64 y.e.m, .int .i64 y.e.v])
          clear hx6 HT
          obtain ⟨d0, d1, d2, d3, d4⟩ := five_whole HX7.out.fact.2
          obtain ⟨⟨e0, e1, e2, e3, e4⟩, ef⟩ := HX7.out.cells1
          have ef0 := ef 0
          have ef1 := ef 1
          have ef2 := ef 2
          have ef3 := ef 3
          have ef4 := ef 4
          rcases HZ.out with ⟨rfl, hs, ht⟩ | ⟨z, rfl, rfl, hs, ht⟩
          · have HS := Lib.hid hs
            have HTV := Lib.hid ht
            clear hs ht HZ ef
            have HXW := HX7
            clear HX7
            go_wp2
            go_roundw
            case rel => exact ⟨t2 + 1, R, y.e, by go_num, HM2.out, HXW.out.forget.store1 (isSt1 _ _ _) y.e, .inr ⟨y, rfl, rfl, HS.out, HTV.out⟩⟩
            case measure => have := HM2.out; simp [intOf]; omega
          · have hfo := follow hs ht
            have HS := Lib.hid (List.pairwise_cons.1 hs).2
            have HTV := Lib.hid ht.tail
            obtain ⟨f1, f2⟩ := hfo
            clear hs ht HZ ef
            go_wp2_with fail
            refine (after_any z.e y.e _).mono ?_
            rintro e w6 ⟨rfl, hb6⟩
            rw [f1]
            have HXW := Lib.hid (HX7.out.later (isSt1 _ _ _) hb6)
            clear hb6 HX7 f1 d0 d1 d2 d3 d4 e0 e1 e2 e3 e4 ef0 ef1 ef2 ef3 ef4
            obtain ⟨d0, d1, d2, d3, d4⟩ := five_whole HXW.out.fact.2
            obtain ⟨⟨e0, e1, e2, e3, e4⟩, ef⟩ := HXW.out.cells1
            have ef0 := ef 0
            have ef1 := ef 1
            have ef2 := ef 2
            have ef3 := ef 3
            have ef4 := ef 4
            clear ef
            rcases f2 with f2 | ⟨f2, f3⟩
            · go_wp2_with fail
              refine (after_any y.e z.e _).mono ?_
              rintro e w7 ⟨rfl, hb7⟩
              rw [f2]
              have HXV := Lib.hid (HXW.out.later (isSt1 _ _ _) hb7)
              clear hb7 HXW f2 d0 d1 d2 d3 d4 e0 e1 e2 e3 e4 ef0 ef1 ef2 ef3 ef4
              have HXW := HXV
              clear HXV
              obtain ⟨d0, d1, d2, d3, d4⟩ := five_whole HXW.out.fact.2
              obtain ⟨⟨e0, e1, e2, e3, e4⟩, ef⟩ := HXW.out.cells1
              have ef0 := ef 0
              have ef1 := ef 1
              have ef2 := ef 2
              have ef3 := ef 3
              have ef4 := ef 4
              clear ef
              go_wp2
              go_roundw
              case rel => exact ⟨t2 + 1, R, y.e, by go_num, HM2.out, HXW.out.forget.store1 (isSt1 _ _ _) y.e, .inr ⟨y, rfl, rfl, HS.out, HTV.out⟩⟩
              case measure => have := HM2.out; simp [intOf]; omega
            · go_wp2_with fail
              refine (after_any y.e z.e _).mono ?_
              rintro e w7 ⟨rfl, hb7⟩
              rw [f2]
              have HXV := Lib.hid (HXW.out.later (isSt1 _ _ _) hb7)
              clear hb7 HXW f2 d0 d1 d2 d3 d4 e0 e1 e2 e3 e4 ef0 ef1 ef2 ef3 ef4
              have HXW := HXV
              clear HXV
              have f5 : decide (y.e.v < z.e.v) = false := decide_eq_false (by omega)
              obtain ⟨d0, d1, d2, d3, d4⟩ := five_whole HXW.out.fact.2
              obtain ⟨⟨e0, e1, e2, e3, e4⟩, ef⟩ := HXW.out.cells1
              have ef0 := ef 0
              have ef1 := ef 1
              have ef2 := ef 2
              have ef3 := ef 3
              have ef4 := ef 4
              clear ef
              go_wp2
              go_roundw
              case rel => exact ⟨t2 + 1, R, y.e, by go_num, HM2.out, HXW.out.forget.store1 (isSt1 _ _ _) y.e, .inr ⟨y, rfl, rfl, HS.out, HTV.out⟩⟩
              case measure => have := HM2.out; simp [intOf]; omega
end Go.Proofs.Ytchfponnajednaa
