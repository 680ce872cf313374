/- AgendaNames. No condition. -/
import Derived.Test.YtchfponnajednaaALNamD
import Derived.WalkLawsBesides
namespace Go.Proofs.Ytchfponnajednaa
open Go.RowKit Go.Shelf

set_option maxRecDepth 100000 in
set_option maxHeartbeats 4000000 in
theorem namesLaw_any (w : World) :
    Calls Try.prog 4 #[] w (Says w true) := by
  have hx1 := (HoldQ.start w).lit (isSt1 _ _ _) #[.int .i64 (-1), .int .i64 0, .int .i64 0, .int .i64 0, .int .i64 0, .int .i64 4294967297, .int .i64 0, .int .i64 0, .int .i64 0, .int .i64 0, .int .i64 0, .int .i64 (-1), .int .i64 0, .int .i64 0, .int .i64 0, .int .i64 0, .int .i64 0, .int .i64 (-1), .int .i64 0, .int .i64 0, .int .i64 0, .int .i64 0, .int .i64 0, .int .i64 (-1), .int .i64 0] 5 badL rfl rfl (by omega)
  rw [show (newAg w).heap.size = w.heap.size + 1 by simp] at hx1
  have HX1 := Lib.hid hx1
  clear hx1
  go_enter Try.func4, Try.ntmps4
  go_wp2_with fail
  go_loopw [2, 33] (fun bv iv wr => ∃ k : Nat, k ≤ 5 ∧ iv = .int .i64 (k : Int) ∧ bv = .int .i64 (k : Int) ∧ HoldR (fun F V => AgF F w.heap.size 0 [] V) w (fun _ => True) (some ⟨w.heap.size + 1, 0, none⟩) 5 5 badL wr) (fun _ iv _ => 5 - (intOf iv).toNat)
  case atStart => exact ⟨0, Nat.zero_le _, rfl, rfl, HX1.out⟩
  case round =>
    clear HX1
    obtain ⟨k, hk, rfl, rfl, hx⟩ := hrel
    by_cases hlt : k < 5
    · obtain ⟨_, g, e, hc, _⟩ := hx.row.spot hlt
      simp only [Option.some.injEq, Addr.mk.injEq, and_true] at e
      subst e
      have hbad := bad_no k hlt
      obtain ⟨x, hxx⟩ : ∃ x, x = badL.getD k default := ⟨_, rfl⟩
      rw [← hxx] at hc hbad
      obtain ⟨a0, a1, a2, a3, a4⟩ := five_of hc
      have hx2 := hx.box (isSt1 _ _ _) 36 #[.int .i64 x.t, .int .i64 x.k, .int .i64 x.n, .int .i64 x.m, .int .i64 x.v]
      obtain ⟨d0, d1, d2, d3, d4⟩ := five_whole hx2.fact.2
      have hput := put_r (x := x) hx2 (by omega)
      have hpb : putB [] x = false := by unfold putB; rw [hbad]; rfl
      unfold putE putN putL at hput
      rw [hpb] at hput
      simp only [Bool.false_eq_true, if_false] at hput
      have HP := Lib.hid hput
      clear hx hx2 hc hxx hput hbad hpb
      go_wp2_with fail
      refine HP.out.mono ?_
      rintro e w3 ⟨rfl, hx3⟩
      have HX3 := Lib.hid hx3
      clear hx3 HP a0 a1 a2 a3 a4 d0 d1 d2 d3 d4
      go_wp2_with fail
      refine (len_r HX3.out).mono ?_
      rintro e w4 ⟨rfl, hb4⟩
      have HX4 := Lib.hid (HX3.out.later (isSt1 _ _ _) hb4).forget
      clear hb4 HX3
      go_wp2
      go_roundw
      case rel => exact ⟨k + 1, by omega, by go_num, by go_num, HX4.out⟩
      case measure => simp [intOf]; omega
    · obtain rfl : k = 5 := by omega
      have HT := Lib.hid (take_h hx.toQ.forget (by simp))
      clear hx
      go_wp2_with fail
      refine HT.out.mono ?_
      rintro e w3 ⟨rfl, hx3⟩
      rw [head_nil]
      unfold zeroEv
      have hx4 := (hx3.add (isSt1 _ _ _) ((Below.refl _ _).alloc (Nat.le_refl _) _) (Whole.new w3 36 #[.int .i64 0, .int .i64 0, .int .i64 0, .int .i64 0, .int .i64 0]) (only_whole ⟨Nat.le_refl _, by simp⟩)).forget
      have HX4 := Lib.hid hx4
      clear hx3 hx4 HT
      go_wp2_with fail
      refine (first_h HX4.out).mono ?_
      rintro e w5 ⟨rfl, hb5⟩
      rw [List.tail_nil, head_nil]
      unfold zeroEv
      have hx5 := HX4.out.later (isSt1 _ _ _) hb5
      have hx6 := (hx5.add (isSt1 _ _ _) ((Below.refl _ _).alloc (Nat.le_refl _) _) (Whole.new w5 36 #[.int .i64 0, .int .i64 0, .int .i64 0, .int .i64 0, .int .i64 0]) (only_whole ⟨Nat.le_refl _, by simp⟩)).forget
      obtain ⟨w6, hw6⟩ : ∃ w6, w6 = w5.alloc (.cells #[.int .i64 0, .int .i64 0, .int .i64 0, .int .i64 0, .int .i64 0] 36) := ⟨_, rfl⟩
      have hx7 := hx6.lit (isSt1 _ _ _) #[.int .i64 4294967296, .int .i64 0, .int .i64 0, .int .i64 0, .int .i64 9, .int .i64 2, .int .i64 1, .int .i64 0, .int .i64 0, .int .i64 8, .int .i64 2, .int .i64 0, .int .i64 1, .int .i64 0, .int .i64 6, .int .i64 2, .int .i64 0, .int .i64 0, .int .i64 1, .int .i64 5, .int .i64 2, .int .i64 0, .int .i64 0, .int .i64 0, .int .i64 3, .int .i64 2, .int .i64 0, .int .i64 0, .int .i64 0, .int .i64 4, .int .i64 2, .int .i64 0, .int .i64 1, .int .i64 3, .int .i64 7, .int .i64 0, .int .i64 0, .int .i64 0, .int .i64 0, .int .i64 2] 8 goodL rfl rfl (by omega)
      rw [show (w5.alloc (.cells #[.int .i64 0, .int .i64 0, .int .i64 0, .int .i64 0, .int .i64 0] 36)).heap.size = w5.heap.size + 1 by simp] at hx7
      have HX7 := Lib.hid hx7
      clear hx5 hx6 hx7 HX4 hb5
      clear hw6
      go_wp2_with fail
      generalize w5.heap.size + 1 = gb at *
      go_loopw [65] (fun iv wr => ∃ k : Nat, k ≤ 8 ∧ iv = .int .i64 (k : Int) ∧ HoldR (fun F V => AgF F w.heap.size (fillN (goodL.take k)) (fillL (goodL.take k)) V) w (fun _ => True) (some ⟨gb, 0, none⟩) 8 8 goodL wr) (fun iv _ => 8 - (intOf iv).toNat)
      case atStart => exact ⟨0, Nat.zero_le _, rfl, HX7.out⟩
      case round =>
        clear HX7
        obtain ⟨k, hk, rfl, hx⟩ := hrel
        by_cases hlt : k < 8
        · obtain ⟨_, g, e, hc, _⟩ := hx.row.spot hlt
          simp only [Option.some.injEq, Addr.mk.injEq, and_true] at e
          subst e
          have hgood := good_yes k hlt
          have hft := fill_take (show k < goodL.length from hlt)
          have hfs := fill_small _ (goodL.take k) rfl
          rw [List.length_take] at hfs
          obtain ⟨x, hxx⟩ : ∃ x, x = goodL.getD k default := ⟨_, rfl⟩
          rw [← hxx] at hc hgood hft
          obtain ⟨a0, a1, a2, a3, a4⟩ := five_of hc
          have hx2 := hx.box (isSt1 _ _ _) 36 #[.int .i64 x.t, .int .i64 x.k, .int .i64 x.n, .int .i64 x.m, .int .i64 x.v]
          obtain ⟨d0, d1, d2, d3, d4⟩ := five_whole hx2.fact.2
          have hput := put_r (x := x) hx2 (by omega)
          have hpe : putE (fillL (goodL.take k)) x = 0 := by
            unfold putE putB
            rw [hgood, Bool.true_and, decide_eq_true (by omega)]
            rfl
          rw [← hft.1, ← hft.2, hpe] at hput
          have HP := Lib.hid hput
          clear hx hx2 hc hxx hput hgood hft hfs hpe
          go_wp2_with fail
          refine HP.out.mono ?_
          rintro e w3 ⟨rfl, hx3⟩
          have HX3 := Lib.hid hx3.forget
          clear hx3 HP a0 a1 a2 a3 a4 d0 d1 d2 d3 d4
          go_wp2
          go_roundw
          case rel => exact ⟨k + 1, by omega, by go_num, HX3.out⟩
          case measure => simp [intOf]; omega
        · obtain rfl : k = 8 := by omega
          rw [show goodL.take 8 = goodL from rfl, fill_good, fill_goodN] at hx
          have HA := Lib.hid (all_h hx.toQ.forget (by decide))
          clear hx
          go_wp2_with fail
          refine HA.out.mono ?_
          rintro e w7 ⟨C, cc, rfl, hx8⟩
          rw [show fullL.length = 8 from rfl] at hx8 ⊢
          obtain ⟨Q, hQ, hx9⟩ : ∃ Q : World → Prop, (∀ V, Q V → RowV V C 8 cc (fullL.map En.e)) ∧ HoldQ (fun F V => AgF F w.heap.size 8 fullL V) w Q w7 := ⟨_, fun V h => h.2, hx8.toQ⟩
          have HQ := Lib.hid hQ
          have HX8 := Lib.hid hx9
          clear hx8 HA hQ hx9
          go_wp2_with fail
          go_loopw [11, 75] (fun ov iv wr => ∃ k : Nat, k ≤ 8 ∧ iv = .int .i64 (k : Int) ∧ ov = .bool true ∧ HoldQ (fun F V => AgF F w.heap.size 8 fullL V) w Q wr) (fun _ iv _ => 8 - (intOf iv).toNat)
          case atStart => exact ⟨0, Nat.zero_le _, rfl, rfl, HX8.out⟩
          case round =>
            clear HX8
            obtain ⟨k, hk, rfl, rfl, hx⟩ := hrel
            by_cases hlt : k < 8
            · obtain ⟨_, g, rfl, hc, _⟩ := (HQ.out _ hx.fact).spot hlt
              have hv := full_v k hlt
              obtain ⟨x, hxx⟩ : ∃ x, x = (fullL.map En.e).getD k default := ⟨_, rfl⟩
              rw [← hxx] at hc hv
              have hv1 : decide (x.v = (k : Int) + 2) = true := decide_eq_true hv
              have hv2 : (x.v == (k : Int) + 2) = true := by simp [hv]
              obtain ⟨a0, a1, a2, a3, a4⟩ := five_of hc
              obtain ⟨d0, d1, d2, d3, d4⟩ := five_whole (Whole.new wr 36 #[.int .i64 x.t, .int .i64 x.k, .int .i64 x.n, .int .i64 x.m, .int .i64 x.v])
              have HX9 := Lib.hid (hx.later (isSt1 _ _ _) ((Below.refl _ _).alloc (Nat.le_refl _) (.cells #[.int .i64 x.t, .int .i64 x.k, .int .i64 x.n, .int .i64 x.m, .int .i64 x.v] 36)))
              clear hx hc hxx hv
              go_wp2
              go_roundw
              case rel => exact ⟨k + 1, by omega, by go_num, rfl, HX9.out⟩
              case measure => simp [intOf]; omega
            · obtain rfl : k = 8 := by omega
              have HC := Lib.hid (copy_h hx.forget (by decide))
              clear hx
              go_wp2_with fail
              refine HC.out.mono ?_
              rintro e w8 ⟨b, rfl, hx10⟩
              have HD := Lib.hid (drop_h2 (kind := 0) (node := 1) hx10.swap2 (by decide))
              clear hx10 HC
              go_wp2_with fail
              refine HD.out.mono ?_
              rintro e w9 ⟨rfl, hx11⟩
              rw [drop_one] at hx11 ⊢
              rw [show fullL.length = 8 from rfl, show lessL.length = 6 from rfl]
              have HD2 := Lib.hid (drop_h2 (kind := 7) (node := 7) hx11 (by decide))
              clear hx11 HD
              go_wp2_with fail
              refine HD2.out.mono ?_
              rintro e w10 ⟨rfl, hx12⟩
              rw [drop_two] at hx12 ⊢
              rw [show lessL.length = 6 from rfl]
              have HU := Lib.hid (until_h2 (t := 2) hx12 (by decide))
              clear hx12 HD2
              go_wp2_with fail
              refine HU.out.mono ?_
              rintro e w11 ⟨B, m, d, rfl, hup, hx13⟩
              obtain rfl := upTo_eq upto_two hup
              rw [drop_five] at hx13
              have HX13 := Lib.hid hx13.toQ.forget
              clear hx13 hup HU
              go_wp2_with fail
              refine (len_h HX13.out.swap2.fst2).mono ?_
              rintro e w12 ⟨rfl, hb12⟩
              rw [show fullL.length = 8 from rfl]
              have HX14 := Lib.hid (HX13.out.later (isSt2 _ _ _ _ _ _) hb12)
              clear hb12 HX13
              go_wp2_with fail
              refine (len_h HX14.out.fst2).mono ?_
              rintro e w13 ⟨rfl, hb13⟩
              rw [show lastL.length = 1 from rfl]
              have HU2 := Lib.hid (until_h2 (t := 2) (HX14.out.later (isSt2 _ _ _ _ _ _) hb13) (by decide))
              clear hb13 HX14
              go_wp2_with fail
              refine HU2.out.mono ?_
              rintro e w14 ⟨B2, m2, d2, rfl, hup2, hx15⟩
              obtain rfl := upTo_eq upto_none hup2
              have HB := Lib.hid hx15.below
              have HX16 := Lib.hid (HoldQ.start w14)
              clear hup2 hx15 HU2
              go_wp2_with fail
              go_loopw [20] (fun iv wr => ∃ (k : Nat) (L : List En), k ≤ 65536 ∧ iv = .int .i64 (k : Int) ∧ L.length = k ∧ HoldQ (fun F V => AgF F w14.heap.size k L V) w14 (fun _ => True) wr) (fun iv _ => 65536 - (intOf iv).toNat)
              case atStart => exact ⟨0, [], Nat.zero_le _, rfl, rfl, HX16.out⟩
              case round =>
                clear HX16
                obtain ⟨k, L, hk, rfl, hl, hx⟩ := hrel
                by_cases hlt : k < 65536
                · have e1 : decide ((k : Int) < 65536) = true := by simp only [decide_eq_true_eq]; omega
                  have hput := put_h (x := ⟨(k : Int), 0, 0, 0, 0⟩) hx (by omega)
                  have hpb := put_k hlt hl
                  unfold putE putN putL at hput
                  rw [hpb] at hput
                  simp only [if_true] at hput
                  have HP := Lib.hid hput
                  have HLT := Lib.hid (And.intro hlt hl)
                  have hk9 : (k : Int) ≤ 65536 := by omega
                  clear hk hlt hl hx hput hpb
                  go_wp2_with fail
                  refine HP.out.mono ?_
                  rintro e w15 ⟨rfl, hx17⟩
                  have HX17 := Lib.hid hx17
                  clear hx17 HP
                  go_wp2
                  go_roundw
                  case rel => exact ⟨k + 1, _, by have := HLT.out.1; omega, by go_num, by have h1 := (insE_perm ⟨⟨(k : Int), 0, 0, 0, 0⟩, k⟩ L).length_eq; simp only [List.length_cons] at h1; rw [h1, HLT.out.2], HX17.out⟩
                  case measure => have := HLT.out.1; simp [intOf]; omega
                · obtain rfl : k = 65536 := by omega
                  have e1 : decide (((65536 : Nat) : Int) < 65536) = false := by decide
                  have hput := put_h (x := zeroEv) hx (by omega)
                  have hpb : putB L zeroEv = false := by
                    unfold putB
                    rw [decide_eq_false (show ¬ L.length < 65536 by omega), Bool.and_false]
                  unfold putE putN putL at hput
                  rw [hpb] at hput
                  simp only [Bool.false_eq_true, if_false] at hput
                  have HP := Lib.hid hput
                  have HL := Lib.hid hl
                  clear hk hlt hl hx hput hpb
                  unfold evV zeroEv at HP
                  go_wp2_with fail
                  refine HP.out.mono ?_
                  rintro e w15 ⟨rfl, hx17⟩
                  have HT := Lib.hid (take_h hx17 (by rw [HL.out]; decide))
                  clear hx17 HP
                  cases L with
                  | nil => exact absurd HL.out (by simp)
                  | cons y R =>
                    have HRL := Lib.hid (show R.length = 65535 by have := HL.out; simp only [List.length_cons] at this; omega)
                    rw [head_cons] at HT
                    clear HL
                    go_wp2_with fail
                    refine HT.out.mono ?_
                    rintro e w16 ⟨rfl, hx18⟩
                    rw [List.tail_cons] at hx18
                    have hput := put_h (x := zeroEv) hx18 (by omega)
                    have hpb := put_z (L := R) (by rw [HRL.out]; decide)
                    unfold putE putN putL at hput
                    rw [hpb] at hput
                    simp only [if_true] at hput
                    unfold evV zeroEv at hput
                    have HP := Lib.hid hput
                    clear hput hpb hx18 HT
                    go_wp2_with fail
                    refine HP.out.mono ?_
                    rintro e w17 ⟨rfl, hx19⟩
                    have HB2 := Lib.hid (k_then hx19.below HB.out)
                    clear hx19 HP HB HRL
                    go_wp2_with fail
                    refine (agTakeNil_any _).mono ?_
                    rintro e w18 ⟨rfl, hb18⟩
                    rw [head_nil]
                    unfold zeroEv
                    have HB3 := Lib.hid (k_then ((Below.refl _ _).alloc (Nat.le_refl _) (.cells #[.int .i64 0, .int .i64 0, .int .i64 0, .int .i64 0, .int .i64 0] 36)) (k_then hb18 HB2.out))
                    clear hb18 HB2
                    go_wp2_with fail
                    refine (alive_any _).mono ?_
                    rintro e w19 ⟨rfl, hb19⟩
                    have HB4 := Lib.hid (k_then hb19 HB3.out)
                    clear hb19 HB3
                    go_wp2_with fail
                    refine (agPutNil_any _ ⟨0, 0, 0, 0, 0⟩).mono ?_
                    rintro e w20 ⟨rfl, hb20⟩
                    have HB5 := Lib.hid (k_then hb20 HB4.out)
                    clear hb20 HB4
                    go_wp2_with fail
                    refine (agDropNil_any _ _ _).mono ?_
                    rintro e w21 ⟨rfl, hb21⟩
                    have HB6 := Lib.hid (k_then hb21 HB5.out)
                    clear hb21 HB5
                    go_wp2_with fail
                    refine (agLenNil_any _).mono ?_
                    rintro e w22 ⟨rfl, hb22⟩
                    have HB7 := Lib.hid (k_then hb22 HB6.out)
                    clear hb22 HB6
                    go_wp2_with fail
                    refine (agAllNil_any _).mono ?_
                    rintro e w23 ⟨A3, c3, rfl, hb23⟩
                    have HB8 := Lib.hid (k_then hb23 HB7.out)
                    clear hb23 HB7
                    go_wp2_with fail
                    refine (agUntilNil_any _ _).mono ?_
                    rintro e w24 ⟨A4, c4, rfl, hb24⟩
                    have HB9 := Lib.hid (k_then hb24 HB8.out)
                    clear hb24 HB8
                    go_wp2_with fail
                    refine (agCopyNil_any _).mono ?_
                    rintro e w25 ⟨rfl, rfl⟩
                    go_wp2
                    go_ret
                    exact ⟨rfl, HB9.out⟩
end Go.Proofs.Ytchfponnajednaa
