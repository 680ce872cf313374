/- CaptureValues, its walk. No condition. -/
import Derived.Test.YtjgbgakdnapdhaaEValM
namespace Go.Proofs.Ytjgbgakdnapdhaa
open Go.RowKit Go.Shelf

set_option maxRecDepth 100000 in
set_option maxHeartbeats 8000000 in
theorem captureValues_walk (s : Sl) (os : List Oe) (m : Nat) (hm : m < 256) (w : World) (ho : RSrc oeC 4 w s os) : Calls Try.prog 7 #[s.v, .int .u8 (m : Int)] w fun e w' => e = .returned (.bool true) ∧ Below w.heap.size w w' := by
  have HA := Lib.hid (fun W => alive_any W)
  have hl := ho.len
  have hmx := Nat.le_trans ho.cap ho.max
  have HO := Lib.hid ho
  obtain ⟨A, N, c⟩ := s
  unfold Sl.v
  dsimp only at *
  clear ho
  by_cases hN : N ≤ 40
  · obtain ⟨n, hn⟩ : ∃ n, n = m % 16 := ⟨_, rfl⟩
    have hn16 : n < 16 := by omega
    have c1 : IntKind.i64.wrap (m : Int) = (m : Int) := IntWalk.i64_in _ (by omega)
    have c2 : (m : Int).tmod 16 = (n : Int) := by rw [Int.tmod_eq_emod_of_nonneg (by omega)]; omega
    have H0 := Lib.hid (fun W (hW : Below w.heap.size w W) => law_new hW)
    have HNN := Lib.hid hn
    clear hn
    go_enter Try.func7, Try.ntmps7
    go_wp2_with (go_at_call 23; refine (HA.out _).mono ?_; rintro e w1 ⟨rfl, hb1⟩; have HB1 := Lib.hid hb1; clear hb1)
    rw [capC_lit] at H0
    have HL1 := Lib.hid (H0.out w1 HB1.out)
    generalize (w1.alloc _ : World) = w2 at *
    obtain ⟨a0, ha0⟩ : ∃ a0, a0 = w1.heap.size := ⟨_, rfl⟩
    rw [← ha0] at HL1 ⊢
    clear ha0 H0 HA
    go_loopw [7, 8, 29] (fun lv gv iv wr => ∃ (k : Nat) (f : Ca) (lo hi : Int), k ≤ N ∧ iv = .int .i64 (k : Int) ∧ lv = .int .i64 lo ∧ gv = .int .i64 hi ∧ Betw f lo hi ∧ LawC w a0 f wr) (fun _ _ iv _ => N - (intOf iv).toNat)
    case atStart => exact ⟨0, noCa, 0, 0, Nat.zero_le _, rfl, rfl, rfl, betw_no, HL1.out⟩
    case round =>
      obtain ⟨k, f, lo, hi, hk, rfl, rfl, rfl, hbt, hW⟩ := hrel
      have HW := Lib.hid hW
      have HBT := Lib.hid hbt
      have a1 := hbt.l2
      have a2 := hbt.h2
      have a3 := hbt.low
      have a4 := hbt.high
      by_cases hlt : k < N
      · as_aux_lemma =>
        obtain ⟨g, o, hA0, hA2⟩ := (HO.out.later hW.below).get (i := k) hlt
        dsimp only at hA0
        subst hA0
        obtain ⟨⟨ok, on, oc, ov⟩, hx⟩ : ∃ o, o = os.getD k default := ⟨_, rfl⟩
        rw [← hx] at hA2
        obtain ⟨q0, q1, q2, q3⟩ := oeC_cells hA2
        clear hx
        have e1 : (0 : Int) ≤ (k : Int) := by omega
        have e2 : (k : Int) < (N : Int) := by omega
        obtain ⟨w3, hw3⟩ : ∃ w3, w3 = wr.alloc (.cells #[.int .i64 ok, .int .i64 on, .int .i64 oc, .int .i64 ov] 40) := ⟨_, rfl⟩
        have hb3 : Below wr.heap.size wr w3 := by rw [hw3]; exact (Below.refl _ _).alloc (Nat.le_refl _) _
        have h3w : Whole w3 wr.heap.size 40 #[.int .i64 ok, .int .i64 on, .int .i64 oc, .int .i64 ov] := by rw [hw3]; exact Whole.new _ _ _
        have HN := Lib.hid (law_note (HW.out.later hb3) on oc ov)
        have HX3 := Lib.hid h3w
        have hal : wr.heap.size ≠ a0 := by have := HW.out.cap.lt; omega
        rw [hw3] at HN HX3
        clear hA2 hW hbt hw3 hb3 h3w
        have HP := Lib.hid (note_parts f on oc ov)
        rcases HP.out with ⟨p1, p2, _⟩ | ⟨i, j, t1, t2, t3, t4, hv, t5, p1, p2⟩
        · rw [p1, p2] at HN
          clear p1 p2 HP
          go_wp2_with (go_at_call 19; refine HN.out.mono ?_; rintro e w4 ⟨rfl, h4, _⟩; have H4 := Lib.hid h4; clear h4)
          go_roundw
          case rel => exact ⟨k + 1, f, lo, hi, by omega, by go_num, rfl, rfl, HBT.out, H4.out⟩
          case measure => simp [intOf]; omega
        · rw [p1, p2] at HN
          have HPT := Lib.hid (fun lo' hi' h1 h2 => betw_put (lo' := lo') (hi' := hi') HBT.out i j hv h1 h2)
          have hv1 := hv.1
          have hv2 := hv.2
          clear p1 p2 HP t1 t2 t3 t4 t5 hv
          go_upto_region 10 with (go_at_call 19; refine HN.out.mono ?_; rintro e w4 ⟨rfl, h4, h4k⟩; have H4 := Lib.hid h4; have r3 := (HX3.out.kept h4k.2 hal).cell 3; simp at r3; clear h4 h4k)
          clear q0 q1 q2 q3 HN HX3
          have HWAY := Lib.hid (show ov < lo ∨ hi < ov ∨ (lo ≤ ov ∧ ov ≤ hi) from by omega)
          rcases HWAY.out with hwy | hwy | ⟨hwy, hwz⟩
          · have HW2 := Lib.hid (HPT.out ov hi (by omega) (by omega))
            clear HWAY HPT
            go_quiet (fail)
            go_wp2
            go_roundw
            case rel => exact ⟨k + 1, _, ov, hi, by omega, by go_num, rfl, rfl, HW2.out, H4.out.later (below_drewN (Below.refl _ _) _)⟩
            case measure => simp [intOf]; omega
          · have HW2 := Lib.hid (HPT.out lo ov (by omega) (by omega))
            clear HWAY HPT
            go_quiet (fail)
            go_wp2
            go_roundw
            case rel => exact ⟨k + 1, _, lo, ov, by omega, by go_num, rfl, rfl, HW2.out, H4.out.later (below_drewN (Below.refl _ _) _)⟩
            case measure => simp [intOf]; omega
          · have HW2 := Lib.hid (HPT.out lo hi (by omega) (by omega))
            clear HWAY HPT
            go_quiet (fail)
            go_wp2
            go_roundw
            case rel => exact ⟨k + 1, _, lo, hi, by omega, by go_num, rfl, rfl, HW2.out, H4.out.later (below_drewN (Below.refl _ _) _)⟩
            case measure => simp [intOf]; omega
      · clear hW hbt a1 a2 a3 a4
        have HCO := Lib.hid (fun W (h : LawC w a0 f W) => law_count h)
        have HOF := Lib.hid (fun W (h : LawC w a0 f W) => law_of h (n : Int))
        have HVA := Lib.hid (fun W (h : LawC w a0 f W) => law_values h (n : Int))
        have HVB := Lib.hid (fun W (h : LawC w a0 f W) => law_values h 99)
        have hvl := val_len f hn16
        rw [val_len99 f] at HVB
        have hof : ofC f (n : Int) = devF f n := by unfold ofC; rw [nodeB_iff.2 ⟨n, hn16, rfl⟩, if_pos rfl, Int.toNat_natCast]
        rw [hof] at HOF
        have hll : (listC f).length ≤ 16 := listTo_len f 16
        have HBX := Lib.hid (fun x hx => val_betw HBT.out (n : Int) (x := x) hx)
        unfold ofV at HOF
        have HWN := Lib.hid (show (devF f n).isSome = true ∧ (valC f (n : Int)).length = (listC f).length ∨ (devF f n).isSome = false ∧ (valC f (n : Int)).length = (listC f).length + 1 from by
          rw [hvl]
          cases devF f n <;> simp)
        clear hvl hof
        generalize listC f = L at *
        generalize valC f (n : Int) = V at *
        generalize valC f 99 = V9 at *
        generalize (devF f n).isSome = di at *
        generalize (devF f n).getD 0 = dv at *
        obtain ⟨ln, hln⟩ : ∃ ln, ln = V.length := ⟨_, rfl⟩
        obtain ⟨z, hz⟩ : ∃ z, z = L.length := ⟨_, rfl⟩
        rw [← hz] at HCO HVB HWN hll
        rw [← hln] at HWN HVA
        have HLN := Lib.hid hln
        clear hln hz
        rcases HWN.out with ⟨rfl, e0⟩ | ⟨rfl, e0⟩
        · subst e0
          clear HWN
          go_upto_region 19 with (first
            | (go_at_call 14; refine (HCO.out _ HW.out).mono ?_; rintro e w3 ⟨rfl, h3, _⟩; have H3 := Lib.hid h3; clear h3)
            | (go_at_call 10; refine (HOF.out _ H3.out).mono ?_; rintro e w4 ⟨rfl, h4, _⟩; have H4 := Lib.hid h4; clear h4)
            | (go_at_call 13; refine (HVA.out _ H4.out).mono ?_; rintro e w5 ⟨A1, d1, rfl, hr, _, h5, _⟩; have H5 := Lib.hid h5; have HR := Lib.hid hr; clear hr h5 HVA))
          clear HW H3 H4
          go_loopw [67] (fun iv wr => ∃ (k : Nat), k ≤ ln ∧ iv = .int .i64 (k : Int) ∧ LawC w a0 f wr ∧ Below w5.heap.size w5 wr) (fun iv _ => ln - (intOf iv).toNat)
          case atStart => exact ⟨0, Nat.zero_le _, rfl, H5.out, Below.refl _ _⟩
          case round =>
            obtain ⟨k2, hk2, rfl, h6, h6b⟩ := hrel
            have H6 := Lib.hid h6
            have H6B := Lib.hid h6b
            by_cases hlt2 : k2 < ln
            · obtain ⟨g2, o2, hB0, hB2⟩ := (HR.out.later h6b).get (i := k2) hlt2
              dsimp only at hB0
              subst hB0
              obtain ⟨x, hx⟩ : ∃ x, x = V.getD k2 default := ⟨_, rfl⟩
              rw [← hx] at hB2
              have b0 := inC_cells hB2
              rw [Nat.mul_one] at b0
              have hxb := HBX.out x (by rw [hx, List.getD_eq_getElem?_getD, List.getElem?_eq_getElem (by have := HLN.out; omega)]; exact List.getElem_mem _)
              obtain ⟨x1, x2⟩ := hxb
              have e1 : (0 : Int) ≤ (k2 : Int) := by omega
              have e2 : (k2 : Int) < ((ln : Int) : Int) := by omega
              clear hx hB2 h6 h6b
              go_wp2
              go_roundw
              case rel => exact ⟨k2 + 1, by omega, by go_num, H6.out, H6B.out⟩
              case measure => simp [intOf]; omega
            · clear h6 h6b
              have q1 : (((ln : Int) : Int) == ((ln : Int) : Int)) = true := by simp
              obtain rfl : k2 = ln := by omega
              go_wp2_with (first
                | (go_at_call 13; refine (HVB.out _ H6.out).mono ?_; rintro e w7 ⟨A2, d2, rfl, _, _, h7, _⟩; have H7 := Lib.hid h7; clear h7 HVB)
                | (go_at_call 14; refine (HCO.out _ H7.out).mono ?_; rintro e w8 ⟨rfl, h8, _⟩; have H8 := Lib.hid h8; clear h8))
              go_ret
              exact ⟨rfl, H8.out.below⟩
        · subst e0
          clear HWN
          go_upto_region 19 with (first
            | (go_at_call 14; refine (HCO.out _ HW.out).mono ?_; rintro e w3 ⟨rfl, h3, _⟩; have H3 := Lib.hid h3; clear h3)
            | (go_at_call 10; refine (HOF.out _ H3.out).mono ?_; rintro e w4 ⟨rfl, h4, _⟩; have H4 := Lib.hid h4; clear h4)
            | (go_at_call 13; refine (HVA.out _ H4.out).mono ?_; rintro e w5 ⟨A1, d1, rfl, hr, _, h5, _⟩; have H5 := Lib.hid h5; have HR := Lib.hid hr; clear hr h5 HVA))
          clear HW H3 H4
          go_loopw [67] (fun iv wr => ∃ (k : Nat), k ≤ (z + 1) ∧ iv = .int .i64 (k : Int) ∧ LawC w a0 f wr ∧ Below w5.heap.size w5 wr) (fun iv _ => (z + 1) - (intOf iv).toNat)
          case atStart => exact ⟨0, Nat.zero_le _, rfl, H5.out, Below.refl _ _⟩
          case round =>
            obtain ⟨k2, hk2, rfl, h6, h6b⟩ := hrel
            have H6 := Lib.hid h6
            have H6B := Lib.hid h6b
            by_cases hlt2 : k2 < (z + 1)
            · obtain ⟨g2, o2, hB0, hB2⟩ := (HR.out.later h6b).get (i := k2) hlt2
              dsimp only at hB0
              subst hB0
              obtain ⟨x, hx⟩ : ∃ x, x = V.getD k2 default := ⟨_, rfl⟩
              rw [← hx] at hB2
              have b0 := inC_cells hB2
              rw [Nat.mul_one] at b0
              have hxb := HBX.out x (by rw [hx, List.getD_eq_getElem?_getD, List.getElem?_eq_getElem (by have := HLN.out; omega)]; exact List.getElem_mem _)
              obtain ⟨x1, x2⟩ := hxb
              have e1 : (0 : Int) ≤ (k2 : Int) := by omega
              have e2 : (k2 : Int) < (((z + 1 : Nat) : Int) : Int) := by omega
              clear hx hB2 h6 h6b
              go_wp2
              go_roundw
              case rel => exact ⟨k2 + 1, by omega, by go_num, H6.out, H6B.out⟩
              case measure => simp [intOf]; omega
            · clear h6 h6b
              obtain rfl : k2 = (z + 1) := by omega
              have q1 : ((((z + 1 : Nat) : Int) : Int) == ((z : Int) + 1 : Int)) = true := by simp
              go_wp2_with (first
                | (go_at_call 13; refine (HVB.out _ H6.out).mono ?_; rintro e w7 ⟨A2, d2, rfl, _, _, h7, _⟩; have H7 := Lib.hid h7; clear h7 HVB)
                | (go_at_call 14; refine (HCO.out _ H7.out).mono ?_; rintro e w8 ⟨rfl, h8, _⟩; have H8 := Lib.hid h8; clear h8))
              go_ret
              exact ⟨rfl, H8.out.below⟩
  · have hN2 : ¬ ((N : Int) ≤ 40) := by omega
    go_enter Try.func7, Try.ntmps7
    go_wp2_with (go_at_call 23; refine (HA.out _).mono ?_; rintro e w1 ⟨rfl, hb1⟩; have HB1 := Lib.hid hb1; clear hb1)
    go_ret
    exact ⟨rfl, HB1.out⟩
end Go.Proofs.Ytjgbgakdnapdhaa
