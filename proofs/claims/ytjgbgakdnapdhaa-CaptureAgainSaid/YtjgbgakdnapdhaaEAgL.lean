/- CaptureAgain, its walk. No condition. -/
import Derived.Test.YtjgbgakdnapdhaaEAgW
import Derived.Test.YtjgbgakdnapdhaaEOpen
import Derived.IntWalk
namespace Go.Proofs.Ytjgbgakdnapdhaa
open Go.RowKit Go.Shelf

set_option maxRecDepth 100000 in
set_option maxHeartbeats 8000000 in
theorem captureAgain_walk (s : Sl) (os : List Oe) (w : World) (ho : RSrc oeC 4 w s os) : Calls Try.prog 8 #[s.v] w fun e w' => e = .returned (.bool true) ∧ Below w.heap.size w w' := by
  have HA := Lib.hid (fun W => alive_any W)
  have hl := ho.len
  have hmx := Nat.le_trans ho.cap ho.max
  have HO := Lib.hid ho
  obtain ⟨A, N, c⟩ := s
  unfold Sl.v
  dsimp only at *
  clear ho
  by_cases hN : N ≤ 40
  · have H0 := Lib.hid (fun W (hW : Below w.heap.size w W) => law_new hW)
    go_enter Try.func8, Try.ntmps8
    go_wp2_with (go_at_call 23; refine (HA.out _).mono ?_; rintro e w1 ⟨rfl, hb1⟩; have HB1 := Lib.hid hb1; clear hb1)
    rw [capC_lit] at H0
    have HL1 := Lib.hid (H0.out w1 HB1.out)
    generalize (w1.alloc _ : World) = w2 at *
    obtain ⟨a0, ha0⟩ : ∃ a0, a0 = w1.heap.size := ⟨_, rfl⟩
    rw [← ha0] at HL1 ⊢
    clear ha0 H0 HA
    obtain ⟨i0, hi, hz0, hz1, hz2⟩ := info_parts i_oe
    have HI0 := Lib.hid (And.intro hi (And.intro hz0 (And.intro hz1 hz2)))
    clear hi hz0 hz1 hz2
    go_loopw [5, 25] (fun rv iv wr => ∃ (k : Nat) (D : List Oe), (k ≤ N ∧ D.length ≤ k ∧ GoodD D) ∧ iv = .int .i64 (k : Int) ∧ DnW w a0 D rv wr) (fun _ iv _ => N - (intOf iv).toNat)
    case atStart => exact ⟨0, [], ⟨Nat.zero_le _, Nat.zero_le _, good_nil⟩, rfl, dn_start HL1.out⟩
    case round =>
      obtain ⟨k, D, ⟨hk, hdk, hgd⟩, rfl, hW⟩ := hrel
      have HW := Lib.hid hW
      have HG := Lib.hid hgd
      by_cases hlt : k < N
      · as_aux_lemma =>
        obtain ⟨g, o, hA0, hA2⟩ := (HO.out.later hW.lc.below).get (i := k) hlt
        dsimp only at hA0
        subst hA0
        obtain ⟨⟨ok, on, oc, ov⟩, hx⟩ : ∃ o, o = os.getD k default := ⟨_, rfl⟩
        rw [← hx] at hA2
        obtain ⟨q0, q1, q2, q3⟩ := oeC_cells hA2
        clear hx
        have e1 : (0 : Int) ≤ (k : Int) := by omega
        have e2 : (k : Int) < (N : Int) := by omega
        obtain ⟨w3, hw3⟩ : ∃ w3, w3 = wr.alloc (.cells #[.int .i64 ok, .int .i64 on, .int .i64 oc, .int .i64 ov] 40) := ⟨_, rfl⟩
        have hb3 : Below wr.heap.size wr w3 := by rw [hw3]; exact (Below.refl _ _).alloc (Nat.le_refl _) _
        have h3w : Whole w3 wr.heap.size 40 #[.int .i64 ok, .int .i64 on, .int .i64 oc, .int .i64 ov] := by rw [hw3]; exact Whole.new _ _ _
        have HW3 := Lib.hid (HW.out.later hb3)
        have HN := Lib.hid (law_note HW3.out.lc on oc ov)
        have HX3 := Lib.hid h3w
        have hal : wr.heap.size ≠ a0 := by have := HW.out.lc.cap.lt; omega
        rw [hw3] at HN HX3 HW3
        clear hA2 hW hgd hw3 hb3 h3w
        cases hok : okB (look D) on oc ov
        · rw [(note_no hok).1, (note_no hok).2] at HN
          clear hok
          go_wp2_with (go_at_call 19; refine HN.out.mono ?_; rintro e w4 ⟨rfl, h4, h4k⟩; have H4 := Lib.hid (show DnW w a0 D _ w4 from ⟨h4, HW3.out.note h4k⟩); clear h4 h4k)
          go_roundw
          case rel => exact ⟨k + 1, D, ⟨by omega, by omega, HG.out⟩, by go_num, H4.out⟩
          case measure => simp [intOf]; omega
        · obtain ⟨hg2, hf2⟩ := good_snoc (o := ⟨ok, on, oc, ov⟩) HG.out hok
          dsimp only at hf2
          rw [(note_ok hok).1, hf2] at HN
          have HG2 := Lib.hid hg2
          clear hok hg2 hf2
          obtain ⟨hi, hz0, hz1, hz2⟩ := HI0.out
          go_wp2_with (first
            | (go_at_call 19; refine HN.out.mono ?_; rintro e w4 ⟨rfl, h4, h4k⟩; have H4 := Lib.hid h4; have HR4 := Lib.hid (HW3.out.note h4k); have r0 := (HX3.out.kept h4k.2 hal).cell 0; have r1 := (HX3.out.kept h4k.2 hal).cell 1; have r2 := (HX3.out.kept h4k.2 hal).cell 2; have r3 := (HX3.out.kept h4k.2 hal).cell 3; simp at r0 r1 r2 r3; clear h4 h4k)
            | (at_builtin; refine wpList_append_own_at _ rfl (.tmp 37) (.tmp 39) 22 rfl w.heap.size 40 i0 (.agg #[.int .i64 0, .int .i64 0, .int .i64 0, .int .i64 0]) 4 32 Try.underlying22 hi hz0 hz1 hz2 rfl (by omega) u5 D.length (D.flatMap oeC) rfl (HR4.out.alloc _) ⟨w4.heap.size, 0, none⟩ 1 1 [.int .i64 ok, .int .i64 on, .int .i64 oc, .int .i64 ov] rfl rfl (fun j u hu => World.news_of_block (Whole.new w4 _ _) j u hu) (fun u hu => oeC_one ⟨ok, on, oc, ov⟩ u hu) (by simp only [maxLen]; omega) (by omega) (by have := H4.out.below.size; simp; omega) ?_; intro v8 w8 y1 y2 y3 y4; have H8 := Lib.hid (dn_add H4.out HR4.out y1 y2); clear y1 y2 y3 y4))
          go_roundw
          case rel => exact ⟨k + 1, D ++ [⟨ok, on, oc, ov⟩], ⟨by omega, by simp; omega, HG2.out⟩, by go_num, H8.out⟩
          case measure => simp [intOf]; omega
      · have hst := hW.lc
        obtain ⟨Ad, cd, hv, hsD, hfD⟩ := hW.slice
        subst hv
        have HLI := Lib.hid (fun W (h : LawC w a0 (look D) W) => law_list h)
        have HCP := Lib.hid (fun W (h : LawC w a0 (look D) W) => law_copy h)
        obtain ⟨L, hL⟩ : ∃ L, L = listC (look D) := ⟨_, rfl⟩
        rw [← hL] at HLI
        obtain ⟨z, hz⟩ : ∃ z, z = L.length := ⟨_, rfl⟩
        obtain ⟨M, hM⟩ : ∃ M, M = D.length := ⟨_, rfl⟩
        rw [← hz] at HLI
        rw [← hM] at hsD ⊢
        have HS := Lib.hid (And.intro hst (And.intro hsD hfD))
        have HL := Lib.hid (And.intro hL (And.intro hz hM))
        have hMN : M ≤ 40 := by omega
        have hzN : z ≤ 16 := by rw [hz, hL]; exact listTo_len _ 16
        clear hW HW hst hsD hfD hL hz hM hgd
        go_upto_region 13 with (first
          | (go_at_call 12; refine (HLI.out _ HS.out.1).mono ?_; rintro e w3 ⟨A1, d1, rfl, hr, hA, h3, h3b⟩; have H3 := Lib.hid h3; have HR3 := Lib.hid (And.intro hr (And.intro hA h3b)); clear hr hA h3 h3b)
          | (go_at_call 20; refine (HCP.out _ H3.out).mono ?_; rintro e w4 ⟨rfl, h4, h5, h4b⟩; have H4 := Lib.hid (And.intro h4 (And.intro h5 h4b)); clear h4 h5 h4b))
        have hag : AgW w a0 w3.heap.size (look D) (look D) ⟨Ad, M, cd⟩ D ⟨A1, z, d1⟩ L w4 := by
          have l1 := HS.out.1.cap.lt
          have l2 := HR3.out.2.2.size
          refine ⟨H4.out.1, H4.out.2.1, by omega, HS.out.2.1.later (k_then H4.out.2.2 HR3.out.2.2), HR3.out.1.later H4.out.2.2, fun ad e h0 => ⟨HS.out.2.2 ad e, ?_⟩, fun ad e h0 => ⟨?_, ?_⟩⟩
          · have := HS.out.2.1.lt (fun _ => by simp [oeC]) e h0
            omega
          · have := HR3.out.2.1 ad e
            omega
          · have := HR3.out.1.lt (fun _ => by simp [deC]) e h0
            omega
        generalize w3.heap.size = d0 at *
        have HAG := Lib.hid hag
        have HCL := Lib.hid (fun W f g (h : AgW w a0 d0 f g ⟨Ad, M, cd⟩ D ⟨A1, z, d1⟩ L W) => ag_clear h)
        have HCN := Lib.hid (fun W f g (h : AgW w a0 d0 f g ⟨Ad, M, cd⟩ D ⟨A1, z, d1⟩ L W) => ag_count h)
        have HFG := Lib.hid (fun W f g n (h : AgW w a0 d0 f g ⟨Ad, M, cd⟩ D ⟨A1, z, d1⟩ L W) => ag_forget h n)
        have HNA := Lib.hid (fun W f g n c v (h : AgW w a0 d0 f g ⟨Ad, M, cd⟩ D ⟨A1, z, d1⟩ L W) => ag_noteA h n c v)
        have HND := Lib.hid (fun W f g n c v (h : AgW w a0 d0 f g ⟨Ad, M, cd⟩ D ⟨A1, z, d1⟩ L W) => ag_noteD h n c v)
        have HC1 := Lib.hid (HCL.out _ _ _ HAG.out)
        rw [← HL.out.1, ← HL.out.2.1] at HC1
        have HC2 := Lib.hid (fun W (h : AgW w a0 d0 noCa (look D) ⟨Ad, M, cd⟩ D ⟨A1, z, d1⟩ L W) => HCN.out _ _ _ h)
        rw [show (listC noCa).length = 0 from by decide] at HC2
        have q1 : (((z : Nat) : Int) != (z : Int)) = false := by simp
        clear hag H3 HR3 H4 HS HLI HCP HCL HCN
        go_upto_region 16 with (first
          | (go_at_call 22; refine HC1.out.mono ?_; rintro e w5 ⟨rfl, h5⟩; have H5 := Lib.hid h5; clear h5)
          | (go_at_call 14; refine (HC2.out _ H5.out).mono ?_; rintro e w6 ⟨rfl, h6⟩; have H6 := Lib.hid h6; clear h6))
        clear HC1 HC2 HAG H5
        go_loopw [54] (fun iv wr => ∃ (k : Nat) (g : Ca), k ≤ z ∧ iv = .int .i64 (k : Int) ∧ DropTo (look D) g k ∧ AgW w a0 d0 noCa g ⟨Ad, M, cd⟩ D ⟨A1, z, d1⟩ L wr) (fun iv _ => z - (intOf iv).toNat)
        case atStart => exact ⟨0, look D, Nat.zero_le _, rfl, drop_start _, H6.out⟩
        case round =>
          obtain ⟨k2, g, hk2, rfl, hdt, hW2⟩ := hrel
          have HW := Lib.hid hW2
          have HDT := Lib.hid hdt
          by_cases hlt2 : k2 < z
          · as_aux_lemma =>
            obtain ⟨g2, o2, hB0, hB2⟩ := hW2.rL.get (i := k2) hlt2
            dsimp only at hB0
            subst hB0
            obtain ⟨y1, y2, y3⟩ := drop_step HDT.out (k := k2) (by rw [← HL.out.1, ← HL.out.2.1]; exact hlt2)
            rw [← HL.out.1] at y1 y2 y3
            obtain ⟨⟨xn, xv⟩, hx⟩ : ∃ o, o = L.getD k2 default := ⟨_, rfl⟩
            rw [← hx] at hB2 y1 y2 y3
            obtain ⟨b0, b1⟩ := deC_cells hB2
            clear hx
            dsimp only at b0 b1 y1 y2 y3
            have e1 : (0 : Int) ≤ (k2 : Int) := by omega
            have e2 : (k2 : Int) < (z : Int) := by omega
            obtain ⟨w7, hw7⟩ : ∃ w7, w7 = wr.alloc (.cells #[.int .i64 (xn : Int), .int .i64 xv] 51) := ⟨_, rfl⟩
            have hb7 : Below wr.heap.size wr w7 := by rw [hw7]; exact (Below.refl _ _).alloc (Nat.le_refl _) _
            have h7w : Whole w7 wr.heap.size 51 #[.int .i64 (xn : Int), .int .i64 xv] := by rw [hw7]; exact Whole.new _ _ _
            have hF1 := forget_any (HW.out.later hb7).ld.cap (xn : Int)
            have hF2 := HFG.out
            have H7 := Lib.hid (HW.out.later hb7)
            rw [y1] at hF1
            rw [hw7] at hF1 h7w H7
            have HF1 := Lib.hid hF1
            have HX7 := Lib.hid h7w
            have HF2 := Lib.hid (fun W (h : AgW w a0 d0 noCa (dropC g (xn : Int)) ⟨Ad, M, cd⟩ D ⟨some ⟨g2, o2, none⟩, z, d1⟩ L W) => HFG.out _ _ _ (xn : Int) h)
            rw [y2, drop_none y2] at HF2
            have hal : wr.heap.size ≠ d0 := by have := HW.out.ld.cap.lt; omega
            have HDT3 := Lib.hid y3
            clear hB2 y1 y2 y3 hW2 hdt hF1 hF2 h7w hw7 hb7 HFG
            go_wp2_with (first
              | (go_at_call 21; refine HF1.out.mono ?_; rintro e w8 ⟨rfl, h8⟩; have H8 := Lib.hid (H7.out.toD h8); have r0 := (HX7.out.kept h8.2 hal).cell 0; simp at r0; clear h8 HF1)
              | (go_at_call 21; refine (HF2.out _ H8.out).mono ?_; rintro e w9 ⟨rfl, h9⟩; have H9 := Lib.hid h9; clear h9 HF2))
            go_roundw
            case rel => exact ⟨k2 + 1, _, by omega, by go_num, HDT3.out, H9.out⟩
            case measure => simp [intOf]; omega
          · obtain rfl : k2 = z := by omega
            have h6 : AgW w a0 d0 (look (D.take 0)) (look (D.take 0)) ⟨Ad, M, cd⟩ D ⟨A1, k2, d1⟩ L wr := by
              have hdt2 := HDT.out
              rw [HL.out.2.1, HL.out.1] at hdt2
              rw [List.take_zero, look_nil]
              exact HW.out.sameD (drop_all hdt2) okc_no
            have HW6 := Lib.hid h6
            clear hW2 hdt h6 HW HDT HFG H6
            go_upto_region 22 with fail
            go_loopw [72] (fun iv wr => ∃ (k : Nat), k ≤ M ∧ iv = .int .i64 (k : Int) ∧ AgW w a0 d0 (look (D.take k)) (look (D.take k)) ⟨Ad, M, cd⟩ D ⟨A1, k2, d1⟩ L wr) (fun iv _ => M - (intOf iv).toNat)
            case atStart => exact ⟨0, Nat.zero_le _, rfl, HW6.out⟩
            case round =>
              obtain ⟨k3, hk3, rfl, hW3⟩ := hrel
              have HW := Lib.hid hW3
              by_cases hlt3 : k3 < M
              · as_aux_lemma =>
                obtain ⟨g2, o2, hB0, hB2⟩ := hW3.rD.get (i := k3) hlt3
                dsimp only at hB0
                subst hB0
                obtain ⟨y1, y2⟩ := again_step HG.out (k := k3) (by rw [← HL.out.2.2]; exact hlt3)
                obtain ⟨⟨ok, on, oc, ov⟩, hx⟩ : ∃ o, o = D.getD k3 default := ⟨_, rfl⟩
                rw [← hx] at hB2 y1 y2
                obtain ⟨b0, b1, b2, b3⟩ := oeC_cells hB2
                clear hx
                dsimp only at y1 y2
                have e1 : (0 : Int) ≤ (k3 : Int) := by omega
                have e2 : (k3 : Int) < (M : Int) := by omega
                obtain ⟨w7, hw7⟩ : ∃ w7, w7 = wr.alloc (.cells #[.int .i64 ok, .int .i64 on, .int .i64 oc, .int .i64 ov] 40) := ⟨_, rfl⟩
                have hb7 : Below wr.heap.size wr w7 := by rw [hw7]; exact (Below.refl _ _).alloc (Nat.le_refl _) _
                have h7w : Whole w7 wr.heap.size 40 #[.int .i64 ok, .int .i64 on, .int .i64 oc, .int .i64 ov] := by rw [hw7]; exact Whole.new _ _ _
                have hNA := note_any (HW.out.later hb7).la.cap on oc ov
                have HND2 := HND.out
                have H7 := Lib.hid (HW.out.later hb7)
                rw [y1, y2] at hNA
                rw [hw7] at hNA h7w H7
                have HN1 := Lib.hid hNA
                have HX7 := Lib.hid h7w
                have HN2 := Lib.hid (fun W (h : AgW w a0 d0 (look (D.take (k3 + 1))) (look (D.take k3)) ⟨some ⟨g2, o2, none⟩, M, cd⟩ D ⟨A1, k2, d1⟩ L W) => ag_noteD h on oc ov)
                rw [y1, y2] at HN2
                have hal : wr.heap.size ≠ a0 := by have := HW.out.la.cap.lt; omega
                clear hB2 y1 y2 hW3 hNA HND2 h7w hw7 hb7 HNA HND HW6
                go_wp2_with (first
                  | (go_at_call 19; refine HN1.out.mono ?_; (rintro e w8 ⟨rfl, h8⟩; have H8 := Lib.hid (H7.out.toA h8); have r0 := (HX7.out.kept h8.2 hal).cell 0; have r1 := (HX7.out.kept h8.2 hal).cell 1; have r2 := (HX7.out.kept h8.2 hal).cell 2; have r3 := (HX7.out.kept h8.2 hal).cell 3; simp at r0 r1 r2 r3; clear h8 HN1))
                  | (go_at_call 19; refine (HN2.out _ H8.out).mono ?_; (rintro e w9 ⟨rfl, h9⟩; have H9 := Lib.hid h9; clear h9 HN2)))
                go_roundw
                case rel => exact ⟨k3 + 1, by omega, by go_num, H9.out⟩
                case measure => simp [intOf]; omega
              · have h9 := HW.out
                rw [show k3 = D.length from by have := HL.out.2.2; omega, List.take_length] at h9
                have H9 := Lib.hid h9
                have HLA := Lib.hid (fun W (h : AgW w a0 d0 (look D) (look D) ⟨Ad, M, cd⟩ D ⟨A1, k2, d1⟩ L W) => ag_listA h)
                have HLD := Lib.hid (fun W (h : AgW w a0 d0 (look D) (look D) ⟨Ad, M, cd⟩ D ⟨A1, k2, d1⟩ L W) => ag_listD h)
                rw [← HL.out.1, ← HL.out.2.1] at HLA HLD
                clear hW3 HW h9 HNA HND HW6
                go_wp2_with (first
                  | (go_at_call 12; refine (HLA.out _ H9.out).mono ?_; (rintro e w10 ⟨A5, d5, rfl, hr, h10⟩; have H10 := Lib.hid h10; have HR10 := Lib.hid hr; clear hr h10 HLA))
                  | (go_at_call 16; refine (devs_same HR10.out H10.out.rL).mono ?_; (rintro e w11 ⟨rfl, hb⟩; have H11 := Lib.hid (H10.out.later hb); clear hb HR10))
                  | (go_at_call 12; refine (HLD.out _ H11.out).mono ?_; (rintro e w12 ⟨A6, d6, rfl, hr, h12⟩; have H12 := Lib.hid h12; have HR12 := Lib.hid hr; clear hr h12 HLD))
                  | (go_at_call 16; refine (devs_same HR12.out H12.out.rL).mono ?_; (rintro e w13 ⟨rfl, hb⟩; have H13 := Lib.hid (H12.out.later hb); clear hb)))
                go_ret
                exact ⟨rfl, H13.out.la.below⟩
  · have hN2 : ¬ ((N : Int) ≤ 40) := by omega
    go_enter Try.func8, Try.ntmps8
    go_wp2_with (go_at_call 23; refine (HA.out _).mono ?_; rintro e w1 ⟨rfl, hb1⟩; have HB1 := Lib.hid hb1; clear hb1)
    go_ret
    exact ⟨rfl, HB1.out⟩
end Go.Proofs.Ytjgbgakdnapdhaa
