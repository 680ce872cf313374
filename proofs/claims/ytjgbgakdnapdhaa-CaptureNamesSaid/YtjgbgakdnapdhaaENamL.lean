/- CaptureNames, its walk. No condition. -/
import Derived.Test.YtjgbgakdnapdhaaENamM
import Derived.IntWalk
namespace Go.Proofs.Ytjgbgakdnapdhaa
open Go.RowKit Go.Shelf

set_option maxRecDepth 100000 in
set_option maxHeartbeats 8000000 in
theorem captureNames_walk (w : World) : Calls Try.prog 4 #[] w fun e w' => e = .returned (.bool true) ∧ Below w.heap.size w w' := by
  have HA := Lib.hid (fun W => alive_any W)
  have h0 := law_new (Below.refl w.heap.size w)
  rw [capC_lit] at h0
  have H0 := Lib.hid h0
  clear h0
  go_enter Try.func4, Try.ntmps4
  go_upto_region 2 with fail
  generalize hw1 : (w.alloc _ : World) = w1 at *
  clear hw1
  obtain ⟨a0, ha0⟩ : ∃ a0, a0 = w.heap.size := ⟨_, rfl⟩
  rw [← ha0]
  have h0 := H0.out
  rw [← ha0] at h0
  have HL1 := Lib.hid h0
  clear H0 h0 ha0
  have hos : RSrc oeC 4 (w1.alloc (.cells (osN.flatMap oeC).toArray 40)) ⟨some ⟨w1.heap.size, 0, none⟩, 6, 6⟩ osN := rsrc_whole (cells := oeC) (k := 4) (xs := osN) (fun _ => rfl) (Whole.new _ _ _) (show osN.length ≤ 1000000 by decide)
  have hl2 := HL1.out.later ((Below.refl w1.heap.size w1).alloc (Nat.le_refl _) (.cells (osN.flatMap oeC).toArray 40))
  have hfm : (osN.flatMap oeC).toArray = #[.int .i64 0, .int .i64 (-1), .int .i64 0, .int .i64 0, .int .i64 0, .int .i64 16, .int .i64 0, .int .i64 0, .int .i64 0, .int .i64 0, .int .i64 2, .int .i64 0, .int .i64 0, .int .i64 0, .int .i64 (-1), .int .i64 0, .int .i64 0, .int .i64 0, .int .i64 0, .int .i64 4294967297, .int .i64 0, .int .i64 0, .int .i64 0, .int .i64 (-4294967297)] := rfl
  rw [hfm] at hos hl2
  have HOS := Lib.hid (And.intro hos hl2)
  have HNE := Lib.hid (show w1.heap.size ≠ a0 from by have := HL1.out.cap.lt; omega)
  clear hos hl2 hfm
  go_upto_region 4 with fail
  generalize (w1.alloc _ : World) = w2 at *
  generalize w1.heap.size = bB at *
  have HROW := Lib.hid HOS.out.1
  go_loopw [2, 33] (fun bv iv wr => ∃ (k : Nat), k ≤ 6 ∧ iv = .int .i64 (k : Int) ∧ bv = .int .i64 (k : Int) ∧ LawC w a0 noCa wr ∧ RSrc oeC 4 wr ⟨some ⟨bB, 0, none⟩, 6, 6⟩ osN ∧ bB ≠ a0) (fun _ iv _ => 6 - (intOf iv).toNat)
  case atStart => exact ⟨0, Nat.zero_le _, rfl, rfl, HOS.out.2, HROW.out, HNE.out⟩
  case round =>
    obtain ⟨k, hk, rfl, rfl, hW, hR, hne⟩ := hrel
    have HW := Lib.hid hW
    have HR := Lib.hid hR
    by_cases hlt : k < 6
    · as_aux_lemma =>
      obtain ⟨g, o, hA0, hA2⟩ := hR.get (i := k) hlt
      dsimp only at hA0
      cases hA0
      have hbad := osN_bad k hlt
      obtain ⟨⟨ok, on, oc, ov⟩, hx⟩ : ∃ o, o = osN.getD k default := ⟨_, rfl⟩
      rw [← hx] at hA2 hbad
      obtain ⟨q0, q1, q2, q3⟩ := oeC_cells hA2
      rw [Nat.zero_add] at q0 q1 q2 q3
      clear hx
      dsimp only at hbad
      have e1 : (0 : Int) ≤ (k : Int) := by omega
      have e2 : (k : Int) < 6 := by omega
      obtain ⟨w3, hw3⟩ : ∃ w3, w3 = wr.alloc (.cells #[.int .i64 ok, .int .i64 on, .int .i64 oc, .int .i64 ov] 40) := ⟨_, rfl⟩
      have hb3 : Below wr.heap.size wr w3 := by rw [hw3]; exact (Below.refl _ _).alloc (Nat.le_refl _) _
      have HR3 := Lib.hid (HR.out.later hb3)
      have HN := Lib.hid (law_note (HW.out.later hb3) on oc ov)
      rw [(note_no hbad).1, (note_no hbad).2] at HN
      have HC := Lib.hid (fun W (h : LawC w a0 noCa W) => law_count h)
      rw [n_l0] at HC
      rw [hw3] at HN HR3
      clear hA2 hW hR hw3 hb3 hbad
      have HNN := Lib.hid hne
      clear hne
      go_wp2_with (first
        | (go_at_call 19; refine HN.out.mono ?_; rintro e w4 ⟨rfl, h4, h4k⟩; have H4 := Lib.hid h4; have HR4 := Lib.hid (HR3.out.kept h4k.2 (fun ad e _ e2 => by cases e; exact HNN.out e2)); clear h4 h4k)
        | (go_at_call 14; refine (HC.out _ H4.out).mono ?_; rintro e w5 ⟨rfl, h5, h5b⟩; have H5 := Lib.hid h5; have HR5 := Lib.hid (HR4.out.later h5b); clear h5 h5b))
      go_roundw
      case rel => exact ⟨k + 1, by omega, by go_num, by go_num, H5.out, HR5.out, HNN.out⟩
      case measure => simp [intOf]; omega
    · obtain rfl : k = 6 := by omega
      clear hW hR hne HR HOS HROW
      have HNA := Lib.hid (fun W (h : LawC w a0 noCa W) => law_note h 0 0 (-4294967296))
      have HNB := Lib.hid (fun W (h : LawC w a0 gN1 W) => law_note h 15 1 4294967296)
      have HNC := Lib.hid (fun W (h : LawC w a0 gN2 W) => law_note h 5 0 (-4))
      have HND := Lib.hid (fun W (h : LawC w a0 gN3 W) => law_note h 5 1 (-3))
      rw [n_e1] at HNA
      rw [n_e2] at HNB
      rw [n_e3] at HNC
      rw [n_e4] at HND
      go_upto_region 11 with (first
        | (go_at_call 19; refine (HNA.out _ HW.out).mono ?_; (rintro e w11 ⟨rfl, h11, _⟩; have H11 := Lib.hid h11; clear h11 HNA))
        | (go_at_call 19; refine (HNB.out _ H11.out).mono ?_; (rintro e w12 ⟨rfl, h12, _⟩; have H12 := Lib.hid h12; clear h12 HNB))
        | (go_at_call 19; refine (HNC.out _ H12.out).mono ?_; (rintro e w13 ⟨rfl, h13, _⟩; have H13 := Lib.hid h13; clear h13 HNC))
        | (go_at_call 19; refine (HND.out _ H13.out).mono ?_; (rintro e w14 ⟨rfl, h14, _⟩; have H14 := Lib.hid h14; clear h14 HND)))
      clear HW H11 H12 H13
      have HO5 := Lib.hid (fun W (h : LawC w a0 gN4 W) => law_of h 5)
      have HO6 := Lib.hid (fun W (h : LawC w a0 gN4 W) => law_of h 6)
      have HO16 := Lib.hid (fun W (h : LawC w a0 gN4 W) => law_of h 16)
      rw [n_o5] at HO5
      rw [n_o6] at HO6
      rw [n_o16] at HO16
      unfold ofV at HO5 HO6 HO16
      go_upto_region 14 with (first
        | (go_at_call 10; refine (HO5.out _ H14.out).mono ?_; (rintro e w15 ⟨rfl, h15, _⟩; have H15 := Lib.hid h15; clear h15 HO5))
        | (go_at_call 10; refine (HO6.out _ H15.out).mono ?_; (rintro e w16 ⟨rfl, h16, _⟩; have H16 := Lib.hid h16; clear h16 HO6))
        | (go_at_call 10; refine (HO16.out _ H16.out).mono ?_; (rintro e w17 ⟨rfl, h17, _⟩; have H17 := Lib.hid h17; clear h17 HO16)))
      clear H14 H15 H16
      have HV9 := Lib.hid (fun W (h : LawC w a0 gN4 W) => law_values h 99)
      have HV5 := Lib.hid (fun W (h : LawC w a0 gN4 W) => law_values h 5)
      rw [n_v99] at HV9
      rw [n_v5] at HV5
      have HLA := Lib.hid (fun (W : World) (A : Option Addr) (c : Nat) (h : RSrc inC 1 W ⟨A, 3, c⟩ [-4294967296, -4, 4294967296]) => longs_new h [-4294967296, -4, 4294967296] (by decide) #[.int .i64 (-4294967296), .int .i64 (-4), .int .i64 4294967296] rfl)
      have HLB := Lib.hid (fun (W : World) (A : Option Addr) (c : Nat) (h : RSrc inC 1 W ⟨A, 3, c⟩ [-4294967296, 0, 4294967296]) => longs_new h [-4294967296, 0, 4294967296] (by decide) #[.int .i64 (-4294967296), .int .i64 0, .int .i64 4294967296] rfl)
      go_upto_region 15 with (first
        | (go_at_call 13; refine (HV9.out _ H17.out).mono ?_; (rintro e w18 ⟨A18, c18, rfl, hr, _, h18, _⟩; have H18 := Lib.hid h18; have HR18 := Lib.hid hr; clear h18 hr HV9))
        | (go_at_call 17; refine (HLA.out _ _ _ HR18.out).mono ?_; (rintro e w19 ⟨rfl, hb⟩; have H19 := Lib.hid (H18.out.later hb); clear hb HLA HR18))
        | (go_at_call 13; refine (HV5.out _ H19.out).mono ?_; (rintro e w20 ⟨A20, c20, rfl, hr, _, h20, _⟩; have H20 := Lib.hid h20; have HR20 := Lib.hid hr; clear h20 hr HV5))
        | (go_at_call 17; refine (HLB.out _ _ _ HR20.out).mono ?_; (rintro e w21 ⟨rfl, hb⟩; have H21 := Lib.hid (H20.out.later hb); clear hb HLB HR20)))
      clear H17 H18 H19 H20
      have HCP := Lib.hid (fun W (h : LawC w a0 gN4 W) => law_copy h)
      go_upto_region 16 with (go_at_call 20; refine (HCP.out _ H21.out).mono ?_; (rintro e w22 ⟨rfl, h22, h23, _⟩; have H22 := Lib.hid (show NmW w a0 w21.heap.size gN4 gN4 w22 from ⟨h22, h23, by have := H21.out.cap.lt; omega⟩); clear h22 h23))
      generalize w21.heap.size = d0 at *
      clear H21 HCP
      have HFA := Lib.hid (fun W (h : NmW w a0 d0 gN4 gN4 W) => nm_forget h 5)
      have HFB := Lib.hid (fun W (h : NmW w a0 d0 gN5 gN4 W) => nm_forget h 5)
      have HNE2 := Lib.hid (fun W (h : NmW w a0 d0 gN6 gN4 W) => nm_note h 5 1 2)
      have HCL := Lib.hid (fun W (h : NmW w a0 d0 gN7 gN4 W) => nm_clear h)
      rw [n_f1] at HFA
      rw [n_f2] at HFB
      rw [n_e7] at HNE2
      rw [n_l7] at HCL
      go_upto_region 19 with (first
        | (go_at_call 21; refine (HFA.out _ H22.out).mono ?_; (rintro e w23 ⟨rfl, h23⟩; have H23 := Lib.hid h23; clear h23 HFA))
        | (go_at_call 21; refine (HFB.out _ H23.out).mono ?_; (rintro e w24 ⟨rfl, h24⟩; have H24 := Lib.hid h24; clear h24 HFB))
        | (go_at_call 19; refine (HNE2.out _ H24.out).mono ?_; (rintro e w25 ⟨rfl, h25⟩; have H25 := Lib.hid h25; clear h25 HNE2))
        | (go_at_call 22; refine (HCL.out _ H25.out).mono ?_; (rintro e w26 ⟨rfl, h26⟩; have H26 := Lib.hid h26; clear h26 HCL)))
      clear H22 H23 H24 H25
      have HCN := Lib.hid (fun W (h : NmW w a0 d0 noCa gN4 W) => nm_count h)
      have HCM := Lib.hid (fun W (h : NmW w a0 d0 noCa gN4 W) => nm_clear h)
      have HCD := Lib.hid (fun W (h : NmW w a0 d0 noCa gN4 W) => nm_countD h)
      have HV0 := Lib.hid (fun W (h : NmW w a0 d0 noCa gN4 W) => nm_values h 0)
      have HLC := Lib.hid (fun (W : World) (A : Option Addr) (c : Nat) (h : RSrc inC 1 W ⟨A, 1, c⟩ [0]) => longs_new h [0] (by decide) #[.int .i64 0] rfl)
      rw [n_l0] at HCN HCM
      rw [n_l4] at HCD
      rw [n_v0] at HV0
      go_upto_region 20 with (first
        | (go_at_call 14; refine (HCN.out _ H26.out).mono ?_; (rintro e w27 ⟨rfl, h27⟩; have H27 := Lib.hid h27; clear h27 HCN))
        | (go_at_call 22; refine (HCM.out _ H27.out).mono ?_; (rintro e w28 ⟨rfl, h28⟩; have H28 := Lib.hid h28; clear h28 HCM))
        | (go_at_call 14; refine (HCD.out _ H28.out).mono ?_; (rintro e w29 ⟨rfl, h29⟩; have H29 := Lib.hid h29; clear h29 HCD))
        | (go_at_call 13; refine (HV0.out _ H29.out).mono ?_; (rintro e w30 ⟨A30, c30, rfl, hr, h30⟩; have H30 := Lib.hid h30; have HR30 := Lib.hid hr; clear h30 hr HV0))
        | (go_at_call 17; refine (HLC.out _ _ _ HR30.out).mono ?_; (rintro e w31 ⟨rfl, hb⟩; have H31 := Lib.hid (H30.out.later hb); clear hb HLC HR30)))
      clear H26 H27 H28 H29 H30
      have HB0 := Lib.hid H31.out.la.below
      clear H31
      have HON := Lib.hid (fun W => ofNil_any 0 W)
      unfold ofV at HON
      have HNN := Lib.hid (fun W => noteNil_any 0 0 0 W)
      have HFN := Lib.hid (fun W => forgetNil_any 0 W)
      have HCO := Lib.hid (fun W => nil_count W)
      have HCK := Lib.hid (fun W => clearNil_any W)
      have HLN := Lib.hid (fun W => nil_list W)
      have HVN := Lib.hid (fun W => nil_values W 0)
      have HPN := Lib.hid (fun W => copyNil_any W)
      go_wp2_with (first
        | (go_at_call 10; refine (HON.out _).mono ?_; (rintro e wq ⟨rfl, hq⟩; obtain rfl := hq.symm; clear HON))
        | (go_at_call 23; refine (HA.out _).mono ?_; (rintro e w41 ⟨rfl, hb⟩; have HB1 := Lib.hid (k_then hb HB0.out); clear hb HA))
        | (go_at_call 19; refine (HNN.out _).mono ?_; (rintro e wq ⟨rfl, hq⟩; obtain rfl := hq.symm; clear HNN))
        | (go_at_call 21; refine (HFN.out _).mono ?_; (rintro e wq ⟨rfl, hq⟩; obtain rfl := hq.symm; clear HFN))
        | (go_at_call 14; refine (HCO.out _).mono ?_; (rintro e w42 ⟨rfl, hb⟩; have HB2 := Lib.hid (k_then hb HB1.out); clear hb HCO))
        | (go_at_call 22; refine (HCK.out _).mono ?_; (rintro e w43 ⟨rfl, hb⟩; have HB3 := Lib.hid (k_then hb HB2.out); clear hb HCK))
        | (go_at_call 12; refine (HLN.out _).mono ?_; (rintro e w44 ⟨A44, c44, rfl, hb⟩; have HB4 := Lib.hid (k_then hb HB3.out); clear hb HLN))
        | (go_at_call 13; refine (HVN.out _).mono ?_; (rintro e w45 ⟨A45, c45, rfl, hb⟩; have HB5 := Lib.hid (k_then hb HB4.out); clear hb HVN))
        | (go_at_call 20; refine (HPN.out _).mono ?_; (rintro e wq ⟨rfl, hq⟩; obtain rfl := hq.symm; clear HPN)))
      go_ret
      exact ⟨rfl, HB5.out⟩
end Go.Proofs.Ytjgbgakdnapdhaa
