/- ScriptBack, of a slice that reads as bytes and a script that is read. No condition. -/
import Derived.Test.YtljcaigaofalbaaQEx
import Derived.Test.YtljcaigaofalbaaQY
namespace Go.Proofs.Ytljcaigaofalbaa
open Go.RowKit Go.Shelf

set_option maxRecDepth 100000 in
set_option maxHeartbeats 4000000 in
theorem back_off (x : Pl) (A : Option Addr) (n c : Nat) (b : List UInt8) (V : ScV) (s : ScA) (w : World) (hs : Src w A n b) (h : ScAt w V s) (hno : ¬ (greatI s = 0 ∧ n ≤ 3000 ∧ failsL x 11 = 0)) :
    Calls Try.prog 6 #[.agg x.cells, .slice A n c, .agg V.cells] w fun e w' => e = .returned (.bool true) ∧ Below w.heap.size w w' := by
  have hX := held_new (held_new (held_start w) 23 x.cells) 29 V.cells
  simp only [List.nil_append, List.cons_append, World.size_alloc] at hX
  have HB0 := Lib.hid (show BK w ((w.alloc (.cells x.cells 23)).alloc (.cells V.cells 29)) [(w.heap.size, 23, x.cells), (w.heap.size + 1, 29, V.cells)] [(V, s)] [(A, b)] from ⟨hX, fun y hy => by
    rw [List.mem_singleton] at hy
    subst hy
    exact h.later hX.1, fun y hy => by
    rw [List.mem_singleton] at hy
    subst hy
    have : b.length = n := hs.1
    rw [this]
    exact hs.below hX.1⟩)
  have HS := Lib.hid x.cellsL
  have HV := Lib.hid V.info
  have HA := Lib.hid (fun W => aliveS_any W)
  have HG := Lib.hid (fun W hW => great_any W V s hW)
  have HL := Lib.hid (show b.length = n from hs.1)
  clear hX h hs
  by_cases hg : greatI s = 0
  case neg =>
    have hg1 : greatI s = 1 := by
      unfold greatI at hg ⊢
      split at hg
      · exact absurd rfl hg
      · rename_i hh
        rw [if_neg hh]
    rw [hg1] at HG
    clear hg hg1 hno
    go_enter Try.func6, Try.ntmps6
    go_wp2_with (first
      | (go_at_call 43; refine (HA.out _).mono ?_; rintro e w1 ⟨rfl, hb1⟩; have HB1 := Lib.hid (HB0.out.later hb1); clear hb1)
      | (refine wpList_load_row rfl 29 _ rfl (w.heap.size + 1) rfl 29 V.cells (0, 0) _ (HB1.out.whole (y := (w.heap.size + 1, 29, V.cells)) (by simp)) Try.underlying29 rfl HV.out ?_)
      | (go_at_call 10; refine (HG.out _ (HB1.out.sc (V, s) (by simp))).mono ?_; rintro e w2 ⟨rfl, hb2⟩; have HB2 := Lib.hid (HB1.out.later hb2); clear hb2))
    go_ret
    exact ⟨rfl, HB2.out.below⟩
  rw [hg] at HG
  by_cases hn : 3000 < n
  · have d1 : decide ((3000 : Int) < (n : Int)) = true := by simp only [decide_eq_true_eq]; omega
    clear hg hno
    go_enter Try.func6, Try.ntmps6
    go_wp2_with (first
      | (go_at_call 43; refine (HA.out _).mono ?_; rintro e w1 ⟨rfl, hb1⟩; have HB1 := Lib.hid (HB0.out.later hb1); clear hb1)
      | (refine wpList_load_row rfl 29 _ rfl (w.heap.size + 1) rfl 29 V.cells (0, 0) _ (HB1.out.whole (y := (w.heap.size + 1, 29, V.cells)) (by simp)) Try.underlying29 rfl HV.out ?_)
      | (go_at_call 10; refine (HG.out _ (HB1.out.sc (V, s) (by simp))).mono ?_; rintro e w2 ⟨rfl, hb2⟩; have HB2 := Lib.hid (HB1.out.later hb2); clear hb2))
    go_ret
    exact ⟨rfl, HB2.out.below⟩
  have d1 : decide ((3000 : Int) < (n : Int)) = false := by simp only [decide_eq_false_iff_not]; omega
  have hf : ¬ failsL x 11 = 0 := fun hf => hno ⟨hg, by omega, hf⟩
  have HC := Lib.hid (chk_no hf)
  clear hg hno
  go_enter Try.func6, Try.ntmps6
  go_wp2_with (first
    | (go_at_call 43; refine (HA.out _).mono ?_; rintro e w1 ⟨rfl, hb1⟩; have HB1 := Lib.hid (HB0.out.later hb1); clear hb1)
    | (refine wpList_load_row rfl 29 _ rfl (w.heap.size + 1) rfl 29 V.cells (0, 0) _ (HB1.out.whole (y := (w.heap.size + 1, 29, V.cells)) (by simp)) Try.underlying29 rfl HV.out ?_)
    | (go_at_call 10; refine (HG.out _ (HB1.out.sc (V, s) (by simp))).mono ?_; rintro e w2 ⟨rfl, hb2⟩; have HB2 := Lib.hid (HB1.out.later hb2); clear hb2)
    | (refine wpList_load_want (by kernel_rfl) 23 _ rfl w.heap.size rfl 23 x.cells (0, 0) _ (HB2.out.whole (y := (w.heap.size, 23, x.cells)) (by simp)) Try.underlying23 rfl HS.out.plan ?_)
    | (go_at_call 44; refine (HC.out _).mono ?_; rintro e w3 ⟨rfl, hb3⟩; have HB3 := Lib.hid (HB2.out.later hb3); clear hb3))
  go_ret
  exact ⟨rfl, HB3.out.below⟩

set_option maxRecDepth 100000 in
set_option maxHeartbeats 8000000 in
theorem back_yes (x : Pl) (A : Option Addr) (n c : Nat) (b : List UInt8) (V : ScV) (s : ScA) (w : World) (hs : Src w A n b) (hz : A = none → c = 0) (h : ScAt w V s) (hg : greatI s = 0) (hn : n ≤ 3000) (hf : failsL x 11 = 0) (hm : mayS x s.sc = true) :
    Calls Try.prog 6 #[.agg x.cells, .slice A n c, .agg V.cells] w fun e w' => e = .returned (.bool true) ∧ Below w.heap.size w w' := by
  have hX := held_new (held_new (held_start w) 23 x.cells) 29 V.cells
  simp only [List.nil_append, List.cons_append, World.size_alloc] at hX
  have HB0 := Lib.hid (show BK w ((w.alloc (.cells x.cells 23)).alloc (.cells V.cells 29)) [(w.heap.size, 23, x.cells), (w.heap.size + 1, 29, V.cells)] [(V, s)] [(A, b)] from ⟨hX, fun y hy => by
    rw [List.mem_singleton] at hy
    subst hy
    exact h.later hX.1, fun y hy => by
    rw [List.mem_singleton] at hy
    subst hy
    have : b.length = n := hs.1
    rw [this]
    exact hs.below hX.1⟩)
  have HS := Lib.hid x.cellsL
  have HV := Lib.hid V.info
  have HA := Lib.hid (fun W => aliveS_any W)
  have HG := Lib.hid (fun W hW => great_any W V s hW)
  have HL := Lib.hid (show b.length = n from hs.1)
  rw [hg] at HG
  have HC := Lib.hid (chk_yes hf)
  have hx := okp_of hf
  have HX := Lib.hid hx
  have HF := Lib.hid hf
  have HZ := Lib.hid hz
  have HM := Lib.hid hm
  have d1 : decide ((3000 : Int) < (n : Int)) = false := by simp only [decide_eq_false_iff_not]; omega
  have hmayD : mayS x (decS x b) = true := by unfold mayS; rw [dec_ok hx b, hf]; rfl
  have HMD := Lib.hid hmayD
  have HOD := Lib.hid (dec_ok hx b)
  obtain ⟨L2, hL2⟩ : ∃ L2, L2 = encS x (decS x b) := ⟨_, rfl⟩
  have hl2 : L2.length ≤ 20000 := by rw [hL2]; exact enc_short hx (dec_ok hx b)
  have HL2 := Lib.hid hL2
  clear hX h hs hx hf hg hm hz hmayD hL2
  have HOS := Lib.hid (show okS x s.sc = true from by
    have := HM.out
    unfold mayS at this
    rw [Bool.and_eq_true] at this
    exact this.2)
  obtain ⟨L1, hL1⟩ : ∃ L1, L1 = encS x s.sc := ⟨_, rfl⟩
  have hl1 : L1.length ≤ 20000 := by rw [hL1]; exact enc_short HX.out HOS.out
  have HL1 := Lib.hid hL1
  clear hL1
  go_enter Try.func6, Try.ntmps6
  go_upto_region 4 with (first
    | (go_at_call 43; refine (HA.out _).mono ?_; rintro e w1 ⟨rfl, hb1⟩; have HB1 := Lib.hid (HB0.out.later hb1); clear hb1)
    | (refine wpList_load_row rfl 29 _ rfl (w.heap.size + 1) rfl 29 V.cells (0, 0) _ (HB1.out.whole (y := (w.heap.size + 1, 29, V.cells)) (by simp)) Try.underlying29 rfl HV.out ?_)
    | (go_at_call 10; refine (HG.out _ (HB1.out.sc (V, s) (by simp))).mono ?_; rintro e w2 ⟨rfl, hb2⟩; have HB2 := Lib.hid (HB1.out.later hb2); clear hb2)
    | (refine wpList_load_want (by kernel_rfl) 23 _ rfl w.heap.size rfl 23 x.cells (0, 0) _ (HB2.out.whole (y := (w.heap.size, 23, x.cells)) (by simp)) Try.underlying23 rfl HS.out.plan ?_)
    | (go_at_call 44; refine (HC.out _).mono ?_; rintro e w3 ⟨rfl, hb3⟩; have HB3 := Lib.hid (HB2.out.later hb3); clear hb3))
  clear HA HG HC HB0 HB1 HB2
  go_upto_region 6 with (first
    | (refine wpList_load_row rfl 23 _ rfl w.heap.size rfl 23 x.cells (0, 0) _ (HB3.out.whole (y := (w.heap.size, 23, x.cells)) (by simp)) Try.underlying23 rfl HS.out.plan ?_)
    | (refine wpList_load_row rfl 29 _ rfl (w.heap.size + 1) rfl 29 V.cells (0, 0) _ (HB3.out.whole (y := (w.heap.size + 1, 29, V.cells)) (by simp)) Try.underlying29 rfl HV.out ?_)
    | (go_at_call 13; refine (Encode_sc x V s _ (HB3.out.sc (V, s) (by simp)) HM.out L1 HL1.out.symm).mono ?_; rintro e w4 ⟨A1, c1, rfl, hsr, hz1, hb⟩; have HB4 := Lib.hid ((HB3.out.later hb).bytes hsr); have HZ1 := Lib.hid hz1; clear hb hsr hz1))
  clear HB3
  go_upto_region 7 with (first
    | (refine wpList_load_row rfl 23 _ rfl w.heap.size rfl 23 x.cells (0, 0) _ (HB4.out.whole (y := (w.heap.size, 23, x.cells)) (by simp)) Try.underlying23 rfl HS.out.plan ?_)
    | (go_at_call 15; refine (Decode_sc x HF.out A1 L1.length c1 L1 _ (HB4.out.src (A1, L1) (by simp)) HZ1.out (by omega)).mono ?_; rintro e w5 ⟨V1, s1, rfl, hsc, hdec, hb⟩; have HB5 := Lib.hid ((HB4.out.later hb).script hsc); have HD1 := Lib.hid hdec; have HVi1 := Lib.hid V1.info; have HVo1 := Lib.hid V1.one; clear hb hsc hdec)
    | (refine wpList_store_last (w := w5) rfl 29 (.tmp 10) (.tmp 51) rfl _ V1.cells rfl rfl 29 _ rfl HVi1.out rfl HVo1.out ?_))
  clear HB4
  obtain ⟨X5, hX5⟩ : ∃ X, X = w5.alloc (.cells V1.cells 29) := ⟨_, rfl⟩
  have HB5b := Lib.hid (show BK w X5 _ _ _ from by rw [hX5]; exact HB5.out.box 29 V1.cells)
  rw [← hX5]
  clear hX5 HB5
  have hsame : decide (s1.sc = s.sc) = true := by
    rw [HD1.out, HL1.out, dec_enc HX.out HOS.out]
    exact decide_eq_true rfl
  have HSM := Lib.hid (fun W h1 h2 => Same_any V1 V s1 s W h1 h2)
  rw [hsame] at HSM
  clear hsame
  go_upto_region 9 with (first
    | (refine wpList_load_want (by kernel_rfl) 29 _ rfl (w5.heap.size) rfl 29 V1.cells (0, 0) _ (HB5b.out.whole (y := (w5.heap.size, 29, V1.cells)) (by simp)) Try.underlying29 rfl HVi1.out ?_)
    | (refine wpList_load_want (by kernel_rfl) 29 _ rfl (w.heap.size + 1) rfl 29 V.cells (0, 0) _ (HB5b.out.whole (y := (w.heap.size + 1, 29, V.cells)) (by simp)) Try.underlying29 rfl HV.out ?_)
    | (go_at_call 24; refine (HSM.out _ (HB5b.out.sc (V1, s1) (by simp)) (HB5b.out.sc (V, s) (by simp))).mono ?_; rintro e w6 ⟨rfl, hb⟩; have HB6 := Lib.hid (HB5b.out.later hb); clear hb))
  clear HB5b HSM
  go_upto_region 10 with (first
    | (refine wpList_load_row rfl 23 _ rfl w.heap.size rfl 23 x.cells (0, 0) _ (HB6.out.whole (y := (w.heap.size, 23, x.cells)) (by simp)) Try.underlying23 rfl HS.out.plan ?_)
    | (go_at_call 15; refine (Decode_sc x HF.out A n c b _ (by have h9 := HB6.out.src (A, b) (by simp); simp only [HL.out] at h9; exact h9) HZ.out (by omega)).mono ?_; rintro e w7 ⟨V2, s2, rfl, hsc, hdec, hb⟩; have HB7 := Lib.hid ((HB6.out.later hb).script hsc); have HD2 := Lib.hid hdec; have HVi2 := Lib.hid V2.info; have HVo2 := Lib.hid V2.one; clear hb hsc hdec)
    | (refine wpList_store_last (w := w7) rfl 29 (.tmp 12) (.tmp 65) rfl _ V2.cells rfl rfl 29 _ rfl HVi2.out rfl HVo2.out ?_))
  clear HB6
  obtain ⟨X7, hX7⟩ : ∃ X, X = w7.alloc (.cells V2.cells 29) := ⟨_, rfl⟩
  have HB7b := Lib.hid (show BK w X7 _ _ _ from by rw [hX7]; exact HB7.out.box 29 V2.cells)
  rw [← hX7]
  clear hX7 HB7
  have HCK := Lib.hid (fun W h1 => CheckS_any x V2 s2 W h1)
  rw [HD2.out, HMD.out] at HCK
  unfold errS at HCK
  rw [if_pos rfl] at HCK
  go_upto_region 12 with (first
    | (refine wpList_load_want (by kernel_rfl) 23 _ rfl w.heap.size rfl 23 x.cells (0, 0) _ (HB7b.out.whole (y := (w.heap.size, 23, x.cells)) (by simp)) Try.underlying23 rfl HS.out.plan ?_)
    | (refine wpList_load_want (by kernel_rfl) 29 _ rfl (w7.heap.size) rfl 29 V2.cells (0, 0) _ (HB7b.out.whole (y := (w7.heap.size, 29, V2.cells)) (by simp)) Try.underlying29 rfl HVi2.out ?_)
    | (go_at_call 18; refine (HCK.out _ (HB7b.out.sc (V2, s2) (by simp))).mono ?_; rintro e w8 ⟨rfl, hb⟩; have HB8 := Lib.hid (HB7b.out.later hb); clear hb))
  clear HB7b HCK
  have HM2 := Lib.hid (show mayS x s2.sc = true from by rw [HD2.out]; exact HMD.out)
  have HE2 := Lib.hid (show encS x s2.sc = L2 from by rw [HD2.out]; exact HL2.out.symm)
  go_upto_region 13 with (first
    | (refine wpList_load_row rfl 23 _ rfl w.heap.size rfl 23 x.cells (0, 0) _ (HB8.out.whole (y := (w.heap.size, 23, x.cells)) (by simp)) Try.underlying23 rfl HS.out.plan ?_)
    | (refine wpList_load_row rfl 29 _ rfl (w7.heap.size) rfl 29 V2.cells (0, 0) _ (HB8.out.whole (y := (w7.heap.size, 29, V2.cells)) (by simp)) Try.underlying29 rfl HVi2.out ?_)
    | (go_at_call 13; refine (Encode_sc x V2 s2 _ (HB8.out.sc (V2, s2) (by simp)) HM2.out L2 HE2.out).mono ?_; rintro e w9 ⟨A2, c2, rfl, hsr, hz1, hb⟩; have HB9 := Lib.hid ((HB8.out.later hb).bytes hsr); have HZ2 := Lib.hid hz1; clear hb hsr hz1))
  clear HB8
  go_upto_region 14 with (first
    | (refine wpList_load_row rfl 23 _ rfl w.heap.size rfl 23 x.cells (0, 0) _ (HB9.out.whole (y := (w.heap.size, 23, x.cells)) (by simp)) Try.underlying23 rfl HS.out.plan ?_)
    | (go_at_call 15; refine (Decode_sc x HF.out A2 L2.length c2 L2 _ (HB9.out.src (A2, L2) (by simp)) HZ2.out (by omega)).mono ?_; rintro e w10 ⟨V3, s3, rfl, hsc, hdec, hb⟩; have HB10 := Lib.hid ((HB9.out.later hb).script hsc); have HD3 := Lib.hid hdec; have HVi3 := Lib.hid V3.info; have HVo3 := Lib.hid V3.one; clear hb hsc hdec)
    | (refine wpList_store_last (w := w10) rfl 29 (.tmp 16) (.tmp 85) rfl _ V3.cells rfl rfl 29 _ rfl HVi3.out rfl HVo3.out ?_))
  clear HB9
  obtain ⟨X10, hX10⟩ : ∃ X, X = w10.alloc (.cells V3.cells 29) := ⟨_, rfl⟩
  have HB10b := Lib.hid (show BK w X10 _ _ _ from by rw [hX10]; exact HB10.out.box 29 V3.cells)
  rw [← hX10]
  clear hX10 HB10
  have HSS := Lib.hid (show s3.sc = s2.sc from by rw [HD3.out, HL2.out, dec_enc HX.out HOD.out]; exact HD2.out.symm)
  have HM3 := Lib.hid (show mayS x s3.sc = true from by rw [HSS.out]; exact HM2.out)
  have HE3 := Lib.hid (show encS x s3.sc = L2 from by rw [HSS.out]; exact HE2.out)
  go_upto_region 15 with (first
    | (refine wpList_load_row rfl 23 _ rfl w.heap.size rfl 23 x.cells (0, 0) _ (HB10b.out.whole (y := (w.heap.size, 23, x.cells)) (by simp)) Try.underlying23 rfl HS.out.plan ?_)
    | (refine wpList_load_row rfl 29 _ rfl (w10.heap.size) rfl 29 V3.cells (0, 0) _ (HB10b.out.whole (y := (w10.heap.size, 29, V3.cells)) (by simp)) Try.underlying29 rfl HVi3.out ?_)
    | (go_at_call 13; refine (Encode_sc x V3 s3 _ (HB10b.out.sc (V3, s3) (by simp)) HM3.out L2 HE3.out).mono ?_; rintro e w11 ⟨A3, c3, rfl, hsr, hz1, hb⟩; have HB11 := Lib.hid ((HB10b.out.later hb).bytes hsr); clear hb hsr hz1))
  clear HB10b
  have hsame : decide (s2.sc = s3.sc) = true := by rw [HSS.out]; exact decide_eq_true rfl
  have HSM2 := Lib.hid (fun W h1 h2 => Same_any V2 V3 s2 s3 W h1 h2)
  rw [hsame] at HSM2
  have hbq := str_beq L2 L2
  rw [decide_eq_true rfl] at hbq
  have HCV := Lib.hid (fun (W : World) (q : Option Addr) (qc : Nat) (hq : Src W q L2.length L2) => hq.convert (P := Try.prog) qc 30 5 9 Try.underlying30 Try.underlying5 Try.underlying9)
  obtain ⟨x9, hx9⟩ : ∃ x9 : ByteArray, x9 = ⟨L2.toArray⟩ := ⟨_, rfl⟩
  rw [← hx9] at hbq HCV
  clear hsame hx9
  go_wp2_with (first
    | (refine wpList_load_want (by kernel_rfl) 29 _ rfl (w7.heap.size) rfl 29 V2.cells (0, 0) _ (HB11.out.whole (y := (w7.heap.size, 29, V2.cells)) (by simp)) Try.underlying29 rfl HVi2.out ?_)
    | (refine wpList_load_want (by kernel_rfl) 29 _ rfl (w10.heap.size) rfl 29 V3.cells (0, 0) _ (HB11.out.whole (y := (w10.heap.size, 29, V3.cells)) (by simp)) Try.underlying29 rfl HVi3.out ?_)
    | (go_at_call 24; refine (HSM2.out _ (HB11.out.sc (V2, s2) (by simp)) (HB11.out.sc (V3, s3) (by simp))).mono ?_; rintro e w12 ⟨rfl, hb⟩; have HB12 := Lib.hid (HB11.out.later hb); have cv1 := HCV.out w12 A2 c2 (HB12.out.src (A2, L2) (by simp)); have cv2 := HCV.out w12 A3 c3 (HB12.out.src (A3, L2) (by simp)); clear hb))
  go_ret
  exact ⟨rfl, HB12.out.below⟩

set_option maxRecDepth 100000 in
set_option maxHeartbeats 8000000 in
theorem back_no (x : Pl) (A : Option Addr) (n c : Nat) (b : List UInt8) (V : ScV) (s : ScA) (w : World) (hs : Src w A n b) (hz : A = none → c = 0) (h : ScAt w V s) (hg : greatI s = 0) (hn : n ≤ 3000) (hf : failsL x 11 = 0) (hm : mayS x s.sc = false) :
    Calls Try.prog 6 #[.agg x.cells, .slice A n c, .agg V.cells] w fun e w' => e = .returned (.bool true) ∧ Below w.heap.size w w' := by
  have hX := held_new (held_new (held_start w) 23 x.cells) 29 V.cells
  simp only [List.nil_append, List.cons_append, World.size_alloc] at hX
  have HB0 := Lib.hid (show BK w ((w.alloc (.cells x.cells 23)).alloc (.cells V.cells 29)) [(w.heap.size, 23, x.cells), (w.heap.size + 1, 29, V.cells)] [(V, s)] [(A, b)] from ⟨hX, fun y hy => by
    rw [List.mem_singleton] at hy
    subst hy
    exact h.later hX.1, fun y hy => by
    rw [List.mem_singleton] at hy
    subst hy
    have : b.length = n := hs.1
    rw [this]
    exact hs.below hX.1⟩)
  have HS := Lib.hid x.cellsL
  have HV := Lib.hid V.info
  have HA := Lib.hid (fun W => aliveS_any W)
  have HG := Lib.hid (fun W hW => great_any W V s hW)
  have HL := Lib.hid (show b.length = n from hs.1)
  rw [hg] at HG
  have HC := Lib.hid (chk_yes hf)
  have hx := okp_of hf
  have HX := Lib.hid hx
  have HF := Lib.hid hf
  have HZ := Lib.hid hz
  have HM := Lib.hid hm
  have d1 : decide ((3000 : Int) < (n : Int)) = false := by simp only [decide_eq_false_iff_not]; omega
  have hmayD : mayS x (decS x b) = true := by unfold mayS; rw [dec_ok hx b, hf]; rfl
  have HMD := Lib.hid hmayD
  have HOD := Lib.hid (dec_ok hx b)
  obtain ⟨L2, hL2⟩ : ∃ L2, L2 = encS x (decS x b) := ⟨_, rfl⟩
  have hl2 : L2.length ≤ 20000 := by rw [hL2]; exact enc_short hx (dec_ok hx b)
  have HL2 := Lib.hid hL2
  clear hX h hs hx hf hg hm hz hmayD hL2
  go_enter Try.func6, Try.ntmps6
  go_upto_region 4 with (first
    | (go_at_call 43; refine (HA.out _).mono ?_; rintro e w1 ⟨rfl, hb1⟩; have HB1 := Lib.hid (HB0.out.later hb1); clear hb1)
    | (refine wpList_load_row rfl 29 _ rfl (w.heap.size + 1) rfl 29 V.cells (0, 0) _ (HB1.out.whole (y := (w.heap.size + 1, 29, V.cells)) (by simp)) Try.underlying29 rfl HV.out ?_)
    | (go_at_call 10; refine (HG.out _ (HB1.out.sc (V, s) (by simp))).mono ?_; rintro e w2 ⟨rfl, hb2⟩; have HB2 := Lib.hid (HB1.out.later hb2); clear hb2)
    | (refine wpList_load_want (by kernel_rfl) 23 _ rfl w.heap.size rfl 23 x.cells (0, 0) _ (HB2.out.whole (y := (w.heap.size, 23, x.cells)) (by simp)) Try.underlying23 rfl HS.out.plan ?_)
    | (go_at_call 44; refine (HC.out _).mono ?_; rintro e w3 ⟨rfl, hb3⟩; have HB3 := Lib.hid (HB2.out.later hb3); clear hb3))
  clear HA HG HC HB0 HB1 HB2
  go_upto_region 9 with (first
    | (refine wpList_load_row rfl 23 _ rfl w.heap.size rfl 23 x.cells (0, 0) _ (HB3.out.whole (y := (w.heap.size, 23, x.cells)) (by simp)) Try.underlying23 rfl HS.out.plan ?_)
    | (refine wpList_load_row rfl 29 _ rfl (w.heap.size + 1) rfl 29 V.cells (0, 0) _ (HB3.out.whole (y := (w.heap.size + 1, 29, V.cells)) (by simp)) Try.underlying29 rfl HV.out ?_)
    | (go_at_call 13; refine (encode_no x V s _ (HB3.out.sc (V, s) (by simp)) HM.out).mono ?_; rintro e w6 ⟨rfl, hb⟩; have HB6 := Lib.hid (HB3.out.later hb); clear hb))
  clear HB3
  go_upto_region 10 with (first
    | (refine wpList_load_row rfl 23 _ rfl w.heap.size rfl 23 x.cells (0, 0) _ (HB6.out.whole (y := (w.heap.size, 23, x.cells)) (by simp)) Try.underlying23 rfl HS.out.plan ?_)
    | (go_at_call 15; refine (Decode_sc x HF.out A n c b _ (by have h9 := HB6.out.src (A, b) (by simp); simp only [HL.out] at h9; exact h9) HZ.out (by omega)).mono ?_; rintro e w7 ⟨V2, s2, rfl, hsc, hdec, hb⟩; have HB7 := Lib.hid ((HB6.out.later hb).script hsc); have HD2 := Lib.hid hdec; have HVi2 := Lib.hid V2.info; have HVo2 := Lib.hid V2.one; clear hb hsc hdec)
    | (refine wpList_store_last (w := w7) rfl 29 (.tmp 12) (.tmp 65) rfl _ V2.cells rfl rfl 29 _ rfl HVi2.out rfl HVo2.out ?_))
  clear HB6
  obtain ⟨X7, hX7⟩ : ∃ X, X = w7.alloc (.cells V2.cells 29) := ⟨_, rfl⟩
  have HB7b := Lib.hid (show BK w X7 _ _ _ from by rw [hX7]; exact HB7.out.box 29 V2.cells)
  rw [← hX7]
  clear hX7 HB7
  have HCK := Lib.hid (fun W h1 => CheckS_any x V2 s2 W h1)
  rw [HD2.out, HMD.out] at HCK
  unfold errS at HCK
  rw [if_pos rfl] at HCK
  go_upto_region 12 with (first
    | (refine wpList_load_want (by kernel_rfl) 23 _ rfl w.heap.size rfl 23 x.cells (0, 0) _ (HB7b.out.whole (y := (w.heap.size, 23, x.cells)) (by simp)) Try.underlying23 rfl HS.out.plan ?_)
    | (refine wpList_load_want (by kernel_rfl) 29 _ rfl (w7.heap.size) rfl 29 V2.cells (0, 0) _ (HB7b.out.whole (y := (w7.heap.size, 29, V2.cells)) (by simp)) Try.underlying29 rfl HVi2.out ?_)
    | (go_at_call 18; refine (HCK.out _ (HB7b.out.sc (V2, s2) (by simp))).mono ?_; rintro e w8 ⟨rfl, hb⟩; have HB8 := Lib.hid (HB7b.out.later hb); clear hb))
  clear HB7b HCK
  have HM2 := Lib.hid (show mayS x s2.sc = true from by rw [HD2.out]; exact HMD.out)
  have HE2 := Lib.hid (show encS x s2.sc = L2 from by rw [HD2.out]; exact HL2.out.symm)
  go_upto_region 13 with (first
    | (refine wpList_load_row rfl 23 _ rfl w.heap.size rfl 23 x.cells (0, 0) _ (HB8.out.whole (y := (w.heap.size, 23, x.cells)) (by simp)) Try.underlying23 rfl HS.out.plan ?_)
    | (refine wpList_load_row rfl 29 _ rfl (w7.heap.size) rfl 29 V2.cells (0, 0) _ (HB8.out.whole (y := (w7.heap.size, 29, V2.cells)) (by simp)) Try.underlying29 rfl HVi2.out ?_)
    | (go_at_call 13; refine (Encode_sc x V2 s2 _ (HB8.out.sc (V2, s2) (by simp)) HM2.out L2 HE2.out).mono ?_; rintro e w9 ⟨A2, c2, rfl, hsr, hz1, hb⟩; have HB9 := Lib.hid ((HB8.out.later hb).bytes hsr); have HZ2 := Lib.hid hz1; clear hb hsr hz1))
  clear HB8
  go_upto_region 14 with (first
    | (refine wpList_load_row rfl 23 _ rfl w.heap.size rfl 23 x.cells (0, 0) _ (HB9.out.whole (y := (w.heap.size, 23, x.cells)) (by simp)) Try.underlying23 rfl HS.out.plan ?_)
    | (go_at_call 15; refine (Decode_sc x HF.out A2 L2.length c2 L2 _ (HB9.out.src (A2, L2) (by simp)) HZ2.out (by omega)).mono ?_; rintro e w10 ⟨V3, s3, rfl, hsc, hdec, hb⟩; have HB10 := Lib.hid ((HB9.out.later hb).script hsc); have HD3 := Lib.hid hdec; have HVi3 := Lib.hid V3.info; have HVo3 := Lib.hid V3.one; clear hb hsc hdec)
    | (refine wpList_store_last (w := w10) rfl 29 (.tmp 16) (.tmp 85) rfl _ V3.cells rfl rfl 29 _ rfl HVi3.out rfl HVo3.out ?_))
  clear HB9
  obtain ⟨X10, hX10⟩ : ∃ X, X = w10.alloc (.cells V3.cells 29) := ⟨_, rfl⟩
  have HB10b := Lib.hid (show BK w X10 _ _ _ from by rw [hX10]; exact HB10.out.box 29 V3.cells)
  rw [← hX10]
  clear hX10 HB10
  have HSS := Lib.hid (show s3.sc = s2.sc from by rw [HD3.out, HL2.out, dec_enc HX.out HOD.out]; exact HD2.out.symm)
  have HM3 := Lib.hid (show mayS x s3.sc = true from by rw [HSS.out]; exact HM2.out)
  have HE3 := Lib.hid (show encS x s3.sc = L2 from by rw [HSS.out]; exact HE2.out)
  go_upto_region 15 with (first
    | (refine wpList_load_row rfl 23 _ rfl w.heap.size rfl 23 x.cells (0, 0) _ (HB10b.out.whole (y := (w.heap.size, 23, x.cells)) (by simp)) Try.underlying23 rfl HS.out.plan ?_)
    | (refine wpList_load_row rfl 29 _ rfl (w10.heap.size) rfl 29 V3.cells (0, 0) _ (HB10b.out.whole (y := (w10.heap.size, 29, V3.cells)) (by simp)) Try.underlying29 rfl HVi3.out ?_)
    | (go_at_call 13; refine (Encode_sc x V3 s3 _ (HB10b.out.sc (V3, s3) (by simp)) HM3.out L2 HE3.out).mono ?_; rintro e w11 ⟨A3, c3, rfl, hsr, hz1, hb⟩; have HB11 := Lib.hid ((HB10b.out.later hb).bytes hsr); clear hb hsr hz1))
  clear HB10b
  have hsame : decide (s2.sc = s3.sc) = true := by rw [HSS.out]; exact decide_eq_true rfl
  have HSM2 := Lib.hid (fun W h1 h2 => Same_any V2 V3 s2 s3 W h1 h2)
  rw [hsame] at HSM2
  have hbq := str_beq L2 L2
  rw [decide_eq_true rfl] at hbq
  have HCV := Lib.hid (fun (W : World) (q : Option Addr) (qc : Nat) (hq : Src W q L2.length L2) => hq.convert (P := Try.prog) qc 30 5 9 Try.underlying30 Try.underlying5 Try.underlying9)
  obtain ⟨x9, hx9⟩ : ∃ x9 : ByteArray, x9 = ⟨L2.toArray⟩ := ⟨_, rfl⟩
  rw [← hx9] at hbq HCV
  clear hsame hx9
  go_wp2_with (first
    | (refine wpList_load_want (by kernel_rfl) 29 _ rfl (w7.heap.size) rfl 29 V2.cells (0, 0) _ (HB11.out.whole (y := (w7.heap.size, 29, V2.cells)) (by simp)) Try.underlying29 rfl HVi2.out ?_)
    | (refine wpList_load_want (by kernel_rfl) 29 _ rfl (w10.heap.size) rfl 29 V3.cells (0, 0) _ (HB11.out.whole (y := (w10.heap.size, 29, V3.cells)) (by simp)) Try.underlying29 rfl HVi3.out ?_)
    | (go_at_call 24; refine (HSM2.out _ (HB11.out.sc (V2, s2) (by simp)) (HB11.out.sc (V3, s3) (by simp))).mono ?_; rintro e w12 ⟨rfl, hb⟩; have HB12 := Lib.hid (HB11.out.later hb); have cv1 := HCV.out w12 A2 c2 (HB12.out.src (A2, L2) (by simp)); have cv2 := HCV.out w12 A3 c3 (HB12.out.src (A3, L2) (by simp)); clear hb))
  go_ret
  exact ⟨rfl, HB12.out.below⟩

theorem backLaw_any (x : Pl) (A : Option Addr) (n c : Nat) (b : List UInt8) (V : ScV) (s : ScA) (w : World) (hs : Src w A n b) (hz : A = none → c = 0) (h : ScAt w V s) :
    Calls Try.prog 6 #[.agg x.cells, .slice A n c, .agg V.cells] w fun e w' => e = .returned (.bool true) ∧ Below w.heap.size w w' := by
  by_cases hno : greatI s = 0 ∧ n ≤ 3000 ∧ failsL x 11 = 0
  · cases hm : mayS x s.sc with
    | true => exact back_yes x A n c b V s w hs hz h hno.1 hno.2.1 hno.2.2 hm
    | false => exact back_no x A n c b V s w hs hz h hno.1 hno.2.1 hno.2.2 hm
  · exact back_off x A n c b V s w hs h hno
end Go.Proofs.Ytljcaigaofalbaa
