/- ScriptForms, of a script and bytes that are read. No condition. -/
import Derived.Test.YtljcaigaofalbaaQRDecX
namespace Go.Proofs.Ytljcaigaofalbaa
open Go.RowKit Go.Shelf

set_option maxRecDepth 100000 in
set_option maxHeartbeats 8000000 in
theorem formsLaw_any (x : Pl) (V : ScV) (s : ScA) (A : Option Addr) (n c : Nat) (l : List UInt8) (w : World) (h1 : ScAt w V s) (h2 : Src w A n l) :
    Calls Try.prog 3 #[.agg x.cells, .agg V.cells, .slice A n c] w fun e w' => e = .returned (.bool true) ∧ Below w.heap.size w w' := by
  obtain rfl : l.length = n := h2.1
  have hX := held_new (held_new (held_start w) 23 x.cells) 29 V.cells
  simp only [List.nil_append, List.cons_append, World.size_alloc] at hX
  have HB0 := Lib.hid (show BK w ((w.alloc (.cells x.cells 23)).alloc (.cells V.cells 29)) [(w.heap.size, 23, x.cells), (w.heap.size + 1, 29, V.cells)] [(V, s)] [(A, l)] from ⟨hX, fun y hy => by
    simp only [List.mem_cons, List.not_mem_nil, or_false] at hy
    subst hy
    exact h1.later hX.1, fun y hy => by
    simp only [List.mem_cons, List.not_mem_nil, or_false] at hy
    subst hy
    exact h2.below hX.1⟩)
  have HS := Lib.hid x.cellsL
  have HV := Lib.hid V.info
  have HG := Lib.hid (fun W hW => great_any W V s hW)
  have HSM := Lib.hid (fun hg => small_of h1 hg)
  clear hX h1 h2
  by_cases hg : greatI s = 0
  case neg =>
    rw [great_one hg] at HG
    clear hg
    go_enter Try.func3, Try.ntmps3
    go_wp2_with (first
      | (refine wpList_load_row rfl 29 (.tmp 4) rfl (w.heap.size + 1) rfl 29 V.cells (0, 0) _ (HB0.out.whole (y := (w.heap.size + 1, 29, V.cells)) (by simp)) Try.underlying29 rfl HV.out ?_)
      | (go_at_call 10; with_reducible refine (HG.out _ (HB0.out.sc (V, s) (by simp))).mono ?_; rintro e w2 ⟨rfl, hb2⟩; have HB2 := Lib.hid (HB0.out.later hb2); clear hb2))
    go_ret
    exact ⟨rfl, HB2.out.below⟩
  rw [hg] at HG
  by_cases hn : (3000 : Int) < (l.length : Int)
  · clear hg
    go_enter Try.func3, Try.ntmps3
    go_wp2_with (first
      | (refine wpList_load_row rfl 29 (.tmp 4) rfl (w.heap.size + 1) rfl 29 V.cells (0, 0) _ (HB0.out.whole (y := (w.heap.size + 1, 29, V.cells)) (by simp)) Try.underlying29 rfl HV.out ?_)
      | (go_at_call 10; with_reducible refine (HG.out _ (HB0.out.sc (V, s) (by simp))).mono ?_; rintro e w2 ⟨rfl, hb2⟩; have HB2 := Lib.hid (HB0.out.later hb2); clear hb2))
    go_ret
    exact ⟨rfl, HB2.out.below⟩
  have HSm := Lib.hid (HSM.out hg)
  have hn3 : l.length ≤ 3000 := by omega
  have HN := Lib.hid hn3
  clear hg HSM hn3
  obtain ⟨L, hL⟩ : ∃ L, L = encU x s.sc := ⟨_, rfl⟩
  obtain ⟨k1, hk1⟩ : ∃ k, k = errS (mayS x s.sc) := ⟨_, rfl⟩
  obtain ⟨D, hD⟩ : ∃ D, D = decU x l := ⟨_, rfl⟩
  obtain ⟨k2, hk2⟩ : ∃ k, k = decE x := ⟨_, rfl⟩
  have HL := Lib.hid hL.symm
  have HK1 := Lib.hid hk1.symm
  have HD := Lib.hid hD.symm
  have HK2 := Lib.hid hk2.symm
  clear hL hk1 hD hk2
  obtain ⟨i0, hi0, hi1, hi2, hi3⟩ := info_parts u8_info
  have HI := Lib.hid (And.intro hi0 (And.intro hi1 (And.intro hi2 hi3)))
  clear hi0 hi1 hi2 hi3
  go_enter Try.func3, Try.ntmps3
  go_upto_region 3 with (first
    | (refine wpList_load_row rfl 29 (.tmp 4) rfl (w.heap.size + 1) rfl 29 V.cells (0, 0) _ (HB0.out.whole (y := (w.heap.size + 1, 29, V.cells)) (by simp)) Try.underlying29 rfl HV.out ?_)
    | (go_at_call 10; with_reducible refine (HG.out _ (HB0.out.sc (V, s) (by simp))).mono ?_; rintro e w2 ⟨rfl, hb2⟩; have HB2 := Lib.hid (HB0.out.later hb2); clear hb2))
  clear HG HB0 hn
  go_upto_region 4 with (first
    | (refine wpList_load_row rfl 29 (.tmp 4) rfl (w.heap.size + 1) rfl 29 V.cells (0, 0) _ (HB2.out.whole (y := (w.heap.size + 1, 29, V.cells)) (by simp)) Try.underlying29 rfl HV.out ?_)
    | (go_at_call 11; refine (refcopy5 V s _ (HB2.out.sc (V, s) (by simp)) HSm.out.1 HSm.out.2).mono ?_; rintro e w3 ⟨S, s0, rfl, hs0, he0, hb⟩; have HB3 := Lib.hid ((HB2.out.later hb).script hs0); have HE0 := Lib.hid he0; have HSi := Lib.hid S.info; have HSo := Lib.hid S.one; clear hs0 he0 hb)
    | (go_at_call 12; refine (twin_any A l.length c l _ (HB3.out.src (A, l) (by simp)) (by have := HN.out; omega)).mono ?_; rintro e w4 ⟨vt, rfl, ho, hb⟩; obtain ⟨pt, qt, zt, rfl⟩ := own_val ho; have HB4 := Lib.hid (And.intro hb ho); clear ho hb)
    | (at_builtin; refine wpList_append_src _ rfl (.tmp 30) (.tmp 31) 30 rfl w3.heap.size 5 i0 Try.underlying30 HI.out.1 HI.out.2.1 HI.out.2.2.1 HI.out.2.2.2 (.slice pt qt zt) l.length (bv l) rfl (HB4.out.2.alloc _) _ 1 1 [7] rfl (src_one (a := 7) (Whole.new w4 5 #[.int .u8 7])) (by have := HN.out; omega) (by have := HB4.out.1.size; simp; omega) ?_; intro vt2 w5 e1 e2 e3
       have hb5 : Below w3.heap.size w3 w5 := (HB4.out.1.alloc HB4.out.1.size _).grown e2 (by have := HB4.out.1.size; simp; omega) (fun j hj => (own_typed HB4.out.2 hj).1)
       rw [← bv_append] at e1
       obtain ⟨A9, c9, rfl, hc9, hs9, _, hz9⟩ := Src.of_own e1
       have HA9 := Lib.hid (And.intro hc9 (fun e => (hz9 e).1))
       have HB5 := Lib.hid ((HB3.out.later hb5).bytes (b := l ++ [7]) (by rw [List.length_append]; exact hs9))
       clear e1 e2 e3 hb5 hc9 hs9 hz9)
    | (refine wpList_store_last (w := w5) rfl 29 (.tmp 7) (.tmp 28) rfl _ S.cells rfl rfl 29 _ rfl HSi.out rfl HSo.out ?_))
  have HB6 := Lib.hid (show BK w (w5.alloc (.cells S.cells 29)) [(w.heap.size, 23, x.cells), (w.heap.size + 1, 29, V.cells), (w5.heap.size, 29, S.cells)] [(V, s), (S, s0)] [(A, l), (A9, l ++ [7])] from HB5.out.box 29 S.cells)
  clear HB2 HB3 HB4 HB5
  generalize w5.alloc (.cells S.cells 29) = W6 at *
  generalize w5.heap.size = b5 at *
  have HSV := Lib.hid HSi.out
  go_upto_region 5 with (first
    | (refine wpList_load_row rfl 23 (.tmp 3) rfl w.heap.size rfl 23 x.cells (0, 0) _ (HB6.out.whole (y := (w.heap.size, 23, x.cells)) (by simp)) Try.underlying23 rfl HS.out.plan ?_)
    | (refine wpList_load_row rfl 29 (.tmp 7) rfl b5 rfl 29 S.cells (0, 0) _ (HB6.out.whole (y := (b5, 29, S.cells)) (by simp)) Try.underlying29 rfl HSi.out ?_)
    | (go_at_call 13; refine (Encode_u x S s0 _ (HB6.out.sc (S, s0) (by simp)) L k1 (by rw [HE0.out]; exact HL.out) (by rw [HE0.out]; exact HK1.out)).mono ?_; rintro e w7 ⟨A1, c1, rfl, hs1, hb⟩; have HB7 := Lib.hid ((HB6.out.later hb).bytes hs1); clear hs1 hb))
  go_upto_region 6 with (first
    | (refine wpList_load_row rfl 23 (.tmp 3) rfl w.heap.size rfl 23 x.cells (0, 0) _ (HB7.out.whole (y := (w.heap.size, 23, x.cells)) (by simp)) Try.underlying23 rfl HS.out.plan ?_)
    | (refine wpList_load_row rfl 29 (.tmp 4) rfl (w.heap.size + 1) rfl 29 V.cells (0, 0) _ (HB7.out.whole (y := (w.heap.size + 1, 29, V.cells)) (by simp)) Try.underlying29 rfl HV.out ?_)
    | (go_at_call 14; refine (refEncode_u x V s _ (HB7.out.sc (V, s) (by simp)) L k1 HL.out HK1.out).mono ?_; rintro e w8 ⟨A2, c2, rfl, hs2, hb⟩; have HB8 := Lib.hid (show BK w w8 [(w.heap.size, 23, x.cells), (w.heap.size + 1, 29, V.cells), (b5, 29, S.cells)] [(V, s), (S, s0)] [(A, l), (A9, l ++ [7]), (A1, L), (A2, L)] from (HB7.out.later hb).bytes hs2); clear hs2 hb))
  clear HB6 HB7
  obtain ⟨b9, o9, rfl, _⟩ := (HB8.out.src (A9, l ++ [7]) (by simp)).2 (by simp)
  have hs9 : Src w8 (some ⟨b9, o9, none⟩) l.length l := by
    have := src_take (HB8.out.src (some ⟨b9, o9, none⟩, l ++ [7]) (by simp)) l.length (by simp)
    simpa using this
  have HS9 := Lib.hid hs9
  have HDU := Lib.hid (fun W (hb : Below w8.heap.size w8 W) => (show Calls Try.prog 15 #[.agg #[.int .i64 x.nodes, .int .i64 x.kk, .int .i64 x.slot, .int .i64 x.sendOff, .int .i64 x.window, .int .i64 x.air, .int .i64 x.dmin, .int .i64 x.dmax, .int .i64 x.rho, .int .i64 x.pi, .int .i64 x.cap, .int .i64 x.delta, .int .i64 x.queue, .int .i64 x.burst, .int .i64 x.payload, .int .i64 x.horizon], .slice (some ⟨b9, o9, none⟩) l.length c9] W fun e w' => ∃ (V : ScV) (s : ScA), e = .returned (.tuple #[.agg V.cells, .int .i64 k2]) ∧ ScAt w' V s ∧ s.sc = D ∧ (ScNew W.heap.size V ∧ PlN W.heap.size w' s) ∧ Below W.heap.size W w' from Decode_u x (some ⟨b9, o9, none⟩) l.length c9 l W (HS9.out.below hb) (fun e => by cases e) (by have := HN.out; omega) D k2 HD.out HK2.out))
  have f1 : (0 : Int) ≤ (l.length : Int) := by omega
  have f2 : (l.length : Int) ≤ (c9 : Int) := by have := HA9.out.1; omega
  have HPL := Lib.hid (HB8.out.whole (y := (w.heap.size, 23, x.cells)) (by simp))
  have KS := Lib.hid (fun W (hb : Below w8.heap.size w8 W) => (show W.cell? ⟨w.heap.size, 0, none⟩ = some (.int .i64 x.nodes) ∧ W.cell? ⟨w.heap.size, 1, none⟩ = some (.int .i64 x.kk) ∧ W.cell? ⟨w.heap.size, 2, none⟩ = some (.int .i64 x.slot) ∧ W.cell? ⟨w.heap.size, 3, none⟩ = some (.int .i64 x.sendOff) ∧ W.cell? ⟨w.heap.size, 4, none⟩ = some (.int .i64 x.window) ∧ W.cell? ⟨w.heap.size, 5, none⟩ = some (.int .i64 x.air) ∧ W.cell? ⟨w.heap.size, 6, none⟩ = some (.int .i64 x.dmin) ∧ W.cell? ⟨w.heap.size, 7, none⟩ = some (.int .i64 x.dmax) ∧ W.cell? ⟨w.heap.size, 8, none⟩ = some (.int .i64 x.rho) ∧ W.cell? ⟨w.heap.size, 9, none⟩ = some (.int .i64 x.pi) ∧ W.cell? ⟨w.heap.size, 10, none⟩ = some (.int .i64 x.cap) ∧ W.cell? ⟨w.heap.size, 11, none⟩ = some (.int .i64 x.delta) ∧ W.cell? ⟨w.heap.size, 12, none⟩ = some (.int .i64 x.queue) ∧ W.cell? ⟨w.heap.size, 13, none⟩ = some (.int .i64 x.burst) ∧ W.cell? ⟨w.heap.size, 14, none⟩ = some (.int .i64 x.payload) ∧ W.cell? ⟨w.heap.size, 15, none⟩ = some (.int .i64 x.horizon) from pl16 (k_later hb HPL.out)))
  have F0 := Lib.hid (show Below w8.heap.size w8 w8.drew from (Below.refl _ _).drew)
  have F1 := Lib.hid (show Below w8.heap.size w8 (w8.alloc (.cells #[.slice none 0 0, .slice none 0 0, .slice none 0 0, .slice none 0 0, .slice none 0 0] 29)).drew from ((Below.refl _ _).alloc (Nat.le_refl _) _).drew)
  have Z1 := Lib.hid (show Whole (w8.alloc (.cells #[.slice none 0 0, .slice none 0 0, .slice none 0 0, .slice none 0 0, .slice none 0 0] 29)).drew w8.heap.size 29 #[.slice none 0 0, .slice none 0 0, .slice none 0 0, .slice none 0 0, .slice none 0 0] from (Whole.new w8 _ _).drew)
  clear hs9
  go_cut [13, 14] (fun s13 s14 wx => FormR w8 D k2 s13 s14 wx)
  case first =>
    go_region_held3 (fun W => W.cell? ⟨w.heap.size, 0, none⟩ = some (.int .i64 x.nodes) ∧ W.cell? ⟨w.heap.size, 1, none⟩ = some (.int .i64 x.kk) ∧ W.cell? ⟨w.heap.size, 2, none⟩ = some (.int .i64 x.slot) ∧ W.cell? ⟨w.heap.size, 3, none⟩ = some (.int .i64 x.sendOff) ∧ W.cell? ⟨w.heap.size, 4, none⟩ = some (.int .i64 x.window) ∧ W.cell? ⟨w.heap.size, 5, none⟩ = some (.int .i64 x.air) ∧ W.cell? ⟨w.heap.size, 6, none⟩ = some (.int .i64 x.dmin) ∧ W.cell? ⟨w.heap.size, 7, none⟩ = some (.int .i64 x.dmax) ∧ W.cell? ⟨w.heap.size, 8, none⟩ = some (.int .i64 x.rho) ∧ W.cell? ⟨w.heap.size, 9, none⟩ = some (.int .i64 x.pi) ∧ W.cell? ⟨w.heap.size, 10, none⟩ = some (.int .i64 x.cap) ∧ W.cell? ⟨w.heap.size, 11, none⟩ = some (.int .i64 x.delta) ∧ W.cell? ⟨w.heap.size, 12, none⟩ = some (.int .i64 x.queue) ∧ W.cell? ⟨w.heap.size, 13, none⟩ = some (.int .i64 x.burst) ∧ W.cell? ⟨w.heap.size, 14, none⟩ = some (.int .i64 x.payload) ∧ W.cell? ⟨w.heap.size, 15, none⟩ = some (.int .i64 x.horizon)) (first | with_reducible exact KS.out _ F0.out | with_reducible exact KS.out _ F1.out | with_reducible exact KS.out _ FB.out | with_reducible exact KS.out _ (FB.out.alloc FB.out.size _) | with_reducible exact KS.out _ (b5l FB.out FB.out.size _ _ _ _ _) | with_reducible exact KS.out _ (b5l FB.out (Nat.le_refl _) _ _ _ _ _)) (first
      | (go_at_call 15; ((first | with_reducible refine (HDU.out _ F0.out).mono ?_ | with_reducible refine (HDU.out _ F1.out).mono ?_); rintro e w9 ⟨⟨⟨B0, a0, d0⟩, ⟨B1, a1, d1⟩, ⟨B2, a2, d2⟩, ⟨B3, a3, d3⟩, ⟨B4, a4, d4⟩⟩, s', rfl, hq, hd, ⟨hv, hp⟩, hb⟩; have FB : Hid (Below w8.heap.size w8 w9) := (by first | exact k_then hb F0.out | exact k_then hb F1.out); have HQ := Lib.hid (And.intro hq (And.intro hd (And.intro hv (And.intro hp hb)))); (first | have Z7 : Whole w9 w8.heap.size 29 #[.slice none 0 0, .slice none 0 0, .slice none 0 0, .slice none 0 0, .slice none 0 0] := k_later hb Z1.out | skip); (first | (have y0 := Z7.cell 0; have y1 := Z7.cell 1; have y2 := Z7.cell 2; have y3 := Z7.cell 3; have y4 := Z7.cell 4; have q0 := Z7.frozen 0; have q1 := Z7.frozen 1; have q2 := Z7.frozen 2; have q3 := Z7.frozen 3; have q4 := Z7.frozen 4; simp at y0 y1 y2 y3 y4) | skip); clear hq hd hv hp hb; rw [cells_lit])))
    all_goals (go_wp2_with fail; go_meet)
    all_goals first
      | with_reducible exact formR_new HQ.out.1 HQ.out.2.1 HQ.out.2.2.2.1 (by simp) FB.out
      | with_reducible exact formR_set Z7 HQ.out.1 HQ.out.2.1 HQ.out.2.2.1 HQ.out.2.2.2.1 (by simp) (Nat.le_refl _) FB.out
      | (trace_state; sorry)
  case rest =>
    obtain ⟨B, U, u, rfl, rfl, hBx, hu, hud, hpl, hB9, hbx⟩ := hcut
    have HB9 := Lib.hid (HB8.out.later hbx)
    have HX := Lib.hid (And.intro hBx (And.intro hu (And.intro hpl hbx)))
    have HUD := Lib.hid (And.intro hud hB9)
    have HU := Lib.hid U.info
    clear hBx hu hud hpl hB9 hbx KS F0 F1 Z1 HPL HDU
    go_upto_region 8 with (first
      | (refine wpList_load_row rfl 23 (.tmp 3) rfl w.heap.size rfl 23 x.cells (0, 0) _ (HB9.out.whole (y := (w.heap.size, 23, x.cells)) (by simp)) Try.underlying23 rfl HS.out.plan ?_)
      | (go_at_call 16; refine (refDecode_u x A c l _ (HB9.out.src (A, l) (by simp)) (by have := HN.out; omega) D k2 HD.out HK2.out).mono ?_; rintro e wd ⟨V2, s2, rfl, hsc, hs2, hb⟩; have HB10 := Lib.hid ((HB9.out.later hb).script hsc); have HXd := Lib.hid (And.intro (k_later hb HX.out.1) (And.intro (HX.out.2.1.later hb) (And.intro (HX.out.2.2.1.later hb) (k_then hb HX.out.2.2.2)))); have HS2 := Lib.hid hs2; have HV2 := Lib.hid V2.info; have HVo := Lib.hid V2.one; clear hsc hs2 hb)
      | (refine wpList_store_last (w := wd) rfl 29 (.tmp 15) (.tmp 58) rfl _ V2.cells rfl rfl 29 _ rfl HV2.out rfl HVo.out ?_))
    have hba : Below wd.heap.size wd (wd.alloc (.cells V2.cells 29)) := (Below.refl _ _).alloc (Nat.le_refl _) _
    have HBb := Lib.hid (show BK w (wd.alloc (.cells V2.cells 29)) [(w.heap.size, 23, x.cells), (w.heap.size + 1, 29, V.cells), (b5, 29, S.cells), (wd.heap.size, 29, V2.cells)] [(V, s), (S, s0), (V2, s2)] [(A, l), (some ⟨b9, o9, none⟩, l ++ [7]), (A1, L), (A2, L)] from HB10.out.box 29 V2.cells)
    have HXb := Lib.hid (And.intro (k_later hba HXd.out.1) (And.intro (HXd.out.2.1.later hba) (And.intro (HXd.out.2.2.1.later hba) (k_then hba HXd.out.2.2.2))))
    clear HB9 HB10 HX HXd hba
    generalize wd.alloc (.cells V2.cells 29) = Wb at *
    generalize wd.heap.size = bd at *
    have q1 := fun y : Later Wb => later_conv y (HBb.out.src (A1, L) (by simp)) c1
    have q2 := fun y : Later Wb => later_conv y (HBb.out.src (A2, L) (by simp)) c2
    have hCS := fun y : Later Wb => refSame_any U V2 u s2 y.at_ (HXb.out.2.1.later y.below) ((HBb.out.sc (V2, s2) (by simp)).later y.below)
    have hCC := fun y : Later Wb => CheckS_any x S s0 y.at_ ((HBb.out.sc (S, s0) (by simp)).later y.below)
    have hCR := fun y : Later Wb => refCheckS_any x V s y.at_ ((HBb.out.sc (V, s) (by simp)).later y.below)
    have eS := decide_eq_true (show u.sc = s2.sc from HUD.out.1.trans HS2.out.symm)
    rw [eS] at hCS
    rw [HE0.out, HK1.out] at hCC
    rw [HK1.out] at hCR
    have CS := Lib.hid hCS
    have CC := Lib.hid hCC
    have CR := Lib.hid hCR
    clear hCS hCC hCR eS
    refine wp_region_later (by kernel_rfl) (by kernel_rfl) ?_
    repeat (first
      | go_big_quiet_skip
      | (go_big_quiet_want
         first
         | (refine quiet_load_row 23 (.tmp 3) rfl w.heap.size rfl 23 x.cells (0, 0) _ (later_row (HBb.out.whole (y := (w.heap.size, 23, x.cells)) (by simp))) Try.underlying23 rfl HS.out.plan ?_; simp only [Act.put, List.setIfInBounds_toArray, List.set_cons_succ, List.set_cons_zero]; go_big_quiet_on)
         | (refine quiet_load_row 29 (.tmp 4) rfl (w.heap.size + 1) rfl 29 V.cells (0, 0) _ (later_row (HBb.out.whole (y := (w.heap.size + 1, 29, V.cells)) (by simp))) Try.underlying29 rfl HV.out ?_; simp only [Act.put, List.setIfInBounds_toArray, List.set_cons_succ, List.set_cons_zero]; go_big_quiet_on)
         | (refine quiet_load_row 29 (.tmp 7) rfl b5 rfl 29 S.cells (0, 0) _ (later_row (HBb.out.whole (y := (b5, 29, S.cells)) (by simp))) Try.underlying29 rfl HSi.out ?_; simp only [Act.put, List.setIfInBounds_toArray, List.set_cons_succ, List.set_cons_zero]; go_big_quiet_on)
         | (refine quiet_load_row 29 (.tmp 13) rfl B rfl 29 U.cells (0, 0) _ (later_row HXb.out.1) Try.underlying29 rfl HU.out ?_; simp only [Act.put, List.setIfInBounds_toArray, List.set_cons_succ, List.set_cons_zero]; go_big_quiet_on)
         | (refine quiet_load_row 29 (.tmp 15) rfl bd rfl 29 V2.cells (0, 0) _ (later_row (HBb.out.whole (y := (bd, 29, V2.cells)) (by simp))) Try.underlying29 rfl HV2.out ?_; simp only [Act.put, List.setIfInBounds_toArray, List.set_cons_succ, List.set_cons_zero]; go_big_quiet_on)
         | (go_big_quiet_op
            first
            | go_big_quiet_on
            | go_big_quiet_call (first
              | (go_at_call 17; exact later_at _ CS.out)
              | (go_at_call 18; exact later_at _ CC.out)
              | (go_at_call 19; exact later_at _ CR.out)))))
    refine wpQuiet_nil ?_
    intro _ hw'
    obtain ⟨y9, hw''⟩ := hw'
    subst hw''
    have HX11 := Lib.hid (And.intro (k_later y9.below HXb.out.1) (And.intro (HXb.out.2.1.later y9.below) (And.intro (HXb.out.2.2.1.later y9.below) (k_then y9.below HXb.out.2.2.2))))
    clear CS CC CR q1 q2 HBb HXb
    generalize y9.at_ = W9 at *
    clear y9
    obtain ⟨hx1, hx2, hx3, hx4⟩ := HX11.out
    have KM := Lib.hid (show U.h.n ≤ 9223372036854775807 from Nat.le_trans hx2.h.row.cap hx2.h.row.max)
    have KB := Lib.hid (sc5 hx1).2.2.2.1
    have HRW := Lib.hid hx2.h
    have HPN := Lib.hid hx3
    have HM0 := Lib.hid (show MB w8 W9 W9 from ⟨SS.refl W9, hx4⟩)
    clear hx1 hx2 hx3 hx4 HX11
    have c9' := KB.out
    go_wp2
    clear c9'
    go_loopw [93] (fun iv wr => ∃ k : Nat, k ≤ U.h.n ∧ iv = .int .i64 (k : Int) ∧ MB w8 W9 wr) (fun iv _ => U.h.n - (intOf iv).toNat)
    case atStart => exact ⟨0, Nat.zero_le _, rfl, HM0.out⟩
    case round =>
      obtain ⟨k, hk, rfl, hM⟩ := hrel
      have HM1 := Lib.hid hM
      have c0 := hM.cell KB.out
      clear HM0
      by_cases hlt : k < U.h.n
      · obtain ⟨g, o, hA, hR⟩ := HRW.out.row.get (i := k) hlt
        have hkk : k < u.haps.length := by have := HRW.out.row.len; omega
        have hmem := getD_mem (xs := u.haps) (j := k) hkk
        have HPY := Lib.hid (And.intro (HRW.out.pl _ hmem) (HPN.out _ hmem))
        obtain ⟨y, hy⟩ : ∃ y, y = u.haps.getD k default := ⟨_, rfl⟩
        rw [← hy] at hR HPY
        obtain ⟨yk, yn, yt, yA, yc, yl⟩ := y
        have h3 := (hapC_cells hR).2.2.2
        dsimp only at *
        have KC := Lib.hid (And.intro KB.out h3)
        rw [hA] at c0 KC
        have d3 := hM.cell h3
        have i1 : (0 : Int) ≤ (k : Int) := by omega
        have i2 : (k : Int) < (U.h.n : Int) := by omega
        have i5 := KM.out
        have hyl : yl.length ≤ 9223372036854775807 := Nat.le_trans HPY.out.1.cap HPY.out.1.max
        clear hM hy hA hR h3 hmem
        go_wp2
        clear c0 d3
        go_loopw [103] (fun iv wx => ∃ j : Nat, j ≤ yl.length ∧ iv = .int .i64 (j : Int) ∧ MB w8 W9 wx) (fun iv _ => yl.length - (intOf iv).toNat)
        case atStart => exact ⟨0, Nat.zero_le _, rfl, HM1.out⟩
        case round =>
          obtain ⟨j, hj, rfl, hM⟩ := hrel
          have HM6 := Lib.hid hM
          have d0 := hM.cell KC.out.1
          have d1 := hM.cell KC.out.2
          clear HM1
          by_cases hlt2 : j < yl.length
          · obtain ⟨b, o2, e2, hcc⟩ := HPY.out.1.src.2 (Nat.lt_of_le_of_lt (Nat.zero_le _) hlt2)
            have h0 := hcc j hlt2
            obtain ⟨hb9, cur, hcur⟩ := HPY.out.2 ⟨b, o2, none⟩ e2
            have f0 := Whole.frozen (t := 5) (cs := cur) hcur (o2 + j)
            obtain ⟨m2, h0⟩ := hM.ss.ints _ _ _ h0
            have f0 := hM.ss.fr _ f0
            have e2 : yA = some ⟨b, o2, none⟩ := e2
            rw [e2] at d1
            have HMx := Lib.hid (fun m' => hM.set h0 hb9 m')
            have j1 : (0 : Int) ≤ (j : Int) := by omega
            have j2 : (j : Int) < (yl.length : Int) := by omega
            clear hM hcc hcur hb9 e2
            go_wp2
            go_roundw
            case rel => exact ⟨j + 1, by omega, by go_num, HMx.out _⟩
            case measure => simp [intOf]; omega
          · obtain rfl : j = yl.length := by omega
            clear hM d0 d1
            go_wp2
            go_roundw
            case rel => exact ⟨k + 1, by omega, by go_num, HM6.out⟩
            case measure => simp [intOf]; omega
      · have HBF := Lib.hid (HB8.out.later HM1.out.below)
        obtain rfl : k = U.h.n := by omega
        clear hM c0
        have e3 := decide_eq_true HE0.out
        have hc1 := refSame_any S V s0 s
        rw [e3] at hc1
        have HC1 := Lib.hid hc1
        clear hc1 e3
        go_wp2_with (first
          | (refine wpList_load_row rfl 29 (.tmp 4) rfl (w.heap.size + 1) rfl 29 V.cells (0, 0) _ (HBF.out.whole (y := (w.heap.size + 1, 29, V.cells)) (by simp)) Try.underlying29 rfl HV.out ?_)
          | (refine wpList_load_row rfl 29 (.tmp 7) rfl b5 rfl 29 S.cells (0, 0) _ (HBF.out.whole (y := (b5, 29, S.cells)) (by simp)) Try.underlying29 rfl HSi.out ?_)
          | (go_at_call 17; refine (HC1.out _ (HBF.out.sc (S, s0) (by simp)) (HBF.out.sc (V, s) (by simp))).mono ?_; rintro e wz ⟨rfl, hb⟩; have HBZ := Lib.hid (HBF.out.later hb); have qa := src_conv (HBZ.out.src (A, l) (by simp)) c; have hq : Src wz (some ⟨b9, o9, none⟩) (l.length + 1) (l ++ [7]) := (by rw [← show (l ++ [7]).length = l.length + 1 from by simp]; exact HBZ.out.src (some ⟨b9, o9, none⟩, l ++ [7]) (by simp)); have qb := src_conv hq c9; have hl9 := HN.out; clear hb hq))
        go_ret
        exact ⟨congrArg Ending.returned (congrArg Value.bool (cat_seven l)), HBZ.out.below⟩
end Go.Proofs.Ytljcaigaofalbaa
