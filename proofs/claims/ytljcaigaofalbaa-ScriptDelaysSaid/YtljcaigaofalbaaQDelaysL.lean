/- ScriptDelays, of a slice that reads as bytes. No condition. -/
import Derived.Test.YtljcaigaofalbaaQY
import Derived.Test.YtljcaigaofalbaaQV
namespace Go.Proofs.Ytljcaigaofalbaa
open Go.RowKit Go.Shelf

/-- The worst of what the faults say. -/
def worstF (N a n r c : Int) : List Ft → Int → Int
  | [], z => z
  | f :: fs, z => worstF N a n r c fs (if metA f N a n r c then (if f.cut then max z 1 else 2) else z)
theorem worst_two (N a n r c : Int) : ∀ fs : List Ft, worstF N a n r c fs 2 = 2
  | [] => rfl
  | f :: fs => by
    unfold worstF
    have e : (if metA f N a n r c then (if f.cut then max (2 : Int) 1 else 2) else 2) = 2 := by
      split
      · split
        · rfl
        · rfl
      · rfl
    rw [e]
    exact worst_two N a n r c fs
theorem worst_heard (N a n r c : Int) : ∀ (fs : List Ft) (z : Int), (z = 0 ∨ z = 1) → worstF N a n r c fs z = heardF N a n r c fs z
  | [], z, _ => rfl
  | f :: fs, z, hz => by
    unfold worstF heardF
    by_cases hm : metA f N a n r c = true
    · rw [if_pos hm, if_pos hm]
      by_cases hc : f.cut = true
      · rw [if_pos hc, if_pos hc]
        have e : max z 1 = 1 := by omega
        rw [e]
        exact worst_heard N a n r c fs 1 (.inr rfl)
      · rw [if_neg hc, if_neg hc]
        exact worst_two N a n r c fs
    · rw [if_neg hm, if_neg hm]
      exact worst_heard N a n r c fs z hz
theorem met_iff2 {f : Ft} {N a n r c : Int} (hc : 0 ≤ c ∧ c < 2) (hf : 1 ≤ f.c ∧ f.c ≤ 3) : metA f N a n r c = true ↔ ((f.s = a ∧ f.n = n) ∧ (f.r = r ∨ f.r = N)) ∧ ¬ f.c = 2 - c := by
  unfold metA
  rw [decide_eq_true_eq]
  have e : f.c / 2 ^ c.toNat % 2 = 1 ↔ ¬ f.c = 2 - c := by
    obtain ⟨fs, fn, fr, fc, fb⟩ := f
    dsimp only at *
    rcases (show c = 0 ∨ c = 1 by omega) with rfl | rfl <;> rcases (show fc = 1 ∨ fc = 2 ∨ fc = 3 by omega) with rfl | rfl | rfl <;> decide
  rw [e]

set_option maxRecDepth 100000 in
set_option maxHeartbeats 8000000 in
theorem delaysLaw_any (x : Pl) (A : Option Addr) (n c : Nat) (b : List UInt8) (sd nt rc : Int) (ch : Bool) (w : World) (h : Src w A n b) (hz : A = none → c = 0) (h0 : 0 ≤ sd ∧ sd ≤ 255) (h1 : 0 ≤ nt ∧ nt ≤ 255) (h2 : 0 ≤ rc ∧ rc ≤ 255) :
    Calls Try.prog 7 #[.agg x.cells, .slice A n c, .int .u8 sd, .int .u8 nt, .int .u8 rc, .bool ch] w fun e w' => e = .returned (.bool true) ∧ Below w.heap.size w w' := by
  have hb0 : Below w.heap.size w (w.alloc (.cells x.cells 23)) := (Below.refl _ _).alloc (Nat.le_refl _) _
  have hP0 := Whole.new w 23 x.cells
  have H0 := Lib.hid (And.intro hb0 hP0)
  have HS := Lib.hid x.cellsL
  have HA := Lib.hid (fun W => aliveS_any W)
  have HSr := Lib.hid (And.intro h hz)
  clear hb0 hP0 h hz
  by_cases hn1 : 3000 < n
  · have d1 : decide ((3000 : Int) < (n : Int)) = true := by simp only [decide_eq_true_eq]; omega
    go_enter Try.func7, Try.ntmps7
    go_wp2_with (go_at_call 43; refine (HA.out _).mono ?_; rintro e w1 ⟨rfl, hb1⟩; have HB1 := Lib.hid (k_then hb1 H0.out.1); clear hb1)
    go_ret
    exact ⟨rfl, HB1.out⟩
  have d1 : decide ((3000 : Int) < (n : Int)) = false := by simp only [decide_eq_false_iff_not]; omega
  by_cases hf : failsL x 11 = 0
  case neg =>
    have HC := Lib.hid (chk_no hf)
    go_enter Try.func7, Try.ntmps7
    go_wp2_with (first
      | (go_at_call 43; refine (HA.out _).mono ?_; rintro e w1 ⟨rfl, hb1⟩; have HB1 := Lib.hid (And.intro (k_then hb1 H0.out.1) (k_later hb1 H0.out.2)); clear hb1)
      | (refine wpList_load_want (by kernel_rfl) 23 (.tmp 6) rfl w.heap.size rfl 23 x.cells (0, 0) _ HB1.out.2 Try.underlying23 rfl HS.out.plan ?_)
      | (go_at_call 44; refine (HC.out _).mono ?_; rintro e w2 ⟨rfl, hb2⟩; have HB2 := Lib.hid (k_then hb2 HB1.out.1); clear hb2))
    go_ret
    exact ⟨rfl, HB2.out⟩
  have HC := Lib.hid (chk_yes hf)
  have hx := okp_of hf
  have N1 := hx.n1
  have N2 := hx.n2
  have D1 := hx.d1
  have D2 := hx.d2
  have D3 := hx.d3
  have HX := Lib.hid hx
  have HF := Lib.hid hf
  have HD := Lib.hid (fun W (hb : Below w.heap.size w W) => Decode_sc x hf A n c b W (HSr.out.1.below hb) HSr.out.2 (by omega))
  have HOK := Lib.hid (dec_ok hx b)
  clear hx hf
  go_enter Try.func7, Try.ntmps7
  go_upto_region 7 with (first
    | (go_at_call 43; refine (HA.out _).mono ?_; rintro e w1 ⟨rfl, hb1⟩; have HB1 := Lib.hid (And.intro (k_then hb1 H0.out.1) (k_later hb1 H0.out.2)); clear hb1)
    | (refine wpList_load_want (by kernel_rfl) 23 (.tmp 6) rfl w.heap.size rfl 23 x.cells (0, 0) _ HB1.out.2 Try.underlying23 rfl HS.out.plan ?_)
    | (go_at_call 44; refine (HC.out _).mono ?_; rintro e w2 ⟨rfl, hb2⟩; have HB2 := Lib.hid (And.intro (k_then hb2 HB1.out.1) (k_later hb2 HB1.out.2)); clear hb2)
    | (refine wpList_load_row rfl 23 (.tmp 6) rfl w.heap.size rfl 23 x.cells (0, 0) _ HB2.out.2 Try.underlying23 rfl HS.out.plan ?_)
    | (go_at_call 15; refine (HD.out _ HB2.out.1).mono ?_; rintro e wd ⟨V, s, rfl, hsc, hdec, hb⟩; have H6 := Lib.hid (And.intro (k_then hb HB2.out.1) (And.intro (k_later hb HB2.out.2) (And.intro hsc hdec))); have HVi := Lib.hid V.info; have HVo := Lib.hid V.one; clear hb hsc hdec)
    | (refine wpList_store_last (w := wd) rfl 29 (.tmp 14) (.tmp 45) rfl _ V.cells rfl rfl 29 _ rfl HVi.out rfl HVo.out ?_))
  obtain ⟨W8, hW8⟩ : ∃ W8, W8 = wd.alloc (.cells V.cells 29) := ⟨_, rfl⟩
  have hb8 : Below wd.heap.size wd W8 := by rw [hW8]; exact (Below.refl _ _).alloc (Nat.le_refl _) _
  have hV8 : Whole W8 wd.heap.size 29 V.cells := by rw [hW8]; exact Whole.new wd _ _
  have hX : Held w [(w.heap.size, 23, x.cells), (wd.heap.size, 29, V.cells)] W8 := ⟨k_then hb8 H6.out.1, fun y hy => by
    simp only [List.mem_cons, List.not_mem_nil, or_false] at hy
    rcases hy with rfl | rfl
    · exact k_later hb8 H6.out.2.1
    · exact hV8⟩
  have HSc := Lib.hid (H6.out.2.2.1.later hb8)
  have HDec := Lib.hid H6.out.2.2.2
  rw [← hW8]
  clear hW8 hb8 hV8 HD H6
  generalize wd.heap.size = bs at *
  have HX8 := Lib.hid hX
  have p0 := (held1 hX).cell 0
  simp [Pl.cells] at p0
  clear hX HB2 HB1
  have q1 : sd.tmod x.nodes = sd % x.nodes := Int.tmod_eq_emod_of_nonneg h0.1
  have q2 : rc.tmod x.nodes = rc % x.nodes := Int.tmod_eq_emod_of_nonneg h2.1
  have N0 : ¬ x.nodes = 0 := by omega
  have hX0 : 0 ≤ sd % x.nodes ∧ sd % x.nodes < x.nodes := ⟨Int.emod_nonneg _ N0, Int.emod_lt_of_pos _ (by omega)⟩
  have hY0 : 0 ≤ rc % x.nodes ∧ rc % x.nodes < x.nodes := ⟨Int.emod_nonneg _ N0, Int.emod_lt_of_pos _ (by omega)⟩
  generalize sd % x.nodes = X at *
  generalize rc % x.nodes = Y at *
  go_quiet (fail)
  obtain ⟨cc, hcc⟩ : ∃ cc : Int, cc = if ch then 1 else 0 := ⟨_, rfl⟩
  have hc01 : 0 ≤ cc ∧ cc < 2 := by rw [hcc]; cases ch <;> decide
  have HCC := Lib.hid hcc
  clear p0 q1 q2 hcc
  go_upto_if 61 with fail
  go_cut [19] (fun s19 wx => s19 = .int .i64 cc ∧ Held w [(w.heap.size, 23, x.cells), (bs, 29, V.cells)] wx ∧ ScAt wx V s)
  case first =>
    have hX9 := held_drew HX8.out nq
    have hs9 := HSc.out.later (below_drewN (Below.refl _ _) nq)
    have HX9 := Lib.hid (And.intro hX9 hs9)
    clear hX9 hs9
    cases ch
    · have e9 : cc = 0 := HCC.out
      go_wp2_with fail
      go_meet
      exact ⟨by rw [e9], HX9.out⟩
    · have e9 : cc = 1 := HCC.out
      go_wp2_with fail
      go_meet
      exact ⟨by rw [e9], HX9.out⟩
  case rest =>
    obtain ⟨rfl, hX, hsc⟩ := hcut
    have HX9 := Lib.hid hX
    have HS9 := Lib.hid hsc
    have hok : okS x s.sc = true := by rw [HDec.out]; exact HOK.out
    have hmay : mayS x s.sc = true := by unfold mayS; rw [hok, HF.out]; rfl
    have hA : okA x.nodes X nt Y cc = true := by unfold okA; rw [decide_eq_true_eq]; omega
    obtain ⟨_, _, hd256, _, hf64, _, _, hde, _, hfe⟩ := okS_iff.1 hok
    have hde : ∀ j, j < s.delays.length → 0 ≤ s.delays.getD j default ∧ s.delays.getD j default ≤ x.dmax - x.dmin := fun j hj => okDel_iff.1 (hde _ (getD_mem (xs := s.delays) hj))
    have hlf : s.faults.length = V.f.n := hsc.f.len
    have hld : s.delays.length = V.d.n := hsc.d.len
    have hm4 : V.f.n ≤ 64 := by have : s.faults.length ≤ 64 := hf64; omega
    have hm2 : V.d.n ≤ 256 := by have : s.delays.length ≤ 256 := hd256; omega
    have hdl := Delay_any x V s X nt Y cc
    obtain ⟨d, hd⟩ : ∃ d, d = delayS x s.sc X nt Y cc := ⟨_, rfl⟩
    rw [← hd] at hdl
    have hdv : d = if s.delays.length = 0 then x.dmin else x.dmin + s.delays.getD ((seqA x.nodes X nt Y cc).toNat % s.delays.length) default := by rw [hd]; unfold delayS; rw [hmay, hA]; rfl
    have hdd : (s.delays.length = 0 ∧ d = x.dmin) ∨ ∃ j, j < s.delays.length ∧ d = x.dmin + s.delays.getD j default := by
      rw [hdv]
      by_cases h0 : s.delays.length = 0
      · exact .inl ⟨h0, if_pos h0⟩
      · exact .inr ⟨_, Nat.mod_lt _ (by omega), if_neg h0⟩
    have hdb : x.dmin ≤ d ∧ d ≤ x.dmax := by
      rcases hdd with ⟨_, h⟩ | ⟨j, hj, h⟩
      · omega
      · have := hde j hj
        omega
    obtain ⟨g2, g3⟩ := hdb
    have hhr := Heard_any x V s X nt Y cc
    obtain ⟨ans, hans⟩ : ∃ ans, ans = heardF x.nodes X nt Y cc s.faults 0 := ⟨_, rfl⟩
    rw [show heardS x s.sc X nt Y cc = ans from by rw [hans]; unfold heardS; rw [hmay, hA]; rfl] at hhr
    have hwo : worstF x.nodes X nt Y cc s.faults 0 = ans := by rw [worst_heard _ _ _ _ _ _ _ (.inl rfl), ← hans]
    have HDl := Lib.hid hdl
    have HHr := Lib.hid hhr
    have HWo := Lib.hid hwo
    have HDD := Lib.hid hdd
    have HDe := Lib.hid hde
    have HFe := Lib.hid (show ∀ y ∈ s.faults, okFt x y = true from hfe)
    have HLn := Lib.hid (And.intro hlf hld)
    clear hX hsc hok hmay hA hd256 hf64 hde hfe hlf hld hdl hd hdv hdd hhr hans hwo HX8 HSc HC
    go_wp2_with (first
      | (refine wpList_load_row rfl 23 (.tmp 6) rfl w.heap.size rfl 23 x.cells (0, 0) _ (held1 HX9.out) Try.underlying23 rfl HS.out.plan ?_)
      | (refine wpList_load_row rfl 29 (.tmp 14) rfl bs rfl 29 V.cells (0, 0) _ (held2 HX9.out) Try.underlying29 rfl HVi.out ?_)
      | (go_at_call 20; refine (HDl.out _ HS9.out).mono ?_; rintro e w7 ⟨rfl, hb7⟩; have hX7 := held_later hb7 HX9.out; have p7 := (held1 hX7).cell 7; simp [Pl.cells] at p7; have b4 := (sc_cells (held2 hX7)).2.2.2.2; unfold Sl.v at b4; have HX7 := Lib.hid (And.intro hX7 (HS9.out.later hb7)); clear hb7 hX7))
    clear p7 b4
    go_loopw [74, 22] (fun iv zv wr => ∃ (k : Nat) (z : Int), k ≤ V.f.n ∧ iv = .int .i64 (k : Int) ∧ zv = .int .i64 z ∧ (0 ≤ z ∧ z ≤ 2) ∧ (Held w [(w.heap.size, 23, x.cells), (bs, 29, V.cells)] wr ∧ ScAt wr V s) ∧ worstF x.nodes X nt Y cc (s.faults.drop k) z = ans) (fun iv _ _ => V.f.n - (intOf iv).toNat)
    case atStart => exact ⟨0, 0, by omega, rfl, rfl, ⟨by omega, by omega⟩, HX7.out, HWo.out⟩
    case round =>
      obtain ⟨k, z, hk, rfl, rfl, ⟨z0, z2⟩, hX, hans⟩ := hrel
      have HX3 := Lib.hid hX
      have HAN3 := Lib.hid hans
      have p0 := (held1 hX.1).cell 0
      simp [Pl.cells] at p0
      clear hX hans HX7
      by_cases hlt : k < V.f.n
      · obtain ⟨g, o, hA4, hR⟩ := HX3.out.2.f.get (i := k) hlt
        have hkl : k < s.faults.length := by rw [HLn.out.1]; exact hlt
        have hdr : s.faults.drop k = s.faults.getD k default :: s.faults.drop (k + 1) := by
          rw [List.drop_eq_getElem_cons hkl, List.getD_eq_getElem?_getD, List.getElem?_eq_getElem hkl]; rfl
        have hok : okFt x (s.faults.getD k default) = true := HFe.out _ (getD_mem (xs := s.faults) (j := k) hkl)
        obtain ⟨y, hy⟩ : ∃ y, y = s.faults.getD k default := ⟨_, rfl⟩
        rw [← hy] at hR hdr hok
        obtain ⟨_, _, _, _, _, _, hf1, hf2⟩ := okFt_iff.1 hok
        have hans := HAN3.out
        rw [hdr, worstF] at hans
        have hmi := met_iff2 (f := y) (N := x.nodes) (a := X) (n := nt) (r := Y) hc01 ⟨hf1, hf2⟩
        generalize metA y x.nodes X nt Y cc = mt at *
        obtain ⟨fs, fn, fr, fc, fb⟩ := y
        obtain ⟨r0, r1, r2, r3, r4⟩ := ftC_cells hR
        dsimp only at r0 r1 r2 r3 r4 hans hmi hf1 hf2
        have f1 : (0 : Int) ≤ (k : Int) := by omega
        have f2 : (k : Int) < (V.f.n : Int) := by omega
        have hba : ∀ cs, Below wr.heap.size wr (wr.alloc (.cells cs 54)) := fun cs => (Below.refl _ _).alloc (Nat.le_refl _) _
        have p1 := fun cs => k_cell (hba cs) p0
        have HX4 := Lib.hid (fun cs => And.intro (held_later (hba cs) HX3.out.1) (HX3.out.2.later (hba cs)))
        have HAN4 := Lib.hid hans
        have HMI := Lib.hid hmi
        rw [hA4]
        clear hR hkl hdr hok hy HAN3 hba hans hmi HX3 p0
        cases fb
        case false =>
          go_wp2
          all_goals (try simp only [ne_eq, bne_iff_ne, bne_eq_false_iff_eq] at *)
          all_goals first
            | (have hm : mt = true := HMI.out.2 (by omega)
               go_roundw
               case rel => exact ⟨k + 1, 2, by omega, by go_num, rfl, ⟨by omega, by omega⟩, HX4.out _, by have e := HAN4.out; rw [hm] at e; simpa using e⟩
               case measure => simp [intOf]; omega)
            | (have hm : mt = false := by
                 cases mt
                 · rfl
                 · have := HMI.out.1 rfl
                   omega
               go_roundw
               case rel => exact ⟨k + 1, z, by omega, by go_num, rfl, ⟨by omega, by omega⟩, HX4.out _, by have e := HAN4.out; rw [hm] at e; simpa using e⟩
               case measure => simp [intOf]; omega)
        case true =>
          go_wp2
          all_goals (try simp only [ne_eq, bne_iff_ne, bne_eq_false_iff_eq] at *)
          all_goals first
            | (have hm : mt = true := HMI.out.2 (by omega)
               have hx : max z 1 = (if z < 1 then 1 else z) := by split <;> omega
               go_roundw
               case rel => exact ⟨k + 1, (if z < 1 then 1 else z), by omega, by go_num, rfl, ⟨by split <;> omega, by split <;> omega⟩, HX4.out _, by have e := HAN4.out; rw [hm] at e; simpa [hx] using e⟩
               case measure => simp [intOf]; omega)
            | (have hm : mt = false := by
                 cases mt
                 · rfl
                 · have := HMI.out.1 rfl
                   omega
               go_roundw
               case rel => exact ⟨k + 1, z, by omega, by go_num, rfl, ⟨by omega, by omega⟩, HX4.out _, by have e := HAN4.out; rw [hm] at e; simpa using e⟩
               case measure => simp [intOf]; omega)
      · have hkm : s.faults.drop k = [] := List.drop_eq_nil_of_le (by rw [HLn.out.1]; omega)
        have hans := HAN3.out
        rw [hkm, worstF] at hans
        subst hans
        have b2 := (sc_cells (held2 HX3.out.1)).2.2.1
        unfold Sl.v at b2
        clear hkm HAN3 p0
        go_wp2
        clear b2
        go_loopw [117, 21] (fun iv lv wr => ∃ (k : Nat) (L : Int), k ≤ V.d.n ∧ iv = .int .i64 (k : Int) ∧ lv = .int .i64 L ∧ (Held w [(w.heap.size, 23, x.cells), (bs, 29, V.cells)] wr ∧ ScAt wr V s) ∧ L ≤ x.dmax ∧ ∀ j, j < k → L ≤ x.dmin + s.delays.getD j default) (fun iv _ _ => V.d.n - (intOf iv).toNat)
        case atStart => exact ⟨0, x.dmax, by omega, rfl, rfl, HX3.out, Int.le_refl _, fun j hj => absurd hj (Nat.not_lt_zero _)⟩
        case round =>
          obtain ⟨k2, L, hk2, rfl, rfl, hX, hL, hall⟩ := hrel
          have HX5 := Lib.hid hX
          have HAL := Lib.hid hall
          have p6 := (held1 hX.1).cell 6
          simp [Pl.cells] at p6
          clear hX hall HX3 hlt
          by_cases hlt2 : k2 < V.d.n
          · obtain ⟨g, o, hA2, hR⟩ := HX5.out.2.d.get (i := k2) hlt2
            have hdk := HDe.out k2 (by rw [HLn.out.2]; exact hlt2)
            obtain ⟨t, ht⟩ : ∃ t, t = s.delays.getD k2 default := ⟨_, rfl⟩
            rw [← ht] at hR hdk
            have r0 := numC_cell hR
            have HT := Lib.hid ht
            have f1 : (0 : Int) ≤ (k2 : Int) := by omega
            have f2 : (k2 : Int) < (V.d.n : Int) := by omega
            rw [hA2]
            clear hR ht
            go_wp2
            go_roundw
            case rel =>
              refine ⟨k2 + 1, min L (x.dmin + t), by omega, by go_num, ?_, HX5.out, by omega, fun j hj => ?_⟩
              · refine congrArg (Value.int .i64) ?_
                first | omega | (split <;> omega) | (simp only [Int.min_def]; split <;> split <;> omega)
              · rcases Nat.lt_or_ge j k2 with h | h
                · have := HAL.out j h
                  omega
                · obtain rfl : j = k2 := by omega
                  rw [← HT.out]
                  omega
            case measure => simp [intOf]; omega
          · have b2 := (sc_cells (held2 HX5.out.1)).2.2.1
            have p7 := (held1 HX5.out.1).cell 7
            simp [Pl.cells] at p7
            unfold Sl.v at b2
            have e2 : decide (x.dmin ≤ d) = true := decide_eq_true g2
            have e3 : decide (d ≤ x.dmax) = true := decide_eq_true g3
            by_cases h0 : V.d.n = 0
            · rw [h0] at b2
              go_wp2_with (first
                | (refine wpList_load_want (by kernel_rfl) 23 (.tmp 6) rfl w.heap.size rfl 23 x.cells (0, 0) _ (held1 HX5.out.1) Try.underlying23 rfl HS.out.plan ?_)
                | (refine wpList_load_want (by kernel_rfl) 29 (.tmp 14) rfl bs rfl 29 V.cells (0, 0) _ (held2 HX5.out.1) Try.underlying29 rfl HVi.out ?_)
                | (go_at_call 22; refine (HHr.out _ HX5.out.2).mono ?_; rintro e w9 ⟨rfl, hb9⟩; have HB9 := Lib.hid hb9; clear hb9))
              go_ret
              exact ⟨rfl, k_then HB9.out HX5.out.1.1⟩
            · have hne : ((V.d.n : Int) == 0) = false := beq_eq_false_iff_ne.2 (by omega)
              have g1 : L ≤ d := by
                rcases HDD.out with ⟨h, _⟩ | ⟨j, hj, h⟩
                · have := HLn.out.2
                  omega
                · have := HAL.out j (by have := HLn.out.2; omega)
                  omega
              have e1 : decide (L ≤ d) = true := decide_eq_true g1
              go_wp2_with (first
                | (refine wpList_load_want (by kernel_rfl) 23 (.tmp 6) rfl w.heap.size rfl 23 x.cells (0, 0) _ (held1 HX5.out.1) Try.underlying23 rfl HS.out.plan ?_)
                | (refine wpList_load_want (by kernel_rfl) 29 (.tmp 14) rfl bs rfl 29 V.cells (0, 0) _ (held2 HX5.out.1) Try.underlying29 rfl HVi.out ?_)
                | (go_at_call 22; refine (HHr.out _ HX5.out.2).mono ?_; rintro e w9 ⟨rfl, hb9⟩; have HB9 := Lib.hid hb9; clear hb9))
              go_ret
              exact ⟨rfl, k_then HB9.out HX5.out.1.1⟩
end Go.Proofs.Ytljcaigaofalbaa
