/- The document's Parse, by a contract. No condition. -/
import Derived.Test.YtfiflcajkamliaaGreatDoorTRParse
namespace Go.Proofs.YtfiflcajkamliaaGreatDoor
open Go.RowKit Go.Shelf

theorem lineT_at {l : List UInt8} {k n : Nat} (h : lineT l = .at_ k n) : k < 16 ∧ n < 1000000000000000 := by
  unfold lineT at h
  split at h
  · cases h
  · split at h
    · cases h
    · rename_i k' n' hs
      cases h
      obtain ⟨h1, _, h3⟩ := sayT_some hs
      exact ⟨h1, h3⟩
theorem make_ints (w : World) : (Instr.makeSlice 68 (.int .i64 16) (.int .i64 16)).run Tryz.prog w = .ok (.slice (some ⟨w.heap.size, 0, none⟩) 16 16) (w.alloc (.cells (planL (oneI St8.start)).cells 3)) := by kernel_rfl
theorem make_longs (w : World) : (Instr.makeSlice 53 (.int .i64 16) (.int .i64 16)).run Tryz.prog w = .ok (.slice (some ⟨w.heap.size, 0, none⟩) 16 16) (w.alloc (.cells St8.start.plan.cells 2)) := by kernel_rfl
theorem count_start : St8.start.count = 0 := by decide

set_option maxRecDepth 100000 in
set_option maxHeartbeats 8000000 in
theorem refParse_any (l : List UInt8) (w : World) (hl : l.length ≤ 1000000) : Calls Tryz.prog 9 #[.string (txt l)] w fun e w' => e = .returned (parseV l) ∧ Below w.heap.size w w' := by
  obtain ⟨tl, htl⟩ : ∃ tl, tl = txt l := ⟨_, rfl⟩
  have hz : tl.size = l.length := by rw [htl]; exact txt_size l
  have HB := Lib.hid ((Below.refl w.heap.size w).alloc (Nat.le_refl _) (.cells zeroP.cells 23))
  have HP := Lib.hid (Whole.new w 23 zeroP.cells)
  by_cases h4 : 4000 < l.length
  · have HV := Lib.hid (show parseV l = .tuple #[.agg zeroP.cells, .int .i64 0, .int .i64 80] by
      have he : errT l = true := by simp [errT, h4]
      rw [parseV, planT, he, lineNo, if_pos h4]
      rfl)
    have h5 : 4000 < tl.size := by omega
    rw [← htl]
    clear htl hz
    go_enter Tryz.func9, Tryz.ntmps9
    go_wp2_with (refine wpList_store_row rfl 23 (.tmp 2) (.tmp 15) rfl w.heap.size zeroP.cells rfl rfl 23 zeroP.cells HP.out zeroP.cellsL.plan rfl zeroP.cellsL.one ?_)
    refine bodyPost_ret (v := parseV l) ?_ rfl ⟨rfl, below_setRow' HB.out (Nat.le_refl _) _⟩
    rw [HV.out]
    exact results_row2 rfl _ _ _ 23 _ (0, 0) _ rfl rfl rfl (setRow_whole HP.out) Tryz.underlying23 rfl zeroP.cellsL.plan
  have h5 : tl.size ≤ 4000 := by omega
  have hline : lineNo l = (scanT (linesT l) 1 St8.start).1 := if_neg h4
  have herr : errT l = (decide ((scanT (linesT l) 1 St8.start).1 ≠ 0) || decide ((scanT (linesT l) 1 St8.start).2.count ≠ 16)) := by simp [errT, h4]
  have HV := Lib.hid (show parseV l = .tuple #[.agg (if errT l then zeroP else (scanT (linesT l) 1 St8.start).2.plan).cells, .int .i64 (lineNo l : Nat), .int .i64 (if errT l then 80 else 0)] from rfl)
  rw [hline, herr] at HV
  have hrl := fun W => refLines_any l W (by omega)
  rw [← htl] at hrl ⊢
  have hop : ∀ W e W', FreshS W (linesT l) e W' → ∃ b c, e = .returned (.slice (some ⟨b, 0, none⟩) (linesT l).length c) ∧ W.heap.size ≤ b ∧ b < W'.heap.size ∧ (∀ k (hk : k < (linesT l).length), W'.cell? ⟨b, k, none⟩ = some (.string (txt (linesT l)[k]))) ∧ (∀ k, W'.frozen? ⟨b, k, none⟩ = false) ∧ Below W.heap.size W W' := fun W e W' h => h.opened (linesT_ne l)
  have hmem : ∀ x ∈ linesT l, x.length ≤ 4000000 := fun x hx => by have := line_le hx; omega
  have hnl := linesT_len l
  have HRL := Lib.hid hrl
  have HOP := Lib.hid hop
  have HMEM := Lib.hid hmem
  have HS1 := Lib.hid (Whole.new (w.alloc (.cells zeroP.cells 23)) 3 (planL (oneI St8.start)).cells)
  have HS2 := Lib.hid (Whole.new ((w.alloc (.cells zeroP.cells 23)).alloc (.cells (planL (oneI St8.start)).cells 3)) 2 St8.start.plan.cells)
  have hS : Below w.heap.size w (((w.alloc (.cells zeroP.cells 23)).alloc (.cells (planL (oneI St8.start)).cells 3)).alloc (.cells St8.start.plan.cells 2)) :=
    (HB.out.alloc HB.out.size _).alloc (by simp; omega) _
  have HBS := Lib.hid hS
  simp only [World.size_alloc] at HS1 HS2
  have hmk1 := make_ints
  have hmk2 := make_longs
  have HPL := Lib.hid (fun x nb W h => refPlan8_any x nb W h)
  clear hline herr hrl hop hmem htl hz h4 hS
  generalize linesT l = ls at *
  generalize parseV l = pv at *
  go_enter Tryz.func9, Tryz.ntmps9
  go_wp2_with (go_at_call 30; refine (HRL.out _).mono ?_; intro e w3 hf; obtain ⟨lb, lc, rfl, hlb, hlb2, hcell, hfz, hb⟩ := HOP.out _ _ _ hf; clear hf; have HT1 := Lib.hid (k_later hb (HS1.out.alloc _)); have HT2 := Lib.hid (k_later hb HS2.out); have HP3 := Lib.hid (k_later hb ((HP.out.alloc _).alloc _)); have HB3 := Lib.hid (k_then hb HBS.out); have HCE := Lib.hid hcell; have HFZ := Lib.hid hfz; have hlb3 : w.heap.size + 1 + 1 + 1 ≤ lb := by { simpa using hlb }; have HLB := Lib.hid (And.intro hlb3 hlb2); clear hb hcell hfz hlb hlb2 hlb3)
  clear HRL HOP hmk1 hmk2 HS1 HS2 HBS HP
  obtain ⟨sb, hsb⟩ : ∃ sb, sb = w.heap.size + 1 := ⟨_, rfl⟩
  obtain ⟨nb, hnb⟩ : ∃ nb, nb = w.heap.size + 1 + 1 := ⟨_, rfl⟩
  rw [← hsb] at HT1
  rw [← hnb] at HT2
  rw [← hnb, ← hsb]
  have HD := Lib.hid (And.intro hsb hnb)
  clear hsb hnb
  go_loopw [8, 9] (fun m i V => ∃ (k : Nat) (s : St8), k ≤ ls.length ∧ i = .int .i64 (k : Int) ∧ m = .int .i64 (s.count : Int) ∧ scanT (ls.drop k) (k + 1) s = scanT ls 1 St8.start ∧ Kept (fun j => j = sb ∨ j = nb) w3 V ∧ Whole V sb 3 (planL (oneI s)).cells ∧ Whole V nb 2 s.plan.cells) (fun _ i _ => ls.length - (intOf i).toNat)
  case atStart => exact ⟨0, St8.start, Nat.zero_le _, rfl, by rw [count_start]; rfl, rfl, Kept.refl _ _, HT1.out, HT2.out⟩
  case round =>
    obtain ⟨k, s, hk, rfl, rfl, hsc, hkp, hs1, hs2⟩ := hrel
    have hcnt := count_le s
    by_cases hlt : k < ls.length
    · have hc0 : wr.cell? ⟨lb, k, none⟩ = some (.string (txt ls[k])) := hkp.cell (p := ⟨lb, k, none⟩) (HCE.out k hlt) (by have h1 := HLB.out.1; have h2 := HD.out; simp only; omega)
      have hln := fun W => refLine_any ls[k] W (HMEM.out _ (List.getElem_mem hlt))
      have hdrop : ls.drop k = ls[k] :: ls.drop (k + 1) := List.drop_eq_getElem_cons hlt
      rw [hdrop, scanT] at hsc
      have HK := Lib.hid hkp
      have HQ1 := Lib.hid hs1
      have HQ2 := Lib.hid hs2
      clear hdrop hkp hs1 hs2
      obtain ⟨lt, hlt2⟩ : ∃ lt, lt = txt ls[k] := ⟨_, rfl⟩
      rw [← hlt2] at hc0 hln
      clear hlt2
      unfold lineV at hln
      generalize ho : lineT ls[k] = o at *
      cases o with
      | nothing =>
        have HLN := Lib.hid hln
        have HSC := Lib.hid hsc
        clear hln hsc ho
        go_wp2_with (go_at_call 31; refine (HLN.out _).mono ?_; rintro e w5 ⟨rfl, hb5⟩; have HB5 := Lib.hid hb5; clear hb5)
        go_roundw
        case rel => exact ⟨k + 1, s, by omega, by go_num, rfl, HSC.out, HK.out.trans (Kept.of_below HB5.out _) (fun _ _ h => h), k_later HB5.out HQ1.out, k_later HB5.out HQ2.out⟩
        case measure => simp [intOf]; omega
      | wrong =>
        have HLN := Lib.hid hln
        have HW := Lib.hid (show pv = .tuple #[.agg zeroP.cells, .int .i64 ((k : Int) + 1), .int .i64 80] by
          rw [HV.out, ← hsc]
          simp)
        have HX := Lib.hid (HP3.out.kept HK.out (by have h2 := HD.out; omega))
        have HY := Lib.hid (HB3.out.trans (Kept.below_from HK.out HB3.out.size (fun i h => by have h2 := HD.out; omega)))
        clear hln hsc ho HV
        go_wp2_with (first
          | (go_at_call 31; refine (HLN.out _).mono ?_; rintro e w5 ⟨rfl, hb5⟩; have HX5 := Lib.hid (k_later hb5 HX.out); have HY5 := Lib.hid (k_then hb5 HY.out); clear hb5)
          | (refine wpList_store_row rfl 23 (.tmp 2) (.tmp 47) rfl w.heap.size zeroP.cells rfl rfl 23 zeroP.cells HX5.out zeroP.cellsL.plan rfl zeroP.cellsL.one ?_))
        refine bodyPost_ret (v := pv) ?_ rfl ⟨rfl, below_setRow' HY5.out (Nat.le_refl _) _⟩
        rw [HW.out]
        exact results_row2 rfl _ _ _ 23 _ (0, 0) _ rfl rfl rfl (setRow_whole HX5.out) Tryz.underlying23 rfl zeroP.cellsL.plan
      | at_ p n =>
        obtain ⟨hp, hn⟩ := lineT_at ho
        have HLN := Lib.hid hln
        replace hsc : (if (s p).isSome = true then (k + 1, s) else scanT (ls.drop (k + 1)) (k + 1 + 1) (s.put p n)) = scanT ls 1 St8.start := hsc
        have hpb : ((p : Int) == -1) = false := by rw [beq_eq_false_iff_ne]; omega
        by_cases htw : (s p).isSome = true
        · rw [if_pos htw] at hsc
          have HW := Lib.hid (show pv = .tuple #[.agg zeroP.cells, .int .i64 ((k : Int) + 1), .int .i64 80] by
            rw [HV.out, ← hsc]
            simp)
          have HX := Lib.hid (HP3.out.kept HK.out (by have h2 := HD.out; omega))
          have HY := Lib.hid (HB3.out.trans (Kept.below_from HK.out HB3.out.size (fun i h => by have h2 := HD.out; omega)))
          have hsaid : wr.cell? ⟨sb, p, none⟩ = some (.int .i64 1) := by rw [HQ1.out.cell, planL_cell _ hp, oneI, if_pos htw]
          have HSD := Lib.hid hsaid
          clear hln hsc ho HV hsaid
          go_wp2_with (first
            | (go_at_call 31; refine (HLN.out _).mono ?_; rintro e w5 ⟨rfl, hb5⟩; have hsd5 := k_cell hb5 HSD.out; have HX5 := Lib.hid (k_later hb5 HX.out); have HY5 := Lib.hid (k_then hb5 HY.out); clear hb5)
            | (refine wpList_store_row rfl 23 (.tmp 2) (.tmp 47) rfl w.heap.size zeroP.cells rfl rfl 23 zeroP.cells HX5.out zeroP.cellsL.plan rfl zeroP.cellsL.one ?_))
          refine bodyPost_ret (v := pv) ?_ rfl ⟨rfl, below_setRow' HY5.out (Nat.le_refl _) _⟩
          rw [HW.out]
          exact results_row2 rfl _ _ _ 23 _ (0, 0) _ rfl rfl rfl (setRow_whole HX5.out) Tryz.underlying23 rfl zeroP.cellsL.plan
        · rw [if_neg htw] at hsc
          have htw' : s p = none := by
            cases h : s p
            · rfl
            · rw [h] at htw; simp at htw
          have hsaid : wr.cell? ⟨sb, p, none⟩ = some (.int .i64 0) := by rw [HQ1.out.cell, planL_cell _ hp, oneI, if_neg htw]
          have HSD := Lib.hid hsaid
          have HSC := Lib.hid hsc
          have HCT := Lib.hid (count_put (n := n) hp htw')
          have HN := Lib.hid hn
          have HPP := Lib.hid hp
          have hsn : sb ≠ nb := by have h2 := HD.out; omega
          clear hln hsc ho hsaid htw htw' hn
          go_wp2_with (go_at_call 31; refine (HLN.out _).mono ?_; rintro e w5 ⟨rfl, hb5⟩; have hsd5 := k_cell hb5 HSD.out; have HR1 := Lib.hid (k_later hb5 HQ1.out); have HR2 := Lib.hid (k_later hb5 HQ2.out); have hfr5 := HR1.out.frozen p; have hn5 := ((HR2.out.far (p := ⟨sb, p, none⟩) (fun e => hsn e.symm) (.int .i64 1)).cell p).trans (planL_cell _ HPP.out); have hfn5 := (HR2.out.far (p := ⟨sb, p, none⟩) (fun e => hsn e.symm) (.int .i64 1)).frozen p; have HB5 := Lib.hid hb5; clear hb5)
          go_roundw
          case rel =>
            refine ⟨k + 1, s.put p n, by omega, by go_num, by rw [HCT.out]; go_num, HSC.out, ((HK.out.trans (Kept.of_below HB5.out _) (fun _ _ h => h)).setCell (p := ⟨sb, p, none⟩) (.inl (.inl rfl)) _).setCell (p := ⟨nb, p, none⟩) (.inl (.inr rfl)) _, ?_, ?_⟩
            · have h := (HR1.out.set p (.int .i64 1)).far (p := ⟨nb, p, none⟩) hsn (.int .i64 (n : Int))
              rw [planL_set _ _ HPP.out, ← oneI_put s p n] at h
              exact h
            · have h := (HR2.out.far (p := ⟨sb, p, none⟩) (fun e => hsn e.symm) (.int .i64 1)).set p (.int .i64 (n : Int))
              rw [St8.plan, planL_set _ _ HPP.out, ← plan_put s p n] at h
              exact h
          case measure => simp [intOf]; omega
    · obtain rfl : k = ls.length := by omega
      have hdrop : ls.drop ls.length = [] := List.drop_length
      rw [hdrop, scanT] at hsc
      have HX := Lib.hid (HP3.out.kept hkp (by have h2 := HD.out; omega))
      have HY := Lib.hid (HB3.out.trans (Kept.below_from hkp HB3.out.size (fun i h => by have h2 := HD.out; omega)))
      by_cases hc : s.count = 16
      · have HW := Lib.hid (show pv = .tuple #[.agg s.plan.cells, .int .i64 0, .int .i64 0] by
          rw [HV.out, ← hsc]
          simp [hc])
        have HQ := Lib.hid s.plan.cellsL
        have HPQ := Lib.hid (HPL.out s.plan nb wr hs2)
        have hc2 : (s.count : Int) = 16 := by omega
        clear HV hsc hkp hs1 hs2 hc hdrop
        generalize s.plan.cells = cs at *
        go_wp2_with (first
          | (go_at_call 32; refine HPQ.out.mono ?_; rintro e w5 ⟨rfl, hb5⟩; have HX5 := Lib.hid (k_later hb5 HX.out); have HY5 := Lib.hid (k_then hb5 HY.out); clear hb5)
          | (refine wpList_store_row rfl 23 (.tmp 2) (.tmp 65) rfl w.heap.size cs rfl rfl 23 zeroP.cells HX5.out HQ.out.plan HQ.out.size.symm HQ.out.one ?_))
        refine bodyPost_ret (v := pv) ?_ rfl ⟨rfl, below_setRow' HY5.out (Nat.le_refl _) _⟩
        rw [HW.out]
        exact results_row2 rfl _ _ _ 23 _ (0, 0) _ rfl rfl rfl (setRow_whole HX5.out) Tryz.underlying23 rfl HQ.out.plan
      · have HW := Lib.hid (show pv = .tuple #[.agg zeroP.cells, .int .i64 0, .int .i64 80] by
          rw [HV.out, ← hsc]
          simp [hc])
        have hc2 : (s.count : Int) < 16 := by omega
        clear HV hsc hkp hs1 hs2 hc hdrop
        go_wp2_with (refine wpList_store_row rfl 23 (.tmp 2) (.tmp 63) rfl w.heap.size zeroP.cells rfl rfl 23 zeroP.cells HX.out zeroP.cellsL.plan rfl zeroP.cellsL.one ?_)
        refine bodyPost_ret (v := pv) ?_ rfl ⟨rfl, below_setRow' HY.out (Nat.le_refl _) _⟩
        rw [HW.out]
        exact results_row2 rfl _ _ _ 23 _ (0, 0) _ rfl rfl rfl (setRow_whole HX.out) Tryz.underlying23 rfl zeroP.cellsL.plan
end Go.Proofs.YtfiflcajkamliaaGreatDoor
