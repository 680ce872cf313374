/- OctetOuts, its walk. -/
import Derived.Test.YtloeckflcdnmaaaOuts
import Derived.Deep.DrawnRows
import Derived.BigQuiet
import Derived.Lib.Builder
namespace Go.Proofs.Ytloeckflcdnmaaa
open Go.RowKit
attribute [local go_sem ↓] Go.wp_at_zero Go.wp_at_succ

theorem out_there : ∃ i, Try.prog.info? 26 = some i := Option.isSome_iff_exists.1 (by kernel_rfl)

set_option maxRecDepth 100000 in
set_option maxHeartbeats 2000000 in
theorem outs_walk (A : Option Addr) (n c : Nat) (xs : List OpD) (w : World) (hx : Ops w A n xs) (hn : n ≤ 9223372036854775807) :
    Calls Try.prog 3 #[.slice A n c] w fun e w' => e = .returned (.bool true) ∧ Below w.heap.size w w' := by
  obtain ⟨io, hio⟩ := out_there
  have hpe := fun (W : World) => Lib.run_neq_ptr_same (P := Try.prog) W ⟨w.heap.size, 0, none⟩ Try.underlying36 hio
  have HX := Lib.hid hx
  clear hx hio
  cases gx : greatB xs with
  | true =>
    have GX := Lib.hid gx
    clear gx
    go_enter Try.func3, Try.ntmps3
    go_wp2_with (go_at_call 9; refine (great_any A n c xs _ HX.out hn).mono ?_; rintro e w2 ⟨rfl, rfl⟩; rw [GX.out])
    go_ret
    exact ⟨rfl, Below.refl _ _⟩
  | false =>
    obtain ⟨hx1, hx2⟩ := not_great gx
    have GX := Lib.hid gx
    clear gx
    obtain rfl := HX.out.1
    go_enter Try.func3, Try.ntmps3
    go_wp2_with fail
    refine (great_any A _ c xs _ HX.out hn).mono ?_
    rintro e w0 ⟨rfl, rfl⟩
    rw [GX.out]
    have H0 := Lib.hid (show OutsRel w xs w.heap.size (w.heap.size + 1) (.int .i64 0) ((w.alloc (.cells #[.pointer none, .int .i64 0, .bool false] 26)).alloc (.cells #[.slice none 0 0, .bool false] 30)) from by
      have o1 := (OutAt.new w).keep ((Kept.refl Empty _).alloc (.cells #[.slice none 0 0, .bool false] 30)) (fun _ _ h => h)
      have o2 := ROut.new (w.alloc (.cells #[.pointer none, .int .i64 0, .bool false] 26))
      have e2 : (w.alloc (.cells #[.pointer none, .int .i64 0, .bool false] 26)).heap.size = w.heap.size + 1 := by simp
      rw [e2] at o2
      refine ⟨0, _, _, some [], Nat.zero_le _, rfl, ⟨o1, o2, fun i h1 h2 => by omega, fun i h => by omega, fun i h => by omega, ((Below.refl _ _).alloc (Nat.le_refl _) _).alloc (by simp) _, World.ownsRow_nil _ _ _ _, fun g e => by simp [Value.ownBlock] at e, fun g e => by simp [Value.ownBlock] at e⟩, by simp⟩)
    go_wp2_with fail
    go_loopw [5, 6, 7, 8, 9, 16] (fun _ _ _ _ _ k W => OutsRel w xs w.heap.size (w.heap.size + 1) k W) (fun _ _ _ _ _ k _ => xs.length - (intOf k).toNat)
    case atStart => exact H0.out
    case round =>
      clear H0
      obtain ⟨j, S, R, st, hj, rfl, hp, hl⟩ := hrel
      have hs1 := opsSum_take xs j
      have hl1 : (st.getD []).length ≤ 20800 := by omega
      by_cases hlt : j < xs.length
      · obtain ⟨g, o, Q, cq, rfl, hnow⟩ := HX.out.each hlt
        have HNX := Lib.hid (fun W S R st hp hl => outs_next (w := w) (W := W) (a := w.heap.size) (r := w.heap.size + 1) (S := S) (R := R) (st := st) hlt hp hl)
        have hb2 : xs[j].b.length ≤ 20000 := by
          have h1 := opsSum_take xs (j + 1)
          rw [List.take_succ_eq_append_getElem hlt, opsSum_snoc] at h1
          omega
        generalize xs[j] = y at *
        have HN := Lib.hid hnow
        clear hnow hs1
        obtain ⟨hv, _, _, _, c3, hsrc, hq⟩ := HN.out wr hp.below
        have HT := Lib.hid (opair_twin Q cq y.b hp hsrc (by omega))
        go_wp2_with fail
        refine HT.out.mono ?_
        rintro e w4 ⟨A1, c1, rfl, hp1⟩
        clear hp HT hsrc c3
        obtain ⟨_, c0, cn, cv, c3, hsrc, _⟩ := HN.out w4 hp1.below
        by_cases e0 : y.kind = 0
        · rw [e0] at c0
          have PR := Lib.hid (opair_rput y.n y.v hp1.drew hv (by omega))
          have PO := Lib.hid (fun W S R (h : OPair w W w.heap.size (w.heap.size + 1) S R st (putSt st y.n y.v) (.slice A1 y.b.length c1) y.b) => opair_put y.n y.v h hv (by omega))
          have hl6 := putSt_len st y.n y.v
          generalize putSt st y.n y.v = s2 at *
          go_wp2_with fail
          go_region_held3 (fun w' => w'.cell? ⟨g, o + j * 4 + 1, none⟩ = some (.int .i64 y.n) ∧ w'.cell? ⟨g, o + j * 4 + 2, none⟩ = some (.int .u64 (y.v : Int))) (first | exact ⟨f1, f2⟩ | go_keep)
            (first
              | (go_at_call 11; refine PR.out.mono ?_; rintro e w5 ⟨rfl, R5, hp5⟩; obtain ⟨_, f0, f1, f2, _⟩ := HN.out w5 hp5.below))
          go_wp2_with fail
          go_region_held3 (fun w' => w'.cell? ⟨g, o + j * 4 + 1, none⟩ = some (.int .i64 y.n) ∧ w'.cell? ⟨g, o + j * 4 + 2, none⟩ = some (.int .u64 (y.v : Int))) (first | exact ⟨f1, f2⟩ | go_keep)
            (first
              | (go_at_call 12; refine (PO.out _ _ _ hp5.drew).mono ?_; rintro e w6 ⟨rfl, S6, hp6⟩; obtain ⟨_, f0, f1, f2, _⟩ := HN.out w6 hp6.below))
          clear PR PO hp5 hp1
          have HI := Lib.hid (inc_start hp6.row)
          have HP6 := Lib.hid hp6
          clear hp6
          go_wp2_with fail
          go_loopw [7, 81] (fun _ k W => Inc _ A1 y.b.length k W) (fun _ k _ => y.b.length - (intOf k).toNat)
          case atStart => exact HI.out
          case round =>
            obtain ⟨i, hi, rfl, hk, hc⟩ := hrel
            by_cases hil : i < y.b.length
            · obtain ⟨gi, z, rfl, hcell, hfr, hnext⟩ := inc_read (hc (by omega)) hk hil
              have HI2 := Lib.hid hnext
              clear hnext hc
              go_wp2_with fail
              go_roundw
              case rel => exact HI2.out _
              case measure => simp [intOf]; omega
            · obtain rfl : i = y.b.length := by omega
              have hp7 := HP6.out.inc hk
              clear HI HP6 hk hc
              have HA := Lib.hid (opair_all hp7 (by omega))
              clear hp7
              go_wp2_with fail
              refine HA.out.mono ?_
              rintro e w8 ⟨A8, c8, rfl, hp8⟩
              clear HA
              obtain ⟨Ar, cr, hwr, hsr, _⟩ := hp8.ref.cells
              have hs8 := hp8.src
              have LN := Lib.hid (fun n => len_any _ _ _ _ (hp8.out.drewN n) (by omega))
              have SP := Lib.hid (fun n => (hp8.out.drewN n).spoilt)
              have HP8 := Lib.hid hp8
              have HL := Lib.hid hl6
              have hl7 : (s2.getD []).length ≤ 41000 := by omega
              clear hp8 hl6
              generalize hl2 : s2.getD [] = l2 at *
              have HE := Lib.hid hl2
              clear hl2
              have r0 := hwr.cell 0
              have r1 := hwr.cell 1
              simp at r0 r1
              have cv1 := fun n => Src.convert (P := Try.prog) (hsr.kept ((Kept.refl Empty w8).drewN n) (fun _ _ h => h)) cr 28 5 9 Try.underlying28 Try.underlying5 Try.underlying9
              have cv2 := fun n => Src.convert (P := Try.prog) (hs8.kept ((Kept.refl Empty w8).drewN n) (fun _ _ h => h)) c8 28 5 9 Try.underlying28 Try.underlying5 Try.underlying9
              generalize s2.isNone = bad at *
              go_wp2_with fail
              go_quiet (first
                | (go_at_call 16; exact Calls.quiet_of (LN.out _))
                | (go_at_call 17; exact quiet_same (SP.out _)))
              clear cv1 cv2 LN SP
              go_wp2_with fail
              go_loopw [9, 119] (fun _ k W => Inc (w8.drewN nq) A8 l2.length k W) (fun _ k _ => l2.length - (intOf k).toNat)
              case atStart => exact inc_start (HP8.out.drewN _).row
              case round =>
                obtain ⟨i, hi, rfl, hk, hc⟩ := hrel
                by_cases hil : i < l2.length
                · obtain ⟨gi, z, rfl, hcell, hfr, hnext⟩ := inc_read (hc (by omega)) hk hil
                  have HI2 := Lib.hid hnext
                  clear hnext hc
                  go_wp2_with fail
                  go_roundw
                  case rel => exact HI2.out _
                  case measure => simp [intOf]; omega
                · obtain rfl : i = l2.length := by omega
                  have hp9 := Lib.hid ((HP8.out.drewN nq).inc hk)
                  clear HP8 hk hc
                  go_wp2_with fail
                  go_roundw
                  case rel => exact HNX.out _ _ _ _ hp9.out (by rw [HE.out]; have := HL.out; omega)
                  case measure => simp [intOf]; omega
        · by_cases e1 : y.kind = 1
          · have E1 := Lib.hid e1
            rw [e1] at c0
            clear e0 e1
            have PR := Lib.hid (opair_rtail Q cq y.b hp1 hsrc (by omega))
            have PO := Lib.hid (fun W S R (h : OPair w W w.heap.size (w.heap.size + 1) S R st (st.map (· ++ y.b)) (.slice A1 y.b.length c1) y.b) => opair_tail A1 c1 h (by omega))
            have hl6 := tailSt_len st y.b
            generalize st.map (· ++ y.b) = s2 at *
            go_wp2_with fail
            refine PR.out.mono ?_
            rintro e w5 ⟨rfl, R5, hp5⟩
            obtain ⟨_, _, _, _, f3, fs, _⟩ := HN.out _ hp5.drew.below
            have hs5 := hp5.drew.src
            go_wp2_with fail
            refine wp_region_held_drew (S := (fun w' => w'.cell? ⟨g, o + j * 4 + 3, none⟩ = some (.slice Q y.b.length cq) ∧ Src w' Q y.b.length y.b ∧ Src w' A1 y.b.length y.b)) (by kernel_rfl) ?_ (fun hHeld => ?_)
            · exact ⟨f3, fs, hs5⟩
            refine takeH 0 (some 65) (.slice A1 y.b.length c1) rfl rfl (by kernel_rfl) (by kernel_rfl) (by kernel_rfl) (fun _ _ _ h => h) (by kernel_rfl) ?_ (by assumption) ?_
            · intro w' hSw; (try dsimp only at hSw); go_simp; try rfl
            simp only [Act.put, List.setIfInBounds_toArray, List.set_cons_zero, List.set_cons_succ]
            refine wpAnyH_ready (rs := [1]) (by kernel_rfl) (by simp) (AllReadyH.cons rfl (fun K hK => ?_) AllReadyH.nil)
            go_simp
            refine (PO.out _ _ _ hp5.drew).mono ?_
            rintro e w6 ⟨rfl, S6, hp6⟩
            obtain ⟨_, _, _, _, g3, gs, _⟩ := HN.out _ hp6.below
            have hs6 := hp6.src
            refine hK.out _ _ ⟨g3, gs, hs6⟩ (fun hHeld => ?_)
            clear hK K
            refine takeH 2 (some 67) (.bool false) rfl rfl (by kernel_rfl) (by kernel_rfl) (by kernel_rfl) (fun _ _ _ h => h) (by kernel_rfl) ?_ (by assumption) ?_
            · intro w' hSw; (try dsimp only at hSw); go_simp; try rfl
            simp only [Act.put, List.setIfInBounds_toArray, List.set_cons_zero, List.set_cons_succ]
            refine takeH 3 (some 68) (.bool false) rfl rfl (by kernel_rfl) (by kernel_rfl) (by kernel_rfl) (fun _ _ _ h => h) (by kernel_rfl) ?_ (by assumption) ?_
            · intro w' hSw; (try dsimp only at hSw); go_simp; try rfl
            simp only [Act.put, List.setIfInBounds_toArray, List.set_cons_zero, List.set_cons_succ]
            refine takeH 4 (some 69) (.slice A1 y.b.length c1) rfl rfl (by kernel_rfl) (by kernel_rfl) (by kernel_rfl) (fun _ _ _ h => h) (by kernel_rfl) ?_ (by assumption) ?_
            · intro w' hSw; (try dsimp only at hSw); go_simp; try rfl
            simp only [Act.put, List.setIfInBounds_toArray, List.set_cons_zero, List.set_cons_succ]
            refine takeH 5 (some 70) (.string ⟨y.b.toArray⟩) rfl rfl (by kernel_rfl) (by kernel_rfl) (by kernel_rfl) (fun _ _ _ h => h) (by kernel_rfl) ?_ (by assumption) ?_
            · intro w' hSw; have hcv := Src.convert (P := Try.prog) hSw.2.2 c1 28 5 9 Try.underlying28 Try.underlying5 Try.underlying9; go_simp; try rfl
            simp only [Act.put, List.setIfInBounds_toArray, List.set_cons_zero, List.set_cons_succ]
            refine takeH 6 (some 71) (.slice (some ⟨g, o, none⟩) xs.length c) rfl rfl (by kernel_rfl) (by kernel_rfl) (by kernel_rfl) (fun _ _ _ h => h) (by kernel_rfl) ?_ (by assumption) ?_
            · intro w' hSw; (try dsimp only at hSw); go_simp; try rfl
            simp only [Act.put, List.setIfInBounds_toArray, List.set_cons_zero, List.set_cons_succ]
            refine takeH 7 (some 72) (.int .i64 (j : Int)) rfl rfl (by kernel_rfl) (by kernel_rfl) (by kernel_rfl) (fun _ _ _ h => h) (by kernel_rfl) ?_ (by assumption) ?_
            · intro w' hSw; (try dsimp only at hSw); go_simp; try rfl
            simp only [Act.put, List.setIfInBounds_toArray, List.set_cons_zero, List.set_cons_succ]
            refine takeH 8 (some 73) (.pointer (some ⟨g, o + j * 4, none⟩)) rfl rfl (by kernel_rfl) (by kernel_rfl) (by kernel_rfl) (fun _ _ _ h => h) (by kernel_rfl) ?_ (by assumption) ?_
            · intro w' hSw; (try dsimp only at hSw); go_simp; try rfl
            simp only [Act.put, List.setIfInBounds_toArray, List.set_cons_zero, List.set_cons_succ]
            refine takeH 9 (some 74) (.pointer (some ⟨g, o + j * 4 + 3, none⟩)) rfl rfl (by kernel_rfl) (by kernel_rfl) (by kernel_rfl) (fun _ _ _ h => h) (by kernel_rfl) ?_ (by assumption) ?_
            · intro w' hSw; (try dsimp only at hSw); go_simp; try rfl
            simp only [Act.put, List.setIfInBounds_toArray, List.set_cons_zero, List.set_cons_succ]
            refine takeH 10 (some 75) (.slice Q y.b.length cq) rfl rfl (by kernel_rfl) (by kernel_rfl) (by kernel_rfl) (fun _ _ _ h => h) (by kernel_rfl) ?_ (by assumption) ?_
            · intro w' hSw; (try dsimp only at hSw); go_simp; try rfl
            simp only [Act.put, List.setIfInBounds_toArray, List.set_cons_zero, List.set_cons_succ]
            refine takeH 11 (some 76) (.string ⟨y.b.toArray⟩) rfl rfl (by kernel_rfl) (by kernel_rfl) (by kernel_rfl) (fun _ _ _ h => h) (by kernel_rfl) ?_ (by assumption) ?_
            · intro w' hSw; have hcv := Src.convert (P := Try.prog) hSw.2.1 cq 28 5 9 Try.underlying28 Try.underlying5 Try.underlying9; go_simp; try rfl
            simp only [Act.put, List.setIfInBounds_toArray, List.set_cons_zero, List.set_cons_succ]
            refine takeH 12 (some 77) (.bool false) rfl rfl (by kernel_rfl) (by kernel_rfl) (by kernel_rfl) (fun _ _ _ h => h) (by kernel_rfl) ?_ (by assumption) ?_
            · intro w' hSw; (try dsimp only at hSw); go_simp; try rfl
            simp only [Act.put, List.setIfInBounds_toArray, List.set_cons_zero, List.set_cons_succ]
            refine takeH 13 (some 78) (.bool false) rfl rfl (by kernel_rfl) (by kernel_rfl) (by kernel_rfl) (fun _ _ _ h => h) (by kernel_rfl) ?_ (by assumption) ?_
            · intro w' hSw; (try dsimp only at hSw); go_simp; try rfl
            simp only [Act.put, List.setIfInBounds_toArray, List.set_cons_zero, List.set_cons_succ]
            refine wpAnyH_done (by kernel_rfl) ?_ _
            clear PR PO hp5 hp1 f3 fs hs5 g3 gs hs6 hHeld
            have HI := Lib.hid (inc_start hp6.row)
            have HP6 := Lib.hid hp6
            clear hp6
            go_wp2_with fail
            go_loopw [7, 81] (fun _ k W => Inc _ A1 y.b.length k W) (fun _ k _ => y.b.length - (intOf k).toNat)
            case atStart => exact HI.out
            case round =>
              obtain ⟨i, hi, rfl, hk, hc⟩ := hrel
              by_cases hil : i < y.b.length
              · obtain ⟨gi, z, rfl, hcell, hfr, hnext⟩ := inc_read (hc (by omega)) hk hil
                have HI2 := Lib.hid hnext
                clear hnext hc
                go_wp2_with fail
                go_roundw
                case rel => exact HI2.out _
                case measure => simp [intOf]; omega
              · obtain rfl : i = y.b.length := by omega
                have hp7 := HP6.out.inc hk
                clear HI HP6 hk hc
                have HA := Lib.hid (opair_all hp7 (by omega))
                clear hp7
                go_wp2_with fail
                refine HA.out.mono ?_
                rintro e w8 ⟨A8, c8, rfl, hp8⟩
                clear HA
                obtain ⟨Ar, cr, hwr, hsr, _⟩ := hp8.ref.cells
                have hs8 := hp8.src
                have LN := Lib.hid (fun n => len_any _ _ _ _ (hp8.out.drewN n) (by omega))
                have SP := Lib.hid (fun n => (hp8.out.drewN n).spoilt)
                have HP8 := Lib.hid hp8
                have HL := Lib.hid hl6
                have hl7 : (s2.getD []).length ≤ 41000 := by omega
                clear hp8 hl6
                generalize hl2 : s2.getD [] = l2 at *
                have HE := Lib.hid hl2
                clear hl2
                have r0 := hwr.cell 0
                have r1 := hwr.cell 1
                simp at r0 r1
                have cv1 := fun n => Src.convert (P := Try.prog) (hsr.kept ((Kept.refl Empty w8).drewN n) (fun _ _ h => h)) cr 28 5 9 Try.underlying28 Try.underlying5 Try.underlying9
                have cv2 := fun n => Src.convert (P := Try.prog) (hs8.kept ((Kept.refl Empty w8).drewN n) (fun _ _ h => h)) c8 28 5 9 Try.underlying28 Try.underlying5 Try.underlying9
                generalize s2.isNone = bad at *
                go_wp2_with fail
                go_quiet (first
                  | (go_at_call 16; exact Calls.quiet_of (LN.out _))
                  | (go_at_call 17; exact quiet_same (SP.out _)))
                clear cv1 cv2 LN SP
                go_wp2_with fail
                go_loopw [9, 119] (fun _ k W => Inc (w8.drewN nq) A8 l2.length k W) (fun _ k _ => l2.length - (intOf k).toNat)
                case atStart => exact inc_start (HP8.out.drewN _).row
                case round =>
                  obtain ⟨i, hi, rfl, hk, hc⟩ := hrel
                  by_cases hil : i < l2.length
                  · obtain ⟨gi, z, rfl, hcell, hfr, hnext⟩ := inc_read (hc (by omega)) hk hil
                    have HI2 := Lib.hid hnext
                    clear hnext hc
                    go_wp2_with fail
                    go_roundw
                    case rel => exact HI2.out _
                    case measure => simp [intOf]; omega
                  · obtain rfl : i = l2.length := by omega
                    have hp9 := Lib.hid ((HP8.out.drewN nq).inc hk)
                    clear HP8 hk hc
                    go_wp2_with fail
                    go_roundw
                    case rel => exact HNX.out _ _ _ _ hp9.out (by rw [HE.out]; have := HL.out; omega)
                    case measure => simp [intOf]; omega
          · have b0 : (y.kind == 0) = false := by simp [e0]
            have b1 : (y.kind == 1) = false := by simp [e1]
            clear e0 e1
            have hp6 := hp1
            have hl6 : (st.getD []).length ≤ (st.getD []).length + 8 := by omega
            clear hp1
            generalize hst : st = s2 at hp6
            rw [hst] at hl6 hl hl1
            clear hst
            have HI := Lib.hid (inc_start hp6.row)
            have HP6 := Lib.hid hp6
            clear hp6
            go_wp2_with fail
            go_loopw [7, 81] (fun _ k W => Inc _ A1 y.b.length k W) (fun _ k _ => y.b.length - (intOf k).toNat)
            case atStart => exact HI.out
            case round =>
              obtain ⟨i, hi, rfl, hk, hc⟩ := hrel
              by_cases hil : i < y.b.length
              · obtain ⟨gi, z, rfl, hcell, hfr, hnext⟩ := inc_read (hc (by omega)) hk hil
                have HI2 := Lib.hid hnext
                clear hnext hc
                go_wp2_with fail
                go_roundw
                case rel => exact HI2.out _
                case measure => simp [intOf]; omega
              · obtain rfl : i = y.b.length := by omega
                have hp7 := HP6.out.inc hk
                clear HI HP6 hk hc
                have HA := Lib.hid (opair_all hp7 (by omega))
                clear hp7
                go_wp2_with fail
                refine HA.out.mono ?_
                rintro e w8 ⟨A8, c8, rfl, hp8⟩
                clear HA
                obtain ⟨Ar, cr, hwr, hsr, _⟩ := hp8.ref.cells
                have hs8 := hp8.src
                have LN := Lib.hid (fun n => len_any _ _ _ _ (hp8.out.drewN n) (by omega))
                have SP := Lib.hid (fun n => (hp8.out.drewN n).spoilt)
                have HP8 := Lib.hid hp8
                have HL := Lib.hid hl6
                have hl7 : (s2.getD []).length ≤ 41000 := by omega
                clear hp8 hl6
                generalize hl2 : s2.getD [] = l2 at *
                have HE := Lib.hid hl2
                clear hl2
                have r0 := hwr.cell 0
                have r1 := hwr.cell 1
                simp at r0 r1
                have cv1 := fun n => Src.convert (P := Try.prog) (hsr.kept ((Kept.refl Empty w8).drewN n) (fun _ _ h => h)) cr 28 5 9 Try.underlying28 Try.underlying5 Try.underlying9
                have cv2 := fun n => Src.convert (P := Try.prog) (hs8.kept ((Kept.refl Empty w8).drewN n) (fun _ _ h => h)) c8 28 5 9 Try.underlying28 Try.underlying5 Try.underlying9
                generalize s2.isNone = bad at *
                go_wp2_with fail
                go_quiet (first
                  | (go_at_call 16; exact Calls.quiet_of (LN.out _))
                  | (go_at_call 17; exact quiet_same (SP.out _)))
                clear cv1 cv2 LN SP
                go_wp2_with fail
                go_loopw [9, 119] (fun _ k W => Inc (w8.drewN nq) A8 l2.length k W) (fun _ k _ => l2.length - (intOf k).toNat)
                case atStart => exact inc_start (HP8.out.drewN _).row
                case round =>
                  obtain ⟨i, hi, rfl, hk, hc⟩ := hrel
                  by_cases hil : i < l2.length
                  · obtain ⟨gi, z, rfl, hcell, hfr, hnext⟩ := inc_read (hc (by omega)) hk hil
                    have HI2 := Lib.hid hnext
                    clear hnext hc
                    go_wp2_with fail
                    go_roundw
                    case rel => exact HI2.out _
                    case measure => simp [intOf]; omega
                  · obtain rfl : i = l2.length := by omega
                    have hp9 := Lib.hid ((HP8.out.drewN nq).inc hk)
                    clear HP8 hk hc
                    go_wp2_with fail
                    go_roundw
                    case rel => exact HNX.out _ _ _ _ hp9.out (by rw [HE.out]; have := HL.out; omega)
                    case measure => simp [intOf]; omega
      · obtain rfl : j = xs.length := by omega
        obtain ⟨Ar, cr, hwr, hsr, hAr⟩ := hp.ref.cells
        have HA := Lib.hid (all_any _ _ _ _ hp.drew.out (by omega))
        have HP := Lib.hid (fun W' v2 hb hr => hp.drew.rowed (W' := W') (v2 := v2) (l2 := st.getD []) hb hr)
        clear hp hl hl1 hs1
        generalize st.getD [] = l2 at *
        have r0 := hwr.cell 0
        simp at r0
        go_wp2_with fail
        refine wp_region_held_drew (S := (fun w' => w'.cell? ⟨w.heap.size + 1, 0, none⟩ = some (.slice Ar l2.length cr) ∧ Src w' Ar l2.length l2)) (by kernel_rfl) ?_ (fun hHeld => ?_)
        · exact ⟨by simpa using r0, hsr.kept (Kept.refl Empty _).drew (fun _ _ h => h)⟩
        refine takeH 2 (some 132) (.pointer (some ⟨w.heap.size + 1, 0, none⟩)) rfl rfl (by kernel_rfl) (by kernel_rfl) (by kernel_rfl) (fun _ _ _ h => h) (by kernel_rfl) ?_ (by assumption) ?_
        · intro w' hSw; (try dsimp only at hSw); go_simp; try rfl
        simp only [Act.put, List.setIfInBounds_toArray, List.set_cons_zero, List.set_cons_succ]
        refine takeH 3 (some 133) (.pointer (some ⟨w.heap.size + 1, 0, none⟩)) rfl rfl (by kernel_rfl) (by kernel_rfl) (by kernel_rfl) (fun _ _ _ h => h) (by kernel_rfl) ?_ (by assumption) ?_
        · intro w' hSw; (try dsimp only at hSw); go_simp; try rfl
        simp only [Act.put, List.setIfInBounds_toArray, List.set_cons_zero, List.set_cons_succ]
        refine takeH 4 (some 134) (.pointer (some ⟨w.heap.size + 1, 0, none⟩)) rfl rfl (by kernel_rfl) (by kernel_rfl) (by kernel_rfl) (fun _ _ _ h => h) (by kernel_rfl) ?_ (by assumption) ?_
        · intro w' hSw; (try dsimp only at hSw); go_simp; try rfl
        simp only [Act.put, List.setIfInBounds_toArray, List.set_cons_zero, List.set_cons_succ]
        refine takeH 5 (some 135) (.slice Ar l2.length cr) rfl rfl (by kernel_rfl) (by kernel_rfl) (by kernel_rfl) (fun _ _ _ h => h) (by kernel_rfl) ?_ (by assumption) ?_
        · intro w' hSw; (try dsimp only at hSw); go_simp; try rfl
        simp only [Act.put, List.setIfInBounds_toArray, List.set_cons_zero, List.set_cons_succ]
        refine takeH 6 (some 136) (.string ⟨l2.toArray⟩) rfl rfl (by kernel_rfl) (by kernel_rfl) (by kernel_rfl) (fun _ _ _ h => h) (by kernel_rfl) ?_ (by assumption) ?_
        · intro w' hSw; have hcv := Src.convert (P := Try.prog) hSw.2 cr 28 5 9 Try.underlying28 Try.underlying5 Try.underlying9; go_simp; try rfl
        simp only [Act.put, List.setIfInBounds_toArray, List.set_cons_zero, List.set_cons_succ]
        refine wpAnyH_ready (rs := [0]) (by kernel_rfl) (by simp) (AllReadyH.cons rfl (fun K hK => ?_) AllReadyH.nil)
        go_simp
        refine HA.out.mono ?_
        rintro e w6 ⟨v6, rfl, own6, b6⟩
        obtain ⟨A6, c6, rfl⟩ := rowSl own6
        have hp6 := HP.out _ _ b6 own6
        have hs6 := hp6.src
        have hSk : w6.cell? ⟨w.heap.size + 1, 0, none⟩ = some (.slice Ar l2.length cr) ∧ Src w6 Ar l2.length l2 := by
          have hw6 := hwr.drew.below b6 hwr.lt
          exact ⟨by simpa using hw6.cell 0, (hsr.kept (Kept.refl Empty _).drew (fun _ _ h => h)).below b6⟩
        refine hK.out _ _ hSk (fun hHeld => ?_)
        clear hK K
        have hcv := Src.convert (P := Try.prog) hs6 c6 28 5 9 Try.underlying28 Try.underlying5 Try.underlying9
        refine wpAnyH_ready (rs := [1]) (by kernel_rfl) (by simp) (AllReadyH.cons rfl (fun K hK => ?_) AllReadyH.nil)
        go_simp
        refine hK.out _ _ hSk (fun hHeld => ?_)
        clear hK K
        refine takeH 7 (some 137) (.bool true) rfl rfl (by kernel_rfl) (by kernel_rfl) (by kernel_rfl) (fun _ _ _ h => h) (by kernel_rfl) ?_ (by assumption) ?_
        · intro w' hSw; (try dsimp only at hSw); go_simp; try rfl
        simp only [Act.put, List.setIfInBounds_toArray, List.set_cons_zero, List.set_cons_succ]
        refine takeH 8 (some 2) (.bool true) rfl rfl (by kernel_rfl) (by kernel_rfl) (by kernel_rfl) (fun _ _ _ h => h) (by kernel_rfl) ?_ (by assumption) ?_
        · intro w' hSw; (try dsimp only at hSw); go_simp; try rfl
        simp only [Act.put, List.setIfInBounds_toArray, List.set_cons_zero, List.set_cons_succ]
        refine wpAnyH_done (by kernel_rfl) ?_ _
        go_wp2
        go_ret
        exact ⟨rfl, hp6.below⟩

end Go.Proofs.Ytloeckflcdnmaaa
