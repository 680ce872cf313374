/- BusApart, its walk. No condition. -/
import Derived.Test.YtmplidgafdobkaaUApW
import Derived.StillTailTactics
import Derived.Deep.RegionHeld3
import Derived.IntWalk
namespace Go.Proofs.Ytmplidgafdobkaa
open Go.RowKit Go.Shelf

set_option maxRecDepth 100000 in
set_option maxHeartbeats 8000000 in
theorem busApart_walk (x : Pl) (s : Sl) (os : List OpA) (w : World) (ho : OpsAt w s os) : Calls Try.prog 5 #[.agg x.cells, s.v] w fun e w' => e = .returned (.bool true) ∧ Below w.heap.size w w' := by
  have HS := Lib.hid x.cellsL
  have HA := Lib.hid (fun W => alive_any W)
  have HG := Lib.hid (fun W (hW : Below w.heap.size w W) => great_any s os W (ho.later hW))
  have HC := Lib.hid (fun W => Check_any x W)
  have H0 := Lib.hid (And.intro ((Below.refl w.heap.size w).alloc (Nat.le_refl _) (.cells x.cells 23)) (Whole.new w 23 x.cells))
  have hlen := ho.row.len
  have hm := Nat.le_trans ho.row.cap ho.row.max
  have HP := Lib.hid (And.intro ho hlen)
  obtain ⟨A, N, c⟩ := s
  unfold Sl.v at *
  dsimp only at *
  clear ho hlen
  cases hgr : greatL os
  · rw [hgr] at HG
    by_cases hch : failsL x 11 = 0
    · have hchk : chkL x = 0 := if_pos hch
      rw [hchk] at HC
      have hgs := great_small hgr
      have HX := Lib.hid (And.intro hgr (And.intro hch (And.intro hchk hgs)))
      clear hgr hch hchk hgs
      have HN := Lib.hid (fun W => new_f (F := fun k => k < W.heap.size) x W HX.out.2.1 (fun k hk => hk))
      have hmm := @run_makeMap Try.prog
      go_enter Try.func5, Try.ntmps5
      go_upto_region 4 with (first
        | (go_at_call 23; refine (HA.out _).mono ?_; rintro e w1 ⟨rfl, hb1⟩; have HB1 := Lib.hid (And.intro (k_then hb1 H0.out.1) (k_later hb1 H0.out.2)); clear hb1)
        | (go_at_call 8; refine (HG.out _ HB1.out.1).mono ?_; rintro e w2 ⟨rfl, hb2⟩; have HB2 := Lib.hid (And.intro (k_then hb2 HB1.out.1) (k_later hb2 HB1.out.2)); clear hb2)
        | (refine wpList_load_want rfl 23 _ rfl w.heap.size rfl 23 x.cells (0, 0) _ HB2.out.2 Try.underlying23 rfl HS.out.plan ?_)
        | (go_at_call 24; refine (HC.out _).mono ?_; rintro e w3 ⟨rfl, hb3⟩; have HB3 := Lib.hid (And.intro (k_then hb3 HB2.out.1) (k_later hb3 HB2.out.2)); clear hb3))
      go_upto_region 9 with (first
        | (refine wpList_load_row rfl 23 (.tmp 2) rfl w.heap.size rfl 23 x.cells (0, 0) _ HB3.out.2 Try.underlying23 rfl HS.out.plan ?_)
        | (go_at_call 9; refine (HN.out _).mono ?_; rintro e w4 ⟨b, rfl, hb4, hl4⟩; have H4 := Lib.hid (ap_made HB3.out hb4 hl4); clear hb4 hl4))
      clear HB3 HB2 HB1 H0 HA HC HG HS HN
      have hZ : w3.heap.size ≤ w4.heap.size := H4.out.z.2
      obtain ⟨Z, hZ'⟩ : ∃ Z, Z = w3.heap.size := ⟨_, rfl⟩
      obtain ⟨m, hm'⟩ : ∃ m, m = w4.heap.size := ⟨_, rfl⟩
      rw [← hZ', ← hm'] at H4
      rw [← hm']
      obtain ⟨w5, hw5⟩ : ∃ w5, w5 = w4.alloc (.map #[] 0) := ⟨_, rfl⟩
      rw [← hw5] at H4 ⊢
      clear hw5 hZ' hm' hZ
      go_wp2
      obtain ⟨XC, hXC⟩ : ∃ XC : Value, XC = .agg x.cells := ⟨_, rfl⟩
      rw [← hXC]
      clear hXC
      go_loopw [8, 42] (fun lv iv wr => ∃ (k : Nat) (g : Lg) (last : Int) (f : Int → Int → Option Int) (n : Nat), (k ≤ N ∧ n ≤ 40 * k ∧ g.L.length ≤ k ∧ g.p = x) ∧ iv = .int .i64 (k : Int) ∧ lv = .int .i64 last ∧ ApW w x Z b m g f n wr ∧ ApI g last f) (fun _ iv _ => N - (intOf iv).toNat)
      case atStart => exact ⟨0, ⟨x, [], 0, 0⟩, -1, fun _ _ => none, 0, ⟨Nat.zero_le _, Nat.zero_le _, Nat.zero_le _, rfl⟩, rfl, rfl, H4.out, ap_start x⟩
      case round =>
        obtain ⟨k, g, last, f, n, ⟨hk, hn, hgl, hgp⟩, rfl, rfl, hW, hI⟩ := hrel
        have HW := Lib.hid hW
        have HI := Lib.hid (And.intro hI (And.intro hn (And.intro hgl hgp)))
        by_cases hlt : k < N
        · obtain ⟨g0, o0, hA0, hA2⟩ := (HP.out.1.later hW.bl).row.get (i := k) hlt
          dsimp only at hA0
          subst hA0
          obtain ⟨o, hx⟩ : ∃ o, o = os.getD k default := ⟨_, rfl⟩
          rw [← hx] at hA2
          obtain ⟨a0, a1, a2, a3⟩ := opC_cells hA2
          unfold Sl.v at a2 a3
          have e3 : (0 : Int) ≤ (k : Int) := by omega
          have e4 : (k : Int) < (N : Int) := by omega
          have hsm := HX.out.2.2.2.2 k (by rw [HP.out.2]; exact hlt)
          have HSD := Lib.hid (fun W (hW : ApW w x Z b m g f n W) => (show Calls Try.prog 11 #[.pointer (some ⟨b, 0, none⟩), .int .i64 o.f, .int .i64 o.t, .slice o.rw.A o.rw.n o.rw.c, .slice o.fw.A o.fw.n o.fw.c] W fun e w' => e = .returned (sendV g o.f o.t o.fa) ∧ ApW w x Z b m (sendG g o.f o.t o.raw o.fa) f n w' from by rw [hx]; exact ap_send hW (by have := HX.out.2.2.2.1; have := HP.out.2; omega) ((HP.out.1.later hW.bl).nth k hlt) (by omega) (by omega)))
          have KO := Lib.hid (fun W (hW : Below w.heap.size w W) => (show (fun W : World => W.cell? ⟨g0, o0 + k * 4, none⟩ = some (.int .i64 o.f) ∧ W.cell? ⟨g0, o0 + k * 4 + 1, none⟩ = some (.int .i64 o.t) ∧ W.cell? ⟨g0, o0 + k * 4 + 2, none⟩ = some (.slice o.rw.A o.rw.n o.rw.c) ∧ W.cell? ⟨g0, o0 + k * 4 + 3, none⟩ = some (.slice o.fw.A o.fw.n o.fw.c)) W from by
            obtain ⟨g1, o1, hA1, hA3⟩ := (HP.out.1.later hW).row.get (i := k) hlt
            dsimp only at hA1
            cases hA1
            rw [← hx] at hA3
            have q := opC_cells hA3
            unfold Sl.v at q
            exact q))
          have K0 := Lib.hid (KO.out wr hW.bl)
          have HFR := Lib.hid (free_f hW.bus o.t)
          have hgok := hW.bus.ok
          have HOK := Lib.hid hgok
          have HO := Lib.hid hx
          clear hx hsm hA2 hW hI hn hgl hgp hgok
          obtain ⟨si, sp, se, hsv, hsc⟩ := sendV_parts g o.f o.t o.fa
          rw [hsv] at HSD
          generalize hfr : freeG g o.t = fr at *
          have HSC := Lib.hid (And.intro hfr hsc)
          clear hsv hsc hfr
          go_upto_region 13 with (go_at_call 14; refine HFR.out.mono ?_; rintro e wq ⟨rfl, hq⟩; obtain rfl := hq.symm)
          go_region_held3 (fun W : World => W.cell? ⟨g0, o0 + k * 4, none⟩ = some (.int .i64 o.f) ∧ W.cell? ⟨g0, o0 + k * 4 + 1, none⟩ = some (.int .i64 o.t) ∧ W.cell? ⟨g0, o0 + k * 4 + 2, none⟩ = some (.slice o.rw.A o.rw.n o.rw.c) ∧ W.cell? ⟨g0, o0 + k * 4 + 3, none⟩ = some (.slice o.fw.A o.fw.n o.fw.c)) (first | with_reducible exact K6.out | with_reducible exact K0.out | exact K0.out) (first
            | (go_at_call 11; refine (HSD.out _ HW.out.drew).mono ?_; rintro e w6 ⟨rfl, h6⟩; have K6 := Lib.hid (KO.out _ h6.bl); have H6 := Lib.hid h6; clear h6))
          clear HSD HFR K0
          cases hok : okB g o.f o.t o.fa
          · obtain ⟨rfl, rfl, rfl⟩ := HSC.out.2.1 hok
            have hsg : sendG g o.f o.t o.raw o.fa = g := by unfold sendG; rw [hok, if_neg (by decide)]
            rw [hsg] at H6
            clear hok hsg
            go_wp2
            go_roundw
            case rel => exact ⟨k + 1, g, last, f, n, ⟨by omega, by have := HI.out.2.1; omega, by have := HI.out.2.2.1; omega, HI.out.2.2.2⟩, by go_num, rfl, H6.out, HI.out.1⟩
            case measure => simp [intOf]; omega
          · obtain ⟨rfl, hsp, rfl⟩ := HSC.out.2.2 hok
            obtain rfl : fr = sp := by rw [hsp, ← HSC.out.1, ap_free hok]
            have HSP := Lib.hid (And.intro hok hsp)
            clear hok hsp HSC
            have hfr := ap_pass HI.out.1 HOK.out HSP.out.1
            rw [HI.out.2.2.2, ← HSP.out.2] at hfr
            have P := planU_of HX.out.2.1
            have ps1 := P.s1
            have ps2 := P.s2
            have ot := (okB_iff.1 HSP.out.1).1.2
            have gl := HOK.out.last
            have pd1 := P.d1
            have pd2 := P.d2
            have pa1 := P.a1
            have zq : x.slot.tdiv 2 = x.slot / 2 := Int.tdiv_eq_ediv_of_nonneg (by omega)
            have zr : IntKind.i64.wrap (x.slot / 2) = x.slot / 2 := IntWalk.i64_in _ (by omega)
            have ht := HI.out.1.t
            rw [HI.out.2.2.2] at ht
            have op := HOK.out.opens
            have wl : -1 ≤ last ∧ last ≤ 4300000000 := by rcases ht with h | h <;> omega
            have ka := KO.out _ H6.out.bl
            obtain ⟨pc2, pc5, pc6, pc7, _⟩ := plan_cells H6.out.plan
            cases fr
            · have l0 : 0 ≤ last := by
                rcases Int.lt_or_le last 0 with q | q
                · rw [decide_eq_true q] at hfr; cases hfr
                · exact q
              rw [decide_eq_false (by omega : ¬ last < 0), Bool.false_or] at hfr
              have hd1 : decide (last < 0) = false := decide_eq_false (by omega)
              have hd2 : decide (x.slot / 2 ≤ o.t - last) = false := hfr.symm
              have zw : IntKind.i64.wrap (o.t - last) = o.t - last := IntWalk.i64_in _ (by omega)
              have HDU := Lib.hid (fun q => (show Calls Try.prog 17 #[.pointer (some ⟨b, 0, none⟩), .int .i64 (g.L.length : Int)] (w6.drewN q) (FreshS (w6.drewN q) []) from by
                have := due_s (H6.out.drewN q).bus (g.L.length : Int)
                rwa [due_blocked HSP.out.1 HSP.out.2.symm] at this))
              clear hfr P ps1 ps2 pd1 pd2 pa1 ot gl ht op wl l0 pc5 pc6 pc7 HOK
              obtain ⟨k0, k1, k2, k3⟩ := ka
              clear k2 k3
              go_upto_region 15 with fail
              go_quiet (fail)
              clear zw hd1 hd2 pc2 k0 k1 zq zr
              go_wp2_with (go_at_call 17; refine (HDU.out _).mono ?_; rintro e w7 ⟨dA, dn, dc, rfl, h7, _, hb7⟩; have h8 := h7.len; obtain rfl : dn = 0 := h8.symm; have H7 := Lib.hid ((H6.out.drewN _).later hb7); clear h7 hb7 h8)
              go_roundw
              case rel => exact ⟨k + 1, _, last, f, n, ⟨by omega, by have := HI.out.2.1; omega, by have := HI.out.2.2.1; have := sendG_len g o.f o.t o.raw o.fa; omega, by rw [sendG_p]; exact HI.out.2.2.2⟩, by go_num, rfl, H7.out, ap_no HI.out.1 HSP.out.1 HSP.out.2.symm⟩
              case measure => simp [intOf]; omega
            · obtain ⟨k0, k1, k2, k3⟩ := ka
              clear k2 k3 pc5 pc6 pc7
              go_upto_region 15 with fail
              go_cut [101] (fun s101 wx => s101 = .bool false ∧ Below w6.heap.size w6 wx)
              case first =>
                have HBZ := Lib.hid (fun q => below_drewN (Below.refl w6.heap.size w6) q)
                rcases Int.lt_or_le last 0 with ql | ql
                · have hd1 : decide (last < 0) = true := decide_eq_true ql
                  clear hfr P ps1 ps2 pd1 pd2 pa1 ot gl ht op wl HOK ql
                  go_quiet (fail)
                  go_wp2
                  go_meet
                  exact ⟨rfl, HBZ.out _⟩
                · have hd1 : decide (last < 0) = false := decide_eq_false (by omega)
                  rw [hd1, Bool.false_or] at hfr
                  have hd2 : decide (x.slot / 2 ≤ o.t - last) = true := hfr.symm
                  have zw : IntKind.i64.wrap (o.t - last) = o.t - last := IntWalk.i64_in _ (by omega)
                  clear hfr P ps1 ps2 pd1 pd2 pa1 ot gl ht op wl HOK ql
                  go_quiet (fail)
                  go_wp2
                  go_meet
                  exact ⟨rfl, HBZ.out _⟩
              case rest =>
                obtain ⟨rfl, hbx⟩ := hcut
                have HZ := Lib.hid (H6.out.later hbx)
                obtain ⟨L, hL⟩ : ∃ L, L = dueG (sendG g o.f o.t o.raw o.fa) (g.L.length : Int) := ⟨_, rfl⟩
                have D := due_passed (raw := o.raw) HOK.out HSP.out.1 HSP.out.2.symm
                rw [← hL, HI.out.2.2.2] at D
                have HDU := Lib.hid (fun W (hW : ApW w x Z b m (sendG g o.f o.t o.raw o.fa) f n W) => (show Calls Try.prog 17 #[.pointer (some ⟨b, 0, none⟩), .int .i64 (g.L.length : Int)] W (FreshS W L) from by
                  have := due_s hW.bus (g.L.length : Int)
                  rwa [← hL] at this))
                have HD := Lib.hid (And.intro D (And.intro hL (fun j (hj : j < L.length) => ap_over HI.out.1 HOK.out HSP.out.1 HSP.out.2.symm hL hj)))
                have HT := Lib.hid (And.intro ot (And.intro pd1 (And.intro pa1 (And.intro ps1 ps2))))
                have hkc := KO.out _ HZ.out.bl
                clear hfr P ps1 ps2 pd1 pd2 pa1 ot gl ht op wl hbx H6 k0 k1 pc2 zq zr D hL K6
                obtain ⟨k0, k1, k2, k3⟩ := hkc
                clear k2 k3
                go_upto_region 18 with (go_at_call 17; refine (HDU.out _ HZ.out).mono ?_; rintro e w7 ⟨dA, dn, dc, rfl, h7, a7, hb7⟩; have HR7 := Lib.hid h7; have H7 := Lib.hid (HZ.out.later hb7); have k1 := k_cell hb7 k1; have HF7 := Lib.hid (fun ad (e : dA = some ad) => (show ad.block ≠ m from by have := a7 ad e; have := HZ.out.map.lt; omega)); clear h7 hb7 a7)
                clear HDU HZ
                have hdl := HR7.out.len
                dsimp only at hdl
                have hdm := Nat.le_trans HR7.out.cap HR7.out.max
                dsimp only at hdm
                have HDL := Lib.hid (And.intro hdl hdm)
                clear hdl
                go_wp2
                clear k0 k1
                go_loopw [117] (fun jv wr => ∃ (j : Nat), j ≤ dn ∧ jv = .int .i64 (j : Int) ∧ ApW w x Z b m (sendG g o.f o.t o.raw o.fa) (foldU f (L.take j)) (n + j) wr ∧ RSrc duC 3 wr ⟨dA, dn, dc⟩ L) (fun jv _ => dn - (intOf jv).toNat)
                case atStart => exact ⟨0, Nat.zero_le _, rfl, H7.out, HR7.out⟩
                case round =>
                  obtain ⟨j, hj, rfl, hW8, hR8⟩ := hrel
                  have H8 := Lib.hid (And.intro hW8 hR8)
                  by_cases hjt : j < dn
                  · obtain ⟨g1, o1, hA0, hA2⟩ := hR8.get (i := j) hjt
                    dsimp only at hA0
                    subst hA0
                    obtain ⟨d, hd⟩ : ∃ d, d = L.getD j default := ⟨_, rfl⟩
                    rw [← hd] at hA2
                    obtain ⟨b0, b1, b2⟩ := duC_cells hA2
                    have hjL : j < L.length := by have := HDL.out.1; omega
                    have dok := HD.out.1.1 d (by rw [hd, List.getD_eq_getElem?_getD, List.getElem?_eq_getElem hjL]; exact List.getElem_mem hjL)
                    have dov := HD.out.2.2 j hjL
                    rw [← hd, HI.out.2.2.2] at dov
                    have HDD := Lib.hid (And.intro hd (And.intro dok (And.intro hjL dov)))
                    have e5 : (0 : Int) ≤ (j : Int) := by omega
                    have e6 : (j : Int) < (dn : Int) := by omega
                    obtain ⟨w9, hw9⟩ : ∃ w9, w9 = (wr.alloc (.cells #[.int .i64 d.r, .int .i64 d.c, .int .i64 d.t] 65)).alloc (.cells #[.int .i64 d.r, .int .i64 d.c] 66) := ⟨_, rfl⟩
                    clear hW8 hR8 hA2 hd dok dov
                    go_upto_region 26 with fail
                    rw [← hw9]
                    have hb9 : Below wr.heap.size wr w9 := by rw [hw9]; exact ((Below.refl _ _).alloc (Nat.le_refl _) _).alloc (by simp) _
                    have hd9 : Whole w9 wr.heap.size 65 #[.int .i64 d.r, .int .i64 d.c, .int .i64 d.t] := by rw [hw9]; exact (Whole.new _ _ _).alloc _
                    have hk9 : Whole w9 (wr.heap.size + 1) 66 #[.int .i64 d.r, .int .i64 d.c] := by
                      have := Whole.new (wr.alloc (.cells #[.int .i64 d.r, .int .i64 d.c, .int .i64 d.t] 65)) 66 #[.int .i64 d.r, .int .i64 d.c]
                      rw [hw9]
                      simpa using this
                    have H9 := Lib.hid (H8.out.1.later hb9)
                    have HR9 := Lib.hid (And.intro (H8.out.2.later hb9) (And.intro hd9 hk9))
                    have q0 := hd9.cell 0
                    have q1 := hd9.cell 1
                    have q2 := hd9.cell 2
                    have q3 := hk9.cell 0
                    have q4 := hk9.cell 1
                    simp at q0 q1 q2 q3 q4
                    obtain ⟨_, pc5, pc6, pc7, _⟩ := plan_cells H9.out.plan
                    obtain ⟨k0, k1, _, _⟩ := KO.out _ H9.out.bl
                    have dok := HDD.out.2.1
                    have dr0 := dok.r0
                    have dr1 := dok.r1
                    have dlo := dok.lo
                    have dhi := dok.hi
                    have hot := HT.out
                    have P := planU_of HX.out.2.1
                    have p1 := P.n2
                    have p2 := P.d2
                    have p3 := P.d3
                    have p4 := P.a2
                    have gl0 := HOK.out.last
                    have hr64 : In64 d.r := ⟨by omega, by omega⟩
                    have hc64 : In64 d.c := by rcases dok.c with h | h <;> rw [h] <;> exact ⟨by decide, by decide⟩
                    have ht64 : In64 d.t := ⟨by omega, by omega⟩
                    have HIN := Lib.hid (And.intro hr64 (And.intro hc64 ht64))
                    obtain ⟨ov, hov⟩ : ∃ ov, ov = (foldU f (L.take j) d.r d.c).getD 0 := ⟨_, rfl⟩
                    have dov := HDD.out.2.2.2
                    rw [← hov] at dov
                    have hlook := fun q => (H9.out.drewN q).map.look hr64 hc64
                    rw [← hov] at hlook
                    have z1 : IntKind.i64.wrap (d.t - x.air) = d.t - x.air := IntWalk.i64_in _ (by omega)
                    have z2 : IntKind.i64.wrap (o.t + x.dmin) = o.t + x.dmin := IntWalk.i64_in _ (by omega)
                    have z3 : IntKind.i64.wrap (o.t + x.dmin + x.air) = o.t + x.dmin + x.air := IntWalk.i64_in _ (by omega)
                    have z4 : IntKind.i64.wrap (o.t + x.dmax) = o.t + x.dmax := IntWalk.i64_in _ (by omega)
                    have z5 : IntKind.i64.wrap (o.t + x.dmax + x.air) = o.t + x.dmax + x.air := IntWalk.i64_in _ (by omega)
                    have d1 : (d.r == o.f) = false := by simpa using dok.ne
                    have d2 : decide (d.r = o.f) = false := decide_eq_false dok.ne
                    have d3 : decide (d.t - x.air < ov) = false := decide_eq_false (by omega)
                    have d4 : decide (d.t < o.t + x.dmin + x.air) = false := decide_eq_false (by omega)
                    have d5 : decide (o.t + x.dmax + x.air < d.t) = false := decide_eq_false (by omega)
                    clear dok dr0 dr1 dlo dhi hot P p1 p2 p3 p4 gl0 hr64 hc64 ht64 hov dov hw9 hb9 hd9 hk9
                    go_quiet (fail)
                    clear d1 d2 d3 d4 d5 z1 z2 z3 z4 z5 hlook k0 k1 pc5 pc6 pc7 q0 q1 e5 e6 e3 e4 b0 b1 b2
                    go_wp2_with (refine wpList_put_u rfl (.tmp 177) (.tmp 178) (.tmp 180) rfl (H9.out.drewN _).map (by have := HI.out.2.1; have := HD.out.1.2.1; have := HDL.out.1; have := HP.out.2; have := HX.out.2.2.2.1; omega) HIN.out.1 HIN.out.2.1 HIN.out.2.2 rfl rfl rfl ?_; intro w10 hm10 hk10; have H10 := Lib.hid ((H9.out.drewN _).put hm10 hk10); have HR10 := Lib.hid ((HR9.out.1.later (below_drewN (Below.refl _ _) _)).kept hk10 (fun ad e _ => HF7.out ad e)); clear hm10 hk10)
                    go_roundw
                    case rel =>
                      refine ⟨j + 1, by omega, by go_num, ?_, HR10.out⟩
                      have := H10.out
                      rw [take_succ_getD HDD.out.2.2.1, foldU_snoc, ← HDD.out.1]
                      exact this
                    case measure => simp [intOf]; omega
                  · obtain rfl : j = dn := by omega
                    have HE := Lib.hid (show L.take j = L from List.take_of_length_le (by have := HDL.out.1; omega))
                    clear hW8 hR8 hjt
                    go_wp2
                    go_roundw
                    case rel => exact ⟨k + 1, sendG g o.f o.t o.raw o.fa, o.t, foldU f L, n + j, ⟨by omega, by have := HI.out.2.1; have := HD.out.1.2.1; have := HDL.out.1; omega, by have := HI.out.2.2.1; have := sendG_len g o.f o.t o.raw o.fa; omega, by rw [sendG_p]; exact HI.out.2.2.2⟩, by go_num, rfl, by have := H8.out.1; rwa [HE.out] at this, by have := ap_yes (raw := o.raw) HI.out.1 HOK.out HSP.out.1 HSP.out.2.symm; rwa [← HD.out.2.1] at this⟩
                    case measure => simp [intOf]; omega
        · clear hW hI hn hgl hgp
          go_wp2
          go_ret
          exact ⟨rfl, HW.out.bl⟩
    · have hchk : chkL x = 70 := if_neg hch
      rw [hchk] at HC
      clear hgr hch hchk
      go_enter Try.func5, Try.ntmps5
      go_wp2_with (first
        | (go_at_call 23; refine (HA.out _).mono ?_; rintro e w1 ⟨rfl, hb1⟩; have HB1 := Lib.hid (And.intro (k_then hb1 H0.out.1) (k_later hb1 H0.out.2)); clear hb1)
        | (go_at_call 8; refine (HG.out _ HB1.out.1).mono ?_; rintro e w2 ⟨rfl, hb2⟩; have HB2 := Lib.hid (And.intro (k_then hb2 HB1.out.1) (k_later hb2 HB1.out.2)); clear hb2)
        | (refine wpList_load_want rfl 23 _ rfl w.heap.size rfl 23 x.cells (0, 0) _ HB2.out.2 Try.underlying23 rfl HS.out.plan ?_)
        | (go_at_call 24; refine (HC.out _).mono ?_; rintro e w3 ⟨rfl, hb3⟩; have HB3 := Lib.hid (k_then hb3 HB2.out.1); clear hb3))
      go_ret
      exact ⟨rfl, HB3.out⟩
  · rw [hgr] at HG
    clear hgr
    go_enter Try.func5, Try.ntmps5
    go_wp2_with (first
      | (go_at_call 23; refine (HA.out _).mono ?_; rintro e w1 ⟨rfl, hb1⟩; have HB1 := Lib.hid (k_then hb1 H0.out.1); clear hb1)
      | (go_at_call 8; refine (HG.out _ HB1.out).mono ?_; rintro e w2 ⟨rfl, hb2⟩; have HB2 := Lib.hid (k_then hb2 HB1.out); clear hb2))
    go_ret
    exact ⟨rfl, HB2.out⟩
end Go.Proofs.Ytmplidgafdobkaa
