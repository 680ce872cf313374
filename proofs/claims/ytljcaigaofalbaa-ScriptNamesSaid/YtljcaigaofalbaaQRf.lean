/- The document's frame, Delay and Heard, by contracts. No condition. | The document's Heard, by a contract. No condition. -/
import Derived.Test.YtljcaigaofalbaaQX
import Derived.Test.YtljcaigaofalbaaQL
namespace Go.Proofs.Ytljcaigaofalbaa
open Go.RowKit Go.Shelf

theorem bool_by {z : Bool} {C : Prop} {b : Bool} (h : b = true ↔ C) (k : z = true ↔ C) : z = b := by
  cases z <;> cases b <;> simp_all
set_option maxRecDepth 100000 in
set_option maxHeartbeats 4000000 in
theorem refFrame_any (x : Pl) (V : ScV) (s : ScA) (a n r c : Int) (w : World) (h : ScAt w V s) :
    Calls Try.prog 65 #[.agg x.cells, .agg V.cells, .int .i64 a, .int .i64 n, .int .i64 r, .int .i64 c] w fun e w' => e = .returned (.bool (mayS x s.sc && okA x.nodes a n r c)) ∧ Below w.heap.size w w' := by
  have hX := held_new (held_new (held_start w) 23 x.cells) 29 V.cells
  simp only [List.nil_append, List.cons_append, World.size_alloc] at hX
  have HX := Lib.hid hX
  have HC := Lib.hid (fun W (hW : Below w.heap.size w W) => refCheckS_any x V s W (h.later hW))
  have HS := Lib.hid x.cellsL
  have HV := Lib.hid (show (Try.prog.info? 29).map (·.size) = some V.cells.size by show _ = some 5; kernel_rfl)
  cases hm : mayS x s.sc with
  | false =>
    rw [hm] at HC
    unfold errS at HC
    rw [if_neg (by decide)] at HC
    clear hX h hm
    go_enter Try.func65, Try.ntmps65
    go_wp2_with (first
      | (refine wpList_load_row rfl 23 _ rfl w.heap.size rfl 23 x.cells (0, 0) _ (held1 HX.out) Try.underlying23 rfl HS.out.plan ?_)
      | (refine wpList_load_row rfl 29 _ rfl (w.heap.size + 1) rfl 29 V.cells (0, 0) _ (held2 HX.out) Try.underlying29 rfl HV.out ?_)
      | (go_at_call 19; refine (HC.out _ HX.out.1).mono ?_; rintro e w1 ⟨rfl, hb1⟩; have HB1 := Lib.hid hb1; clear hb1))
    go_ret
    exact ⟨rfl, k_then HB1.out HX.out.1⟩
  | true =>
    rw [hm] at HC
    unfold errS at HC
    rw [if_pos rfl] at HC
    have HO := Lib.hid (show okA x.nodes a n r c = true ↔ (((0 ≤ a ∧ a < x.nodes) ∧ (0 ≤ r ∧ r < x.nodes)) ∧ ((0 ≤ n ∧ n ≤ 2147483647) ∧ (0 ≤ c ∧ c < 2))) by unfold okA; rw [decide_eq_true_eq])
    clear hX h hm
    go_enter Try.func65, Try.ntmps65
    go_wp2_with (first
      | (refine wpList_load_row rfl 23 _ rfl w.heap.size rfl 23 x.cells (0, 0) _ (held1 HX.out) Try.underlying23 rfl HS.out.plan ?_)
      | (refine wpList_load_row rfl 29 _ rfl (w.heap.size + 1) rfl 29 V.cells (0, 0) _ (held2 HX.out) Try.underlying29 rfl HV.out ?_)
      | (go_at_call 19; refine (HC.out _ HX.out.1).mono ?_; rintro e w1 ⟨rfl, hb1⟩; have hX1 := held_later hb1 HX.out; have p0 := (held1 hX1).cell 0; simp [Pl.cells] at p0; have HX1 := Lib.hid hX1; clear hb1 hX1))
    all_goals (go_ret; refine ⟨?_, HX1.out.1⟩; refine congrArg (fun z => Ending.returned (Value.bool z)) (bool_by HO.out ?_); first | (simp only [true_iff]; omega) | (simp only [Bool.or_eq_true, beq_iff_eq]; omega) | (simp only [false_iff, Bool.false_eq_true]; omega))

set_option maxRecDepth 100000 in
set_option maxHeartbeats 4000000 in
theorem refDelay_any (x : Pl) (V : ScV) (s : ScA) (a n r c : Int) (w : World) (h : ScAt w V s) :
    Calls Try.prog 21 #[.agg x.cells, .agg V.cells, .int .i64 a, .int .i64 n, .int .i64 r, .int .i64 c] w fun e w' => e = .returned (.int .i64 (delayS x s.sc a n r c)) ∧ Below w.heap.size w w' := by
  have hX := held_new (held_new (held_start w) 23 x.cells) 29 V.cells
  simp only [List.nil_append, List.cons_append, World.size_alloc] at hX
  have HX := Lib.hid hX
  have HC := Lib.hid (fun W (hW : Below w.heap.size w W) => refFrame_any x V s a n r c W (h.later hW))
  have HS := Lib.hid x.cellsL
  have HV := Lib.hid (show (Try.prog.info? 29).map (·.size) = some V.cells.size by show _ = some 5; kernel_rfl)
  cases hm : (mayS x s.sc && okA x.nodes a n r c) with
  | false =>
    have e9 : delayS x s.sc a n r c = 0 := by unfold delayS; rw [hm]; rfl
    rw [hm] at HC
    rw [e9]
    clear hX h hm e9
    go_enter Try.func21, Try.ntmps21
    go_wp2_with (first
      | (refine wpList_load_row rfl 23 _ rfl w.heap.size rfl 23 x.cells (0, 0) _ (held1 HX.out) Try.underlying23 rfl HS.out.plan ?_)
      | (refine wpList_load_row rfl 29 _ rfl (w.heap.size + 1) rfl 29 V.cells (0, 0) _ (held2 HX.out) Try.underlying29 rfl HV.out ?_)
      | (go_at_call 65; refine (HC.out _ HX.out.1).mono ?_; rintro e w1 ⟨rfl, hb1⟩; have HB1 := Lib.hid hb1; clear hb1))
    go_ret
    exact ⟨rfl, k_then HB1.out HX.out.1⟩
  | true =>
    have e9 : delayS x s.sc a n r c = if s.delays.length = 0 then x.dmin else x.dmin + s.delays.getD ((seqA x.nodes a n r c).toNat % s.delays.length) default := by unfold delayS; rw [hm]; rfl
    rw [hm] at HC
    rw [e9]
    rw [Bool.and_eq_true] at hm
    obtain ⟨hm1, hA⟩ := hm
    have hm2 : failsL x 11 = 0 ∧ okS x s.sc = true := by
      unfold mayS at hm1
      rw [Bool.and_eq_true, decide_eq_true_eq] at hm1
      exact hm1
    have hP := okp_of hm2.1
    obtain ⟨_, _, _, _, _, _, _, hde, _⟩ := okS_iff.1 hm2.2
    have N1 := hP.n1
    have N2 := hP.n2
    have d1 := hP.d1
    have d2 := hP.d2
    have d3 := hP.d3
    obtain ⟨⟨⟨a1, a2⟩, r1, r2⟩, ⟨n1, n2⟩, c1, c2⟩ := of_decide_eq_true hA
    have m1 : 0 ≤ n * x.nodes := Int.mul_nonneg n1 (by omega)
    have m2 : n * x.nodes ≤ 2147483647 * 16 := Int.mul_le_mul n2 N2 (by omega) (by omega)
    obtain ⟨q, hq⟩ : ∃ q, q = n * x.nodes := ⟨_, rfl⟩
    rw [← hq] at m1 m2
    have m3 : 0 ≤ (q + a) * x.nodes := Int.mul_nonneg (by omega) (by omega)
    have m4 : (q + a) * x.nodes ≤ (2147483647 * 16 + 16) * 16 := Int.mul_le_mul (by omega) N2 (by omega) (by omega)
    obtain ⟨q2, hq2⟩ : ∃ q2, q2 = (q + a) * x.nodes := ⟨_, rfl⟩
    rw [← hq2] at m3 m4
    have e1 := hq.symm
    have e2 := hq2.symm
    have eS : seqA x.nodes a n r c = 2 * (q2 + r) + c := by unfold seqA; rw [← hq, ← hq2]; omega
    rw [eS]
    have hlen : s.delays.length = V.d.n := h.d.len
    have hcap := Nat.le_trans h.d.cap h.d.max
    have HSc := Lib.hid h
    obtain ⟨⟨A0, n0, c0⟩, ⟨A1, n1', c1'⟩, ⟨A2, m, c2'⟩, ⟨A3, n3, c3⟩, ⟨A4, n4, c4⟩⟩ := V
    simp only at hlen hcap
    rw [hlen]
    have HDe := Lib.hid hde
    have HLn := Lib.hid hlen
    obtain ⟨ans, hans⟩ : ∃ ans, ans = (if m = 0 then x.dmin else x.dmin + s.delays.getD ((2 * (q2 + r) + c).toNat % m) default) := ⟨_, rfl⟩
    rw [← hans]
    have HAN := Lib.hid hans
    have r3 : r ≤ 16 := by omega
    have a3 : a ≤ 16 := by omega
    obtain ⟨N, hN⟩ : ∃ N, N = x.nodes := ⟨_, rfl⟩
    rw [← hN] at e1 e2 N1 N2
    clear hX h hm1 hm2 hP e9 hA hq hq2 eS hlen hde hans a2 r2
    go_enter Try.func21, Try.ntmps21
    go_upto_region 4 with (first
      | (refine wpList_load_row rfl 23 _ rfl w.heap.size rfl 23 x.cells (0, 0) _ (held1 HX.out) Try.underlying23 rfl HS.out.plan ?_)
      | (refine wpList_load_row rfl 29 _ rfl (w.heap.size + 1) rfl 29 _ (0, 0) _ (held2 HX.out) Try.underlying29 rfl HV.out ?_)
      | (go_at_call 65; refine (HC.out _ HX.out.1).mono ?_; rintro e w1 ⟨rfl, hb1⟩; have hX1 := held_later hb1 HX.out; have p0 := (held1 hX1).cell 0; have p6 := (held1 hX1).cell 6; simp [Pl.cells] at p0 p6; rw [← hN] at p0; have s2 := (held2 hX1).cell 2; simp [ScV.cells, Sl.v] at s2; have HX1 := Lib.hid hX1; clear hb1 hX1 hN))
    by_cases h0 : m = 0
    · subst h0
      go_wp2
      go_ret
      have e9 : ans = x.dmin := HAN.out.trans (if_pos trivial)
      exact ⟨by rw [e9]; rfl, HX1.out.1⟩
    · go_upto_region 7 with fail
      generalize hQ : 2 * (q2 + r) + c = Q at *
      have hQ0 : 0 ≤ Q := by omega
      have hj : Q.toNat % m < m := Nat.mod_lt _ (by omega)
      have hj2 : Q.tmod (m : Int) = ((Q.toNat % m : Nat) : Int) := by
        rw [Int.tmod_eq_emod_of_nonneg hQ0, Int.natCast_emod, Int.toNat_of_nonneg hQ0]
      obtain ⟨g, o, hA0, hc⟩ := (HSc.out.later HX1.out.1).d.get hj
      dsimp only at hA0
      subst hA0
      have hcell := numC_cell hc
      have HA2 := HAN.out
      obtain ⟨j, hjj⟩ : ∃ j, j = Q.toNat % m := ⟨_, rfl⟩
      rw [← hjj] at hj hj2 hcell HA2
      obtain ⟨d, hd⟩ : ∃ d, d = s.delays.getD j default := ⟨_, rfl⟩
      have hdb := HDe.out _ (getD_mem (xs := s.delays) (j := j) (by rw [HLn.out]; exact hj))
      rw [← hd] at hcell HA2
      have hdb : okDel x d = true := by rw [hd]; exact hdb
      unfold okDel at hdb
      rw [Bool.and_eq_true, decide_eq_true_eq, decide_eq_true_eq] at hdb
      obtain ⟨b1, b2⟩ := hdb
      have hm0 : ¬ (m : Int) = 0 := by omega
      have HA3 := Lib.hid HA2
      clear hc hjj hd HA2 HAN hQ
      go_quiet (fail)
      go_wp2
      go_ret
      exact ⟨by rw [HA3.out, if_neg h0]; rfl, below_drewN HX1.out.1 _⟩
end Go.Proofs.Ytljcaigaofalbaa

namespace Go.Proofs.Ytljcaigaofalbaa
open Go.RowKit Go.Shelf

theorem met_iff {f : Ft} {N a n r c : Int} (hc : 0 ≤ c ∧ c < 2) (hf : 1 ≤ f.c ∧ f.c ≤ 3) : metA f N a n r c = true ↔ ((f.s = a ∧ f.n = n) ∧ (f.r = r ∨ f.r = N)) ∧ (f.c = 3 ∨ f.c = c + 1) := by
  unfold metA
  rw [decide_eq_true_eq]
  have e : f.c / 2 ^ c.toNat % 2 = 1 ↔ (f.c = 3 ∨ f.c = c + 1) := by
    obtain ⟨fs, fn, fr, fc, fb⟩ := f
    dsimp only at *
    rcases (show c = 0 ∨ c = 1 by omega) with rfl | rfl <;> rcases (show fc = 1 ∨ fc = 2 ∨ fc = 3 by omega) with rfl | rfl | rfl <;> decide
  rw [e]

set_option maxRecDepth 100000 in
set_option maxHeartbeats 4000000 in
theorem refHeard_any (x : Pl) (V : ScV) (s : ScA) (a n r c : Int) (w : World) (h : ScAt w V s) :
    Calls Try.prog 23 #[.agg x.cells, .agg V.cells, .int .i64 a, .int .i64 n, .int .i64 r, .int .i64 c] w fun e w' => e = .returned (.int .i64 (heardS x s.sc a n r c)) ∧ Below w.heap.size w w' := by
  have hX := held_new (held_new (held_start w) 23 x.cells) 29 V.cells
  simp only [List.nil_append, List.cons_append, World.size_alloc] at hX
  have HX := Lib.hid hX
  have HC := Lib.hid (fun W (hW : Below w.heap.size w W) => refFrame_any x V s a n r c W (h.later hW))
  have HS := Lib.hid x.cellsL
  have HV := Lib.hid (show (Try.prog.info? 29).map (·.size) = some V.cells.size by show _ = some 5; kernel_rfl)
  cases hm : (mayS x s.sc && okA x.nodes a n r c) with
  | false =>
    have e9 : heardS x s.sc a n r c = 2 := by unfold heardS; rw [hm]; rfl
    rw [hm] at HC
    rw [e9]
    clear hX h hm e9
    go_enter Try.func23, Try.ntmps23
    go_wp2_with (first
      | (refine wpList_load_row rfl 23 _ rfl w.heap.size rfl 23 x.cells (0, 0) _ (held1 HX.out) Try.underlying23 rfl HS.out.plan ?_)
      | (refine wpList_load_row rfl 29 _ rfl (w.heap.size + 1) rfl 29 V.cells (0, 0) _ (held2 HX.out) Try.underlying29 rfl HV.out ?_)
      | (go_at_call 65; refine (HC.out _ HX.out.1).mono ?_; rintro e w1 ⟨rfl, hb1⟩; have HB1 := Lib.hid hb1; clear hb1))
    go_ret
    exact ⟨rfl, k_then HB1.out HX.out.1⟩
  | true =>
    have e9 : heardS x s.sc a n r c = heardF x.nodes a n r c s.faults 0 := by unfold heardS; rw [hm]; rfl
    rw [hm] at HC
    rw [e9]
    rw [Bool.and_eq_true] at hm
    obtain ⟨hm1, hA⟩ := hm
    have hm2 : failsL x 11 = 0 ∧ okS x s.sc = true := by
      unfold mayS at hm1
      rw [Bool.and_eq_true, decide_eq_true_eq] at hm1
      exact hm1
    obtain ⟨_, _, _, _, hf64, _, _, _, _, hfe⟩ := okS_iff.1 hm2.2
    have hcc : 0 ≤ c ∧ c < 2 := (of_decide_eq_true hA).2.2
    have hlen : s.faults.length = V.f.n := h.f.len
    have hm4 : V.f.n ≤ 64 := by have : s.faults.length ≤ 64 := hf64; omega
    have HSc := Lib.hid h
    have HFe := Lib.hid hfe
    have HLn := Lib.hid hlen
    obtain ⟨ans, hans⟩ : ∃ ans, ans = heardF x.nodes a n r c s.faults 0 := ⟨_, rfl⟩
    rw [← hans]
    have HAN := Lib.hid hans
    clear hX h hm1 hm2 e9 hA hf64 hfe hlen hans
    go_enter Try.func23, Try.ntmps23
    go_wp2_with (first
      | (refine wpList_load_row rfl 23 _ rfl w.heap.size rfl 23 x.cells (0, 0) _ (held1 HX.out) Try.underlying23 rfl HS.out.plan ?_)
      | (refine wpList_load_row rfl 29 _ rfl (w.heap.size + 1) rfl 29 _ (0, 0) _ (held2 HX.out) Try.underlying29 rfl HV.out ?_)
      | (go_at_call 65; refine (HC.out _ HX.out.1).mono ?_; rintro e w1 ⟨rfl, hb1⟩; have HX1 := Lib.hid (held_later hb1 HX.out); clear hb1))
    go_loopw [15, 14] (fun iv zv wr => ∃ (k : Nat) (z : Int), k ≤ V.f.n ∧ iv = .int .i64 (k : Int) ∧ zv = .int .i64 z ∧ Held w [(w.heap.size, 23, x.cells), (w.heap.size + 1, 29, V.cells)] wr ∧ heardF x.nodes a n r c (s.faults.drop k) z = ans) (fun iv _ _ => V.f.n - (intOf iv).toNat)
    case atStart => exact ⟨0, 0, by omega, rfl, rfl, HX1.out, HAN.out.symm⟩
    case round =>
      obtain ⟨k, z, hk, rfl, rfl, hX, hans⟩ := hrel
      have HX3 := Lib.hid hX
      have HAN3 := Lib.hid hans
      have p0 := (held1 hX).cell 0
      simp [Pl.cells] at p0
      have b4 := (sc_cells (held2 hX)).2.2.2.2
      unfold Sl.v at b4
      clear hX hans HX1
      by_cases hlt : k < V.f.n
      · obtain ⟨g, o, hA4, hR⟩ := (HSc.out.later HX3.out.1).f.get (i := k) hlt
        rw [hA4] at b4
        have hkl : k < s.faults.length := by rw [HLn.out]; exact hlt
        have hdr : s.faults.drop k = s.faults.getD k default :: s.faults.drop (k + 1) := by
          rw [List.drop_eq_getElem_cons hkl, List.getD_eq_getElem?_getD, List.getElem?_eq_getElem hkl]; rfl
        have hok : okFt x (s.faults.getD k default) = true := HFe.out _ (getD_mem (xs := s.faults) (j := k) hkl)
        obtain ⟨y, hy⟩ : ∃ y, y = s.faults.getD k default := ⟨_, rfl⟩
        rw [← hy] at hR hdr hok
        obtain ⟨_, _, _, _, _, _, hf1, hf2⟩ := okFt_iff.1 hok
        have hans := HAN3.out
        rw [hdr, heardF] at hans
        have hmi := met_iff (f := y) (N := x.nodes) (a := a) (n := n) (r := r) hcc ⟨hf1, hf2⟩
        generalize metA y x.nodes a n r c = mt at *
        obtain ⟨fs, fn, fr, fc, fb⟩ := y
        obtain ⟨r0, r1, r2, r3, r4⟩ := ftC_cells hR
        dsimp only at r0 r1 r2 r3 r4 hans hmi
        have f1 : (0 : Int) ≤ (k : Int) := by omega
        have f2 : (k : Int) < (V.f.n : Int) := by omega
        have hba : ∀ cs, Below wr.heap.size wr (wr.alloc (.cells cs 54)) := fun cs => (Below.refl _ _).alloc (Nat.le_refl _) _
        have p1 := fun cs => k_cell (hba cs) p0
        have HX4 := Lib.hid (fun cs => held_later (hba cs) HX3.out)
        have HAN4 := Lib.hid hans
        have HMI := Lib.hid hmi
        clear hR hkl hdr hok hy HAN3 hba hf1 hf2 hans hmi HX3 p0
        cases fb
        case false =>
          go_wp2
          all_goals (try simp only [beq_iff_eq, beq_eq_false_iff_ne, ne_eq] at *)
          all_goals first
            | (go_ret
               have hm : mt = true := HMI.out.2 (by omega)
               exact ⟨by have e := HAN4.out; rw [if_pos hm, if_neg Bool.false_ne_true] at e; rw [← e]; rfl, (HX4.out _).1⟩)
            | (have hm : mt = false := by
                 cases mt
                 · rfl
                 · have := HMI.out.1 rfl
                   omega
               go_roundw
               case rel => exact ⟨k + 1, z, by omega, by go_num, rfl, HX4.out _, by have e := HAN4.out; rw [hm] at e; simpa using e⟩
               case measure => simp [intOf]; omega)
        case true =>
          go_wp2
          all_goals (try simp only [beq_iff_eq, beq_eq_false_iff_ne, ne_eq] at *)
          all_goals first
            | (have hm : mt = true := HMI.out.2 (by omega)
               go_roundw
               case rel => exact ⟨k + 1, 1, by omega, by go_num, rfl, HX4.out _, by have e := HAN4.out; rw [hm] at e; simpa using e⟩
               case measure => simp [intOf]; omega)
            | (have hm : mt = false := by
                 cases mt
                 · rfl
                 · have := HMI.out.1 rfl
                   omega
               go_roundw
               case rel => exact ⟨k + 1, z, by omega, by go_num, rfl, HX4.out _, by have e := HAN4.out; rw [hm] at e; simpa using e⟩
               case measure => simp [intOf]; omega)
      · have hkm : s.faults.drop k = [] := List.drop_eq_nil_of_le (by rw [HLn.out]; omega)
        have hans := HAN3.out
        rw [hkm, heardF] at hans
        have HAN4 := Lib.hid hans
        clear hans hkm HAN3
        go_wp2
        go_ret
        exact ⟨by rw [← HAN4.out]; rfl, HX3.out.1⟩
end Go.Proofs.Ytljcaigaofalbaa
