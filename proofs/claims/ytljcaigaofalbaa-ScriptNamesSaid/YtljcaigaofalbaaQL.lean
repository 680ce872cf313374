/- The document's Check of a script, by a contract. No condition. -/
import Derived.Deep.DeepCutAuto
import Derived.Test.YtljcaigaofalbaaQK
import Derived.Test.YtljcaigaofalbaaQH
namespace Go.Proofs.Ytljcaigaofalbaa
open Go.RowKit Go.Shelf

theorem okp_of {x : Pl} (h : failsL x 11 = 0) : OkP x := by
  have H : ∀ j, 1 ≤ j → j ≤ 11 → holdL x j := by
    rcases failsL_first x (Nat.le_refl 11) with ⟨_, h2⟩ | ⟨h1, _⟩
    · exact h2
    · omega
  have h1 : (4 ≤ x.nodes ∧ x.nodes ≤ 16) ∧ (0 ≤ x.kk ∧ 2 * x.kk + 2 ≤ x.nodes) := H 1 (by omega) (by omega)
  have h2 : (1 ≤ x.air ∧ x.air ≤ 1048576) ∧ 0 ≤ x.dmin ∧ (x.dmin ≤ x.dmax ∧ x.dmax ≤ 1048576) := H 2 (by omega) (by omega)
  have h3 : (1 ≤ x.slot ∧ x.slot ≤ 1048576) ∧ (4 ≤ x.rho ∧ x.rho ≤ 1048576) := H 3 (by omega) (by omega)
  have h11 : lHor x ≤ x.horizon ∧ x.horizon ≤ 2147483648 := H 11 (by omega) (by omega)
  exact ⟨h1.1.1, h1.1.2, h2.2.1, h2.2.2.1, h2.2.2.2, h3.1.1, h3.1.2, h3.2.1, h3.2.2, h11.1, h11.2⟩
/-- May plan and script be? -/
def mayS (x : Pl) (s : Sc) : Bool := decide (failsL x 11 = 0) && okS x s
def errS (b : Bool) : Int := if b then 0 else 110
theorem errS_no {b : Bool} (h : b = false) : errS b = 110 := by rw [h]; rfl
theorem errS_yes {b : Bool} (h : b = true) : errS b = 0 := by rw [h]; rfl
theorem may_not {x : Pl} {s : Sc} (h : okS x s = true → False) : errS (mayS x s) = 110 := errS_no (by
  unfold mayS
  cases e : okS x s
  · exact Bool.and_false _
  · exact (h e).elim)

set_option maxRecDepth 100000 in
set_option maxHeartbeats 4000000 in
theorem refCheckS_any (x : Pl) (V : ScV) (s : ScA) (w : World) (h : ScAt w V s) : Calls Try.prog 19 #[.agg x.cells, .agg V.cells] w fun e w' => e = .returned (.int .i64 (errS (mayS x s.sc))) ∧ Below w.heap.size w w' := by
  have hH := held_new (held_new (held_start w) 23 x.cells) 29 V.cells
  simp only [List.nil_append, List.cons_append, World.size_alloc] at hH
  have HX := Lib.hid hH
  have H := Lib.hid h
  have hc := fun W => refCheck_any x W
  unfold chkL at hc
  have HS := Lib.hid x.cellsL
  by_cases hf : failsL x 11 = 0
  case neg =>
    have HG := Lib.hid (show errS (mayS x s.sc) = 110 from errS_no (by simp [mayS, hf]))
    simp only [if_neg hf] at hc
    have HC := Lib.hid hc
    generalize errS (mayS x s.sc) = G at *
    clear h hH hc hf
    go_enter Try.func19, Try.ntmps19
    go_wp2_with (first
      | (refine wpList_load_row rfl 23 _ rfl w.heap.size rfl 23 x.cells (0, 0) _ (held1 HX.out) Try.underlying23 rfl HS.out.plan ?_)
      | (go_at_call 56; refine (HC.out _).mono ?_; rintro e w1 ⟨rfl, hb1⟩))
    go_ret
    exact ⟨by rw [HG.out]; rfl, k_then hb1 HX.out.1⟩
  simp only [if_pos hf] at hc
  have HC := Lib.hid hc
  have hP := okp_of hf
  have HP := Lib.hid hP
  have HD := Lib.hid (fun W => refDrift_any x W hP)
  have HLt := Lib.hid (fun W => refLate_any x W hP)
  have HHp := Lib.hid (fun W y => refHappens_any x W y)
  have HFt := Lib.hid (fun W y => refFails_any' x W y)
  have hyes : okS x s.sc = true → errS (mayS x s.sc) = 0 := fun e => errS_yes (by simp [mayS, hf, e])
  have hno : (okS x s.sc = true → False) → errS (mayS x s.sc) = 110 := may_not
  have HY := Lib.hid hyes
  have HN := Lib.hid hno
  have l0 := h.r.len
  have l1 := h.o.len
  have l2 := h.d.len
  have l3 := h.h.row.len
  have l4 := h.f.len
  have m2 := Nat.le_trans h.d.cap h.d.max
  have m3 := Nat.le_trans h.h.row.cap h.h.row.max
  have m4 := Nat.le_trans h.f.cap h.f.max
  have n1 := hP.n1
  have n2 := hP.n2
  have hlens : okS x s.sc = true → (V.r.n : Int) = x.nodes ∧ (V.o.n : Int) = x.nodes ∧ V.d.n ≤ 256 ∧ V.h.n ≤ 64 ∧ V.f.n ≤ 64 := fun e => by
    obtain ⟨a, b, c, d, e, _⟩ := okS_iff.1 e
    simp only [ScA.sc, List.length_map] at a b c d e
    omega
  have HL := Lib.hid hlens
  have HLL := Lib.hid (And.intro l0 (And.intro l1 (And.intro l2 (And.intro l3 l4))))
  generalize errS (mayS x s.sc) = G at *
  obtain ⟨⟨A0, q0, c0⟩, ⟨A1, q1, c1⟩, ⟨A2, q2, c2⟩, ⟨A3, q3, c3⟩, ⟨A4, q4, c4⟩⟩ := V
  unfold ScV.cells Sl.v at *
  dsimp only at *
  clear h hH hc hf hyes hno l0 l1 l2 l3 l4 hP hlens
  go_enter Try.func19, Try.ntmps19
  go_wp2_with (first
    | (refine wpList_load_row rfl 23 _ rfl w.heap.size rfl 23 x.cells (0, 0) _ (held1 HX.out) Try.underlying23 rfl HS.out.plan ?_)
    | (go_at_call 56; refine (HC.out _).mono ?_; rintro e w1 ⟨rfl, hb1⟩; have hX1 := held_later hb1 HX.out; have HX1 := Lib.hid hX1; obtain ⟨⟨p0, _⟩, _⟩ := l_cells (held1 hX1); obtain ⟨b0, b1, b2, b3, b4⟩ := sc_cells (V := ⟨⟨A0, q0, c0⟩, ⟨A1, q1, c1⟩, ⟨A2, q2, c2⟩, ⟨A3, q3, c3⟩, ⟨A4, q4, c4⟩⟩) (held2 hX1); unfold Sl.v at b0 b1 b2 b3 b4; dsimp only at b0 b1 b2 b3 b4; clear hX1 hb1))
  all_goals first
    | (go_ret; exact ⟨by rw [HN.out (fun e => by have := HL.out e; simp at *; omega)]; rfl, HX1.out.1⟩)
    | skip
  have e01 : (q0 : Int) = x.nodes := by assumption
  have e02 : (q1 : Int) = x.nodes := by assumption
  have e03 : q2 ≤ 256 ∧ q3 ≤ 64 ∧ q4 ≤ 64 := by omega
  have HE := Lib.hid (And.intro e01 (And.intro e02 e03))
  clear p0 b0 b1 b2 b3 b4
  go_loopw [5] (fun iv wr => ∃ k : Nat, (k : Int) ≤ x.nodes ∧ iv = .int .i64 (k : Int) ∧ (Held w [(w.heap.size, 23, x.cells), (w.heap.size + 1, 29, #[.slice A0 q0 c0, .slice A1 q1 c1, .slice A2 q2 c2, .slice A3 q3 c3, .slice A4 q4 c4])] wr) ∧ ∀ j, j < k → okRate x (s.rates.getD j default) = true ∧ okOn x (s.on.getD j default) = true) (fun iv _ => x.nodes.toNat - (intOf iv).toNat)
  case atStart => exact ⟨0, by omega, rfl, HX1.out, fun j hj => absurd hj (Nat.not_lt_zero _)⟩
  case round =>
    obtain ⟨k, hk, rfl, hW, hall⟩ := hrel
    have HA := Lib.hid hall
    have HW := Lib.hid hW
    obtain ⟨⟨p0, _⟩, ⟨_, _, p6, p7⟩, _⟩ := l_cells (held1 hW)
    obtain ⟨b0, b1, b2, b3, b4⟩ := sc_cells (V := ⟨⟨A0, q0, c0⟩, ⟨A1, q1, c1⟩, ⟨A2, q2, c2⟩, ⟨A3, q3, c3⟩, ⟨A4, q4, c4⟩⟩) (held2 hW)
    unfold Sl.v at b0 b1 b2 b3 b4
    dsimp only at b0 b1 b2 b3 b4 p0 p6 p7
    clear hW hall
    clear HX1
    by_cases hlt : (k : Int) < x.nodes
    · have hS := H.out.later HW.out.1
      obtain ⟨g0, o0, hA0, hR0⟩ := hS.r.get (i := k) (show k < q0 by omega)
      obtain ⟨g1, o1, hA1, hR1⟩ := hS.o.get (i := k) (show k < q1 by omega)
      dsimp only at hA0 hA1
      subst hA0 hA1
      have hno : ¬ (okRate x (s.rates.getD k default) = true ∧ okOn x (s.on.getD k default) = true) → G = 110 := fun hc => HN.out (fun e => hc (by
        obtain ⟨_, _, _, _, _, o1, o2, _⟩ := okS_iff.1 e
        exact ⟨o1 _ (getD_mem (xs := s.rates) (by have := HLL.out; omega)), o2 _ (getD_mem (xs := s.on) (by have := HLL.out; omega))⟩))
      obtain ⟨y, hy⟩ : ∃ y, y = s.rates.getD k default := ⟨_, rfl⟩
      obtain ⟨z, hz⟩ : ∃ z, z = s.on.getD k default := ⟨_, rfl⟩
      rw [← hy, ← hz] at hno
      rw [← hy] at hR0
      rw [← hz] at hR1
      have HYZ := Lib.hid (And.intro hy hz)
      obtain ⟨num, den⟩ := y
      rw [okRate_iff, okOn_iff] at hno
      dsimp only at hno
      have hdr := HP.out.drift
      have hrd : 16 ≤ lateL x ∧ lateL x ≤ 67108864 := by have := HP.out.round; unfold lateL; omega
      obtain ⟨dr, hdr'⟩ : ∃ dr, dr = drL x := ⟨_, rfl⟩
      obtain ⟨lt, hlt'⟩ : ∃ lt, lt = lateL x := ⟨_, rfl⟩
      have HDr := Lib.hid (And.intro hdr' hlt')
      have HDD := Lib.hid HD.out
      have HLL2 := Lib.hid HLt.out
      rw [← hdr'] at HDD hno hdr
      rw [← hlt'] at HLL2 hno hrd
      have HNN := Lib.hid hno
      obtain ⟨r0, r1⟩ := rateC_cells hR0
      have r2 := numC_cell hR1
      dsimp only at r0 r1
      have f1 : (0 : Int) ≤ (k : Int) := by omega
      have f2 : (k : Int) < (q0 : Int) := by omega
      have f3 : (k : Int) < (q1 : Int) := by omega
      obtain ⟨W7, hW7⟩ : ∃ W7, W7 = wr.alloc (.cells #[.int .i64 num, .int .i64 den] 52) := ⟨_, rfl⟩
      have hb7 : Below wr.heap.size wr W7 := by rw [hW7]; exact (Below.refl _ _).alloc (Nat.le_refl _) _
      have HW7 := Lib.hid (held_later hb7 HW.out)
      have m0 : W7.cell? ⟨wr.heap.size, 0, none⟩ = some (.int .i64 num) := by rw [hW7]; exact (Whole.new wr _ _).cell 0
      have m1 : W7.cell? ⟨wr.heap.size, 1, none⟩ = some (.int .i64 den) := by rw [hW7]; exact (Whole.new wr _ _).cell 1
      have m0 := fun z : Later W7 => z.cell m0
      have m1 := fun z : Later W7 => z.cell m1
      have m2' := fun z : Later W7 => z.cell (k_cell hb7 r2)
      have m3' := fun z : Later W7 => z.cell (k_cell hb7 b1)
      have v1 : wrap64 (65536 - dr) = 65536 - dr := by unfold wrap64; omega
      have v2 : wrap64 (65536 + dr) = 65536 + dr := by unfold wrap64; omega
      clear hS hR0 hR1 hy hz hno hdr' hlt' hb7 hdr hrd
      by_cases h0 : den = 65536
      case neg =>
        have d0 : (den != 65536) = true := by simp [h0]
        have HB := Lib.hid (HNN.out (by omega))
        go_upto_region 7 with fail
        rw [← hW7]
        refine wp_region_later (by kernel_rfl) (by kernel_rfl) ?_
        repeat (first | (go_big_quiet_want; refine quiet_load_row 23 _ rfl w.heap.size rfl 23 x.cells (0, 0) _ (later_row (held1 HW7.out)) Try.underlying23 rfl HS.out.plan ?_; simp only [Act.put, List.setIfInBounds_toArray, List.set_cons_succ, List.set_cons_zero]; go_big_quiet_on) | (go_big_quiet_step (first | (go_at_call 52; exact later_of _ HDD.out) | (go_at_call 58; exact later_of _ HLL2.out))))
        apply wpQuiet_nil
        rintro _ ⟨z7, rfl⟩
        go_wp2
        go_ret
        exact ⟨by rw [HB.out]; rfl, k_then z7.below HW7.out.1⟩
      have d0 : (den != 65536) = false := by simp [h0]
      have H0 := Lib.hid h0
      clear h0
      by_cases h1 : 65536 - dr ≤ num
      case neg =>
        have d1 : decide (num < 65536 - dr) = true := by simp; omega
        have HB := Lib.hid (HNN.out (by omega))
        go_upto_region 7 with fail
        rw [← hW7]
        refine wp_region_later (by kernel_rfl) (by kernel_rfl) ?_
        repeat (first | (go_big_quiet_want; refine quiet_load_row 23 _ rfl w.heap.size rfl 23 x.cells (0, 0) _ (later_row (held1 HW7.out)) Try.underlying23 rfl HS.out.plan ?_; simp only [Act.put, List.setIfInBounds_toArray, List.set_cons_succ, List.set_cons_zero]; go_big_quiet_on) | (go_big_quiet_step (first | (go_at_call 52; exact later_of _ HDD.out) | (go_at_call 58; exact later_of _ HLL2.out))))
        apply wpQuiet_nil
        rintro _ ⟨z7, rfl⟩
        go_wp2
        go_ret
        exact ⟨by rw [HB.out]; rfl, k_then z7.below HW7.out.1⟩
      by_cases h2 : num ≤ 65536 + dr
      case neg =>
        have d1 : decide (num < 65536 - dr) = false := by simp; omega
        have d2 : decide (65536 + dr < num) = true := by simp; omega
        have HB := Lib.hid (HNN.out (by omega))
        go_upto_region 7 with fail
        rw [← hW7]
        refine wp_region_later (by kernel_rfl) (by kernel_rfl) ?_
        repeat (first | (go_big_quiet_want; refine quiet_load_row 23 _ rfl w.heap.size rfl 23 x.cells (0, 0) _ (later_row (held1 HW7.out)) Try.underlying23 rfl HS.out.plan ?_; simp only [Act.put, List.setIfInBounds_toArray, List.set_cons_succ, List.set_cons_zero]; go_big_quiet_on) | (go_big_quiet_step (first | (go_at_call 52; exact later_of _ HDD.out) | (go_at_call 58; exact later_of _ HLL2.out))))
        apply wpQuiet_nil
        rintro _ ⟨z7, rfl⟩
        go_wp2
        go_ret
        exact ⟨by rw [HB.out]; rfl, k_then z7.below HW7.out.1⟩
      by_cases h3 : -1 ≤ z
      case neg =>
        have d1 : decide (num < 65536 - dr) = false := by simp; omega
        have d2 : decide (65536 + dr < num) = false := by simp; omega
        have d3 : decide (z < -1) = true := by simp; omega
        have HB := Lib.hid (HNN.out (by omega))
        go_upto_region 7 with fail
        rw [← hW7]
        refine wp_region_later (by kernel_rfl) (by kernel_rfl) ?_
        repeat (first | (go_big_quiet_want; refine quiet_load_row 23 _ rfl w.heap.size rfl 23 x.cells (0, 0) _ (later_row (held1 HW7.out)) Try.underlying23 rfl HS.out.plan ?_; simp only [Act.put, List.setIfInBounds_toArray, List.set_cons_succ, List.set_cons_zero]; go_big_quiet_on) | (go_big_quiet_step (first | (go_at_call 52; exact later_of _ HDD.out) | (go_at_call 58; exact later_of _ HLL2.out))))
        apply wpQuiet_nil
        rintro _ ⟨z7, rfl⟩
        go_wp2
        go_ret
        exact ⟨by rw [HB.out]; rfl, k_then z7.below HW7.out.1⟩
      by_cases h4 : z ≤ lt
      case neg =>
        have d1 : decide (num < 65536 - dr) = false := by simp; omega
        have d2 : decide (65536 + dr < num) = false := by simp; omega
        have d3 : decide (z < -1) = false := by simp; omega
        have d4 : decide (lt < z) = true := by simp; omega
        have HB := Lib.hid (HNN.out (by omega))
        go_upto_region 7 with fail
        rw [← hW7]
        refine wp_region_later (by kernel_rfl) (by kernel_rfl) ?_
        repeat (first | (go_big_quiet_want; refine quiet_load_row 23 _ rfl w.heap.size rfl 23 x.cells (0, 0) _ (later_row (held1 HW7.out)) Try.underlying23 rfl HS.out.plan ?_; simp only [Act.put, List.setIfInBounds_toArray, List.set_cons_succ, List.set_cons_zero]; go_big_quiet_on) | (go_big_quiet_step (first | (go_at_call 52; exact later_of _ HDD.out) | (go_at_call 58; exact later_of _ HLL2.out))))
        apply wpQuiet_nil
        rintro _ ⟨z7, rfl⟩
        go_wp2
        go_ret
        exact ⟨by rw [HB.out]; rfl, k_then z7.below HW7.out.1⟩
      have d1 : decide (num < 65536 - dr) = false := by simp; omega
      have d2 : decide (65536 + dr < num) = false := by simp; omega
      have d3 : decide (z < -1) = false := by simp; omega
      have d4 : decide (lt < z) = false := by simp; omega
      go_upto_region 7 with fail
      rw [← hW7]
      refine wp_region_later (by kernel_rfl) (by kernel_rfl) ?_
      repeat (first | (go_big_quiet_want; refine quiet_load_row 23 _ rfl w.heap.size rfl 23 x.cells (0, 0) _ (later_row (held1 HW7.out)) Try.underlying23 rfl HS.out.plan ?_; simp only [Act.put, List.setIfInBounds_toArray, List.set_cons_succ, List.set_cons_zero]; go_big_quiet_on) | (go_big_quiet_step (first | (go_at_call 52; exact later_of _ HDD.out) | (go_at_call 58; exact later_of _ HLL2.out))))
      apply wpQuiet_nil
      rintro _ ⟨z7, rfl⟩
      go_wp2
      go_roundw
      case rel =>
        refine ⟨k + 1, by omega, by go_num, held_later z7.below HW7.out, fun j hj => ?_⟩
        rcases Nat.lt_or_ge j k with h | h
        · exact HA.out j h
        · obtain rfl : j = k := by omega
          rw [← HYZ.out.1, ← HYZ.out.2, okRate_iff, okOn_iff, ← HDr.out.1, ← HDr.out.2]
          exact ⟨⟨H0.out, h1, h2⟩, h3, h4⟩
      case measure => simp [intOf]; omega
    · have hN : (k : Int) = x.nodes := by omega
      have HRO := Lib.hid (show ∀ j : Nat, (j : Int) < x.nodes → okRate x (s.rates.getD j default) = true ∧ okOn x (s.on.getD j default) = true from fun j hj => HA.out j (by omega))
      clear HA hN
      go_wp2
      clear hlt p0 p6 p7 b0 b1 b2 b3 b4
      go_loopw [7] (fun iv wr => ∃ k : Nat, k ≤ q2 ∧ iv = .int .i64 (k : Int) ∧ (Held w [(w.heap.size, 23, x.cells), (w.heap.size + 1, 29, #[.slice A0 q0 c0, .slice A1 q1 c1, .slice A2 q2 c2, .slice A3 q3 c3, .slice A4 q4 c4])] wr) ∧ ∀ j, j < k → okDel x (s.delays.getD j default) = true) (fun iv _ => q2 - (intOf iv).toNat)
      case atStart => exact ⟨0, by omega, rfl, HW.out, fun j hj => absurd hj (Nat.not_lt_zero _)⟩
      case round =>
        clear HW
        obtain ⟨k, hk, rfl, hW, hall⟩ := hrel
        have HA := Lib.hid hall
        have HW := Lib.hid hW
        obtain ⟨⟨p0, _⟩, ⟨_, _, p6, p7⟩, _⟩ := l_cells (held1 hW)
        obtain ⟨b0, b1, b2, b3, b4⟩ := sc_cells (V := ⟨⟨A0, q0, c0⟩, ⟨A1, q1, c1⟩, ⟨A2, q2, c2⟩, ⟨A3, q3, c3⟩, ⟨A4, q4, c4⟩⟩) (held2 hW)
        unfold Sl.v at b0 b1 b2 b3 b4
        dsimp only at b0 b1 b2 b3 b4 p0 p6 p7
        clear hW hall
        by_cases hlt : k < q2
        · have hS := H.out.later HW.out.1
          obtain ⟨g0, o0, hA0, hR0⟩ := hS.d.get (i := k) (show k < q2 by omega)
          dsimp only at hA0
          subst hA0
          have hno : ¬ (okDel x (s.delays.getD k default) = true) → G = 110 := fun hc => HN.out (fun e => hc (by
            obtain ⟨_, _, _, _, _, _, _, o3, _⟩ := okS_iff.1 e
            exact o3 _ (getD_mem (xs := s.delays) (by have := HLL.out; omega))))
          obtain ⟨z, hz⟩ : ∃ z, z = s.delays.getD k default := ⟨_, rfl⟩
          rw [← hz] at hno hR0
          have HZ := Lib.hid hz
          rw [okDel_iff] at hno
          have HNN := Lib.hid hno
          have r2 := numC_cell hR0
          have f1 : (0 : Int) ≤ (k : Int) := by omega
          have f2 : (k : Int) < (q2 : Int) := by omega
          have hd1 := HP.out.d1
          have hd2 := HP.out.d2
          have hd3 := HP.out.d3
          have v1 : wrap64 (x.dmax - x.dmin) = x.dmax - x.dmin := by unfold wrap64; omega
          clear hS hR0 hz hno
          by_cases h0 : 0 ≤ z
          case neg =>
            have d0 : decide (z < 0) = true := by simp; omega
            have HB := Lib.hid (HNN.out (by omega))
            go_wp2
            go_quiet (fail)
            go_wp2
            go_ret
            exact ⟨by rw [HB.out]; rfl, below_drewN HW.out.1 _⟩
          by_cases h1 : z ≤ x.dmax - x.dmin
          case neg =>
            have d0 : decide (z < 0) = false := by simp; omega
            have d1 : decide (x.dmax - x.dmin < z) = true := by simp; omega
            have HB := Lib.hid (HNN.out (by omega))
            go_wp2
            go_quiet (fail)
            go_wp2
            go_ret
            exact ⟨by rw [HB.out]; rfl, below_drewN HW.out.1 _⟩
          have d0 : decide (z < 0) = false := by simp; omega
          have d1 : decide (x.dmax - x.dmin < z) = false := by simp; omega
          go_wp2
          go_quiet (fail)
          go_wp2
          go_roundw
          case rel =>
            refine ⟨k + 1, by omega, by go_num, held_drew HW.out _, fun j hj => ?_⟩
            rcases Nat.lt_or_ge j k with h | h
            · exact HA.out j h
            · obtain rfl : j = k := by omega
              rw [← HZ.out, okDel_iff]
              exact ⟨h0, h1⟩
          case measure => simp [intOf]; omega
        · have hN8 : k = q2 := by omega
          have HDL := Lib.hid (show ∀ j, j < q2 → okDel x (s.delays.getD j default) = true from fun j hj => HA.out j (by omega))
          clear HA hN8
          go_wp2
          clear hlt p0 p6 p7 b0 b1 b2 b3 b4
          go_loopw [8] (fun iv wr => ∃ k : Nat, k ≤ q3 ∧ iv = .int .i64 (k : Int) ∧ (Held w [(w.heap.size, 23, x.cells), (w.heap.size + 1, 29, #[.slice A0 q0 c0, .slice A1 q1 c1, .slice A2 q2 c2, .slice A3 q3 c3, .slice A4 q4 c4])] wr) ∧ ∀ j, j < k → okHap x (s.haps.getD j default).hp = true) (fun iv _ => q3 - (intOf iv).toNat)
          case atStart => exact ⟨0, by omega, rfl, HW.out, fun j hj => absurd hj (Nat.not_lt_zero _)⟩
          case round =>
            clear HW
            obtain ⟨k, hk, rfl, hW, hall⟩ := hrel
            have HA := Lib.hid hall
            have HW := Lib.hid hW
            obtain ⟨⟨p0, _⟩, ⟨_, _, p6, p7⟩, _⟩ := l_cells (held1 hW)
            obtain ⟨b0, b1, b2, b3, b4⟩ := sc_cells (V := ⟨⟨A0, q0, c0⟩, ⟨A1, q1, c1⟩, ⟨A2, q2, c2⟩, ⟨A3, q3, c3⟩, ⟨A4, q4, c4⟩⟩) (held2 hW)
            unfold Sl.v at b0 b1 b2 b3 b4
            dsimp only at b0 b1 b2 b3 b4 p0 p6 p7
            clear hW hall
            by_cases hlt : k < q3
            · have hS := H.out.later HW.out.1
              obtain ⟨g0, o0, hA0, hR0⟩ := hS.h.row.get (i := k) (show k < q3 by omega)
              dsimp only at hA0
              subst hA0
              have hno : ¬ (okHap x (s.haps.getD k default).hp = true) → G = 110 := fun hc => HN.out (fun e => hc (by
                obtain ⟨_, _, _, _, _, _, _, _, o4, o5⟩ := okS_iff.1 e
                exact o4 _ (List.mem_map.2 ⟨_, getD_mem (xs := s.haps) (by have := HLL.out; omega), rfl⟩)))
              obtain ⟨y, hy⟩ : ∃ y, y = s.haps.getD k default := ⟨_, rfl⟩
              rw [← hy] at hno hR0
              have HZ := Lib.hid hy
              obtain ⟨s0, s1, s2, s3⟩ := hapC_cells hR0
              have f1 : (0 : Int) ≤ (k : Int) := by omega
              have f2 : (k : Int) < (q3 : Int) := by omega
              have hcall := fun W => HHp.out W y
              have s0 := fun z : Later wr => z.cell s0
              have s1 := fun z : Later wr => z.cell s1
              have s2 := fun z : Later wr => z.cell s2
              have s3 := fun z : Later wr => z.cell s3
              have b3 := fun z : Later wr => z.cell b3
              have b4 := fun z : Later wr => z.cell b4
              generalize hb : okHap x y.hp = b at *
              have HBB := Lib.hid hb
              have HNN := Lib.hid hno
              have HCC := Lib.hid hcall
              clear hS hR0 hy hno hb hcall
              cases b
              case false =>
                have HB := Lib.hid (HNN.out (fun h => Bool.noConfusion h))
                go_upto_region 17 with fail
                refine wp_region_later (by kernel_rfl) (by kernel_rfl) ?_
                repeat (first | (go_big_quiet_want; refine quiet_load_row 23 _ rfl w.heap.size rfl 23 x.cells (0, 0) _ (later_row (held1 HW.out)) Try.underlying23 rfl HS.out.plan ?_; simp only [Act.put, List.setIfInBounds_toArray, List.set_cons_succ, List.set_cons_zero]; go_big_quiet_on) | (go_big_quiet_step (first | (go_at_call 61; exact later_of _ HCC.out))))
                apply wpQuiet_nil
                rintro _ ⟨z7, rfl⟩
                go_wp2
                go_ret
                exact ⟨by rw [HB.out]; rfl, k_then z7.below HW.out.1⟩
              go_upto_region 17 with fail
              refine wp_region_later (by kernel_rfl) (by kernel_rfl) ?_
              repeat (first | (go_big_quiet_want; refine quiet_load_row 23 _ rfl w.heap.size rfl 23 x.cells (0, 0) _ (later_row (held1 HW.out)) Try.underlying23 rfl HS.out.plan ?_; simp only [Act.put, List.setIfInBounds_toArray, List.set_cons_succ, List.set_cons_zero]; go_big_quiet_on) | (go_big_quiet_step (first | (go_at_call 61; exact later_of _ HCC.out))))
              apply wpQuiet_nil
              rintro _ ⟨z7, rfl⟩
              go_wp2
              go_roundw
              case rel =>
                refine ⟨k + 1, by omega, by go_num, held_later z7.below HW.out, fun j hj => ?_⟩
                rcases Nat.lt_or_ge j k with h | h
                · exact HA.out j h
                · obtain rfl : j = k := by omega
                  rw [← HZ.out]; exact HBB.out
              case measure => simp [intOf]; omega
            · have hN10 : k = q3 := by omega
              have HHL := Lib.hid (show ∀ j, j < q3 → okHap x (s.haps.getD j default).hp = true from fun j hj => HA.out j (by omega))
              clear HA hN10
              go_wp2
              clear hlt p0 p6 p7 b0 b1 b2 b3 b4
              go_loopw [10] (fun iv wr => ∃ k : Nat, k ≤ q4 ∧ iv = .int .i64 (k : Int) ∧ (Held w [(w.heap.size, 23, x.cells), (w.heap.size + 1, 29, #[.slice A0 q0 c0, .slice A1 q1 c1, .slice A2 q2 c2, .slice A3 q3 c3, .slice A4 q4 c4])] wr) ∧ ∀ j, j < k → okFt x (s.faults.getD j default) = true) (fun iv _ => q4 - (intOf iv).toNat)
              case atStart => exact ⟨0, by omega, rfl, HW.out, fun j hj => absurd hj (Nat.not_lt_zero _)⟩
              case round =>
                clear HW
                obtain ⟨k, hk, rfl, hW, hall⟩ := hrel
                have HA := Lib.hid hall
                have HW := Lib.hid hW
                obtain ⟨⟨p0, _⟩, ⟨_, _, p6, p7⟩, _⟩ := l_cells (held1 hW)
                obtain ⟨b0, b1, b2, b3, b4⟩ := sc_cells (V := ⟨⟨A0, q0, c0⟩, ⟨A1, q1, c1⟩, ⟨A2, q2, c2⟩, ⟨A3, q3, c3⟩, ⟨A4, q4, c4⟩⟩) (held2 hW)
                unfold Sl.v at b0 b1 b2 b3 b4
                dsimp only at b0 b1 b2 b3 b4 p0 p6 p7
                clear hW hall
                by_cases hlt : k < q4
                · have hS := H.out.later HW.out.1
                  obtain ⟨g0, o0, hA0, hR0⟩ := hS.f.get (i := k) (show k < q4 by omega)
                  dsimp only at hA0
                  subst hA0
                  have hno : ¬ (okFt x (s.faults.getD k default) = true) → G = 110 := fun hc => HN.out (fun e => hc (by
                    obtain ⟨_, _, _, _, _, _, _, _, o4, o5⟩ := okS_iff.1 e
                    exact o5 _ (getD_mem (xs := s.faults) (by have := HLL.out; omega))))
                  obtain ⟨y, hy⟩ : ∃ y, y = s.faults.getD k default := ⟨_, rfl⟩
                  rw [← hy] at hno hR0
                  have HZ := Lib.hid hy
                  obtain ⟨s0, s1, s2, s3, s4⟩ := ftC_cells hR0
                  have f1 : (0 : Int) ≤ (k : Int) := by omega
                  have f2 : (k : Int) < (q4 : Int) := by omega
                  have hcall := fun W => HFt.out W y
                  have s0 := fun z : Later wr => z.cell s0
                  have s1 := fun z : Later wr => z.cell s1
                  have s2 := fun z : Later wr => z.cell s2
                  have s3 := fun z : Later wr => z.cell s3
                  have s4 := fun z : Later wr => z.cell s4
                  have b3 := fun z : Later wr => z.cell b3
                  have b4 := fun z : Later wr => z.cell b4
                  generalize hb : okFt x y = b at *
                  have HBB := Lib.hid hb
                  have HNN := Lib.hid hno
                  have HCC := Lib.hid hcall
                  clear hS hR0 hy hno hb hcall
                  cases b
                  case false =>
                    have HB := Lib.hid (HNN.out (fun h => Bool.noConfusion h))
                    go_upto_region 23 with fail
                    refine wp_region_later (by kernel_rfl) (by kernel_rfl) ?_
                    repeat (first | (go_big_quiet_want; refine quiet_load_row 23 _ rfl w.heap.size rfl 23 x.cells (0, 0) _ (later_row (held1 HW.out)) Try.underlying23 rfl HS.out.plan ?_; simp only [Act.put, List.setIfInBounds_toArray, List.set_cons_succ, List.set_cons_zero]; go_big_quiet_on) | (go_big_quiet_step (first | (go_at_call 62; exact later_of _ HCC.out))))
                    apply wpQuiet_nil
                    rintro _ ⟨z7, rfl⟩
                    go_wp2
                    go_ret
                    exact ⟨by rw [HB.out]; rfl, k_then z7.below HW.out.1⟩
                  go_upto_region 23 with fail
                  refine wp_region_later (by kernel_rfl) (by kernel_rfl) ?_
                  repeat (first | (go_big_quiet_want; refine quiet_load_row 23 _ rfl w.heap.size rfl 23 x.cells (0, 0) _ (later_row (held1 HW.out)) Try.underlying23 rfl HS.out.plan ?_; simp only [Act.put, List.setIfInBounds_toArray, List.set_cons_succ, List.set_cons_zero]; go_big_quiet_on) | (go_big_quiet_step (first | (go_at_call 62; exact later_of _ HCC.out))))
                  apply wpQuiet_nil
                  rintro _ ⟨z7, rfl⟩
                  go_wp2
                  go_roundw
                  case rel =>
                    refine ⟨k + 1, by omega, by go_num, held_later z7.below HW.out, fun j hj => ?_⟩
                    rcases Nat.lt_or_ge j k with h | h
                    · exact HA.out j h
                    · obtain rfl : j = k := by omega
                      rw [← HZ.out]; exact HBB.out
                  case measure => simp [intOf]; omega
                · have hN4 : k = q4 := by omega
                  have hz : G = 0 := HY.out (by
                    have E1 := HLL.out
                    have E2 := HE.out
                    refine okS_iff.2 ⟨?_, ?_, ?_, ?_, ?_, ?_, ?_, ?_, ?_, ?_⟩
                    · show (s.rates.length : Int) = _
                      omega
                    · show (s.on.length : Int) = _
                      omega
                    · show s.delays.length ≤ _
                      omega
                    · show (s.haps.map HpA.hp).length ≤ _
                      rw [List.length_map]
                      omega
                    · show s.faults.length ≤ _
                      omega
                    · exact of_getD (fun j hj => (HRO.out j (by have : j < s.rates.length := hj; omega)).1)
                    · exact of_getD (fun j hj => (HRO.out j (by have : j < s.on.length := hj; omega)).2)
                    · exact of_getD (fun j hj => HDL.out j (by have : j < s.delays.length := hj; omega))
                    · intro y hy
                      obtain ⟨a, ha, rfl⟩ := List.mem_map.1 hy
                      exact of_getD (P := fun a => okHap x a.hp = true) (fun j hj => HHL.out j (by omega)) a ha
                    · exact of_getD (fun j hj => HA.out j (by have : j < s.faults.length := hj; omega)))
                  have HZ := Lib.hid hz
                  clear hz HA
                  go_wp2
                  go_ret
                  exact ⟨by rw [HZ.out]; rfl, HW.out.1⟩
end Go.Proofs.Ytljcaigaofalbaa
