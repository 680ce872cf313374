/- Delay, by a contract. No condition. | Delay, by a contract. No condition. | Heard where it answers lost, by a contract. No condition. | Heard, by a contract. No condition. -/
import Derived.Test.YtljcaigaofalbaaQW
import Derived.Test.YtljcaigaofalbaaQK
namespace Go.Proofs.Ytljcaigaofalbaa
open Go.RowKit Go.Shelf

/-- What Delay answers. -/
def delayS (x : Pl) (s : Sc) (a n r c : Int) : Int :=
  if mayS x s && okA x.nodes a n r c then (if s.delays.length = 0 then x.dmin else x.dmin + s.delays.getD ((seqA x.nodes a n r c).toNat % s.delays.length) default) else 0

set_option maxRecDepth 100000 in
set_option maxHeartbeats 4000000 in
theorem delay_no (x : Pl) (V : ScV) (s : ScA) (a n r c : Int) (w : World) (h : ScAt w V s) (hm : (mayS x s.sc && okA x.nodes a n r c) = false) :
    Calls Try.prog 20 #[.agg x.cells, .agg V.cells, .int .i64 a, .int .i64 n, .int .i64 r, .int .i64 c] w fun e w' => e = .returned (.int .i64 0) ∧ Below w.heap.size w w' := by
  obtain ⟨w0, hw0⟩ : ∃ w0, w0 = ((w.alloc (.cells x.cells 23)).alloc (.cells V.cells 29)).alloc (.cells #[.int .i64 a, .int .i64 n, .int .i64 r, .int .i64 c] 106) := ⟨_, rfl⟩
  have hb0 : Below w.heap.size w w0 := by rw [hw0]; exact (((Below.refl _ _).alloc (Nat.le_refl _) _).alloc (by simp) _).alloc (by simp; omega) _
  have hP0 : Whole w0 w.heap.size 23 x.cells := by rw [hw0]; exact ((Whole.new w _ _).alloc _).alloc _
  have hR0 : Whole w0 (w.heap.size + 1) 29 V.cells := by
    rw [hw0]
    have := (Whole.new (w.alloc (.cells x.cells 23)) 29 V.cells).alloc (.cells #[.int .i64 a, .int .i64 n, .int .i64 r, .int .i64 c] 106)
    simpa using this
  have hA0 : Whole w0 (w.heap.size + 2) 106 #[.int .i64 a, .int .i64 n, .int .i64 r, .int .i64 c] := by
    rw [hw0]
    have := Whole.new ((w.alloc (.cells x.cells 23)).alloc (.cells V.cells 29)) 106 #[.int .i64 a, .int .i64 n, .int .i64 r, .int .i64 c]
    simpa using this
  have hs0 := h.later hb0
  have HC := Lib.hid (fun W (hW : ScAt W V s) => CheckS_any x V s W hW)
  have HM := Lib.hid (fun W => mayBe_any x.nodes a n r c W)
  have HS := Lib.hid x.cellsL
  have H0 := Lib.hid (And.intro hb0 (And.intro hP0 (And.intro hR0 (And.intro hA0 hs0))))
  have HW0 := Lib.hid hw0
  have HV := Lib.hid (show (Try.prog.info? 29).map (·.size) = some V.cells.size by show _ = some 5; kernel_rfl)
  clear hw0 hb0 hP0 hR0 hA0 hs0 h
  by_cases hmy : mayS x s.sc = true
  · have hA : okA x.nodes a n r c = false := by rw [hmy, Bool.true_and] at hm; exact hm
    rw [hmy] at HC
    rw [hA] at HM
    unfold errS at HC
    rw [if_pos rfl] at HC
    go_enter Try.func20, Try.ntmps20
    go_upto_region 2 with fail
    rw [← HW0.out]
    go_wp2_with (first
      | (refine wpList_load_row rfl 23 _ rfl w.heap.size rfl 23 x.cells (0, 0) _ H0.out.2.1 Try.underlying23 rfl HS.out.plan ?_)
      | (refine wpList_load_row rfl 29 _ rfl (w.heap.size + 1) rfl 29 V.cells (0, 0) _ H0.out.2.2.1 Try.underlying29 rfl HV.out ?_)
      | (go_at_call 18; refine (HC.out _ H0.out.2.2.2.2).mono ?_; rintro e w1 ⟨rfl, hb1⟩; have hA1 := k_later hb1 H0.out.2.2.2.1; have a0 := hA1.cell 0; have a1 := hA1.cell 1; have a2 := hA1.cell 2; have a3 := hA1.cell 3; simp at a0 a1 a2 a3; have p0 := (k_later hb1 H0.out.2.1).cell 0; simp [Pl.cells] at p0; have HB1 := Lib.hid hb1; clear hb1 hA1)
      | (go_at_call 63; refine (HM.out _).mono ?_; rintro e w2 ⟨rfl, hb2⟩; have HB2 := Lib.hid (k_then hb2 HB1.out); clear hb2))
    go_ret
    exact ⟨rfl, k_then HB2.out H0.out.1⟩
  · have hmf : mayS x s.sc = false := by
      cases e : mayS x s.sc
      · rfl
      · exact absurd e hmy
    rw [hmf] at HC
    unfold errS at HC
    rw [if_neg (by decide)] at HC
    go_enter Try.func20, Try.ntmps20
    go_upto_region 2 with fail
    rw [← HW0.out]
    go_wp2_with (first
      | (refine wpList_load_row rfl 23 _ rfl w.heap.size rfl 23 x.cells (0, 0) _ H0.out.2.1 Try.underlying23 rfl HS.out.plan ?_)
      | (refine wpList_load_row rfl 29 _ rfl (w.heap.size + 1) rfl 29 V.cells (0, 0) _ H0.out.2.2.1 Try.underlying29 rfl HV.out ?_)
      | (go_at_call 18; refine (HC.out _ H0.out.2.2.2.2).mono ?_; rintro e w1 ⟨rfl, hb1⟩; have HB1 := Lib.hid hb1; clear hb1))
    go_ret
    exact ⟨rfl, k_then HB1.out H0.out.1⟩
end Go.Proofs.Ytljcaigaofalbaa

namespace Go.Proofs.Ytljcaigaofalbaa
open Go.RowKit Go.Shelf

set_option maxRecDepth 100000 in
set_option maxHeartbeats 4000000 in
theorem delay_yes (x : Pl) (V : ScV) (s : ScA) (a n r c : Int) (w : World) (h : ScAt w V s) (hm : mayS x s.sc = true) (hA : okA x.nodes a n r c = true) :
    Calls Try.prog 20 #[.agg x.cells, .agg V.cells, .int .i64 a, .int .i64 n, .int .i64 r, .int .i64 c] w fun e w' => e = .returned (.int .i64 (if s.delays.length = 0 then x.dmin else x.dmin + s.delays.getD ((seqA x.nodes a n r c).toNat % s.delays.length) default)) ∧ Below w.heap.size w w' := by
  have hm2 : failsL x 11 = 0 ∧ okS x s.sc = true := by
    unfold mayS at hm
    rw [Bool.and_eq_true, decide_eq_true_eq] at hm
    exact hm
  have hP := okp_of hm2.1
  obtain ⟨_, _, _, _, _, _, _, hde, _⟩ := okS_iff.1 hm2.2
  have n1 := hP.n1
  have n2' := hP.n2
  have d1 := hP.d1
  have d2 := hP.d2
  have d3 := hP.d3
  have hN := number_a x.nodes a n r c ⟨by omega, by omega⟩ hA
  have hq : 0 ≤ seqA x.nodes a n r c := by
    have h' := of_decide_eq_true hA
    obtain ⟨⟨⟨a1, a2⟩, r1, r2⟩, ⟨n1, n2⟩, c1, c2⟩ := h'
    have m1 : 0 ≤ n * x.nodes := Int.mul_nonneg n1 (by omega)
    have m3 : 0 ≤ (n * x.nodes + a) * x.nodes := Int.mul_nonneg (by omega) (by omega)
    unfold seqA
    omega
  have hd := h.d
  have hlen : s.delays.length = V.d.n := hd.len
  obtain ⟨w0, hw0⟩ : ∃ w0, w0 = ((w.alloc (.cells x.cells 23)).alloc (.cells V.cells 29)).alloc (.cells #[.int .i64 a, .int .i64 n, .int .i64 r, .int .i64 c] 106) := ⟨_, rfl⟩
  have hb0 : Below w.heap.size w w0 := by rw [hw0]; exact (((Below.refl _ _).alloc (Nat.le_refl _) _).alloc (by simp) _).alloc (by simp; omega) _
  have hP0 : Whole w0 w.heap.size 23 x.cells := by rw [hw0]; exact ((Whole.new w _ _).alloc _).alloc _
  have hR0 : Whole w0 (w.heap.size + 1) 29 V.cells := by
    rw [hw0]
    have := (Whole.new (w.alloc (.cells x.cells 23)) 29 V.cells).alloc (.cells #[.int .i64 a, .int .i64 n, .int .i64 r, .int .i64 c] 106)
    simpa using this
  have hA0 : Whole w0 (w.heap.size + 2) 106 #[.int .i64 a, .int .i64 n, .int .i64 r, .int .i64 c] := by
    rw [hw0]
    have := Whole.new ((w.alloc (.cells x.cells 23)).alloc (.cells V.cells 29)) 106 #[.int .i64 a, .int .i64 n, .int .i64 r, .int .i64 c]
    simpa using this
  have hs0 := h.later hb0
  have HC := Lib.hid (fun W (hW : ScAt W V s) => CheckS_any x V s W hW)
  have HM := Lib.hid (fun W => mayBe_any x.nodes a n r c W)
  have HS := Lib.hid x.cellsL
  have H0 := Lib.hid (And.intro hb0 (And.intro hP0 (And.intro hR0 (And.intro hA0 hs0))))
  have HW0 := Lib.hid hw0
  have HV := Lib.hid (show (Try.prog.info? 29).map (·.size) = some V.cells.size by show _ = some 5; kernel_rfl)
  clear hw0 hb0 hP0 hR0 hA0 hs0 h
  rw [hm] at HC
  rw [hA] at HM
  unfold errS at HC
  rw [if_pos rfl] at HC
  obtain ⟨rr, oo, ⟨A2, m2, c2⟩, hh, ff⟩ := V
  simp only at hlen
  have HN := Lib.hid hN
  generalize seqA x.nodes a n r c = q at *
  rw [hlen]
  obtain ⟨ans, hans⟩ : ∃ ans, ans = (if m2 = 0 then x.dmin else x.dmin + s.delays.getD (q.toNat % m2) default) := ⟨_, rfl⟩
  rw [← hans]
  have HAN := Lib.hid hans
  clear hans
  have HDe := Lib.hid hde
  have HLn := Lib.hid hlen
  clear hm hA hm2 hP hN hd hde hlen
  go_enter Try.func20, Try.ntmps20
  go_upto_region 2 with fail
  rw [← HW0.out]
  go_upto_region 4 with (first
    | (refine wpList_load_row rfl 23 _ rfl w.heap.size rfl 23 x.cells (0, 0) _ H0.out.2.1 Try.underlying23 rfl HS.out.plan ?_)
    | (refine wpList_load_row rfl 29 _ rfl (w.heap.size + 1) rfl 29 _ (0, 0) _ H0.out.2.2.1 Try.underlying29 rfl HV.out ?_)
    | (go_at_call 18; refine (HC.out _ H0.out.2.2.2.2).mono ?_; rintro e w1 ⟨rfl, hb1⟩; have hA1 := k_later hb1 H0.out.2.2.2.1; have a0 := hA1.cell 0; have a1 := hA1.cell 1; have a2 := hA1.cell 2; have a3 := hA1.cell 3; simp at a0 a1 a2 a3; have p0 := (k_later hb1 H0.out.2.1).cell 0; simp [Pl.cells] at p0; have HB1 := Lib.hid hb1; clear hb1 hA1)
    | (go_at_call 63; refine (HM.out _).mono ?_; rintro e w2 ⟨rfl, hb2⟩; have hb02 := k_then hb2 HB1.out; have hA2 := k_later hb02 H0.out.2.2.2.1; have g0 := hA2.cell 0; have g1 := hA2.cell 1; have g2 := hA2.cell 2; have g3 := hA2.cell 3; simp at g0 g1 g2 g3; have y0 := (k_later hb02 H0.out.2.1).cell 0; have y6 := (k_later hb02 H0.out.2.1).cell 6; simp [Pl.cells] at y0 y6; have s2 := (k_later hb02 H0.out.2.2.1).cell 2; simp [ScV.cells, Sl.v] at s2; have HB2 := Lib.hid hb02; clear hb2 hb02 hA2 a0 a1 a2 a3 p0))
  by_cases h0 : m2 = 0
  · subst h0
    go_wp2
    go_ret
    have e9 : ans = x.dmin := HAN.out.trans (if_pos trivial)
    exact ⟨by rw [e9]; rfl, k_then HB2.out H0.out.1⟩
  · have hj : q.toNat % m2 < m2 := Nat.mod_lt _ (by omega)
    have hj2 : q.tmod (m2 : Int) = ((q.toNat % m2 : Nat) : Int) := by
      rw [Int.tmod_eq_emod_of_nonneg hq, Int.natCast_emod, Int.toNat_of_nonneg hq]
    obtain ⟨g, o, rfl, hc⟩ := (H0.out.2.2.2.2.later HB2.out).d.get hj
    have hcell := numC_cell hc
    have hmax := Nat.le_trans (H0.out.2.2.2.2).d.cap (H0.out.2.2.2.2).d.max
    simp only at hmax
    obtain ⟨j, hjj⟩ : ∃ j, j = q.toNat % m2 := ⟨_, rfl⟩
    rw [← hjj] at hj hj2 hcell
    obtain ⟨d, hd⟩ : ∃ d, d = s.delays.getD j default := ⟨_, rfl⟩
    have hdb := HDe.out _ (getD_mem (xs := s.delays) (j := j) (by rw [HLn.out]; exact hj))
    rw [← hd] at hdb hcell
    unfold okDel at hdb
    rw [Bool.and_eq_true, decide_eq_true_eq, decide_eq_true_eq] at hdb
    obtain ⟨b1, b2⟩ := hdb
    have hm0 : ¬ (m2 : Int) = 0 := by omega
    have HJ := Lib.hid (And.intro hjj hd)
    clear hc hjj hd
    go_upto_region 6 with fail
    have q0 := fun z : Later w2 => z.cell g0
    have q1 := fun z : Later w2 => z.cell g1
    have q2 := fun z : Later w2 => z.cell g2
    have q3 := fun z : Later w2 => z.cell g3
    have q4 := fun z : Later w2 => z.cell y0
    have q5 := fun z : Later w2 => z.cell y6
    have q6 := fun z : Later w2 => z.cell s2
    have q7 := fun z : Later w2 => z.cell hcell
    refine wp_region_later (by kernel_rfl) (by kernel_rfl) ?_
    repeat (go_big_quiet_step (first | (go_at_call 64; exact later_of _ HN.out)))
    apply wpQuiet_nil
    rintro _ ⟨z7, rfl⟩
    go_wp2
    go_ret
    exact ⟨by rw [HAN.out, if_neg h0, ← HJ.out.1, ← HJ.out.2]; rfl, k_then z7.below (k_then HB2.out H0.out.1)⟩
/-- Delay. -/
theorem Delay_any (x : Pl) (V : ScV) (s : ScA) (a n r c : Int) (w : World) (h : ScAt w V s) :
    Calls Try.prog 20 #[.agg x.cells, .agg V.cells, .int .i64 a, .int .i64 n, .int .i64 r, .int .i64 c] w fun e w' => e = .returned (.int .i64 (delayS x s.sc a n r c)) ∧ Below w.heap.size w w' := by
  unfold delayS
  cases hm : mayS x s.sc with
  | false => exact delay_no x V s a n r c w h (by rw [hm]; rfl)
  | true => cases hA : okA x.nodes a n r c with
    | false => exact delay_no x V s a n r c w h (by rw [hm, hA]; rfl)
    | true => exact delay_yes x V s a n r c w h hm hA
end Go.Proofs.Ytljcaigaofalbaa

namespace Go.Proofs.Ytljcaigaofalbaa
open Go.RowKit Go.Shelf

/-- What is heard, from the faults on: 0 whole, 1 cut, 2 lost. -/
def heardF (N a n r c : Int) : List Ft → Int → Int
  | [], z => z
  | f :: fs, z => if metA f N a n r c then (if f.cut then heardF N a n r c fs 1 else 2) else heardF N a n r c fs z
/-- What Heard answers. -/
def heardS (x : Pl) (s : Sc) (a n r c : Int) : Int := if mayS x s && okA x.nodes a n r c then heardF x.nodes a n r c s.faults 0 else 2

set_option maxRecDepth 100000 in
set_option maxHeartbeats 4000000 in
theorem heard_no (x : Pl) (V : ScV) (s : ScA) (a n r c : Int) (w : World) (h : ScAt w V s) (hm : (mayS x s.sc && okA x.nodes a n r c) = false) :
    Calls Try.prog 22 #[.agg x.cells, .agg V.cells, .int .i64 a, .int .i64 n, .int .i64 r, .int .i64 c] w fun e w' => e = .returned (.int .i64 2) ∧ Below w.heap.size w w' := by
  obtain ⟨w0, hw0⟩ : ∃ w0, w0 = ((w.alloc (.cells x.cells 23)).alloc (.cells V.cells 29)).alloc (.cells #[.int .i64 a, .int .i64 n, .int .i64 r, .int .i64 c] 106) := ⟨_, rfl⟩
  have hb0 : Below w.heap.size w w0 := by rw [hw0]; exact (((Below.refl _ _).alloc (Nat.le_refl _) _).alloc (by simp) _).alloc (by simp; omega) _
  have hP0 : Whole w0 w.heap.size 23 x.cells := by rw [hw0]; exact ((Whole.new w _ _).alloc _).alloc _
  have hR0 : Whole w0 (w.heap.size + 1) 29 V.cells := by
    rw [hw0]
    have := (Whole.new (w.alloc (.cells x.cells 23)) 29 V.cells).alloc (.cells #[.int .i64 a, .int .i64 n, .int .i64 r, .int .i64 c] 106)
    simpa using this
  have hA0 : Whole w0 (w.heap.size + 2) 106 #[.int .i64 a, .int .i64 n, .int .i64 r, .int .i64 c] := by
    rw [hw0]
    have := Whole.new ((w.alloc (.cells x.cells 23)).alloc (.cells V.cells 29)) 106 #[.int .i64 a, .int .i64 n, .int .i64 r, .int .i64 c]
    simpa using this
  have hs0 := h.later hb0
  have HC := Lib.hid (fun W (hW : ScAt W V s) => CheckS_any x V s W hW)
  have HM := Lib.hid (fun W => mayBe_any x.nodes a n r c W)
  have HS := Lib.hid x.cellsL
  have H0 := Lib.hid (And.intro hb0 (And.intro hP0 (And.intro hR0 (And.intro hA0 hs0))))
  have HW0 := Lib.hid hw0
  have HV := Lib.hid (show (Try.prog.info? 29).map (·.size) = some V.cells.size by show _ = some 5; kernel_rfl)
  clear hw0 hb0 hP0 hR0 hA0 hs0 h
  by_cases hmy : mayS x s.sc = true
  · have hA : okA x.nodes a n r c = false := by rw [hmy, Bool.true_and] at hm; exact hm
    rw [hmy] at HC
    rw [hA] at HM
    unfold errS at HC
    rw [if_pos rfl] at HC
    go_enter Try.func22, Try.ntmps22
    go_wp2
    refine wp_scope_straight ?_
    go_upto_region 2 with fail
    rw [← HW0.out]
    go_wp2_with (first
      | (refine wpList_load_row rfl 23 _ rfl w.heap.size rfl 23 x.cells (0, 0) _ H0.out.2.1 Try.underlying23 rfl HS.out.plan ?_)
      | (refine wpList_load_row rfl 29 _ rfl (w.heap.size + 1) rfl 29 V.cells (0, 0) _ H0.out.2.2.1 Try.underlying29 rfl HV.out ?_)
      | (go_at_call 18; refine (HC.out _ H0.out.2.2.2.2).mono ?_; rintro e w1 ⟨rfl, hb1⟩; have hA1 := k_later hb1 H0.out.2.2.2.1; have a0 := hA1.cell 0; have a1 := hA1.cell 1; have a2 := hA1.cell 2; have a3 := hA1.cell 3; simp at a0 a1 a2 a3; have p0 := (k_later hb1 H0.out.2.1).cell 0; simp [Pl.cells] at p0; have HB1 := Lib.hid hb1; clear hb1 hA1)
      | (go_at_call 63; refine (HM.out _).mono ?_; rintro e w2 ⟨rfl, hb2⟩; have HB2 := Lib.hid (k_then hb2 HB1.out); clear hb2))
    try dsimp only [Exit.noGoto]
    go_ret
    exact ⟨rfl, k_then HB2.out H0.out.1⟩
  · have hmf : mayS x s.sc = false := by
      cases e : mayS x s.sc
      · rfl
      · exact absurd e hmy
    rw [hmf] at HC
    unfold errS at HC
    rw [if_neg (by decide)] at HC
    go_enter Try.func22, Try.ntmps22
    go_wp2
    refine wp_scope_straight ?_
    go_upto_region 2 with fail
    rw [← HW0.out]
    go_wp2_with (first
      | (refine wpList_load_row rfl 23 _ rfl w.heap.size rfl 23 x.cells (0, 0) _ H0.out.2.1 Try.underlying23 rfl HS.out.plan ?_)
      | (refine wpList_load_row rfl 29 _ rfl (w.heap.size + 1) rfl 29 V.cells (0, 0) _ H0.out.2.2.1 Try.underlying29 rfl HV.out ?_)
      | (go_at_call 18; refine (HC.out _ H0.out.2.2.2.2).mono ?_; rintro e w1 ⟨rfl, hb1⟩; have HB1 := Lib.hid hb1; clear hb1))
    try dsimp only [Exit.noGoto]
    go_ret
    exact ⟨rfl, k_then HB1.out H0.out.1⟩
end Go.Proofs.Ytljcaigaofalbaa

namespace Go.Proofs.Ytljcaigaofalbaa
open Go.RowKit Go.Shelf

set_option maxRecDepth 100000 in
set_option maxHeartbeats 4000000 in
theorem heard_yes (x : Pl) (V : ScV) (s : ScA) (a n r c : Int) (w : World) (h : ScAt w V s) (hm : mayS x s.sc = true) (hA : okA x.nodes a n r c = true) :
    Calls Try.prog 22 #[.agg x.cells, .agg V.cells, .int .i64 a, .int .i64 n, .int .i64 r, .int .i64 c] w fun e w' => e = .returned (.int .i64 (heardF x.nodes a n r c s.faults 0)) ∧ Below w.heap.size w w' := by
  have hm2 : failsL x 11 = 0 ∧ okS x s.sc = true := by
    unfold mayS at hm
    rw [Bool.and_eq_true, decide_eq_true_eq] at hm
    exact hm
  obtain ⟨_, _, _, _, hf64, _, _, _, _, hfe⟩ := okS_iff.1 hm2.2
  have hcc : 0 ≤ c ∧ c < 2 := (of_decide_eq_true hA).2.2
  have hlen : s.faults.length = V.f.n := h.f.len
  obtain ⟨w0, hw0⟩ : ∃ w0, w0 = ((w.alloc (.cells x.cells 23)).alloc (.cells V.cells 29)).alloc (.cells #[.int .i64 a, .int .i64 n, .int .i64 r, .int .i64 c] 106) := ⟨_, rfl⟩
  have hb0 : Below w.heap.size w w0 := by rw [hw0]; exact (((Below.refl _ _).alloc (Nat.le_refl _) _).alloc (by simp) _).alloc (by simp; omega) _
  have hP0 : Whole w0 w.heap.size 23 x.cells := by rw [hw0]; exact ((Whole.new w _ _).alloc _).alloc _
  have hR0 : Whole w0 (w.heap.size + 1) 29 V.cells := by
    rw [hw0]
    have := (Whole.new (w.alloc (.cells x.cells 23)) 29 V.cells).alloc (.cells #[.int .i64 a, .int .i64 n, .int .i64 r, .int .i64 c] 106)
    simpa using this
  have hA0 : Whole w0 (w.heap.size + 2) 106 #[.int .i64 a, .int .i64 n, .int .i64 r, .int .i64 c] := by
    rw [hw0]
    have := Whole.new ((w.alloc (.cells x.cells 23)).alloc (.cells V.cells 29)) 106 #[.int .i64 a, .int .i64 n, .int .i64 r, .int .i64 c]
    simpa using this
  have hs0 := h.later hb0
  have HC := Lib.hid (fun W (hW : ScAt W V s) => CheckS_any x V s W hW)
  have HM := Lib.hid (fun W => mayBe_any x.nodes a n r c W)
  have HS := Lib.hid x.cellsL
  have H0 := Lib.hid (And.intro hb0 (And.intro hP0 (And.intro hR0 (And.intro hA0 hs0))))
  have HW0 := Lib.hid hw0
  have HV := Lib.hid (show (Try.prog.info? 29).map (·.size) = some V.cells.size by show _ = some 5; kernel_rfl)
  clear hw0 hb0 hP0 hR0 hA0 hs0 h
  rw [hm] at HC
  rw [hA] at HM
  unfold errS at HC
  rw [if_pos rfl] at HC
  obtain ⟨rr, oo, dd, hh, ⟨A4, m4, c4⟩⟩ := V
  simp only at hlen
  have hm4 : m4 ≤ 64 := by have : s.faults.length ≤ 64 := hf64; omega
  have HFe := Lib.hid hfe
  have HLn := Lib.hid hlen
  obtain ⟨ans, hans⟩ : ∃ ans, ans = heardF x.nodes a n r c s.faults 0 := ⟨_, rfl⟩
  rw [← hans]
  have HAN := Lib.hid hans
  clear hm hA hm2 hfe hlen hans
  go_enter Try.func22, Try.ntmps22
  go_wp2
  refine wp_scope_straight ?_
  go_upto_region 2 with fail
  rw [← HW0.out]
  go_upto_region 4 with (first
    | (refine wpList_load_row rfl 23 _ rfl w.heap.size rfl 23 x.cells (0, 0) _ H0.out.2.1 Try.underlying23 rfl HS.out.plan ?_)
    | (refine wpList_load_row rfl 29 _ rfl (w.heap.size + 1) rfl 29 _ (0, 0) _ H0.out.2.2.1 Try.underlying29 rfl HV.out ?_)
    | (go_at_call 18; refine (HC.out _ H0.out.2.2.2.2).mono ?_; rintro e w1 ⟨rfl, hb1⟩; have hA1 := k_later hb1 H0.out.2.2.2.1; have a0 := hA1.cell 0; have a1 := hA1.cell 1; have a2 := hA1.cell 2; have a3 := hA1.cell 3; simp at a0 a1 a2 a3; have p0 := (k_later hb1 H0.out.2.1).cell 0; simp [Pl.cells] at p0; have HB1 := Lib.hid hb1; clear hb1 hA1)
    | (go_at_call 63; refine (HM.out _).mono ?_; rintro e w2 ⟨rfl, hb2⟩; have hb02 := k_then hb2 HB1.out; have s4 := (k_later hb02 H0.out.2.2.1).cell 4; simp [ScV.cells, Sl.v] at s4; have HB2 := Lib.hid hb02; clear hb2 hb02 a0 a1 a2 a3 p0))
  go_wp2
  first | (refine wp_label ?_; go_wp2) | skip
  go_loopw [36, 14] (fun iv zv wr => ∃ (k : Nat) (z : Int), k ≤ m4 ∧ iv = .int .i64 (k : Int) ∧ zv = .int .i64 z ∧ Below w0.heap.size w0 wr ∧ heardF x.nodes a n r c (s.faults.drop k) z = ans) (fun iv _ _ => m4 - (intOf iv).toNat)
  case atStart => exact ⟨0, 0, by omega, rfl, rfl, HB2.out, HAN.out.symm⟩
  case round =>
    obtain ⟨k, z, hk, rfl, rfl, hb, hans⟩ := hrel
    have HB3 := Lib.hid hb
    have HAN3 := Lib.hid hans
    clear hb hans
    by_cases hlt : k < m4
    · obtain ⟨g, o, hA4, hR⟩ := (H0.out.2.2.2.2.later HB3.out).f.get (i := k) hlt
      dsimp only at hA4
      subst hA4
      have hkl : k < s.faults.length := by rw [HLn.out]; exact hlt
      have hdr : s.faults.drop k = s.faults.getD k default :: s.faults.drop (k + 1) := by
        rw [List.drop_eq_getElem_cons hkl, List.getD_eq_getElem?_getD, List.getElem?_eq_getElem hkl]; rfl
      have hok : okFt x (s.faults.getD k default) = true := HFe.out _ (getD_mem (xs := s.faults) (j := k) hkl)
      obtain ⟨y, hy⟩ : ∃ y, y = s.faults.getD k default := ⟨_, rfl⟩
      rw [← hy] at hR hdr hok
      obtain ⟨_, _, _, _, _, _, hf1, hf2⟩ := okFt_iff.1 hok
      have hans := HAN3.out
      rw [hdr, heardF] at hans
      have HM := Lib.hid (fun W => metBy_any y x.nodes a n r c hcc ⟨hf1, hf2⟩ W)
      generalize metA y x.nodes a n r c = mt at *
      obtain ⟨fs, fn, fr, fc, fb⟩ := y
      obtain ⟨r0, r1, r2, r3, r4⟩ := ftC_cells hR
      dsimp only at r0 r1 r2 r3 r4 hans
      have f1 : (0 : Int) ≤ (k : Int) := by omega
      have f2 : (k : Int) < (m4 : Int) := by omega
      have hba : Below wr.heap.size wr (wr.alloc (.cells #[.int .i64 fs, .int .i64 fn, .int .i64 fr, .int .i64 fc, .bool fb] 54)) := (Below.refl _ _).alloc (Nat.le_refl _) _
      have hb03 := k_then hba HB3.out
      have hA3 := k_later hb03 H0.out.2.2.2.1
      have g0 := hA3.cell 0; have g1 := hA3.cell 1; have g2 := hA3.cell 2; have g3 := hA3.cell 3
      simp at g0 g1 g2 g3
      have p0 := (k_later hb03 H0.out.2.1).cell 0
      simp [Pl.cells] at p0
      have hF := Whole.new wr 54 #[.int .i64 fs, .int .i64 fn, .int .i64 fr, .int .i64 fc, .bool fb]
      have c4' : (wr.alloc (.cells #[.int .i64 fs, .int .i64 fn, .int .i64 fr, .int .i64 fc, .bool fb] 54)).cell? ⟨wr.heap.size, 4, none⟩ = some (.bool fb) := hF.cell 4
      have HF7 := Lib.hid (And.intro c4' hb03)
      unfold ftC at HM
      have HAN4 := Lib.hid hans
      clear hR hkl hdr hok hy HAN3 hba hb03 hA3 hF c4' hf1 hf2 hans
      cases mt
      case false =>
        go_wp2_with (go_at_call 66; refine (HM.out _).mono ?_; rintro e w8 ⟨rfl, hb8⟩; have HB8 := Lib.hid (k_then hb8 HF7.out.2); clear hb8)
        go_roundw
        case rel => exact ⟨k + 1, z, by omega, by go_num, rfl, HB8.out, by simpa using HAN4.out⟩
        case measure => simp [intOf]; omega
      case true =>
        cases fb
        case false =>
          go_wp2_with (go_at_call 66; refine (HM.out _).mono ?_; rintro e w8 ⟨rfl, hb8⟩; have c8 := k_cell hb8 HF7.out.1; have HB8 := Lib.hid (k_then hb8 HF7.out.2); clear hb8)
          try dsimp only [Exit.noGoto]
          go_ret
          exact ⟨by rw [← HAN4.out]; rfl, k_then HB8.out H0.out.1⟩
        case true =>
          go_wp2_with (go_at_call 66; refine (HM.out _).mono ?_; rintro e w8 ⟨rfl, hb8⟩; have c8 := k_cell hb8 HF7.out.1; have HB8 := Lib.hid (k_then hb8 HF7.out.2); clear hb8)
          go_roundw
          case rel => exact ⟨k + 1, 1, by omega, by go_num, rfl, HB8.out, by simpa using HAN4.out⟩
          case measure => simp [intOf]; omega
    · have hkm : s.faults.drop k = [] := List.drop_eq_nil_of_le (by rw [HLn.out]; omega)
      have hans := HAN3.out
      rw [hkm, heardF] at hans
      have HAN4 := Lib.hid hans
      clear hans hkm HAN3
      go_wp2
      try dsimp only [Exit.noGoto]
      go_ret
      exact ⟨by rw [← HAN4.out]; rfl, k_then HB3.out H0.out.1⟩
/-- Heard. -/
theorem Heard_any (x : Pl) (V : ScV) (s : ScA) (a n r c : Int) (w : World) (h : ScAt w V s) :
    Calls Try.prog 22 #[.agg x.cells, .agg V.cells, .int .i64 a, .int .i64 n, .int .i64 r, .int .i64 c] w fun e w' => e = .returned (.int .i64 (heardS x s.sc a n r c)) ∧ Below w.heap.size w w' := by
  unfold heardS
  cases hm : mayS x s.sc with
  | false => exact heard_no x V s a n r c w h (by rw [hm]; rfl)
  | true => cases hA : okA x.nodes a n r c with
    | false => exact heard_no x V s a n r c w h (by rw [hm, hA]; rfl)
    | true => exact heard_yes x V s a n r c w h hm hA
end Go.Proofs.Ytljcaigaofalbaa
