/- Check of a script, by a contract. No condition. -/
import Derived.Test.YtljcaigaofalbaaQO
import Derived.Test.YtljcaigaofalbaaQL
import Derived.Test.YtljcaigaofalbaaQT
namespace Go.Proofs.Ytljcaigaofalbaa
open Go.RowKit Go.Shelf

theorem step_callg {P : Program} {ops : Array Oper} {o : Oper} {a : Act} {w : World} {K : Act → World → Prop} {Q : Exit → Act → World → Prop} {E : Prop} (hw : Region.wanted o (yielded ops a.tmps) = true) (f : FuncId) (xs : List Operand) (ts : Array TypeId)
    (ho : o.op = .call { callee := .value (.func f), args := xs.toArray, argTypes := ts }) (hen : ∀ args W, (callFunc f args).run P W = .ok (.enter f args) W) (vs : List Value) (hv : xs.map a.eval = vs)
    (h : Calls P f vs.toArray w fun e w' => ∃ v, e = .returned v ∧ K (a.put o.dst v) w') : if Region.wanted o (yielded ops a.tmps) = true then Oper.wp P o a w K Q else E := by
  rw [if_pos hw]
  unfold Oper.wp execOp
  simp only [ho, resolve, invoke, Act.eval, Sem.run_bind, Oper.upon]
  have hv' : Array.map a.eval xs.toArray = vs.toArray := by rw [List.map_toArray, hv]
  rw [hv']
  simp only [Deferred.ofValue, Sem.run_pure, Result.andThen_ok, Array.empty_append, Array.append_empty, hen]
  refine h.mono ?_
  rintro _ _ ⟨v, rfl, hk⟩
  exact hk

theorem chk_is (x : Pl) (W : World) : Calls Try.prog 44 #[.agg x.cells] W fun e w' => e = .returned (.int .i64 (if failsL x 11 = 0 then 0 else 70)) ∧ Below W.heap.size W w' := Check_any x W

set_option maxRecDepth 100000 in
set_option maxHeartbeats 8000000 in
theorem checkS_yes (x : Pl) (V : ScV) (s : ScA) (w : World) (h : ScAt w V s) (hf : failsL x 11 = 0) : Calls Try.prog 18 #[.agg x.cells, .agg V.cells] w fun e w' => e = .returned (.int .i64 (errS (okS x s.sc))) ∧ Below w.heap.size w w' := by
  have k1 := enters_of Try.func44 (by kernel_rfl) rfl
  have k2 := enters_of Try.func47 (by kernel_rfl) rfl
  have k3 := enters_of Try.func60 (by kernel_rfl) rfl
  obtain ⟨w0, hw0⟩ : ∃ w0, w0 = ((w.alloc (.cells x.cells 23)).alloc (.cells V.cells 29)) := ⟨_, rfl⟩
  have hb0 : Below w.heap.size w w0 := by rw [hw0]; exact ((Below.refl _ _).alloc (Nat.le_refl _) _).alloc (by simp) _
  have hP0 : Whole w0 w.heap.size 23 x.cells := by rw [hw0]; exact (Whole.new w _ _).alloc _
  have hR0 : Whole w0 (w.heap.size + 1) 29 V.cells := by
    rw [hw0]
    have := Whole.new (w.alloc (.cells x.cells 23)) 29 V.cells
    simpa using this
  have hc := fun W => chk_is x W
  rw [if_pos hf] at hc
  have HC := Lib.hid hc
  have HSP := Lib.hid (fun W => spansOf_any x W hf)
  have HH := Lib.hid (fun W g hs ha => hold_any x g V s W hs ha)
  have H0 := Lib.hid (And.intro hb0 (And.intro hP0 (And.intro hR0 (h.later hb0))))
  have HW0 := Lib.hid hw0
  have HK1 := Lib.hid k1
  have HK2 := Lib.hid k2
  have HK3 := Lib.hid k3
  obtain ⟨z, hz⟩ : ∃ z, z = okS x s.sc := ⟨_, rfl⟩
  rw [← hz] at HH ⊢
  clear hw0 hb0 hP0 hR0 hc hf h k1 k2 k3 hz
  obtain ⟨⟨A0, n0, c0⟩, ⟨A1, n1, c1⟩, ⟨A2, n2, c2⟩, ⟨A3, n3, c3⟩, ⟨A4, n4, c4⟩⟩ := V
  go_enter Try.func18, Try.ntmps18
  go_wp2
  rw [← HW0.out]
  have hPd : Whole w0.drew w.heap.size 23 x.cells := H0.out.2.1
  have hRd : Whole w0.drew (w.heap.size + 1) 29 _ := H0.out.2.2.1
  have ap0 := hPd.cell 0
  have ap1 := hPd.cell 1
  have ap2 := hPd.cell 2
  have ap3 := hPd.cell 3
  have ap4 := hPd.cell 4
  have ap5 := hPd.cell 5
  have ap6 := hPd.cell 6
  have ap7 := hPd.cell 7
  have ap8 := hPd.cell 8
  have ap9 := hPd.cell 9
  have ap10 := hPd.cell 10
  have ap11 := hPd.cell 11
  have ap12 := hPd.cell 12
  have ap13 := hPd.cell 13
  have ap14 := hPd.cell 14
  have ap15 := hPd.cell 15
  have as0 := hRd.cell 0
  have as1 := hRd.cell 1
  have as2 := hRd.cell 2
  have as3 := hRd.cell 3
  have as4 := hRd.cell 4
  simp [Pl.cells] at ap0 ap1 ap2 ap3 ap4 ap5 ap6 ap7 ap8 ap9 ap10 ap11 ap12 ap13 ap14 ap15
  simp [ScV.cells, Sl.v] at as0 as1 as2 as3 as4
  clear hPd hRd HW0
  go_region_law (first
    | (refine step_call (by rfl) 44 [.tmp 5] #[23] (by rfl) HK1.out [.agg x.cells] (by rfl) ?_; refine (HC.out _).mono ?_; rintro e w1 ⟨rfl, hb1⟩; refine ⟨.int .i64 0, rfl, ?_⟩; have hb01 := k_then hb1 (show Below w0.heap.size w0 w0.drew from below_drewN (Below.refl _ w0) 1); have hP1 := k_later hb01 H0.out.2.1; have hR1 := k_later hb01 H0.out.2.2.1; have bp0 := hP1.cell 0; have bp1 := hP1.cell 1; have bp2 := hP1.cell 2; have bp3 := hP1.cell 3; have bp4 := hP1.cell 4; have bp5 := hP1.cell 5; have bp6 := hP1.cell 6; have bp7 := hP1.cell 7; have bp8 := hP1.cell 8; have bp9 := hP1.cell 9; have bp10 := hP1.cell 10; have bp11 := hP1.cell 11; have bp12 := hP1.cell 12; have bp13 := hP1.cell 13; have bp14 := hP1.cell 14; have bp15 := hP1.cell 15; have bs0 := hR1.cell 0; have bs1 := hR1.cell 1; have bs2 := hR1.cell 2; have bs3 := hR1.cell 3; have bs4 := hR1.cell 4; simp [Pl.cells] at bp0 bp1 bp2 bp3 bp4 bp5 bp6 bp7 bp8 bp9 bp10 bp11 bp12 bp13 bp14 bp15; simp [ScV.cells, Sl.v] at bs0 bs1 bs2 bs3 bs4; have HB1 := Lib.hid hb01; clear hb1 hb01 hP1 hR1)
    | (refine step_callg (by rfl) 47 [.tmp 9] #[23] (by rfl) HK2.out [.agg x.cells] (by rfl) ?_; refine (HSP.out _).mono ?_; rintro e w2 ⟨g, rfl, hg0, hg, hb2⟩; refine ⟨.pointer (some ⟨g, 0, none⟩), rfl, ?_⟩; have hb12 := k_then hb2 HB1.out; have hP2 := k_later hb12 H0.out.2.1; have hR2 := k_later hb12 H0.out.2.2.1; have dp0 := hP2.cell 0; have dp1 := hP2.cell 1; have dp2 := hP2.cell 2; have dp3 := hP2.cell 3; have dp4 := hP2.cell 4; have dp5 := hP2.cell 5; have dp6 := hP2.cell 6; have dp7 := hP2.cell 7; have dp8 := hP2.cell 8; have dp9 := hP2.cell 9; have dp10 := hP2.cell 10; have dp11 := hP2.cell 11; have dp12 := hP2.cell 12; have dp13 := hP2.cell 13; have dp14 := hP2.cell 14; have dp15 := hP2.cell 15; have ds0 := hR2.cell 0; have ds1 := hR2.cell 1; have ds2 := hR2.cell 2; have ds3 := hR2.cell 3; have ds4 := hR2.cell 4; simp [Pl.cells] at dp0 dp1 dp2 dp3 dp4 dp5 dp6 dp7 dp8 dp9 dp10 dp11 dp12 dp13 dp14 dp15; simp [ScV.cells, Sl.v] at ds0 ds1 ds2 ds3 ds4; have HB2 := Lib.hid (And.intro hb12 hg); clear hb2 hb12 hP2 hR2 hg hg0)
    | (refine step_callg (by rfl) 60 [.tmp 10, .tmp 11] #[77, 29] (by rfl) HK3.out [.pointer (some ⟨g, 0, none⟩), .agg _] (by rfl) ?_; refine (HH.out _ _ HB2.out.2 (H0.out.2.2.2.later HB2.out.1)).mono ?_; rintro e w3 ⟨rfl, hb3⟩; refine ⟨.bool z, rfl, ?_⟩; have HB3 := Lib.hid (k_then hb3 HB2.out.1); clear hb3))
  all_goals (cases z <;> go_wp2 <;> go_ret <;> exact ⟨rfl, k_then HB3.out H0.out.1⟩)

set_option maxRecDepth 100000 in
set_option maxHeartbeats 8000000 in
theorem checkS_no (x : Pl) (V : ScV) (w : World) (hf : ¬ failsL x 11 = 0) : Calls Try.prog 18 #[.agg x.cells, .agg V.cells] w fun e w' => e = .returned (.int .i64 110) ∧ Below w.heap.size w w' := by
  have k1 := enters_of Try.func44 (by kernel_rfl) rfl
  obtain ⟨w0, hw0⟩ : ∃ w0, w0 = ((w.alloc (.cells x.cells 23)).alloc (.cells V.cells 29)) := ⟨_, rfl⟩
  have hb0 : Below w.heap.size w w0 := by rw [hw0]; exact ((Below.refl _ _).alloc (Nat.le_refl _) _).alloc (by simp) _
  have hP0 : Whole w0 w.heap.size 23 x.cells := by rw [hw0]; exact (Whole.new w _ _).alloc _
  have hc := fun W => chk_is x W
  rw [if_neg hf] at hc
  have HC := Lib.hid hc
  have H0 := Lib.hid (And.intro hb0 hP0)
  have HW0 := Lib.hid hw0
  have HK1 := Lib.hid k1
  clear hw0 hb0 hP0 hc hf k1
  go_enter Try.func18, Try.ntmps18
  go_wp2
  rw [← HW0.out]
  have hPd : Whole w0.drew w.heap.size 23 x.cells := H0.out.2
  have ap0 := hPd.cell 0
  have ap1 := hPd.cell 1
  have ap2 := hPd.cell 2
  have ap3 := hPd.cell 3
  have ap4 := hPd.cell 4
  have ap5 := hPd.cell 5
  have ap6 := hPd.cell 6
  have ap7 := hPd.cell 7
  have ap8 := hPd.cell 8
  have ap9 := hPd.cell 9
  have ap10 := hPd.cell 10
  have ap11 := hPd.cell 11
  have ap12 := hPd.cell 12
  have ap13 := hPd.cell 13
  have ap14 := hPd.cell 14
  have ap15 := hPd.cell 15
  simp [Pl.cells] at ap0 ap1 ap2 ap3 ap4 ap5 ap6 ap7 ap8 ap9 ap10 ap11 ap12 ap13 ap14 ap15
  clear hPd HW0
  go_region_law (first
    | (refine step_call (by rfl) 44 [.tmp 5] #[23] (by rfl) HK1.out [.agg x.cells] (by rfl) ?_; refine (HC.out _).mono ?_; rintro e w1 ⟨rfl, hb1⟩; refine ⟨.int .i64 70, rfl, ?_⟩; have HB1 := Lib.hid (k_then hb1 (show Below w0.heap.size w0 w0.drew from below_drewN (Below.refl _ w0) 1)); clear hb1))
  all_goals (go_wp2 <;> go_ret <;> exact ⟨rfl, k_then HB1.out H0.out.1⟩)
/-- Check. -/
theorem CheckS_any (x : Pl) (V : ScV) (s : ScA) (w : World) (h : ScAt w V s) : Calls Try.prog 18 #[.agg x.cells, .agg V.cells] w fun e w' => e = .returned (.int .i64 (errS (mayS x s.sc))) ∧ Below w.heap.size w w' := by
  by_cases hf : failsL x 11 = 0
  · rw [show mayS x s.sc = okS x s.sc by unfold mayS; rw [decide_eq_true hf, Bool.true_and]]
    exact checkS_yes x V s w h hf
  · rw [show mayS x s.sc = false by unfold mayS; rw [decide_eq_false hf, Bool.false_and]]
    exact checkS_no x V w hf
end Go.Proofs.Ytljcaigaofalbaa
