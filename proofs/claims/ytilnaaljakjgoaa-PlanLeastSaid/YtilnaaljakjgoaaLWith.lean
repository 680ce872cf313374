/- The document's With, by a contract: where the wishes may be, and the slot's length is none that runs over. -/
import Derived.Test.YtilnaaljakjgoaaLRefC
import Derived.Deep.DeepCutAuto
namespace Go.Proofs.Ytilnaaljakjgoaa
open Go.RowKit Go.Shelf

/-- The wishes alone, and a slot's length. -/
def wishL (x : Pl) (l : Int) : Pl := ⟨x.nodes, x.kk, l, 0, 0, x.air, x.dmin, x.dmax, x.rho, 0, 0, 0, x.queue, x.burst, x.payload, 0⟩
/-- .. and the least of all that goes with it. -/
def withL (x : Pl) (l : Int) : Pl :=
  let y := wishL x l
  ⟨x.nodes, x.kk, l, lPi y + eL y + lCap y + lPi y, lPi y + eL y, x.air, x.dmin, x.dmax, x.rho, lPi y, lCap y, (frL y + 3) * rdL y + 2 * lPi y, x.queue, x.burst, x.payload, 40 * rdL y⟩

def zeroL : Pl := ⟨0, 0, 0, 0, 0, 0, 0, 0, 0, 0, 0, 0, 0, 0, 0, 0⟩
theorem below_setRow {n : Nat} {a b : World} {g : Nat} {cs : Array Value} (h : Below n a b) (hg : n ≤ g) : Below n a (b.setRow g cs) :=
  ⟨h.os, h.tape, h.output, by simpa using h.size, fun i hi => (setRow_other b g i cs (by omega)).trans (h.block i hi)⟩
/-- The three blocks that With lays. -/
theorem frame3 (x : Pl) (l : Int) (w : World) :
    Below w.heap.size w (((w.alloc (.cells x.cells 23)).alloc (.cells zeroL.cells 23)).alloc (.cells (wishL x l).cells 23)) ∧
    Whole (((w.alloc (.cells x.cells 23)).alloc (.cells zeroL.cells 23)).alloc (.cells (wishL x l).cells 23)) (w.heap.size + 1) 23 zeroL.cells ∧
    Whole (((w.alloc (.cells x.cells 23)).alloc (.cells zeroL.cells 23)).alloc (.cells (wishL x l).cells 23)) (w.heap.size + 1 + 1) 23 (wishL x l).cells := by
  have hz := (Whole.new (w.alloc (.cells x.cells 23)) 23 zeroL.cells).alloc (.cells (wishL x l).cells 23)
  have hd := Whole.new ((w.alloc (.cells x.cells 23)).alloc (.cells zeroL.cells 23)) 23 (wishL x l).cells
  simp only [World.size_alloc] at hz hd
  exact ⟨((((Below.refl w.heap.size w).alloc (Nat.le_refl _) _).alloc (by simp) _).alloc (by simp; omega) _), hz, hd⟩

/-- Six stores into the block, none into the one ahead of it. -/
theorem six {w w1 : World} {b : Nat} {t : TypeId} {cs zs : Array Value} (hd : Whole w1 (b + 1) t cs) (hz : Whole w1 b t zs) (hb : Below w.heap.size w w1) (hl : w.heap.size ≤ b) (u1 u2 u3 u4 u5 u6 : Value) :
    Whole (((((((w1.setCell ⟨b + 1, 9, none⟩ u1).setCell ⟨b + 1, 4, none⟩ u2).setCell ⟨b + 1, 10, none⟩ u3).setCell ⟨b + 1, 3, none⟩ u4).setCell ⟨b + 1, 11, none⟩ u5).setCell ⟨b + 1, 15, none⟩ u6)) (b + 1) t
      ((((((cs.setIfInBounds 9 u1).setIfInBounds 4 u2).setIfInBounds 10 u3).setIfInBounds 3 u4).setIfInBounds 11 u5).setIfInBounds 15 u6) ∧
    Whole (((((((w1.setCell ⟨b + 1, 9, none⟩ u1).setCell ⟨b + 1, 4, none⟩ u2).setCell ⟨b + 1, 10, none⟩ u3).setCell ⟨b + 1, 3, none⟩ u4).setCell ⟨b + 1, 11, none⟩ u5).setCell ⟨b + 1, 15, none⟩ u6)) b t zs ∧
    Below w.heap.size w (((((((w1.setCell ⟨b + 1, 9, none⟩ u1).setCell ⟨b + 1, 4, none⟩ u2).setCell ⟨b + 1, 10, none⟩ u3).setCell ⟨b + 1, 3, none⟩ u4).setCell ⟨b + 1, 11, none⟩ u5).setCell ⟨b + 1, 15, none⟩ u6)) := by
  have h : b ≠ b + 1 := by omega
  have hp : ∀ i, w.heap.size ≤ (⟨b + 1, i, none⟩ : Addr).block := fun i => by show _ ≤ b + 1; omega
  exact ⟨(((((hd.set 9 _).set 4 _).set 10 _).set 3 _).set 11 _).set 15 _, (((((hz.far h _).far h _).far h _).far h _).far h _).far h _, (((((hb.setCell (hp 9) _).setCell (hp 4) _).setCell (hp 10) _).setCell (hp 3) _).setCell (hp 11) _).setCell (hp 15) _⟩

set_option maxRecDepth 100000 in
set_option maxHeartbeats 8000000 in
theorem with_even (x : Pl) (l : Int) (w : World) (T : TickL (wishL x l)) (h9 : holdL x 9) (hq : x.queue ≤ x.queue / x.burst * x.burst) : Calls Try.prog 41 #[.agg x.cells, .int .i64 l] w fun e w' => e = .returned (.agg (withL x l).cells) ∧ Below w.heap.size w w' := by
  have HN := Lib.hid (fun W => refNumbers_any T W)
  have HV := Lib.hid (wishL x l).cellsL
  have HE := Lib.hid (withL x l).cellsL
  obtain ⟨⟨z0, z1, _, _⟩, ⟨_, z5, z6, z7⟩, ⟨z8, _⟩, ⟨z12, z13, z14, _⟩⟩ := x.at
  have HL := Lib.hid (fun W (h : Whole W (w.heap.size + 1 + 1) 23 (wishL x l).cells) => l_cells h)
  have HX := Lib.hid (frame3 x l w)
  have HT := Lib.hid T
  have H9 := Lib.hid h9
  have HQ := Lib.hid hq
  clear T h9 hq
  have y2 : (wishL x 0).cells[2]? = some (.int .i64 0) := rfl
  generalize x.cells = cs at *
  go_enter Try.func41, Try.ntmps41
  go_upto_region 3 with (refine wpList_store_last rfl 23 _ _ rfl _ (wishL x 0).cells rfl rfl 23 _ (by simp) (wishL x 0).cellsL.plan rfl (wishL x 0).cellsL.one ?_)
  obtain ⟨hb, hz, hd⟩ := HX.out
  clear z0 z1 z5 z6 z7 z8 z12 z13 z14 HX y2
  change Code.wp _ _ _ _ (((w.alloc (.cells cs 23)).alloc (.cells zeroL.cells 23)).alloc (.cells (wishL x l).cells 23))
  generalize (((w.alloc (.cells cs 23)).alloc (.cells zeroL.cells 23)).alloc (.cells (wishL x l).cells 23)) = W3 at *
  have HB := Lib.hid hb
  have HZ := Lib.hid hz
  have HD := Lib.hid hd
  clear hb hz hd
  go_upto_region 4 with (first
    | (refine wpList_load_row rfl 23 _ rfl _ rfl 23 (wishL x l).cells (0, 0) _ HD.out Try.underlying23 rfl HV.out.plan ?_)
    | (go_at_call 45; refine (HN.out _).mono ?_; rintro e' w1 ⟨rfl, hb1⟩))
  have HB1 := Lib.hid (k_then hb1 HB.out)
  have HZ1 := Lib.hid (k_later hb1 HZ.out)
  have HD1 := Lib.hid (k_later hb1 HD.out)
  clear hb1 HB HZ HD HN HV
  obtain ⟨⟨c0, _⟩, _, _, ⟨c12, c13, _⟩, cf⟩ := HL.out _ HD1.out
  simp only [wishL] at c0 c12 c13
  obtain ⟨e1, e2, g1, g2, i1, i2⟩ := num_bounds HT.out
  have hm : x.nodes * l = rdL (wishL x l) := rfl
  have m1 := HT.out.m1
  have m2 := HT.out.m2
  obtain ⟨v1, v2⟩ := del_bounds HT.out (show holdL (wishL x l) 9 from H9.out)
  obtain ⟨q1, q2, q3, q4, q5, _, q6⟩ := frac_eq H9.out
  have hq := HQ.out
  have hf : x.queue / x.burst + 3 = frL (wishL x l) + 3 := by rw [show frL (wishL x l) = frL x from rfl, q6 (by omega)]
  clear q6 HL
  obtain ⟨⟨⟨y1, y2⟩, y3, y4⟩, y5, y6⟩ := H9.out
  go_upto_region 14 with fail
  have HA := Lib.hid (six HD1.out HZ1.out HB1.out (by omega) (.int .i64 (lPi (wishL x l))) (.int .i64 (lPi (wishL x l) + eL (wishL x l))) (.int .i64 (lCap (wishL x l))) (.int .i64 (lPi (wishL x l) + eL (wishL x l) + lCap (wishL x l) + lPi (wishL x l)))
    (.int .i64 ((frL (wishL x l) + 3) * rdL (wishL x l) + 2 * lPi (wishL x l))) (.int .i64 (40 * rdL (wishL x l))))
  change Code.wp _ _ _ _ (((((((w1.setCell ⟨w.heap.size + 1 + 1, 9, none⟩ (.int .i64 (lPi (wishL x l)))).setCell ⟨w.heap.size + 1 + 1, 4, none⟩ (.int .i64 (lPi (wishL x l) + eL (wishL x l)))).setCell ⟨w.heap.size + 1 + 1, 10, none⟩ (.int .i64 (lCap (wishL x l)))).setCell ⟨w.heap.size + 1 + 1, 3, none⟩ (.int .i64 (lPi (wishL x l) + eL (wishL x l) + lCap (wishL x l) + lPi (wishL x l)))).setCell
    ⟨w.heap.size + 1 + 1, 11, none⟩ (.int .i64 ((frL (wishL x l) + 3) * rdL (wishL x l) + 2 * lPi (wishL x l)))).setCell ⟨w.heap.size + 1 + 1, 15, none⟩ (.int .i64 (40 * rdL (wishL x l)))))
  generalize (((((((w1.setCell ⟨w.heap.size + 1 + 1, 9, none⟩ (.int .i64 (lPi (wishL x l)))).setCell ⟨w.heap.size + 1 + 1, 4, none⟩ (.int .i64 (lPi (wishL x l) + eL (wishL x l)))).setCell ⟨w.heap.size + 1 + 1, 10, none⟩ (.int .i64 (lCap (wishL x l)))).setCell ⟨w.heap.size + 1 + 1, 3, none⟩ (.int .i64 (lPi (wishL x l) + eL (wishL x l) + lCap (wishL x l) + lPi (wishL x l)))).setCell
    ⟨w.heap.size + 1 + 1, 11, none⟩ (.int .i64 ((frL (wishL x l) + 3) * rdL (wishL x l) + 2 * lPi (wishL x l)))).setCell ⟨w.heap.size + 1 + 1, 15, none⟩ (.int .i64 (40 * rdL (wishL x l))))) = W9 at *
  clear c0 c12 c13 cf HD1 HZ1 HB1 e1 e2 g1 g2 i1 i2 hm m1 m2 v1 v2 q1 q2 q3 q4 q5 hq hf y1 y2 y3 y4 y5 y6
  obtain ⟨hd, hz, hb⟩ := HA.out
  have HD9 := Lib.hid (show Whole W9 (w.heap.size + 1 + 1) 23 (withL x l).cells from hd)
  have HZ9 := Lib.hid hz
  have HB9 := Lib.hid hb
  clear hd hz hb HA
  go_wp2_with (first
    | (refine wpList_load_row rfl 23 _ rfl _ rfl 23 (withL x l).cells (0, 0) _ HD9.out Try.underlying23 rfl HE.out.plan ?_)
    | (refine wpList_store_row rfl 23 _ _ rfl _ (withL x l).cells rfl rfl 23 _ HZ9.out HE.out.plan rfl HE.out.one ?_))
  refine bodyPost_ret (v := .agg (withL x l).cells) (results_cell_row rfl _ _ _ 23 (withL x l).cells (0, 0) _ rfl (setRow_heap _ _ _ _ _ _ HZ9.out) Try.underlying23 rfl HE.out.plan) rfl ⟨rfl, ?_⟩
  exact below_setRow HB9.out (by omega)

set_option maxRecDepth 100000 in
set_option maxHeartbeats 8000000 in
theorem with_up (x : Pl) (l : Int) (w : World) (T : TickL (wishL x l)) (h9 : holdL x 9) (hq : x.queue / x.burst * x.burst < x.queue) : Calls Try.prog 41 #[.agg x.cells, .int .i64 l] w fun e w' => e = .returned (.agg (withL x l).cells) ∧ Below w.heap.size w w' := by
  have HN := Lib.hid (fun W => refNumbers_any T W)
  have HV := Lib.hid (wishL x l).cellsL
  have HE := Lib.hid (withL x l).cellsL
  obtain ⟨⟨z0, z1, _, _⟩, ⟨_, z5, z6, z7⟩, ⟨z8, _⟩, ⟨z12, z13, z14, _⟩⟩ := x.at
  have HL := Lib.hid (fun W (h : Whole W (w.heap.size + 1 + 1) 23 (wishL x l).cells) => l_cells h)
  have HX := Lib.hid (frame3 x l w)
  have HT := Lib.hid T
  have H9 := Lib.hid h9
  have HQ := Lib.hid hq
  clear T h9 hq
  have y2 : (wishL x 0).cells[2]? = some (.int .i64 0) := rfl
  generalize x.cells = cs at *
  go_enter Try.func41, Try.ntmps41
  go_upto_region 3 with (refine wpList_store_last rfl 23 _ _ rfl _ (wishL x 0).cells rfl rfl 23 _ (by simp) (wishL x 0).cellsL.plan rfl (wishL x 0).cellsL.one ?_)
  obtain ⟨hb, hz, hd⟩ := HX.out
  clear z0 z1 z5 z6 z7 z8 z12 z13 z14 HX y2
  change Code.wp _ _ _ _ (((w.alloc (.cells cs 23)).alloc (.cells zeroL.cells 23)).alloc (.cells (wishL x l).cells 23))
  generalize (((w.alloc (.cells cs 23)).alloc (.cells zeroL.cells 23)).alloc (.cells (wishL x l).cells 23)) = W3 at *
  have HB := Lib.hid hb
  have HZ := Lib.hid hz
  have HD := Lib.hid hd
  clear hb hz hd
  go_upto_region 4 with (first
    | (refine wpList_load_row rfl 23 _ rfl _ rfl 23 (wishL x l).cells (0, 0) _ HD.out Try.underlying23 rfl HV.out.plan ?_)
    | (go_at_call 45; refine (HN.out _).mono ?_; rintro e' w1 ⟨rfl, hb1⟩))
  have HB1 := Lib.hid (k_then hb1 HB.out)
  have HZ1 := Lib.hid (k_later hb1 HZ.out)
  have HD1 := Lib.hid (k_later hb1 HD.out)
  clear hb1 HB HZ HD HN HV
  obtain ⟨⟨c0, _⟩, _, _, ⟨c12, c13, _⟩, cf⟩ := HL.out _ HD1.out
  simp only [wishL] at c0 c12 c13
  obtain ⟨e1, e2, g1, g2, i1, i2⟩ := num_bounds HT.out
  have hm : x.nodes * l = rdL (wishL x l) := rfl
  have m1 := HT.out.m1
  have m2 := HT.out.m2
  obtain ⟨v1, v2⟩ := del_bounds HT.out (show holdL (wishL x l) 9 from H9.out)
  obtain ⟨q1, q2, q3, q4, q5, q6, _⟩ := frac_eq H9.out
  have hq := HQ.out
  have hf : x.queue / x.burst + 1 + 3 = frL (wishL x l) + 3 := by rw [show frL (wishL x l) = frL x from rfl, q6 hq]
  have hf2 : x.queue / x.burst + 4 = frL (wishL x l) + 3 := by rw [show frL (wishL x l) = frL x from rfl, q6 hq]; omega
  clear q6 HL
  obtain ⟨⟨⟨y1, y2⟩, y3, y4⟩, y5, y6⟩ := H9.out
  go_upto_region 14 with fail
  have HA := Lib.hid (six HD1.out HZ1.out HB1.out (by omega) (.int .i64 (lPi (wishL x l))) (.int .i64 (lPi (wishL x l) + eL (wishL x l))) (.int .i64 (lCap (wishL x l))) (.int .i64 (lPi (wishL x l) + eL (wishL x l) + lCap (wishL x l) + lPi (wishL x l)))
    (.int .i64 ((frL (wishL x l) + 3) * rdL (wishL x l) + 2 * lPi (wishL x l))) (.int .i64 (40 * rdL (wishL x l))))
  change Code.wp _ _ _ _ (((((((w1.setCell ⟨w.heap.size + 1 + 1, 9, none⟩ (.int .i64 (lPi (wishL x l)))).setCell ⟨w.heap.size + 1 + 1, 4, none⟩ (.int .i64 (lPi (wishL x l) + eL (wishL x l)))).setCell ⟨w.heap.size + 1 + 1, 10, none⟩ (.int .i64 (lCap (wishL x l)))).setCell ⟨w.heap.size + 1 + 1, 3, none⟩ (.int .i64 (lPi (wishL x l) + eL (wishL x l) + lCap (wishL x l) + lPi (wishL x l)))).setCell
    ⟨w.heap.size + 1 + 1, 11, none⟩ (.int .i64 ((frL (wishL x l) + 3) * rdL (wishL x l) + 2 * lPi (wishL x l)))).setCell ⟨w.heap.size + 1 + 1, 15, none⟩ (.int .i64 (40 * rdL (wishL x l)))))
  generalize (((((((w1.setCell ⟨w.heap.size + 1 + 1, 9, none⟩ (.int .i64 (lPi (wishL x l)))).setCell ⟨w.heap.size + 1 + 1, 4, none⟩ (.int .i64 (lPi (wishL x l) + eL (wishL x l)))).setCell ⟨w.heap.size + 1 + 1, 10, none⟩ (.int .i64 (lCap (wishL x l)))).setCell ⟨w.heap.size + 1 + 1, 3, none⟩ (.int .i64 (lPi (wishL x l) + eL (wishL x l) + lCap (wishL x l) + lPi (wishL x l)))).setCell
    ⟨w.heap.size + 1 + 1, 11, none⟩ (.int .i64 ((frL (wishL x l) + 3) * rdL (wishL x l) + 2 * lPi (wishL x l)))).setCell ⟨w.heap.size + 1 + 1, 15, none⟩ (.int .i64 (40 * rdL (wishL x l))))) = W9 at *
  clear c0 c12 c13 cf HD1 HZ1 HB1 e1 e2 g1 g2 i1 i2 hm m1 m2 v1 v2 q1 q2 q3 q4 q5 hq hf hf2 y1 y2 y3 y4 y5 y6
  obtain ⟨hd, hz, hb⟩ := HA.out
  have HD9 := Lib.hid (show Whole W9 (w.heap.size + 1 + 1) 23 (withL x l).cells from hd)
  have HZ9 := Lib.hid hz
  have HB9 := Lib.hid hb
  clear hd hz hb HA
  go_wp2_with (first
    | (refine wpList_load_row rfl 23 _ rfl _ rfl 23 (withL x l).cells (0, 0) _ HD9.out Try.underlying23 rfl HE.out.plan ?_)
    | (refine wpList_store_row rfl 23 _ _ rfl _ (withL x l).cells rfl rfl 23 _ HZ9.out HE.out.plan rfl HE.out.one ?_))
  refine bodyPost_ret (v := .agg (withL x l).cells) (results_cell_row rfl _ _ _ 23 (withL x l).cells (0, 0) _ rfl (setRow_heap _ _ _ _ _ _ HZ9.out) Try.underlying23 rfl HE.out.plan) rfl ⟨rfl, ?_⟩
  exact below_setRow HB9.out (by omega)

theorem with_any (x : Pl) (l : Int) (w : World) (T : TickL (wishL x l)) (h9 : holdL x 9) : Calls Try.prog 41 #[.agg x.cells, .int .i64 l] w fun e w' => e = .returned (.agg (withL x l).cells) ∧ Below w.heap.size w w' := by
  by_cases hq : x.queue / x.burst * x.burst < x.queue
  · exact with_up x l w T h9 hq
  · exact with_even x l w T h9 (by omega)

end Go.Proofs.Ytilnaaljakjgoaa
