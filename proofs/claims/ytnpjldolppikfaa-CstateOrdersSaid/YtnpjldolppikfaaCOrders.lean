/- CstateOrders, its walk. -/
import Derived.Test.YtnpjldolppikfaaCAlive
import Derived.Test.YtnpjldolppikfaaCCmp
import Derived.BigRegion
namespace Go.Proofs.Ytnpjldolppikfaa
open Go.RowKit

theorem cmpI_three (a b : Int) : cmpI a b = -1 ∧ a < b ∨ cmpI a b = 0 ∧ a = b ∨ cmpI a b = 1 ∧ b < a := by
  unfold cmpI
  split
  · exact .inl ⟨rfl, by assumption⟩
  · split
    · exact .inr (.inr ⟨rfl, by assumption⟩)
    · exact .inr (.inl ⟨rfl, by omega⟩)
theorem cmpC_three (r s r' s' : Int) : cmpC r s r' s' = -1 ∧ (r < r' ∨ r = r' ∧ s < s') ∨ cmpC r s r' s' = 0 ∧ r = r' ∧ s = s' ∨ cmpC r s r' s' = 1 ∧ (r' < r ∨ r = r' ∧ s' < s) := by
  unfold cmpC orI
  rcases cmpI_three r r' with ⟨e, h⟩ | ⟨e, h⟩ | ⟨e, h⟩ <;> rcases cmpI_three s s' with ⟨f, k⟩ | ⟨f, k⟩ | ⟨f, k⟩ <;> rw [e, f] <;> simp <;> omega

set_option maxRecDepth 100000 in
set_option maxHeartbeats 2000000 in
theorem orders_C (ar as_ am bm cr cs cm ag bg cg : Int) (z : Int) (w : World) (hx : cmpC ar as_ ar as_ = 0) (hx2 : cmpC ar as_ ar as_ = 0) (hy : cmpC ar as_ cr cs = z) (hz : cmpC ar as_ cr cs = z)  :
    Calls Try.prog 10 #[.agg #[.int .i64 ar, .int .i64 as_, .int .i64 am, .int .u16 ag], .agg #[.int .i64 ar, .int .i64 as_, .int .i64 bm, .int .u16 bg], .agg #[.int .i64 cr, .int .i64 cs, .int .i64 cm, .int .u16 cg]] w fun e w' => e = .returned (.bool true) ∧ Below w.heap.size w w' := by
  obtain ⟨W, hWe⟩ : ∃ W, ((w.alloc (.cells #[.int .i64 ar, .int .i64 as_, .int .i64 am, .int .u16 ag] 25)).alloc (.cells #[.int .i64 ar, .int .i64 as_, .int .i64 bm, .int .u16 bg] 25)).alloc (.cells #[.int .i64 cr, .int .i64 cs, .int .i64 cm, .int .u16 cg] 25) = W := ⟨_, rfl⟩
  have hb0 : Below w.heap.size w W := by rw [← hWe]; exact (((Below.refl _ _).alloc (Nat.le_refl _) _).alloc (by simp) _).alloc (by simp; omega) _
  have hA : Whole W w.heap.size 25 #[.int .i64 ar, .int .i64 as_, .int .i64 am, .int .u16 ag] := by rw [← hWe]; exact ((Whole.new w _ _).alloc _).alloc _
  have hB : Whole W (w.heap.size + 1) 25 #[.int .i64 ar, .int .i64 as_, .int .i64 bm, .int .u16 bg] := by
    rw [← hWe]
    have := (Whole.new (w.alloc (.cells #[.int .i64 ar, .int .i64 as_, .int .i64 am, .int .u16 ag] 25)) 25 #[.int .i64 ar, .int .i64 as_, .int .i64 bm, .int .u16 bg]).alloc (.cells #[.int .i64 cr, .int .i64 cs, .int .i64 cm, .int .u16 cg] 25)
    simpa using this
  have hC : Whole W (w.heap.size + 1 + 1) 25 #[.int .i64 cr, .int .i64 cs, .int .i64 cm, .int .u16 cg] := by
    rw [← hWe]
    have := Whole.new ((w.alloc (.cells #[.int .i64 ar, .int .i64 as_, .int .i64 am, .int .u16 ag] 25)).alloc (.cells #[.int .i64 ar, .int .i64 as_, .int .i64 bm, .int .u16 bg] 25)) 25 #[.int .i64 cr, .int .i64 cs, .int .i64 cm, .int .u16 cg]
    simpa using this
  have C1 := fun V => compare_any ar as_ am ag ar as_ bm bg V
  have C2 := fun V => compare_any ar as_ bm bg cr cs cm cg V
  have C3 := fun V => compare_any ar as_ am ag cr cs cm cg V
  have C4 := fun V => compare_any ar as_ bm bg ar as_ am ag V
  have C5 := fun V => compare_any ar as_ bm cg ar as_ bm bg V
  rw [hx] at C1 C5
  rw [hx2] at C4
  rw [hy] at C2
  rw [hz] at C3
  have H1 := Lib.hid C1
  have H2 := Lib.hid C2
  have H3 := Lib.hid C3
  have H4 := Lib.hid C4
  have H5 := Lib.hid C5
  have HW := Lib.hid hWe
  clear C1 C2 C3 C4 C5 hWe hx hx2 hy hz
  go_enter Try.func10, Try.ntmps10
  go_wp2_with fail
  rw [HW.out]
  refine (alive4_any _).mono ?_
  rintro e w1 ⟨rfl, k1⟩
  have hb1 := hb0.trans (k1.mono hb0.size)
  have hA1 := whole_later k1 hA
  have hB1 := whole_later k1 hB
  have hC1 := whole_later k1 hC
  clear hb0 hA hB hC HW k1
  obtain ⟨a0, a1, a2, a3, af⟩ := hA1.four
  obtain ⟨b0, b1, b2, b3, bf⟩ := hB1.four
  obtain ⟨c0, c1, c2, c3, cf⟩ := hC1.four
  go_wp2_with fail
  have i0 := fun y : Later w1 => y.cell a0
  have i1 := fun y : Later w1 => y.cell a1
  have i2 := fun y : Later w1 => y.cell a2
  have i3 := fun y : Later w1 => y.cell a3
  have j0 := fun y : Later w1 => y.cell b0
  have j1 := fun y : Later w1 => y.cell b1
  have j2 := fun y : Later w1 => y.cell b2
  have j3 := fun y : Later w1 => y.cell b3
  have k0 := fun y : Later w1 => y.cell c0
  have k1 := fun y : Later w1 => y.cell c1
  have k2 := fun y : Later w1 => y.cell c2
  have k3 := fun y : Later w1 => y.cell c3
  clear a0 a1 a2 a3 af b0 b1 b2 b3 bf c0 c1 c2 c3 cf
  refine wp_region_later (by kernel_rfl) (by kernel_rfl) ?_
  repeat (go_big_quiet_step ((first
    | (go_at_call 24; with_reducible exact later_of _ H1.out)
    | (go_at_call 24; with_reducible exact later_of _ H2.out)
    | (go_at_call 24; with_reducible exact later_of _ H3.out))))
  refine wpQuiet_nil ?_
  intro _ hw'
  obtain ⟨q, hw''⟩ := hw'
  subst hw''
  have hb2 := below_then q.below hb1
  have hA2 := (whole_later q.below hA1).alloc (.cells #[.int .i64 ar, .int .i64 as_, .int .i64 am, .int .u16 ag] 25)
  have hB2 := (whole_later q.below hB1).alloc (.cells #[.int .i64 ar, .int .i64 as_, .int .i64 am, .int .u16 ag] 25)
  have hC2 := (whole_later q.below hC1).alloc (.cells #[.int .i64 ar, .int .i64 as_, .int .i64 am, .int .u16 ag] 25)
  have hD2 := Whole.new q.at_ 25 #[.int .i64 ar, .int .i64 as_, .int .i64 am, .int .u16 ag]
  have hb3 := hb2.alloc hb2.size (.cells #[.int .i64 ar, .int .i64 as_, .int .i64 am, .int .u16 ag] 25)
  have zA : w.heap.size < q.at_.heap.size := (whole_later q.below hA1).lt
  have zB : w.heap.size + 1 < q.at_.heap.size := (whole_later q.below hB1).lt
  have zC : w.heap.size + 1 + 1 < q.at_.heap.size := (whole_later q.below hC1).lt
  have a0 := i0 q
  have a1 := i1 q
  have a2 := i2 q
  have a3 := i3 q
  clear i0 i1 i2 i3 j0 j1 j2 j3 k0 k1 k2 k3 hA1 hB1 hC1 hb1
  go_wp2_with fail
  clear a0 a1 a2 a3
  generalize q.at_.heap.size = gD at *
  generalize q.at_.alloc (.cells #[.int .i64 ar, .int .i64 as_, .int .i64 am, .int .u16 ag] 25) = V at *
  obtain ⟨a0, a1, a2, a3, af⟩ := hA2.four
  obtain ⟨b0, b1, b2, b3, bf⟩ := hB2.four
  obtain ⟨c0, c1, c2, c3, cf⟩ := hC2.four
  obtain ⟨d0, d1, d2, d3, df⟩ := hD2.four
  go_region
  clear a0 a1 a2 a3 af b0 b1 b2 b3 bf c0 c1 c2 c3 cf d0 d1 d2 d3 df
  have hD3 : Whole ((V.setCell ⟨gD, 2, none⟩ (.int .i64 bm)).setCell ⟨gD, 3, none⟩ (.int .u16 cg)).drew gD 25 #[.int .i64 ar, .int .i64 as_, .int .i64 bm, .int .u16 cg] := ((hD2.set 2 _).set 3 _).drew
  have hA3 : Whole ((V.setCell ⟨gD, 2, none⟩ (.int .i64 bm)).setCell ⟨gD, 3, none⟩ (.int .u16 cg)).drew w.heap.size 25 #[.int .i64 ar, .int .i64 as_, .int .i64 am, .int .u16 ag] := ((hA2.far (by simp; omega) _).far (by simp; omega) _).drew
  have hB3 : Whole ((V.setCell ⟨gD, 2, none⟩ (.int .i64 bm)).setCell ⟨gD, 3, none⟩ (.int .u16 cg)).drew (w.heap.size + 1) 25 #[.int .i64 ar, .int .i64 as_, .int .i64 bm, .int .u16 bg] := ((hB2.far (by simp; omega) _).far (by simp; omega) _).drew
  have hb4 : Below w.heap.size w ((V.setCell ⟨gD, 2, none⟩ (.int .i64 bm)).setCell ⟨gD, 3, none⟩ (.int .u16 cg)).drew := ((hb3.setCell (p := ⟨gD, 2, none⟩) (Nat.le_of_lt zA) _).setCell (p := ⟨gD, 3, none⟩) (Nat.le_of_lt zA) _).drew
  clear hA2 hB2 hC2 hD2 hb2 hb3 zA zB zC
  generalize ((V.setCell ⟨gD, 2, none⟩ (.int .i64 bm)).setCell ⟨gD, 3, none⟩ (.int .u16 cg)).drew = V2 at *
  obtain ⟨a0, a1, a2, a3, af⟩ := hA3.four
  obtain ⟨b0, b1, b2, b3, bf⟩ := hB3.four
  go_wp2_with fail
  with_reducible refine (H4.out _).mono ?_
  rintro e w5 ⟨rfl, m1⟩
  have hb5 := below_then m1 hb4
  have hA4 := whole_later m1 hA3
  have hB4 := whole_later m1 hB3
  have hD4 := whole_later m1 hD3
  clear a0 a1 a2 a3 af b0 b1 b2 b3 bf hA3 hB3 hD3 hb4 m1
  obtain ⟨b0, b1, b2, b3, bf⟩ := hB4.four
  obtain ⟨d0, d1, d2, d3, df⟩ := hD4.four
  go_wp2_with fail
  with_reducible refine (H5.out _).mono ?_
  rintro e w6 ⟨rfl, m2⟩
  have hb6 := below_then m2 hb5
  have hA5 := whole_later m2 hA4
  have hB5 := whole_later m2 hB4
  clear b0 b1 b2 b3 bf d0 d1 d2 d3 df hA4 hB4 hD4 hb5 m2
  obtain ⟨a0, a1, a2, a3, af⟩ := hA5.four
  obtain ⟨b0, b1, b2, b3, bf⟩ := hB5.four
  go_wp2
  go_ret
  exact ⟨rfl, hb6⟩

set_option maxRecDepth 100000 in
set_option maxHeartbeats 2000000 in
theorem orders_Am1 (ar as_ am br bs bm cr cs cm ag bg cg : Int)  (w : World) (hx : cmpC ar as_ br bs = -1) (hx2 : cmpC br bs ar as_ = 1) (hy : cmpC br bs cr cs = -1) (hz : cmpC ar as_ cr cs = -1) (h : ¬ ar = br) :
    Calls Try.prog 10 #[.agg #[.int .i64 ar, .int .i64 as_, .int .i64 am, .int .u16 ag], .agg #[.int .i64 br, .int .i64 bs, .int .i64 bm, .int .u16 bg], .agg #[.int .i64 cr, .int .i64 cs, .int .i64 cm, .int .u16 cg]] w fun e w' => e = .returned (.bool true) ∧ Below w.heap.size w w' := by
  obtain ⟨W, hWe⟩ : ∃ W, ((w.alloc (.cells #[.int .i64 ar, .int .i64 as_, .int .i64 am, .int .u16 ag] 25)).alloc (.cells #[.int .i64 br, .int .i64 bs, .int .i64 bm, .int .u16 bg] 25)).alloc (.cells #[.int .i64 cr, .int .i64 cs, .int .i64 cm, .int .u16 cg] 25) = W := ⟨_, rfl⟩
  have hb0 : Below w.heap.size w W := by rw [← hWe]; exact (((Below.refl _ _).alloc (Nat.le_refl _) _).alloc (by simp) _).alloc (by simp; omega) _
  have hA : Whole W w.heap.size 25 #[.int .i64 ar, .int .i64 as_, .int .i64 am, .int .u16 ag] := by rw [← hWe]; exact ((Whole.new w _ _).alloc _).alloc _
  have hB : Whole W (w.heap.size + 1) 25 #[.int .i64 br, .int .i64 bs, .int .i64 bm, .int .u16 bg] := by
    rw [← hWe]
    have := (Whole.new (w.alloc (.cells #[.int .i64 ar, .int .i64 as_, .int .i64 am, .int .u16 ag] 25)) 25 #[.int .i64 br, .int .i64 bs, .int .i64 bm, .int .u16 bg]).alloc (.cells #[.int .i64 cr, .int .i64 cs, .int .i64 cm, .int .u16 cg] 25)
    simpa using this
  have hC : Whole W (w.heap.size + 1 + 1) 25 #[.int .i64 cr, .int .i64 cs, .int .i64 cm, .int .u16 cg] := by
    rw [← hWe]
    have := Whole.new ((w.alloc (.cells #[.int .i64 ar, .int .i64 as_, .int .i64 am, .int .u16 ag] 25)).alloc (.cells #[.int .i64 br, .int .i64 bs, .int .i64 bm, .int .u16 bg] 25)) 25 #[.int .i64 cr, .int .i64 cs, .int .i64 cm, .int .u16 cg]
    simpa using this
  have C1 := fun V => compare_any ar as_ am ag br bs bm bg V
  have C2 := fun V => compare_any br bs bm bg cr cs cm cg V
  have C3 := fun V => compare_any ar as_ am ag cr cs cm cg V
  have C4 := fun V => compare_any br bs bm bg ar as_ am ag V
  have C5 := fun V => compare_any ar as_ bm cg br bs bm bg V
  rw [hx] at C1 C5
  rw [hx2] at C4
  rw [hy] at C2
  rw [hz] at C3
  have H1 := Lib.hid C1
  have H2 := Lib.hid C2
  have H3 := Lib.hid C3
  have H4 := Lib.hid C4
  have H5 := Lib.hid C5
  have HW := Lib.hid hWe
  clear C1 C2 C3 C4 C5 hWe hx hx2 hy hz
  have e1 : (ar == br) = false := by simp [h]
  clear h
  go_enter Try.func10, Try.ntmps10
  go_wp2_with fail
  rw [HW.out]
  refine (alive4_any _).mono ?_
  rintro e w1 ⟨rfl, k1⟩
  have hb1 := hb0.trans (k1.mono hb0.size)
  have hA1 := whole_later k1 hA
  have hB1 := whole_later k1 hB
  have hC1 := whole_later k1 hC
  clear hb0 hA hB hC HW k1
  obtain ⟨a0, a1, a2, a3, af⟩ := hA1.four
  obtain ⟨b0, b1, b2, b3, bf⟩ := hB1.four
  obtain ⟨c0, c1, c2, c3, cf⟩ := hC1.four
  go_wp2_with fail
  have i0 := fun y : Later w1 => y.cell a0
  have i1 := fun y : Later w1 => y.cell a1
  have i2 := fun y : Later w1 => y.cell a2
  have i3 := fun y : Later w1 => y.cell a3
  have j0 := fun y : Later w1 => y.cell b0
  have j1 := fun y : Later w1 => y.cell b1
  have j2 := fun y : Later w1 => y.cell b2
  have j3 := fun y : Later w1 => y.cell b3
  have k0 := fun y : Later w1 => y.cell c0
  have k1 := fun y : Later w1 => y.cell c1
  have k2 := fun y : Later w1 => y.cell c2
  have k3 := fun y : Later w1 => y.cell c3
  clear a0 a1 a2 a3 af b0 b1 b2 b3 bf c0 c1 c2 c3 cf
  refine wp_region_later (by kernel_rfl) (by kernel_rfl) ?_
  repeat (go_big_quiet_step ((first
    | (go_at_call 24; with_reducible exact later_of _ H1.out)
    | (go_at_call 24; with_reducible exact later_of _ H2.out)
    | (go_at_call 24; with_reducible exact later_of _ H3.out))))
  refine wpQuiet_nil ?_
  intro _ hw'
  obtain ⟨q, hw''⟩ := hw'
  subst hw''
  have hb2 := below_then q.below hb1
  have hA2 := (whole_later q.below hA1).alloc (.cells #[.int .i64 ar, .int .i64 as_, .int .i64 am, .int .u16 ag] 25)
  have hB2 := (whole_later q.below hB1).alloc (.cells #[.int .i64 ar, .int .i64 as_, .int .i64 am, .int .u16 ag] 25)
  have hC2 := (whole_later q.below hC1).alloc (.cells #[.int .i64 ar, .int .i64 as_, .int .i64 am, .int .u16 ag] 25)
  have hD2 := Whole.new q.at_ 25 #[.int .i64 ar, .int .i64 as_, .int .i64 am, .int .u16 ag]
  have hb3 := hb2.alloc hb2.size (.cells #[.int .i64 ar, .int .i64 as_, .int .i64 am, .int .u16 ag] 25)
  have zA : w.heap.size < q.at_.heap.size := (whole_later q.below hA1).lt
  have zB : w.heap.size + 1 < q.at_.heap.size := (whole_later q.below hB1).lt
  have zC : w.heap.size + 1 + 1 < q.at_.heap.size := (whole_later q.below hC1).lt
  have a0 := i0 q
  have a1 := i1 q
  have a2 := i2 q
  have a3 := i3 q
  clear i0 i1 i2 i3 j0 j1 j2 j3 k0 k1 k2 k3 hA1 hB1 hC1 hb1
  go_wp2_with fail
  clear a0 a1 a2 a3
  generalize q.at_.heap.size = gD at *
  generalize q.at_.alloc (.cells #[.int .i64 ar, .int .i64 as_, .int .i64 am, .int .u16 ag] 25) = V at *
  obtain ⟨a0, a1, a2, a3, af⟩ := hA2.four
  obtain ⟨b0, b1, b2, b3, bf⟩ := hB2.four
  obtain ⟨c0, c1, c2, c3, cf⟩ := hC2.four
  obtain ⟨d0, d1, d2, d3, df⟩ := hD2.four
  go_region
  clear a0 a1 a2 a3 af b0 b1 b2 b3 bf c0 c1 c2 c3 cf d0 d1 d2 d3 df
  have hD3 : Whole ((V.setCell ⟨gD, 2, none⟩ (.int .i64 bm)).setCell ⟨gD, 3, none⟩ (.int .u16 cg)).drew gD 25 #[.int .i64 ar, .int .i64 as_, .int .i64 bm, .int .u16 cg] := ((hD2.set 2 _).set 3 _).drew
  have hA3 : Whole ((V.setCell ⟨gD, 2, none⟩ (.int .i64 bm)).setCell ⟨gD, 3, none⟩ (.int .u16 cg)).drew w.heap.size 25 #[.int .i64 ar, .int .i64 as_, .int .i64 am, .int .u16 ag] := ((hA2.far (by simp; omega) _).far (by simp; omega) _).drew
  have hB3 : Whole ((V.setCell ⟨gD, 2, none⟩ (.int .i64 bm)).setCell ⟨gD, 3, none⟩ (.int .u16 cg)).drew (w.heap.size + 1) 25 #[.int .i64 br, .int .i64 bs, .int .i64 bm, .int .u16 bg] := ((hB2.far (by simp; omega) _).far (by simp; omega) _).drew
  have hb4 : Below w.heap.size w ((V.setCell ⟨gD, 2, none⟩ (.int .i64 bm)).setCell ⟨gD, 3, none⟩ (.int .u16 cg)).drew := ((hb3.setCell (p := ⟨gD, 2, none⟩) (Nat.le_of_lt zA) _).setCell (p := ⟨gD, 3, none⟩) (Nat.le_of_lt zA) _).drew
  clear hA2 hB2 hC2 hD2 hb2 hb3 zA zB zC
  generalize ((V.setCell ⟨gD, 2, none⟩ (.int .i64 bm)).setCell ⟨gD, 3, none⟩ (.int .u16 cg)).drew = V2 at *
  obtain ⟨a0, a1, a2, a3, af⟩ := hA3.four
  obtain ⟨b0, b1, b2, b3, bf⟩ := hB3.four
  go_wp2_with fail
  with_reducible refine (H4.out _).mono ?_
  rintro e w5 ⟨rfl, m1⟩
  have hb5 := below_then m1 hb4
  have hA4 := whole_later m1 hA3
  have hB4 := whole_later m1 hB3
  have hD4 := whole_later m1 hD3
  clear a0 a1 a2 a3 af b0 b1 b2 b3 bf hA3 hB3 hD3 hb4 m1
  obtain ⟨b0, b1, b2, b3, bf⟩ := hB4.four
  obtain ⟨d0, d1, d2, d3, df⟩ := hD4.four
  go_wp2_with fail
  with_reducible refine (H5.out _).mono ?_
  rintro e w6 ⟨rfl, m2⟩
  have hb6 := below_then m2 hb5
  have hA5 := whole_later m2 hA4
  have hB5 := whole_later m2 hB4
  clear b0 b1 b2 b3 bf d0 d1 d2 d3 df hA4 hB4 hD4 hb5 m2
  obtain ⟨a0, a1, a2, a3, af⟩ := hA5.four
  obtain ⟨b0, b1, b2, b3, bf⟩ := hB5.four
  go_wp2
  go_ret
  exact ⟨rfl, hb6⟩

set_option maxRecDepth 100000 in
set_option maxHeartbeats 2000000 in
theorem orders_Am2 (ar as_ am br bs bm cr cs cm ag bg cg : Int) (y z : Int) (w : World) (hx : cmpC ar as_ br bs = -1) (hx2 : cmpC br bs ar as_ = 1) (hy : cmpC br bs cr cs = y) (hz : cmpC ar as_ cr cs = z) (h : ¬ ar = br) (k : ¬ y < 0) :
    Calls Try.prog 10 #[.agg #[.int .i64 ar, .int .i64 as_, .int .i64 am, .int .u16 ag], .agg #[.int .i64 br, .int .i64 bs, .int .i64 bm, .int .u16 bg], .agg #[.int .i64 cr, .int .i64 cs, .int .i64 cm, .int .u16 cg]] w fun e w' => e = .returned (.bool true) ∧ Below w.heap.size w w' := by
  obtain ⟨W, hWe⟩ : ∃ W, ((w.alloc (.cells #[.int .i64 ar, .int .i64 as_, .int .i64 am, .int .u16 ag] 25)).alloc (.cells #[.int .i64 br, .int .i64 bs, .int .i64 bm, .int .u16 bg] 25)).alloc (.cells #[.int .i64 cr, .int .i64 cs, .int .i64 cm, .int .u16 cg] 25) = W := ⟨_, rfl⟩
  have hb0 : Below w.heap.size w W := by rw [← hWe]; exact (((Below.refl _ _).alloc (Nat.le_refl _) _).alloc (by simp) _).alloc (by simp; omega) _
  have hA : Whole W w.heap.size 25 #[.int .i64 ar, .int .i64 as_, .int .i64 am, .int .u16 ag] := by rw [← hWe]; exact ((Whole.new w _ _).alloc _).alloc _
  have hB : Whole W (w.heap.size + 1) 25 #[.int .i64 br, .int .i64 bs, .int .i64 bm, .int .u16 bg] := by
    rw [← hWe]
    have := (Whole.new (w.alloc (.cells #[.int .i64 ar, .int .i64 as_, .int .i64 am, .int .u16 ag] 25)) 25 #[.int .i64 br, .int .i64 bs, .int .i64 bm, .int .u16 bg]).alloc (.cells #[.int .i64 cr, .int .i64 cs, .int .i64 cm, .int .u16 cg] 25)
    simpa using this
  have hC : Whole W (w.heap.size + 1 + 1) 25 #[.int .i64 cr, .int .i64 cs, .int .i64 cm, .int .u16 cg] := by
    rw [← hWe]
    have := Whole.new ((w.alloc (.cells #[.int .i64 ar, .int .i64 as_, .int .i64 am, .int .u16 ag] 25)).alloc (.cells #[.int .i64 br, .int .i64 bs, .int .i64 bm, .int .u16 bg] 25)) 25 #[.int .i64 cr, .int .i64 cs, .int .i64 cm, .int .u16 cg]
    simpa using this
  have C1 := fun V => compare_any ar as_ am ag br bs bm bg V
  have C2 := fun V => compare_any br bs bm bg cr cs cm cg V
  have C3 := fun V => compare_any ar as_ am ag cr cs cm cg V
  have C4 := fun V => compare_any br bs bm bg ar as_ am ag V
  have C5 := fun V => compare_any ar as_ bm cg br bs bm bg V
  rw [hx] at C1 C5
  rw [hx2] at C4
  rw [hy] at C2
  rw [hz] at C3
  have H1 := Lib.hid C1
  have H2 := Lib.hid C2
  have H3 := Lib.hid C3
  have H4 := Lib.hid C4
  have H5 := Lib.hid C5
  have HW := Lib.hid hWe
  clear C1 C2 C3 C4 C5 hWe hx hx2 hy hz
  have e1 : (ar == br) = false := by simp [h]
  have e2 : decide (y < 0) = false := decide_eq_false k
  clear h k
  go_enter Try.func10, Try.ntmps10
  go_wp2_with fail
  rw [HW.out]
  refine (alive4_any _).mono ?_
  rintro e w1 ⟨rfl, k1⟩
  have hb1 := hb0.trans (k1.mono hb0.size)
  have hA1 := whole_later k1 hA
  have hB1 := whole_later k1 hB
  have hC1 := whole_later k1 hC
  clear hb0 hA hB hC HW k1
  obtain ⟨a0, a1, a2, a3, af⟩ := hA1.four
  obtain ⟨b0, b1, b2, b3, bf⟩ := hB1.four
  obtain ⟨c0, c1, c2, c3, cf⟩ := hC1.four
  go_wp2_with fail
  have i0 := fun y : Later w1 => y.cell a0
  have i1 := fun y : Later w1 => y.cell a1
  have i2 := fun y : Later w1 => y.cell a2
  have i3 := fun y : Later w1 => y.cell a3
  have j0 := fun y : Later w1 => y.cell b0
  have j1 := fun y : Later w1 => y.cell b1
  have j2 := fun y : Later w1 => y.cell b2
  have j3 := fun y : Later w1 => y.cell b3
  have k0 := fun y : Later w1 => y.cell c0
  have k1 := fun y : Later w1 => y.cell c1
  have k2 := fun y : Later w1 => y.cell c2
  have k3 := fun y : Later w1 => y.cell c3
  clear a0 a1 a2 a3 af b0 b1 b2 b3 bf c0 c1 c2 c3 cf
  refine wp_region_later (by kernel_rfl) (by kernel_rfl) ?_
  repeat (go_big_quiet_step ((first
    | (go_at_call 24; with_reducible exact later_of _ H1.out)
    | (go_at_call 24; with_reducible exact later_of _ H2.out)
    | (go_at_call 24; with_reducible exact later_of _ H3.out))))
  refine wpQuiet_nil ?_
  intro _ hw'
  obtain ⟨q, hw''⟩ := hw'
  subst hw''
  have hb2 := below_then q.below hb1
  have hA2 := (whole_later q.below hA1).alloc (.cells #[.int .i64 ar, .int .i64 as_, .int .i64 am, .int .u16 ag] 25)
  have hB2 := (whole_later q.below hB1).alloc (.cells #[.int .i64 ar, .int .i64 as_, .int .i64 am, .int .u16 ag] 25)
  have hC2 := (whole_later q.below hC1).alloc (.cells #[.int .i64 ar, .int .i64 as_, .int .i64 am, .int .u16 ag] 25)
  have hD2 := Whole.new q.at_ 25 #[.int .i64 ar, .int .i64 as_, .int .i64 am, .int .u16 ag]
  have hb3 := hb2.alloc hb2.size (.cells #[.int .i64 ar, .int .i64 as_, .int .i64 am, .int .u16 ag] 25)
  have zA : w.heap.size < q.at_.heap.size := (whole_later q.below hA1).lt
  have zB : w.heap.size + 1 < q.at_.heap.size := (whole_later q.below hB1).lt
  have zC : w.heap.size + 1 + 1 < q.at_.heap.size := (whole_later q.below hC1).lt
  have a0 := i0 q
  have a1 := i1 q
  have a2 := i2 q
  have a3 := i3 q
  clear i0 i1 i2 i3 j0 j1 j2 j3 k0 k1 k2 k3 hA1 hB1 hC1 hb1
  go_wp2_with fail
  clear a0 a1 a2 a3
  generalize q.at_.heap.size = gD at *
  generalize q.at_.alloc (.cells #[.int .i64 ar, .int .i64 as_, .int .i64 am, .int .u16 ag] 25) = V at *
  obtain ⟨a0, a1, a2, a3, af⟩ := hA2.four
  obtain ⟨b0, b1, b2, b3, bf⟩ := hB2.four
  obtain ⟨c0, c1, c2, c3, cf⟩ := hC2.four
  obtain ⟨d0, d1, d2, d3, df⟩ := hD2.four
  go_region
  clear a0 a1 a2 a3 af b0 b1 b2 b3 bf c0 c1 c2 c3 cf d0 d1 d2 d3 df
  have hD3 : Whole ((V.setCell ⟨gD, 2, none⟩ (.int .i64 bm)).setCell ⟨gD, 3, none⟩ (.int .u16 cg)).drew gD 25 #[.int .i64 ar, .int .i64 as_, .int .i64 bm, .int .u16 cg] := ((hD2.set 2 _).set 3 _).drew
  have hA3 : Whole ((V.setCell ⟨gD, 2, none⟩ (.int .i64 bm)).setCell ⟨gD, 3, none⟩ (.int .u16 cg)).drew w.heap.size 25 #[.int .i64 ar, .int .i64 as_, .int .i64 am, .int .u16 ag] := ((hA2.far (by simp; omega) _).far (by simp; omega) _).drew
  have hB3 : Whole ((V.setCell ⟨gD, 2, none⟩ (.int .i64 bm)).setCell ⟨gD, 3, none⟩ (.int .u16 cg)).drew (w.heap.size + 1) 25 #[.int .i64 br, .int .i64 bs, .int .i64 bm, .int .u16 bg] := ((hB2.far (by simp; omega) _).far (by simp; omega) _).drew
  have hb4 : Below w.heap.size w ((V.setCell ⟨gD, 2, none⟩ (.int .i64 bm)).setCell ⟨gD, 3, none⟩ (.int .u16 cg)).drew := ((hb3.setCell (p := ⟨gD, 2, none⟩) (Nat.le_of_lt zA) _).setCell (p := ⟨gD, 3, none⟩) (Nat.le_of_lt zA) _).drew
  clear hA2 hB2 hC2 hD2 hb2 hb3 zA zB zC
  generalize ((V.setCell ⟨gD, 2, none⟩ (.int .i64 bm)).setCell ⟨gD, 3, none⟩ (.int .u16 cg)).drew = V2 at *
  obtain ⟨a0, a1, a2, a3, af⟩ := hA3.four
  obtain ⟨b0, b1, b2, b3, bf⟩ := hB3.four
  go_wp2_with fail
  with_reducible refine (H4.out _).mono ?_
  rintro e w5 ⟨rfl, m1⟩
  have hb5 := below_then m1 hb4
  have hA4 := whole_later m1 hA3
  have hB4 := whole_later m1 hB3
  have hD4 := whole_later m1 hD3
  clear a0 a1 a2 a3 af b0 b1 b2 b3 bf hA3 hB3 hD3 hb4 m1
  obtain ⟨b0, b1, b2, b3, bf⟩ := hB4.four
  obtain ⟨d0, d1, d2, d3, df⟩ := hD4.four
  go_wp2_with fail
  with_reducible refine (H5.out _).mono ?_
  rintro e w6 ⟨rfl, m2⟩
  have hb6 := below_then m2 hb5
  have hA5 := whole_later m2 hA4
  have hB5 := whole_later m2 hB4
  clear b0 b1 b2 b3 bf d0 d1 d2 d3 df hA4 hB4 hD4 hb5 m2
  obtain ⟨a0, a1, a2, a3, af⟩ := hA5.four
  obtain ⟨b0, b1, b2, b3, bf⟩ := hB5.four
  go_wp2
  go_ret
  exact ⟨rfl, hb6⟩

set_option maxRecDepth 100000 in
set_option maxHeartbeats 2000000 in
theorem orders_Bm1 (ar as_ am bs bm cr cs cm ag bg cg : Int)  (w : World) (hx : cmpC ar as_ ar bs = -1) (hx2 : cmpC ar bs ar as_ = 1) (hy : cmpC ar bs cr cs = -1) (hz : cmpC ar as_ cr cs = -1) (h : ¬ as_ = bs) :
    Calls Try.prog 10 #[.agg #[.int .i64 ar, .int .i64 as_, .int .i64 am, .int .u16 ag], .agg #[.int .i64 ar, .int .i64 bs, .int .i64 bm, .int .u16 bg], .agg #[.int .i64 cr, .int .i64 cs, .int .i64 cm, .int .u16 cg]] w fun e w' => e = .returned (.bool true) ∧ Below w.heap.size w w' := by
  obtain ⟨W, hWe⟩ : ∃ W, ((w.alloc (.cells #[.int .i64 ar, .int .i64 as_, .int .i64 am, .int .u16 ag] 25)).alloc (.cells #[.int .i64 ar, .int .i64 bs, .int .i64 bm, .int .u16 bg] 25)).alloc (.cells #[.int .i64 cr, .int .i64 cs, .int .i64 cm, .int .u16 cg] 25) = W := ⟨_, rfl⟩
  have hb0 : Below w.heap.size w W := by rw [← hWe]; exact (((Below.refl _ _).alloc (Nat.le_refl _) _).alloc (by simp) _).alloc (by simp; omega) _
  have hA : Whole W w.heap.size 25 #[.int .i64 ar, .int .i64 as_, .int .i64 am, .int .u16 ag] := by rw [← hWe]; exact ((Whole.new w _ _).alloc _).alloc _
  have hB : Whole W (w.heap.size + 1) 25 #[.int .i64 ar, .int .i64 bs, .int .i64 bm, .int .u16 bg] := by
    rw [← hWe]
    have := (Whole.new (w.alloc (.cells #[.int .i64 ar, .int .i64 as_, .int .i64 am, .int .u16 ag] 25)) 25 #[.int .i64 ar, .int .i64 bs, .int .i64 bm, .int .u16 bg]).alloc (.cells #[.int .i64 cr, .int .i64 cs, .int .i64 cm, .int .u16 cg] 25)
    simpa using this
  have hC : Whole W (w.heap.size + 1 + 1) 25 #[.int .i64 cr, .int .i64 cs, .int .i64 cm, .int .u16 cg] := by
    rw [← hWe]
    have := Whole.new ((w.alloc (.cells #[.int .i64 ar, .int .i64 as_, .int .i64 am, .int .u16 ag] 25)).alloc (.cells #[.int .i64 ar, .int .i64 bs, .int .i64 bm, .int .u16 bg] 25)) 25 #[.int .i64 cr, .int .i64 cs, .int .i64 cm, .int .u16 cg]
    simpa using this
  have C1 := fun V => compare_any ar as_ am ag ar bs bm bg V
  have C2 := fun V => compare_any ar bs bm bg cr cs cm cg V
  have C3 := fun V => compare_any ar as_ am ag cr cs cm cg V
  have C4 := fun V => compare_any ar bs bm bg ar as_ am ag V
  have C5 := fun V => compare_any ar as_ bm cg ar bs bm bg V
  rw [hx] at C1 C5
  rw [hx2] at C4
  rw [hy] at C2
  rw [hz] at C3
  have H1 := Lib.hid C1
  have H2 := Lib.hid C2
  have H3 := Lib.hid C3
  have H4 := Lib.hid C4
  have H5 := Lib.hid C5
  have HW := Lib.hid hWe
  clear C1 C2 C3 C4 C5 hWe hx hx2 hy hz
  have e1 : (as_ == bs) = false := by simp [h]
  clear h
  go_enter Try.func10, Try.ntmps10
  go_wp2_with fail
  rw [HW.out]
  refine (alive4_any _).mono ?_
  rintro e w1 ⟨rfl, k1⟩
  have hb1 := hb0.trans (k1.mono hb0.size)
  have hA1 := whole_later k1 hA
  have hB1 := whole_later k1 hB
  have hC1 := whole_later k1 hC
  clear hb0 hA hB hC HW k1
  obtain ⟨a0, a1, a2, a3, af⟩ := hA1.four
  obtain ⟨b0, b1, b2, b3, bf⟩ := hB1.four
  obtain ⟨c0, c1, c2, c3, cf⟩ := hC1.four
  go_wp2_with fail
  have i0 := fun y : Later w1 => y.cell a0
  have i1 := fun y : Later w1 => y.cell a1
  have i2 := fun y : Later w1 => y.cell a2
  have i3 := fun y : Later w1 => y.cell a3
  have j0 := fun y : Later w1 => y.cell b0
  have j1 := fun y : Later w1 => y.cell b1
  have j2 := fun y : Later w1 => y.cell b2
  have j3 := fun y : Later w1 => y.cell b3
  have k0 := fun y : Later w1 => y.cell c0
  have k1 := fun y : Later w1 => y.cell c1
  have k2 := fun y : Later w1 => y.cell c2
  have k3 := fun y : Later w1 => y.cell c3
  clear a0 a1 a2 a3 af b0 b1 b2 b3 bf c0 c1 c2 c3 cf
  refine wp_region_later (by kernel_rfl) (by kernel_rfl) ?_
  repeat (go_big_quiet_step ((first
    | (go_at_call 24; with_reducible exact later_of _ H1.out)
    | (go_at_call 24; with_reducible exact later_of _ H2.out)
    | (go_at_call 24; with_reducible exact later_of _ H3.out))))
  refine wpQuiet_nil ?_
  intro _ hw'
  obtain ⟨q, hw''⟩ := hw'
  subst hw''
  have hb2 := below_then q.below hb1
  have hA2 := (whole_later q.below hA1).alloc (.cells #[.int .i64 ar, .int .i64 as_, .int .i64 am, .int .u16 ag] 25)
  have hB2 := (whole_later q.below hB1).alloc (.cells #[.int .i64 ar, .int .i64 as_, .int .i64 am, .int .u16 ag] 25)
  have hC2 := (whole_later q.below hC1).alloc (.cells #[.int .i64 ar, .int .i64 as_, .int .i64 am, .int .u16 ag] 25)
  have hD2 := Whole.new q.at_ 25 #[.int .i64 ar, .int .i64 as_, .int .i64 am, .int .u16 ag]
  have hb3 := hb2.alloc hb2.size (.cells #[.int .i64 ar, .int .i64 as_, .int .i64 am, .int .u16 ag] 25)
  have zA : w.heap.size < q.at_.heap.size := (whole_later q.below hA1).lt
  have zB : w.heap.size + 1 < q.at_.heap.size := (whole_later q.below hB1).lt
  have zC : w.heap.size + 1 + 1 < q.at_.heap.size := (whole_later q.below hC1).lt
  have a0 := i0 q
  have a1 := i1 q
  have a2 := i2 q
  have a3 := i3 q
  clear i0 i1 i2 i3 j0 j1 j2 j3 k0 k1 k2 k3 hA1 hB1 hC1 hb1
  go_wp2_with fail
  clear a0 a1 a2 a3
  generalize q.at_.heap.size = gD at *
  generalize q.at_.alloc (.cells #[.int .i64 ar, .int .i64 as_, .int .i64 am, .int .u16 ag] 25) = V at *
  obtain ⟨a0, a1, a2, a3, af⟩ := hA2.four
  obtain ⟨b0, b1, b2, b3, bf⟩ := hB2.four
  obtain ⟨c0, c1, c2, c3, cf⟩ := hC2.four
  obtain ⟨d0, d1, d2, d3, df⟩ := hD2.four
  go_region
  clear a0 a1 a2 a3 af b0 b1 b2 b3 bf c0 c1 c2 c3 cf d0 d1 d2 d3 df
  have hD3 : Whole ((V.setCell ⟨gD, 2, none⟩ (.int .i64 bm)).setCell ⟨gD, 3, none⟩ (.int .u16 cg)).drew gD 25 #[.int .i64 ar, .int .i64 as_, .int .i64 bm, .int .u16 cg] := ((hD2.set 2 _).set 3 _).drew
  have hA3 : Whole ((V.setCell ⟨gD, 2, none⟩ (.int .i64 bm)).setCell ⟨gD, 3, none⟩ (.int .u16 cg)).drew w.heap.size 25 #[.int .i64 ar, .int .i64 as_, .int .i64 am, .int .u16 ag] := ((hA2.far (by simp; omega) _).far (by simp; omega) _).drew
  have hB3 : Whole ((V.setCell ⟨gD, 2, none⟩ (.int .i64 bm)).setCell ⟨gD, 3, none⟩ (.int .u16 cg)).drew (w.heap.size + 1) 25 #[.int .i64 ar, .int .i64 bs, .int .i64 bm, .int .u16 bg] := ((hB2.far (by simp; omega) _).far (by simp; omega) _).drew
  have hb4 : Below w.heap.size w ((V.setCell ⟨gD, 2, none⟩ (.int .i64 bm)).setCell ⟨gD, 3, none⟩ (.int .u16 cg)).drew := ((hb3.setCell (p := ⟨gD, 2, none⟩) (Nat.le_of_lt zA) _).setCell (p := ⟨gD, 3, none⟩) (Nat.le_of_lt zA) _).drew
  clear hA2 hB2 hC2 hD2 hb2 hb3 zA zB zC
  generalize ((V.setCell ⟨gD, 2, none⟩ (.int .i64 bm)).setCell ⟨gD, 3, none⟩ (.int .u16 cg)).drew = V2 at *
  obtain ⟨a0, a1, a2, a3, af⟩ := hA3.four
  obtain ⟨b0, b1, b2, b3, bf⟩ := hB3.four
  go_wp2_with fail
  with_reducible refine (H4.out _).mono ?_
  rintro e w5 ⟨rfl, m1⟩
  have hb5 := below_then m1 hb4
  have hA4 := whole_later m1 hA3
  have hB4 := whole_later m1 hB3
  have hD4 := whole_later m1 hD3
  clear a0 a1 a2 a3 af b0 b1 b2 b3 bf hA3 hB3 hD3 hb4 m1
  obtain ⟨b0, b1, b2, b3, bf⟩ := hB4.four
  obtain ⟨d0, d1, d2, d3, df⟩ := hD4.four
  go_wp2_with fail
  with_reducible refine (H5.out _).mono ?_
  rintro e w6 ⟨rfl, m2⟩
  have hb6 := below_then m2 hb5
  have hA5 := whole_later m2 hA4
  have hB5 := whole_later m2 hB4
  clear b0 b1 b2 b3 bf d0 d1 d2 d3 df hA4 hB4 hD4 hb5 m2
  obtain ⟨a0, a1, a2, a3, af⟩ := hA5.four
  obtain ⟨b0, b1, b2, b3, bf⟩ := hB5.four
  go_wp2
  go_ret
  exact ⟨rfl, hb6⟩

set_option maxRecDepth 100000 in
set_option maxHeartbeats 2000000 in
theorem orders_Bm2 (ar as_ am bs bm cr cs cm ag bg cg : Int) (y z : Int) (w : World) (hx : cmpC ar as_ ar bs = -1) (hx2 : cmpC ar bs ar as_ = 1) (hy : cmpC ar bs cr cs = y) (hz : cmpC ar as_ cr cs = z) (h : ¬ as_ = bs) (k : ¬ y < 0) :
    Calls Try.prog 10 #[.agg #[.int .i64 ar, .int .i64 as_, .int .i64 am, .int .u16 ag], .agg #[.int .i64 ar, .int .i64 bs, .int .i64 bm, .int .u16 bg], .agg #[.int .i64 cr, .int .i64 cs, .int .i64 cm, .int .u16 cg]] w fun e w' => e = .returned (.bool true) ∧ Below w.heap.size w w' := by
  obtain ⟨W, hWe⟩ : ∃ W, ((w.alloc (.cells #[.int .i64 ar, .int .i64 as_, .int .i64 am, .int .u16 ag] 25)).alloc (.cells #[.int .i64 ar, .int .i64 bs, .int .i64 bm, .int .u16 bg] 25)).alloc (.cells #[.int .i64 cr, .int .i64 cs, .int .i64 cm, .int .u16 cg] 25) = W := ⟨_, rfl⟩
  have hb0 : Below w.heap.size w W := by rw [← hWe]; exact (((Below.refl _ _).alloc (Nat.le_refl _) _).alloc (by simp) _).alloc (by simp; omega) _
  have hA : Whole W w.heap.size 25 #[.int .i64 ar, .int .i64 as_, .int .i64 am, .int .u16 ag] := by rw [← hWe]; exact ((Whole.new w _ _).alloc _).alloc _
  have hB : Whole W (w.heap.size + 1) 25 #[.int .i64 ar, .int .i64 bs, .int .i64 bm, .int .u16 bg] := by
    rw [← hWe]
    have := (Whole.new (w.alloc (.cells #[.int .i64 ar, .int .i64 as_, .int .i64 am, .int .u16 ag] 25)) 25 #[.int .i64 ar, .int .i64 bs, .int .i64 bm, .int .u16 bg]).alloc (.cells #[.int .i64 cr, .int .i64 cs, .int .i64 cm, .int .u16 cg] 25)
    simpa using this
  have hC : Whole W (w.heap.size + 1 + 1) 25 #[.int .i64 cr, .int .i64 cs, .int .i64 cm, .int .u16 cg] := by
    rw [← hWe]
    have := Whole.new ((w.alloc (.cells #[.int .i64 ar, .int .i64 as_, .int .i64 am, .int .u16 ag] 25)).alloc (.cells #[.int .i64 ar, .int .i64 bs, .int .i64 bm, .int .u16 bg] 25)) 25 #[.int .i64 cr, .int .i64 cs, .int .i64 cm, .int .u16 cg]
    simpa using this
  have C1 := fun V => compare_any ar as_ am ag ar bs bm bg V
  have C2 := fun V => compare_any ar bs bm bg cr cs cm cg V
  have C3 := fun V => compare_any ar as_ am ag cr cs cm cg V
  have C4 := fun V => compare_any ar bs bm bg ar as_ am ag V
  have C5 := fun V => compare_any ar as_ bm cg ar bs bm bg V
  rw [hx] at C1 C5
  rw [hx2] at C4
  rw [hy] at C2
  rw [hz] at C3
  have H1 := Lib.hid C1
  have H2 := Lib.hid C2
  have H3 := Lib.hid C3
  have H4 := Lib.hid C4
  have H5 := Lib.hid C5
  have HW := Lib.hid hWe
  clear C1 C2 C3 C4 C5 hWe hx hx2 hy hz
  have e1 : (as_ == bs) = false := by simp [h]
  have e2 : decide (y < 0) = false := decide_eq_false k
  clear h k
  go_enter Try.func10, Try.ntmps10
  go_wp2_with fail
  rw [HW.out]
  refine (alive4_any _).mono ?_
  rintro e w1 ⟨rfl, k1⟩
  have hb1 := hb0.trans (k1.mono hb0.size)
  have hA1 := whole_later k1 hA
  have hB1 := whole_later k1 hB
  have hC1 := whole_later k1 hC
  clear hb0 hA hB hC HW k1
  obtain ⟨a0, a1, a2, a3, af⟩ := hA1.four
  obtain ⟨b0, b1, b2, b3, bf⟩ := hB1.four
  obtain ⟨c0, c1, c2, c3, cf⟩ := hC1.four
  go_wp2_with fail
  have i0 := fun y : Later w1 => y.cell a0
  have i1 := fun y : Later w1 => y.cell a1
  have i2 := fun y : Later w1 => y.cell a2
  have i3 := fun y : Later w1 => y.cell a3
  have j0 := fun y : Later w1 => y.cell b0
  have j1 := fun y : Later w1 => y.cell b1
  have j2 := fun y : Later w1 => y.cell b2
  have j3 := fun y : Later w1 => y.cell b3
  have k0 := fun y : Later w1 => y.cell c0
  have k1 := fun y : Later w1 => y.cell c1
  have k2 := fun y : Later w1 => y.cell c2
  have k3 := fun y : Later w1 => y.cell c3
  clear a0 a1 a2 a3 af b0 b1 b2 b3 bf c0 c1 c2 c3 cf
  refine wp_region_later (by kernel_rfl) (by kernel_rfl) ?_
  repeat (go_big_quiet_step ((first
    | (go_at_call 24; with_reducible exact later_of _ H1.out)
    | (go_at_call 24; with_reducible exact later_of _ H2.out)
    | (go_at_call 24; with_reducible exact later_of _ H3.out))))
  refine wpQuiet_nil ?_
  intro _ hw'
  obtain ⟨q, hw''⟩ := hw'
  subst hw''
  have hb2 := below_then q.below hb1
  have hA2 := (whole_later q.below hA1).alloc (.cells #[.int .i64 ar, .int .i64 as_, .int .i64 am, .int .u16 ag] 25)
  have hB2 := (whole_later q.below hB1).alloc (.cells #[.int .i64 ar, .int .i64 as_, .int .i64 am, .int .u16 ag] 25)
  have hC2 := (whole_later q.below hC1).alloc (.cells #[.int .i64 ar, .int .i64 as_, .int .i64 am, .int .u16 ag] 25)
  have hD2 := Whole.new q.at_ 25 #[.int .i64 ar, .int .i64 as_, .int .i64 am, .int .u16 ag]
  have hb3 := hb2.alloc hb2.size (.cells #[.int .i64 ar, .int .i64 as_, .int .i64 am, .int .u16 ag] 25)
  have zA : w.heap.size < q.at_.heap.size := (whole_later q.below hA1).lt
  have zB : w.heap.size + 1 < q.at_.heap.size := (whole_later q.below hB1).lt
  have zC : w.heap.size + 1 + 1 < q.at_.heap.size := (whole_later q.below hC1).lt
  have a0 := i0 q
  have a1 := i1 q
  have a2 := i2 q
  have a3 := i3 q
  clear i0 i1 i2 i3 j0 j1 j2 j3 k0 k1 k2 k3 hA1 hB1 hC1 hb1
  go_wp2_with fail
  clear a0 a1 a2 a3
  generalize q.at_.heap.size = gD at *
  generalize q.at_.alloc (.cells #[.int .i64 ar, .int .i64 as_, .int .i64 am, .int .u16 ag] 25) = V at *
  obtain ⟨a0, a1, a2, a3, af⟩ := hA2.four
  obtain ⟨b0, b1, b2, b3, bf⟩ := hB2.four
  obtain ⟨c0, c1, c2, c3, cf⟩ := hC2.four
  obtain ⟨d0, d1, d2, d3, df⟩ := hD2.four
  go_region
  clear a0 a1 a2 a3 af b0 b1 b2 b3 bf c0 c1 c2 c3 cf d0 d1 d2 d3 df
  have hD3 : Whole ((V.setCell ⟨gD, 2, none⟩ (.int .i64 bm)).setCell ⟨gD, 3, none⟩ (.int .u16 cg)).drew gD 25 #[.int .i64 ar, .int .i64 as_, .int .i64 bm, .int .u16 cg] := ((hD2.set 2 _).set 3 _).drew
  have hA3 : Whole ((V.setCell ⟨gD, 2, none⟩ (.int .i64 bm)).setCell ⟨gD, 3, none⟩ (.int .u16 cg)).drew w.heap.size 25 #[.int .i64 ar, .int .i64 as_, .int .i64 am, .int .u16 ag] := ((hA2.far (by simp; omega) _).far (by simp; omega) _).drew
  have hB3 : Whole ((V.setCell ⟨gD, 2, none⟩ (.int .i64 bm)).setCell ⟨gD, 3, none⟩ (.int .u16 cg)).drew (w.heap.size + 1) 25 #[.int .i64 ar, .int .i64 bs, .int .i64 bm, .int .u16 bg] := ((hB2.far (by simp; omega) _).far (by simp; omega) _).drew
  have hb4 : Below w.heap.size w ((V.setCell ⟨gD, 2, none⟩ (.int .i64 bm)).setCell ⟨gD, 3, none⟩ (.int .u16 cg)).drew := ((hb3.setCell (p := ⟨gD, 2, none⟩) (Nat.le_of_lt zA) _).setCell (p := ⟨gD, 3, none⟩) (Nat.le_of_lt zA) _).drew
  clear hA2 hB2 hC2 hD2 hb2 hb3 zA zB zC
  generalize ((V.setCell ⟨gD, 2, none⟩ (.int .i64 bm)).setCell ⟨gD, 3, none⟩ (.int .u16 cg)).drew = V2 at *
  obtain ⟨a0, a1, a2, a3, af⟩ := hA3.four
  obtain ⟨b0, b1, b2, b3, bf⟩ := hB3.four
  go_wp2_with fail
  with_reducible refine (H4.out _).mono ?_
  rintro e w5 ⟨rfl, m1⟩
  have hb5 := below_then m1 hb4
  have hA4 := whole_later m1 hA3
  have hB4 := whole_later m1 hB3
  have hD4 := whole_later m1 hD3
  clear a0 a1 a2 a3 af b0 b1 b2 b3 bf hA3 hB3 hD3 hb4 m1
  obtain ⟨b0, b1, b2, b3, bf⟩ := hB4.four
  obtain ⟨d0, d1, d2, d3, df⟩ := hD4.four
  go_wp2_with fail
  with_reducible refine (H5.out _).mono ?_
  rintro e w6 ⟨rfl, m2⟩
  have hb6 := below_then m2 hb5
  have hA5 := whole_later m2 hA4
  have hB5 := whole_later m2 hB4
  clear b0 b1 b2 b3 bf d0 d1 d2 d3 df hA4 hB4 hD4 hb5 m2
  obtain ⟨a0, a1, a2, a3, af⟩ := hA5.four
  obtain ⟨b0, b1, b2, b3, bf⟩ := hB5.four
  go_wp2
  go_ret
  exact ⟨rfl, hb6⟩

set_option maxRecDepth 100000 in
set_option maxHeartbeats 2000000 in
theorem orders_Ap1 (ar as_ am br bs bm cr cs cm ag bg cg : Int)  (w : World) (hx : cmpC ar as_ br bs = 1) (hx2 : cmpC br bs ar as_ = -1) (hy : cmpC br bs cr cs = 1) (hz : cmpC ar as_ cr cs = 1) (h : ¬ ar = br) :
    Calls Try.prog 10 #[.agg #[.int .i64 ar, .int .i64 as_, .int .i64 am, .int .u16 ag], .agg #[.int .i64 br, .int .i64 bs, .int .i64 bm, .int .u16 bg], .agg #[.int .i64 cr, .int .i64 cs, .int .i64 cm, .int .u16 cg]] w fun e w' => e = .returned (.bool true) ∧ Below w.heap.size w w' := by
  obtain ⟨W, hWe⟩ : ∃ W, ((w.alloc (.cells #[.int .i64 ar, .int .i64 as_, .int .i64 am, .int .u16 ag] 25)).alloc (.cells #[.int .i64 br, .int .i64 bs, .int .i64 bm, .int .u16 bg] 25)).alloc (.cells #[.int .i64 cr, .int .i64 cs, .int .i64 cm, .int .u16 cg] 25) = W := ⟨_, rfl⟩
  have hb0 : Below w.heap.size w W := by rw [← hWe]; exact (((Below.refl _ _).alloc (Nat.le_refl _) _).alloc (by simp) _).alloc (by simp; omega) _
  have hA : Whole W w.heap.size 25 #[.int .i64 ar, .int .i64 as_, .int .i64 am, .int .u16 ag] := by rw [← hWe]; exact ((Whole.new w _ _).alloc _).alloc _
  have hB : Whole W (w.heap.size + 1) 25 #[.int .i64 br, .int .i64 bs, .int .i64 bm, .int .u16 bg] := by
    rw [← hWe]
    have := (Whole.new (w.alloc (.cells #[.int .i64 ar, .int .i64 as_, .int .i64 am, .int .u16 ag] 25)) 25 #[.int .i64 br, .int .i64 bs, .int .i64 bm, .int .u16 bg]).alloc (.cells #[.int .i64 cr, .int .i64 cs, .int .i64 cm, .int .u16 cg] 25)
    simpa using this
  have hC : Whole W (w.heap.size + 1 + 1) 25 #[.int .i64 cr, .int .i64 cs, .int .i64 cm, .int .u16 cg] := by
    rw [← hWe]
    have := Whole.new ((w.alloc (.cells #[.int .i64 ar, .int .i64 as_, .int .i64 am, .int .u16 ag] 25)).alloc (.cells #[.int .i64 br, .int .i64 bs, .int .i64 bm, .int .u16 bg] 25)) 25 #[.int .i64 cr, .int .i64 cs, .int .i64 cm, .int .u16 cg]
    simpa using this
  have C1 := fun V => compare_any ar as_ am ag br bs bm bg V
  have C2 := fun V => compare_any br bs bm bg cr cs cm cg V
  have C3 := fun V => compare_any ar as_ am ag cr cs cm cg V
  have C4 := fun V => compare_any br bs bm bg ar as_ am ag V
  have C5 := fun V => compare_any ar as_ bm cg br bs bm bg V
  rw [hx] at C1 C5
  rw [hx2] at C4
  rw [hy] at C2
  rw [hz] at C3
  have H1 := Lib.hid C1
  have H2 := Lib.hid C2
  have H3 := Lib.hid C3
  have H4 := Lib.hid C4
  have H5 := Lib.hid C5
  have HW := Lib.hid hWe
  clear C1 C2 C3 C4 C5 hWe hx hx2 hy hz
  have e1 : (ar == br) = false := by simp [h]
  clear h
  go_enter Try.func10, Try.ntmps10
  go_wp2_with fail
  rw [HW.out]
  refine (alive4_any _).mono ?_
  rintro e w1 ⟨rfl, k1⟩
  have hb1 := hb0.trans (k1.mono hb0.size)
  have hA1 := whole_later k1 hA
  have hB1 := whole_later k1 hB
  have hC1 := whole_later k1 hC
  clear hb0 hA hB hC HW k1
  obtain ⟨a0, a1, a2, a3, af⟩ := hA1.four
  obtain ⟨b0, b1, b2, b3, bf⟩ := hB1.four
  obtain ⟨c0, c1, c2, c3, cf⟩ := hC1.four
  go_wp2_with fail
  have i0 := fun y : Later w1 => y.cell a0
  have i1 := fun y : Later w1 => y.cell a1
  have i2 := fun y : Later w1 => y.cell a2
  have i3 := fun y : Later w1 => y.cell a3
  have j0 := fun y : Later w1 => y.cell b0
  have j1 := fun y : Later w1 => y.cell b1
  have j2 := fun y : Later w1 => y.cell b2
  have j3 := fun y : Later w1 => y.cell b3
  have k0 := fun y : Later w1 => y.cell c0
  have k1 := fun y : Later w1 => y.cell c1
  have k2 := fun y : Later w1 => y.cell c2
  have k3 := fun y : Later w1 => y.cell c3
  clear a0 a1 a2 a3 af b0 b1 b2 b3 bf c0 c1 c2 c3 cf
  refine wp_region_later (by kernel_rfl) (by kernel_rfl) ?_
  repeat (go_big_quiet_step ((first
    | (go_at_call 24; with_reducible exact later_of _ H1.out)
    | (go_at_call 24; with_reducible exact later_of _ H2.out)
    | (go_at_call 24; with_reducible exact later_of _ H3.out))))
  refine wpQuiet_nil ?_
  intro _ hw'
  obtain ⟨q, hw''⟩ := hw'
  subst hw''
  have hb2 := below_then q.below hb1
  have hA2 := (whole_later q.below hA1).alloc (.cells #[.int .i64 ar, .int .i64 as_, .int .i64 am, .int .u16 ag] 25)
  have hB2 := (whole_later q.below hB1).alloc (.cells #[.int .i64 ar, .int .i64 as_, .int .i64 am, .int .u16 ag] 25)
  have hC2 := (whole_later q.below hC1).alloc (.cells #[.int .i64 ar, .int .i64 as_, .int .i64 am, .int .u16 ag] 25)
  have hD2 := Whole.new q.at_ 25 #[.int .i64 ar, .int .i64 as_, .int .i64 am, .int .u16 ag]
  have hb3 := hb2.alloc hb2.size (.cells #[.int .i64 ar, .int .i64 as_, .int .i64 am, .int .u16 ag] 25)
  have zA : w.heap.size < q.at_.heap.size := (whole_later q.below hA1).lt
  have zB : w.heap.size + 1 < q.at_.heap.size := (whole_later q.below hB1).lt
  have zC : w.heap.size + 1 + 1 < q.at_.heap.size := (whole_later q.below hC1).lt
  have a0 := i0 q
  have a1 := i1 q
  have a2 := i2 q
  have a3 := i3 q
  clear i0 i1 i2 i3 j0 j1 j2 j3 k0 k1 k2 k3 hA1 hB1 hC1 hb1
  go_wp2_with fail
  clear a0 a1 a2 a3
  generalize q.at_.heap.size = gD at *
  generalize q.at_.alloc (.cells #[.int .i64 ar, .int .i64 as_, .int .i64 am, .int .u16 ag] 25) = V at *
  obtain ⟨a0, a1, a2, a3, af⟩ := hA2.four
  obtain ⟨b0, b1, b2, b3, bf⟩ := hB2.four
  obtain ⟨c0, c1, c2, c3, cf⟩ := hC2.four
  obtain ⟨d0, d1, d2, d3, df⟩ := hD2.four
  go_region
  clear a0 a1 a2 a3 af b0 b1 b2 b3 bf c0 c1 c2 c3 cf d0 d1 d2 d3 df
  have hD3 : Whole ((V.setCell ⟨gD, 2, none⟩ (.int .i64 bm)).setCell ⟨gD, 3, none⟩ (.int .u16 cg)).drew gD 25 #[.int .i64 ar, .int .i64 as_, .int .i64 bm, .int .u16 cg] := ((hD2.set 2 _).set 3 _).drew
  have hA3 : Whole ((V.setCell ⟨gD, 2, none⟩ (.int .i64 bm)).setCell ⟨gD, 3, none⟩ (.int .u16 cg)).drew w.heap.size 25 #[.int .i64 ar, .int .i64 as_, .int .i64 am, .int .u16 ag] := ((hA2.far (by simp; omega) _).far (by simp; omega) _).drew
  have hB3 : Whole ((V.setCell ⟨gD, 2, none⟩ (.int .i64 bm)).setCell ⟨gD, 3, none⟩ (.int .u16 cg)).drew (w.heap.size + 1) 25 #[.int .i64 br, .int .i64 bs, .int .i64 bm, .int .u16 bg] := ((hB2.far (by simp; omega) _).far (by simp; omega) _).drew
  have hb4 : Below w.heap.size w ((V.setCell ⟨gD, 2, none⟩ (.int .i64 bm)).setCell ⟨gD, 3, none⟩ (.int .u16 cg)).drew := ((hb3.setCell (p := ⟨gD, 2, none⟩) (Nat.le_of_lt zA) _).setCell (p := ⟨gD, 3, none⟩) (Nat.le_of_lt zA) _).drew
  clear hA2 hB2 hC2 hD2 hb2 hb3 zA zB zC
  generalize ((V.setCell ⟨gD, 2, none⟩ (.int .i64 bm)).setCell ⟨gD, 3, none⟩ (.int .u16 cg)).drew = V2 at *
  obtain ⟨a0, a1, a2, a3, af⟩ := hA3.four
  obtain ⟨b0, b1, b2, b3, bf⟩ := hB3.four
  go_wp2_with fail
  with_reducible refine (H4.out _).mono ?_
  rintro e w5 ⟨rfl, m1⟩
  have hb5 := below_then m1 hb4
  have hA4 := whole_later m1 hA3
  have hB4 := whole_later m1 hB3
  have hD4 := whole_later m1 hD3
  clear a0 a1 a2 a3 af b0 b1 b2 b3 bf hA3 hB3 hD3 hb4 m1
  obtain ⟨b0, b1, b2, b3, bf⟩ := hB4.four
  obtain ⟨d0, d1, d2, d3, df⟩ := hD4.four
  go_wp2_with fail
  with_reducible refine (H5.out _).mono ?_
  rintro e w6 ⟨rfl, m2⟩
  have hb6 := below_then m2 hb5
  have hA5 := whole_later m2 hA4
  have hB5 := whole_later m2 hB4
  clear b0 b1 b2 b3 bf d0 d1 d2 d3 df hA4 hB4 hD4 hb5 m2
  obtain ⟨a0, a1, a2, a3, af⟩ := hA5.four
  obtain ⟨b0, b1, b2, b3, bf⟩ := hB5.four
  go_wp2
  go_ret
  exact ⟨rfl, hb6⟩

set_option maxRecDepth 100000 in
set_option maxHeartbeats 2000000 in
theorem orders_Ap2 (ar as_ am br bs bm cr cs cm ag bg cg : Int) (y z : Int) (w : World) (hx : cmpC ar as_ br bs = 1) (hx2 : cmpC br bs ar as_ = -1) (hy : cmpC br bs cr cs = y) (hz : cmpC ar as_ cr cs = z) (h : ¬ ar = br) (k : ¬ 0 < y) :
    Calls Try.prog 10 #[.agg #[.int .i64 ar, .int .i64 as_, .int .i64 am, .int .u16 ag], .agg #[.int .i64 br, .int .i64 bs, .int .i64 bm, .int .u16 bg], .agg #[.int .i64 cr, .int .i64 cs, .int .i64 cm, .int .u16 cg]] w fun e w' => e = .returned (.bool true) ∧ Below w.heap.size w w' := by
  obtain ⟨W, hWe⟩ : ∃ W, ((w.alloc (.cells #[.int .i64 ar, .int .i64 as_, .int .i64 am, .int .u16 ag] 25)).alloc (.cells #[.int .i64 br, .int .i64 bs, .int .i64 bm, .int .u16 bg] 25)).alloc (.cells #[.int .i64 cr, .int .i64 cs, .int .i64 cm, .int .u16 cg] 25) = W := ⟨_, rfl⟩
  have hb0 : Below w.heap.size w W := by rw [← hWe]; exact (((Below.refl _ _).alloc (Nat.le_refl _) _).alloc (by simp) _).alloc (by simp; omega) _
  have hA : Whole W w.heap.size 25 #[.int .i64 ar, .int .i64 as_, .int .i64 am, .int .u16 ag] := by rw [← hWe]; exact ((Whole.new w _ _).alloc _).alloc _
  have hB : Whole W (w.heap.size + 1) 25 #[.int .i64 br, .int .i64 bs, .int .i64 bm, .int .u16 bg] := by
    rw [← hWe]
    have := (Whole.new (w.alloc (.cells #[.int .i64 ar, .int .i64 as_, .int .i64 am, .int .u16 ag] 25)) 25 #[.int .i64 br, .int .i64 bs, .int .i64 bm, .int .u16 bg]).alloc (.cells #[.int .i64 cr, .int .i64 cs, .int .i64 cm, .int .u16 cg] 25)
    simpa using this
  have hC : Whole W (w.heap.size + 1 + 1) 25 #[.int .i64 cr, .int .i64 cs, .int .i64 cm, .int .u16 cg] := by
    rw [← hWe]
    have := Whole.new ((w.alloc (.cells #[.int .i64 ar, .int .i64 as_, .int .i64 am, .int .u16 ag] 25)).alloc (.cells #[.int .i64 br, .int .i64 bs, .int .i64 bm, .int .u16 bg] 25)) 25 #[.int .i64 cr, .int .i64 cs, .int .i64 cm, .int .u16 cg]
    simpa using this
  have C1 := fun V => compare_any ar as_ am ag br bs bm bg V
  have C2 := fun V => compare_any br bs bm bg cr cs cm cg V
  have C3 := fun V => compare_any ar as_ am ag cr cs cm cg V
  have C4 := fun V => compare_any br bs bm bg ar as_ am ag V
  have C5 := fun V => compare_any ar as_ bm cg br bs bm bg V
  rw [hx] at C1 C5
  rw [hx2] at C4
  rw [hy] at C2
  rw [hz] at C3
  have H1 := Lib.hid C1
  have H2 := Lib.hid C2
  have H3 := Lib.hid C3
  have H4 := Lib.hid C4
  have H5 := Lib.hid C5
  have HW := Lib.hid hWe
  clear C1 C2 C3 C4 C5 hWe hx hx2 hy hz
  have e1 : (ar == br) = false := by simp [h]
  have e2 : decide (0 < y) = false := decide_eq_false k
  clear h k
  go_enter Try.func10, Try.ntmps10
  go_wp2_with fail
  rw [HW.out]
  refine (alive4_any _).mono ?_
  rintro e w1 ⟨rfl, k1⟩
  have hb1 := hb0.trans (k1.mono hb0.size)
  have hA1 := whole_later k1 hA
  have hB1 := whole_later k1 hB
  have hC1 := whole_later k1 hC
  clear hb0 hA hB hC HW k1
  obtain ⟨a0, a1, a2, a3, af⟩ := hA1.four
  obtain ⟨b0, b1, b2, b3, bf⟩ := hB1.four
  obtain ⟨c0, c1, c2, c3, cf⟩ := hC1.four
  go_wp2_with fail
  have i0 := fun y : Later w1 => y.cell a0
  have i1 := fun y : Later w1 => y.cell a1
  have i2 := fun y : Later w1 => y.cell a2
  have i3 := fun y : Later w1 => y.cell a3
  have j0 := fun y : Later w1 => y.cell b0
  have j1 := fun y : Later w1 => y.cell b1
  have j2 := fun y : Later w1 => y.cell b2
  have j3 := fun y : Later w1 => y.cell b3
  have k0 := fun y : Later w1 => y.cell c0
  have k1 := fun y : Later w1 => y.cell c1
  have k2 := fun y : Later w1 => y.cell c2
  have k3 := fun y : Later w1 => y.cell c3
  clear a0 a1 a2 a3 af b0 b1 b2 b3 bf c0 c1 c2 c3 cf
  refine wp_region_later (by kernel_rfl) (by kernel_rfl) ?_
  repeat (go_big_quiet_step ((first
    | (go_at_call 24; with_reducible exact later_of _ H1.out)
    | (go_at_call 24; with_reducible exact later_of _ H2.out)
    | (go_at_call 24; with_reducible exact later_of _ H3.out))))
  refine wpQuiet_nil ?_
  intro _ hw'
  obtain ⟨q, hw''⟩ := hw'
  subst hw''
  have hb2 := below_then q.below hb1
  have hA2 := (whole_later q.below hA1).alloc (.cells #[.int .i64 ar, .int .i64 as_, .int .i64 am, .int .u16 ag] 25)
  have hB2 := (whole_later q.below hB1).alloc (.cells #[.int .i64 ar, .int .i64 as_, .int .i64 am, .int .u16 ag] 25)
  have hC2 := (whole_later q.below hC1).alloc (.cells #[.int .i64 ar, .int .i64 as_, .int .i64 am, .int .u16 ag] 25)
  have hD2 := Whole.new q.at_ 25 #[.int .i64 ar, .int .i64 as_, .int .i64 am, .int .u16 ag]
  have hb3 := hb2.alloc hb2.size (.cells #[.int .i64 ar, .int .i64 as_, .int .i64 am, .int .u16 ag] 25)
  have zA : w.heap.size < q.at_.heap.size := (whole_later q.below hA1).lt
  have zB : w.heap.size + 1 < q.at_.heap.size := (whole_later q.below hB1).lt
  have zC : w.heap.size + 1 + 1 < q.at_.heap.size := (whole_later q.below hC1).lt
  have a0 := i0 q
  have a1 := i1 q
  have a2 := i2 q
  have a3 := i3 q
  clear i0 i1 i2 i3 j0 j1 j2 j3 k0 k1 k2 k3 hA1 hB1 hC1 hb1
  go_wp2_with fail
  clear a0 a1 a2 a3
  generalize q.at_.heap.size = gD at *
  generalize q.at_.alloc (.cells #[.int .i64 ar, .int .i64 as_, .int .i64 am, .int .u16 ag] 25) = V at *
  obtain ⟨a0, a1, a2, a3, af⟩ := hA2.four
  obtain ⟨b0, b1, b2, b3, bf⟩ := hB2.four
  obtain ⟨c0, c1, c2, c3, cf⟩ := hC2.four
  obtain ⟨d0, d1, d2, d3, df⟩ := hD2.four
  go_region
  clear a0 a1 a2 a3 af b0 b1 b2 b3 bf c0 c1 c2 c3 cf d0 d1 d2 d3 df
  have hD3 : Whole ((V.setCell ⟨gD, 2, none⟩ (.int .i64 bm)).setCell ⟨gD, 3, none⟩ (.int .u16 cg)).drew gD 25 #[.int .i64 ar, .int .i64 as_, .int .i64 bm, .int .u16 cg] := ((hD2.set 2 _).set 3 _).drew
  have hA3 : Whole ((V.setCell ⟨gD, 2, none⟩ (.int .i64 bm)).setCell ⟨gD, 3, none⟩ (.int .u16 cg)).drew w.heap.size 25 #[.int .i64 ar, .int .i64 as_, .int .i64 am, .int .u16 ag] := ((hA2.far (by simp; omega) _).far (by simp; omega) _).drew
  have hB3 : Whole ((V.setCell ⟨gD, 2, none⟩ (.int .i64 bm)).setCell ⟨gD, 3, none⟩ (.int .u16 cg)).drew (w.heap.size + 1) 25 #[.int .i64 br, .int .i64 bs, .int .i64 bm, .int .u16 bg] := ((hB2.far (by simp; omega) _).far (by simp; omega) _).drew
  have hb4 : Below w.heap.size w ((V.setCell ⟨gD, 2, none⟩ (.int .i64 bm)).setCell ⟨gD, 3, none⟩ (.int .u16 cg)).drew := ((hb3.setCell (p := ⟨gD, 2, none⟩) (Nat.le_of_lt zA) _).setCell (p := ⟨gD, 3, none⟩) (Nat.le_of_lt zA) _).drew
  clear hA2 hB2 hC2 hD2 hb2 hb3 zA zB zC
  generalize ((V.setCell ⟨gD, 2, none⟩ (.int .i64 bm)).setCell ⟨gD, 3, none⟩ (.int .u16 cg)).drew = V2 at *
  obtain ⟨a0, a1, a2, a3, af⟩ := hA3.four
  obtain ⟨b0, b1, b2, b3, bf⟩ := hB3.four
  go_wp2_with fail
  with_reducible refine (H4.out _).mono ?_
  rintro e w5 ⟨rfl, m1⟩
  have hb5 := below_then m1 hb4
  have hA4 := whole_later m1 hA3
  have hB4 := whole_later m1 hB3
  have hD4 := whole_later m1 hD3
  clear a0 a1 a2 a3 af b0 b1 b2 b3 bf hA3 hB3 hD3 hb4 m1
  obtain ⟨b0, b1, b2, b3, bf⟩ := hB4.four
  obtain ⟨d0, d1, d2, d3, df⟩ := hD4.four
  go_wp2_with fail
  with_reducible refine (H5.out _).mono ?_
  rintro e w6 ⟨rfl, m2⟩
  have hb6 := below_then m2 hb5
  have hA5 := whole_later m2 hA4
  have hB5 := whole_later m2 hB4
  clear b0 b1 b2 b3 bf d0 d1 d2 d3 df hA4 hB4 hD4 hb5 m2
  obtain ⟨a0, a1, a2, a3, af⟩ := hA5.four
  obtain ⟨b0, b1, b2, b3, bf⟩ := hB5.four
  go_wp2
  go_ret
  exact ⟨rfl, hb6⟩

set_option maxRecDepth 100000 in
set_option maxHeartbeats 2000000 in
theorem orders_Bp1 (ar as_ am bs bm cr cs cm ag bg cg : Int)  (w : World) (hx : cmpC ar as_ ar bs = 1) (hx2 : cmpC ar bs ar as_ = -1) (hy : cmpC ar bs cr cs = 1) (hz : cmpC ar as_ cr cs = 1) (h : ¬ as_ = bs) :
    Calls Try.prog 10 #[.agg #[.int .i64 ar, .int .i64 as_, .int .i64 am, .int .u16 ag], .agg #[.int .i64 ar, .int .i64 bs, .int .i64 bm, .int .u16 bg], .agg #[.int .i64 cr, .int .i64 cs, .int .i64 cm, .int .u16 cg]] w fun e w' => e = .returned (.bool true) ∧ Below w.heap.size w w' := by
  obtain ⟨W, hWe⟩ : ∃ W, ((w.alloc (.cells #[.int .i64 ar, .int .i64 as_, .int .i64 am, .int .u16 ag] 25)).alloc (.cells #[.int .i64 ar, .int .i64 bs, .int .i64 bm, .int .u16 bg] 25)).alloc (.cells #[.int .i64 cr, .int .i64 cs, .int .i64 cm, .int .u16 cg] 25) = W := ⟨_, rfl⟩
  have hb0 : Below w.heap.size w W := by rw [← hWe]; exact (((Below.refl _ _).alloc (Nat.le_refl _) _).alloc (by simp) _).alloc (by simp; omega) _
  have hA : Whole W w.heap.size 25 #[.int .i64 ar, .int .i64 as_, .int .i64 am, .int .u16 ag] := by rw [← hWe]; exact ((Whole.new w _ _).alloc _).alloc _
  have hB : Whole W (w.heap.size + 1) 25 #[.int .i64 ar, .int .i64 bs, .int .i64 bm, .int .u16 bg] := by
    rw [← hWe]
    have := (Whole.new (w.alloc (.cells #[.int .i64 ar, .int .i64 as_, .int .i64 am, .int .u16 ag] 25)) 25 #[.int .i64 ar, .int .i64 bs, .int .i64 bm, .int .u16 bg]).alloc (.cells #[.int .i64 cr, .int .i64 cs, .int .i64 cm, .int .u16 cg] 25)
    simpa using this
  have hC : Whole W (w.heap.size + 1 + 1) 25 #[.int .i64 cr, .int .i64 cs, .int .i64 cm, .int .u16 cg] := by
    rw [← hWe]
    have := Whole.new ((w.alloc (.cells #[.int .i64 ar, .int .i64 as_, .int .i64 am, .int .u16 ag] 25)).alloc (.cells #[.int .i64 ar, .int .i64 bs, .int .i64 bm, .int .u16 bg] 25)) 25 #[.int .i64 cr, .int .i64 cs, .int .i64 cm, .int .u16 cg]
    simpa using this
  have C1 := fun V => compare_any ar as_ am ag ar bs bm bg V
  have C2 := fun V => compare_any ar bs bm bg cr cs cm cg V
  have C3 := fun V => compare_any ar as_ am ag cr cs cm cg V
  have C4 := fun V => compare_any ar bs bm bg ar as_ am ag V
  have C5 := fun V => compare_any ar as_ bm cg ar bs bm bg V
  rw [hx] at C1 C5
  rw [hx2] at C4
  rw [hy] at C2
  rw [hz] at C3
  have H1 := Lib.hid C1
  have H2 := Lib.hid C2
  have H3 := Lib.hid C3
  have H4 := Lib.hid C4
  have H5 := Lib.hid C5
  have HW := Lib.hid hWe
  clear C1 C2 C3 C4 C5 hWe hx hx2 hy hz
  have e1 : (as_ == bs) = false := by simp [h]
  clear h
  go_enter Try.func10, Try.ntmps10
  go_wp2_with fail
  rw [HW.out]
  refine (alive4_any _).mono ?_
  rintro e w1 ⟨rfl, k1⟩
  have hb1 := hb0.trans (k1.mono hb0.size)
  have hA1 := whole_later k1 hA
  have hB1 := whole_later k1 hB
  have hC1 := whole_later k1 hC
  clear hb0 hA hB hC HW k1
  obtain ⟨a0, a1, a2, a3, af⟩ := hA1.four
  obtain ⟨b0, b1, b2, b3, bf⟩ := hB1.four
  obtain ⟨c0, c1, c2, c3, cf⟩ := hC1.four
  go_wp2_with fail
  have i0 := fun y : Later w1 => y.cell a0
  have i1 := fun y : Later w1 => y.cell a1
  have i2 := fun y : Later w1 => y.cell a2
  have i3 := fun y : Later w1 => y.cell a3
  have j0 := fun y : Later w1 => y.cell b0
  have j1 := fun y : Later w1 => y.cell b1
  have j2 := fun y : Later w1 => y.cell b2
  have j3 := fun y : Later w1 => y.cell b3
  have k0 := fun y : Later w1 => y.cell c0
  have k1 := fun y : Later w1 => y.cell c1
  have k2 := fun y : Later w1 => y.cell c2
  have k3 := fun y : Later w1 => y.cell c3
  clear a0 a1 a2 a3 af b0 b1 b2 b3 bf c0 c1 c2 c3 cf
  refine wp_region_later (by kernel_rfl) (by kernel_rfl) ?_
  repeat (go_big_quiet_step ((first
    | (go_at_call 24; with_reducible exact later_of _ H1.out)
    | (go_at_call 24; with_reducible exact later_of _ H2.out)
    | (go_at_call 24; with_reducible exact later_of _ H3.out))))
  refine wpQuiet_nil ?_
  intro _ hw'
  obtain ⟨q, hw''⟩ := hw'
  subst hw''
  have hb2 := below_then q.below hb1
  have hA2 := (whole_later q.below hA1).alloc (.cells #[.int .i64 ar, .int .i64 as_, .int .i64 am, .int .u16 ag] 25)
  have hB2 := (whole_later q.below hB1).alloc (.cells #[.int .i64 ar, .int .i64 as_, .int .i64 am, .int .u16 ag] 25)
  have hC2 := (whole_later q.below hC1).alloc (.cells #[.int .i64 ar, .int .i64 as_, .int .i64 am, .int .u16 ag] 25)
  have hD2 := Whole.new q.at_ 25 #[.int .i64 ar, .int .i64 as_, .int .i64 am, .int .u16 ag]
  have hb3 := hb2.alloc hb2.size (.cells #[.int .i64 ar, .int .i64 as_, .int .i64 am, .int .u16 ag] 25)
  have zA : w.heap.size < q.at_.heap.size := (whole_later q.below hA1).lt
  have zB : w.heap.size + 1 < q.at_.heap.size := (whole_later q.below hB1).lt
  have zC : w.heap.size + 1 + 1 < q.at_.heap.size := (whole_later q.below hC1).lt
  have a0 := i0 q
  have a1 := i1 q
  have a2 := i2 q
  have a3 := i3 q
  clear i0 i1 i2 i3 j0 j1 j2 j3 k0 k1 k2 k3 hA1 hB1 hC1 hb1
  go_wp2_with fail
  clear a0 a1 a2 a3
  generalize q.at_.heap.size = gD at *
  generalize q.at_.alloc (.cells #[.int .i64 ar, .int .i64 as_, .int .i64 am, .int .u16 ag] 25) = V at *
  obtain ⟨a0, a1, a2, a3, af⟩ := hA2.four
  obtain ⟨b0, b1, b2, b3, bf⟩ := hB2.four
  obtain ⟨c0, c1, c2, c3, cf⟩ := hC2.four
  obtain ⟨d0, d1, d2, d3, df⟩ := hD2.four
  go_region
  clear a0 a1 a2 a3 af b0 b1 b2 b3 bf c0 c1 c2 c3 cf d0 d1 d2 d3 df
  have hD3 : Whole ((V.setCell ⟨gD, 2, none⟩ (.int .i64 bm)).setCell ⟨gD, 3, none⟩ (.int .u16 cg)).drew gD 25 #[.int .i64 ar, .int .i64 as_, .int .i64 bm, .int .u16 cg] := ((hD2.set 2 _).set 3 _).drew
  have hA3 : Whole ((V.setCell ⟨gD, 2, none⟩ (.int .i64 bm)).setCell ⟨gD, 3, none⟩ (.int .u16 cg)).drew w.heap.size 25 #[.int .i64 ar, .int .i64 as_, .int .i64 am, .int .u16 ag] := ((hA2.far (by simp; omega) _).far (by simp; omega) _).drew
  have hB3 : Whole ((V.setCell ⟨gD, 2, none⟩ (.int .i64 bm)).setCell ⟨gD, 3, none⟩ (.int .u16 cg)).drew (w.heap.size + 1) 25 #[.int .i64 ar, .int .i64 bs, .int .i64 bm, .int .u16 bg] := ((hB2.far (by simp; omega) _).far (by simp; omega) _).drew
  have hb4 : Below w.heap.size w ((V.setCell ⟨gD, 2, none⟩ (.int .i64 bm)).setCell ⟨gD, 3, none⟩ (.int .u16 cg)).drew := ((hb3.setCell (p := ⟨gD, 2, none⟩) (Nat.le_of_lt zA) _).setCell (p := ⟨gD, 3, none⟩) (Nat.le_of_lt zA) _).drew
  clear hA2 hB2 hC2 hD2 hb2 hb3 zA zB zC
  generalize ((V.setCell ⟨gD, 2, none⟩ (.int .i64 bm)).setCell ⟨gD, 3, none⟩ (.int .u16 cg)).drew = V2 at *
  obtain ⟨a0, a1, a2, a3, af⟩ := hA3.four
  obtain ⟨b0, b1, b2, b3, bf⟩ := hB3.four
  go_wp2_with fail
  with_reducible refine (H4.out _).mono ?_
  rintro e w5 ⟨rfl, m1⟩
  have hb5 := below_then m1 hb4
  have hA4 := whole_later m1 hA3
  have hB4 := whole_later m1 hB3
  have hD4 := whole_later m1 hD3
  clear a0 a1 a2 a3 af b0 b1 b2 b3 bf hA3 hB3 hD3 hb4 m1
  obtain ⟨b0, b1, b2, b3, bf⟩ := hB4.four
  obtain ⟨d0, d1, d2, d3, df⟩ := hD4.four
  go_wp2_with fail
  with_reducible refine (H5.out _).mono ?_
  rintro e w6 ⟨rfl, m2⟩
  have hb6 := below_then m2 hb5
  have hA5 := whole_later m2 hA4
  have hB5 := whole_later m2 hB4
  clear b0 b1 b2 b3 bf d0 d1 d2 d3 df hA4 hB4 hD4 hb5 m2
  obtain ⟨a0, a1, a2, a3, af⟩ := hA5.four
  obtain ⟨b0, b1, b2, b3, bf⟩ := hB5.four
  go_wp2
  go_ret
  exact ⟨rfl, hb6⟩

set_option maxRecDepth 100000 in
set_option maxHeartbeats 2000000 in
theorem orders_Bp2 (ar as_ am bs bm cr cs cm ag bg cg : Int) (y z : Int) (w : World) (hx : cmpC ar as_ ar bs = 1) (hx2 : cmpC ar bs ar as_ = -1) (hy : cmpC ar bs cr cs = y) (hz : cmpC ar as_ cr cs = z) (h : ¬ as_ = bs) (k : ¬ 0 < y) :
    Calls Try.prog 10 #[.agg #[.int .i64 ar, .int .i64 as_, .int .i64 am, .int .u16 ag], .agg #[.int .i64 ar, .int .i64 bs, .int .i64 bm, .int .u16 bg], .agg #[.int .i64 cr, .int .i64 cs, .int .i64 cm, .int .u16 cg]] w fun e w' => e = .returned (.bool true) ∧ Below w.heap.size w w' := by
  obtain ⟨W, hWe⟩ : ∃ W, ((w.alloc (.cells #[.int .i64 ar, .int .i64 as_, .int .i64 am, .int .u16 ag] 25)).alloc (.cells #[.int .i64 ar, .int .i64 bs, .int .i64 bm, .int .u16 bg] 25)).alloc (.cells #[.int .i64 cr, .int .i64 cs, .int .i64 cm, .int .u16 cg] 25) = W := ⟨_, rfl⟩
  have hb0 : Below w.heap.size w W := by rw [← hWe]; exact (((Below.refl _ _).alloc (Nat.le_refl _) _).alloc (by simp) _).alloc (by simp; omega) _
  have hA : Whole W w.heap.size 25 #[.int .i64 ar, .int .i64 as_, .int .i64 am, .int .u16 ag] := by rw [← hWe]; exact ((Whole.new w _ _).alloc _).alloc _
  have hB : Whole W (w.heap.size + 1) 25 #[.int .i64 ar, .int .i64 bs, .int .i64 bm, .int .u16 bg] := by
    rw [← hWe]
    have := (Whole.new (w.alloc (.cells #[.int .i64 ar, .int .i64 as_, .int .i64 am, .int .u16 ag] 25)) 25 #[.int .i64 ar, .int .i64 bs, .int .i64 bm, .int .u16 bg]).alloc (.cells #[.int .i64 cr, .int .i64 cs, .int .i64 cm, .int .u16 cg] 25)
    simpa using this
  have hC : Whole W (w.heap.size + 1 + 1) 25 #[.int .i64 cr, .int .i64 cs, .int .i64 cm, .int .u16 cg] := by
    rw [← hWe]
    have := Whole.new ((w.alloc (.cells #[.int .i64 ar, .int .i64 as_, .int .i64 am, .int .u16 ag] 25)).alloc (.cells #[.int .i64 ar, .int .i64 bs, .int .i64 bm, .int .u16 bg] 25)) 25 #[.int .i64 cr, .int .i64 cs, .int .i64 cm, .int .u16 cg]
    simpa using this
  have C1 := fun V => compare_any ar as_ am ag ar bs bm bg V
  have C2 := fun V => compare_any ar bs bm bg cr cs cm cg V
  have C3 := fun V => compare_any ar as_ am ag cr cs cm cg V
  have C4 := fun V => compare_any ar bs bm bg ar as_ am ag V
  have C5 := fun V => compare_any ar as_ bm cg ar bs bm bg V
  rw [hx] at C1 C5
  rw [hx2] at C4
  rw [hy] at C2
  rw [hz] at C3
  have H1 := Lib.hid C1
  have H2 := Lib.hid C2
  have H3 := Lib.hid C3
  have H4 := Lib.hid C4
  have H5 := Lib.hid C5
  have HW := Lib.hid hWe
  clear C1 C2 C3 C4 C5 hWe hx hx2 hy hz
  have e1 : (as_ == bs) = false := by simp [h]
  have e2 : decide (0 < y) = false := decide_eq_false k
  clear h k
  go_enter Try.func10, Try.ntmps10
  go_wp2_with fail
  rw [HW.out]
  refine (alive4_any _).mono ?_
  rintro e w1 ⟨rfl, k1⟩
  have hb1 := hb0.trans (k1.mono hb0.size)
  have hA1 := whole_later k1 hA
  have hB1 := whole_later k1 hB
  have hC1 := whole_later k1 hC
  clear hb0 hA hB hC HW k1
  obtain ⟨a0, a1, a2, a3, af⟩ := hA1.four
  obtain ⟨b0, b1, b2, b3, bf⟩ := hB1.four
  obtain ⟨c0, c1, c2, c3, cf⟩ := hC1.four
  go_wp2_with fail
  have i0 := fun y : Later w1 => y.cell a0
  have i1 := fun y : Later w1 => y.cell a1
  have i2 := fun y : Later w1 => y.cell a2
  have i3 := fun y : Later w1 => y.cell a3
  have j0 := fun y : Later w1 => y.cell b0
  have j1 := fun y : Later w1 => y.cell b1
  have j2 := fun y : Later w1 => y.cell b2
  have j3 := fun y : Later w1 => y.cell b3
  have k0 := fun y : Later w1 => y.cell c0
  have k1 := fun y : Later w1 => y.cell c1
  have k2 := fun y : Later w1 => y.cell c2
  have k3 := fun y : Later w1 => y.cell c3
  clear a0 a1 a2 a3 af b0 b1 b2 b3 bf c0 c1 c2 c3 cf
  refine wp_region_later (by kernel_rfl) (by kernel_rfl) ?_
  repeat (go_big_quiet_step ((first
    | (go_at_call 24; with_reducible exact later_of _ H1.out)
    | (go_at_call 24; with_reducible exact later_of _ H2.out)
    | (go_at_call 24; with_reducible exact later_of _ H3.out))))
  refine wpQuiet_nil ?_
  intro _ hw'
  obtain ⟨q, hw''⟩ := hw'
  subst hw''
  have hb2 := below_then q.below hb1
  have hA2 := (whole_later q.below hA1).alloc (.cells #[.int .i64 ar, .int .i64 as_, .int .i64 am, .int .u16 ag] 25)
  have hB2 := (whole_later q.below hB1).alloc (.cells #[.int .i64 ar, .int .i64 as_, .int .i64 am, .int .u16 ag] 25)
  have hC2 := (whole_later q.below hC1).alloc (.cells #[.int .i64 ar, .int .i64 as_, .int .i64 am, .int .u16 ag] 25)
  have hD2 := Whole.new q.at_ 25 #[.int .i64 ar, .int .i64 as_, .int .i64 am, .int .u16 ag]
  have hb3 := hb2.alloc hb2.size (.cells #[.int .i64 ar, .int .i64 as_, .int .i64 am, .int .u16 ag] 25)
  have zA : w.heap.size < q.at_.heap.size := (whole_later q.below hA1).lt
  have zB : w.heap.size + 1 < q.at_.heap.size := (whole_later q.below hB1).lt
  have zC : w.heap.size + 1 + 1 < q.at_.heap.size := (whole_later q.below hC1).lt
  have a0 := i0 q
  have a1 := i1 q
  have a2 := i2 q
  have a3 := i3 q
  clear i0 i1 i2 i3 j0 j1 j2 j3 k0 k1 k2 k3 hA1 hB1 hC1 hb1
  go_wp2_with fail
  clear a0 a1 a2 a3
  generalize q.at_.heap.size = gD at *
  generalize q.at_.alloc (.cells #[.int .i64 ar, .int .i64 as_, .int .i64 am, .int .u16 ag] 25) = V at *
  obtain ⟨a0, a1, a2, a3, af⟩ := hA2.four
  obtain ⟨b0, b1, b2, b3, bf⟩ := hB2.four
  obtain ⟨c0, c1, c2, c3, cf⟩ := hC2.four
  obtain ⟨d0, d1, d2, d3, df⟩ := hD2.four
  go_region
  clear a0 a1 a2 a3 af b0 b1 b2 b3 bf c0 c1 c2 c3 cf d0 d1 d2 d3 df
  have hD3 : Whole ((V.setCell ⟨gD, 2, none⟩ (.int .i64 bm)).setCell ⟨gD, 3, none⟩ (.int .u16 cg)).drew gD 25 #[.int .i64 ar, .int .i64 as_, .int .i64 bm, .int .u16 cg] := ((hD2.set 2 _).set 3 _).drew
  have hA3 : Whole ((V.setCell ⟨gD, 2, none⟩ (.int .i64 bm)).setCell ⟨gD, 3, none⟩ (.int .u16 cg)).drew w.heap.size 25 #[.int .i64 ar, .int .i64 as_, .int .i64 am, .int .u16 ag] := ((hA2.far (by simp; omega) _).far (by simp; omega) _).drew
  have hB3 : Whole ((V.setCell ⟨gD, 2, none⟩ (.int .i64 bm)).setCell ⟨gD, 3, none⟩ (.int .u16 cg)).drew (w.heap.size + 1) 25 #[.int .i64 ar, .int .i64 bs, .int .i64 bm, .int .u16 bg] := ((hB2.far (by simp; omega) _).far (by simp; omega) _).drew
  have hb4 : Below w.heap.size w ((V.setCell ⟨gD, 2, none⟩ (.int .i64 bm)).setCell ⟨gD, 3, none⟩ (.int .u16 cg)).drew := ((hb3.setCell (p := ⟨gD, 2, none⟩) (Nat.le_of_lt zA) _).setCell (p := ⟨gD, 3, none⟩) (Nat.le_of_lt zA) _).drew
  clear hA2 hB2 hC2 hD2 hb2 hb3 zA zB zC
  generalize ((V.setCell ⟨gD, 2, none⟩ (.int .i64 bm)).setCell ⟨gD, 3, none⟩ (.int .u16 cg)).drew = V2 at *
  obtain ⟨a0, a1, a2, a3, af⟩ := hA3.four
  obtain ⟨b0, b1, b2, b3, bf⟩ := hB3.four
  go_wp2_with fail
  with_reducible refine (H4.out _).mono ?_
  rintro e w5 ⟨rfl, m1⟩
  have hb5 := below_then m1 hb4
  have hA4 := whole_later m1 hA3
  have hB4 := whole_later m1 hB3
  have hD4 := whole_later m1 hD3
  clear a0 a1 a2 a3 af b0 b1 b2 b3 bf hA3 hB3 hD3 hb4 m1
  obtain ⟨b0, b1, b2, b3, bf⟩ := hB4.four
  obtain ⟨d0, d1, d2, d3, df⟩ := hD4.four
  go_wp2_with fail
  with_reducible refine (H5.out _).mono ?_
  rintro e w6 ⟨rfl, m2⟩
  have hb6 := below_then m2 hb5
  have hA5 := whole_later m2 hA4
  have hB5 := whole_later m2 hB4
  clear b0 b1 b2 b3 bf d0 d1 d2 d3 df hA4 hB4 hD4 hb5 m2
  obtain ⟨a0, a1, a2, a3, af⟩ := hA5.four
  obtain ⟨b0, b1, b2, b3, bf⟩ := hB5.four
  go_wp2
  go_ret
  exact ⟨rfl, hb6⟩

theorem cmpC_lt {r s r' s' : Int} (h : r < r' ∨ r = r' ∧ s < s') : cmpC r s r' s' = -1 := by
  rcases h with h | ⟨h, k⟩
  · exact refCmp_lt1 h
  · exact refCmp_lt2 h k
theorem cmpC_gt {r s r' s' : Int} (h : r' < r ∨ r = r' ∧ s' < s) : cmpC r s r' s' = 1 := by
  rcases h with h | ⟨h, k⟩
  · exact refCmp_gt1 h
  · exact refCmp_gt2 h k

theorem orders_walk (ar as_ am br bs bm cr cs cm ag bg cg : Int) (w : World) :
    Calls Try.prog 10 #[.agg #[.int .i64 ar, .int .i64 as_, .int .i64 am, .int .u16 ag], .agg #[.int .i64 br, .int .i64 bs, .int .i64 bm, .int .u16 bg], .agg #[.int .i64 cr, .int .i64 cs, .int .i64 cm, .int .u16 cg]] w fun e w' => e = .returned (.bool true) ∧ Below w.heap.size w w' := by
  rcases cmpC_three ar as_ br bs with ⟨hx, hk⟩ | ⟨hx, h1, h2⟩ | ⟨hx, hk⟩
  · have hx2 : cmpC br bs ar as_ = 1 := cmpC_gt (by omega)
    by_cases h : ar = br
    · subst h
      have hs : ¬ as_ = bs := by omega
      rcases cmpC_three ar bs cr cs with ⟨hy, hl⟩ | ⟨hy, hl⟩ | ⟨hy, hl⟩
      · exact orders_Bm1 ar as_ am bs bm cr cs cm ag bg cg w hx hx2 hy (cmpC_lt (by omega)) hs
      · exact orders_Bm2 ar as_ am bs bm cr cs cm ag bg cg _ _ w hx hx2 rfl rfl hs (by omega)
      · exact orders_Bm2 ar as_ am bs bm cr cs cm ag bg cg _ _ w hx hx2 rfl rfl hs (by omega)
    · rcases cmpC_three br bs cr cs with ⟨hy, hl⟩ | ⟨hy, hl⟩ | ⟨hy, hl⟩
      · exact orders_Am1 ar as_ am br bs bm cr cs cm ag bg cg w hx hx2 hy (cmpC_lt (by omega)) h
      · exact orders_Am2 ar as_ am br bs bm cr cs cm ag bg cg _ _ w hx hx2 rfl rfl h (by omega)
      · exact orders_Am2 ar as_ am br bs bm cr cs cm ag bg cg _ _ w hx hx2 rfl rfl h (by omega)
  · subst h1
    subst h2
    exact orders_C ar as_ am bm cr cs cm ag bg cg _ w hx hx rfl rfl
  · have hx2 : cmpC br bs ar as_ = -1 := cmpC_lt (by omega)
    by_cases h : ar = br
    · subst h
      have hs : ¬ as_ = bs := by omega
      rcases cmpC_three ar bs cr cs with ⟨hy, hl⟩ | ⟨hy, hl⟩ | ⟨hy, hl⟩
      · exact orders_Bp2 ar as_ am bs bm cr cs cm ag bg cg _ _ w hx hx2 rfl rfl hs (by omega)
      · exact orders_Bp2 ar as_ am bs bm cr cs cm ag bg cg _ _ w hx hx2 rfl rfl hs (by omega)
      · exact orders_Bp1 ar as_ am bs bm cr cs cm ag bg cg w hx hx2 hy (cmpC_gt (by omega)) hs
    · rcases cmpC_three br bs cr cs with ⟨hy, hl⟩ | ⟨hy, hl⟩ | ⟨hy, hl⟩
      · exact orders_Ap2 ar as_ am br bs bm cr cs cm ag bg cg _ _ w hx hx2 rfl rfl h (by omega)
      · exact orders_Ap2 ar as_ am br bs bm cr cs cm ag bg cg _ _ w hx hx2 rfl rfl h (by omega)
      · exact orders_Ap1 ar as_ am br bs bm cr cs cm ag bg cg w hx hx2 hy (cmpC_gt (by omega)) h

end Go.Proofs.Ytnpjldolppikfaa
