/- In whom two C-states differ: the document's, by a contract. -/
import Derived.Test.YtnpjldolppikfaaCApart
import Derived.IntWalk
namespace Go.Proofs.Ytnpjldolppikfaa
open Go.RowKit

set_option maxHeartbeats 1000000 in
theorem refApart_no1 (r s m r' s' m' : Int) (g g' : Nat) (w : World) (hg : g < 65536) (hg' : g' < 65536) (h : ¬ r = r') : Calls Try.prog 23 #[.agg #[.int .i64 r, .int .i64 s, .int .i64 m, .int .u16 (g : Int)], .agg #[.int .i64 r', .int .i64 s', .int .i64 m', .int .u16 (g' : Int)]] w (ApartAt g g' false w) := by
  have hb : Below w.heap.size w ((w.alloc (.cells #[.int .i64 r, .int .i64 s, .int .i64 m, .int .u16 (g : Int)] 25)).alloc (.cells #[.int .i64 r', .int .i64 s', .int .i64 m', .int .u16 (g' : Int)] 25)) := ((Below.refl _ _).alloc (Nat.le_refl _) _).alloc (by simp) _
  have hW1 : Whole ((w.alloc (.cells #[.int .i64 r, .int .i64 s, .int .i64 m, .int .u16 (g : Int)] 25)).alloc (.cells #[.int .i64 r', .int .i64 s', .int .i64 m', .int .u16 (g' : Int)] 25)) w.heap.size 25 #[.int .i64 r, .int .i64 s, .int .i64 m, .int .u16 (g : Int)] := (Whole.new w _ _).alloc _
  have hW2 : Whole ((w.alloc (.cells #[.int .i64 r, .int .i64 s, .int .i64 m, .int .u16 (g : Int)] 25)).alloc (.cells #[.int .i64 r', .int .i64 s', .int .i64 m', .int .u16 (g' : Int)] 25)) (w.heap.size + 1) 25 #[.int .i64 r', .int .i64 s', .int .i64 m', .int .u16 (g' : Int)] := by
    have := Whole.new (w.alloc (.cells #[.int .i64 r, .int .i64 s, .int .i64 m, .int .u16 (g : Int)] 25)) 25 #[.int .i64 r', .int .i64 s', .int .i64 m', .int .u16 (g' : Int)]
    simpa using this
  have L1 := fun W => refLess_any g g' W hg hg'
  have L2 := fun W => refLess_any g' g W hg' hg
  have hs := ap_sum hg hg'
  have hlt := apG_lt hg hg'
  unfold ApartAt
  generalize lessG g g' = x at *
  generalize lessG g' g = y at *
  generalize apG g g' = z at *
  have e1 : ((x : Int) + (y : Int)) = (z : Int) := by omega
  have e2 : IntKind.u16.wrap (z : Int) = (z : Int) := IntWalk.u16_in _ (by omega)
  have H1 := Lib.hid L1
  have H2 := Lib.hid L2
  clear hg hg' L1 L2 hs hlt
  have dd : (r == r') = false := by simp [h]
  clear h
  go_enter Try.func23, Try.ntmps23
  go_wp2_with fail
  refine (H1.out _).mono ?_
  rintro e w1 ⟨rfl, k1⟩
  have hb1 := below_then k1 hb
  have hW3 := whole_later k1 hW1
  have hW4 := whole_later k1 hW2
  obtain ⟨c0, c1, c2, c3, cf⟩ := hW3.four
  obtain ⟨d0, d1, d2, d3, df⟩ := hW4.four
  clear hb hW1 hW2 k1
  go_wp2_with fail
  refine (H2.out _).mono ?_
  rintro e w2 ⟨rfl, k2⟩
  have hb2 := below_then k2 hb1
  have hW5 := whole_later k2 hW3
  have hW6 := whole_later k2 hW4
  clear c0 c1 c2 c3 cf d0 d1 d2 d3 df hb1 hW3 hW4 k2
  obtain ⟨c0, c1, c2, c3, cf⟩ := hW5.four
  obtain ⟨d0, d1, d2, d3, df⟩ := hW6.four
  go_wp2_with fail
  go_quiet (fail)
  go_wp2
  go_ret2
  exact ⟨rfl, below_drewN hb2 _⟩

set_option maxHeartbeats 1000000 in
theorem refApart_no2 (r s m s' m' : Int) (g g' : Nat) (w : World) (hg : g < 65536) (hg' : g' < 65536) (h : ¬ s = s') : Calls Try.prog 23 #[.agg #[.int .i64 r, .int .i64 s, .int .i64 m, .int .u16 (g : Int)], .agg #[.int .i64 r, .int .i64 s', .int .i64 m', .int .u16 (g' : Int)]] w (ApartAt g g' false w) := by
  have hb : Below w.heap.size w ((w.alloc (.cells #[.int .i64 r, .int .i64 s, .int .i64 m, .int .u16 (g : Int)] 25)).alloc (.cells #[.int .i64 r, .int .i64 s', .int .i64 m', .int .u16 (g' : Int)] 25)) := ((Below.refl _ _).alloc (Nat.le_refl _) _).alloc (by simp) _
  have hW1 : Whole ((w.alloc (.cells #[.int .i64 r, .int .i64 s, .int .i64 m, .int .u16 (g : Int)] 25)).alloc (.cells #[.int .i64 r, .int .i64 s', .int .i64 m', .int .u16 (g' : Int)] 25)) w.heap.size 25 #[.int .i64 r, .int .i64 s, .int .i64 m, .int .u16 (g : Int)] := (Whole.new w _ _).alloc _
  have hW2 : Whole ((w.alloc (.cells #[.int .i64 r, .int .i64 s, .int .i64 m, .int .u16 (g : Int)] 25)).alloc (.cells #[.int .i64 r, .int .i64 s', .int .i64 m', .int .u16 (g' : Int)] 25)) (w.heap.size + 1) 25 #[.int .i64 r, .int .i64 s', .int .i64 m', .int .u16 (g' : Int)] := by
    have := Whole.new (w.alloc (.cells #[.int .i64 r, .int .i64 s, .int .i64 m, .int .u16 (g : Int)] 25)) 25 #[.int .i64 r, .int .i64 s', .int .i64 m', .int .u16 (g' : Int)]
    simpa using this
  have L1 := fun W => refLess_any g g' W hg hg'
  have L2 := fun W => refLess_any g' g W hg' hg
  have hs := ap_sum hg hg'
  have hlt := apG_lt hg hg'
  unfold ApartAt
  generalize lessG g g' = x at *
  generalize lessG g' g = y at *
  generalize apG g g' = z at *
  have e1 : ((x : Int) + (y : Int)) = (z : Int) := by omega
  have e2 : IntKind.u16.wrap (z : Int) = (z : Int) := IntWalk.u16_in _ (by omega)
  have H1 := Lib.hid L1
  have H2 := Lib.hid L2
  clear hg hg' L1 L2 hs hlt
  have dd : (s == s') = false := by simp [h]
  clear h
  go_enter Try.func23, Try.ntmps23
  go_wp2_with fail
  refine (H1.out _).mono ?_
  rintro e w1 ⟨rfl, k1⟩
  have hb1 := below_then k1 hb
  have hW3 := whole_later k1 hW1
  have hW4 := whole_later k1 hW2
  obtain ⟨c0, c1, c2, c3, cf⟩ := hW3.four
  obtain ⟨d0, d1, d2, d3, df⟩ := hW4.four
  clear hb hW1 hW2 k1
  go_wp2_with fail
  refine (H2.out _).mono ?_
  rintro e w2 ⟨rfl, k2⟩
  have hb2 := below_then k2 hb1
  have hW5 := whole_later k2 hW3
  have hW6 := whole_later k2 hW4
  clear c0 c1 c2 c3 cf d0 d1 d2 d3 df hb1 hW3 hW4 k2
  obtain ⟨c0, c1, c2, c3, cf⟩ := hW5.four
  obtain ⟨d0, d1, d2, d3, df⟩ := hW6.four
  go_wp2_with fail
  go_quiet (fail)
  go_wp2
  go_ret2
  exact ⟨rfl, below_drewN hb2 _⟩

set_option maxHeartbeats 1000000 in
theorem refApart_no3 (r s m m' : Int) (g g' : Nat) (w : World) (hg : g < 65536) (hg' : g' < 65536) (h : ¬ m = m') : Calls Try.prog 23 #[.agg #[.int .i64 r, .int .i64 s, .int .i64 m, .int .u16 (g : Int)], .agg #[.int .i64 r, .int .i64 s, .int .i64 m', .int .u16 (g' : Int)]] w (ApartAt g g' false w) := by
  have hb : Below w.heap.size w ((w.alloc (.cells #[.int .i64 r, .int .i64 s, .int .i64 m, .int .u16 (g : Int)] 25)).alloc (.cells #[.int .i64 r, .int .i64 s, .int .i64 m', .int .u16 (g' : Int)] 25)) := ((Below.refl _ _).alloc (Nat.le_refl _) _).alloc (by simp) _
  have hW1 : Whole ((w.alloc (.cells #[.int .i64 r, .int .i64 s, .int .i64 m, .int .u16 (g : Int)] 25)).alloc (.cells #[.int .i64 r, .int .i64 s, .int .i64 m', .int .u16 (g' : Int)] 25)) w.heap.size 25 #[.int .i64 r, .int .i64 s, .int .i64 m, .int .u16 (g : Int)] := (Whole.new w _ _).alloc _
  have hW2 : Whole ((w.alloc (.cells #[.int .i64 r, .int .i64 s, .int .i64 m, .int .u16 (g : Int)] 25)).alloc (.cells #[.int .i64 r, .int .i64 s, .int .i64 m', .int .u16 (g' : Int)] 25)) (w.heap.size + 1) 25 #[.int .i64 r, .int .i64 s, .int .i64 m', .int .u16 (g' : Int)] := by
    have := Whole.new (w.alloc (.cells #[.int .i64 r, .int .i64 s, .int .i64 m, .int .u16 (g : Int)] 25)) 25 #[.int .i64 r, .int .i64 s, .int .i64 m', .int .u16 (g' : Int)]
    simpa using this
  have L1 := fun W => refLess_any g g' W hg hg'
  have L2 := fun W => refLess_any g' g W hg' hg
  have hs := ap_sum hg hg'
  have hlt := apG_lt hg hg'
  unfold ApartAt
  generalize lessG g g' = x at *
  generalize lessG g' g = y at *
  generalize apG g g' = z at *
  have e1 : ((x : Int) + (y : Int)) = (z : Int) := by omega
  have e2 : IntKind.u16.wrap (z : Int) = (z : Int) := IntWalk.u16_in _ (by omega)
  have H1 := Lib.hid L1
  have H2 := Lib.hid L2
  clear hg hg' L1 L2 hs hlt
  have dd : (m == m') = false := by simp [h]
  clear h
  go_enter Try.func23, Try.ntmps23
  go_wp2_with fail
  refine (H1.out _).mono ?_
  rintro e w1 ⟨rfl, k1⟩
  have hb1 := below_then k1 hb
  have hW3 := whole_later k1 hW1
  have hW4 := whole_later k1 hW2
  obtain ⟨c0, c1, c2, c3, cf⟩ := hW3.four
  obtain ⟨d0, d1, d2, d3, df⟩ := hW4.four
  clear hb hW1 hW2 k1
  go_wp2_with fail
  refine (H2.out _).mono ?_
  rintro e w2 ⟨rfl, k2⟩
  have hb2 := below_then k2 hb1
  have hW5 := whole_later k2 hW3
  have hW6 := whole_later k2 hW4
  clear c0 c1 c2 c3 cf d0 d1 d2 d3 df hb1 hW3 hW4 k2
  obtain ⟨c0, c1, c2, c3, cf⟩ := hW5.four
  obtain ⟨d0, d1, d2, d3, df⟩ := hW6.four
  go_wp2_with fail
  go_quiet (fail)
  go_wp2
  go_ret2
  exact ⟨rfl, below_drewN hb2 _⟩

set_option maxHeartbeats 1000000 in
theorem refApart_yes (r s m : Int) (g g' : Nat) (w : World) (hg : g < 65536) (hg' : g' < 65536)  : Calls Try.prog 23 #[.agg #[.int .i64 r, .int .i64 s, .int .i64 m, .int .u16 (g : Int)], .agg #[.int .i64 r, .int .i64 s, .int .i64 m, .int .u16 (g' : Int)]] w (ApartAt g g' true w) := by
  have hb : Below w.heap.size w ((w.alloc (.cells #[.int .i64 r, .int .i64 s, .int .i64 m, .int .u16 (g : Int)] 25)).alloc (.cells #[.int .i64 r, .int .i64 s, .int .i64 m, .int .u16 (g' : Int)] 25)) := ((Below.refl _ _).alloc (Nat.le_refl _) _).alloc (by simp) _
  have hW1 : Whole ((w.alloc (.cells #[.int .i64 r, .int .i64 s, .int .i64 m, .int .u16 (g : Int)] 25)).alloc (.cells #[.int .i64 r, .int .i64 s, .int .i64 m, .int .u16 (g' : Int)] 25)) w.heap.size 25 #[.int .i64 r, .int .i64 s, .int .i64 m, .int .u16 (g : Int)] := (Whole.new w _ _).alloc _
  have hW2 : Whole ((w.alloc (.cells #[.int .i64 r, .int .i64 s, .int .i64 m, .int .u16 (g : Int)] 25)).alloc (.cells #[.int .i64 r, .int .i64 s, .int .i64 m, .int .u16 (g' : Int)] 25)) (w.heap.size + 1) 25 #[.int .i64 r, .int .i64 s, .int .i64 m, .int .u16 (g' : Int)] := by
    have := Whole.new (w.alloc (.cells #[.int .i64 r, .int .i64 s, .int .i64 m, .int .u16 (g : Int)] 25)) 25 #[.int .i64 r, .int .i64 s, .int .i64 m, .int .u16 (g' : Int)]
    simpa using this
  have L1 := fun W => refLess_any g g' W hg hg'
  have L2 := fun W => refLess_any g' g W hg' hg
  have hs := ap_sum hg hg'
  have hlt := apG_lt hg hg'
  unfold ApartAt
  generalize lessG g g' = x at *
  generalize lessG g' g = y at *
  generalize apG g g' = z at *
  have e1 : ((x : Int) + (y : Int)) = (z : Int) := by omega
  have e2 : IntKind.u16.wrap (z : Int) = (z : Int) := IntWalk.u16_in _ (by omega)
  have H1 := Lib.hid L1
  have H2 := Lib.hid L2
  clear hg hg' L1 L2 hs hlt
  go_enter Try.func23, Try.ntmps23
  go_wp2_with fail
  refine (H1.out _).mono ?_
  rintro e w1 ⟨rfl, k1⟩
  have hb1 := below_then k1 hb
  have hW3 := whole_later k1 hW1
  have hW4 := whole_later k1 hW2
  obtain ⟨c0, c1, c2, c3, cf⟩ := hW3.four
  obtain ⟨d0, d1, d2, d3, df⟩ := hW4.four
  clear hb hW1 hW2 k1
  go_wp2_with fail
  refine (H2.out _).mono ?_
  rintro e w2 ⟨rfl, k2⟩
  have hb2 := below_then k2 hb1
  have hW5 := whole_later k2 hW3
  have hW6 := whole_later k2 hW4
  clear c0 c1 c2 c3 cf d0 d1 d2 d3 df hb1 hW3 hW4 k2
  obtain ⟨c0, c1, c2, c3, cf⟩ := hW5.four
  obtain ⟨d0, d1, d2, d3, df⟩ := hW6.four
  go_wp2_with fail
  go_quiet (fail)
  go_wp2
  go_ret2
  exact ⟨rfl, below_drewN hb2 _⟩

theorem refApart_any (r s m r' s' m' : Int) (g g' : Nat) (w : World) (hg : g < 65536) (hg' : g' < 65536) : Calls Try.prog 23 #[.agg #[.int .i64 r, .int .i64 s, .int .i64 m, .int .u16 (g : Int)], .agg #[.int .i64 r', .int .i64 s', .int .i64 m', .int .u16 (g' : Int)]] w (ApartAt g g' (sameC r s m r' s' m') w) := by
  by_cases h1 : r = r'
  · subst h1
    by_cases h2 : s = s'
    · subst h2
      by_cases h3 : m = m'
      · subst h3
        rw [show sameC r s m r s m = true from by simp [sameC]]
        exact refApart_yes r s m g g' w hg hg'
      · rw [show sameC r s m r s m' = false from by simp [sameC, h3]]
        exact refApart_no3 r s m m' g g' w hg hg' h3
    · rw [show sameC r s m r s' m' = false from by simp [sameC, h2]]
      exact refApart_no2 r s m s' m' g g' w hg hg' h2
  · rw [show sameC r s m r' s' m' = false from by simp [sameC, h1]]
    exact refApart_no1 r s m r' s' m' g g' w hg hg' h1

end Go.Proofs.Ytnpjldolppikfaa
