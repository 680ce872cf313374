/- CstateAsks, its walk. -/
import Derived.Test.YtnpjldolppikfaaCSeen
import Derived.Test.YtnpjldolppikfaaCApartR
import Derived.Test.YtnpjldolppikfaaCCmp
import Derived.Test.YtnpjldolppikfaaLater
namespace Go.Proofs.Ytnpjldolppikfaa
open Go.RowKit

theorem seen_any (r s m n : Int) (g : Nat) (is : Bool) (w : World) (hg : g < 65536) : Calls Try.prog 26 #[.agg #[.int .i64 r, .int .i64 s, .int .i64 m, .int .u16 (g : Int)], .int .i64 n, .bool is] w fun e w' => e = .returned (.agg #[.int .i64 r, .int .i64 s, .int .i64 m, .int .u16 ((seenG g n is : Nat) : Int)]) ∧ Below w.heap.size w w' := by
  cases is
  · exact seen_false r s m n g w hg
  · exact seen_true r s m n g w hg
theorem refSeen_any (r s m n : Int) (g : Nat) (is : Bool) (w : World) (hg : g < 65536) : Calls Try.prog 27 #[.agg #[.int .i64 r, .int .i64 s, .int .i64 m, .int .u16 (g : Int)], .int .i64 n, .bool is] w fun e w' => e = .returned (.agg #[.int .i64 r, .int .i64 s, .int .i64 m, .int .u16 ((seenG g n is : Nat) : Int)]) ∧ Below w.heap.size w w' := by
  cases is
  · exact refSeen_false r s m n g w hg
  · exact refSeen_true r s m n g w hg

set_option maxRecDepth 100000 in
set_option maxHeartbeats 2000000 in
theorem asks_walk (r s m r' s' m' n : Int) (g g' : Nat) (is : Bool) (w : World) (hg : g < 65536) (hg' : g' < 65536) : Calls Try.prog 5 #[.agg #[.int .i64 r, .int .i64 s, .int .i64 m, .int .u16 (g : Int)], .agg #[.int .i64 r', .int .i64 s', .int .i64 m', .int .u16 (g' : Int)], .int .i64 n, .bool is] w fun e w' => e = .returned (.bool true) ∧ Below w.heap.size w w' := by
  have hb : Below w.heap.size w ((w.alloc (.cells #[.int .i64 r, .int .i64 s, .int .i64 m, .int .u16 (g : Int)] 25)).alloc (.cells #[.int .i64 r', .int .i64 s', .int .i64 m', .int .u16 (g' : Int)] 25)) := ((Below.refl _ _).alloc (Nat.le_refl _) _).alloc (by simp) _
  have hW1 : Whole ((w.alloc (.cells #[.int .i64 r, .int .i64 s, .int .i64 m, .int .u16 (g : Int)] 25)).alloc (.cells #[.int .i64 r', .int .i64 s', .int .i64 m', .int .u16 (g' : Int)] 25)) w.heap.size 25 #[.int .i64 r, .int .i64 s, .int .i64 m, .int .u16 (g : Int)] := (Whole.new w _ _).alloc _
  have hW2 : Whole ((w.alloc (.cells #[.int .i64 r, .int .i64 s, .int .i64 m, .int .u16 (g : Int)] 25)).alloc (.cells #[.int .i64 r', .int .i64 s', .int .i64 m', .int .u16 (g' : Int)] 25)) (w.heap.size + 1) 25 #[.int .i64 r', .int .i64 s', .int .i64 m', .int .u16 (g' : Int)] := by
    have := Whole.new (w.alloc (.cells #[.int .i64 r, .int .i64 s, .int .i64 m, .int .u16 (g : Int)] 25)) 25 #[.int .i64 r', .int .i64 s', .int .i64 m', .int .u16 (g' : Int)]
    simpa using this
  have A1 := fun W => apart_any r s m r' s' m' g g' W hg hg'
  have A2 := fun W => refApart_any r s m r' s' m' g g' W hg hg'
  unfold ApartAt at A1 A2
  have C1 := fun W => compare_any r s m (g : Int) r' s' m' (g' : Int) W
  have C2 := fun W => refCompare_any r s m (g : Int) r' s' m' (g' : Int) W
  have S1 := fun W => seen_any r s m n g is W hg
  have S2 := fun W => refSeen_any r s m n g is W hg
  generalize apG g g' = z at *
  generalize sameC r s m r' s' m' = b at *
  generalize cmpC r s r' s' = x at *
  generalize seenG g n is = q at *
  have HA1 := Lib.hid A1
  have HA2 := Lib.hid A2
  have HC1 := Lib.hid C1
  have HC2 := Lib.hid C2
  have HS1 := Lib.hid S1
  have HS2 := Lib.hid S2
  clear A1 A2 C1 C2 S1 S2 hg hg'
  go_enter Try.func5, Try.ntmps5
  go_wp2_with fail
  refine (HA1.out _).mono ?_
  rintro e w1 ⟨rfl, k1⟩
  have hb1 := below_then k1 hb
  have hW3 := whole_later k1 hW1
  have hW4 := whole_later k1 hW2
  obtain ⟨c0, c1, c2, c3, cf⟩ := hW3.four
  obtain ⟨d0, d1, d2, d3, df⟩ := hW4.four
  clear hb hW1 hW2 k1
  go_wp2_with fail
  refine (HA2.out _).mono ?_
  rintro e w2 ⟨rfl, k2⟩
  have hb2 := below_then k2 hb1
  have hW5 := whole_later k2 hW3
  have hW6 := whole_later k2 hW4
  clear c0 c1 c2 c3 cf d0 d1 d2 d3 df hb1 hW3 hW4 k2
  obtain ⟨c0, c1, c2, c3, cf⟩ := hW5.four
  obtain ⟨d0, d1, d2, d3, df⟩ := hW6.four
  go_wp2_with fail
  have l0 := fun y : Later w2 => y.cell c0
  have l1 := fun y : Later w2 => y.cell c1
  have l2 := fun y : Later w2 => y.cell c2
  have l3 := fun y : Later w2 => y.cell c3
  have j0 := fun y : Later w2 => y.cell d0
  have j1 := fun y : Later w2 => y.cell d1
  have j2 := fun y : Later w2 => y.cell d2
  have j3 := fun y : Later w2 => y.cell d3
  clear c0 c1 c2 c3 cf d0 d1 d2 d3 df hW5 hW6
  refine wp_region_later (by kernel_rfl) (by kernel_rfl) ?_
  repeat (go_big_quiet_step ((first
    | (go_at_call 24; exact later_of _ HC1.out)
    | (go_at_call 25; exact later_of _ HC2.out)
    | (go_at_call 26; exact later_of _ HS1.out)
    | (go_at_call 27; exact later_of _ HS2.out))))
  refine wpQuiet_nil ?_
  intro _ hw'
  obtain ⟨y, hw''⟩ := hw'
  subst hw''
  go_wp2
  go_ret
  exact ⟨rfl, hb2.trans (y.below.mono hb2.size)⟩

end Go.Proofs.Ytnpjldolppikfaa
