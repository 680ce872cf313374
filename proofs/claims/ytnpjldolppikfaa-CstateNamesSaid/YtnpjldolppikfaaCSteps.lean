/- CstateSteps, its walk. -/
import Derived.Test.YtnpjldolppikfaaCSuc
import Derived.Test.YtnpjldolppikfaaCAgoR
namespace Go.Proofs.Ytnpjldolppikfaa
open Go.RowKit

theorem suc_b (r s m v n : Int) (w : World) : Calls Try.prog 18 #[.agg #[.int .i64 r, .int .i64 s, .int .i64 m, .int .u16 v], .int .i64 n] w fun e w' =>
    e = .returned (.tuple #[.agg #[.int .i64 (sucR r s m n), .int .i64 (sucS r s m n), .int .i64 (sucM r s m n), .int .u16 (sucV r s m n v)], .int .i64 (sucE r s m n)]) ∧ Below w.heap.size w w' := suc_any r s m v n w
theorem refSuc_b (r s m v n : Int) (w : World) : Calls Try.prog 19 #[.agg #[.int .i64 r, .int .i64 s, .int .i64 m, .int .u16 v], .int .i64 n] w fun e w' =>
    e = .returned (.tuple #[.agg #[.int .i64 (sucR r s m n), .int .i64 (sucS r s m n), .int .i64 (sucM r s m n), .int .u16 (sucV r s m n v)], .int .i64 (sucE r s m n)]) ∧ Below w.heap.size w w' := refSuc_any r s m v n w
theorem ago_b (r s m v n k : Int) (w : World) : Calls Try.prog 20 #[.agg #[.int .i64 r, .int .i64 s, .int .i64 m, .int .u16 v], .int .i64 n, .int .i64 k] w fun e w' =>
    e = .returned (.tuple #[.int .i64 (agoR r s m n k), .int .i64 (agoS r s m n k), .int .i64 (agoE r s m n k)]) ∧ Below w.heap.size w w' := ago_any r s m v n k w
theorem refAgo_b (r s m v n k : Int) (w : World) (kb : k ≤ 9223372036854775807) : Calls Try.prog 21 #[.agg #[.int .i64 r, .int .i64 s, .int .i64 m, .int .u16 v], .int .i64 n, .int .i64 k] w fun e w' =>
    e = .returned (.tuple #[.int .i64 (agoR r s m n k), .int .i64 (agoS r s m n k), .int .i64 (agoE r s m n k)]) ∧ Below w.heap.size w w' := refAgo_any r s m v n k w kb

set_option maxRecDepth 100000 in
set_option maxHeartbeats 2000000 in
theorem steps_walk (r s m v n k : Int) (w : World) (kb : k ≤ 9223372036854775807) : Calls Try.prog 4 #[.agg #[.int .i64 r, .int .i64 s, .int .i64 m, .int .u16 v], .int .i64 n, .int .i64 k] w fun e w' => e = .returned (.bool true) ∧ Below w.heap.size w w' := by
  have hb : Below w.heap.size w (w.alloc (.cells #[.int .i64 r, .int .i64 s, .int .i64 m, .int .u16 v] 25)) := (Below.refl _ _).alloc (Nat.le_refl _) _
  have hW1 := Whole.new w 25 #[.int .i64 r, .int .i64 s, .int .i64 m, .int .u16 v]
  have S1 := Lib.hid (fun W => suc_b r s m v n W)
  have S2 := Lib.hid (fun W => refSuc_b r s m v n W)
  have A1 := Lib.hid (fun W => ago_b r s m v n k W)
  have A2 := Lib.hid (fun W => refAgo_b r s m v n k W kb)
  generalize sucR r s m n = x0 at *
  generalize sucS r s m n = x1 at *
  generalize sucM r s m n = x2 at *
  generalize sucV r s m n v = x3 at *
  generalize sucE r s m n = x4 at *
  generalize agoR r s m n k = y0 at *
  generalize agoS r s m n k = y1 at *
  generalize agoE r s m n k = y2 at *
  go_enter Try.func4, Try.ntmps4
  go_wp2_with fail
  refine (S1.out _).mono ?_
  rintro e w1 ⟨rfl, b1⟩
  have hb1 := below_then b1 hb
  have hW2 := whole_later b1 hW1
  have z1 := hW2.lt
  obtain ⟨c0, c1, c2, c3, cf⟩ := hW2.four
  clear hb hW1 b1
  go_wp2_with fail
  refine (S2.out _).mono ?_
  rintro e w2 ⟨rfl, b2⟩
  have hb2 := below_then b2 (hb1.alloc hb1.size _)
  have hW3 := whole_later b2 (hW2.alloc _)
  have hX3 := whole_later b2 (Whole.new w1 25 #[.int .i64 x0, .int .i64 x1, .int .i64 x2, .int .u16 x3])
  clear c0 c1 c2 c3 cf hb1 hW2 b2
  have z2 := hW3.lt
  have z3 := hX3.lt
  obtain ⟨c0, c1, c2, c3, cf⟩ := hW3.four
  go_wp2_with fail
  refine (A1.out _).mono ?_
  rintro e w3 ⟨rfl, b3⟩
  have hb3 := below_then b3 (hb2.alloc hb2.size _)
  have hW4 := whole_later b3 (hW3.alloc _)
  have hX4 := whole_later b3 (hX3.alloc _)
  have hY4 := whole_later b3 (Whole.new w2 25 #[.int .i64 x0, .int .i64 x1, .int .i64 x2, .int .u16 x3])
  clear c0 c1 c2 c3 cf hb2 hW3 hX3 b3
  have z4 := hW4.lt
  have z5 := hX4.lt
  have z6 := hY4.lt
  obtain ⟨c0, c1, c2, c3, cf⟩ := hW4.four
  go_wp2_with fail
  refine (A2.out _).mono ?_
  rintro e w4 ⟨rfl, b4⟩
  have hb4 := below_then b4 hb3
  have hX5 := whole_later b4 hX4
  have hY5 := whole_later b4 hY4
  clear c0 c1 c2 c3 cf hb3 hW4 hX4 hY4 b4
  obtain ⟨c0, c1, c2, c3, cf⟩ := hX5.four
  obtain ⟨d0, d1, d2, d3, df⟩ := hY5.four
  go_wp2
  go_ret
  exact ⟨rfl, hb4⟩

end Go.Proofs.Ytnpjldolppikfaa
