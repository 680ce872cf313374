/- An argument that is a clock, opened: four numbers. -/
import Derived.Test.YtjdkndpcjjjlfaaKMem
import Derived.ProofKit
import Derived.OpenShut
import Derived.Lib.SmallJoins
namespace Go.Proofs.Ytjdkndpcjjjlfaa
open Go.ChangeShapes Go.WideShapes Go.ChangeAt Go.RowKit Go.Deep Go.Joins

def In64K (n : Int) : Prop := -9223372036854775808 ≤ n ∧ n ≤ 9223372036854775807
theorem cells_clock : Try.prog.cellsOf 25 = 4 := by kernel_rfl
theorem cells_rate : Try.prog.cellsOf 23 = 2 := by kernel_rfl
theorem cells_i64 : Try.prog.cellsOf 2 = 1 := by kernel_rfl

set_option maxRecDepth 100000 in
theorem open_clock {H : Type} {enc : TypeId × Value → H} {W : World} {base : Nat} {v : Value} {d : DataW H} {p : List MemPlace} (hv : Value.okWide Try.prog W .any base 25 v) (h : DataW.Trod enc Try.prog W 0 (fun _ => true) true 25 v d p) :
    ∃ n e o j : Int, v = .agg #[.int .i64 n, .int .i64 e, .int .i64 o, .int .i64 j] ∧ In64K n ∧ In64K e ∧ In64K o ∧ In64K j := by
  obtain ⟨cs, rfl, hsz⟩ := okWide_struct Try.underlying25 hv
  obtain ⟨c0, c1, c2, c3, rfl⟩ := array4 (hsz.trans cells_clock)
  obtain ⟨fuel, hf⟩ := h
  obtain ⟨y0, y1, y2, n, _, _, f0, f1, f2⟩ := trod_struct3 Try.underlying25 hf
  simp only [cells_rate, cells_i64, Value.cells, List.drop, List.take] at f0 f1 f2
  obtain ⟨z0, z1, m, _, _, g0, g1⟩ := trod_struct2 Try.underlying23 f0
  simp only [cells_i64, List.drop, List.take] at g0 g1
  obtain ⟨k0, e0, _, w0⟩ := DataW.trod_int Try.underlying2 g0
  obtain ⟨k1, e1, _, w1⟩ := DataW.trod_int Try.underlying2 g1
  obtain ⟨k2, e2, _, w2⟩ := DataW.trod_int Try.underlying2 f1
  obtain ⟨k3, e3, _, w3⟩ := DataW.trod_int Try.underlying2 f2
  simp at e0 e1 e2 e3
  subst e0 e1 e2 e3
  exact ⟨k0, k1, k2, k3, rfl, bounds_i64 w0, bounds_i64 w1, bounds_i64 w2, bounds_i64 w3⟩

end Go.Proofs.Ytjdkndpcjjjlfaa
