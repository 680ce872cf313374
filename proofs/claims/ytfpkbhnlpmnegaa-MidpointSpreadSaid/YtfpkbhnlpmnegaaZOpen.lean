/- What midpoint's laws are given, opened: slices of numbers. No condition. -/
import Derived.Test.YtfpkbhnlpmnegaaLong
import Derived.ChangeArms
import Derived.OpenShut
namespace Go.Proofs.Ytfpkbhnlpmnegaa
open Go.ChangeShapes Go.WideShapes Go.ChangeAt Go.RowKit Go.Deep Go.Joins

theorem cells_i64 : Try.prog.cellsOf 2 = 1 := by kernel_rfl
theorem cells_i16 : Try.prog.cellsOf 40 = 1 := by kernel_rfl
/-- A short number's cell. -/
def shC (v : Int) : List Value := [.int .i16 v]
def shOk (v : Int) : Prop := -32768 ≤ v ∧ v ≤ 32767
set_option maxRecDepth 100000 in
theorem open_longs {H : Type} {enc : TypeId × Value → H} {W : World} {base : Nat} {v : Value} {d : DataW H} {p : List MemPlace} (hv : Value.okWide Try.prog W .any base 22 v) (h : DataW.Trod enc Try.prog W 0 (fun _ => true) true 22 v d p) :
    ∃ s os, v = Sl.v s ∧ RSrc inC 1 W s os := by
  obtain ⟨A, n, c, rfl⟩ := okWide_slice Try.underlying22 hv
  obtain ⟨fuel, hf⟩ := h
  obtain ⟨s, xs, e, r, _⟩ := open_rows (cells := inC) (Q := fun _ => True) Try.underlying22 cells_i64 (by decide) (fun _ => rfl) (fun n cs y hl h => by
    obtain ⟨k, e, _, _⟩ := DataW.trod_int Try.underlying2 h
    exact ⟨k, e, trivial⟩) hf
  simp [Value.cells] at e
  exact ⟨s, xs, e, r⟩
set_option maxRecDepth 100000 in
theorem open_shorts {H : Type} {enc : TypeId × Value → H} {W : World} {base : Nat} {v : Value} {d : DataW H} {p : List MemPlace} (hv : Value.okWide Try.prog W .any base 38 v) (h : DataW.Trod enc Try.prog W 0 (fun _ => true) true 38 v d p) :
    ∃ s os, v = Sl.v s ∧ RSrc shC 1 W s os ∧ ∀ x ∈ os, shOk x := by
  obtain ⟨A, n, c, rfl⟩ := okWide_slice Try.underlying38 hv
  obtain ⟨fuel, hf⟩ := h
  obtain ⟨s, xs, e, r, q⟩ := open_rows (cells := shC) (Q := shOk) Try.underlying38 cells_i16 (by decide) (fun _ => rfl) (fun n cs y hl h => by
    obtain ⟨k, e, _, wf⟩ := DataW.trod_int Try.underlying40 h
    exact ⟨k, e, bounds_i16 wf⟩) hf
  simp [Value.cells] at e
  exact ⟨s, xs, e, r, q⟩
end Go.Proofs.Ytfpkbhnlpmnegaa
