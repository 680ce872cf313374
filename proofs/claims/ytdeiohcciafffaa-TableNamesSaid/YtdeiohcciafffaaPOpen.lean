/- An argument that is a place, opened: two numbers. -/
import Derived.Test.YtdeiohcciafffaaLOpen
import Derived.Test.YtdeiohcciafffaaPDef
namespace Go.Proofs.Ytdeiohcciafffaa
open Go.ChangeShapes Go.WideShapes Go.ChangeAt Go.RowKit Go.Deep Go.Joins

theorem cells_place : Try.prog.cellsOf 25 = 2 := by kernel_rfl

set_option maxRecDepth 100000 in
set_option maxHeartbeats 1000000 in
theorem open_spot {H : Type} {enc : TypeId × Value → H} {W : World} {base : Nat} {v : Value} {d : DataW H} {p : List MemPlace} (hv : Value.okWide Try.prog W .any base 25 v) (h : DataW.Trod enc Try.prog W 0 (fun _ => true) true 25 v d p) :
    ∃ r s : Int, v = spotV r s := by
  obtain ⟨cs, rfl, hsz⟩ := okWide_struct Try.underlying25 hv
  obtain ⟨l⟩ := cs
  match l, hsz.trans cells_place with
  | [c0, c1], _ =>
    obtain ⟨fuel, hf⟩ := h
    obtain ⟨xs, n, _, hx, _, hlen, hg⟩ := DataW.trod_struct Try.underlying25 hf
    clear hx hf hv hsz
    have hlen : xs.length = 2 := hlen
    obtain ⟨y0, hy0⟩ : ∃ y, xs[0]? = some y := ⟨xs[0], List.getElem?_eq_getElem (by omega)⟩
    have g0 := (hg 0 _ rfl).trans hy0
    obtain ⟨k0, e0, _, _⟩ := DataW.trod_int (x := y0) Try.underlying2 (by simpa [cells_int, cells_i64, Value.cells] using g0 : DataW.trod enc Try.prog W 0 (fun _ => true) true n 2 [c0] = some y0)
    obtain ⟨y1, hy1⟩ : ∃ y, xs[1]? = some y := ⟨xs[1], List.getElem?_eq_getElem (by omega)⟩
    have g1 := (hg 1 _ rfl).trans hy1
    obtain ⟨k1, e1, _, _⟩ := DataW.trod_int (x := y1) Try.underlying3 (by simpa [cells_int, cells_i64, Value.cells] using g1 : DataW.trod enc Try.prog W 0 (fun _ => true) true n 3 [c1] = some y1)
    simp only [List.cons.injEq, and_true] at e0 e1
    subst e0 e1
    exact ⟨k0, k1, rfl⟩
end Go.Proofs.Ytdeiohcciafffaa
