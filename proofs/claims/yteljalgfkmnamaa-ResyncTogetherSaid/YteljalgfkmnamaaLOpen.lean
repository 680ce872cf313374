/- An argument that is a plan, opened: sixteen numbers. -/
import Derived.Test.YteljalgfkmnamaaLDef
import Derived.ProofKit
import Derived.OpenShut
import Derived.Lib.SmallJoins
namespace Go.Proofs.Yteljalgfkmnamaa
open Go.ChangeShapes Go.WideShapes Go.ChangeAt Go.RowKit Go.Deep Go.Joins

theorem cells_int : Try.prog.cellsOf 3 = 1 := by kernel_rfl
theorem cells_i64 : Try.prog.cellsOf 2 = 1 := by kernel_rfl
theorem cells_plan : Try.prog.cellsOf 23 = 16 := by kernel_rfl

set_option maxRecDepth 100000 in
set_option maxHeartbeats 4000000 in
theorem open_plan {H : Type} {enc : TypeId × Value → H} {W : World} {base : Nat} {v : Value} {d : DataW H} {p : List MemPlace} (hv : Value.okWide Try.prog W .any base 23 v) (h : DataW.Trod enc Try.prog W 0 (fun _ => true) true 23 v d p) :
    ∃ x : Pl, v = .agg x.cells := by
  obtain ⟨cs, rfl, hsz⟩ := okWide_struct Try.underlying23 hv
  obtain ⟨l⟩ := cs
  match l, hsz.trans cells_plan with
  | [c0, c1, c2, c3, c4, c5, c6, c7, c8, c9, c10, c11, c12, c13, c14, c15], _ =>
    obtain ⟨fuel, hf⟩ := h
    obtain ⟨xs, n, _, hx, _, hlen, hg⟩ := DataW.trod_struct Try.underlying23 hf
    clear hx hf hv hsz
    have hlen : xs.length = 16 := hlen
    obtain ⟨y0, hy0⟩ : ∃ y, xs[0]? = some y := ⟨xs[0], List.getElem?_eq_getElem (by omega)⟩
    have g0 := (hg 0 _ rfl).trans hy0
    obtain ⟨k0, e0, _, _⟩ := DataW.trod_int (x := y0) Try.underlying3 (by simpa [cells_int, cells_i64, Value.cells] using g0 : DataW.trod enc Try.prog W 0 (fun _ => true) true n 3 [c0] = some y0)
    clear g0
    obtain ⟨y1, hy1⟩ : ∃ y, xs[1]? = some y := ⟨xs[1], List.getElem?_eq_getElem (by omega)⟩
    have g1 := (hg 1 _ rfl).trans hy1
    obtain ⟨k1, e1, _, _⟩ := DataW.trod_int (x := y1) Try.underlying3 (by simpa [cells_int, cells_i64, Value.cells] using g1 : DataW.trod enc Try.prog W 0 (fun _ => true) true n 3 [c1] = some y1)
    clear g1
    obtain ⟨y2, hy2⟩ : ∃ y, xs[2]? = some y := ⟨xs[2], List.getElem?_eq_getElem (by omega)⟩
    have g2 := (hg 2 _ rfl).trans hy2
    obtain ⟨k2, e2, _, _⟩ := DataW.trod_int (x := y2) Try.underlying2 (by simpa [cells_int, cells_i64, Value.cells] using g2 : DataW.trod enc Try.prog W 0 (fun _ => true) true n 2 [c2] = some y2)
    clear g2
    obtain ⟨y3, hy3⟩ : ∃ y, xs[3]? = some y := ⟨xs[3], List.getElem?_eq_getElem (by omega)⟩
    have g3 := (hg 3 _ rfl).trans hy3
    obtain ⟨k3, e3, _, _⟩ := DataW.trod_int (x := y3) Try.underlying2 (by simpa [cells_int, cells_i64, Value.cells] using g3 : DataW.trod enc Try.prog W 0 (fun _ => true) true n 2 [c3] = some y3)
    clear g3
    obtain ⟨y4, hy4⟩ : ∃ y, xs[4]? = some y := ⟨xs[4], List.getElem?_eq_getElem (by omega)⟩
    have g4 := (hg 4 _ rfl).trans hy4
    obtain ⟨k4, e4, _, _⟩ := DataW.trod_int (x := y4) Try.underlying2 (by simpa [cells_int, cells_i64, Value.cells] using g4 : DataW.trod enc Try.prog W 0 (fun _ => true) true n 2 [c4] = some y4)
    clear g4
    obtain ⟨y5, hy5⟩ : ∃ y, xs[5]? = some y := ⟨xs[5], List.getElem?_eq_getElem (by omega)⟩
    have g5 := (hg 5 _ rfl).trans hy5
    obtain ⟨k5, e5, _, _⟩ := DataW.trod_int (x := y5) Try.underlying2 (by simpa [cells_int, cells_i64, Value.cells] using g5 : DataW.trod enc Try.prog W 0 (fun _ => true) true n 2 [c5] = some y5)
    clear g5
    obtain ⟨y6, hy6⟩ : ∃ y, xs[6]? = some y := ⟨xs[6], List.getElem?_eq_getElem (by omega)⟩
    have g6 := (hg 6 _ rfl).trans hy6
    obtain ⟨k6, e6, _, _⟩ := DataW.trod_int (x := y6) Try.underlying2 (by simpa [cells_int, cells_i64, Value.cells] using g6 : DataW.trod enc Try.prog W 0 (fun _ => true) true n 2 [c6] = some y6)
    clear g6
    obtain ⟨y7, hy7⟩ : ∃ y, xs[7]? = some y := ⟨xs[7], List.getElem?_eq_getElem (by omega)⟩
    have g7 := (hg 7 _ rfl).trans hy7
    obtain ⟨k7, e7, _, _⟩ := DataW.trod_int (x := y7) Try.underlying2 (by simpa [cells_int, cells_i64, Value.cells] using g7 : DataW.trod enc Try.prog W 0 (fun _ => true) true n 2 [c7] = some y7)
    clear g7
    obtain ⟨y8, hy8⟩ : ∃ y, xs[8]? = some y := ⟨xs[8], List.getElem?_eq_getElem (by omega)⟩
    have g8 := (hg 8 _ rfl).trans hy8
    obtain ⟨k8, e8, _, _⟩ := DataW.trod_int (x := y8) Try.underlying2 (by simpa [cells_int, cells_i64, Value.cells] using g8 : DataW.trod enc Try.prog W 0 (fun _ => true) true n 2 [c8] = some y8)
    clear g8
    obtain ⟨y9, hy9⟩ : ∃ y, xs[9]? = some y := ⟨xs[9], List.getElem?_eq_getElem (by omega)⟩
    have g9 := (hg 9 _ rfl).trans hy9
    obtain ⟨k9, e9, _, _⟩ := DataW.trod_int (x := y9) Try.underlying2 (by simpa [cells_int, cells_i64, Value.cells] using g9 : DataW.trod enc Try.prog W 0 (fun _ => true) true n 2 [c9] = some y9)
    clear g9
    obtain ⟨y10, hy10⟩ : ∃ y, xs[10]? = some y := ⟨xs[10], List.getElem?_eq_getElem (by omega)⟩
    have g10 := (hg 10 _ rfl).trans hy10
    obtain ⟨k10, e10, _, _⟩ := DataW.trod_int (x := y10) Try.underlying2 (by simpa [cells_int, cells_i64, Value.cells] using g10 : DataW.trod enc Try.prog W 0 (fun _ => true) true n 2 [c10] = some y10)
    clear g10
    obtain ⟨y11, hy11⟩ : ∃ y, xs[11]? = some y := ⟨xs[11], List.getElem?_eq_getElem (by omega)⟩
    have g11 := (hg 11 _ rfl).trans hy11
    obtain ⟨k11, e11, _, _⟩ := DataW.trod_int (x := y11) Try.underlying2 (by simpa [cells_int, cells_i64, Value.cells] using g11 : DataW.trod enc Try.prog W 0 (fun _ => true) true n 2 [c11] = some y11)
    clear g11
    obtain ⟨y12, hy12⟩ : ∃ y, xs[12]? = some y := ⟨xs[12], List.getElem?_eq_getElem (by omega)⟩
    have g12 := (hg 12 _ rfl).trans hy12
    obtain ⟨k12, e12, _, _⟩ := DataW.trod_int (x := y12) Try.underlying3 (by simpa [cells_int, cells_i64, Value.cells] using g12 : DataW.trod enc Try.prog W 0 (fun _ => true) true n 3 [c12] = some y12)
    clear g12
    obtain ⟨y13, hy13⟩ : ∃ y, xs[13]? = some y := ⟨xs[13], List.getElem?_eq_getElem (by omega)⟩
    have g13 := (hg 13 _ rfl).trans hy13
    obtain ⟨k13, e13, _, _⟩ := DataW.trod_int (x := y13) Try.underlying3 (by simpa [cells_int, cells_i64, Value.cells] using g13 : DataW.trod enc Try.prog W 0 (fun _ => true) true n 3 [c13] = some y13)
    clear g13
    obtain ⟨y14, hy14⟩ : ∃ y, xs[14]? = some y := ⟨xs[14], List.getElem?_eq_getElem (by omega)⟩
    have g14 := (hg 14 _ rfl).trans hy14
    obtain ⟨k14, e14, _, _⟩ := DataW.trod_int (x := y14) Try.underlying3 (by simpa [cells_int, cells_i64, Value.cells] using g14 : DataW.trod enc Try.prog W 0 (fun _ => true) true n 3 [c14] = some y14)
    clear g14
    obtain ⟨y15, hy15⟩ : ∃ y, xs[15]? = some y := ⟨xs[15], List.getElem?_eq_getElem (by omega)⟩
    have g15 := (hg 15 _ rfl).trans hy15
    obtain ⟨k15, e15, _, _⟩ := DataW.trod_int (x := y15) Try.underlying2 (by simpa [cells_int, cells_i64, Value.cells] using g15 : DataW.trod enc Try.prog W 0 (fun _ => true) true n 2 [c15] = some y15)
    clear g15
    simp only [List.cons.injEq, and_true] at e0 e1 e2 e3 e4 e5 e6 e7 e8 e9 e10 e11 e12 e13 e14 e15
    subst e0 e1 e2 e3 e4 e5 e6 e7 e8 e9 e10 e11 e12 e13 e14 e15
    exact ⟨⟨k0, k1, k2, k3, k4, k5, k6, k7, k8, k9, k10, k11, k12, k13, k14, k15⟩, rfl⟩

end Go.Proofs.Yteljalgfkmnamaa
