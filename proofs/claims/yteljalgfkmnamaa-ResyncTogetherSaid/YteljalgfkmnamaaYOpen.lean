/- What resync's laws are given, opened: a plan, what was done, numbers, rows of numbers. No condition. -/
import Derived.Test.YteljalgfkmnamaaYRows
import Derived.Test.YteljalgfkmnamaaLOpen
import Derived.ChangeArms
namespace Go.Proofs.Yteljalgfkmnamaa
open Go.ChangeShapes Go.WideShapes Go.ChangeAt Go.RowKit Go.Deep Go.Joins

theorem cells_bool : Try.prog.cellsOf 4 = 1 := by kernel_rfl
theorem cells_sync : Try.prog.cellsOf 25 = 4 := by kernel_rfl
theorem cells_longs : Try.prog.cellsOf 26 = 1 := by kernel_rfl
set_option maxRecDepth 100000 in
theorem open_longs {H : Type} {enc : TypeId × Value → H} {W : World} {base : Nat} {v : Value} {d : DataW H} {p : List MemPlace} (hv : Value.okWide Try.prog W .any base 26 v) (h : DataW.Trod enc Try.prog W 0 (fun _ => true) true 26 v d p) :
    ∃ s os, v = Sl.v s ∧ RSrc inC 1 W s os := by
  obtain ⟨A, n, c, rfl⟩ := okWide_slice Try.underlying26 hv
  obtain ⟨fuel, hf⟩ := h
  obtain ⟨s, xs, e, r, _⟩ := open_rows (cells := inC) (Q := fun _ => True) Try.underlying26 cells_i64 (by decide) (fun _ => rfl) (fun n cs y hl h => by
    obtain ⟨k, e, _, _⟩ := DataW.trod_int Try.underlying2 h
    exact ⟨k, e, trivial⟩) hf
  simp [Value.cells] at e
  exact ⟨s, xs, e, r⟩
set_option maxRecDepth 100000 in
theorem open_many {H : Type} {enc : TypeId × Value → H} {W : World} {base : Nat} {v : Value} {d : DataW H} {p : List MemPlace} (hv : Value.okWide Try.prog W .any base 27 v) (h : DataW.Trod enc Try.prog W 0 (fun _ => true) true 27 v d p) :
    ∃ s ss L, v = Sl.v s ∧ Rws W s ss L := by
  obtain ⟨A, n, c, rfl⟩ := okWide_slice Try.underlying27 hv
  obtain ⟨fuel, hf⟩ := h
  obtain ⟨s, xs, e, r, q⟩ := open_rows (cells := slC) (Q := fun s => ∃ l, RSrc inC 1 W s l) Try.underlying27 cells_longs (by decide) (fun _ => rfl) (fun n cs y hl h => by
    obtain ⟨s, xs, e, r, _⟩ := open_rows (cells := inC) (Q := fun _ => True) Try.underlying26 cells_i64 (by decide) (fun _ => rfl) (fun n cs y hl h => by
      obtain ⟨k, e, _, _⟩ := DataW.trod_int Try.underlying2 h
      exact ⟨k, e, trivial⟩) h
    exact ⟨s, e, xs, r⟩) hf
  simp [Value.cells] at e
  obtain ⟨L, hl, hL⟩ := list_of (P := fun i l => RSrc inC 1 W (xs.getD i default) l) xs.length (fun i hi => q _ (by rw [List.getD_eq_getElem?_getD, List.getElem?_eq_getElem hi]; exact List.getElem_mem hi))
  exact ⟨s, xs, L, e, r, hl, fun i hi => by
    have := hL i (by omega)
    rw [List.getD_eq_getElem?_getD (l := L), List.getElem?_eq_getElem (by omega)]
    exact this⟩
set_option maxRecDepth 100000 in
set_option maxHeartbeats 4000000 in
theorem open_sync {H : Type} {enc : TypeId × Value → H} {W : World} {base : Nat} {v : Value} {d : DataW H} {p : List MemPlace} (hv : Value.okWide Try.prog W .any base 25 v) (h : DataW.Trod enc Try.prog W 0 (fun _ => true) true 25 v d p) :
    ∃ y : Sy, v = y.v := by
  obtain ⟨cs, rfl, hsz⟩ := okWide_struct Try.underlying25 hv
  obtain ⟨l⟩ := cs
  match l, hsz.trans cells_sync with
  | [c0, c1, c2, c3], _ =>
    obtain ⟨fuel, hf⟩ := h
    obtain ⟨xs, n, _, hx, _, hlen, hg⟩ := DataW.trod_struct Try.underlying25 hf
    clear hx hf hv hsz
    have hlen : xs.length = 4 := hlen
    obtain ⟨y0, hy0⟩ : ∃ y, xs[0]? = some y := ⟨xs[0], List.getElem?_eq_getElem (by omega)⟩
    have g0 := (hg 0 _ rfl).trans hy0
    obtain ⟨k0, e0, _, _⟩ := DataW.trod_int (x := y0) Try.underlying3 (by simpa [cells_int, cells_i64, cells_bool, Value.cells] using g0 : DataW.trod enc Try.prog W 0 (fun _ => true) true n 3 [c0] = some y0)
    clear g0
    obtain ⟨y1, hy1⟩ : ∃ y, xs[1]? = some y := ⟨xs[1], List.getElem?_eq_getElem (by omega)⟩
    have g1 := (hg 1 _ rfl).trans hy1
    obtain ⟨k1, e1, _, _⟩ := DataW.trod_int (x := y1) Try.underlying3 (by simpa [cells_int, cells_i64, cells_bool, Value.cells] using g1 : DataW.trod enc Try.prog W 0 (fun _ => true) true n 3 [c1] = some y1)
    clear g1
    obtain ⟨y2, hy2⟩ : ∃ y, xs[2]? = some y := ⟨xs[2], List.getElem?_eq_getElem (by omega)⟩
    have g2 := (hg 2 _ rfl).trans hy2
    obtain ⟨k2, e2, _, _⟩ := DataW.trod_int (x := y2) Try.underlying2 (by simpa [cells_int, cells_i64, cells_bool, Value.cells] using g2 : DataW.trod enc Try.prog W 0 (fun _ => true) true n 2 [c2] = some y2)
    clear g2
    obtain ⟨y3, hy3⟩ : ∃ y, xs[3]? = some y := ⟨xs[3], List.getElem?_eq_getElem (by omega)⟩
    have g3 := (hg 3 _ rfl).trans hy3
    obtain ⟨k3, e3, _⟩ := DataW.trod_bool (x := y3) Try.underlying4 (by simpa [cells_int, cells_i64, cells_bool, Value.cells] using g3 : DataW.trod enc Try.prog W 0 (fun _ => true) true n 4 [c3] = some y3)
    clear g3
    simp only [List.cons.injEq, and_true] at e0 e1 e2 e3
    subst e0 e1 e2 e3
    exact ⟨⟨k0, k1, k2, k3⟩, rfl⟩
end Go.Proofs.Yteljalgfkmnamaa
