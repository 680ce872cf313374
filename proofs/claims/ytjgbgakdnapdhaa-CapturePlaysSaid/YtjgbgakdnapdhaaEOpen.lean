/- What capture's laws are given, opened: a slice of calls. No condition. -/
import Derived.Test.YtjgbgakdnapdhaaRow
namespace Go.Proofs.Ytjgbgakdnapdhaa
open Go.ChangeShapes Go.WideShapes Go.ChangeAt Go.RowKit Go.Deep Go.Joins

/-- A law's call. -/
structure Oe where
  k : Int
  n : Int
  c : Int
  v : Int
deriving DecidableEq
instance : Inhabited Oe := ⟨⟨0, 0, 0, 0⟩⟩
def oeC (o : Oe) : List Value := [.int .i64 o.k, .int .i64 o.n, .int .i64 o.c, .int .i64 o.v]
theorem oeC_cells {w : World} {g o : Nat} {x : Oe} (h : w.rangeAt g o (oeC x)) : w.cell? ⟨g, o, none⟩ = some (.int .i64 x.k) ∧ w.cell? ⟨g, o + 1, none⟩ = some (.int .i64 x.n) ∧ w.cell? ⟨g, o + 2, none⟩ = some (.int .i64 x.c) ∧ w.cell? ⟨g, o + 3, none⟩ = some (.int .i64 x.v) := ⟨h 0 _ rfl, h 1 _ rfl, h 2 _ rfl, h 3 _ rfl⟩
theorem oeC_one : ∀ (d : Oe), ∀ u ∈ oeC d, u.oneCell' = true := by
  intro d u hu
  simp only [oeC, List.mem_cons, List.not_mem_nil, or_false] at hu
  rcases hu with rfl | rfl | rfl | rfl <;> rfl
theorem cells_i64 : Try.prog.cellsOf 2 = 1 := by kernel_rfl
theorem cells_int : Try.prog.cellsOf 3 = 1 := by kernel_rfl
theorem cells_oe : Try.prog.cellsOf 40 = 4 := by kernel_rfl
section
variable {H : Type} {enc : TypeId × Value → H} {W : World} {n : Nat} {cs : List Value} {y : DataW H × List MemPlace}
theorem trod_i64 (h : DataW.trod enc Try.prog W 0 (fun _ => true) true n 2 cs = some y) : ∃ a : Int, cs = [.int .i64 a] := by
  obtain ⟨k, e, _, _⟩ := DataW.trod_int Try.underlying2 h
  exact ⟨k, e⟩
theorem trod_int' (h : DataW.trod enc Try.prog W 0 (fun _ => true) true n 3 cs = some y) : ∃ a : Int, cs = [.int .i64 a] := by
  obtain ⟨k, e, _, _⟩ := DataW.trod_int Try.underlying3 h
  exact ⟨k, e⟩
set_option maxRecDepth 100000 in
theorem trod_oe (hl : cs.length = 4) (h : DataW.trod enc Try.prog W 0 (fun _ => true) true n 40 cs = some y) : ∃ a, cs = oeC a := by
  obtain ⟨ys, n', _, hy, _, hyl, hfld⟩ := DataW.trod_struct Try.underlying40 h
  match cs, hl, ys, hyl with
  | [c0, c1, c2, c3], _, [y0, y1, y2, y3], _ =>
    have f0 : DataW.trod enc Try.prog W 0 (fun _ => true) true n' 3 [c0] = some y0 := by simpa [cells_i64, cells_int] using hfld 0 _ rfl
    have f1 : DataW.trod enc Try.prog W 0 (fun _ => true) true n' 3 [c1] = some y1 := by simpa [cells_i64, cells_int] using hfld 1 _ rfl
    have f2 : DataW.trod enc Try.prog W 0 (fun _ => true) true n' 3 [c2] = some y2 := by simpa [cells_i64, cells_int] using hfld 2 _ rfl
    have f3 : DataW.trod enc Try.prog W 0 (fun _ => true) true n' 2 [c3] = some y3 := by simpa [cells_i64, cells_int] using hfld 3 _ rfl
    obtain ⟨k0, e0⟩ := trod_int' f0
    obtain ⟨k1, e1⟩ := trod_int' f1
    obtain ⟨k2, e2⟩ := trod_int' f2
    obtain ⟨k3, e3⟩ := trod_i64 f3
    simp at e0 e1 e2 e3
    subst e0 e1 e2 e3
    exact ⟨⟨k0, k1, k2, k3⟩, rfl⟩
end
set_option maxRecDepth 100000 in
/-- The slice is opened. -/
theorem open_oes {H : Type} {enc : TypeId × Value → H} {W : World} {base : Nat} {v : Value} {d : DataW H} {p : List MemPlace} (hv : Value.okWide Try.prog W .any base 22 v) (h : DataW.Trod enc Try.prog W 0 (fun _ => true) true 22 v d p) :
    ∃ s os, v = Sl.v s ∧ RSrc oeC 4 W s os := by
  obtain ⟨A, n, c, rfl⟩ := okWide_slice Try.underlying22 hv
  obtain ⟨fuel, hf⟩ := h
  obtain ⟨s, xs, e, r, _⟩ := open_rows (cells := oeC) (Q := fun _ => True) Try.underlying22 cells_oe (by decide) (fun _ => rfl) (fun n cs y hl h => by obtain ⟨a, e⟩ := trod_oe hl h; exact ⟨a, e, trivial⟩) hf
  simp [Value.cells] at e
  exact ⟨s, xs, e, r⟩
end Go.Proofs.Ytjgbgakdnapdhaa
