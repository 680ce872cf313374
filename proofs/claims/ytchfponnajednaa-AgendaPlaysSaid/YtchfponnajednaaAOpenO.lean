/- An argument that is a slice of calls, opened. -/
import Derived.Test.YtchfponnajednaaAOpen
namespace Go.Proofs.Ytchfponnajednaa
open Go.ChangeShapes Go.WideShapes Go.ChangeAt Go.RowKit Go.Deep

/-- A call: its kind, and its event. -/
structure OpE where
  o : Int
  x : Ev
instance : Inhabited OpE := ⟨⟨0, default⟩⟩
def OpE.cells (q : OpE) : List Value := [.int .i64 q.o, .int .i64 q.x.t, .int .i64 q.x.k, .int .i64 q.x.n, .int .i64 q.x.m, .int .i64 q.x.v]
/-- The slice with address A, of n calls, reads as os. -/
def OSrc (w : World) (A : Option Addr) (n : Nat) (os : List OpE) : Prop :=
  os.length = n ∧ (0 < n → ∃ g o, A = some ⟨g, o, none⟩ ∧ ∀ i x, os[i]? = some x → w.rangeAt g (o + i * 6) x.cells)
theorem OSrc.kept {S : Nat → Prop} {w w' : World} {A : Option Addr} {n : Nat} {os : List OpE} (h : OSrc w A n os) (hk : Kept S w w') (hS : ∀ ad, A = some ad → ¬ S ad.block) : OSrc w' A n os :=
  ⟨h.1, fun hn => by
    obtain ⟨g, o, e, hc⟩ := h.2 hn
    exact ⟨g, o, e, fun i x hx j v hv => hk.cell (hc i x hx j v hv) (show ¬ S g from hS ⟨g, o, none⟩ e)⟩⟩
theorem OSrc.later {w w' : World} {A : Option Addr} {n : Nat} {os : List OpE} (h : OSrc w A n os) (hb : Below w.heap.size w w') : OSrc w' A n os := h.kept (Kept.of_below hb Empty) (fun _ _ h => h)
theorem OSrc.at_ {w : World} {A : Option Addr} {n : Nat} {os : List OpE} (h : OSrc w A n os) {i : Nat} (hi : i < n) : ∃ g o, A = some ⟨g, o, none⟩ ∧ w.rangeAt g (o + i * 6) (os.getD i default).cells := by
  obtain ⟨g, o, e, hc⟩ := h.2 (by omega)
  exact ⟨g, o, e, hc i _ (by rw [List.getD_eq_getElem?_getD, List.getElem?_eq_getElem (by rw [h.1]; exact hi)]; rfl)⟩
/-- The six cells of a call. -/
theorem op_cells {w : World} {g o : Nat} {q : OpE} (h : w.rangeAt g o q.cells) :
    w.cell? ⟨g, o, none⟩ = some (.int .i64 q.o) ∧ w.cell? ⟨g, o + 1, none⟩ = some (.int .i64 q.x.t) ∧ w.cell? ⟨g, o + 2, none⟩ = some (.int .i64 q.x.k) ∧ w.cell? ⟨g, o + 3, none⟩ = some (.int .i64 q.x.n) ∧
    w.cell? ⟨g, o + 4, none⟩ = some (.int .i64 q.x.m) ∧ w.cell? ⟨g, o + 5, none⟩ = some (.int .i64 q.x.v) :=
  ⟨h 0 _ rfl, h 1 _ rfl, h 2 _ rfl, h 3 _ rfl, h 4 _ rfl, h 5 _ rfl⟩
theorem cells_op : Try.prog.cellsOf 38 = 6 := by kernel_rfl

set_option maxRecDepth 100000 in
/-- A slice of calls, opened. -/
theorem open_ops {H : Type} {enc : TypeId × Value → H} {W : World} {r : Reach} {b0 : Nat} {v : Value} {d : DataW H} {p : List MemPlace} (hv : Value.okWide Try.prog W r b0 22 v) (h : DataW.Trod enc Try.prog W 0 (fun _ => true) true 22 v d p) :
    ∃ A n c os, v = .slice A n c ∧ OSrc W A n os ∧ n ≤ 9223372036854775807 := by
  obtain ⟨a0, len, cap, rfl⟩ := okWide_slice Try.underlying22 hv
  obtain ⟨fuel, hf⟩ := h
  rcases open_slice Try.underlying22 hf with ⟨hcs, _⟩ | ⟨a, l, c, m, n, D, Pl, hcs, _, hl, hm, hmm, hx, hi⟩
  · simp [Value.cells] at hcs
    obtain ⟨rfl, rfl, rfl⟩ := hcs
    exact ⟨none, 0, 0, [], rfl, ⟨rfl, fun h => absurd h (by omega)⟩, by omega⟩
  · simp [Value.cells] at hcs
    obtain ⟨rfl, rfl, rfl⟩ := hcs
    have hmc : m = cap := by rw [hmm, if_pos rfl]
    subst hmc
    have each : ∀ i, i < len → ∃ x : OpE, ∀ b o, a = ⟨b, o, none⟩ → W.rangeAt b (o + i * 6) x.cells := fun i hil => by
      obtain ⟨cs, hc, ht⟩ := hi i (by omega)
      rw [cells_op] at hc
      obtain ⟨_, hcl, hat⟩ := World.cells?_some hc
      obtain ⟨ys, n', _, hy, _, hyl, hfld⟩ := DataW.trod_struct Try.underlying38 ht
      match cs, hcl, ys, hyl with
      | [cz, c0, c1, c2, c3, c4], _, [yz, yx], _ =>
        have fz : DataW.trod enc Try.prog W 0 (fun _ => true) true n' 3 [cz] = some yz := by simpa [cells_int, cells_event] using hfld 0 _ rfl
        have fx : DataW.trod enc Try.prog W 0 (fun _ => true) true n' 36 [c0, c1, c2, c3, c4] = some yx := by simpa [cells_int, cells_event] using hfld 1 _ rfl
        obtain ⟨zs, n2, _, hz, _, hzl, hfl2⟩ := DataW.trod_struct Try.underlying36 fx
        match zs, hzl with
        | [y0, y1, y2, y3, y4], _ =>
          have f0 : DataW.trod enc Try.prog W 0 (fun _ => true) true n2 2 [c0] = some y0 := by simpa [cells_int, cells_int64] using hfl2 0 _ rfl
          have f1 : DataW.trod enc Try.prog W 0 (fun _ => true) true n2 3 [c1] = some y1 := by simpa [cells_int, cells_int64] using hfl2 1 _ rfl
          have f2 : DataW.trod enc Try.prog W 0 (fun _ => true) true n2 3 [c2] = some y2 := by simpa [cells_int, cells_int64] using hfl2 2 _ rfl
          have f3 : DataW.trod enc Try.prog W 0 (fun _ => true) true n2 3 [c3] = some y3 := by simpa [cells_int, cells_int64] using hfl2 3 _ rfl
          have f4 : DataW.trod enc Try.prog W 0 (fun _ => true) true n2 2 [c4] = some y4 := by simpa [cells_int, cells_int64] using hfl2 4 _ rfl
          obtain ⟨kz, ez, _, _⟩ := DataW.trod_int Try.underlying3 fz
          obtain ⟨k0, e0, _, _⟩ := DataW.trod_int Try.underlying2 f0
          obtain ⟨k1, e1, _, _⟩ := DataW.trod_int Try.underlying3 f1
          obtain ⟨k2, e2, _, _⟩ := DataW.trod_int Try.underlying3 f2
          obtain ⟨k3, e3, _, _⟩ := DataW.trod_int Try.underlying3 f3
          obtain ⟨k4, e4, _, _⟩ := DataW.trod_int Try.underlying2 f4
          simp at ez e0 e1 e2 e3 e4
          subst ez e0 e1 e2 e3 e4
          refine ⟨⟨kz, ⟨k0, k1, k2, k3, k4⟩⟩, fun b o e => ?_⟩
          subst e
          intro j v hj
          have hjl : j < 6 := by have := (List.getElem?_eq_some_iff.1 hj).1; simpa [OpE.cells] using this
          have g := hat j hjl
          simp only [plain_add] at g
          rw [g]
          exact hj
    obtain ⟨xs, hxl, hxs⟩ := list_of len each
    refine ⟨some a, len, m, xs, rfl, ⟨hxl, fun h0 => ?_⟩, by simp only [maxLen] at hm; omega⟩
    obtain ⟨cs, hc, _⟩ := hi 0 (by omega)
    rw [cells_op] at hc
    obtain ⟨_, hcl, hat⟩ := World.cells?_some hc
    obtain ⟨b, off, spot⟩ := a
    have h00 := hat 0 (by omega)
    rw [List.getElem?_eq_getElem (by omega)] at h00
    have hspot : spot = none := by simpa [Addr.add] using World.cell?_spot h00
    subst hspot
    refine ⟨b, off, rfl, fun i x hx => ?_⟩
    obtain ⟨hil, rfl⟩ := List.getElem?_eq_some_iff.1 hx
    exact hxs i hil b off rfl
end Go.Proofs.Ytchfponnajednaa
