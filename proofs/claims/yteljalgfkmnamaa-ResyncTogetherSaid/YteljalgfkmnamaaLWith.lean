/- The document's With, by a contract: where the wishes may be, and the slot's length is none that runs over. -/
import Derived.Test.YteljalgfkmnamaaLRefC
import Derived.Deep.DeepCutAuto
namespace Go.Proofs.Yteljalgfkmnamaa
open Go.RowKit Go.Shelf

/-- The wishes alone, and a slot's length. -/
def wishL (x : Pl) (l : Int) : Pl := ⟨x.nodes, x.kk, l, 0, 0, x.air, x.dmin, x.dmax, x.rho, 0, 0, 0, x.queue, x.burst, x.payload, 0⟩
/-- .. and the least of all that goes with it. -/
def withL (x : Pl) (l : Int) : Pl :=
  let y := wishL x l
  ⟨x.nodes, x.kk, l, lPi y + eL y + lCap y + lPi y, lPi y + eL y, x.air, x.dmin, x.dmax, x.rho, lPi y, lCap y, (frL y + 3) * rdL y + 2 * lPi y, x.queue, x.burst, x.payload, 40 * rdL y⟩

def zeroL : Pl := ⟨0, 0, 0, 0, 0, 0, 0, 0, 0, 0, 0, 0, 0, 0, 0, 0⟩
theorem below_setRow {n : Nat} {a b : World} {g : Nat} {cs : Array Value} (h : Below n a b) (hg : n ≤ g) : Below n a (b.setRow g cs) :=
  ⟨h.os, h.tape, h.output, by simpa using h.size, fun i hi => (setRow_other b g i cs (by omega)).trans (h.block i hi)⟩
/-- The three blocks that With lays. -/
theorem frame3 (x : Pl) (l : Int) (w : World) :
    Below w.heap.size w (((w.alloc (.cells x.cells 23)).alloc (.cells zeroL.cells 23)).alloc (.cells (wishL x l).cells 23)) ∧
    Whole (((w.alloc (.cells x.cells 23)).alloc (.cells zeroL.cells 23)).alloc (.cells (wishL x l).cells 23)) (w.heap.size + 1) 23 zeroL.cells ∧
    Whole (((w.alloc (.cells x.cells 23)).alloc (.cells zeroL.cells 23)).alloc (.cells (wishL x l).cells 23)) (w.heap.size + 1 + 1) 23 (wishL x l).cells := by
  have hz := (Whole.new (w.alloc (.cells x.cells 23)) 23 zeroL.cells).alloc (.cells (wishL x l).cells 23)
  have hd := Whole.new ((w.alloc (.cells x.cells 23)).alloc (.cells zeroL.cells 23)) 23 (wishL x l).cells
  simp only [World.size_alloc] at hz hd
  exact ⟨((((Below.refl w.heap.size w).alloc (Nat.le_refl _) _).alloc (by simp) _).alloc (by simp; omega) _), hz, hd⟩

/-- Six stores into the block, none into the one ahead of it. -/
theorem six {w w1 : World} {b : Nat} {t : TypeId} {cs zs : Array Value} (hd : Whole w1 (b + 1) t cs) (hz : Whole w1 b t zs) (hb : Below w.heap.size w w1) (hl : w.heap.size ≤ b) (u1 u2 u3 u4 u5 u6 : Value) :
    Whole (((((((w1.setCell ⟨b + 1, 9, none⟩ u1).setCell ⟨b + 1, 4, none⟩ u2).setCell ⟨b + 1, 10, none⟩ u3).setCell ⟨b + 1, 3, none⟩ u4).setCell ⟨b + 1, 11, none⟩ u5).setCell ⟨b + 1, 15, none⟩ u6)) (b + 1) t
      ((((((cs.setIfInBounds 9 u1).setIfInBounds 4 u2).setIfInBounds 10 u3).setIfInBounds 3 u4).setIfInBounds 11 u5).setIfInBounds 15 u6) ∧
    Whole (((((((w1.setCell ⟨b + 1, 9, none⟩ u1).setCell ⟨b + 1, 4, none⟩ u2).setCell ⟨b + 1, 10, none⟩ u3).setCell ⟨b + 1, 3, none⟩ u4).setCell ⟨b + 1, 11, none⟩ u5).setCell ⟨b + 1, 15, none⟩ u6)) b t zs ∧
    Below w.heap.size w (((((((w1.setCell ⟨b + 1, 9, none⟩ u1).setCell ⟨b + 1, 4, none⟩ u2).setCell ⟨b + 1, 10, none⟩ u3).setCell ⟨b + 1, 3, none⟩ u4).setCell ⟨b + 1, 11, none⟩ u5).setCell ⟨b + 1, 15, none⟩ u6)) := by
  have h : b ≠ b + 1 := by omega
  have hp : ∀ i, w.heap.size ≤ (⟨b + 1, i, none⟩ : Addr).block := fun i => by show _ ≤ b + 1; omega
  exact ⟨(((((hd.set 9 _).set 4 _).set 10 _).set 3 _).set 11 _).set 15 _, (((((hz.far h _).far h _).far h _).far h _).far h _).far h _, (((((hb.setCell (hp 9) _).setCell (hp 4) _).setCell (hp 10) _).setCell (hp 3) _).setCell (hp 11) _).setCell (hp 15) _⟩

end Go.Proofs.Yteljalgfkmnamaa
