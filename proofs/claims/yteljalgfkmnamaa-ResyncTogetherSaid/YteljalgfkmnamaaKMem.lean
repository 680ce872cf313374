/- Words for a doubt (a function value that answers a Bool, whatever was laid since) and for a clock's box. No condition. -/
import Derived.Test.YteljalgfkmnamaaProg
import Derived.Test.YteljalgfkmnamaaMem
import Derived.BigQuiet
import Derived.Deep.QuietTactic
import Derived.Deep.RegionHeld3
import Derived.LoopTactic
import Derived.Shelf.Abstract
import Derived.Handy
import Derived.Laws.EntriesVeiled
namespace Go.Proofs.Yteljalgfkmnamaa
open Go.RowKit Go.Shelf

theorem k_later {w w' : World} {g : Nat} {t : TypeId} {cs : Array Value} (hk : Below w.heap.size w w') (h : Whole w g t cs) : Whole w' g t cs := h.below hk h.lt
theorem k_then {a b c : World} (h2 : Below b.heap.size b c) (h1 : Below a.heap.size a b) : Below a.heap.size a c := h1.trans (h2.mono h1.size)
theorem k_cell {w w' : World} (hk : Below w.heap.size w w') {p : Addr} {v : Value} (h : w.cell? p = some v) : w'.cell? p = some v :=
  (hk.cell (World.block_lt_of_cell? w p h)).trans h

/-- v is a function value that, called in whatever world is a later one than w, answers b, and writes nothing that was there. -/
def Doubt (P : Program) (w : World) (v : Value) (b : Bool) : Prop :=
  ∃ (k : FuncId) (cap : Array Value), v = .func (.func k) #[] cap ∧ Enters P k ∧ ∀ W, Below w.heap.size w W → Calls P k cap W fun e W' => e = .returned (.bool b) ∧ Below W.heap.size W W'
theorem Doubt.later {P : Program} {w w' : World} {v : Value} {b : Bool} (h : Doubt P w v b) (hk : Below w.heap.size w w') : Doubt P w' v b := by
  obtain ⟨k, cap, rfl, he, hc⟩ := h
  exact ⟨k, cap, rfl, he, fun W hW => hc W (hk.trans (hW.mono hk.size))⟩

theorem Doubt.open {P : Program} {w : World} {v : Value} {b : Bool} (h : Doubt P w v b) : ∃ (k : FuncId) (cap : Array Value), v = .func (.func k) #[] cap := by
  obtain ⟨k, cap, h, _⟩ := h
  exact ⟨k, cap, h⟩

/-- A clock. -/
def ck (n d o j : Int) : Value := .agg #[.int .i64 n, .int .i64 d, .int .i64 o, .int .i64 j]
/-- A block of one number. -/
theorem k_one {w : World} {g : Nat} {t : TypeId} {a : Value} (h : Whole w g t #[a]) : w.cell? ⟨g, 0, none⟩ = some a ∧ ∀ i, w.frozen? ⟨g, i, none⟩ = false := ⟨h.cell 0, h.frozen⟩
theorem k_two {w : World} {g : Nat} {t : TypeId} {a b : Value} (h : Whole w g t #[a, b]) : w.cell? ⟨g, 0, none⟩ = some a ∧ w.cell? ⟨g, 1, none⟩ = some b ∧ ∀ i, w.frozen? ⟨g, i, none⟩ = false := ⟨h.cell 0, h.cell 1, h.frozen⟩
theorem k_four {w : World} {g : Nat} {t : TypeId} {a b c d : Value} (h : Whole w g t #[a, b, c, d]) :
    w.cell? ⟨g, 0, none⟩ = some a ∧ w.cell? ⟨g, 1, none⟩ = some b ∧ w.cell? ⟨g, 2, none⟩ = some c ∧ w.cell? ⟨g, 3, none⟩ = some d ∧ ∀ i, w.frozen? ⟨g, i, none⟩ = false :=
  ⟨h.cell 0, h.cell 1, h.cell 2, h.cell 3, h.frozen⟩

end Go.Proofs.Yteljalgfkmnamaa
