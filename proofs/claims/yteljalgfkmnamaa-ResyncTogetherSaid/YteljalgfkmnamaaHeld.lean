/- Blocks that lie whole, all at once, and all that was there as it was: words for a law's walk. No condition. -/
import Derived.Test.YteljalgfkmnamaaKMem
namespace Go.Proofs.Yteljalgfkmnamaa
open Go.RowKit

/-- All that was in w0 is as it was; each of these blocks is whole. -/
def Held (w0 : World) (l : List (Nat × TypeId × Array Value)) (W : World) : Prop := Below w0.heap.size w0 W ∧ ∀ x ∈ l, Whole W x.1 x.2.1 x.2.2
theorem held_start (w : World) : Held w [] w := ⟨Below.refl _ _, fun _ h => by cases h⟩
theorem held_later {w0 W W' : World} {l : List (Nat × TypeId × Array Value)} (h : Below W.heap.size W W') (k : Held w0 l W) : Held w0 l W' := ⟨k_then h k.1, fun x hx => k_later h (k.2 x hx)⟩
theorem held_new {w0 W : World} {l : List (Nat × TypeId × Array Value)} (k : Held w0 l W) (t : TypeId) (cs : Array Value) : Held w0 (l ++ [(W.heap.size, t, cs)]) (W.alloc (.cells cs t)) := by
  refine ⟨k.1.alloc k.1.size _, fun x hx => ?_⟩
  rcases List.mem_append.1 hx with h | h
  · exact (k.2 x h).alloc _
  · obtain rfl : x = (W.heap.size, t, cs) := by simpa using h
    exact Whole.new W t cs
theorem held_drew {w0 W : World} {l : List (Nat × TypeId × Array Value)} (k : Held w0 l W) (n : Nat) : Held w0 l (W.drewN n) := ⟨below_drewN k.1 n, fun x hx => (k.2 x hx)⟩
theorem held_y {w0 W : World} {l : List (Nat × TypeId × Array Value)} (k : Held w0 l W) {y : World} (h : Below W.heap.size W y) : Held w0 l y := held_later h k
section
variable {w0 W : World} {a b c d e f : Nat × TypeId × Array Value} {l : List (Nat × TypeId × Array Value)}
theorem held1 (k : Held w0 (a :: l) W) : Whole W a.1 a.2.1 a.2.2 := k.2 _ (by simp)
theorem held2 (k : Held w0 (a :: b :: l) W) : Whole W b.1 b.2.1 b.2.2 := k.2 _ (by simp)
theorem held3 (k : Held w0 (a :: b :: c :: l) W) : Whole W c.1 c.2.1 c.2.2 := k.2 _ (by simp)
theorem held4 (k : Held w0 (a :: b :: c :: d :: l) W) : Whole W d.1 d.2.1 d.2.2 := k.2 _ (by simp)
theorem held5 (k : Held w0 (a :: b :: c :: d :: e :: l) W) : Whole W e.1 e.2.1 e.2.2 := k.2 _ (by simp)
theorem held6 (k : Held w0 (a :: b :: c :: d :: e :: f :: l) W) : Whole W f.1 f.2.1 f.2.2 := k.2 _ (by simp)
theorem held7 {g : Nat × TypeId × Array Value} (k : Held w0 (a :: b :: c :: d :: e :: f :: g :: l) W) : Whole W g.1 g.2.1 g.2.2 := k.2 _ (by simp)
theorem held8 {g h : Nat × TypeId × Array Value} (k : Held w0 (a :: b :: c :: d :: e :: f :: g :: h :: l) W) : Whole W h.1 h.2.1 h.2.2 := k.2 _ (by simp)
end
end Go.Proofs.Yteljalgfkmnamaa
