/- write, a call of an Out, by a contract. -/
import Derived.Test.YtnpjldolppikfaaPutb
import Derived.Test.YtnpjldolppikfaaAlive
import Derived.Test.YtnpjldolppikfaaOps
namespace Go.Proofs.Ytnpjldolppikfaa
open Go.RowKit

/-- What a call makes of an Out. -/
def writeSt (st : Option (List UInt8)) (x : OpD) : Option (List UInt8) := if x.kind = 0 then putSt st x.n x.v else if x.kind = 1 then st.map (· ++ x.b) else st

/-- What is left of an Out behind a call that answers nothing. -/
def Done0 (w : World) (S : Nat → Prop) (a : Nat) (st : Option (List UInt8)) (e : Ending) (w' : World) : Prop :=
  e = .returned (.tuple #[]) ∧ OutAt w' (Grow S w w') a st ∧ Kept S w w'

theorem Turned.later {w w0 w1 : World} {S : Nat → Prop} {a : Nat} {st : Option (List UInt8)} {e : Ending} (hlt : ∀ k, S k → k < w.heap.size) (k0 : Kept Empty w w0) (h : Turned w0 S a st e w1) : OutAt w1 (Grow S w w1) a st ∧ Kept S w w1 := by
  obtain ⟨_, h1, h2⟩ := h
  have hk : Kept S w w1 := (k0.mono (fun _ h => h.elim)).trans h2 (fun _ _ h => h)
  refine ⟨h1.more (fun k hg => ?_) (Grow.lt hlt hk.size), hk⟩
  rcases hg with hg | hg
  · exact .inl hg
  · exact .inr ⟨Nat.le_trans k0.size hg.1, hg.2⟩

end Go.Proofs.Ytnpjldolppikfaa
