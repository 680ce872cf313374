/- PlanChecks, its walk. -/
import Derived.Test.YtdeiohcciafffaaLRefC
import Derived.Test.YtdeiohcciafffaaLater
namespace Go.Proofs.Ytdeiohcciafffaa
open Go.RowKit Go.Shelf

/-- A whole row read in a region that is walked quietly. -/
theorem quiet_load_row {P : Program} {C : World → Prop} {K : Act → Prop} {a : Act} {o : Oper} (ty : TypeId) (x : Operand) (ho : o.op = .load ty x) (g : Nat) (hx : a.eval x = .pointer (some ⟨g, 0, none⟩)) (t : TypeId) (cs : Array Value) (fr : Nat × Nat) (d : TypeDesc)
    (hrow : ∀ w, C w → w.heap[g]? = some (.cells cs t fr)) (hu : P.underlying ty = some d) (hd : (match d with | .struct _ | .array _ _ => true | _ => false) = true) (hi : (P.info? ty).map (·.size) = some cs.size) (hk : K (a.put o.dst (.agg cs))) : o.quiet P a C K :=
  ⟨.agg cs, fun w hw => by
    unfold Oper.quietAt execOp
    simp only [ho, hx, Instr.loadAt, Instr.sureAddr, Sem.run_bind, Sem.run_pure, Result.andThen_ok, run_loadVar_row w g t ty cs fr d (hrow w hw) hu hd hi]
    exact ⟨rfl, rfl⟩, hk⟩
theorem later_row {W : World} {g : Nat} {t : TypeId} {cs : Array Value} (h : Whole W g t cs) : ∀ w, (∃ y : Later W, w = y.at_) → w.heap[g]? = some (.cells cs t (0, 0)) := by
  rintro _ ⟨y, rfl⟩
  exact h.below y.below h.lt

end Go.Proofs.Ytdeiohcciafffaa
