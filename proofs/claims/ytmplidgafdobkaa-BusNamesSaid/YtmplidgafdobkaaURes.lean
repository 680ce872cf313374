/- A row written whole, and handed back; words. No condition. -/
import Derived.Test.YtmplidgafdobkaaUSpr
import Derived.StillTailTactics
import Derived.Deep.RegionHeld3
import Derived.Deep.DeepCutAuto
namespace Go.Proofs.Ytmplidgafdobkaa
open Go.RowKit Go.Shelf

section
variable {P : Program} {fn : Func} {p q r : Tmp} {ty : TypeId}
theorem u_results0 (h : fn.results = #[.cell p ty]) (tmps : Array Value) (w : World) (g : Nat) (t : TypeId) (cs : Array Value) (fr : Nat × Nat) (d : TypeDesc)
    (hp : tmps.getD p undef = .pointer (some ⟨g, 0, none⟩)) (hg : w.heap[g]? = some (.cells cs t fr)) (hu : P.underlying ty = some d) (hd : (match d with | .struct _ | .array _ _ => true | _ => false) = true) (hi : (P.info? ty).map (·.size) = some cs.size) :
    (results fn tmps).run P w = .ok (.agg cs) w := by
  have hp' : tmps[p]?.getD undef = .pointer (some ⟨g, 0, none⟩) := by simpa using hp
  simp [results, h, hp', asAddr, run_loadVar_row w g t ty cs fr d hg hu hd hi]
theorem u_results1 (h : fn.results = #[.cell p ty, .tmp q]) (tmps : Array Value) (w : World) (g : Nat) (t : TypeId) (cs : Array Value) (fr : Nat × Nat) (d : TypeDesc)
    (hp : tmps.getD p undef = .pointer (some ⟨g, 0, none⟩)) {v : Value} (hq : tmps.getD q undef = v) (hg : w.heap[g]? = some (.cells cs t fr)) (hu : P.underlying ty = some d) (hd : (match d with | .struct _ | .array _ _ => true | _ => false) = true) (hi : (P.info? ty).map (·.size) = some cs.size) :
    (results fn tmps).run P w = .ok (.tuple #[.agg cs, v]) w := by
  have hp' : tmps[p]?.getD undef = .pointer (some ⟨g, 0, none⟩) := by simpa using hp
  have hq' : tmps[q]?.getD undef = v := by simpa using hq
  simp [results, h, hp', hq', asAddr, run_loadVar_row w g t ty cs fr d hg hu hd hi]
end
theorem u_below_row {B : Nat} {a w : World} (h : Below B a w) {g : Nat} (hg : B ≤ g) (cs : Array Value) : Below B a (w.setRow g cs) := by
  refine ⟨h.os, h.tape, h.output, by rw [size_setRow]; exact h.size, fun k hk => ?_⟩
  refine Eq.trans ?_ (h.block k hk)
  simp only [World.setRow, Array.getElem?_modify]
  rw [if_neg (by omega)]
theorem u_row_whole {w : World} {g : Nat} {t : TypeId} {cs ds : Array Value} (h : Whole w g t ds) : Whole (w.setRow g cs) g t cs := setRow_heap _ _ _ _ _ _ h
theorem u_row_far {w : World} {g b : Nat} {t : TypeId} {cs ds : Array Value} (h : Whole w g t ds) (hb : g ≠ b) : Whole (w.setRow b cs) g t ds := by
  have h' : w.heap[g]? = _ := h
  unfold Whole
  simp only [World.setRow, Array.getElem?_modify]
  rw [if_neg (Ne.symm hb)]
  exact h'
end Go.Proofs.Ytmplidgafdobkaa
