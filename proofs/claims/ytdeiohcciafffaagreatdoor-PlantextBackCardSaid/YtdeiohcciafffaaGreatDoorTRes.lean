/- What is handed back out of a row, and beside it. No condition. -/
import Derived.Test.YtdeiohcciafffaaGreatDoorTTab
import Derived.Test.YtdeiohcciafffaaGreatDoorLRow
namespace Go.Proofs.YtdeiohcciafffaaGreatDoor
open Go.RowKit Go.Shelf

section
variable {P : Program} {fn : Func} {p q r : Tmp} {ty : TypeId}
theorem results_row1 (h : fn.results = #[.cell p ty, .tmp q]) (tmps : Array Value) (w : World) (g : Nat) (t : TypeId) (cs : Array Value) (fr : Nat × Nat) (d : TypeDesc)
    (hp : tmps.getD p undef = .pointer (some ⟨g, 0, none⟩)) {v : Value} (hq : tmps.getD q undef = v) (hg : w.heap[g]? = some (.cells cs t fr)) (hu : P.underlying ty = some d) (hd : (match d with | .struct _ | .array _ _ => true | _ => false) = true) (hi : (P.info? ty).map (·.size) = some cs.size) :
    (results fn tmps).run P w = .ok (.tuple #[.agg cs, v]) w := by
  have hp' : tmps[p]?.getD undef = .pointer (some ⟨g, 0, none⟩) := by simpa using hp
  have hq' : tmps[q]?.getD undef = v := by simpa using hq
  simp [results, h, hp', hq', asAddr, run_loadVar_row w g t ty cs fr d hg hu hd hi]
theorem results_row2 (h : fn.results = #[.cell p ty, .tmp q, .tmp r]) (tmps : Array Value) (w : World) (g : Nat) (t : TypeId) (cs : Array Value) (fr : Nat × Nat) (d : TypeDesc)
    (hp : tmps.getD p undef = .pointer (some ⟨g, 0, none⟩)) {v u : Value} (hq : tmps.getD q undef = v) (hr : tmps.getD r undef = u) (hg : w.heap[g]? = some (.cells cs t fr)) (hu : P.underlying ty = some d) (hd : (match d with | .struct _ | .array _ _ => true | _ => false) = true) (hi : (P.info? ty).map (·.size) = some cs.size) :
    (results fn tmps).run P w = .ok (.tuple #[.agg cs, v, u]) w := by
  have hp' : tmps[p]?.getD undef = .pointer (some ⟨g, 0, none⟩) := by simpa using hp
  have hq' : tmps[q]?.getD undef = v := by simpa using hq
  have hr' : tmps[r]?.getD undef = u := by simpa using hr
  simp [results, h, hp', hq', hr', asAddr, run_loadVar_row w g t ty cs fr d hg hu hd hi]
end
theorem info_number : (Tryz.prog.info? 58).map (·.size) = some 3 := by kernel_rfl
theorem below_setRow' {B : Nat} {a w : World} (h : Below B a w) {g : Nat} (hg : B ≤ g) (cs : Array Value) : Below B a (w.setRow g cs) := by
  refine ⟨h.os, h.tape, h.output, by rw [size_setRow]; exact h.size, fun k hk => ?_⟩
  refine Eq.trans ?_ (h.block k hk)
  simp only [World.setRow, Array.getElem?_modify]
  rw [if_neg (by omega)]
theorem three_one {a b c : Value} (ha : a.oneCell' = true) (hb : b.oneCell' = true) (hc : c.oneCell' = true) : (#[a, b, c] : Array Value).all (·.oneCell') = true := by simp [ha, hb, hc]
theorem wpList_store_three {P : Program} {ops : Array Oper} {rest : List Oper} {o : Oper} {A : Act} {w : World} {Q : Exit → Act → World → Prop} (hgd : o.guard = none) (ty : TypeId) (x y : Operand) (ho : o.op = .store ty x y)
    (g : Nat) (a b c d e f : Value) (hx : A.eval x = .pointer (some ⟨g, 0, none⟩)) (hy : A.eval y = .agg #[a, b, c]) (t : TypeId) (hg : Whole w g t #[d, e, f]) (hi : (P.info? ty).map (·.size) = some 3)
    (ha : a.oneCell' = true) (hb : b.oneCell' = true) (hc : c.oneCell' = true) (h : wpList P ops Q rest (A.put o.dst undef) (w.setRow g #[a, b, c])) : wpList P ops Q (o :: rest) A w :=
  wpList_store_row hgd ty x y ho g #[a, b, c] hx hy t #[d, e, f] hg hi rfl (three_one ha hb hc) h
theorem setRow_whole {w : World} {g : Nat} {t : TypeId} {cs ds : Array Value} (h : Whole w g t ds) : Whole (w.setRow g cs) g t cs := setRow_heap _ _ _ _ _ _ h
/-- The table is handed back, in a new block. -/
def Tabled (w : World) (e : Ending) (w' : World) : Prop := ∃ b, e = .returned (.slice (some ⟨b, 0, none⟩) 16 16) ∧ w.heap.size ≤ b ∧ Whole w' b 58 tabC ∧ Below w.heap.size w w'
theorem numbers_b (w : World) : Calls Tryz.prog 23 #[] w (Tabled w) :=
  (tabled_any w).mono fun _ _ ⟨he, hw⟩ => ⟨w.heap.size, he, Nat.le_refl _, hw ▸ Whole.new w _ _, hw ▸ (Below.refl _ w).alloc (Nat.le_refl _) _⟩
end Go.Proofs.YtdeiohcciafffaaGreatDoor
