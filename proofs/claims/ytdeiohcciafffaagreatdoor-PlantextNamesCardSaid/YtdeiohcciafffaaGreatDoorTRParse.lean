/- The document's Plan and Parse, by contracts. No condition. -/
import Derived.Test.YtdeiohcciafffaaGreatDoorTRLines
import Derived.Test.YtdeiohcciafffaaGreatDoorTParse
import Derived.StillTailTactics
namespace Go.Proofs.YtdeiohcciafffaaGreatDoor
open Go.RowKit Go.Shelf

theorem planL_nth (f : Nat → Int) {k : Nat} (hk : k < 16) : (planL f).nth k = f k := by
  revert hk
  exact fun hk => case16 (p := fun k => (planL f).nth k = f k) rfl rfl rfl rfl rfl rfl rfl rfl rfl rfl rfl rfl rfl rfl rfl rfl k hk
theorem planL_put (f : Nat → Int) (v : Int) {k : Nat} (hk : k < 16) : (planL f).put v k = planL fun j => if j = k then v else f j := by
  revert hk
  exact fun hk => case16 (p := fun k => (planL f).put v k = planL fun j => if j = k then v else f j) rfl rfl rfl rfl rfl rfl rfl rfl rfl rfl rfl rfl rfl rfl rfl rfl k hk
theorem planL_cell (f : Nat → Int) {k : Nat} (hk : k < 16) : (planL f).cells[k]? = some (.int .i64 (f k)) := by rw [nth_cell _ hk, planL_nth f hk]
theorem planL_set (f : Nat → Int) (v : Int) {k : Nat} (hk : k < 16) : (planL f).cells.setIfInBounds k (.int .i64 v) = (planL fun j => if j = k then v else f j).cells := by rw [put_cells _ _ hk, planL_put f v hk]
/-- Said: one at each place that was said. -/
def oneI (s : St8) : Nat → Int := fun j => if (s j).isSome then 1 else 0
theorem oneI_put (s : St8) (k n : Nat) : oneI (s.put k n) = fun j => if j = k then 1 else oneI s j := by
  funext j
  unfold oneI St8.put
  by_cases h : j = k <;> simp [h]
theorem plan_put (s : St8) (k n : Nat) : (s.put k n).plan = planL fun j => if j = k then (n : Int) else ((s j).getD 0 : Nat) := by
  unfold St8.plan St8.put
  congr 1
  funext j
  by_cases h : j = k <;> simp [h]

section
variable {P : Program} {fn : Func} {p : Tmp} {ty : TypeId}
theorem results_row0 (h : fn.results = #[.cell p ty]) (tmps : Array Value) (w : World) (g : Nat) (t : TypeId) (cs : Array Value) (fr : Nat × Nat) (d : TypeDesc)
    (hp : tmps.getD p undef = .pointer (some ⟨g, 0, none⟩)) (hg : w.heap[g]? = some (.cells cs t fr)) (hu : P.underlying ty = some d) (hd : (match d with | .struct _ | .array _ _ => true | _ => false) = true) (hi : (P.info? ty).map (·.size) = some cs.size) :
    (results fn tmps).run P w = .ok (.agg cs) w := by
  have hp' : tmps[p]?.getD undef = .pointer (some ⟨g, 0, none⟩) := by simpa using hp
  simp [results, h, hp', asAddr, run_loadVar_row w g t ty cs fr d hg hu hd hi]
end

set_option maxRecDepth 100000 in
set_option maxHeartbeats 4000000 in
theorem refPlan8_any (x : Pl) (nb : Nat) (w : World) (hW : Whole w nb 2 x.cells) : Calls Tryz.prog 38 #[.slice (some ⟨nb, 0, none⟩) 16 16] w fun e w' => e = .returned (.agg x.cells) ∧ Below w.heap.size w w' := by
  have HX := Lib.hid (Whole.new w 23 zeroP.cells)
  have HB := Lib.hid ((Below.refl w.heap.size w).alloc (Nat.le_refl _) (.cells zeroP.cells 23))
  have HNB := Lib.hid (hW.alloc (.cells zeroP.cells 23))
  go_enter Tryz.func38, Tryz.ntmps38
  go_wp2
  generalize hw1 : w.alloc _ = w1
  have hw1' : w.alloc (.cells zeroP.cells 23) = w1 := hw1
  rw [hw1'] at HX HB HNB
  clear hw1 hw1'
  obtain ⟨⟨z0, z1, z2, z3⟩, ⟨z4, z5, z6, z7⟩, ⟨z8, z9, z10, z11⟩, ⟨z12, z13, z14, z15⟩, _⟩ := l_cells HNB.out
  go_still_tail 49, (by kernel_rfl)
  change wpList _ _ _ _ _ w1.drew
  obtain ⟨w2, hw2⟩ : ∃ w2, w2 = w1.drew := ⟨_, rfl⟩
  have HX2 := Lib.hid (show Whole w2 w.heap.size 23 zeroP.cells from hw2 ▸ HX.out)
  have HB2 := Lib.hid (show Below w.heap.size w w2 from hw2 ▸ ⟨HB.out.os, HB.out.tape, HB.out.output, HB.out.size, HB.out.block⟩)
  rw [← hw2]
  clear hw2 HX HB HNB z0 z1 z2 z3 z4 z5 z6 z7 z8 z9 z10 z11 z12 z13 z14 z15
  go_wp2_with (refine wpList_store_row rfl 23 (.tmp 2) (.tmp 51) rfl w.heap.size x.cells rfl rfl 23 zeroP.cells HX2.out x.cellsL.plan rfl x.cellsL.one ?_)
  refine bodyPost_ret (v := .agg x.cells) ?_ rfl ⟨rfl, below_setRow' HB2.out (Nat.le_refl _) _⟩
  exact results_row0 rfl _ _ _ 23 _ (0, 0) _ rfl (setRow_whole HX2.out) Tryz.underlying23 rfl x.cellsL.plan
end Go.Proofs.YtdeiohcciafffaaGreatDoor
