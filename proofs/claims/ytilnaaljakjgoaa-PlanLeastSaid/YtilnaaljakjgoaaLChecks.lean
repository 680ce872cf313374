/- PlanChecks, its walk. -/
import Derived.Test.YtilnaaljakjgoaaLRefC
import Derived.Test.YtilnaaljakjgoaaLater
namespace Go.Proofs.Ytilnaaljakjgoaa
open Go.RowKit Go.Shelf

/-- A whole row read in a region that is walked quietly. -/
theorem quiet_load_row {P : Program} {C : World → Prop} {K : Act → Prop} {a : Act} {o : Oper} (ty : TypeId) (x : Operand) (ho : o.op = .load ty x) (g : Nat) (hx : a.eval x = .pointer (some ⟨g, 0, none⟩)) (t : TypeId) (cs : Array Value) (fr : Nat × Nat) (d : TypeDesc)
    (hrow : ∀ w, C w → w.heap[g]? = some (.cells cs t fr)) (hu : P.underlying ty = some d) (hd : (match d with | .struct _ | .array _ _ => true | _ => false) = true) (hi : (P.info? ty).map (·.size) = some cs.size) (hk : K (a.put o.dst (.agg cs))) : o.quiet P a C K :=
  ⟨.agg cs, fun w hw => by
    unfold Oper.quietAt execOp
    simp only [ho, hx, Instr.loadAt, Instr.sureAddr, Sem.run_bind, Sem.run_pure, Result.andThen_ok, run_loadVar_row w g t ty cs fr d (hrow w hw) hu hd hi]
    exact ⟨rfl, rfl⟩, hk⟩
theorem later_row {W : World} {g : Nat} {t : TypeId} {cs : Array Value} (h : Whole W g t cs) : ∀ w, (∃ y : Later W, w = y.at_) → w.heap[g]? = some (.cells cs t (0, 0)) := by
  rintro _ ⟨y, rfl⟩
  exact h.below y.below h.lt

set_option maxRecDepth 100000 in
set_option maxHeartbeats 4000000 in
theorem checks_walk (x : Pl) (w : World) : Calls Try.prog 3 #[.agg x.cells] w fun e w' => e = .returned (.bool true) ∧ Below w.heap.size w w' := by
  have HS := Lib.hid x.cellsL
  have HN := Lib.hid (fun W => Numbers_any x W)
  have HM := Lib.hid (fun W => refNums_any x W)
  have HF := Lib.hid (fun W => Fails_any x W)
  have HG := Lib.hid (fun W => refFails_is x W)
  have HC := Lib.hid (fun W => Check_any x W)
  have HD := Lib.hid (fun W => refCheck_any x W)
  have HR := Lib.hid (fun W => Round_any x W)
  have HT := Lib.hid (fun W => refRound_any x W)
  have hb := (Below.refl w.heap.size w).alloc (Nat.le_refl _) (.cells x.cells 23)
  have hw := Whole.new w 23 x.cells
  have HB := Lib.hid hb
  have HW := Lib.hid hw
  clear hb hw
  unfold numV at HN HM
  generalize numE x = ne at *
  generalize numG x = ng at *
  generalize numA x = na at *
  generalize ((failsL x 11 : Nat) : Int) = r at *
  generalize chkL x = ch at *
  generalize roundL x = ro at *
  generalize x.cells = cs at *
  go_enter Try.func3, Try.ntmps3
  go_wp2_with (first
    | (refine wpList_load_row rfl 23 _ rfl w.heap.size rfl 23 cs (0, 0) _ (heap_alloc_last w _) Try.underlying23 rfl HS.out.plan ?_)
    | (refine wpList_load_row rfl 23 _ rfl w.heap.size rfl 23 cs (0, 0) _ HW1.out Try.underlying23 rfl HS.out.plan ?_)
    | (go_at_call 8; refine (HN.out _).mono ?_; rintro e w1 ⟨rfl, hb1⟩; have HW1 := Lib.hid (k_later hb1 HW.out); have HK1 := Lib.hid (k_then hb1 HB.out); clear hb1)
    | (go_at_call 9; refine (HM.out _).mono ?_; rintro e w2 ⟨rfl, hb2⟩; have HW2 := Lib.hid (k_later hb2 HW1.out); have HK2 := Lib.hid (k_then hb2 HK1.out); clear hb2))
  refine wp_region_later (by kernel_rfl) (by kernel_rfl) ?_
  repeat (first
    | (go_big_quiet_want; refine quiet_load_row 23 _ rfl w.heap.size rfl 23 cs (0, 0) _ (later_row HW2.out) Try.underlying23 rfl HS.out.plan ?_; simp only [Act.put, List.setIfInBounds_toArray, List.set_cons_succ, List.set_cons_zero]; go_big_quiet_on)
    | (go_big_quiet_step ((first
      | (go_at_call 10; exact later_of _ HF.out)
      | (go_at_call 11; exact later_of _ HG.out)
      | (go_at_call 12; exact later_of _ HC.out)
      | (go_at_call 13; exact later_of _ HD.out)
      | (go_at_call 14; exact later_of _ HR.out)
      | (go_at_call 15; exact later_of _ HT.out)))))
  refine wpQuiet_nil ?_
  intro _ hw'
  obtain ⟨y, hw''⟩ := hw'
  subst hw''
  go_wp2
  go_ret
  exact ⟨rfl, HK2.out.trans (y.below.mono HK2.out.size)⟩

end Go.Proofs.Ytilnaaljakjgoaa
