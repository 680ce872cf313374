/- The document's Check, Round and Numbers, by contracts: the program's own answers. No condition. -/
import Derived.Test.YteljalgfkmnamaaLRefF
namespace Go.Proofs.Yteljalgfkmnamaa
open Go.RowKit Go.Shelf

theorem refFails_is (x : Pl) (w : World) : Calls Try.prog 26 #[.agg x.cells] w fun e w' => e = .returned (.int .i64 (failsL x 11 : Int)) ∧ Below w.heap.size w w' := by
  rw [fails_eq x]
  exact refFails_any x w
theorem first_is (x : Pl) (w : World) : Calls Try.prog 33 #[.agg x.cells] w fun e w' => e = .returned (.int .i64 (failsL x 3 : Int)) ∧ Below w.heap.size w w' := by
  rw [first_eq x]
  exact first_any x w

section
variable (x : Pl) (w : World)

set_option maxHeartbeats 1000000 in
theorem refCheck_any : Calls Try.prog 13 #[.agg x.cells] w fun e w' => e = .returned (.int .i64 (chkL x)) ∧ Below w.heap.size w w' := by
  have HB := Lib.hid ((Below.refl w.heap.size w).alloc (Nat.le_refl _) (.cells x.cells 23))
  have HW := Lib.hid (Whole.new w 23 x.cells)
  have HS := Lib.hid x.cellsL
  have HC := Lib.hid (fun W => refFails_is x W)
  by_cases h : failsL x 11 = 0
  · have H := Lib.hid (show chkL x = 0 from if_pos h)
    have h0 : ((failsL x 11 : Nat) : Int) = 0 := by omega
    rw [h0] at HC
    clear h h0
    go_enter Try.func13, Try.ntmps13
    go_wp2_with (first
      | (refine wpList_load_row rfl 23 _ rfl w.heap.size rfl 23 x.cells (0, 0) _ (heap_alloc_last w _) Try.underlying23 rfl HS.out.plan ?_)
      | (go_at_call 26; refine (HC.out _).mono ?_; rintro e w' ⟨rfl, hb2⟩))
    go_ret
    exact ⟨by rw [H.out]; rfl, k_then hb2 HB.out⟩
  · have H := Lib.hid (show chkL x = 70 from if_neg h)
    have h0 : (0 : Int) < ((failsL x 11 : Nat) : Int) := by omega
    generalize ((failsL x 11 : Nat) : Int) = r at *
    clear h
    go_enter Try.func13, Try.ntmps13
    go_wp2_with (first
      | (refine wpList_load_row rfl 23 _ rfl w.heap.size rfl 23 x.cells (0, 0) _ (heap_alloc_last w _) Try.underlying23 rfl HS.out.plan ?_)
      | (go_at_call 26; refine (HC.out _).mono ?_; rintro e w' ⟨rfl, hb2⟩))
    go_ret
    exact ⟨by rw [H.out]; rfl, k_then hb2 HB.out⟩

end
end Go.Proofs.Yteljalgfkmnamaa
