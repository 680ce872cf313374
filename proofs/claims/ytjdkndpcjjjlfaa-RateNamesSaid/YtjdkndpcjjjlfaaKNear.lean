/- The nearest rate that may be, and the doubt whether a rate may be: by contracts. No condition. -/
import Derived.Test.YtjdkndpcjjjlfaaKRef
import Derived.Test.YtjdkndpcjjjlfaaLater
namespace Go.Proofs.Ytjdkndpcjjjlfaa
open Go.RowKit Go.Shelf

def rateB (n d : Int) : Bool := decide (1 ≤ d) && decide (d ≤ 65536) && decide (1 ≤ n) && decide (n ≤ 2 * d)
def nearD (d : Int) : Int := max 1 (min d 65536)
def nearN (n d : Int) : Int := max 1 (min n (2 * nearD d))

set_option maxHeartbeats 1000000 in
theorem nearest_any (n d : Int) (w : World) : Calls Try.prog 34 #[.agg #[.int .i64 n, .int .i64 d]] w fun e w' => e = .returned (.agg #[.int .i64 (nearN n d), .int .i64 (nearD d)]) ∧ Below w.heap.size w w' := by
  go_enter Try.func34, Try.ntmps34
  go_wp2
  all_goals
    refine bodyPost_ret (v := .agg #[.int .i64 (nearN n d), .int .i64 (nearD d)]) (by simp [results, Try.results34, go_sem]; unfold nearN nearD; omega) rfl ⟨rfl, ?_⟩
    exact ((Below.refl _ _).alloc (Nat.le_refl _) _).alloc (by simp) _

theorem near_yes {n d : Int} (h : rateB n d = true) : nearN n d = n ∧ nearD d = d := by
  simp only [rateB, Bool.and_eq_true, decide_eq_true_eq] at h
  unfold nearN nearD
  omega
theorem near_no {n d : Int} (h : rateB n d = false) : nearN n d ≠ n ∨ nearD d ≠ d := by
  simp only [rateB, Bool.and_eq_false_iff, decide_eq_false_iff_not] at h
  unfold nearN nearD
  omega

set_option maxRecDepth 100000 in
set_option maxHeartbeats 1000000 in
theorem noRate_any (n d o j : Int) (g : Nat) (w : World) (hW : Whole w g 25 #[.int .i64 n, .int .i64 d, .int .i64 o, .int .i64 j]) :
    Calls Try.prog 33 #[.pointer (some ⟨g, 0, none⟩)] w fun e w' => e = .returned (.bool (!rateB n d)) ∧ Below w.heap.size w w' := by
  have hN := Lib.hid (fun W => nearest_any n d W)
  obtain ⟨c0, c1, c2, c3, cf⟩ := k_four hW
  have e0 : ∀ y : Later w, y.at_.cell? ⟨g, 0, none⟩ = some (.int .i64 n) := fun y => y.cell c0
  have e1 : ∀ y : Later w, y.at_.cell? ⟨g, 1, none⟩ = some (.int .i64 d) := fun y => y.cell c1
  clear c0 c1 c2 c3 cf
  cases hb : rateB n d
  · rcases near_no hb with h | h
    · have hq : (nearN n d == n) = false := by simp [h]
      generalize nearN n d = a at *
      generalize nearD d = b at *
      clear h hb
      go_enter Try.func33, Try.ntmps33
      go_wp2
      refine wp_region_later (by kernel_rfl) (by kernel_rfl) ?_
      repeat (go_big_quiet_step ((go_at_call 34; exact later_of _ hN.out)))
      refine wpQuiet_nil ?_
      intro _ hw'
      obtain ⟨y, hw''⟩ := hw'
      subst hw''
      go_wp2
      go_ret
      exact ⟨rfl, y.below⟩
    · have hq : (nearD d == d) = false := by simp [h]
      generalize nearN n d = a at *
      generalize nearD d = b at *
      clear h hb
      go_enter Try.func33, Try.ntmps33
      go_wp2
      refine wp_region_later (by kernel_rfl) (by kernel_rfl) ?_
      repeat (go_big_quiet_step ((go_at_call 34; exact later_of _ hN.out)))
      refine wpQuiet_nil ?_
      intro _ hw'
      obtain ⟨y, hw''⟩ := hw'
      subst hw''
      go_wp2
      go_ret
      exact ⟨rfl, y.below⟩
  · obtain ⟨h1, h2⟩ := near_yes hb
    rw [h1, h2] at hN
    clear hb h1 h2
    go_enter Try.func33, Try.ntmps33
    go_wp2
    refine wp_region_later (by kernel_rfl) (by kernel_rfl) ?_
    repeat (go_big_quiet_step ((go_at_call 34; exact later_of _ hN.out)))
    refine wpQuiet_nil ?_
    intro _ hw'
    obtain ⟨y, hw''⟩ := hw'
    subst hw''
    go_wp2
    go_ret
    exact ⟨rfl, y.below⟩

end Go.Proofs.Ytjdkndpcjjjlfaa
