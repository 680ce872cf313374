/- The draft's round, its numbers, and what each of its numbers has to be at least: by contracts. -/
import Derived.Test.YteljalgfkmnamaaLDef
import Derived.Test.YteljalgfkmnamaaLater
namespace Go.Proofs.Yteljalgfkmnamaa
open Go.RowKit Go.Shelf

theorem drew_add {W : World} {a b : Nat} : (W.drewN a).drewN b = W.drewN (a + b) := World.drewN_drewN ..
theorem cell_drewN {w : World} {p : Addr} {v : Value} (h : w.cell? p = some v) (n : Nat) : (w.drewN n).cell? p = some v := h
theorem l_drewN {w : World} {g : Nat} {t : TypeId} {cs : Array Value} (h : Whole w g t cs) (n : Nat) : Whole (w.drewN n) g t cs := h

/-- n is from l to m. -/
def inL (l n m : Int) : Bool := decide (l ≤ n ∧ n ≤ m)
set_option maxHeartbeats 1000000 in
theorem within_any (n l m : Int) (w : World) : Calls Try.prog 67 #[.int .i64 n, .int .i64 l, .int .i64 m] w fun e w' => e = .returned (.bool (inL l n m)) ∧ w' = w := by
  by_cases h1 : l ≤ n
  · by_cases h2 : n ≤ m
    · have H := Lib.hid (show inL l n m = true from decide_eq_true ⟨h1, h2⟩)
      go_enter Try.func67, Try.ntmps67
      go_wp2
      go_ret
      exact ⟨by rw [H.out]; rfl, rfl⟩
    · have H := Lib.hid (show inL l n m = false from decide_eq_false fun h => h2 h.2)
      have d2 : decide (n ≤ m) = false := decide_eq_false h2
      go_enter Try.func67, Try.ntmps67
      go_wp2
      go_ret
      exact ⟨by rw [H.out]; rfl, rfl⟩
  · have H := Lib.hid (show inL l n m = false from decide_eq_false fun h => h1 h.1)
    have d1 : decide (l ≤ n) = false := decide_eq_false h1
    go_enter Try.func67, Try.ntmps67
    go_wp2
    go_ret
    exact ⟨by rw [H.out]; rfl, rfl⟩

set_option maxHeartbeats 1000000 in
theorem round_any {x : Pl} {g : Nat} {t : TypeId} {w : World} (T : TickL x) (hW : Whole w g t x.cells) :
    Calls Try.prog 63 #[.pointer (some ⟨g, 0, none⟩)] w fun e w' => e = .returned (.int .i64 (rdL x)) ∧ ∃ n, w' = w.drewN n := by
  obtain ⟨⟨c0, _, c2, _⟩, _⟩ := l_cells hW
  have m1 : 0 ≤ x.nodes * x.slot := T.m1
  have m2 : x.nodes * x.slot ≤ 16777216 := T.m2
  have H := Lib.hid (show rdL x = x.nodes * x.slot from rfl)
  generalize hm : x.nodes * x.slot = m at *
  clear hW T
  go_enter Try.func63, Try.ntmps63
  go_wp2
  go_quiet (fail)
  go_wp2
  go_ret
  exact ⟨by rw [H.out]; rfl, _, rfl⟩

set_option maxHeartbeats 1000000 in
theorem numbers_any {x : Pl} {g : Nat} {t : TypeId} {w : World} (T : TickL x) (hW : Whole w g t x.cells) :
    Calls Try.prog 62 #[.pointer (some ⟨g, 0, none⟩)] w fun e w' => e = .returned (.tuple #[.int .i64 (eL x), .int .i64 (gL x), .int .i64 (aL x)]) ∧ ∃ n, w' = w.drewN n := by
  have HR := Lib.hid (fun W (h : Whole W g t x.cells) => round_any T h)
  have HW := Lib.hid hW
  obtain ⟨_, ⟨_, _, c6, c7⟩, ⟨c8, _⟩, _⟩ := l_cells hW
  obtain ⟨_, _, _, _, _, _, d1, d2, d3, _, _, r1, r2, m1, m2, q1, q2⟩ := T
  have e0 : (2 * rdL x).tdiv x.rho = 2 * rdL x / x.rho := Int.tdiv_eq_ediv_of_nonneg (by omega)
  have H1 := Lib.hid (show eL x = x.dmax - x.dmin + 6 from rfl)
  have H2 := Lib.hid (show gL x = 2 * (2 * rdL x / x.rho + 4) from rfl)
  have H3 := Lib.hid (show aL x = 2 * (x.dmax - x.dmin + 6 + 2 * (2 * rdL x / x.rho + 4)) from rfl)
  generalize rdL x = m at *
  generalize hq : 2 * m / x.rho = q at *
  clear hW
  have HC := Lib.hid (fun n => (⟨c8, rfl⟩ : (w.drewN n).cell? ⟨g, 8, none⟩ = some (.int .i64 x.rho) ∧ (w.drewN n).heap = w.heap))
  go_enter Try.func62, Try.ntmps62
  go_wp2
  go_quiet (fail)
  obtain ⟨k8, hh⟩ := HC.out nq
  have HH := Lib.hid hh
  clear c6 c7 c8 hh
  go_wp2
  generalize hv : w.drewN nq = W1 at *
  have HV := Lib.hid hv
  clear hv
  go_quiet ((go_at_call 63; refine Calls.quiet_of (HR.out _ ?_); unfold Whole; exact HH.out ▸ HW.out))
  go_wp2
  refine bodyPost_ret (v := .tuple #[.int .i64 (eL x), .int .i64 (gL x), .int .i64 (aL x)]) (by rw [H1.out, H2.out, H3.out]; simp [results, Try.results62, go_sem]) rfl ⟨rfl, ?_⟩
  rw [← HV.out]
  exact ⟨_, drew_add⟩

end Go.Proofs.Yteljalgfkmnamaa
