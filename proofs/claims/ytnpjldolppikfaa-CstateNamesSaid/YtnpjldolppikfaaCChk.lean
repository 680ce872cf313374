/- Whether a C-state may be: the program's and the document's, each by a contract. -/
import Derived.Test.YtnpjldolppikfaaGFun
import Derived.BigQuiet
import Derived.Deep.QuietTactic
namespace Go.Proofs.Ytnpjldolppikfaa
open Go.RowKit

def winB (n most : Int) : Bool := decide (0 ≤ n) && decide (n ≤ most)
def okC (r s m : Int) : Bool := winB r 2147483647 && winB s 15 && winB m 7
def chkC (r s m : Int) : Int := if okC r s m then 0 else 40
def amongB (r s m n : Int) : Bool := decide (1 ≤ n) && decide (n ≤ 16) && decide (s < n) && okC r s m
def amongE (r s m n : Int) : Int := if amongB r s m n then 0 else 40

theorem winB_no {n most : Int} (h : winB n most = false) : n < 0 ∨ most < n := by
  simp [winB] at h
  omega
theorem winB_yes {n most : Int} (h : winB n most = true) : 0 ≤ n ∧ n ≤ most := by
  simp [winB] at h
  exact h
theorem winB_mk {n most : Int} (h0 : 0 ≤ n) (h1 : n ≤ most) : winB n most = true := by simp [winB, h0, h1]
theorem winB_lo {n most : Int} (h0 : n < 0) : winB n most = false := by simp [winB]; omega
theorem winB_hi {n most : Int} (h0 : most < n) : winB n most = false := by simp [winB]; omega
theorem okC_yes {r s m : Int} (h : okC r s m = true) : (0 ≤ r ∧ r ≤ 2147483647) ∧ (0 ≤ s ∧ s ≤ 15) ∧ (0 ≤ m ∧ m ≤ 7) := by
  simp only [okC, Bool.and_eq_true] at h
  exact ⟨winB_yes h.1.1, winB_yes h.1.2, winB_yes h.2⟩
theorem okC_mk {r s m : Int} (h : (0 ≤ r ∧ r ≤ 2147483647) ∧ (0 ≤ s ∧ s ≤ 15) ∧ (0 ≤ m ∧ m ≤ 7)) : okC r s m = true := by
  simp only [okC, Bool.and_eq_true]
  exact ⟨⟨winB_mk h.1.1 h.1.2, winB_mk h.2.1.1 h.2.1.2⟩, winB_mk h.2.2.1 h.2.2.2⟩

set_option maxHeartbeats 400000 in
theorem within_any (n most : Int) (w : World) : Calls Try.prog 42 #[.int .i64 n, .int .i64 most] w fun e w' => e = .returned (.bool (winB n most)) ∧ w = w' := by
  have hv : winB n most = (decide (0 ≤ n) && decide (n ≤ most)) := rfl
  by_cases h0 : 0 ≤ n
  · by_cases h1 : n ≤ most
    · have HV := Lib.hid (show winB n most = true from winB_mk h0 h1)
      clear hv
      go_enter Try.func42, Try.ntmps42
      go_wp2
      go_ret
      exact ⟨by rw [HV.out]; rfl, rfl⟩
    · have HV := Lib.hid (show winB n most = false from winB_hi (by omega))
      clear hv
      have h2 : decide (n ≤ most) = false := decide_eq_false h1
      go_enter Try.func42, Try.ntmps42
      go_wp2
      go_ret
      exact ⟨by rw [HV.out]; rfl, rfl⟩
  · have HV := Lib.hid (show winB n most = false from winB_lo (by omega))
    clear hv
    have h2 : decide (0 ≤ n) = false := decide_eq_false h0
    go_enter Try.func42, Try.ntmps42
    go_wp2
    go_ret
    exact ⟨by rw [HV.out]; rfl, rfl⟩

set_option maxHeartbeats 400000 in
theorem check_any (r s m v : Int) (w : World) : Calls Try.prog 16 #[.agg #[.int .i64 r, .int .i64 s, .int .i64 m, .int .u16 v]] w fun e w' => e = .returned (.int .i64 (chkC r s m)) ∧ Below w.heap.size w w' := by
  have hb : Below w.heap.size w (w.alloc (.cells #[.int .i64 r, .int .i64 s, .int .i64 m, .int .u16 v] 25)) := (Below.refl _ _).alloc (Nat.le_refl _) _
  cases h1 : winB r 2147483647
  · have HC := Lib.hid (show chkC r s m = 40 from by simp [chkC, okC, h1])
    go_enter Try.func16, Try.ntmps16
    go_wp2_with (go_at_call 42; refine (within_any _ _ _).mono ?_; rintro e w' ⟨rfl, rfl⟩; rw [h1])
    go_ret
    exact ⟨by rw [HC.out]; rfl, hb⟩
  cases h2 : winB s 15
  · have HC := Lib.hid (show chkC r s m = 40 from by simp [chkC, okC, h1, h2])
    go_enter Try.func16, Try.ntmps16
    go_wp2_with (go_at_call 42; refine (within_any _ _ _).mono ?_; rintro e w' ⟨rfl, rfl⟩; first | rw [h1] | rw [h2])
    go_ret
    exact ⟨by rw [HC.out]; rfl, hb⟩
  cases h3 : winB m 7
  · have HC := Lib.hid (show chkC r s m = 40 from by simp [chkC, okC, h1, h2, h3])
    go_enter Try.func16, Try.ntmps16
    go_wp2_with (go_at_call 42; refine (within_any _ _ _).mono ?_; rintro e w' ⟨rfl, rfl⟩; first | rw [h1] | rw [h2] | rw [h3])
    go_ret
    exact ⟨by rw [HC.out]; rfl, hb⟩
  · have HC := Lib.hid (show chkC r s m = 0 from by simp [chkC, okC, h1, h2, h3])
    go_enter Try.func16, Try.ntmps16
    go_wp2_with (go_at_call 42; refine (within_any _ _ _).mono ?_; rintro e w' ⟨rfl, rfl⟩; first | rw [h1] | rw [h2] | rw [h3])
    go_ret
    exact ⟨by rw [HC.out]; rfl, hb⟩

theorem chk_not {r s m : Int} (h : okC r s m = false) : chkC r s m = 40 := by simp [chkC, h]
theorem okC_of {r s m : Int} (h : ¬ ((0 ≤ r ∧ r ≤ 2147483647) ∧ (0 ≤ s ∧ s ≤ 15) ∧ (0 ≤ m ∧ m ≤ 7))) : okC r s m = false := by
  cases e : okC r s m
  · rfl
  · exact absurd (okC_yes e) h

set_option maxHeartbeats 1000000 in
theorem refCheck_any (r s m v : Int) (w : World) : Calls Try.prog 17 #[.agg #[.int .i64 r, .int .i64 s, .int .i64 m, .int .u16 v]] w fun e w' => e = .returned (.int .i64 (chkC r s m)) ∧ Below w.heap.size w w' := by
  have hb : Below w.heap.size w (w.alloc (.cells #[.int .i64 r, .int .i64 s, .int .i64 m, .int .u16 v] 25)) := (Below.refl _ _).alloc (Nat.le_refl _) _
  cases h : okC r s m
  · have HC := Lib.hid (chk_not h)
    have hn : ¬ ((0 ≤ r ∧ r ≤ 2147483647) ∧ (0 ≤ s ∧ s ≤ 15) ∧ (0 ≤ m ∧ m ≤ 7)) := fun g => by rw [okC_mk g] at h; cases h
    clear h
    by_cases a1 : r < 0
    · go_enter Try.func17, Try.ntmps17
      go_wp2
      go_ret
      exact ⟨by rw [HC.out]; rfl, hb⟩
    by_cases a2 : 2147483647 < r
    · have d1 : decide (r < 0) = false := decide_eq_false a1
      go_enter Try.func17, Try.ntmps17
      go_wp2
      go_ret
      exact ⟨by rw [HC.out]; rfl, hb⟩
    by_cases a3 : s < 0
    · have d1 : decide (r < 0) = false := decide_eq_false a1
      have d2 : decide (2147483647 < r) = false := decide_eq_false a2
      go_enter Try.func17, Try.ntmps17
      go_wp2
      go_ret
      exact ⟨by rw [HC.out]; rfl, hb⟩
    by_cases a4 : 15 < s
    · have d1 : decide (r < 0) = false := decide_eq_false a1
      have d2 : decide (2147483647 < r) = false := decide_eq_false a2
      have d3 : decide (s < 0) = false := decide_eq_false a3
      go_enter Try.func17, Try.ntmps17
      go_wp2
      go_ret
      exact ⟨by rw [HC.out]; rfl, hb⟩
    by_cases a5 : m < 0
    · have d1 : decide (r < 0) = false := decide_eq_false a1
      have d2 : decide (2147483647 < r) = false := decide_eq_false a2
      have d3 : decide (s < 0) = false := decide_eq_false a3
      have d4 : decide (15 < s) = false := decide_eq_false a4
      go_enter Try.func17, Try.ntmps17
      go_wp2
      go_ret
      exact ⟨by rw [HC.out]; rfl, hb⟩
    · have a6 : 7 < m := by omega
      have d1 : decide (r < 0) = false := decide_eq_false a1
      have d2 : decide (2147483647 < r) = false := decide_eq_false a2
      have d3 : decide (s < 0) = false := decide_eq_false a3
      have d4 : decide (15 < s) = false := decide_eq_false a4
      have d5 : decide (m < 0) = false := decide_eq_false a5
      go_enter Try.func17, Try.ntmps17
      go_wp2
      go_ret
      exact ⟨by rw [HC.out]; rfl, hb⟩
  · have HC := Lib.hid (show chkC r s m = 0 from by simp [chkC, h])
    obtain ⟨⟨r1, r2⟩, ⟨s1, s2⟩, ⟨m1, m2⟩⟩ := okC_yes h
    clear h
    have d1 : decide (r < 0) = false := decide_eq_false (by omega)
    have d2 : decide (2147483647 < r) = false := decide_eq_false (by omega)
    have d3 : decide (s < 0) = false := decide_eq_false (by omega)
    have d4 : decide (15 < s) = false := decide_eq_false (by omega)
    have d5 : decide (m < 0) = false := decide_eq_false (by omega)
    have d6 : decide (7 < m) = false := decide_eq_false (by omega)
    go_enter Try.func17, Try.ntmps17
    go_wp2
    go_ret
    exact ⟨by rw [HC.out]; rfl, hb⟩

end Go.Proofs.Ytnpjldolppikfaa
