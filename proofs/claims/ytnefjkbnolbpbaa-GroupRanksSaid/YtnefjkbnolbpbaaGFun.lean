/- The small functions of group, each by a contract. -/
import Derived.Test.YtnefjkbnolbpbaaGNum
import Derived.Test.YtnefjkbnolbpbaaProg
import Derived.BigQuiet
import Derived.Deep.QuietTactic
namespace Go.Proofs.Ytnefjkbnolbpbaa
open Go.RowKit

set_option maxHeartbeats 400000 in
theorem isNode_any (n : Int) (w : World) : Calls Try.prog 43 #[.int .i64 n] w fun e w' => e = .returned (.bool (nodeB n)) ∧ w = w' := by
  cases h : nodeB n
  · have h' := node_no h
    clear h
    rcases h' with h | h
    · have h1 : decide (0 ≤ n) = false := decide_eq_false (by omega)
      go_enter Try.func43, Try.ntmps43
      go_wp2
      go_ret
      exact ⟨rfl, rfl⟩
    · have h1 : decide (0 ≤ n) = true := decide_eq_true (by omega)
      have h2 : decide (n ≤ 15) = false := decide_eq_false (by omega)
      go_enter Try.func43, Try.ntmps43
      go_wp2
      go_ret
      exact ⟨rfl, rfl⟩
  · obtain ⟨h1, h2⟩ := node_yes h
    clear h
    go_enter Try.func43, Try.ntmps43
    go_wp2
    go_ret
    exact ⟨rfl, rfl⟩

theorem isNode_no {n : Int} (h : nodeB n = false) (w : World) : Calls Try.prog 43 #[.int .i64 n] w fun e w' => e = .returned (.bool false) ∧ w = w' := by
  rw [← h]; exact isNode_any n w
theorem isNode_yes {n : Int} (h : nodeB n = true) (w : World) : Calls Try.prog 43 #[.int .i64 n] w fun e w' => e = .returned (.bool true) ∧ w = w' := by
  rw [← h]; exact isNode_any n w

theorem both_any (a b : Nat) (w : World) (ha : a < 65536) (hb : b < 65536) : Calls Try.prog 28 #[.int .u16 (a : Int), .int .u16 (b : Int)] w fun e w' => e = .returned (.int .u16 ((bothG a b : Nat) : Int)) ∧ w = w' := by
  go_enter Try.func28, Try.ntmps28
  go_wp2
  go_ret
  exact ⟨by rw [u16_and_nat a b ha hb]; rfl, rfl⟩
theorem less_any (a b : Nat) (w : World) (ha : a < 65536) (hb : b < 65536) : Calls Try.prog 30 #[.int .u16 (a : Int), .int .u16 (b : Int)] w fun e w' => e = .returned (.int .u16 ((lessG a b : Nat) : Int)) ∧ w = w' := by
  go_enter Try.func30, Try.ntmps30
  go_wp2
  go_ret
  exact ⟨by rw [u16_andNot_nat a b ha hb]; rfl, rfl⟩

theorem wrap_pow {n : Int} (h0 : 0 ≤ n) (h1 : n ≤ 15) : IntKind.u16.wrap (2 ^ n.toNat) = 2 ^ n.toNat := by
  rw [IntKind.wrap_u16]
  have h : 2 ^ n.toNat < 2 ^ 16 := Nat.pow_lt_pow_right (a := 2) (by decide) (by omega)
  have e : ((2 : Int) ^ n.toNat) = ((2 ^ n.toNat : Nat) : Int) := by simp
  rw [e]
  generalize 2 ^ n.toNat = m at h
  omega

set_option maxHeartbeats 400000 in
theorem only_any (n : Int) (w : World) : Calls Try.prog 40 #[.int .i64 n] w fun e w' => e = .returned (.int .u16 ((onlyG n : Nat) : Int)) ∧ w = w' := by
  cases h : nodeB n
  · have hv : onlyG n = 0 := by simp [onlyG, h]
    have HV := Lib.hid hv
    have H := Lib.hid h
    clear hv h
    go_enter Try.func40, Try.ntmps40
    go_wp2_with (go_at_call 43; refine (isNode_no H.out _).mono ?_; rintro e w' ⟨rfl, rfl⟩)
    go_ret
    exact ⟨by rw [HV.out]; rfl, rfl⟩
  · obtain ⟨h1, h2⟩ := node_yes h
    have hv : ((onlyG n : Nat) : Int) = IntKind.u16.wrap (2 ^ n.toNat) := by rw [wrap_pow h1 h2]; simp [onlyG, h]
    have HV := Lib.hid hv
    have H := Lib.hid h
    clear hv h
    go_enter Try.func40, Try.ntmps40
    go_wp2_with (go_at_call 43; refine (isNode_yes H.out _).mono ?_; rintro e w' ⟨rfl, rfl⟩)
    go_ret
    exact ⟨by rw [HV.out]; rfl, rfl⟩

theorem with_any (g : Nat) (n : Int) (w : World) (hg : g < 65536) : Calls Try.prog 16 #[.int .u16 (g : Int), .int .i64 n] w fun e w' => e = .returned (.int .u16 ((withG g n : Nat) : Int)) ∧ w = w' := by
  have ho := onlyG_lt n
  go_enter Try.func16, Try.ntmps16
  go_wp2_with (go_at_call 40; refine (only_any _ _).mono ?_; rintro e w' ⟨rfl, rfl⟩)
  go_ret
  exact ⟨by rw [u16_or_nat g _ hg ho]; rfl, rfl⟩

theorem without_any (g : Nat) (n : Int) (w : World) (hg : g < 65536) : Calls Try.prog 18 #[.int .u16 (g : Int), .int .i64 n] w fun e w' => e = .returned (.int .u16 ((withoutG g n : Nat) : Int)) ∧ w = w' := by
  have ho := onlyG_lt n
  go_enter Try.func18, Try.ntmps18
  go_wp2_with (first | (go_at_call 40; refine (only_any _ _).mono ?_; rintro e w' ⟨rfl, rfl⟩) | (go_at_call 30; refine (less_any _ _ _ hg ho).mono ?_; rintro e w' ⟨rfl, rfl⟩))
  go_ret
  exact ⟨rfl, rfl⟩

theorem has_any (g : Nat) (n : Int) (w : World) (hg : g < 65536) : Calls Try.prog 14 #[.int .u16 (g : Int), .int .i64 n] w fun e w' => e = .returned (.bool (hasG g n)) ∧ w = w' := by
  have ho := onlyG_lt n
  rw [hasG_and]
  go_enter Try.func14, Try.ntmps14
  go_wp2_with (first | (go_at_call 40; refine (only_any _ _).mono ?_; rintro e w' ⟨rfl, rfl⟩) | (go_at_call 28; refine (both_any _ _ _ hg ho).mono ?_; rintro e w' ⟨rfl, rfl⟩))
  go_ret
  exact ⟨by first | rfl | simp, rfl⟩

set_option maxHeartbeats 400000 in
theorem first_any (n : Int) (w : World) : Calls Try.prog 26 #[.int .i64 n] w fun e w' => e = .returned (.int .u16 ((firstG n : Nat) : Int)) ∧ w = w' := by
  have hc : n < 0 ∨ n = 0 ∨ (0 < n ∧ n < 16) ∨ n = 16 ∨ 16 < n := by omega
  rcases hc with h | h | ⟨h, h'⟩ | h | h
  · have hv : firstG n = 0 := if_pos (by omega)
    have HV := Lib.hid hv
    clear hv
    go_enter Try.func26, Try.ntmps26
    go_wp2
    go_ret
    exact ⟨by rw [HV.out]; rfl, rfl⟩
  · subst h
    go_enter Try.func26, Try.ntmps26
    go_wp2
    go_ret
    exact ⟨rfl, rfl⟩
  · have hv : ((firstG n : Nat) : Int) = IntKind.u16.wrap (IntKind.u16.wrap (2 ^ n.toNat) - 1) := by
      have hp : 0 < 2 ^ n.toNat := Nat.two_pow_pos _
      have hq : 2 ^ n.toNat < 2 ^ 16 := Nat.pow_lt_pow_right (a := 2) (by decide) (by omega)
      have e : ((2 : Int) ^ n.toNat) = ((2 ^ n.toNat : Nat) : Int) := by simp
      rw [wrap_pow (by omega) (by omega), IntKind.wrap_u16, e]
      simp only [firstG, show ¬ n ≤ 0 from by omega, show ¬ 16 ≤ n from by omega, if_false]
      generalize 2 ^ n.toNat = m at hp hq
      omega
    have HV := Lib.hid hv
    clear hv
    go_enter Try.func26, Try.ntmps26
    go_wp2
    go_ret
    exact ⟨by rw [HV.out]; rfl, rfl⟩
  · subst h
    go_enter Try.func26, Try.ntmps26
    go_wp2
    go_ret
    exact ⟨rfl, rfl⟩
  · have hv : firstG n = 65535 := by simp [firstG, show ¬ n ≤ 0 from by omega, show 16 ≤ n from by omega]
    have HV := Lib.hid hv
    clear hv
    go_enter Try.func26, Try.ntmps26
    go_wp2
    go_ret
    exact ⟨by rw [HV.out]; rfl, rfl⟩

end Go.Proofs.Ytnefjkbnolbpbaa
