/- The small functions of group, each by a contract. -/
import Derived.Test.YtnpjldolppikfaaGNum
import Derived.Test.YtnpjldolppikfaaProg
import Derived.BigQuiet
import Derived.Deep.QuietTactic
namespace Go.Proofs.Ytnpjldolppikfaa
open Go.RowKit

set_option maxHeartbeats 400000 in
theorem isNode_any (n : Int) (w : World) : Calls Try.prog 73 #[.int .i64 n] w fun e w' => e = .returned (.bool (nodeB n)) ∧ w = w' := by
  cases h : nodeB n
  · have h' := node_no h
    clear h
    rcases h' with h | h
    · have h1 : decide (0 ≤ n) = false := decide_eq_false (by omega)
      go_enter Try.func73, Try.ntmps73
      go_wp2
      go_ret
      exact ⟨rfl, rfl⟩
    · have h1 : decide (0 ≤ n) = true := decide_eq_true (by omega)
      have h2 : decide (n ≤ 15) = false := decide_eq_false (by omega)
      go_enter Try.func73, Try.ntmps73
      go_wp2
      go_ret
      exact ⟨rfl, rfl⟩
  · obtain ⟨h1, h2⟩ := node_yes h
    clear h
    go_enter Try.func73, Try.ntmps73
    go_wp2
    go_ret
    exact ⟨rfl, rfl⟩

theorem isNode_no {n : Int} (h : nodeB n = false) (w : World) : Calls Try.prog 73 #[.int .i64 n] w fun e w' => e = .returned (.bool false) ∧ w = w' := by
  rw [← h]; exact isNode_any n w
theorem isNode_yes {n : Int} (h : nodeB n = true) (w : World) : Calls Try.prog 73 #[.int .i64 n] w fun e w' => e = .returned (.bool true) ∧ w = w' := by
  rw [← h]; exact isNode_any n w

theorem both_any (a b : Nat) (w : World) (ha : a < 65536) (hb : b < 65536) : Calls Try.prog 55 #[.int .u16 (a : Int), .int .u16 (b : Int)] w fun e w' => e = .returned (.int .u16 ((bothG a b : Nat) : Int)) ∧ w = w' := by
  go_enter Try.func55, Try.ntmps55
  go_wp2
  go_ret
  exact ⟨by rw [u16_and_nat a b ha hb]; rfl, rfl⟩
theorem less_any (a b : Nat) (w : World) (ha : a < 65536) (hb : b < 65536) : Calls Try.prog 45 #[.int .u16 (a : Int), .int .u16 (b : Int)] w fun e w' => e = .returned (.int .u16 ((lessG a b : Nat) : Int)) ∧ w = w' := by
  go_enter Try.func45, Try.ntmps45
  go_wp2
  go_ret
  exact ⟨by rw [u16_andNot_nat a b ha hb]; rfl, rfl⟩

theorem wrap_pow {n : Int} (h0 : 0 ≤ n) (h1 : n ≤ 15) : IntKind.u16.wrap (2 ^ n.toNat) = 2 ^ n.toNat := by
  rw [IntKind.wrap_u16]
  have h : 2 ^ n.toNat < 2 ^ 16 := Nat.pow_lt_pow_right (a := 2) (by decide) (by omega)
  have e : ((2 : Int) ^ n.toNat) = ((2 ^ n.toNat : Nat) : Int) := by simp
  rw [e]
  generalize 2 ^ n.toNat = m at h
  omega

set_option maxHeartbeats 400000 in
theorem only_any (n : Int) (w : World) : Calls Try.prog 56 #[.int .i64 n] w fun e w' => e = .returned (.int .u16 ((onlyG n : Nat) : Int)) ∧ w = w' := by
  cases h : nodeB n
  · have hv : onlyG n = 0 := by simp [onlyG, h]
    have HV := Lib.hid hv
    have H := Lib.hid h
    clear hv h
    go_enter Try.func56, Try.ntmps56
    go_wp2_with (go_at_call 73; refine (isNode_no H.out _).mono ?_; rintro e w' ⟨rfl, rfl⟩)
    go_ret
    exact ⟨by rw [HV.out]; rfl, rfl⟩
  · obtain ⟨h1, h2⟩ := node_yes h
    have hv : ((onlyG n : Nat) : Int) = IntKind.u16.wrap (2 ^ n.toNat) := by rw [wrap_pow h1 h2]; simp [onlyG, h]
    have HV := Lib.hid hv
    have H := Lib.hid h
    clear hv h
    go_enter Try.func56, Try.ntmps56
    go_wp2_with (go_at_call 73; refine (isNode_yes H.out _).mono ?_; rintro e w' ⟨rfl, rfl⟩)
    go_ret
    exact ⟨by rw [HV.out]; rfl, rfl⟩

theorem with_any (g : Nat) (n : Int) (w : World) (hg : g < 65536) : Calls Try.prog 50 #[.int .u16 (g : Int), .int .i64 n] w fun e w' => e = .returned (.int .u16 ((withG g n : Nat) : Int)) ∧ w = w' := by
  have ho := onlyG_lt n
  go_enter Try.func50, Try.ntmps50
  go_wp2_with (go_at_call 56; refine (only_any _ _).mono ?_; rintro e w' ⟨rfl, rfl⟩)
  go_ret
  exact ⟨by rw [u16_or_nat g _ hg ho]; rfl, rfl⟩

theorem without_any (g : Nat) (n : Int) (w : World) (hg : g < 65536) : Calls Try.prog 51 #[.int .u16 (g : Int), .int .i64 n] w fun e w' => e = .returned (.int .u16 ((withoutG g n : Nat) : Int)) ∧ w = w' := by
  have ho := onlyG_lt n
  go_enter Try.func51, Try.ntmps51
  go_wp2_with (first | (go_at_call 56; refine (only_any _ _).mono ?_; rintro e w' ⟨rfl, rfl⟩) | (go_at_call 45; refine (less_any _ _ _ hg ho).mono ?_; rintro e w' ⟨rfl, rfl⟩))
  go_ret
  exact ⟨rfl, rfl⟩

theorem has_any (g : Nat) (n : Int) (w : World) (hg : g < 65536) : Calls Try.prog 31 #[.int .u16 (g : Int), .int .i64 n] w fun e w' => e = .returned (.bool (hasG g n)) ∧ w = w' := by
  have ho := onlyG_lt n
  rw [hasG_and]
  go_enter Try.func31, Try.ntmps31
  go_wp2_with (first | (go_at_call 56; refine (only_any _ _).mono ?_; rintro e w' ⟨rfl, rfl⟩) | (go_at_call 55; refine (both_any _ _ _ hg ho).mono ?_; rintro e w' ⟨rfl, rfl⟩))
  go_ret
  exact ⟨by first | rfl | simp, rfl⟩

end Go.Proofs.Ytnpjldolppikfaa
