/- The document's own small functions of a group, each by a contract. -/
import Derived.Test.YtnpjldolppikfaaGPure
namespace Go.Proofs.Ytnpjldolppikfaa
open Go.RowKit

theorem refHas_no {g : Nat} {n : Int} (h : nodeB n = false) (w : World) : Calls Try.prog 70 #[.int .u16 (g : Int), .int .i64 n] w fun e w' => e = .returned (.bool (hasG g n)) ∧ w = w' := by
  rw [hasG_no h]
  rcases node_no h with h' | h'
  · clear h
    go_enter Try.func70, Try.ntmps70
    go_wp2
    go_ret
    exact ⟨rfl, rfl⟩
  · clear h
    have h1 : decide (n < 0) = false := decide_eq_false (by omega)
    go_enter Try.func70, Try.ntmps70
    go_wp2
    go_ret
    exact ⟨rfl, rfl⟩

set_option maxHeartbeats 1000000 in
theorem refHas_yes {g n : Nat} (hg : g < 65536) (h : n ≤ 15) (w : World) : Calls Try.prog 70 #[.int .u16 (g : Int), .int .i64 (n : Int)] w fun e w' => e = .returned (.bool (hasG g (n : Int))) ∧ w = w' := by
  have hz := qG_zero g
  have HZ := Lib.hid hz
  have hq := qG_has (g := g) (k := n) (by omega)
  have HQ := Lib.hid hq
  clear hz hq
  go_enter Try.func70, Try.ntmps70
  go_wp2
  go_loop [0, 5] (fun t i => ∃ k : Nat, k ≤ n ∧ i = .int .i64 (k : Int) ∧ t = .int .u16 ((qG g k : Nat) : Int)) (fun _ i => n - (intOf i).toNat)
  case atStart => exact ⟨0, by omega, rfl, by rw [HZ.out]⟩
  case round =>
    obtain ⟨k, hk, rfl, rfl⟩ := hrel
    have hql := qG_lt k hg
    by_cases hlt : k < n
    · have hs := qG_succ g k
      have HS := Lib.hid hs
      clear hs
      go_wp2
      go_round
      case rel => exact ⟨k + 1, by omega, by go_num, by rw [HS.out]⟩
      case measure => simp [intOf]; omega
    · obtain rfl : k = n := by omega
      go_wp2
      go_ret
      exact ⟨by rw [← HQ.out]; rfl, rfl⟩

theorem refHas_any (g : Nat) (n : Int) (w : World) (hg : g < 65536) : Calls Try.prog 70 #[.int .u16 (g : Int), .int .i64 n] w fun e w' => e = .returned (.bool (hasG g n)) ∧ w = w' := by
  cases h : nodeB n
  · exact refHas_no h w
  · obtain ⟨a, b⟩ := node_yes h
    obtain ⟨k, rfl⟩ := Int.eq_ofNat_of_zero_le a
    exact refHas_yes hg (by omega) w

theorem one_no {n : Int} (h : nodeB n = false) (w : World) : Calls Try.prog 71 #[.int .i64 n] w fun e w' => e = .returned (.int .u16 ((onlyG n : Nat) : Int)) ∧ w = w' := by
  have hv : onlyG n = 0 := by simp [onlyG, h]
  rw [hv]
  rcases node_no h with h' | h'
  · clear h hv
    go_enter Try.func71, Try.ntmps71
    go_wp2
    go_ret
    exact ⟨rfl, rfl⟩
  · clear h hv
    have h1 : decide (n < 0) = false := decide_eq_false (by omega)
    go_enter Try.func71, Try.ntmps71
    go_wp2
    go_ret
    exact ⟨rfl, rfl⟩

set_option maxHeartbeats 1000000 in
theorem one_yes {n : Nat} (h : n ≤ 15) (w : World) : Calls Try.prog 71 #[.int .i64 (n : Int)] w fun e w' => e = .returned (.int .u16 ((onlyG (n : Int) : Nat) : Int)) ∧ w = w' := by
  rw [← pG_only (by omega)]
  go_enter Try.func71, Try.ntmps71
  go_wp2
  go_loop [3, 4] (fun t i => ∃ k : Nat, k ≤ n ∧ i = .int .i64 (k : Int) ∧ t = .int .u16 ((pG k : Nat) : Int)) (fun _ i => n - (intOf i).toNat)
  case atStart => exact ⟨0, by omega, rfl, rfl⟩
  case round =>
    obtain ⟨k, hk, rfl, rfl⟩ := hrel
    by_cases hlt : k < n
    · have hp := pG_le (k := k) (by omega)
      have hs := pG_succ k
      have HS := Lib.hid hs
      clear hs
      go_wp2
      go_round
      case rel => exact ⟨k + 1, by omega, by go_num, by rw [HS.out]⟩
      case measure => simp [intOf]; omega
    · obtain rfl : k = n := by omega
      go_wp2
      go_ret
      exact ⟨rfl, rfl⟩

theorem one_any (n : Int) (w : World) : Calls Try.prog 71 #[.int .i64 n] w fun e w' => e = .returned (.int .u16 ((onlyG n : Nat) : Int)) ∧ w = w' := by
  cases h : nodeB n
  · exact one_no h w
  · obtain ⟨a, b⟩ := node_yes h
    obtain ⟨k, rfl⟩ := Int.eq_ofNat_of_zero_le a
    exact one_yes (by omega) w

theorem refWith_any (g : Nat) (n : Int) (w : World) (hg : g < 65536) : Calls Try.prog 52 #[.int .u16 (g : Int), .int .i64 n] w fun e w' => e = .returned (.int .u16 ((withG g n : Nat) : Int)) ∧ w = w' := by
  cases h : hasG g n
  · have he := with_add hg h
    have hl := withG_lt n hg
    rw [he] at hl ⊢
    have H := Lib.hid h
    clear h he
    go_enter Try.func52, Try.ntmps52
    go_wp2_with (first | (go_at_call 70; refine (refHas_any _ _ _ hg).mono ?_; rintro e w' ⟨rfl, rfl⟩; rw [H.out]) | (go_at_call 71; refine (one_any _ _).mono ?_; rintro e w' ⟨rfl, rfl⟩))
    go_ret
    exact ⟨by simp, rfl⟩
  · have he := with_has hg h
    rw [he]
    have H := Lib.hid h
    clear h he
    go_enter Try.func52, Try.ntmps52
    go_wp2_with (go_at_call 70; refine (refHas_any _ _ _ hg).mono ?_; rintro e w' ⟨rfl, rfl⟩; rw [H.out])
    go_ret
    exact ⟨rfl, rfl⟩

theorem refWithout_any (g : Nat) (n : Int) (w : World) (hg : g < 65536) : Calls Try.prog 53 #[.int .u16 (g : Int), .int .i64 n] w fun e w' => e = .returned (.int .u16 ((withoutG g n : Nat) : Int)) ∧ w = w' := by
  cases h : hasG g n
  · have he := without_has hg h
    rw [he]
    have H := Lib.hid h
    clear h he
    go_enter Try.func53, Try.ntmps53
    go_wp2_with (go_at_call 70; refine (refHas_any _ _ _ hg).mono ?_; rintro e w' ⟨rfl, rfl⟩; rw [H.out])
    go_ret
    exact ⟨rfl, rfl⟩
  · have he := without_sub hg h
    have hs : ((withoutG g n : Nat) : Int) = (g : Int) - (onlyG n : Int) := by omega
    have hle : onlyG n ≤ g := by omega
    rw [hs]
    have H := Lib.hid h
    clear h he hs
    go_enter Try.func53, Try.ntmps53
    go_wp2_with (first | (go_at_call 70; refine (refHas_any _ _ _ hg).mono ?_; rintro e w' ⟨rfl, rfl⟩; rw [H.out]) | (go_at_call 71; refine (one_any _ _).mono ?_; rintro e w' ⟨rfl, rfl⟩))
    go_ret
    exact ⟨rfl, rfl⟩

end Go.Proofs.Ytnpjldolppikfaa
