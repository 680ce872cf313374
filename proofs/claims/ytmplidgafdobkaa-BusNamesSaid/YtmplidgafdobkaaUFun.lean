/- The bus' small questions, by contracts. No condition. -/
import Derived.Test.YtmplidgafdobkaaUDef
namespace Go.Proofs.Ytmplidgafdobkaa
open Go.RowKit Go.Shelf

section
variable {w : World}
theorem made_b (b l : Nat) (h : w.cell? ⟨b, 0, none⟩ = some (.pointer (some ⟨l, 0, none⟩))) : Calls Try.prog 26 #[.pointer (some ⟨b, 0, none⟩)] w fun e w' => e = .returned (.bool true) ∧ w' = w := by
  go_enter Try.func26, Try.ntmps26
  go_wp2
  go_ret
  exact ⟨rfl, rfl⟩
theorem made_zero (b : Nat) (h : w.cell? ⟨b, 0, none⟩ = some (.pointer none)) : Calls Try.prog 26 #[.pointer (some ⟨b, 0, none⟩)] w fun e w' => e = .returned (.bool false) ∧ w' = w := by
  go_enter Try.func26, Try.ntmps26
  go_wp2
  go_ret
  exact ⟨rfl, rfl⟩
theorem made_nil : Calls Try.prog 26 #[.pointer none] w fun e w' => e = .returned (.bool false) ∧ w' = w := by
  go_enter Try.func26, Try.ntmps26
  go_wp2
  go_ret
  exact ⟨rfl, rfl⟩
theorem hasNode_any (l : Nat) (n N : Int) (h : w.cell? ⟨l, 0, none⟩ = some (.int .i64 N)) : Calls Try.prog 27 #[.pointer (some ⟨l, 0, none⟩), .int .i64 n] w fun e w' => e = .returned (.bool (decide (0 ≤ n) && decide (n < N))) ∧ w' = w := by
  go_enter Try.func27, Try.ntmps27
  by_cases h1 : 0 ≤ n
  · by_cases h2 : n < N
    · go_wp2
      go_ret
      exact ⟨by simp; omega, rfl⟩
    · go_wp2
      go_ret
      exact ⟨by simp; omega, rfl⟩
  · go_wp2
    go_ret
    exact ⟨by simp; omega, rfl⟩
theorem mayCome_any (l : Nat) (t m : Int) (h : w.cell? ⟨l, 17, none⟩ = some (.int .i64 m)) : Calls Try.prog 28 #[.pointer (some ⟨l, 0, none⟩), .int .i64 t] w fun e w' => e = .returned (.bool (decide (m ≤ t) && decide (t ≤ 4294967296))) ∧ w' = w := by
  go_enter Try.func28, Try.ntmps28
  by_cases h1 : m ≤ t
  · by_cases h2 : t ≤ 4294967296
    · go_wp2
      go_ret
      exact ⟨by simp; omega, rfl⟩
    · go_wp2
      go_ret
      exact ⟨by simp; omega, rfl⟩
  · go_wp2
    go_ret
    exact ⟨by simp; omega, rfl⟩
theorem passes_any (l : Nat) (t o : Int) (h : w.cell? ⟨l, 18, none⟩ = some (.int .i64 o)) : Calls Try.prog 30 #[.pointer (some ⟨l, 0, none⟩), .int .i64 t] w fun e w' => e = .returned (.bool (decide (o ≤ t))) ∧ w' = w := by
  go_enter Try.func30, Try.ntmps30
  go_wp2
  go_ret
  exact ⟨rfl, rfl⟩
theorem len_b (b l : Nat) (A : Option Addr) (n c : Nat) (h : w.cell? ⟨b, 0, none⟩ = some (.pointer (some ⟨l, 0, none⟩))) (h2 : w.cell? ⟨l, 16, none⟩ = some (.slice A n c)) :
    Calls Try.prog 13 #[.pointer (some ⟨b, 0, none⟩)] w fun e w' => e = .returned (.int .i64 (n : Int)) ∧ w' = w := by
  go_enter Try.func13, Try.ntmps13
  go_wp2_with (go_at_call 26; refine (made_b b l h).mono ?_; rintro e w' ⟨rfl, rfl⟩)
  go_ret
  exact ⟨rfl, rfl⟩
theorem has_b (b l : Nat) (A : Option Addr) (n c : Nat) (i : Int) (h : w.cell? ⟨b, 0, none⟩ = some (.pointer (some ⟨l, 0, none⟩))) (h2 : w.cell? ⟨l, 16, none⟩ = some (.slice A n c)) :
    Calls Try.prog 35 #[.pointer (some ⟨b, 0, none⟩), .int .i64 i] w fun e w' => e = .returned (.bool (decide (0 ≤ i) && decide (i < (n : Int)))) ∧ w' = w := by
  go_enter Try.func35, Try.ntmps35
  by_cases h1 : 0 ≤ i
  · by_cases h3 : i < (n : Int)
    · go_wp2_with (go_at_call 13; refine (len_b b l A n c h h2).mono ?_; rintro e w' ⟨rfl, rfl⟩)
      go_ret
      exact ⟨by simp; omega, rfl⟩
    · go_wp2_with (go_at_call 13; refine (len_b b l A n c h h2).mono ?_; rintro e w' ⟨rfl, rfl⟩)
      go_ret
      exact ⟨by simp; omega, rfl⟩
  · go_wp2_with (go_at_call 13; refine (len_b b l A n c h h2).mono ?_; rintro e w' ⟨rfl, rfl⟩)
    go_ret
    exact ⟨by simp; omega, rfl⟩
theorem free_b (b l : Nat) (m o t : Int) (h : w.cell? ⟨b, 0, none⟩ = some (.pointer (some ⟨l, 0, none⟩))) (h1 : w.cell? ⟨l, 17, none⟩ = some (.int .i64 m)) (h2 : w.cell? ⟨l, 18, none⟩ = some (.int .i64 o)) :
    Calls Try.prog 14 #[.pointer (some ⟨b, 0, none⟩), .int .i64 t] w fun e w' => e = .returned (.bool ((decide (m ≤ t) && decide (t ≤ 4294967296)) && decide (o ≤ t))) ∧ w' = w := by
  have hc := mayCome_any (w := w) l t m h1
  have hp := passes_any (w := w) l t o h2
  cases hq : (decide (m ≤ t) && decide (t ≤ 4294967296))
  · rw [hq] at hc
    go_enter Try.func14, Try.ntmps14
    go_wp2_with (first
      | (go_at_call 26; refine (made_b b l h).mono ?_; rintro e w' ⟨rfl, rfl⟩)
      | (go_at_call 28; refine hc.mono ?_; rintro e w' ⟨rfl, rfl⟩)
      | (go_at_call 30; refine hp.mono ?_; rintro e w' ⟨rfl, rfl⟩))
    go_ret
    exact ⟨rfl, rfl⟩
  · rw [hq] at hc
    generalize decide (o ≤ t) = ok at *
    go_enter Try.func14, Try.ntmps14
    go_wp2_with (first
      | (go_at_call 26; refine (made_b b l h).mono ?_; rintro e w' ⟨rfl, rfl⟩)
      | (go_at_call 28; refine hc.mono ?_; rintro e w' ⟨rfl, rfl⟩)
      | (go_at_call 30; refine hp.mono ?_; rintro e w' ⟨rfl, rfl⟩))
    go_ret
    exact ⟨rfl, rfl⟩
end
end Go.Proofs.Ytmplidgafdobkaa
