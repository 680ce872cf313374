/- Of TableBegins and TableTurns: the pure part. No condition. -/
import Derived.Test.YtdeiohcciafffaaPRef4
namespace Go.Proofs.Ytdeiohcciafffaa
open Go.RowKit Go.Shelf

theorem spot_is {x : Pl} {r s : Int} (h1 : 0 ≤ s) (h2 : s < x.nodes) : spotR x (ahP x r s) = r ∧ spotS x (ahP x r s) = s := by
  have e : ahP x r s = s + r * x.nodes := by unfold ahP; omega
  unfold spotR spotS
  rw [e]
  exact ⟨by rw [Int.add_mul_ediv_right _ _ (by omega), Int.ediv_eq_zero_of_lt h1 h2]; omega, by rw [Int.add_mul_emod_self_right, Int.emod_eq_of_lt h1 h2]⟩
theorem spot_back (x : Pl) (k : Int) : ahP x (spotR x k) (spotS x k) = k := by
  unfold ahP spotR spotS
  rw [Int.mul_comm (k / x.nodes) x.nodes]
  exact Int.mul_ediv_add_emod k x.nodes
theorem tick_back {a b : Int} (h : 1 ≤ b) : (a * b - 1) / b = a - 1 := by
  have e : a * b - 1 = (b - 1) + (a - 1) * b := by rw [Int.sub_mul]; omega
  rw [e, Int.add_mul_ediv_right _ _ (by omega), Int.ediv_eq_zero_of_lt (by omega) (by omega)]
  omega
/-- A place that so many slots are ahead of. -/
theorem spot_own {x : Pl} (h : okP x = true) {k : Int} (h0 : 0 ≤ k) (h1 : spotR x k ≤ 2147483647) : hasP x (spotR x k) (spotS x k) = true := by
  have B := bound_of h
  have n1 := B.n1
  exact has_mk h (Int.ediv_nonneg h0 (by omega)) h1 (Int.emod_nonneg _ (by omega)) (Int.emod_lt_of_pos _ (by omega))
theorem spot_le {x : Pl} (B : BoundP x) {r s k : Int} (S : SpotP x r s) (h : k ≤ ahP x r s) : spotR x k ≤ r := by
  have n1 := B.n1
  obtain ⟨e, _⟩ := spot_is (x := x) (r := r) S.s1 S.s2
  rw [← e]
  exact Int.ediv_le_ediv (by omega) h

section
variable {x : Pl} {r s : Int}

theorem beg_of (h : hasP x r s = true) (hr : r < 2147483647) : ofB x (bgP x r s) = true ∧ spotR x (bgP x r s / x.slot) = r ∧ spotS x (bgP x r s / x.slot) = s := by
  obtain ⟨B, S⟩ := has_yes h
  have hk : okP x = true := by simp only [hasP, Bool.and_eq_true] at h; exact h.1
  have t1 := B.s1
  have n1 := B.n1
  have b1 : 0 ≤ bgP x r s := S.b1
  have m1 : (r + 1) * x.nodes ≤ 2147483647 * x.nodes := Int.mul_le_mul_of_nonneg_right (by omega) (by omega)
  rw [Int.add_mul] at m1
  have m2 : ahP x r s ≤ ahP x 2147483647 0 := by have := S.s2; unfold ahP; omega
  have m3 : bgP x r s ≤ bgP x 2147483647 0 := Int.mul_le_mul_of_nonneg_right m2 (by omega)
  have e : bgP x r s / x.slot = ahP x r s := Int.mul_ediv_cancel _ (by omega)
  obtain ⟨e1, e2⟩ := spot_is (x := x) (r := r) S.s1 S.s2
  rw [e, e1, e2]
  exact ⟨by simp [ofB, hk, b1, m3], rfl, rfl⟩
theorem beg_first (h : hasP x r s = true) (h0 : r = 0 ∧ s = 0) : ofB x (bgP x r s - 1) = false := by
  obtain ⟨rfl, rfl⟩ := h0
  have e : bgP x 0 0 = 0 := by simp [bgP, ahP]
  rw [e]
  simp [ofB]
theorem beg_off (h : hasP x r s = true) (hr : r < 2147483647) (hg : ofB x (bgP x r s - 1) = false) : r = 0 ∧ s = 0 := by
  obtain ⟨B, S⟩ := has_yes h
  obtain ⟨ho, _⟩ := beg_of h hr
  simp only [ofB, Bool.and_eq_true, decide_eq_true_eq] at ho
  simp only [ofB, ho.1, Bool.true_and, Bool.and_eq_false_iff, decide_eq_false_iff_not] at hg
  have hb : ¬ 1 ≤ bgP x r s := by omega
  have ha : ¬ 1 ≤ ahP x r s := by
    intro hk
    have := Int.mul_le_mul_of_nonneg_right hk (show 0 ≤ x.slot from Int.le_trans (by omega) B.s1)
    have := B.s1
    have : 1 ≤ ahP x r s * x.slot := by omega
    exact hb this
  have a1 := S.a1
  have s1 := S.s1
  have hz : r * x.nodes = 0 ∧ s = 0 := by unfold ahP at ha; omega
  refine ⟨?_, hz.2⟩
  have n1 := B.n1
  rcases Int.mul_eq_zero.1 hz.1 with h | h
  · exact h
  · omega
theorem beg_ahead (h : hasP x r s = true) (hg : ofB x (bgP x r s - 1) = true) :
    hasP x (spotR x ((bgP x r s - 1) / x.slot)) (spotS x ((bgP x r s - 1) / x.slot)) = true ∧
    nxB x (spotR x ((bgP x r s - 1) / x.slot)) (spotS x ((bgP x r s - 1) / x.slot)) = true ∧
    spotR x (ahP x (spotR x ((bgP x r s - 1) / x.slot)) (spotS x ((bgP x r s - 1) / x.slot)) + 1) = r ∧
    spotS x (ahP x (spotR x ((bgP x r s - 1) / x.slot)) (spotS x ((bgP x r s - 1) / x.slot)) + 1) = s ∧
    apartP x (spotR x ((bgP x r s - 1) / x.slot)) (spotS x ((bgP x r s - 1) / x.slot)) r s = 1 := by
  obtain ⟨B, S⟩ := has_yes h
  simp only [ofB, Bool.and_eq_true, decide_eq_true_eq] at hg
  obtain ⟨hk, g1, g2⟩ := hg
  have t1 := B.s1
  have e : (bgP x r s - 1) / x.slot = ahP x r s - 1 := tick_back t1
  have a0 : 0 ≤ (bgP x r s - 1) / x.slot := Int.ediv_nonneg g1 (by omega)
  rw [e] at a0
  rw [e, apartP, spot_back, nxB, spot_back]
  obtain ⟨e1, e2⟩ := spot_is (x := x) (r := r) S.s1 S.s2
  have hl := spot_le B S (k := ahP x r s - 1) (by omega)
  have r2 := S.r2
  have ho := spot_own hk a0 (by omega)
  rw [ho, show ahP x r s - 1 + 1 = ahP x r s by omega, e1, e2]
  exact ⟨rfl, by simp [r2], rfl, rfl, by omega⟩
theorem beg_next (hn : nxB x r s = true) :
    hasP x (spotR x (ahP x r s + 1)) (spotS x (ahP x r s + 1)) = true ∧
    bgP x (spotR x (ahP x r s + 1)) (spotS x (ahP x r s + 1)) = bgP x r s + x.slot ∧
    apartP x (spotR x (ahP x r s + 1)) (spotS x (ahP x r s + 1)) r s = -1 := by
  simp only [nxB, Bool.and_eq_true, decide_eq_true_eq] at hn
  obtain ⟨h, hn⟩ := hn
  obtain ⟨B, S⟩ := has_yes h
  have hk : okP x = true := by simp only [hasP, Bool.and_eq_true] at h; exact h.1
  have a0 : 0 ≤ ahP x r s := by have := S.a1; have := S.s1; unfold ahP; omega
  rw [apartP, bgP, spot_back, Int.add_mul]
  exact ⟨spot_own hk (by omega) hn, by unfold bgP; omega, by omega⟩
theorem beg_last (h : hasP x r s = true) (hn : nxB x r s = false) : r = 2147483647 ∧ s = x.nodes - 1 := by
  obtain ⟨B, S⟩ := has_yes h
  have hh := Lib.hid h
  rw [nxB, h, Bool.true_and] at hn
  have hn := of_decide_eq_false hn
  have s1 := S.s1
  have s2 := S.s2
  have r2 := S.r2
  by_cases hs : s + 1 < x.nodes
  · rw [(spot_on s1 hs).1] at hn
    omega
  · rw [(spot_over s1 (by omega)).1] at hn
    omega
theorem beg_on (h : hasP x r s = true) (hr : r < 2147483647) : nxB x r s = true := by
  cases hn : nxB x r s
  · have := (beg_last h hn).1
    omega
  · rfl

/-- Two rounds that follow one another. -/
theorem turn_full (h : hasP x r s = true) (h2 : hasP x (wrap64 (r + 1)) s = true) : (fullP x r s == fullP x (wrap64 (r + 1)) s) = false := by
  obtain ⟨_, S⟩ := has_yes h
  have r1 := S.r1
  have r2 := S.r2
  have e : wrap64 (r + 1) = r + 1 := by unfold wrap64; omega
  rw [e] at h2 ⊢
  rw [fullP, fullP, h, h2, Bool.true_and, Bool.true_and]
  rcases Int.emod_two_eq (r + s) with k | k
  · have k2 : (r + 1 + s) % 2 = 1 := by omega
    rw [k, k2]; rfl
  · have k2 : (r + 1 + s) % 2 = 0 := by omega
    rw [k, k2]; rfl
theorem node_any (k : Int) (h0 : 0 ≤ k) (h1 : k ≤ 2147483647) (n : Int) : hasP x k n = (okP x && nodeP x n) := by
  simp [hasP, placeP, roundP, h0, h1]
theorem turn_listen (n : Int) : bgP x 3 n = bgP x 1 n + 2 * rdL x := by
  unfold bgP ahP rdL
  rw [Int.add_mul, Int.add_mul, Int.one_mul, Int.mul_assoc]
  omega
theorem turn_wait {n : Int} (B : BoundP x) (h : 0 ≤ n) : rdL x ≤ bgP x 1 n := by
  have t := B.s1
  have : 0 ≤ n * x.slot := Int.mul_nonneg h (by omega)
  unfold bgP ahP rdL
  rw [Int.add_mul, Int.one_mul]
  omega
theorem turn_on (k n : Int) : bgP x k (n + 1) = bgP x k n + x.slot := by
  unfold bgP ahP
  rw [← Int.add_assoc, Int.add_mul _ 1]
  omega
theorem turn_round (B : BoundP x) : roundL x = rdL x := if_pos B.f3
end
end Go.Proofs.Ytdeiohcciafffaa
