/- The document's When: by a contract. No condition. -/
import Derived.Test.YtjdkndpcjjjlfaaKRefR
namespace Go.Proofs.Ytjdkndpcjjjlfaa
open Go.RowKit Go.Shelf

theorem at_first {n d o j r t : Int} (h : okK n d o j = true) (h1 : o ≤ t) : r ≤ atV n d o j t ↔ firstV n d o j r ≤ t := by
  obtain ⟨⟨d1, d2, n1, n2⟩, ⟨o1, o2⟩, j1, j2⟩ := okK_yes h
  unfold atV firstV
  by_cases hr : r ≤ j
  · rw [if_pos hr]
    have := Int.ediv_nonneg (Int.mul_nonneg (show 0 ≤ n by omega) (show 0 ≤ t - o by omega)) (show 0 ≤ d by omega)
    omega
  · rw [if_neg hr]
    have a : r - j ≤ n * (t - o) / d ↔ (r - j) * d ≤ n * (t - o) := Int.le_ediv_iff_mul_le (by omega)
    have b : ((r - j) * d + n - 1) / n < (t - o) + 1 ↔ (r - j) * d + n - 1 < ((t - o) + 1) * n := Int.ediv_lt_iff_lt_mul (by omega)
    have c : ((t - o) + 1) * n = n * (t - o) + n := by rw [Int.add_mul, Int.one_mul, Int.mul_comm]
    rw [c] at b
    generalize (r - j) * d = m at *
    generalize n * (t - o) = p at *
    generalize p / d = q at *
    generalize (m + n - 1) / n = s at *
    constructor
    · intro g
      have := a.1 (by omega)
      have := b.2 (by omega)
      omega
    · intro g
      have := b.1 (by omega)
      have := a.2 (by omega)
      omega
theorem first_on {n d o j r : Int} (h : okK n d o j = true) : o ≤ firstV n d o j r := by
  obtain ⟨⟨d1, d2, n1, n2⟩, _⟩ := okK_yes h
  unfold firstV
  by_cases hr : r ≤ j
  · rw [if_pos hr]; exact Int.le_refl _
  · rw [if_neg hr]
    have m1 : 0 ≤ (r - j) * d := Int.mul_nonneg (by omega) (by omega)
    have := Int.ediv_nonneg (show 0 ≤ (r - j) * d + n - 1 by omega) (show 0 ≤ n by omega)
    omega

set_option maxHeartbeats 2000000 in
theorem refWhen_go (n d o j r : Int) (w : World) (hk : okK n d o j = true) (hr : r ≤ lastV n d o j) : Calls Try.prog 11 #[.agg #[.int .i64 n, .int .i64 d, .int .i64 o, .int .i64 j], .int .i64 r] w fun e w' => e = .returned (.tuple #[.int .i64 (whenV n d o j r), .int .i64 (whenE n d o j r)]) ∧ Below w.heap.size w w' := by
  have hb : Below w.heap.size w (w.alloc (.cells #[.int .i64 n, .int .i64 d, .int .i64 o, .int .i64 j] 25)) := (Below.refl _ _).alloc (Nat.le_refl _) _
  have hW1 := Whole.new w 25 #[.int .i64 n, .int .i64 d, .int .i64 o, .int .i64 j]
  obtain ⟨_, ⟨o1, o2⟩, _⟩ := okK_yes hk
  have HA := Lib.hid (fun t (h1 : o ≤ t) => at_first (r := r) hk h1)
  have f1 := first_on (r := r) hk
  have f2 : firstV n d o j r ≤ 4294967296 := (at_first hk o2).1 hr
  have HV := Lib.hid (show whenV n d o j r = firstV n d o j r by simp [whenV, whenB, hk, hr])
  have HE := Lib.hid (show whenE n d o j r = 0 by simp [whenE, hk, hr])
  have HC := Lib.hid (fun W => refCheck_k n d o j W)
  have hR : ∀ t W, o ≤ t → t ≤ 4294967296 → Calls Try.prog 9 #[.agg #[.int .i64 n, .int .i64 d, .int .i64 o, .int .i64 j], .int .i64 t] W fun e w' => e = .returned (.tuple #[.int .i64 (atV n d o j t), .int .i64 0]) ∧ Below W.heap.size W w' := fun t W h1 h2 => by
    have := refReads_any n d o j t W
    rw [readB_mk hk h1 h2] at this
    exact this
  have HR := Lib.hid hR
  have HC0 := Lib.hid (show refE (!true) = 0 from rfl)
  rw [hk] at HC
  have HL := Lib.hid (show atV n d o j 4294967296 = lastV n d o j from rfl)
  have hd : decide (lastV n d o j < r) = false := decide_eq_false (by omega)
  clear hR hk
  generalize firstV n d o j r = F at *
  generalize lastV n d o j = L at *
  go_enter Try.func11, Try.ntmps11
  go_wp2_with (first
    | (go_at_call 17; refine (HC.out _).mono ?_; rintro e wA ⟨rfl, bA⟩; rw [HC0.out]; have kA := k_then bA hb; have hA1 := k_later bA hW1; obtain ⟨a0, a1, a2, a3, af⟩ := k_four hA1)
    | (go_at_call 9; refine (HR.out 4294967296 _ o2 (Int.le_refl _)).mono ?_; rintro e wB ⟨rfl, bB⟩; rw [HL.out]; have kB := k_then bB kA; have hB1 := k_later bB hA1; obtain ⟨b0, b1, b2, b3, bf⟩ := k_four hB1))
  clear a0 a1 a2 a3 af b0 b1 b2 b3 bf hA1 kA bA bB hb hW1
  go_loopw [8, 9] (fun a b V => ∃ lo hi : Int, a = .int .i64 lo ∧ b = .int .i64 hi ∧ o ≤ lo ∧ lo ≤ F ∧ F ≤ hi ∧ hi ≤ 4294967296 ∧ Below w.heap.size w V ∧ Whole V w.heap.size 25 #[.int .i64 n, .int .i64 d, .int .i64 o, .int .i64 j]) (fun a b _ => (intOf b - intOf a).toNat)
  case atStart => exact ⟨o, 4294967296, rfl, rfl, Int.le_refl _, f1, f2, Int.le_refl _, kB, hB1⟩
  case round =>
    obtain ⟨lo, hi, rfl, rfl, l1, l2, l3, l4, kV, hV⟩ := hrel
    obtain ⟨a0, a1, a2, a3, af⟩ := k_four hV
    by_cases hlt : lo < hi
    · have em : (lo + hi).tdiv 2 = (lo + hi) / 2 := Int.tdiv_eq_ediv_of_nonneg (by omega)
      have m1 : lo ≤ (lo + hi) / 2 := by omega
      have m2 : (lo + hi) / 2 < hi := by omega
      generalize (lo + hi) / 2 = M at *
      have HM := Lib.hid (HA.out M (by omega))
      have HRM := Lib.hid (fun W => HR.out M W (by omega) (by omega))
      generalize atV n d o j M = x at *
      by_cases hx : r ≤ x
      · have hF := HM.out.1 hx
        go_wp2_with (go_at_call 9; refine (HRM.out _).mono ?_; rintro e wC ⟨rfl, bC⟩; have kC := k_then bC kV; have hC := k_later bC hV)
        go_roundw
        case rel => exact ⟨lo, M, rfl, rfl, l1, l2, hF, by omega, kC, hC⟩
        case measure => simp [intOf]; omega
      · have hF : M + 1 ≤ F := by
          have : ¬ F ≤ M := fun g => hx (HM.out.2 g)
          omega
        have e1 : decide (r ≤ x) = false := decide_eq_false hx
        go_wp2_with (go_at_call 9; refine (HRM.out _).mono ?_; rintro e wC ⟨rfl, bC⟩; have kC := k_then bC kV; have hC := k_later bC hV)
        go_roundw
        case rel => exact ⟨M + 1, hi, rfl, rfl, by omega, hF, l3, l4, kC, hC⟩
        case measure => simp [intOf]; omega
    · have e1 : decide (lo < hi) = false := decide_eq_false hlt
      obtain rfl : lo = F := by omega
      go_wp2
      go_ret2
      exact ⟨by rw [HV.out, HE.out]; rfl, kV⟩

end Go.Proofs.Ytjdkndpcjjjlfaa
