/- The document's Keeps, Reads, Set and Restart: by contracts. No condition. -/
import Derived.Test.YtjdkndpcjjjlfaaKChk
namespace Go.Proofs.Ytjdkndpcjjjlfaa
open Go.RowKit Go.Shelf

theorem keepB_no {n d rho : Int} (h : ¬ (okK n d 0 0 = true ∧ (4 ≤ rho ∧ rho ≤ 1048576) ∧ (n - d) * rho ≤ d ∧ (d - n) * rho ≤ d)) : refE (!keepB n d rho) = 60 := by
  cases e : keepB n d rho
  · rfl
  · simp only [keepB, Bool.and_eq_true, Bool.not_eq_true', decide_eq_true_eq] at e
    refine absurd ⟨e.1, outB_no e.2.1, ?_, ?_⟩ h
    · rw [Int.mul_comm]; exact e.2.2.1
    · rw [Int.mul_comm]; exact e.2.2.2
theorem keepB_yes {n d rho : Int} (h : okK n d 0 0 = true ∧ (4 ≤ rho ∧ rho ≤ 1048576) ∧ (n - d) * rho ≤ d ∧ (d - n) * rho ≤ d) : refE (!keepB n d rho) = 0 := by
  have e : keepB n d rho = true := by
    simp only [keepB, Bool.and_eq_true, Bool.not_eq_true', decide_eq_true_eq]
    refine ⟨h.1, outB_mk h.2.1.1 h.2.1.2, ?_, ?_⟩
    · rw [Int.mul_comm]; exact h.2.2.1
    · rw [Int.mul_comm]; exact h.2.2.2
  rw [e]; rfl
theorem keep_bounds {n d rho : Int} (h : okK n d 0 0 = true) (h1 : 4 ≤ rho) (h2 : rho ≤ 1048576) : (-68719476736 ≤ (n - d) * rho ∧ (n - d) * rho ≤ 68719476736) ∧ (d - n) * rho = -((n - d) * rho) := by
  obtain ⟨⟨d1, d2, n1, n2⟩, _⟩ := okK_yes h
  have hm : (d - n) * rho = -((n - d) * rho) := by rw [← Int.neg_mul]; congr 1; omega
  rcases Int.le_total n d with h | h
  · have a : 0 ≤ (d - n) * rho := Int.mul_nonneg (by omega) (by omega)
    have b : (d - n) * rho ≤ 65536 * 1048576 := Int.mul_le_mul (by omega) h2 (by omega) (by omega)
    exact ⟨⟨by omega, by omega⟩, hm⟩
  · have a : 0 ≤ (n - d) * rho := Int.mul_nonneg (by omega) (by omega)
    have b : (n - d) * rho ≤ 65536 * 1048576 := Int.mul_le_mul (by omega) h2 (by omega) (by omega)
    exact ⟨⟨by omega, by omega⟩, hm⟩

set_option maxHeartbeats 1000000 in
theorem refKeeps_any (n d rho : Int) (w : World) : Calls Try.prog 19 #[.agg #[.int .i64 n, .int .i64 d], .int .i64 rho] w fun e w' => e = .returned (.int .i64 (refE (!keepB n d rho))) ∧ Below w.heap.size w w' := by
  have hb : Below w.heap.size w (w.alloc (.cells #[.int .i64 n, .int .i64 d] 23)) := (Below.refl _ _).alloc (Nat.le_refl _) _
  have hW1 := Whole.new w 23 #[.int .i64 n, .int .i64 d]
  have HN := Lib.hid (fun h => keepB_no (n := n) (d := d) (rho := rho) h)
  have HC := Lib.hid (fun W => refCheck_k n d 0 0 W)
  cases hk : okK n d 0 0
  · have HV := Lib.hid (HN.out (fun h => by rw [hk] at h; exact absurd h.1 (by decide)))
    have HE := Lib.hid (show refE (!false) = 60 from rfl)
    rw [hk] at HC
    clear hk
    go_enter Try.func19, Try.ntmps19
    go_wp2_with (go_at_call 17; refine (HC.out _).mono ?_; rintro e wA ⟨rfl, bA⟩; rw [HE.out]; have kA := k_then bA hb)
    go_ret
    exact ⟨by rw [HV.out]; rfl, kA⟩
  have HE := Lib.hid (show refE (!true) = 0 from rfl)
  rw [hk] at HC
  by_cases a1 : rho < 4
  · have HV := Lib.hid (HN.out (fun h => by omega))
    clear hk
    go_enter Try.func19, Try.ntmps19
    go_wp2_with (go_at_call 17; refine (HC.out _).mono ?_; rintro e wA ⟨rfl, bA⟩; rw [HE.out]; have kA := k_then bA hb)
    go_ret
    exact ⟨by rw [HV.out]; rfl, kA⟩
  have d1 : decide (rho < 4) = false := decide_eq_false a1
  by_cases a2 : 1048576 < rho
  · have HV := Lib.hid (HN.out (fun h => by omega))
    clear hk
    go_enter Try.func19, Try.ntmps19
    go_wp2_with (go_at_call 17; refine (HC.out _).mono ?_; rintro e wA ⟨rfl, bA⟩; rw [HE.out]; have kA := k_then bA hb)
    go_ret
    exact ⟨by rw [HV.out]; rfl, kA⟩
  have d2 : decide (1048576 < rho) = false := decide_eq_false a2
  obtain ⟨⟨b1, b2⟩, b3⟩ := keep_bounds hk (show 4 ≤ rho by omega) (show rho ≤ 1048576 by omega)
  obtain ⟨⟨c1, c2, c3, c4⟩, _⟩ := okK_yes hk
  have HY := Lib.hid (fun h => keepB_yes (n := n) (d := d) (rho := rho) ⟨hk, ⟨by omega, by omega⟩, h⟩)
  have HN2 := Lib.hid (fun (h : ¬ ((n - d) * rho ≤ d ∧ (d - n) * rho ≤ d)) => HN.out (fun g => h g.2.2))
  clear hk HN
  have b4 : -68719476736 ≤ (d - n) * rho := by omega
  have b5 : (d - n) * rho ≤ 68719476736 := by omega
  clear b3
  generalize hx : (n - d) * rho = x at *
  generalize hy : (d - n) * rho = y at *
  by_cases a3 : d < x
  · have HV := Lib.hid (HN2.out (fun h => by omega))
    go_enter Try.func19, Try.ntmps19
    go_wp2_with (go_at_call 17; refine (HC.out _).mono ?_; rintro e wA ⟨rfl, bA⟩; rw [HE.out]; have kA := k_then bA hb; obtain ⟨e0, e1, ef⟩ := k_two (k_later bA hW1))
    go_ret
    exact ⟨by rw [HV.out]; rfl, kA⟩
  have d3 : decide (d < x) = false := decide_eq_false a3
  by_cases a4 : d < y
  · have HV := Lib.hid (HN2.out (fun h => by omega))
    go_enter Try.func19, Try.ntmps19
    go_wp2_with (go_at_call 17; refine (HC.out _).mono ?_; rintro e wA ⟨rfl, bA⟩; rw [HE.out]; have kA := k_then bA hb; obtain ⟨e0, e1, ef⟩ := k_two (k_later bA hW1))
    go_ret
    exact ⟨by rw [HV.out]; rfl, kA⟩
  have d4 : decide (d < y) = false := decide_eq_false a4
  have HV := Lib.hid (HY.out (by omega))
  go_enter Try.func19, Try.ntmps19
  go_wp2_with (go_at_call 17; refine (HC.out _).mono ?_; rintro e wA ⟨rfl, bA⟩; rw [HE.out]; have kA := k_then bA hb; obtain ⟨e0, e1, ef⟩ := k_two (k_later bA hW1))
  go_ret
  exact ⟨by rw [HV.out]; rfl, kA⟩

end Go.Proofs.Ytjdkndpcjjjlfaa
