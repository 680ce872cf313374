/- Whether a rate keeps a bound: by a contract. No condition. -/
import Derived.Test.YtjdkndpcjjjlfaaKClk
namespace Go.Proofs.Ytjdkndpcjjjlfaa
open Go.RowKit Go.Shelf

def strayB (n d rho : Int) : Bool := decide (d < wrap64 (rho * max (wrap64 (n - d)) (wrap64 (d - n))))

set_option maxHeartbeats 1000000 in
theorem keep1_any (n d rho : Int) (x g : Nat) (t1 t2 : TypeId) (w : World) (h1 : Whole w x t1 #[.int .i64 rho]) (h2 : Whole w g t2 #[.int .i64 n, .int .i64 d]) :
    Calls Try.prog 31 #[.pointer (some ⟨x, 0, none⟩), .pointer (some ⟨g, 0, none⟩)] w fun e w' => e = .returned (.bool (strayB n d rho)) ∧ Below w.heap.size w w' := by
  obtain ⟨c1, f1⟩ := k_one h1
  obtain ⟨c2, c3, f2⟩ := k_two h2
  go_enter Try.func31, Try.ntmps31
  go_wp2
  all_goals go_ret
  · have hm : max (wrap64 (n - d)) (wrap64 (d - n)) = wrap64 (d - n) := by omega
    exact ⟨by show Ending.returned (.bool (decide (d < wrap64 (rho * wrap64 (d - n))))) = _; rw [strayB, hm], Below.refl _ _⟩
  · have hm : max (wrap64 (n - d)) (wrap64 (d - n)) = wrap64 (n - d) := by omega
    exact ⟨by show Ending.returned (.bool (decide (d < wrap64 (rho * wrap64 (n - d))))) = _; rw [strayB, hm], Below.refl _ _⟩

def keepB (n d rho : Int) : Bool := okK n d 0 0 && (!outB rho 4 1048576 && (decide (rho * (n - d) ≤ d) && decide (rho * (d - n) ≤ d)))

theorem okK_yes {n d o j : Int} (h : okK n d o j = true) : (1 ≤ d ∧ d ≤ 65536 ∧ 1 ≤ n ∧ n ≤ 2 * d) ∧ (0 ≤ o ∧ o ≤ 4294967296) ∧ -4294967296 ≤ j ∧ j ≤ 4294967296 := by
  simp only [okK, rateB, outB, Bool.and_eq_true, Bool.not_eq_true', Bool.or_eq_false_iff, decide_eq_true_eq, decide_eq_false_iff_not] at h
  omega
theorem okK_mk {n d o j : Int} (h : (1 ≤ d ∧ d ≤ 65536 ∧ 1 ≤ n ∧ n ≤ 2 * d) ∧ (0 ≤ o ∧ o ≤ 4294967296) ∧ -4294967296 ≤ j ∧ j ≤ 4294967296) : okK n d o j = true := by
  simp only [okK, rateB, outB, Bool.and_eq_true, Bool.not_eq_true', Bool.or_eq_false_iff, decide_eq_true_eq, decide_eq_false_iff_not]
  omega
theorem okK_no {n d o j : Int} (h : ¬ ((1 ≤ d ∧ d ≤ 65536 ∧ 1 ≤ n ∧ n ≤ 2 * d) ∧ (0 ≤ o ∧ o ≤ 4294967296) ∧ -4294967296 ≤ j ∧ j ≤ 4294967296)) : okK n d o j = false := by
  cases e : okK n d o j
  · rfl
  · exact absurd (okK_yes e) h
theorem outB_no {n a b : Int} (h : outB n a b = false) : a ≤ n ∧ n ≤ b := by
  simp only [outB, Bool.or_eq_false_iff, decide_eq_false_iff_not] at h
  omega
theorem outB_yes {n a b : Int} (h : outB n a b = true) : n < a ∨ b < n := by
  simpa only [outB, Bool.or_eq_true, decide_eq_true_eq] using h
theorem outB_mk {n a b : Int} (h : a ≤ n) (h2 : n ≤ b) : outB n a b = false := by
  simp only [outB, Bool.or_eq_false_iff, decide_eq_false_iff_not]
  omega

theorem keep_ref (n d rho : Int) : (!okK n d 0 0 || (outB rho 4 1048576 || strayB n d rho)) = !keepB n d rho := by
  unfold keepB
  cases h1 : okK n d 0 0
  · rfl
  cases h2 : outB rho 4 1048576
  · obtain ⟨⟨d1, d2, n1, n2⟩, _⟩ := okK_yes h1
    obtain ⟨r1, r2⟩ := outB_no h2
    have e1 : wrap64 (n - d) = n - d := by unfold wrap64; omega
    have e2 : wrap64 (d - n) = d - n := by unfold wrap64; omega
    simp only [Bool.not_true, Bool.not_false, Bool.false_or, Bool.true_and, strayB, e1, e2]
    rcases Int.le_total (n - d) (d - n) with hm | hm
    · have hx : max (n - d) (d - n) = d - n := by omega
      have hp1 : 0 ≤ rho * (d - n) := Int.mul_nonneg (by omega) (by omega)
      have hp2 : rho * (d - n) ≤ 1048576 * 65536 := Int.mul_le_mul r2 (by omega) (by omega) (by omega)
      have hn : rho * (n - d) = -(rho * (d - n)) := by rw [← Int.mul_neg]; congr 1; omega
      have e3 : wrap64 (rho * (d - n)) = rho * (d - n) := by unfold wrap64; omega
      have e4 : decide (rho * (n - d) ≤ d) = true := decide_eq_true (by omega)
      rw [hx, e3, e4, Bool.true_and, ← decide_not]
      congr 1
      simp
    · have hx : max (n - d) (d - n) = n - d := by omega
      have hp1 : 0 ≤ rho * (n - d) := Int.mul_nonneg (by omega) (by omega)
      have hp2 : rho * (n - d) ≤ 1048576 * 65536 := Int.mul_le_mul r2 (by omega) (by omega) (by omega)
      have hn : rho * (d - n) = -(rho * (n - d)) := by rw [← Int.mul_neg]; congr 1; omega
      have e3 : wrap64 (rho * (n - d)) = rho * (n - d) := by unfold wrap64; omega
      have e4 : decide (rho * (d - n) ≤ d) = true := decide_eq_true (by omega)
      rw [hx, e3, e4, Bool.and_true, ← decide_not]
      congr 1
      simp
  · rfl

set_option maxRecDepth 100000 in
set_option maxHeartbeats 2000000 in
theorem keeps_any (n d rho : Int) (w : World) : Calls Try.prog 18 #[.agg #[.int .i64 n, .int .i64 d], .int .i64 rho] w fun e w' => e = .returned (.int .i64 (refE (!keepB n d rho))) ∧ Below w.heap.size w w' := by
  have hmf : ∀ (fn : Fn) (first cap : Array Value) (w : World), (Instr.makeFunc fn first cap).run Try.prog w = .ok (.func fn first cap) w := fun _ _ _ _ => rfl
  have HO := Lib.hid (keep_ref n d rho)
  obtain ⟨W, hWe⟩ : ∃ W, (w.alloc (.cells #[.int .i64 n, .int .i64 d] 23)).alloc (.cells #[.int .i64 rho] 2) = W := ⟨_, rfl⟩
  have hb : Below w.heap.size w W := by rw [← hWe]; exact ((Below.refl _ _).alloc (Nat.le_refl _) _).alloc (by simp) _
  have hW1 : Whole W w.heap.size 23 #[.int .i64 n, .int .i64 d] := by rw [← hWe]; exact (Whole.new w _ _).alloc _
  have hW2 : Whole W (w.heap.size + 1) 2 #[.int .i64 rho] := by
    rw [← hWe]
    have := Whole.new (w.alloc (.cells #[.int .i64 n, .int .i64 d] 23)) 2 #[.int .i64 rho]
    simpa using this
  obtain ⟨c0, c1, cf⟩ := k_two hW1
  obtain ⟨c2, cg⟩ := k_one hW2
  have hb0 := Below.refl W.heap.size W
  have dS : Doubt Try.prog W (.func (.func 31) #[] #[.pointer (some ⟨w.heap.size + 1, 0, none⟩), .pointer (some ⟨w.heap.size, 0, none⟩)]) (strayB n d rho) :=
    ⟨_, _, rfl, enters_of Try.func31 (by kernel_rfl) rfl, fun V hV => keep1_any n d rho _ _ _ _ V (k_later hV hW2) (k_later hV hW1)⟩
  have HC := Lib.hid (fun V (hV : Below W.heap.size W V) => (⟨k_cell hV c0, k_cell hV c1, k_cell hV c2⟩ : V.cell? ⟨w.heap.size, 0, none⟩ = some (.int .i64 n) ∧ V.cell? ⟨w.heap.size, 1, none⟩ = some (.int .i64 d) ∧ V.cell? ⟨w.heap.size + 1, 0, none⟩ = some (.int .i64 rho)))
  have HW := Lib.hid hWe
  clear hWe hW1 hW2
  go_enter Try.func18, Try.ntmps18
  go_wp2
  rw [HW.out]
  go_region_held3 (fun w' => w'.cell? ⟨w.heap.size, 0, none⟩ = some (.int .i64 n) ∧ w'.cell? ⟨w.heap.size, 1, none⟩ = some (.int .i64 d) ∧ w'.cell? ⟨w.heap.size + 1, 0, none⟩ = some (.int .i64 rho)) (first | exact HC.out _ kC | exact HC.out _ (kB.alloc kB.size _) | exact HC.out _ kB | exact HC.out _ kA | exact HC.out _ (below_drewN hb0 1)) (first
    | (go_at_call 30; refine (noClock_any n d 0 0 _).mono ?_; rintro e wA ⟨vA, rfl, dA, bA⟩; obtain ⟨fA, qA, hA⟩ := dA.open; subst hA; have kA : Below W.heap.size W wA := k_then bA (below_drewN hb0 1))
    | (go_at_call 26; refine (beyond_any rho 4 1048576 _).mono ?_; rintro e wB ⟨vB, rfl, dB, bB⟩; obtain ⟨fB, qB, hB⟩ := dB.open; subst hB; have kB : Below W.heap.size W wB := k_then bB kA; have dA2 := dA.later bB)
    | (go_at_call 29; refine (refused3 _ _ _ (!okK n d 0 0) (outB rho 4 1048576) (strayB n d rho) _ _ _ _ (Whole.new wB _ _) (dA2.later ((Below.refl _ _).alloc (Nat.le_refl _) _)) (dB.later ((Below.refl _ _).alloc (Nat.le_refl _) _)) (dS.later (kB.alloc kB.size _))).mono ?_; rintro e wC ⟨rfl, bC⟩; rw [HO.out]; have kC := k_then bC (kB.alloc kB.size _)))
  go_wp2
  go_ret
  exact ⟨rfl, hb.trans (kC.mono hb.size)⟩

end Go.Proofs.Ytjdkndpcjjjlfaa
