/- RateDrift, its walk. -/
import Derived.Test.YtjdkndpcjjjlfaaKLaw
namespace Go.Proofs.Ytjdkndpcjjjlfaa
open Go.RowKit Go.Shelf

/-- Of two floors of one slope. -/
theorem floors {n d x y : Int} : d * (n * y / d - n * x / d - (y - x)) = (n - d) * (y - x) - (n * y % d - n * x % d) := by
  have h1 := Int.mul_ediv_add_emod (n * y) d
  have h2 := Int.mul_ediv_add_emod (n * x) d
  rw [Int.mul_sub, Int.mul_sub, Int.sub_mul, Int.mul_sub n y x]
  omega
theorem off_bound {d k T rho m : Int} (hd : 1 ≤ d) (hr : 0 ≤ rho) (hT : 0 ≤ T) (h : d * m ≤ k * T) (hk : k * rho ≤ d) : m * rho ≤ T := by
  have a : d * m * rho ≤ k * T * rho := Int.mul_le_mul_of_nonneg_right h hr
  have b : k * rho * T ≤ d * T := Int.mul_le_mul_of_nonneg_right hk hT
  have c : k * T * rho = k * rho * T := by rw [Int.mul_assoc, Int.mul_comm T rho, ← Int.mul_assoc]
  have e : d * (m * rho) ≤ d * T := by rw [← Int.mul_assoc]; omega
  exact Int.le_of_mul_le_mul_left e (by omega)
/-- What the law asks of two readings. -/
theorem drift_fact {n d o j rho u v : Int} (hk : okK n d o j = true) (h2 : u ≤ v) (hr0 : 4 ≤ rho) (hr1 : rho ≤ 1048576) (k1 : rho * (n - d) ≤ d) (k2 : rho * (d - n) ≤ d) :
    0 ≤ atV n d o j v - atV n d o j u ∧ (atV n d o j v - atV n d o j u - (v - u) - 1) * rho ≤ v - u ∧ ((v - u) - (atV n d o j v - atV n d o j u) - 1) * rho ≤ v - u := by
  obtain ⟨⟨d1, d2, n1, n2⟩, _⟩ := okK_yes hk
  have hm : n * (u - o) ≤ n * (v - o) := Int.mul_le_mul_of_nonneg_left (by omega) (by omega)
  have hq : n * (u - o) / d ≤ n * (v - o) / d := Int.ediv_le_ediv (by omega) hm
  have hf := floors (n := n) (d := d) (x := u - o) (y := v - o)
  have a1 := Int.emod_nonneg (n * (v - o)) (show d ≠ 0 by omega)
  have a2 := Int.emod_lt_of_pos (n * (v - o)) (show 0 < d by omega)
  have a3 := Int.emod_nonneg (n * (u - o)) (show d ≠ 0 by omega)
  have a4 := Int.emod_lt_of_pos (n * (u - o)) (show 0 < d by omega)
  have et : v - o - (u - o) = v - u := by omega
  rw [et] at hf
  have eg : atV n d o j v - atV n d o j u = n * (v - o) / d - n * (u - o) / d := by unfold atV; omega
  rw [eg]
  generalize n * (v - o) / d = p at *
  generalize n * (u - o) / d = q at *
  generalize n * (v - o) % d = s at *
  generalize n * (u - o) % d = z at *
  have hT : 0 ≤ v - u := by omega
  have hc1 : (d - n) * (v - u) = -((n - d) * (v - u)) := by rw [← Int.neg_mul]; congr 1; omega
  refine ⟨by omega, ?_, ?_⟩
  · refine off_bound d1 (by omega) hT ?_ (by rw [Int.mul_comm]; exact k1)
    have e : d * (p - q - (v - u) - 1) = d * (p - q - (v - u)) - d := by rw [Int.mul_sub d _ 1, Int.mul_one]
    omega
  · refine off_bound d1 (by omega) hT ?_ (by rw [Int.mul_comm]; exact k2)
    have e : d * (v - u - (p - q) - 1) = -(d * (p - q - (v - u))) - d := by
      rw [Int.mul_sub d _ 1, Int.mul_one, ← Int.mul_neg]
      congr 2
      omega
    omega
theorem at_in {n d o j t : Int} (h : okK n d o j = true) (h1 : o ≤ t) (h2 : t ≤ 4294967296) : -4294967296 ≤ atV n d o j t ∧ atV n d o j t ≤ 12884901888 := by
  have b := at_bounds h h1 h2
  have := okK_yes h
  have := b.q1
  have := b.q2
  unfold atV
  omega

set_option maxRecDepth 100000 in
set_option maxHeartbeats 1000000 in
theorem drift_first0 (n d o j rho u v B F : Int) (w : World) (HU : (∀ W, Calls Try.prog 8 #[.agg #[.int .i64 n, .int .i64 d, .int .i64 o, .int .i64 j], .int .i64 u] W fun e w' => e = .returned (.tuple #[.int .i64 0, .int .i64 60]) ∧ Below W.heap.size W w')) (HV : (∀ W, Calls Try.prog 8 #[.agg #[.int .i64 n, .int .i64 d, .int .i64 o, .int .i64 j], .int .i64 v] W fun e w' => e = .returned (.tuple #[.int .i64 B, .int .i64 F]) ∧ Below W.heap.size W w')) (s1 : u ≤ v) :
    Calls Try.prog 6 #[.agg #[.int .i64 n, .int .i64 d, .int .i64 o, .int .i64 j], .int .i64 rho, .int .i64 u, .int .i64 v] w fun e w' => e = .returned (.bool true) ∧ Below w.heap.size w w' := by
  have k0 : Below w.heap.size w (w.alloc (.cells #[.int .i64 n, .int .i64 d, .int .i64 o, .int .i64 j] 25)) := (Below.refl _ _).alloc (Nat.le_refl _) _
  have h0 := Whole.new w 25 #[.int .i64 n, .int .i64 d, .int .i64 o, .int .i64 j]
  obtain ⟨c0, c1, c2, c3, cf⟩ := k_four h0
  have HA := Lib.hid (fun W => alive_r W)
  have HUh := Lib.hid HU
  have HVh := Lib.hid HV
  clear HU HV
  have l0 : decide (v < u) = false := decide_eq_false (by omega)
  go_enter Try.func6, Try.ntmps6
  go_wp2_with fail
  refine (HA.out _).mono ?_
  rintro e w1 ⟨rfl, b1⟩
  have k1 := k_then b1 k0
  have h1 := k_later b1 h0
  clear c0 c1 c2 c3 cf k0 h0 b1
  obtain ⟨c0, c1, c2, c3, cf⟩ := k_four h1
  go_wp2_with fail
  refine (HUh.out _).mono ?_
  rintro e w2 ⟨rfl, b2⟩
  have k2 := k_then b2 k1
  have h2 := k_later b2 h1
  clear c0 c1 c2 c3 cf k1 h1 b2
  obtain ⟨c0, c1, c2, c3, cf⟩ := k_four h2
  go_wp2_with fail
  refine (HVh.out _).mono ?_
  rintro e w3 ⟨rfl, b3⟩
  have k3 := k_then b3 k2
  have h3 := k_later b3 h2
  clear c0 c1 c2 c3 cf k2 h2 b3
  obtain ⟨c0, c1, c2, c3, cf⟩ := k_four h3
  go_wp2
  go_ret
  exact ⟨rfl, k3⟩

set_option maxRecDepth 100000 in
set_option maxHeartbeats 1000000 in
theorem drift_second0 (n d o j rho u v A : Int) (w : World) (HU : (∀ W, Calls Try.prog 8 #[.agg #[.int .i64 n, .int .i64 d, .int .i64 o, .int .i64 j], .int .i64 u] W fun e w' => e = .returned (.tuple #[.int .i64 A, .int .i64 0]) ∧ Below W.heap.size W w')) (HV : (∀ W, Calls Try.prog 8 #[.agg #[.int .i64 n, .int .i64 d, .int .i64 o, .int .i64 j], .int .i64 v] W fun e w' => e = .returned (.tuple #[.int .i64 0, .int .i64 60]) ∧ Below W.heap.size W w')) (s1 : u ≤ v) :
    Calls Try.prog 6 #[.agg #[.int .i64 n, .int .i64 d, .int .i64 o, .int .i64 j], .int .i64 rho, .int .i64 u, .int .i64 v] w fun e w' => e = .returned (.bool true) ∧ Below w.heap.size w w' := by
  have k0 : Below w.heap.size w (w.alloc (.cells #[.int .i64 n, .int .i64 d, .int .i64 o, .int .i64 j] 25)) := (Below.refl _ _).alloc (Nat.le_refl _) _
  have h0 := Whole.new w 25 #[.int .i64 n, .int .i64 d, .int .i64 o, .int .i64 j]
  obtain ⟨c0, c1, c2, c3, cf⟩ := k_four h0
  have HA := Lib.hid (fun W => alive_r W)
  have HUh := Lib.hid HU
  have HVh := Lib.hid HV
  clear HU HV
  have l0 : decide (v < u) = false := decide_eq_false (by omega)
  go_enter Try.func6, Try.ntmps6
  go_wp2_with fail
  refine (HA.out _).mono ?_
  rintro e w1 ⟨rfl, b1⟩
  have k1 := k_then b1 k0
  have h1 := k_later b1 h0
  clear c0 c1 c2 c3 cf k0 h0 b1
  obtain ⟨c0, c1, c2, c3, cf⟩ := k_four h1
  go_wp2_with fail
  refine (HUh.out _).mono ?_
  rintro e w2 ⟨rfl, b2⟩
  have k2 := k_then b2 k1
  have h2 := k_later b2 h1
  clear c0 c1 c2 c3 cf k1 h1 b2
  obtain ⟨c0, c1, c2, c3, cf⟩ := k_four h2
  go_wp2_with fail
  refine (HVh.out _).mono ?_
  rintro e w3 ⟨rfl, b3⟩
  have k3 := k_then b3 k2
  have h3 := k_later b3 h2
  clear c0 c1 c2 c3 cf k2 h2 b3
  obtain ⟨c0, c1, c2, c3, cf⟩ := k_four h3
  go_wp2
  go_ret
  exact ⟨rfl, k3⟩

set_option maxRecDepth 100000 in
set_option maxHeartbeats 1000000 in
theorem drift_keep0 (n d o j rho u v A B : Int) (w : World) (HU : (∀ W, Calls Try.prog 8 #[.agg #[.int .i64 n, .int .i64 d, .int .i64 o, .int .i64 j], .int .i64 u] W fun e w' => e = .returned (.tuple #[.int .i64 A, .int .i64 0]) ∧ Below W.heap.size W w')) (HV : (∀ W, Calls Try.prog 8 #[.agg #[.int .i64 n, .int .i64 d, .int .i64 o, .int .i64 j], .int .i64 v] W fun e w' => e = .returned (.tuple #[.int .i64 B, .int .i64 0]) ∧ Below W.heap.size W w')) (s1 : u ≤ v) (HK : (∀ W, Calls Try.prog 18 #[.agg #[.int .i64 n, .int .i64 d], .int .i64 rho] W fun e w' => e = .returned (.int .i64 60) ∧ Below W.heap.size W w')) :
    Calls Try.prog 6 #[.agg #[.int .i64 n, .int .i64 d, .int .i64 o, .int .i64 j], .int .i64 rho, .int .i64 u, .int .i64 v] w fun e w' => e = .returned (.bool true) ∧ Below w.heap.size w w' := by
  have k0 : Below w.heap.size w (w.alloc (.cells #[.int .i64 n, .int .i64 d, .int .i64 o, .int .i64 j] 25)) := (Below.refl _ _).alloc (Nat.le_refl _) _
  have h0 := Whole.new w 25 #[.int .i64 n, .int .i64 d, .int .i64 o, .int .i64 j]
  obtain ⟨c0, c1, c2, c3, cf⟩ := k_four h0
  have HA := Lib.hid (fun W => alive_r W)
  have HUh := Lib.hid HU
  have HVh := Lib.hid HV
  have HKh := Lib.hid HK
  clear HU HV HK
  have l0 : decide (v < u) = false := decide_eq_false (by omega)
  go_enter Try.func6, Try.ntmps6
  go_wp2_with fail
  refine (HA.out _).mono ?_
  rintro e w1 ⟨rfl, b1⟩
  have k1 := k_then b1 k0
  have h1 := k_later b1 h0
  clear c0 c1 c2 c3 cf k0 h0 b1
  obtain ⟨c0, c1, c2, c3, cf⟩ := k_four h1
  go_wp2_with fail
  refine (HUh.out _).mono ?_
  rintro e w2 ⟨rfl, b2⟩
  have k2 := k_then b2 k1
  have h2 := k_later b2 h1
  clear c0 c1 c2 c3 cf k1 h1 b2
  obtain ⟨c0, c1, c2, c3, cf⟩ := k_four h2
  go_wp2_with fail
  refine (HVh.out _).mono ?_
  rintro e w3 ⟨rfl, b3⟩
  have k3 := k_then b3 k2
  have h3 := k_later b3 h2
  clear c0 c1 c2 c3 cf k2 h2 b3
  obtain ⟨c0, c1, c2, c3, cf⟩ := k_four h3
  go_wp2_with fail
  refine (HKh.out _).mono ?_
  rintro e w4 ⟨rfl, b4⟩
  have k4 := k_then b4 k3
  have h4 := k_later b4 h3
  clear c0 c1 c2 c3 cf k3 h3 b4
  obtain ⟨c0, c1, c2, c3, cf⟩ := k_four h4
  go_wp2
  go_ret
  exact ⟨rfl, k4⟩

set_option maxRecDepth 100000 in
set_option maxHeartbeats 1000000 in
theorem drift_ahead0 (n d o j rho u v A B : Int) (w : World) (HU : (∀ W, Calls Try.prog 8 #[.agg #[.int .i64 n, .int .i64 d, .int .i64 o, .int .i64 j], .int .i64 u] W fun e w' => e = .returned (.tuple #[.int .i64 A, .int .i64 0]) ∧ Below W.heap.size W w')) (HV : (∀ W, Calls Try.prog 8 #[.agg #[.int .i64 n, .int .i64 d, .int .i64 o, .int .i64 j], .int .i64 v] W fun e w' => e = .returned (.tuple #[.int .i64 B, .int .i64 0]) ∧ Below W.heap.size W w')) (s1 : u ≤ v) (HK : (∀ W, Calls Try.prog 18 #[.agg #[.int .i64 n, .int .i64 d], .int .i64 rho] W fun e w' => e = .returned (.int .i64 0) ∧ Below W.heap.size W w')) (u0 : 0 ≤ u) (v0 : v ≤ 4294967296) (r0 : 4 ≤ rho) (r1 : rho ≤ 1048576) (g0 : 0 ≤ B - A) (g1 : B - A ≤ 17179869184) (f0 : 0 ≤ B - A - (v - u)) (f1 : (B - A - (v - u) - 1) * rho ≤ v - u) :
    Calls Try.prog 6 #[.agg #[.int .i64 n, .int .i64 d, .int .i64 o, .int .i64 j], .int .i64 rho, .int .i64 u, .int .i64 v] w fun e w' => e = .returned (.bool true) ∧ Below w.heap.size w w' := by
  have k0 : Below w.heap.size w (w.alloc (.cells #[.int .i64 n, .int .i64 d, .int .i64 o, .int .i64 j] 25)) := (Below.refl _ _).alloc (Nat.le_refl _) _
  have h0 := Whole.new w 25 #[.int .i64 n, .int .i64 d, .int .i64 o, .int .i64 j]
  obtain ⟨c0, c1, c2, c3, cf⟩ := k_four h0
  have HA := Lib.hid (fun W => alive_r W)
  have HUh := Lib.hid HU
  have HVh := Lib.hid HV
  have HKh := Lib.hid HK
  clear HU HV HK
  have l0 : decide (v < u) = false := decide_eq_false (by omega)
  obtain ⟨G, hG⟩ : ∃ G, B - A = G := ⟨_, rfl⟩
  obtain ⟨T, hT⟩ : ∃ T, v - u = T := ⟨_, rfl⟩
  have T0 : 0 ≤ T := by omega
  have T1 : T ≤ 4294967296 := by omega
  rw [hG, hT] at f0 f1
  rw [hG] at g0 g1
  obtain ⟨O, hO⟩ : ∃ O, G - T = O := ⟨_, rfl⟩
  rw [hO] at f0 f1
  have O1 : O ≤ 17179869184 := by omega
  have l1 : decide (O < 0) = false := decide_eq_false (by omega)
  have M0 : -1048576 ≤ (O - 1) * rho := by
    have h : (-1) * rho ≤ (O - 1) * rho := Int.mul_le_mul_of_nonneg_right (by omega) (by omega)
    omega
  obtain ⟨M, hM⟩ : ∃ M, (O - 1) * rho = M := ⟨_, rfl⟩
  rw [hM] at M0 f1
  have l2 : (decide (M < T + 1)) = true := decide_eq_true (by omega)
  go_enter Try.func6, Try.ntmps6
  go_wp2_with fail
  refine (HA.out _).mono ?_
  rintro e w1 ⟨rfl, b1⟩
  have k1 := k_then b1 k0
  have h1 := k_later b1 h0
  clear c0 c1 c2 c3 cf k0 h0 b1
  obtain ⟨c0, c1, c2, c3, cf⟩ := k_four h1
  go_wp2_with fail
  refine (HUh.out _).mono ?_
  rintro e w2 ⟨rfl, b2⟩
  have k2 := k_then b2 k1
  have h2 := k_later b2 h1
  clear c0 c1 c2 c3 cf k1 h1 b2
  obtain ⟨c0, c1, c2, c3, cf⟩ := k_four h2
  go_wp2_with fail
  refine (HVh.out _).mono ?_
  rintro e w3 ⟨rfl, b3⟩
  have k3 := k_then b3 k2
  have h3 := k_later b3 h2
  clear c0 c1 c2 c3 cf k2 h2 b3
  obtain ⟨c0, c1, c2, c3, cf⟩ := k_four h3
  go_wp2_with fail
  refine (HKh.out _).mono ?_
  rintro e w4 ⟨rfl, b4⟩
  have k4 := k_then b4 k3
  have h4 := k_later b4 h3
  clear c0 c1 c2 c3 cf k3 h3 b4
  obtain ⟨c0, c1, c2, c3, cf⟩ := k_four h4
  go_wp2
  go_ret
  exact ⟨rfl, k4⟩

set_option maxRecDepth 100000 in
set_option maxHeartbeats 1000000 in
theorem drift_behind0 (n d o j rho u v A B : Int) (w : World) (HU : (∀ W, Calls Try.prog 8 #[.agg #[.int .i64 n, .int .i64 d, .int .i64 o, .int .i64 j], .int .i64 u] W fun e w' => e = .returned (.tuple #[.int .i64 A, .int .i64 0]) ∧ Below W.heap.size W w')) (HV : (∀ W, Calls Try.prog 8 #[.agg #[.int .i64 n, .int .i64 d, .int .i64 o, .int .i64 j], .int .i64 v] W fun e w' => e = .returned (.tuple #[.int .i64 B, .int .i64 0]) ∧ Below W.heap.size W w')) (s1 : u ≤ v) (HK : (∀ W, Calls Try.prog 18 #[.agg #[.int .i64 n, .int .i64 d], .int .i64 rho] W fun e w' => e = .returned (.int .i64 0) ∧ Below W.heap.size W w')) (u0 : 0 ≤ u) (v0 : v ≤ 4294967296) (r0 : 4 ≤ rho) (r1 : rho ≤ 1048576) (g0 : 0 ≤ B - A) (g1 : B - A ≤ 17179869184) (f0 : B - A - (v - u) < 0) (f1 : (v - u - (B - A) - 1) * rho ≤ v - u) :
    Calls Try.prog 6 #[.agg #[.int .i64 n, .int .i64 d, .int .i64 o, .int .i64 j], .int .i64 rho, .int .i64 u, .int .i64 v] w fun e w' => e = .returned (.bool true) ∧ Below w.heap.size w w' := by
  have k0 : Below w.heap.size w (w.alloc (.cells #[.int .i64 n, .int .i64 d, .int .i64 o, .int .i64 j] 25)) := (Below.refl _ _).alloc (Nat.le_refl _) _
  have h0 := Whole.new w 25 #[.int .i64 n, .int .i64 d, .int .i64 o, .int .i64 j]
  obtain ⟨c0, c1, c2, c3, cf⟩ := k_four h0
  have HA := Lib.hid (fun W => alive_r W)
  have HUh := Lib.hid HU
  have HVh := Lib.hid HV
  have HKh := Lib.hid HK
  clear HU HV HK
  have l0 : decide (v < u) = false := decide_eq_false (by omega)
  obtain ⟨G, hG⟩ : ∃ G, B - A = G := ⟨_, rfl⟩
  obtain ⟨T, hT⟩ : ∃ T, v - u = T := ⟨_, rfl⟩
  have T0 : 0 ≤ T := by omega
  have T1 : T ≤ 4294967296 := by omega
  rw [hG, hT] at f0 f1
  rw [hG] at g0 g1
  obtain ⟨N, hN⟩ : ∃ N, G - T = N := ⟨_, rfl⟩
  rw [hN] at f0
  obtain ⟨O, hO⟩ : ∃ O, -N = O := ⟨_, rfl⟩
  have eO : T - G - 1 = O - 1 := by omega
  rw [eO] at f1
  have O1 : O ≤ 17179869184 := by omega
  have O0 : 1 ≤ O := by omega
  clear eO
  have M0 : -1048576 ≤ (O - 1) * rho := by
    have h : (-1) * rho ≤ (O - 1) * rho := Int.mul_le_mul_of_nonneg_right (by omega) (by omega)
    omega
  obtain ⟨M, hM⟩ : ∃ M, (O - 1) * rho = M := ⟨_, rfl⟩
  rw [hM] at M0 f1
  have l2 : (decide (M < T + 1)) = true := decide_eq_true (by omega)
  go_enter Try.func6, Try.ntmps6
  go_wp2_with fail
  refine (HA.out _).mono ?_
  rintro e w1 ⟨rfl, b1⟩
  have k1 := k_then b1 k0
  have h1 := k_later b1 h0
  clear c0 c1 c2 c3 cf k0 h0 b1
  obtain ⟨c0, c1, c2, c3, cf⟩ := k_four h1
  go_wp2_with fail
  refine (HUh.out _).mono ?_
  rintro e w2 ⟨rfl, b2⟩
  have k2 := k_then b2 k1
  have h2 := k_later b2 h1
  clear c0 c1 c2 c3 cf k1 h1 b2
  obtain ⟨c0, c1, c2, c3, cf⟩ := k_four h2
  go_wp2_with fail
  refine (HVh.out _).mono ?_
  rintro e w3 ⟨rfl, b3⟩
  have k3 := k_then b3 k2
  have h3 := k_later b3 h2
  clear c0 c1 c2 c3 cf k2 h2 b3
  obtain ⟨c0, c1, c2, c3, cf⟩ := k_four h3
  go_wp2_with fail
  refine (HKh.out _).mono ?_
  rintro e w4 ⟨rfl, b4⟩
  have k4 := k_then b4 k3
  have h4 := k_later b4 h3
  clear c0 c1 c2 c3 cf k3 h3 b4
  obtain ⟨c0, c1, c2, c3, cf⟩ := k_four h4
  go_wp2
  go_ret
  exact ⟨rfl, k4⟩

set_option maxRecDepth 100000 in
set_option maxHeartbeats 1000000 in
theorem drift_first1 (n d o j rho u v B F : Int) (w : World) (HU : (∀ W, Calls Try.prog 8 #[.agg #[.int .i64 n, .int .i64 d, .int .i64 o, .int .i64 j], .int .i64 u] W fun e w' => e = .returned (.tuple #[.int .i64 0, .int .i64 60]) ∧ Below W.heap.size W w')) (HV : (∀ W, Calls Try.prog 8 #[.agg #[.int .i64 n, .int .i64 d, .int .i64 o, .int .i64 j], .int .i64 v] W fun e w' => e = .returned (.tuple #[.int .i64 B, .int .i64 F]) ∧ Below W.heap.size W w')) (s1 : u < v) :
    Calls Try.prog 6 #[.agg #[.int .i64 n, .int .i64 d, .int .i64 o, .int .i64 j], .int .i64 rho, .int .i64 v, .int .i64 u] w fun e w' => e = .returned (.bool true) ∧ Below w.heap.size w w' := by
  have k0 : Below w.heap.size w (w.alloc (.cells #[.int .i64 n, .int .i64 d, .int .i64 o, .int .i64 j] 25)) := (Below.refl _ _).alloc (Nat.le_refl _) _
  have h0 := Whole.new w 25 #[.int .i64 n, .int .i64 d, .int .i64 o, .int .i64 j]
  obtain ⟨c0, c1, c2, c3, cf⟩ := k_four h0
  have HA := Lib.hid (fun W => alive_r W)
  have HUh := Lib.hid HU
  have HVh := Lib.hid HV
  clear HU HV
  go_enter Try.func6, Try.ntmps6
  go_wp2_with fail
  refine (HA.out _).mono ?_
  rintro e w1 ⟨rfl, b1⟩
  have k1 := k_then b1 k0
  have h1 := k_later b1 h0
  clear c0 c1 c2 c3 cf k0 h0 b1
  obtain ⟨c0, c1, c2, c3, cf⟩ := k_four h1
  go_wp2_with fail
  refine (HUh.out _).mono ?_
  rintro e w2 ⟨rfl, b2⟩
  have k2 := k_then b2 k1
  have h2 := k_later b2 h1
  clear c0 c1 c2 c3 cf k1 h1 b2
  obtain ⟨c0, c1, c2, c3, cf⟩ := k_four h2
  go_wp2_with fail
  refine (HVh.out _).mono ?_
  rintro e w3 ⟨rfl, b3⟩
  have k3 := k_then b3 k2
  have h3 := k_later b3 h2
  clear c0 c1 c2 c3 cf k2 h2 b3
  obtain ⟨c0, c1, c2, c3, cf⟩ := k_four h3
  go_wp2
  go_ret
  exact ⟨rfl, k3⟩

set_option maxRecDepth 100000 in
set_option maxHeartbeats 1000000 in
theorem drift_second1 (n d o j rho u v A : Int) (w : World) (HU : (∀ W, Calls Try.prog 8 #[.agg #[.int .i64 n, .int .i64 d, .int .i64 o, .int .i64 j], .int .i64 u] W fun e w' => e = .returned (.tuple #[.int .i64 A, .int .i64 0]) ∧ Below W.heap.size W w')) (HV : (∀ W, Calls Try.prog 8 #[.agg #[.int .i64 n, .int .i64 d, .int .i64 o, .int .i64 j], .int .i64 v] W fun e w' => e = .returned (.tuple #[.int .i64 0, .int .i64 60]) ∧ Below W.heap.size W w')) (s1 : u < v) :
    Calls Try.prog 6 #[.agg #[.int .i64 n, .int .i64 d, .int .i64 o, .int .i64 j], .int .i64 rho, .int .i64 v, .int .i64 u] w fun e w' => e = .returned (.bool true) ∧ Below w.heap.size w w' := by
  have k0 : Below w.heap.size w (w.alloc (.cells #[.int .i64 n, .int .i64 d, .int .i64 o, .int .i64 j] 25)) := (Below.refl _ _).alloc (Nat.le_refl _) _
  have h0 := Whole.new w 25 #[.int .i64 n, .int .i64 d, .int .i64 o, .int .i64 j]
  obtain ⟨c0, c1, c2, c3, cf⟩ := k_four h0
  have HA := Lib.hid (fun W => alive_r W)
  have HUh := Lib.hid HU
  have HVh := Lib.hid HV
  clear HU HV
  go_enter Try.func6, Try.ntmps6
  go_wp2_with fail
  refine (HA.out _).mono ?_
  rintro e w1 ⟨rfl, b1⟩
  have k1 := k_then b1 k0
  have h1 := k_later b1 h0
  clear c0 c1 c2 c3 cf k0 h0 b1
  obtain ⟨c0, c1, c2, c3, cf⟩ := k_four h1
  go_wp2_with fail
  refine (HUh.out _).mono ?_
  rintro e w2 ⟨rfl, b2⟩
  have k2 := k_then b2 k1
  have h2 := k_later b2 h1
  clear c0 c1 c2 c3 cf k1 h1 b2
  obtain ⟨c0, c1, c2, c3, cf⟩ := k_four h2
  go_wp2_with fail
  refine (HVh.out _).mono ?_
  rintro e w3 ⟨rfl, b3⟩
  have k3 := k_then b3 k2
  have h3 := k_later b3 h2
  clear c0 c1 c2 c3 cf k2 h2 b3
  obtain ⟨c0, c1, c2, c3, cf⟩ := k_four h3
  go_wp2
  go_ret
  exact ⟨rfl, k3⟩

set_option maxRecDepth 100000 in
set_option maxHeartbeats 1000000 in
theorem drift_keep1 (n d o j rho u v A B : Int) (w : World) (HU : (∀ W, Calls Try.prog 8 #[.agg #[.int .i64 n, .int .i64 d, .int .i64 o, .int .i64 j], .int .i64 u] W fun e w' => e = .returned (.tuple #[.int .i64 A, .int .i64 0]) ∧ Below W.heap.size W w')) (HV : (∀ W, Calls Try.prog 8 #[.agg #[.int .i64 n, .int .i64 d, .int .i64 o, .int .i64 j], .int .i64 v] W fun e w' => e = .returned (.tuple #[.int .i64 B, .int .i64 0]) ∧ Below W.heap.size W w')) (s1 : u < v) (HK : (∀ W, Calls Try.prog 18 #[.agg #[.int .i64 n, .int .i64 d], .int .i64 rho] W fun e w' => e = .returned (.int .i64 60) ∧ Below W.heap.size W w')) :
    Calls Try.prog 6 #[.agg #[.int .i64 n, .int .i64 d, .int .i64 o, .int .i64 j], .int .i64 rho, .int .i64 v, .int .i64 u] w fun e w' => e = .returned (.bool true) ∧ Below w.heap.size w w' := by
  have k0 : Below w.heap.size w (w.alloc (.cells #[.int .i64 n, .int .i64 d, .int .i64 o, .int .i64 j] 25)) := (Below.refl _ _).alloc (Nat.le_refl _) _
  have h0 := Whole.new w 25 #[.int .i64 n, .int .i64 d, .int .i64 o, .int .i64 j]
  obtain ⟨c0, c1, c2, c3, cf⟩ := k_four h0
  have HA := Lib.hid (fun W => alive_r W)
  have HUh := Lib.hid HU
  have HVh := Lib.hid HV
  have HKh := Lib.hid HK
  clear HU HV HK
  go_enter Try.func6, Try.ntmps6
  go_wp2_with fail
  refine (HA.out _).mono ?_
  rintro e w1 ⟨rfl, b1⟩
  have k1 := k_then b1 k0
  have h1 := k_later b1 h0
  clear c0 c1 c2 c3 cf k0 h0 b1
  obtain ⟨c0, c1, c2, c3, cf⟩ := k_four h1
  go_wp2_with fail
  refine (HUh.out _).mono ?_
  rintro e w2 ⟨rfl, b2⟩
  have k2 := k_then b2 k1
  have h2 := k_later b2 h1
  clear c0 c1 c2 c3 cf k1 h1 b2
  obtain ⟨c0, c1, c2, c3, cf⟩ := k_four h2
  go_wp2_with fail
  refine (HVh.out _).mono ?_
  rintro e w3 ⟨rfl, b3⟩
  have k3 := k_then b3 k2
  have h3 := k_later b3 h2
  clear c0 c1 c2 c3 cf k2 h2 b3
  obtain ⟨c0, c1, c2, c3, cf⟩ := k_four h3
  go_wp2_with fail
  refine (HKh.out _).mono ?_
  rintro e w4 ⟨rfl, b4⟩
  have k4 := k_then b4 k3
  have h4 := k_later b4 h3
  clear c0 c1 c2 c3 cf k3 h3 b4
  obtain ⟨c0, c1, c2, c3, cf⟩ := k_four h4
  go_wp2
  go_ret
  exact ⟨rfl, k4⟩

set_option maxRecDepth 100000 in
set_option maxHeartbeats 1000000 in
theorem drift_ahead1 (n d o j rho u v A B : Int) (w : World) (HU : (∀ W, Calls Try.prog 8 #[.agg #[.int .i64 n, .int .i64 d, .int .i64 o, .int .i64 j], .int .i64 u] W fun e w' => e = .returned (.tuple #[.int .i64 A, .int .i64 0]) ∧ Below W.heap.size W w')) (HV : (∀ W, Calls Try.prog 8 #[.agg #[.int .i64 n, .int .i64 d, .int .i64 o, .int .i64 j], .int .i64 v] W fun e w' => e = .returned (.tuple #[.int .i64 B, .int .i64 0]) ∧ Below W.heap.size W w')) (s1 : u < v) (HK : (∀ W, Calls Try.prog 18 #[.agg #[.int .i64 n, .int .i64 d], .int .i64 rho] W fun e w' => e = .returned (.int .i64 0) ∧ Below W.heap.size W w')) (u0 : 0 ≤ u) (v0 : v ≤ 4294967296) (r0 : 4 ≤ rho) (r1 : rho ≤ 1048576) (g0 : 0 ≤ B - A) (g1 : B - A ≤ 17179869184) (f0 : 0 ≤ B - A - (v - u)) (f1 : (B - A - (v - u) - 1) * rho ≤ v - u) :
    Calls Try.prog 6 #[.agg #[.int .i64 n, .int .i64 d, .int .i64 o, .int .i64 j], .int .i64 rho, .int .i64 v, .int .i64 u] w fun e w' => e = .returned (.bool true) ∧ Below w.heap.size w w' := by
  have k0 : Below w.heap.size w (w.alloc (.cells #[.int .i64 n, .int .i64 d, .int .i64 o, .int .i64 j] 25)) := (Below.refl _ _).alloc (Nat.le_refl _) _
  have h0 := Whole.new w 25 #[.int .i64 n, .int .i64 d, .int .i64 o, .int .i64 j]
  obtain ⟨c0, c1, c2, c3, cf⟩ := k_four h0
  have HA := Lib.hid (fun W => alive_r W)
  have HUh := Lib.hid HU
  have HVh := Lib.hid HV
  have HKh := Lib.hid HK
  clear HU HV HK
  obtain ⟨G, hG⟩ : ∃ G, B - A = G := ⟨_, rfl⟩
  obtain ⟨T, hT⟩ : ∃ T, v - u = T := ⟨_, rfl⟩
  have T0 : 0 ≤ T := by omega
  have T1 : T ≤ 4294967296 := by omega
  rw [hG, hT] at f0 f1
  rw [hG] at g0 g1
  obtain ⟨O, hO⟩ : ∃ O, G - T = O := ⟨_, rfl⟩
  rw [hO] at f0 f1
  have O1 : O ≤ 17179869184 := by omega
  have l1 : decide (O < 0) = false := decide_eq_false (by omega)
  have M0 : -1048576 ≤ (O - 1) * rho := by
    have h : (-1) * rho ≤ (O - 1) * rho := Int.mul_le_mul_of_nonneg_right (by omega) (by omega)
    omega
  obtain ⟨M, hM⟩ : ∃ M, (O - 1) * rho = M := ⟨_, rfl⟩
  rw [hM] at M0 f1
  have l2 : (decide (M < T + 1)) = true := decide_eq_true (by omega)
  go_enter Try.func6, Try.ntmps6
  go_wp2_with fail
  refine (HA.out _).mono ?_
  rintro e w1 ⟨rfl, b1⟩
  have k1 := k_then b1 k0
  have h1 := k_later b1 h0
  clear c0 c1 c2 c3 cf k0 h0 b1
  obtain ⟨c0, c1, c2, c3, cf⟩ := k_four h1
  go_wp2_with fail
  refine (HUh.out _).mono ?_
  rintro e w2 ⟨rfl, b2⟩
  have k2 := k_then b2 k1
  have h2 := k_later b2 h1
  clear c0 c1 c2 c3 cf k1 h1 b2
  obtain ⟨c0, c1, c2, c3, cf⟩ := k_four h2
  go_wp2_with fail
  refine (HVh.out _).mono ?_
  rintro e w3 ⟨rfl, b3⟩
  have k3 := k_then b3 k2
  have h3 := k_later b3 h2
  clear c0 c1 c2 c3 cf k2 h2 b3
  obtain ⟨c0, c1, c2, c3, cf⟩ := k_four h3
  go_wp2_with fail
  refine (HKh.out _).mono ?_
  rintro e w4 ⟨rfl, b4⟩
  have k4 := k_then b4 k3
  have h4 := k_later b4 h3
  clear c0 c1 c2 c3 cf k3 h3 b4
  obtain ⟨c0, c1, c2, c3, cf⟩ := k_four h4
  go_wp2
  go_ret
  exact ⟨rfl, k4⟩

set_option maxRecDepth 100000 in
set_option maxHeartbeats 1000000 in
theorem drift_behind1 (n d o j rho u v A B : Int) (w : World) (HU : (∀ W, Calls Try.prog 8 #[.agg #[.int .i64 n, .int .i64 d, .int .i64 o, .int .i64 j], .int .i64 u] W fun e w' => e = .returned (.tuple #[.int .i64 A, .int .i64 0]) ∧ Below W.heap.size W w')) (HV : (∀ W, Calls Try.prog 8 #[.agg #[.int .i64 n, .int .i64 d, .int .i64 o, .int .i64 j], .int .i64 v] W fun e w' => e = .returned (.tuple #[.int .i64 B, .int .i64 0]) ∧ Below W.heap.size W w')) (s1 : u < v) (HK : (∀ W, Calls Try.prog 18 #[.agg #[.int .i64 n, .int .i64 d], .int .i64 rho] W fun e w' => e = .returned (.int .i64 0) ∧ Below W.heap.size W w')) (u0 : 0 ≤ u) (v0 : v ≤ 4294967296) (r0 : 4 ≤ rho) (r1 : rho ≤ 1048576) (g0 : 0 ≤ B - A) (g1 : B - A ≤ 17179869184) (f0 : B - A - (v - u) < 0) (f1 : (v - u - (B - A) - 1) * rho ≤ v - u) :
    Calls Try.prog 6 #[.agg #[.int .i64 n, .int .i64 d, .int .i64 o, .int .i64 j], .int .i64 rho, .int .i64 v, .int .i64 u] w fun e w' => e = .returned (.bool true) ∧ Below w.heap.size w w' := by
  have k0 : Below w.heap.size w (w.alloc (.cells #[.int .i64 n, .int .i64 d, .int .i64 o, .int .i64 j] 25)) := (Below.refl _ _).alloc (Nat.le_refl _) _
  have h0 := Whole.new w 25 #[.int .i64 n, .int .i64 d, .int .i64 o, .int .i64 j]
  obtain ⟨c0, c1, c2, c3, cf⟩ := k_four h0
  have HA := Lib.hid (fun W => alive_r W)
  have HUh := Lib.hid HU
  have HVh := Lib.hid HV
  have HKh := Lib.hid HK
  clear HU HV HK
  obtain ⟨G, hG⟩ : ∃ G, B - A = G := ⟨_, rfl⟩
  obtain ⟨T, hT⟩ : ∃ T, v - u = T := ⟨_, rfl⟩
  have T0 : 0 ≤ T := by omega
  have T1 : T ≤ 4294967296 := by omega
  rw [hG, hT] at f0 f1
  rw [hG] at g0 g1
  obtain ⟨N, hN⟩ : ∃ N, G - T = N := ⟨_, rfl⟩
  rw [hN] at f0
  obtain ⟨O, hO⟩ : ∃ O, -N = O := ⟨_, rfl⟩
  have eO : T - G - 1 = O - 1 := by omega
  rw [eO] at f1
  have O1 : O ≤ 17179869184 := by omega
  have O0 : 1 ≤ O := by omega
  clear eO
  have M0 : -1048576 ≤ (O - 1) * rho := by
    have h : (-1) * rho ≤ (O - 1) * rho := Int.mul_le_mul_of_nonneg_right (by omega) (by omega)
    omega
  obtain ⟨M, hM⟩ : ∃ M, (O - 1) * rho = M := ⟨_, rfl⟩
  rw [hM] at M0 f1
  have l2 : (decide (M < T + 1)) = true := decide_eq_true (by omega)
  go_enter Try.func6, Try.ntmps6
  go_wp2_with fail
  refine (HA.out _).mono ?_
  rintro e w1 ⟨rfl, b1⟩
  have k1 := k_then b1 k0
  have h1 := k_later b1 h0
  clear c0 c1 c2 c3 cf k0 h0 b1
  obtain ⟨c0, c1, c2, c3, cf⟩ := k_four h1
  go_wp2_with fail
  refine (HUh.out _).mono ?_
  rintro e w2 ⟨rfl, b2⟩
  have k2 := k_then b2 k1
  have h2 := k_later b2 h1
  clear c0 c1 c2 c3 cf k1 h1 b2
  obtain ⟨c0, c1, c2, c3, cf⟩ := k_four h2
  go_wp2_with fail
  refine (HVh.out _).mono ?_
  rintro e w3 ⟨rfl, b3⟩
  have k3 := k_then b3 k2
  have h3 := k_later b3 h2
  clear c0 c1 c2 c3 cf k2 h2 b3
  obtain ⟨c0, c1, c2, c3, cf⟩ := k_four h3
  go_wp2_with fail
  refine (HKh.out _).mono ?_
  rintro e w4 ⟨rfl, b4⟩
  have k4 := k_then b4 k3
  have h4 := k_later b4 h3
  clear c0 c1 c2 c3 cf k3 h3 b4
  obtain ⟨c0, c1, c2, c3, cf⟩ := k_four h4
  go_wp2
  go_ret
  exact ⟨rfl, k4⟩

theorem drift_sorted (n d o j rho u v : Int) (w : World) (huv : u ≤ v) : (Calls Try.prog 6 #[.agg #[.int .i64 n, .int .i64 d, .int .i64 o, .int .i64 j], .int .i64 rho, .int .i64 u, .int .i64 v] w fun e w' => e = .returned (.bool true) ∧ Below w.heap.size w w') ∧ (u < v → Calls Try.prog 6 #[.agg #[.int .i64 n, .int .i64 d, .int .i64 o, .int .i64 j], .int .i64 rho, .int .i64 v, .int .i64 u] w fun e w' => e = .returned (.bool true) ∧ Below w.heap.size w w') := by
  have HR := fun t W => reads_b n d o j t W
  have yes : ∀ t, okK n d o j = true → o ≤ t → t ≤ 4294967296 → ∀ W, Calls Try.prog 8 #[.agg #[.int .i64 n, .int .i64 d, .int .i64 o, .int .i64 j], .int .i64 t] W fun e w' => e = .returned (.tuple #[.int .i64 (atV n d o j t), .int .i64 0]) ∧ Below W.heap.size W w' := fun t h h1 h2 W => by
    have := HR t W
    rw [readB_mk h h1 h2] at this
    exact this
  have no : ∀ t, ¬ (okK n d o j = true ∧ o ≤ t ∧ t ≤ 4294967296) → ∀ W, Calls Try.prog 8 #[.agg #[.int .i64 n, .int .i64 d, .int .i64 o, .int .i64 j], .int .i64 t] W fun e w' => e = .returned (.tuple #[.int .i64 0, .int .i64 60]) ∧ Below W.heap.size W w' := fun t h W => by
    have := HR t W
    rw [readB_no h] at this
    exact this
  by_cases hu : okK n d o j = true ∧ o ≤ u ∧ u ≤ 4294967296
  · by_cases hv : okK n d o j = true ∧ o ≤ v ∧ v ≤ 4294967296
    · have hU := yes u hu.1 hu.2.1 hu.2.2
      have hV := yes v hv.1 hv.2.1 hv.2.2
      have HK := fun W => keeps_any n d rho W
      cases hk : keepB n d rho
      · rw [hk] at HK
        exact ⟨drift_keep0 n d o j rho u v _ _ w hU hV huv HK, fun h => drift_keep1 n d o j rho u v _ _ w hU hV h HK⟩
      · rw [hk] at HK
        have hk2 := hk
        simp only [keepB, Bool.and_eq_true, Bool.not_eq_true', decide_eq_true_eq] at hk2
        obtain ⟨_, kr, k1, k2⟩ := hk2
        obtain ⟨r0, r1⟩ := outB_no kr
        obtain ⟨f0, f1, f2⟩ := drift_fact hu.1 huv r0 r1 k1 k2
        obtain ⟨A0, A1⟩ := at_in hu.1 hu.2.1 hu.2.2
        obtain ⟨B0, B1⟩ := at_in hv.1 hv.2.1 hv.2.2
        have o1 := (okK_yes hu.1).2.1.1
        by_cases ha : 0 ≤ atV n d o j v - atV n d o j u - (v - u)
        · exact ⟨drift_ahead0 n d o j rho u v _ _ w hU hV huv HK (by omega) hv.2.2 r0 r1 f0 (by omega) ha f1, fun h => drift_ahead1 n d o j rho u v _ _ w hU hV h HK (by omega) hv.2.2 r0 r1 f0 (by omega) ha f1⟩
        · exact ⟨drift_behind0 n d o j rho u v _ _ w hU hV huv HK (by omega) hv.2.2 r0 r1 f0 (by omega) (by omega) f2, fun h => drift_behind1 n d o j rho u v _ _ w hU hV h HK (by omega) hv.2.2 r0 r1 f0 (by omega) (by omega) f2⟩
    · exact ⟨drift_second0 n d o j rho u v _ w (yes u hu.1 hu.2.1 hu.2.2) (no v hv) huv, fun h => drift_second1 n d o j rho u v _ w (yes u hu.1 hu.2.1 hu.2.2) (no v hv) h⟩
  · exact ⟨drift_first0 n d o j rho u v _ _ w (no u hu) (HR v) huv, fun h => drift_first1 n d o j rho u v _ _ w (no u hu) (HR v) h⟩

theorem drift_walk (n d o j rho u v : Int) (w : World) : Calls Try.prog 6 #[.agg #[.int .i64 n, .int .i64 d, .int .i64 o, .int .i64 j], .int .i64 rho, .int .i64 u, .int .i64 v] w fun e w' => e = .returned (.bool true) ∧ Below w.heap.size w w' := by
  by_cases h : u ≤ v
  · exact (drift_sorted n d o j rho u v w h).1
  · exact (drift_sorted n d o j rho v u w (by omega)).2 (by omega)

end Go.Proofs.Ytjdkndpcjjjlfaa
