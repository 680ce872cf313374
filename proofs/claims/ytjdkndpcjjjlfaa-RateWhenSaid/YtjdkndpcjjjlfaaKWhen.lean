/- RateWhen, its walk. -/
import Derived.Test.YtjdkndpcjjjlfaaKLaw
namespace Go.Proofs.Ytjdkndpcjjjlfaa
open Go.RowKit Go.Shelf

theorem at_mono {n d o j t u : Int} (h : okK n d o j = true) (h1 : o ≤ t) (h2 : t ≤ u) : atV n d o j t ≤ atV n d o j u :=
  (at_first h (Int.le_trans h1 h2)).2 (Int.le_trans ((at_first h h1).1 (Int.le_refl _)) h2)
theorem when_at {n d o j t : Int} (h : okK n d o j = true) (h1 : o ≤ t) (h2 : t ≤ 4294967296) :
    whenE n d o j (atV n d o j t) = 0 ∧ whenV n d o j (atV n d o j t) = firstV n d o j (atV n d o j t) ∧ firstV n d o j (atV n d o j t) ≤ t ∧ o ≤ firstV n d o j (atV n d o j t) ∧ atV n d o j (firstV n d o j (atV n d o j t)) = atV n d o j t := by
  have hf : firstV n d o j (atV n d o j t) ≤ t := (at_first h h1).1 (Int.le_refl _)
  have ho := first_on (r := atV n d o j t) h
  have hl : atV n d o j t ≤ lastV n d o j := at_mono h h1 h2
  refine ⟨by simp [whenE, h, hl], by simp [whenV, whenB, h, hl], hf, ho, ?_⟩
  exact Int.le_antisymm (at_mono h ho hf) ((at_first h ho).2 (Int.le_refl _))

set_option maxRecDepth 100000 in
set_option maxHeartbeats 1000000 in
theorem when_on0 (n d o j r t V A1 B1 : Int) (w : World) (HW : (∀ W, Calls Try.prog 10 #[.agg #[.int .i64 n, .int .i64 d, .int .i64 o, .int .i64 j], .int .i64 r] W fun e w' => e = .returned (.tuple #[.int .i64 V, .int .i64 0]) ∧ Below W.heap.size W w')) (HR1 : (∀ W, Calls Try.prog 8 #[.agg #[.int .i64 n, .int .i64 d, .int .i64 o, .int .i64 j], .int .i64 V] W fun e w' => e = .returned (.tuple #[.int .i64 A1, .int .i64 0]) ∧ Below W.heap.size W w')) (HR2 : (∀ W, Calls Try.prog 8 #[.agg #[.int .i64 n, .int .i64 d, .int .i64 o, .int .i64 j], .int .i64 (V - 1)] W fun e w' => e = .returned (.tuple #[.int .i64 B1, .int .i64 0]) ∧ Below W.heap.size W w')) (v0 : 0 ≤ V) (v1 : V ≤ 4294967296) (v2 : r ≤ A1) (v3 : o < V) (v4 : B1 < r) (HR3 : (∀ W, Calls Try.prog 8 #[.agg #[.int .i64 n, .int .i64 d, .int .i64 o, .int .i64 j], .int .i64 t] W fun e w' => e = .returned (.tuple #[.int .i64 0, .int .i64 60]) ∧ Below W.heap.size W w')) :
    Calls Try.prog 5 #[.agg #[.int .i64 n, .int .i64 d, .int .i64 o, .int .i64 j], .int .i64 r, .int .i64 t] w fun e w' => e = .returned (.bool true) ∧ Below w.heap.size w w' := by
  have k0 : Below w.heap.size w (w.alloc (.cells #[.int .i64 n, .int .i64 d, .int .i64 o, .int .i64 j] 25)) := (Below.refl _ _).alloc (Nat.le_refl _) _
  have h0 := Whole.new w 25 #[.int .i64 n, .int .i64 d, .int .i64 o, .int .i64 j]
  obtain ⟨c0, c1, c2, c3, cf⟩ := k_four h0
  have HA := Lib.hid (fun W => alive_r W)
  have HWh := Lib.hid HW
  have HR3h := Lib.hid HR3
  have HR1h := Lib.hid HR1
  have HR2h := Lib.hid HR2
  clear HW HR3 HR1 HR2
  have l1 : decide (A1 < r) = false := decide_eq_false (by omega)
  have l2 : decide (V < o) = false := decide_eq_false (by omega)
  have l3 : decide (r ≤ B1) = false := decide_eq_false (by omega)
  go_enter Try.func5, Try.ntmps5
  go_wp2_with fail
  refine (HA.out _).mono ?_
  rintro e w1 ⟨rfl, b1⟩
  have k1 := k_then b1 k0
  have h1 := k_later b1 h0
  clear c0 c1 c2 c3 cf k0 h0 b1
  obtain ⟨c0, c1, c2, c3, cf⟩ := k_four h1
  go_wp2_with fail
  refine (HWh.out _).mono ?_
  rintro e w2 ⟨rfl, b2⟩
  have k2 := k_then b2 k1
  have h2 := k_later b2 h1
  clear c0 c1 c2 c3 cf k1 h1 b2
  obtain ⟨c0, c1, c2, c3, cf⟩ := k_four h2
  go_wp2_with fail
  refine (HR1h.out _).mono ?_
  rintro e w3 ⟨rfl, b3⟩
  have k3 := k_then b3 k2
  have h3 := k_later b3 h2
  clear c0 c1 c2 c3 cf k2 h2 b3
  obtain ⟨c0, c1, c2, c3, cf⟩ := k_four h3
  go_wp2_with fail
  refine (HR2h.out _).mono ?_
  rintro e w4 ⟨rfl, b4⟩
  have k4 := k_then b4 k3
  have h4 := k_later b4 h3
  clear c0 c1 c2 c3 cf k3 h3 b4
  obtain ⟨c0, c1, c2, c3, cf⟩ := k_four h4
  go_wp2_with fail
  refine (HR3h.out _).mono ?_
  rintro e w5 ⟨rfl, b5⟩
  have k5 := k_then b5 k4
  have h5 := k_later b5 h4
  clear c0 c1 c2 c3 cf k4 h4 b5
  obtain ⟨c0, c1, c2, c3, cf⟩ := k_four h5
  go_wp2
  go_ret
  exact ⟨rfl, k5⟩

set_option maxRecDepth 100000 in
set_option maxHeartbeats 1000000 in
theorem when_on1 (n d o j r t V A1 B1 A2 X : Int) (w : World) (HW : (∀ W, Calls Try.prog 10 #[.agg #[.int .i64 n, .int .i64 d, .int .i64 o, .int .i64 j], .int .i64 r] W fun e w' => e = .returned (.tuple #[.int .i64 V, .int .i64 0]) ∧ Below W.heap.size W w')) (HR1 : (∀ W, Calls Try.prog 8 #[.agg #[.int .i64 n, .int .i64 d, .int .i64 o, .int .i64 j], .int .i64 V] W fun e w' => e = .returned (.tuple #[.int .i64 A1, .int .i64 0]) ∧ Below W.heap.size W w')) (HR2 : (∀ W, Calls Try.prog 8 #[.agg #[.int .i64 n, .int .i64 d, .int .i64 o, .int .i64 j], .int .i64 (V - 1)] W fun e w' => e = .returned (.tuple #[.int .i64 B1, .int .i64 0]) ∧ Below W.heap.size W w')) (v0 : 0 ≤ V) (v1 : V ≤ 4294967296) (v2 : r ≤ A1) (v3 : o < V) (v4 : B1 < r) (HR3 : (∀ W, Calls Try.prog 8 #[.agg #[.int .i64 n, .int .i64 d, .int .i64 o, .int .i64 j], .int .i64 t] W fun e w' => e = .returned (.tuple #[.int .i64 A2, .int .i64 0]) ∧ Below W.heap.size W w')) (HW2 : (∀ W, Calls Try.prog 10 #[.agg #[.int .i64 n, .int .i64 d, .int .i64 o, .int .i64 j], .int .i64 A2] W fun e w' => e = .returned (.tuple #[.int .i64 X, .int .i64 0]) ∧ Below W.heap.size W w')) (HR4 : (∀ W, Calls Try.prog 8 #[.agg #[.int .i64 n, .int .i64 d, .int .i64 o, .int .i64 j], .int .i64 X] W fun e w' => e = .returned (.tuple #[.int .i64 A2, .int .i64 0]) ∧ Below W.heap.size W w')) (x1 : X ≤ t) :
    Calls Try.prog 5 #[.agg #[.int .i64 n, .int .i64 d, .int .i64 o, .int .i64 j], .int .i64 r, .int .i64 t] w fun e w' => e = .returned (.bool true) ∧ Below w.heap.size w w' := by
  have k0 : Below w.heap.size w (w.alloc (.cells #[.int .i64 n, .int .i64 d, .int .i64 o, .int .i64 j] 25)) := (Below.refl _ _).alloc (Nat.le_refl _) _
  have h0 := Whole.new w 25 #[.int .i64 n, .int .i64 d, .int .i64 o, .int .i64 j]
  obtain ⟨c0, c1, c2, c3, cf⟩ := k_four h0
  have HA := Lib.hid (fun W => alive_r W)
  have HWh := Lib.hid HW
  have HR3h := Lib.hid HR3
  have HR1h := Lib.hid HR1
  have HR2h := Lib.hid HR2
  have HW2h := Lib.hid HW2
  have HR4h := Lib.hid HR4
  clear HW HR3 HR1 HR2 HW2 HR4
  have l1 : decide (A1 < r) = false := decide_eq_false (by omega)
  have l2 : decide (V < o) = false := decide_eq_false (by omega)
  have l3 : decide (r ≤ B1) = false := decide_eq_false (by omega)
  have l4 : (A2 == A2) = true := by simp
  go_enter Try.func5, Try.ntmps5
  go_wp2_with fail
  refine (HA.out _).mono ?_
  rintro e w1 ⟨rfl, b1⟩
  have k1 := k_then b1 k0
  have h1 := k_later b1 h0
  clear c0 c1 c2 c3 cf k0 h0 b1
  obtain ⟨c0, c1, c2, c3, cf⟩ := k_four h1
  go_wp2_with fail
  refine (HWh.out _).mono ?_
  rintro e w2 ⟨rfl, b2⟩
  have k2 := k_then b2 k1
  have h2 := k_later b2 h1
  clear c0 c1 c2 c3 cf k1 h1 b2
  obtain ⟨c0, c1, c2, c3, cf⟩ := k_four h2
  go_wp2_with fail
  refine (HR1h.out _).mono ?_
  rintro e w3 ⟨rfl, b3⟩
  have k3 := k_then b3 k2
  have h3 := k_later b3 h2
  clear c0 c1 c2 c3 cf k2 h2 b3
  obtain ⟨c0, c1, c2, c3, cf⟩ := k_four h3
  go_wp2_with fail
  refine (HR2h.out _).mono ?_
  rintro e w4 ⟨rfl, b4⟩
  have k4 := k_then b4 k3
  have h4 := k_later b4 h3
  clear c0 c1 c2 c3 cf k3 h3 b4
  obtain ⟨c0, c1, c2, c3, cf⟩ := k_four h4
  go_wp2_with fail
  refine (HR3h.out _).mono ?_
  rintro e w5 ⟨rfl, b5⟩
  have k5 := k_then b5 k4
  have h5 := k_later b5 h4
  clear c0 c1 c2 c3 cf k4 h4 b5
  obtain ⟨c0, c1, c2, c3, cf⟩ := k_four h5
  go_wp2_with fail
  refine (HW2h.out _).mono ?_
  rintro e w6 ⟨rfl, b6⟩
  have k6 := k_then b6 k5
  have h6 := k_later b6 h5
  clear c0 c1 c2 c3 cf k5 h5 b6
  obtain ⟨c0, c1, c2, c3, cf⟩ := k_four h6
  go_wp2_with fail
  refine (HR4h.out _).mono ?_
  rintro e w7 ⟨rfl, b7⟩
  have k7 := k_then b7 k6
  have h7 := k_later b7 h6
  clear c0 c1 c2 c3 cf k6 h6 b7
  obtain ⟨c0, c1, c2, c3, cf⟩ := k_four h7
  go_wp2
  go_ret
  exact ⟨rfl, k7⟩

set_option maxRecDepth 100000 in
set_option maxHeartbeats 1000000 in
theorem when_at0 (n d o j r t A1 B1 G1 : Int) (w : World) (HW : (∀ W, Calls Try.prog 10 #[.agg #[.int .i64 n, .int .i64 d, .int .i64 o, .int .i64 j], .int .i64 r] W fun e w' => e = .returned (.tuple #[.int .i64 o, .int .i64 0]) ∧ Below W.heap.size W w')) (HR1 : (∀ W, Calls Try.prog 8 #[.agg #[.int .i64 n, .int .i64 d, .int .i64 o, .int .i64 j], .int .i64 o] W fun e w' => e = .returned (.tuple #[.int .i64 A1, .int .i64 0]) ∧ Below W.heap.size W w')) (HR2 : (∀ W, Calls Try.prog 8 #[.agg #[.int .i64 n, .int .i64 d, .int .i64 o, .int .i64 j], .int .i64 (o - 1)] W fun e w' => e = .returned (.tuple #[.int .i64 B1, .int .i64 G1]) ∧ Below W.heap.size W w')) (v0 : 0 ≤ o) (v1 : o ≤ 4294967296) (v2 : r ≤ A1) (HR3 : (∀ W, Calls Try.prog 8 #[.agg #[.int .i64 n, .int .i64 d, .int .i64 o, .int .i64 j], .int .i64 t] W fun e w' => e = .returned (.tuple #[.int .i64 0, .int .i64 60]) ∧ Below W.heap.size W w')) :
    Calls Try.prog 5 #[.agg #[.int .i64 n, .int .i64 d, .int .i64 o, .int .i64 j], .int .i64 r, .int .i64 t] w fun e w' => e = .returned (.bool true) ∧ Below w.heap.size w w' := by
  have k0 : Below w.heap.size w (w.alloc (.cells #[.int .i64 n, .int .i64 d, .int .i64 o, .int .i64 j] 25)) := (Below.refl _ _).alloc (Nat.le_refl _) _
  have h0 := Whole.new w 25 #[.int .i64 n, .int .i64 d, .int .i64 o, .int .i64 j]
  obtain ⟨c0, c1, c2, c3, cf⟩ := k_four h0
  have HA := Lib.hid (fun W => alive_r W)
  have HWh := Lib.hid HW
  have HR3h := Lib.hid HR3
  have HR1h := Lib.hid HR1
  have HR2h := Lib.hid HR2
  clear HW HR3 HR1 HR2
  have l1 : decide (A1 < r) = false := decide_eq_false (by omega)
  have l2 : decide (o < o) = false := decide_eq_false (by omega)
  go_enter Try.func5, Try.ntmps5
  go_wp2_with fail
  refine (HA.out _).mono ?_
  rintro e w1 ⟨rfl, b1⟩
  have k1 := k_then b1 k0
  have h1 := k_later b1 h0
  clear c0 c1 c2 c3 cf k0 h0 b1
  obtain ⟨c0, c1, c2, c3, cf⟩ := k_four h1
  go_wp2_with fail
  refine (HWh.out _).mono ?_
  rintro e w2 ⟨rfl, b2⟩
  have k2 := k_then b2 k1
  have h2 := k_later b2 h1
  clear c0 c1 c2 c3 cf k1 h1 b2
  obtain ⟨c0, c1, c2, c3, cf⟩ := k_four h2
  go_wp2_with fail
  refine (HR1h.out _).mono ?_
  rintro e w3 ⟨rfl, b3⟩
  have k3 := k_then b3 k2
  have h3 := k_later b3 h2
  clear c0 c1 c2 c3 cf k2 h2 b3
  obtain ⟨c0, c1, c2, c3, cf⟩ := k_four h3
  go_wp2_with fail
  refine (HR2h.out _).mono ?_
  rintro e w4 ⟨rfl, b4⟩
  have k4 := k_then b4 k3
  have h4 := k_later b4 h3
  clear c0 c1 c2 c3 cf k3 h3 b4
  obtain ⟨c0, c1, c2, c3, cf⟩ := k_four h4
  go_wp2_with fail
  refine (HR3h.out _).mono ?_
  rintro e w5 ⟨rfl, b5⟩
  have k5 := k_then b5 k4
  have h5 := k_later b5 h4
  clear c0 c1 c2 c3 cf k4 h4 b5
  obtain ⟨c0, c1, c2, c3, cf⟩ := k_four h5
  go_wp2
  go_ret
  exact ⟨rfl, k5⟩

set_option maxRecDepth 100000 in
set_option maxHeartbeats 1000000 in
theorem when_at1 (n d o j r t A1 B1 G1 A2 X : Int) (w : World) (HW : (∀ W, Calls Try.prog 10 #[.agg #[.int .i64 n, .int .i64 d, .int .i64 o, .int .i64 j], .int .i64 r] W fun e w' => e = .returned (.tuple #[.int .i64 o, .int .i64 0]) ∧ Below W.heap.size W w')) (HR1 : (∀ W, Calls Try.prog 8 #[.agg #[.int .i64 n, .int .i64 d, .int .i64 o, .int .i64 j], .int .i64 o] W fun e w' => e = .returned (.tuple #[.int .i64 A1, .int .i64 0]) ∧ Below W.heap.size W w')) (HR2 : (∀ W, Calls Try.prog 8 #[.agg #[.int .i64 n, .int .i64 d, .int .i64 o, .int .i64 j], .int .i64 (o - 1)] W fun e w' => e = .returned (.tuple #[.int .i64 B1, .int .i64 G1]) ∧ Below W.heap.size W w')) (v0 : 0 ≤ o) (v1 : o ≤ 4294967296) (v2 : r ≤ A1) (HR3 : (∀ W, Calls Try.prog 8 #[.agg #[.int .i64 n, .int .i64 d, .int .i64 o, .int .i64 j], .int .i64 t] W fun e w' => e = .returned (.tuple #[.int .i64 A2, .int .i64 0]) ∧ Below W.heap.size W w')) (HW2 : (∀ W, Calls Try.prog 10 #[.agg #[.int .i64 n, .int .i64 d, .int .i64 o, .int .i64 j], .int .i64 A2] W fun e w' => e = .returned (.tuple #[.int .i64 X, .int .i64 0]) ∧ Below W.heap.size W w')) (HR4 : (∀ W, Calls Try.prog 8 #[.agg #[.int .i64 n, .int .i64 d, .int .i64 o, .int .i64 j], .int .i64 X] W fun e w' => e = .returned (.tuple #[.int .i64 A2, .int .i64 0]) ∧ Below W.heap.size W w')) (x1 : X ≤ t) :
    Calls Try.prog 5 #[.agg #[.int .i64 n, .int .i64 d, .int .i64 o, .int .i64 j], .int .i64 r, .int .i64 t] w fun e w' => e = .returned (.bool true) ∧ Below w.heap.size w w' := by
  have k0 : Below w.heap.size w (w.alloc (.cells #[.int .i64 n, .int .i64 d, .int .i64 o, .int .i64 j] 25)) := (Below.refl _ _).alloc (Nat.le_refl _) _
  have h0 := Whole.new w 25 #[.int .i64 n, .int .i64 d, .int .i64 o, .int .i64 j]
  obtain ⟨c0, c1, c2, c3, cf⟩ := k_four h0
  have HA := Lib.hid (fun W => alive_r W)
  have HWh := Lib.hid HW
  have HR3h := Lib.hid HR3
  have HR1h := Lib.hid HR1
  have HR2h := Lib.hid HR2
  have HW2h := Lib.hid HW2
  have HR4h := Lib.hid HR4
  clear HW HR3 HR1 HR2 HW2 HR4
  have l1 : decide (A1 < r) = false := decide_eq_false (by omega)
  have l2 : decide (o < o) = false := decide_eq_false (by omega)
  have l4 : (A2 == A2) = true := by simp
  go_enter Try.func5, Try.ntmps5
  go_wp2_with fail
  refine (HA.out _).mono ?_
  rintro e w1 ⟨rfl, b1⟩
  have k1 := k_then b1 k0
  have h1 := k_later b1 h0
  clear c0 c1 c2 c3 cf k0 h0 b1
  obtain ⟨c0, c1, c2, c3, cf⟩ := k_four h1
  go_wp2_with fail
  refine (HWh.out _).mono ?_
  rintro e w2 ⟨rfl, b2⟩
  have k2 := k_then b2 k1
  have h2 := k_later b2 h1
  clear c0 c1 c2 c3 cf k1 h1 b2
  obtain ⟨c0, c1, c2, c3, cf⟩ := k_four h2
  go_wp2_with fail
  refine (HR1h.out _).mono ?_
  rintro e w3 ⟨rfl, b3⟩
  have k3 := k_then b3 k2
  have h3 := k_later b3 h2
  clear c0 c1 c2 c3 cf k2 h2 b3
  obtain ⟨c0, c1, c2, c3, cf⟩ := k_four h3
  go_wp2_with fail
  refine (HR2h.out _).mono ?_
  rintro e w4 ⟨rfl, b4⟩
  have k4 := k_then b4 k3
  have h4 := k_later b4 h3
  clear c0 c1 c2 c3 cf k3 h3 b4
  obtain ⟨c0, c1, c2, c3, cf⟩ := k_four h4
  go_wp2_with fail
  refine (HR3h.out _).mono ?_
  rintro e w5 ⟨rfl, b5⟩
  have k5 := k_then b5 k4
  have h5 := k_later b5 h4
  clear c0 c1 c2 c3 cf k4 h4 b5
  obtain ⟨c0, c1, c2, c3, cf⟩ := k_four h5
  go_wp2_with fail
  refine (HW2h.out _).mono ?_
  rintro e w6 ⟨rfl, b6⟩
  have k6 := k_then b6 k5
  have h6 := k_later b6 h5
  clear c0 c1 c2 c3 cf k5 h5 b6
  obtain ⟨c0, c1, c2, c3, cf⟩ := k_four h6
  go_wp2_with fail
  refine (HR4h.out _).mono ?_
  rintro e w7 ⟨rfl, b7⟩
  have k7 := k_then b7 k6
  have h7 := k_later b7 h6
  clear c0 c1 c2 c3 cf k6 h6 b7
  obtain ⟨c0, c1, c2, c3, cf⟩ := k_four h7
  go_wp2
  go_ret
  exact ⟨rfl, k7⟩

set_option maxRecDepth 100000 in
set_option maxHeartbeats 1000000 in
theorem when_e600 (n d o j r t : Int) (w : World) (HW : (∀ W, Calls Try.prog 10 #[.agg #[.int .i64 n, .int .i64 d, .int .i64 o, .int .i64 j], .int .i64 r] W fun e w' => e = .returned (.tuple #[.int .i64 0, .int .i64 60]) ∧ Below W.heap.size W w')) (HR3 : (∀ W, Calls Try.prog 8 #[.agg #[.int .i64 n, .int .i64 d, .int .i64 o, .int .i64 j], .int .i64 t] W fun e w' => e = .returned (.tuple #[.int .i64 0, .int .i64 60]) ∧ Below W.heap.size W w')) :
    Calls Try.prog 5 #[.agg #[.int .i64 n, .int .i64 d, .int .i64 o, .int .i64 j], .int .i64 r, .int .i64 t] w fun e w' => e = .returned (.bool true) ∧ Below w.heap.size w w' := by
  have k0 : Below w.heap.size w (w.alloc (.cells #[.int .i64 n, .int .i64 d, .int .i64 o, .int .i64 j] 25)) := (Below.refl _ _).alloc (Nat.le_refl _) _
  have h0 := Whole.new w 25 #[.int .i64 n, .int .i64 d, .int .i64 o, .int .i64 j]
  obtain ⟨c0, c1, c2, c3, cf⟩ := k_four h0
  have HA := Lib.hid (fun W => alive_r W)
  have HWh := Lib.hid HW
  have HR3h := Lib.hid HR3
  clear HW HR3
  go_enter Try.func5, Try.ntmps5
  go_wp2_with fail
  refine (HA.out _).mono ?_
  rintro e w1 ⟨rfl, b1⟩
  have k1 := k_then b1 k0
  have h1 := k_later b1 h0
  clear c0 c1 c2 c3 cf k0 h0 b1
  obtain ⟨c0, c1, c2, c3, cf⟩ := k_four h1
  go_wp2_with fail
  refine (HWh.out _).mono ?_
  rintro e w2 ⟨rfl, b2⟩
  have k2 := k_then b2 k1
  have h2 := k_later b2 h1
  clear c0 c1 c2 c3 cf k1 h1 b2
  obtain ⟨c0, c1, c2, c3, cf⟩ := k_four h2
  go_wp2_with fail
  refine (HR3h.out _).mono ?_
  rintro e w3 ⟨rfl, b3⟩
  have k3 := k_then b3 k2
  have h3 := k_later b3 h2
  clear c0 c1 c2 c3 cf k2 h2 b3
  obtain ⟨c0, c1, c2, c3, cf⟩ := k_four h3
  go_wp2
  go_ret
  exact ⟨rfl, k3⟩

set_option maxRecDepth 100000 in
set_option maxHeartbeats 1000000 in
theorem when_e610 (n d o j r t : Int) (w : World) (HW : (∀ W, Calls Try.prog 10 #[.agg #[.int .i64 n, .int .i64 d, .int .i64 o, .int .i64 j], .int .i64 r] W fun e w' => e = .returned (.tuple #[.int .i64 0, .int .i64 61]) ∧ Below W.heap.size W w')) (HR3 : (∀ W, Calls Try.prog 8 #[.agg #[.int .i64 n, .int .i64 d, .int .i64 o, .int .i64 j], .int .i64 t] W fun e w' => e = .returned (.tuple #[.int .i64 0, .int .i64 60]) ∧ Below W.heap.size W w')) :
    Calls Try.prog 5 #[.agg #[.int .i64 n, .int .i64 d, .int .i64 o, .int .i64 j], .int .i64 r, .int .i64 t] w fun e w' => e = .returned (.bool true) ∧ Below w.heap.size w w' := by
  have k0 : Below w.heap.size w (w.alloc (.cells #[.int .i64 n, .int .i64 d, .int .i64 o, .int .i64 j] 25)) := (Below.refl _ _).alloc (Nat.le_refl _) _
  have h0 := Whole.new w 25 #[.int .i64 n, .int .i64 d, .int .i64 o, .int .i64 j]
  obtain ⟨c0, c1, c2, c3, cf⟩ := k_four h0
  have HA := Lib.hid (fun W => alive_r W)
  have HWh := Lib.hid HW
  have HR3h := Lib.hid HR3
  clear HW HR3
  go_enter Try.func5, Try.ntmps5
  go_wp2_with fail
  refine (HA.out _).mono ?_
  rintro e w1 ⟨rfl, b1⟩
  have k1 := k_then b1 k0
  have h1 := k_later b1 h0
  clear c0 c1 c2 c3 cf k0 h0 b1
  obtain ⟨c0, c1, c2, c3, cf⟩ := k_four h1
  go_wp2_with fail
  refine (HWh.out _).mono ?_
  rintro e w2 ⟨rfl, b2⟩
  have k2 := k_then b2 k1
  have h2 := k_later b2 h1
  clear c0 c1 c2 c3 cf k1 h1 b2
  obtain ⟨c0, c1, c2, c3, cf⟩ := k_four h2
  go_wp2_with fail
  refine (HR3h.out _).mono ?_
  rintro e w3 ⟨rfl, b3⟩
  have k3 := k_then b3 k2
  have h3 := k_later b3 h2
  clear c0 c1 c2 c3 cf k2 h2 b3
  obtain ⟨c0, c1, c2, c3, cf⟩ := k_four h3
  go_wp2
  go_ret
  exact ⟨rfl, k3⟩

set_option maxRecDepth 100000 in
set_option maxHeartbeats 1000000 in
theorem when_e611 (n d o j r t A2 X : Int) (w : World) (HW : (∀ W, Calls Try.prog 10 #[.agg #[.int .i64 n, .int .i64 d, .int .i64 o, .int .i64 j], .int .i64 r] W fun e w' => e = .returned (.tuple #[.int .i64 0, .int .i64 61]) ∧ Below W.heap.size W w')) (HR3 : (∀ W, Calls Try.prog 8 #[.agg #[.int .i64 n, .int .i64 d, .int .i64 o, .int .i64 j], .int .i64 t] W fun e w' => e = .returned (.tuple #[.int .i64 A2, .int .i64 0]) ∧ Below W.heap.size W w')) (HW2 : (∀ W, Calls Try.prog 10 #[.agg #[.int .i64 n, .int .i64 d, .int .i64 o, .int .i64 j], .int .i64 A2] W fun e w' => e = .returned (.tuple #[.int .i64 X, .int .i64 0]) ∧ Below W.heap.size W w')) (HR4 : (∀ W, Calls Try.prog 8 #[.agg #[.int .i64 n, .int .i64 d, .int .i64 o, .int .i64 j], .int .i64 X] W fun e w' => e = .returned (.tuple #[.int .i64 A2, .int .i64 0]) ∧ Below W.heap.size W w')) (x1 : X ≤ t) :
    Calls Try.prog 5 #[.agg #[.int .i64 n, .int .i64 d, .int .i64 o, .int .i64 j], .int .i64 r, .int .i64 t] w fun e w' => e = .returned (.bool true) ∧ Below w.heap.size w w' := by
  have k0 : Below w.heap.size w (w.alloc (.cells #[.int .i64 n, .int .i64 d, .int .i64 o, .int .i64 j] 25)) := (Below.refl _ _).alloc (Nat.le_refl _) _
  have h0 := Whole.new w 25 #[.int .i64 n, .int .i64 d, .int .i64 o, .int .i64 j]
  obtain ⟨c0, c1, c2, c3, cf⟩ := k_four h0
  have HA := Lib.hid (fun W => alive_r W)
  have HWh := Lib.hid HW
  have HR3h := Lib.hid HR3
  have HW2h := Lib.hid HW2
  have HR4h := Lib.hid HR4
  clear HW HR3 HW2 HR4
  have l4 : (A2 == A2) = true := by simp
  go_enter Try.func5, Try.ntmps5
  go_wp2_with fail
  refine (HA.out _).mono ?_
  rintro e w1 ⟨rfl, b1⟩
  have k1 := k_then b1 k0
  have h1 := k_later b1 h0
  clear c0 c1 c2 c3 cf k0 h0 b1
  obtain ⟨c0, c1, c2, c3, cf⟩ := k_four h1
  go_wp2_with fail
  refine (HWh.out _).mono ?_
  rintro e w2 ⟨rfl, b2⟩
  have k2 := k_then b2 k1
  have h2 := k_later b2 h1
  clear c0 c1 c2 c3 cf k1 h1 b2
  obtain ⟨c0, c1, c2, c3, cf⟩ := k_four h2
  go_wp2_with fail
  refine (HR3h.out _).mono ?_
  rintro e w3 ⟨rfl, b3⟩
  have k3 := k_then b3 k2
  have h3 := k_later b3 h2
  clear c0 c1 c2 c3 cf k2 h2 b3
  obtain ⟨c0, c1, c2, c3, cf⟩ := k_four h3
  go_wp2_with fail
  refine (HW2h.out _).mono ?_
  rintro e w4 ⟨rfl, b4⟩
  have k4 := k_then b4 k3
  have h4 := k_later b4 h3
  clear c0 c1 c2 c3 cf k3 h3 b4
  obtain ⟨c0, c1, c2, c3, cf⟩ := k_four h4
  go_wp2_with fail
  refine (HR4h.out _).mono ?_
  rintro e w5 ⟨rfl, b5⟩
  have k5 := k_then b5 k4
  have h5 := k_later b5 h4
  clear c0 c1 c2 c3 cf k4 h4 b5
  obtain ⟨c0, c1, c2, c3, cf⟩ := k_four h5
  go_wp2
  go_ret
  exact ⟨rfl, k5⟩

theorem when_walk (n d o j r t : Int) (w : World) : Calls Try.prog 5 #[.agg #[.int .i64 n, .int .i64 d, .int .i64 o, .int .i64 j], .int .i64 r, .int .i64 t] w fun e w' => e = .returned (.bool true) ∧ Below w.heap.size w w' := by
  have HW := fun W => when_any n d o j r W
  have HR := fun t W => reads_b n d o j t W
  have yes : ∀ u, okK n d o j = true → o ≤ u → u ≤ 4294967296 → ∀ W, Calls Try.prog 8 #[.agg #[.int .i64 n, .int .i64 d, .int .i64 o, .int .i64 j], .int .i64 u] W fun e w' => e = .returned (.tuple #[.int .i64 (atV n d o j u), .int .i64 0]) ∧ Below W.heap.size W w' := fun u h h1 h2 W => by
    have := HR u W
    rw [readB_mk h h1 h2] at this
    exact this
  have no : ∀ u, ¬ (okK n d o j = true ∧ o ≤ u ∧ u ≤ 4294967296) → ∀ W, Calls Try.prog 8 #[.agg #[.int .i64 n, .int .i64 d, .int .i64 o, .int .i64 j], .int .i64 u] W fun e w' => e = .returned (.tuple #[.int .i64 0, .int .i64 60]) ∧ Below W.heap.size W w' := fun u h W => by
    have := HR u W
    rw [readB_no h] at this
    exact this
  have second : okK n d o j = true → o ≤ t → t ≤ 4294967296 → ∀ W, Calls Try.prog 10 #[.agg #[.int .i64 n, .int .i64 d, .int .i64 o, .int .i64 j], .int .i64 (atV n d o j t)] W fun e w' => e = .returned (.tuple #[.int .i64 (firstV n d o j (atV n d o j t)), .int .i64 0]) ∧ Below W.heap.size W w' := fun h h1 h2 W => by
    have := when_any n d o j (atV n d o j t) W
    rw [(when_at h h1 h2).1, (when_at h h1 h2).2.1] at this
    exact this
  have third : okK n d o j = true → o ≤ t → t ≤ 4294967296 → ∀ W, Calls Try.prog 8 #[.agg #[.int .i64 n, .int .i64 d, .int .i64 o, .int .i64 j], .int .i64 (firstV n d o j (atV n d o j t))] W fun e w' => e = .returned (.tuple #[.int .i64 (atV n d o j t), .int .i64 0]) ∧ Below W.heap.size W w' := fun h h1 h2 W => by
    have wa := when_at h h1 h2
    have := yes (firstV n d o j (atV n d o j t)) h wa.2.2.2.1 (Int.le_trans wa.2.2.1 h2) W
    rw [wa.2.2.2.2] at this
    exact this
  cases hk : okK n d o j
  · have hn : ¬ (okK n d o j = true ∧ o ≤ t ∧ t ≤ 4294967296) := fun g => by rw [hk] at g; exact absurd g.1 (by decide)
    rw [show whenV n d o j r = 0 by simp [whenV, whenB, hk], show whenE n d o j r = 60 by simp [whenE, hk]] at HW
    exact when_e600 n d o j r t w HW (no t hn)
  obtain ⟨_, ⟨o1, o2⟩, _⟩ := okK_yes hk
  by_cases hr : r ≤ lastV n d o j
  · rw [show whenV n d o j r = firstV n d o j r by simp [whenV, whenB, hk, hr], show whenE n d o j r = 0 by simp [whenE, hk, hr]] at HW
    have f0 := first_on (r := r) hk
    have f1 : firstV n d o j r ≤ 4294967296 := (at_first hk o2).1 hr
    have f2 : r ≤ atV n d o j (firstV n d o j r) := (at_first hk f0).2 (Int.le_refl _)
    by_cases ho : o < firstV n d o j r
    · have f3 : atV n d o j (firstV n d o j r - 1) < r := by
        have := at_first (r := r) hk (show o ≤ firstV n d o j r - 1 by omega)
        omega
      by_cases ht : o ≤ t ∧ t ≤ 4294967296
      · exact when_on1 n d o j r t _ _ _ _ _ w HW (yes _ hk f0 f1) (yes _ hk (by omega) (by omega)) (by omega) f1 f2 ho f3 (yes t hk ht.1 ht.2) (second hk ht.1 ht.2) (third hk ht.1 ht.2) (when_at hk ht.1 ht.2).2.2.1
      · exact when_on0 n d o j r t _ _ _ w HW (yes _ hk f0 f1) (yes _ hk (by omega) (by omega)) (by omega) f1 f2 ho f3 (no t (fun g => ht g.2))
    · have hF : firstV n d o j r = o := by omega
      rw [hF] at HW f2
      have h2 := HR (o - 1)
      by_cases ht : o ≤ t ∧ t ≤ 4294967296
      · exact when_at1 n d o j r t _ _ _ _ _ w HW (yes o hk (Int.le_refl _) o2) h2 o1 o2 f2 (yes t hk ht.1 ht.2) (second hk ht.1 ht.2) (third hk ht.1 ht.2) (when_at hk ht.1 ht.2).2.2.1
      · exact when_at0 n d o j r t _ _ _ w HW (yes o hk (Int.le_refl _) o2) h2 o1 o2 f2 (no t (fun g => ht g.2))
  · rw [show whenV n d o j r = 0 by simp [whenV, whenB, hr], show whenE n d o j r = 61 by simp [whenE, hk, hr]] at HW
    by_cases ht : o ≤ t ∧ t ≤ 4294967296
    · exact when_e611 n d o j r t _ _ w HW (yes t hk ht.1 ht.2) (second hk ht.1 ht.2) (third hk ht.1 ht.2) (when_at hk ht.1 ht.2).2.2.1
    · exact when_e610 n d o j r t w HW (no t (fun g => ht g.2))

end Go.Proofs.Ytjdkndpcjjjlfaa
