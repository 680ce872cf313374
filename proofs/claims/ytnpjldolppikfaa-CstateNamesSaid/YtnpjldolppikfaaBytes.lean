/- The bytes of a number, the highest first: plain facts. -/
import Derived.Test.YtnpjldolppikfaaPut
namespace Go.Proofs.Ytnpjldolppikfaa

theorem beBytes_zero (x : Nat) : beBytes 0 x = [] := rfl
theorem beBytes_succ (k x : Nat) : beBytes (k + 1) x = UInt8.ofNat (x / 2 ^ (8 * k)) :: beBytes k x := by
  unfold beBytes
  rw [List.range_succ_eq_map, List.map_cons, List.map_map]
  congr 1
  apply List.map_congr_left
  intro i hi
  have : i < k := List.mem_range.1 hi
  show UInt8.ofNat (x / 2 ^ (8 * (k + 1 - 1 - (i + 1)))) = _
  rw [show k + 1 - 1 - (i + 1) = k - 1 - i from by omega]

theorem ofNat_mod (q : Nat) : UInt8.ofNat (q % 256) = UInt8.ofNat q := by
  apply UInt8.toNat_inj.1
  simp

theorem beBytes_mod (k x : Nat) : ∀ m, k ≤ m → beBytes k (x % 2 ^ (8 * m)) = beBytes k x := by
  induction k with
  | zero => intro m _; rfl
  | succ k ih =>
    intro m hm
    rw [beBytes_succ, beBytes_succ, ih m (by omega)]
    congr 1
    rw [← ofNat_mod (x / 2 ^ (8 * k)), ← ofNat_mod (x % 2 ^ (8 * m) / 2 ^ (8 * k))]
    congr 1
    have e : 2 ^ (8 * m) = 2 ^ (8 * k) * 2 ^ (8 * (m - k)) := by rw [← Nat.pow_add]; congr 1; omega
    rw [e, Nat.mod_mul_right_div_self]
    rw [show (256 : Nat) = 2 ^ 8 from rfl]
    exact Nat.mod_mod_of_dvd _ (Nat.pow_dvd_pow 2 (by omega))

theorem beBytes_append (m n x : Nat) : beBytes (m + n) x = beBytes m (x / 2 ^ (8 * n)) ++ beBytes n x := by
  induction m with
  | zero => simp [beBytes_zero]
  | succ m ih =>
    rw [show m + 1 + n = (m + n) + 1 from by omega, beBytes_succ, beBytes_succ, ih, List.cons_append]
    congr 2
    rw [Nat.div_div_eq_div_mul, ← Nat.pow_add]
    congr 2
    omega

theorem div_lt_256 {k x : Nat} (h : x < 2 ^ (8 * (k + 1))) : x / 2 ^ (8 * k) < 256 := by
  rw [Nat.div_lt_iff_lt_mul (Nat.two_pow_pos _)]
  rw [show 256 * 2 ^ (8 * k) = 2 ^ (8 * (k + 1)) from by rw [show (256 : Nat) = 2 ^ 8 from rfl, ← Nat.pow_add]; congr 1; omega]
  exact h

theorem beBytes_order (k : Nat) : ∀ x y, x < 2 ^ (8 * k) → y < 2 ^ (8 * k) → Op.bytesLess (beBytes k x) (beBytes k y) = decide (x < y) ∧ ((beBytes k x == beBytes k y) = decide (x = y)) := by
  induction k with
  | zero =>
    intro x y hx hy
    simp at hx hy
    subst hx hy
    simp [beBytes_zero, Op.bytesLess]
  | succ k ih =>
    intro x y hx hy
    have hp : 0 < 2 ^ (8 * k) := Nat.two_pow_pos _
    obtain ⟨i1, i2⟩ := ih (x % 2 ^ (8 * k)) (y % 2 ^ (8 * k)) (Nat.mod_lt _ hp) (Nat.mod_lt _ hp)
    rw [beBytes_mod k x k (Nat.le_refl _), beBytes_mod k y k (Nat.le_refl _)] at i1 i2
    have qx := div_lt_256 hx
    have qy := div_lt_256 hy
    have dx := Nat.div_add_mod x (2 ^ (8 * k))
    have dy := Nat.div_add_mod y (2 ^ (8 * k))
    have rx := Nat.mod_lt x hp
    have ry := Nat.mod_lt y hp
    rw [beBytes_succ, beBytes_succ]
    generalize x / 2 ^ (8 * k) = q at *
    generalize y / 2 ^ (8 * k) = q' at *
    generalize x % 2 ^ (8 * k) = r at *
    generalize y % 2 ^ (8 * k) = r' at *
    generalize 2 ^ (8 * k) = M at *
    have hlt : (UInt8.ofNat q < UInt8.ofNat q') = (q < q') := by
      rw [UInt8.lt_iff_toNat_lt, UInt8.toNat_ofNat', UInt8.toNat_ofNat', Nat.mod_eq_of_lt qx, Nat.mod_eq_of_lt qy]
    have heq : (UInt8.ofNat q == UInt8.ofNat q') = decide (q = q') := by
      rw [Bool.eq_iff_iff, beq_iff_eq, decide_eq_true_eq, ← UInt8.toNat_inj, UInt8.toNat_ofNat', UInt8.toNat_ofNat', Nat.mod_eq_of_lt qx, Nat.mod_eq_of_lt qy]
    constructor
    · simp only [Op.bytesLess, i1, hlt, heq]
      rw [Bool.eq_iff_iff]
      simp only [Bool.or_eq_true, Bool.and_eq_true, decide_eq_true_eq]
      rcases Nat.lt_trichotomy q q' with h | h | h
      · have : M * q + M ≤ M * q' := by rw [← Nat.mul_succ]; exact Nat.mul_le_mul_left M h
        constructor
        · intro _; omega
        · intro _; exact .inl h
      · subst h
        constructor
        · rintro (h | ⟨_, h⟩) <;> omega
        · intro h; exact .inr ⟨rfl, by omega⟩
      · have : M * q' + M ≤ M * q := by rw [← Nat.mul_succ]; exact Nat.mul_le_mul_left M h
        constructor
        · rintro (h | ⟨h, _⟩) <;> omega
        · intro h; omega
    · rw [Bool.eq_iff_iff, beq_iff_eq, List.cons_eq_cons, decide_eq_true_eq, ← beq_iff_eq (a := UInt8.ofNat q), heq, decide_eq_true_eq, ← beq_iff_eq (a := beBytes k x), i2, decide_eq_true_eq]
      constructor
      · rintro ⟨rfl, rfl⟩; omega
      · intro h
        rcases Nat.lt_trichotomy q q' with h' | h' | h'
        · have : M * q + M ≤ M * q' := by rw [← Nat.mul_succ]; exact Nat.mul_le_mul_left M h'
          omega
        · subst h'
          exact ⟨rfl, by omega⟩
        · have : M * q' + M ≤ M * q := by rw [← Nat.mul_succ]; exact Nat.mul_le_mul_left M h'
          omega

end Go.Proofs.Ytnpjldolppikfaa
