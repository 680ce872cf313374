/- CstateFollows, its walk. -/
import Derived.Test.YtnpjldolppikfaaCAlive
import Derived.Test.YtnpjldolppikfaaCSteps
import Derived.Test.YtnpjldolppikfaaCCmp
import Derived.IntWalk
import Derived.Outline
namespace Go.Proofs.Ytnpjldolppikfaa
open Go.RowKit

theorem u32_bd (x : Int) : 0 ≤ IntKind.u32.wrap x ∧ IntKind.u32.wrap x ≤ 4294967295 := by
  have : IntKind.u32.wrap x = x % 4294967296 := by simp [IntKind.wrap, IntKind.bits, IntKind.signed]
  omega

/-- Where one is, j steps on from round R and slot S. -/
structure Step (R S k j r s : Int) : Prop where
  k1 : 1 ≤ k
  k2 : k ≤ 16
  S0 : 0 ≤ S
  S1 : S < k
  R0 : 0 ≤ R
  R1 : R ≤ 2147483446
  j0 : 0 ≤ j
  j1 : j ≤ 101
  s0 : 0 ≤ s
  s1 : s < k
  r0 : 0 ≤ r
  r1 : r ≤ R + j
  sum : r * k + s = R * k + S + j

structure Next (R S k j r s m g r' s' : Int) : Prop where
  suc : sucR r s m k = r' ∧ sucS r s m k = s' ∧ sucM r s m k = m ∧ sucV r s m k g = g ∧ sucE r s m k = 0
  cmp : cmpC r s r' s' = -1
  ago : agoR r' s' m k (j + 1) = R ∧ agoS r' s' m k (j + 1) = S ∧ agoE r' s' m k (j + 1) = 0
  step : Step R S k (j + 1) r' s'

theorem follow_step {R S k j r s m : Int} (g : Int) (h : Step R S k j r s) (m0 : 0 ≤ m) (m1 : m ≤ 7) (hj : j ≤ 100) : ∃ r' s', Next R S k j r s m g r' s' := by
  obtain ⟨k1, k2, S0, S1, R0, R1, j0, j1, s0, s1, r0, r1, sum⟩ := h
  have hr : r ≤ 2147483546 := by omega
  have hok : okC r s m = true := okC_mk ⟨⟨r0, by omega⟩, ⟨s0, by omega⟩, ⟨m0, m1⟩⟩
  have ham : amongB r s m k = true := by
    have h2 : k ≤ 16 := k2
    simp [amongB, hok, k1, h2, s1]
  have hsb : sucB r s m k = true := sucB_yes ham (by omega)
  have agoF : ∀ r' s', 0 ≤ r' → r' ≤ 2147483547 → 0 ≤ s' → s' < k → r' * k + s' = R * k + S + (j + 1) → agoR r' s' m k (j + 1) = R ∧ agoS r' s' m k (j + 1) = S ∧ agoE r' s' m k (j + 1) = 0 := fun r' s' a1 a2 a3 a4 a5 => by
    have hok' : okC r' s' m = true := okC_mk ⟨⟨a1, by omega⟩, ⟨a3, by omega⟩, ⟨m0, m1⟩⟩
    have ham' : amongB r' s' m k = true := by
      have h2 : k ≤ 16 := k2
      simp [amongB, hok', k1, h2, a4]
    have hRk : 0 ≤ R * k := Int.mul_nonneg R0 (by omega)
    have hb : agoB r' s' m k (j + 1) = true := agoB_yes ham' (by omega) (by omega)
    have e := (Int.ediv_emod_unique (a := r' * k + s' - (j + 1)) (q := R) (r := S) (b := k) (by omega)).2 ⟨by rw [Int.mul_comm k]; omega, S0, S1⟩
    refine ⟨?_, ?_, ?_⟩
    · rw [agoR, if_pos hb]; exact e.1
    · rw [agoS, if_pos hb]; exact e.2
    · rw [agoE, if_pos hb]
  by_cases hs : s = k - 1
  · refine ⟨r + 1, 0, ⟨⟨?_, ?_, ?_, ?_, ?_⟩, refCmp_lt1 (by omega), agoF _ _ (by omega) (by omega) (by omega) (by omega) ?_, ⟨k1, k2, S0, S1, R0, R1, by omega, by omega, by omega, by omega, by omega, by omega, ?_⟩⟩⟩
    · rw [sucR, if_pos hsb, if_pos hs]
    · rw [sucS, if_pos hsb, if_pos hs]
    · rw [sucM, if_pos hsb]
    · rw [sucV, if_pos hsb]
    · rw [sucE, if_pos hsb]
    · rw [Int.add_mul]; omega
    · rw [Int.add_mul]; omega
  · refine ⟨r, s + 1, ⟨⟨?_, ?_, ?_, ?_, ?_⟩, refCmp_lt2 rfl (by omega), agoF _ _ (by omega) (by omega) (by omega) (by omega) (by omega), ⟨k1, k2, S0, S1, R0, R1, by omega, by omega, by omega, by omega, by omega, by omega, by omega⟩⟩⟩
    · rw [sucR, if_pos hsb, if_neg hs]
    · rw [sucS, if_pos hsb, if_neg hs]
    · rw [sucM, if_pos hsb]
    · rw [sucV, if_pos hsb]
    · rw [sucE, if_pos hsb]

theorem Step.bd {R S k j r s : Int} (h : Step R S k j r s) : (0 ≤ r * k ∧ r * k ≤ 34359738352) ∧ (0 ≤ R * k ∧ R * k ≤ 34359738352) :=
  ⟨prod_bd h.r0 (by have := h.r1; have := h.R1; have := h.j1; omega) h.k1 h.k2, prod_bd h.R0 (by have := h.R1; omega) h.k1 h.k2⟩

set_option maxRecDepth 100000 in
set_option maxHeartbeats 4000000 in
theorem follows_walk (r s m : Int) (g n x : Nat) (w : World) (hn : n < 256) (hx : x < 256) : Calls Try.prog 8 #[.agg #[.int .i64 r, .int .i64 s, .int .i64 m, .int .u16 (g : Int)], .int .u8 (n : Int), .int .u8 (x : Int)] w fun e w' => e = .returned (.bool true) ∧ Below w.heap.size w w' := by
  have hb0 : Below w.heap.size w (w.alloc (.cells #[.int .i64 r, .int .i64 s, .int .i64 m, .int .u16 (g : Int)] 25)) := (Below.refl _ _).alloc (Nat.le_refl _) _
  have hC0 := Whole.new w 25 #[.int .i64 r, .int .i64 s, .int .i64 m, .int .u16 (g : Int)]
  obtain ⟨r0, r1⟩ := u32_bd r
  obtain ⟨s0, s1⟩ := u32_bd s
  obtain ⟨m0, m1⟩ := u32_bd m
  go_enter Try.func8, Try.ntmps8
  go_wp2_with fail
  refine (alive4_any _).mono ?_
  rintro e w1 ⟨rfl, k1⟩
  have hb1 := below_then k1 hb0
  have hC1 := whole_later k1 hC0
  have z1 := hC1.lt
  obtain ⟨a0, a1, a2, a3, af⟩ := hC1.four
  clear hb0 hC0 k1
  go_wp2_with fail
  have hK1 : 1 ≤ 1 + (n : Int) % 16 := by omega
  have hK2 : 1 + (n : Int) % 16 ≤ 16 := by omega
  generalize 1 + (n : Int) % 16 = K at *
  have hS0 : 0 ≤ s % 4294967296 % K := Int.emod_nonneg _ (by omega)
  have hS1 : s % 4294967296 % K < K := Int.emod_lt_of_pos _ (by omega)
  generalize s % 4294967296 % K = S at *
  have hR0 : 0 ≤ r % 4294967296 % 2147483447 := by omega
  have hR1 : r % 4294967296 % 2147483447 ≤ 2147483446 := by omega
  generalize r % 4294967296 % 2147483447 = R at *
  generalize m % 4294967296 % 8 = M2 at *
  have hM0 : 0 ≤ m % 8 := by omega
  have hM1 : m % 8 ≤ 7 := by omega
  generalize m % 8 = M at *
  have hT0 : 0 ≤ (x : Int) % 101 := by omega
  have hT1 : (x : Int) % 101 ≤ 100 := by omega
  generalize (x : Int) % 101 = T at *
  have hC2 : Whole ((((w1.setCell ⟨w.heap.size, 1, none⟩ (.int .i64 S)).setCell ⟨w.heap.size, 0, none⟩ (.int .i64 R)).setCell ⟨w.heap.size, 2, none⟩ (.int .i64 M)).alloc (.cells #[.int .i64 R, .int .i64 S, .int .i64 M, .int .u16 (g : Int)] 25)) w.heap.size 25 #[.int .i64 R, .int .i64 S, .int .i64 M, .int .u16 (g : Int)] := (((hC1.set 1 _).set 0 _).set 2 _).alloc _
  have hA2 : Whole ((((w1.setCell ⟨w.heap.size, 1, none⟩ (.int .i64 S)).setCell ⟨w.heap.size, 0, none⟩ (.int .i64 R)).setCell ⟨w.heap.size, 2, none⟩ (.int .i64 M)).alloc (.cells #[.int .i64 R, .int .i64 S, .int .i64 M, .int .u16 (g : Int)] 25)) w1.heap.size 25 #[.int .i64 R, .int .i64 S, .int .i64 M, .int .u16 (g : Int)] := by
    have := Whole.new (((w1.setCell ⟨w.heap.size, 1, none⟩ (.int .i64 S)).setCell ⟨w.heap.size, 0, none⟩ (.int .i64 R)).setCell ⟨w.heap.size, 2, none⟩ (.int .i64 M)) 25 #[.int .i64 R, .int .i64 S, .int .i64 M, .int .u16 (g : Int)]
    simpa [World.setCell] using this
  have hb2 : Below w.heap.size w ((((w1.setCell ⟨w.heap.size, 1, none⟩ (.int .i64 S)).setCell ⟨w.heap.size, 0, none⟩ (.int .i64 R)).setCell ⟨w.heap.size, 2, none⟩ (.int .i64 M)).alloc (.cells #[.int .i64 R, .int .i64 S, .int .i64 M, .int .u16 (g : Int)] 25)) := (((hb1.setCell (p := ⟨w.heap.size, 1, none⟩) (Nat.le_refl _) _).setCell (p := ⟨w.heap.size, 0, none⟩) (Nat.le_refl _) _).setCell (p := ⟨w.heap.size, 2, none⟩) (Nat.le_refl _) _).alloc (by simp [World.setCell]; omega) _
  generalize (((w1.setCell ⟨w.heap.size, 1, none⟩ (.int .i64 S)).setCell ⟨w.heap.size, 0, none⟩ (.int .i64 R)).setCell ⟨w.heap.size, 2, none⟩ (.int .i64 M)).alloc (.cells #[.int .i64 R, .int .i64 S, .int .i64 M, .int .u16 (g : Int)] 25) = W0 at *
  clear hC1 hb1 a0 a1 a2 a3 af
  generalize w1.heap.size = gA at *
  have h0 : Step R S K 0 R S := ⟨hK1, hK2, hS0, hS1, hR0, hR1, by omega, by omega, hS0, hS1, hR0, by omega, by omega⟩
  have H0 := Lib.hid h0
  have HC2 := Lib.hid hC2
  have HA2 := Lib.hid hA2
  have HB2 := Lib.hid hb2
  clear h0 hC2 hA2 hb2
  go_loopw [11] (fun i V => ∃ (j : Int) (ar as_ : Int), i = .int .i64 (j + 1) ∧ j ≤ T ∧ Step R S K j ar as_ ∧ Whole V w.heap.size 25 #[.int .i64 R, .int .i64 S, .int .i64 M, .int .u16 (g : Int)] ∧ Whole V gA 25 #[.int .i64 ar, .int .i64 as_, .int .i64 M, .int .u16 (g : Int)] ∧ Below w.heap.size w V) (fun i _ => (T + 1 - intOf i).toNat)
  case atStart => exact ⟨0, R, S, rfl, hT0, H0.out, HC2.out, HA2.out, HB2.out⟩
  case round =>
    obtain ⟨j, ar, as_, rfl, hjT, hst, hC, hA, hb⟩ := hrel
    have j0 := hst.j0
    clear HC2 HA2 HB2 H0
    by_cases hlt : j + 1 ≤ T
    · obtain ⟨nr, ns, hnx⟩ := follow_step (g : Int) hst hM0 hM1 (by omega)
      obtain ⟨⟨e1, e2, e3, e4, e5⟩, e6, ⟨e7, e8, e9⟩, hst2⟩ := hnx
      have S1 := fun V => suc_b ar as_ M (g : Int) K V
      rw [e1, e2, e3, e4, e5] at S1
      have C1 := fun V => compare_any ar as_ M (g : Int) nr ns M (g : Int) V
      rw [e6] at C1
      have A1 := fun V => ago_b nr ns M (g : Int) K (j + 1) V
      rw [e7, e8, e9] at A1
      have HS := Lib.hid S1
      have HC := Lib.hid C1
      have HA := Lib.hid A1
      obtain ⟨⟨p0, p1⟩, ⟨P0, P1⟩⟩ := hst2.bd
      have hsum := hst2.sum
      have hsb : (nr * K + ns != R * K + S + (j + 1)) = false := by rw [hsum]; simp
      have hns := hst2.s1
      have hns0 := hst2.s0
      have d1 : decide (K ≤ ns) = false := decide_eq_false (by omega)
      have HST := Lib.hid hst2
      clear S1 C1 A1 e1 e2 e3 e4 e5 e6 e7 e8 e9 hst hst2
      have HSum := Lib.hid hsum
      clear hsum
      obtain ⟨c0, c1, c2, c3, cf⟩ := hC.four
      obtain ⟨a0, a1, a2, a3, af⟩ := hA.four
      go_wp2_with fail
      refine (HS.out _).mono ?_
      rintro e w2 ⟨rfl, k2⟩
      have hb3 := (below_then k2 hb).alloc (below_then k2 hb).size (.cells #[.int .i64 nr, .int .i64 ns, .int .i64 M, .int .u16 (g : Int)] 25)
      have hC3 := (whole_later k2 hC).alloc (.cells #[.int .i64 nr, .int .i64 ns, .int .i64 M, .int .u16 (g : Int)] 25)
      have hA3 := (whole_later k2 hA).alloc (.cells #[.int .i64 nr, .int .i64 ns, .int .i64 M, .int .u16 (g : Int)] 25)
      have hN3 := Whole.new w2 25 #[.int .i64 nr, .int .i64 ns, .int .i64 M, .int .u16 (g : Int)]
      have z2 : w.heap.size < w2.heap.size := (whole_later k2 hC).lt
      have z3 : gA < w2.heap.size := (whole_later k2 hA).lt
      clear c0 c1 c2 c3 cf a0 a1 a2 a3 af
      obtain ⟨c0, c1, c2, c3, cf⟩ := (whole_later k2 hC).four
      obtain ⟨a0, a1, a2, a3, af⟩ := (whole_later k2 hA).four
      clear hC hA hb k2
      go_wp2_with fail
      refine (HC.out _).mono ?_
      rintro e w4 ⟨rfl, k4⟩
      have hb4 := below_then k4 hb3
      have hC4 := whole_later k4 hC3
      have hA4 := whole_later k4 hA3
      have hN4 := whole_later k4 hN3
      clear c0 c1 c2 c3 cf a0 a1 a2 a3 af hC3 hA3 hN3 hb3 k4
      obtain ⟨c0, c1, c2, c3, cf⟩ := hC4.four
      obtain ⟨n0, n1, n2, n3, nf⟩ := hN4.four
      go_wp2_with fail
      refine (HA.out _).mono ?_
      rintro e w5 ⟨rfl, k5⟩
      have hb5 := below_then k5 hb4
      have hC5 := whole_later k5 hC4
      have hA5 := whole_later k5 hA4
      have hN5 := whole_later k5 hN4
      clear c0 c1 c2 c3 cf n0 n1 n2 n3 nf hC4 hA4 hN4 hb4 k5
      obtain ⟨c0, c1, c2, c3, cf⟩ := hC5.four
      obtain ⟨a0, a1, a2, a3, af⟩ := hA5.four
      obtain ⟨n0, n1, n2, n3, nf⟩ := hN5.four
      go_wp2_with fail
      go_roundw
      case rel =>
        refine ⟨j + 1, nr, ns, rfl, hlt, HST.out, ((((hC5.far (by simp; omega) _).far (by simp; omega) _).far (by simp; omega) _).far (by simp; omega) _), (((hA5.set 0 _).set 1 _).set 2 _).set 3 _, ?_⟩
        exact ((((hb5.setCell (p := ⟨gA, _, none⟩) (Nat.le_of_lt z1) _).setCell (p := ⟨gA, _, none⟩) (Nat.le_of_lt z1) _).setCell (p := ⟨gA, _, none⟩) (Nat.le_of_lt z1) _).setCell (p := ⟨gA, _, none⟩) (Nat.le_of_lt z1) _)
      case measure => simp [intOf]; omega
    · have d : decide (j + 1 ≤ T) = false := decide_eq_false hlt
      clear hst
      go_wp2
      go_ret
      exact ⟨rfl, hb⟩

end Go.Proofs.Ytnpjldolppikfaa
