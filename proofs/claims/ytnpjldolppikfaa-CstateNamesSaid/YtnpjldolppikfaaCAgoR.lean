/- The slot so many slots ago: the document's, by a contract. -/
import Derived.Test.YtnpjldolppikfaaCAgo
namespace Go.Proofs.Ytnpjldolppikfaa
open Go.RowKit

/-- k slots are q rounds and t slots. -/
theorem parts_of {n k : Int} (h1 : 1 ≤ n) (h0 : 0 ≤ k) : 0 ≤ k / n ∧ 0 ≤ k % n ∧ k % n < n ∧ k / n * n + k % n = k ∧ k / n ≤ k := by
  have a := Int.ediv_nonneg h0 (show 0 ≤ n by omega)
  have b := Int.emod_nonneg k (show n ≠ 0 by omega)
  have c := Int.emod_lt_of_pos k (show 0 < n by omega)
  have d := Int.ediv_mul_add_emod k n
  have e := Int.ediv_le_self n h0
  exact ⟨a, b, c, d, e⟩
theorem rounds_le {r q n : Int} (h : q + 1 ≤ r) (hn : 1 ≤ n) : q * n + n ≤ r * n := by
  have := Int.mul_le_mul_of_nonneg_right h (show (0 : Int) ≤ n by omega)
  rw [Int.add_mul] at this
  omega
theorem back_more {r s q t n k : Int} (hn : 1 ≤ n) (hk : q * n + t = k) (ht : 0 ≤ t) (hs : s < n) (h : r < q) : r * n + s < k := by
  have := rounds_le (r := q) (q := r) (by omega) hn
  omega
theorem back_fits {r s q t n k : Int} (hn : 1 ≤ n) (hk : q * n + t = k) (ht : t < n) (hs : 0 ≤ s) (h : q < r) : k ≤ r * n + s := by
  have := rounds_le (r := r) (q := q) (by omega) hn
  omega
theorem back_near {r s q t n k : Int} (hn : 1 ≤ n) (hk : q * n + t = k) (h0 : 0 ≤ t) (hs : s < n) (hts : t ≤ s) : r - q = (r * n + s - k) / n ∧ s - t = (r * n + s - k) % n := by
  have h := (Int.ediv_emod_unique (a := r * n + s - k) (q := r - q) (r := s - t) (b := n) (by omega)).2 ⟨by
    rw [Int.mul_comm n, Int.sub_mul]; omega, by omega, by omega⟩
  exact ⟨h.1.symm, h.2.symm⟩
theorem back_far {r s q t n k : Int} (hn : 1 ≤ n) (hk : q * n + t = k) (h0 : t < n) (hs : 0 ≤ s) (hts : s < t) : r - q - 1 = (r * n + s - k) / n ∧ s - t + n = (r * n + s - k) % n := by
  have h := (Int.ediv_emod_unique (a := r * n + s - k) (q := r - q - 1) (r := s - t + n) (b := n) (by omega)).2 ⟨by
    rw [Int.mul_comm n, Int.sub_mul, Int.sub_mul]; omega, by omega, by omega⟩
  exact ⟨h.1.symm, h.2.symm⟩

set_option maxHeartbeats 1000000 in
theorem refAgo_no1 (r s m v n k : Int) (w : World) (h : amongB r s m n = false) : Calls Try.prog 21 #[.agg #[.int .i64 r, .int .i64 s, .int .i64 m, .int .u16 v], .int .i64 n, .int .i64 k] w (AgoAt r s m n k w) := by
  have hb : Below w.heap.size w (w.alloc (.cells #[.int .i64 r, .int .i64 s, .int .i64 m, .int .u16 v] 25)) := (Below.refl _ _).alloc (Nat.le_refl _) _
  have HA := Lib.hid h
  have HB := Lib.hid (agoB_no1 (k := k) h)
  clear h
  go_enter Try.func21, Try.ntmps21
  go_wp2_with (go_at_call 44; refine (fits4_any _ _ _ _ _ _).mono ?_; rintro e w' ⟨rfl, hb2⟩; rw [HA.out]; have hb3 := below_then hb2 hb)
  go_quiet (fail)
  go_wp2
  go_ret3
  exact AgoAt.no HB.out (below_drewN hb3 _)

set_option maxHeartbeats 1000000 in
theorem refAgo_no2 (r s m v n k : Int) (w : World) (h : amongB r s m n = true) (k1 : k < 0) : Calls Try.prog 21 #[.agg #[.int .i64 r, .int .i64 s, .int .i64 m, .int .u16 v], .int .i64 n, .int .i64 k] w (AgoAt r s m n k w) := by
  have hb : Below w.heap.size w (w.alloc (.cells #[.int .i64 r, .int .i64 s, .int .i64 m, .int .u16 v] 25)) := (Below.refl _ _).alloc (Nat.le_refl _) _
  have HA := Lib.hid h
  have HB := Lib.hid (agoB_no2 (r := r) (s := s) (m := m) (n := n) k1)
  clear h
  go_enter Try.func21, Try.ntmps21
  go_wp2_with (go_at_call 44; refine (fits4_any _ _ _ _ _ _).mono ?_; rintro e w' ⟨rfl, hb2⟩; rw [HA.out]; have hb3 := below_then hb2 hb)
  go_quiet (fail)
  go_wp2
  go_ret3
  exact AgoAt.no HB.out (below_drewN hb3 _)

set_option maxHeartbeats 2000000 in
theorem refAgo_no3 (r s m v n k : Int) (w : World) (kb : k ≤ 9223372036854775807) (h : amongB r s m n = true) (k1 : 0 ≤ k) (k2 : r < k / n) : Calls Try.prog 21 #[.agg #[.int .i64 r, .int .i64 s, .int .i64 m, .int .u16 v], .int .i64 n, .int .i64 k] w (AgoAt r s m n k w) := by
  have hb : Below w.heap.size w (w.alloc (.cells #[.int .i64 r, .int .i64 s, .int .i64 m, .int .u16 v] 25)) := (Below.refl _ _).alloc (Nat.le_refl _) _
  have hW1 := Whole.new w 25 #[.int .i64 r, .int .i64 s, .int .i64 m, .int .u16 v]
  obtain ⟨⟨n1, n2⟩, s3, hk⟩ := amongB_yes h
  obtain ⟨⟨r1, r2⟩, ⟨s1, s2⟩, ⟨m1, m2⟩⟩ := okC_yes hk
  obtain ⟨q1, t1, t2, hqt, q2⟩ := parts_of n1 k1
  have e1 : k.tdiv n = k / n := Int.tdiv_eq_ediv_of_nonneg k1
  have e2 : k.tmod n = k % n := Int.tmod_eq_emod_of_nonneg k1
  generalize hqq : k / n = q at *
  generalize htt : k % n = t at *
  have HA := Lib.hid h
  have d1 : decide (k < 0) = false := decide_eq_false (by omega)
  have HB := Lib.hid (agoB_no3 (m := m) (back_more (r := r) (s := s) n1 hqt t1 s3 k2))
  clear h hk hqt
  go_enter Try.func21, Try.ntmps21
  go_wp2_with fail
  refine (fits4_any _ _ _ _ _ _).mono ?_
  rintro e w' ⟨rfl, hb2⟩
  rw [HA.out]
  have hb3 := below_then hb2 hb
  obtain ⟨c0, c1, c2, c3, cf⟩ := (whole_later hb2 hW1).four
  clear hb hb2 hW1
  go_wp2_with fail
  go_quiet (fail)
  go_wp2
  go_ret3
  exact AgoAt.no HB.out (below_drewN hb3 _)

set_option maxHeartbeats 2000000 in
theorem refAgo_no4 (r s m v n k : Int) (w : World) (h : amongB r s m n = true) (k1 : 0 ≤ k) (k2 : k / n = r) (k3 : s < k % n) : Calls Try.prog 21 #[.agg #[.int .i64 r, .int .i64 s, .int .i64 m, .int .u16 v], .int .i64 n, .int .i64 k] w (AgoAt r s m n k w) := by
  have hb : Below w.heap.size w (w.alloc (.cells #[.int .i64 r, .int .i64 s, .int .i64 m, .int .u16 v] 25)) := (Below.refl _ _).alloc (Nat.le_refl _) _
  have hW1 := Whole.new w 25 #[.int .i64 r, .int .i64 s, .int .i64 m, .int .u16 v]
  obtain ⟨⟨n1, n2⟩, s3, hk⟩ := amongB_yes h
  obtain ⟨⟨r1, r2⟩, ⟨s1, s2⟩, ⟨m1, m2⟩⟩ := okC_yes hk
  obtain ⟨q1, t1, t2, hqt, q2⟩ := parts_of n1 k1
  have e1 : k.tdiv n = k / n := Int.tdiv_eq_ediv_of_nonneg k1
  have e2 : k.tmod n = k % n := Int.tmod_eq_emod_of_nonneg k1
  generalize hqq : k / n = q at *
  generalize htt : k % n = t at *
  have HA := Lib.hid h
  have d1 : decide (k < 0) = false := decide_eq_false (by omega)
  subst k2
  have HB := Lib.hid (agoB_no3 (m := m) (show q * n + s < k by omega))
  have d2 : decide (q < q) = false := decide_eq_false (by omega)
  clear h hk hqt
  go_enter Try.func21, Try.ntmps21
  go_wp2_with fail
  refine (fits4_any _ _ _ _ _ _).mono ?_
  rintro e w' ⟨rfl, hb2⟩
  rw [HA.out]
  have hb3 := below_then hb2 hb
  obtain ⟨c0, c1, c2, c3, cf⟩ := (whole_later hb2 hW1).four
  clear hb hb2 hW1
  go_wp2_with fail
  go_quiet (fail)
  go_wp2
  go_ret3
  exact AgoAt.no HB.out (below_drewN hb3 _)

/-- What round and slot are, so many slots on. -/
def backR (r s q j : Int) : Int := if j ≤ s then r - q else r - q - 1
def backS (s n j : Int) : Int := if j ≤ s then s - j else s - j + n


set_option maxHeartbeats 2000000 in
theorem refAgo_yes (r s m v n k : Int) (w : World) (h : amongB r s m n = true) (k1 : 0 ≤ k) (k2 : k / n < r ∨ k / n = r ∧ k % n ≤ s) : Calls Try.prog 21 #[.agg #[.int .i64 r, .int .i64 s, .int .i64 m, .int .u16 v], .int .i64 n, .int .i64 k] w (AgoAt r s m n k w) := by
  have hb : Below w.heap.size w (w.alloc (.cells #[.int .i64 r, .int .i64 s, .int .i64 m, .int .u16 v] 25)) := (Below.refl _ _).alloc (Nat.le_refl _) _
  have hW1 := Whole.new w 25 #[.int .i64 r, .int .i64 s, .int .i64 m, .int .u16 v]
  obtain ⟨⟨n1, n2⟩, s3, hk⟩ := amongB_yes h
  obtain ⟨⟨r1, r2⟩, ⟨s1, s2⟩, ⟨m1, m2⟩⟩ := okC_yes hk
  obtain ⟨q1, t1, t2, hqt, q2⟩ := parts_of n1 k1
  have e1 : k.tdiv n = k / n := Int.tdiv_eq_ediv_of_nonneg k1
  have e2 : k.tmod n = k % n := Int.tmod_eq_emod_of_nonneg k1
  generalize hqq : k / n = q at *
  generalize htt : k % n = t at *
  have HA := Lib.hid h
  have d1 : decide (k < 0) = false := decide_eq_false (by omega)
  have HB := Lib.hid (agoB_yes h k1 (show k ≤ r * n + s by
    rcases k2 with k2 | ⟨k2, k3⟩
    · exact back_fits n1 hqt t2 s1 k2
    · subst k2; omega))
  have HR := Lib.hid (show backR r s q t = (r * n + s - k) / n by
    unfold backR
    split
    · rename_i hts; exact (back_near n1 hqt t1 s3 hts).1
    · rename_i hts; exact (back_far n1 hqt t2 s1 (by omega)).1)
  have HS := Lib.hid (show backS s n t = (r * n + s - k) % n by
    unfold backS
    split
    · rename_i hts; exact (back_near n1 hqt t1 s3 hts).2
    · rename_i hts; exact (back_far n1 hqt t2 s1 (by omega)).2)
  have d2 : decide (r < q) = false := decide_eq_false (by omega)
  have q3 : q ≤ r := by omega
  clear h hk hqt
  have fin : (q == r) = false ∨ ((q == r) = true ∧ decide (s < t) = false) := by
    rcases k2 with k2 | ⟨k2, k3⟩
    · exact .inl (by have : ¬ q = r := by omega
                     simp [this])
    · exact .inr ⟨by simp [k2], decide_eq_false (by omega)⟩
  clear k2
  rcases fin with d3 | ⟨d3, d4⟩
  all_goals
    go_enter Try.func21, Try.ntmps21
    go_wp2_with fail
    refine (fits4_any _ _ _ _ _ _).mono ?_
    rintro e w' ⟨rfl, hb2⟩
    rw [HA.out]
    have hb3 := below_then hb2 hb
    obtain ⟨c0, c1, c2, c3, cf⟩ := (whole_later hb2 hW1).four
    clear hb hb2 hW1
    go_wp2_with fail
    go_quiet (fail)
    go_wp2_with fail
    go_quiet (fail)
    go_wp2
    go_loop [10, 11, 12] (fun a b c => ∃ j : Int, 0 ≤ j ∧ j ≤ t ∧ a = .int .i64 (backR r s q j) ∧ b = .int .i64 (backS s n j) ∧ c = .int .i64 (t - j)) (fun _ _ c => (intOf c).toNat)
    case atStart =>
      exact ⟨0, by omega, t1, by rw [backR, if_pos s1], by rw [backS, if_pos s1, Int.sub_zero], by rw [Int.sub_zero]⟩
    case round =>
      obtain ⟨j, j1, j2, rfl, rfl, rfl⟩ := hrel
      by_cases hlt : j < t
      · by_cases hjs : j < s
        · have x1 : backS s n j = s - j := if_pos (by omega)
          have x2 : backR r s q j = r - q := if_pos (by omega)
          have y1 := Lib.hid (show backS s n (j + 1) = s - j - 1 from by rw [backS, if_pos (by omega)]; omega)
          have y2 := Lib.hid (show backR r s q (j + 1) = r - q from if_pos (by omega))
          rw [x1, x2]
          clear x1 x2
          go_wp2
          go_round
          case rel => exact ⟨j + 1, by omega, by omega, by rw [y2.out], by rw [y1.out], by go_num⟩
          case measure => simp [intOf]; omega
        · by_cases hje : j = s
          · have x1 : backS s n j = s - j := if_pos (by omega)
            have x2 : backR r s q j = r - q := if_pos (by omega)
            have y1 := Lib.hid (show backS s n (j + 1) = n - 1 from by rw [backS, if_neg (by omega)]; omega)
            have y2 := Lib.hid (show backR r s q (j + 1) = r - q - 1 from if_neg (by omega))
            rw [x1, x2]
            clear x1 x2
            have z : s - j - 1 < 0 := by omega
            clear hje
            go_wp2
            go_round
            case rel => exact ⟨j + 1, by omega, by omega, by rw [y2.out], by rw [y1.out], by go_num⟩
            case measure => simp [intOf]; omega
          · have x1 : backS s n j = s - j + n := if_neg (by omega)
            have x2 : backR r s q j = r - q - 1 := if_neg (by omega)
            have y1 := Lib.hid (show backS s n (j + 1) = s - j + n - 1 from by rw [backS, if_neg (by omega)]; omega)
            have y2 := Lib.hid (show backR r s q (j + 1) = r - q - 1 from if_neg (by omega))
            rw [x1, x2]
            clear x1 x2
            have z : decide (s - j + n - 1 < 0) = false := decide_eq_false (by omega)
            go_wp2
            go_round
            case rel => exact ⟨j + 1, by omega, by omega, by rw [y2.out], by rw [y1.out], by go_num⟩
            case measure => simp [intOf]; omega
      · obtain rfl : t = j := by omega
        have z : decide (0 < t - t) = false := decide_eq_false (by omega)
        generalize hbr : backR r s q t = a at *
        generalize hbs : backS s n t = b at *
        have HX := Lib.hid hbr
        have HY := Lib.hid hbs
        clear hbr hbs
        go_wp2
        go_ret3
        exact AgoAt.yes HB.out (below_drewN hb3 _) HR.out HS.out

theorem refAgo_any (r s m v n k : Int) (w : World) (kb : k ≤ 9223372036854775807) : Calls Try.prog 21 #[.agg #[.int .i64 r, .int .i64 s, .int .i64 m, .int .u16 v], .int .i64 n, .int .i64 k] w (AgoAt r s m n k w) := by
  cases h : amongB r s m n
  · exact refAgo_no1 r s m v n k w h
  · by_cases k1 : k < 0
    · exact refAgo_no2 r s m v n k w h k1
    · by_cases k2 : r < k / n
      · exact refAgo_no3 r s m v n k w kb h (by omega) k2
      · by_cases k3 : k / n = r ∧ s < k % n
        · exact refAgo_no4 r s m v n k w h (by omega) k3.1 k3.2
        · exact refAgo_yes r s m v n k w h (by omega) (by omega)
theorem ago_any (r s m v n k : Int) (w : World) : Calls Try.prog 20 #[.agg #[.int .i64 r, .int .i64 s, .int .i64 m, .int .u16 v], .int .i64 n, .int .i64 k] w (AgoAt r s m n k w) := by
  cases h : amongB r s m n
  · exact ago_no1 r s m v n k w h
  · exact ago_yes r s m v n k w h

end Go.Proofs.Ytnpjldolppikfaa
