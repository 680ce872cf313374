/- The document's Reads: by a contract. No condition. -/
import Derived.Test.YtjdkndpcjjjlfaaKChk
namespace Go.Proofs.Ytjdkndpcjjjlfaa
open Go.RowKit Go.Shelf

theorem readB_no {n d o j t : Int} (h : ¬ (okK n d o j = true ∧ o ≤ t ∧ t ≤ 4294967296)) : readB n d o j t = false := by
  cases e : readB n d o j t
  · rfl
  · exact absurd (readB_yes e) h
theorem readB_mk {n d o j t : Int} (h : okK n d o j = true) (h1 : o ≤ t) (h2 : t ≤ 4294967296) : readB n d o j t = true := by
  unfold readB
  rw [h, outB_mk h1 h2]
  rfl
theorem at_turns (n d x j : Int) (hd : 1 ≤ d) : j + x / d * n + x % d * n / d = n * x / d + j := by
  have h1 : x = d * (x / d) + x % d := (Int.mul_ediv_add_emod x d).symm
  have h2 : n * x / d = x % d * n / d + x / d * n := by
    have h3 : n * x = x % d * n + (x / d * n) * d := by
      have h4 : n * x = n * (d * (x / d) + x % d) := by rw [← h1]
      rw [h4, Int.mul_add, Int.mul_comm n (x % d), Int.add_comm]
      congr 1
      rw [← Int.mul_assoc, Int.mul_comm n d, Int.mul_assoc, Int.mul_comm d, Int.mul_comm n]
    rw [h3, Int.add_mul_ediv_right _ _ (by omega)]
  omega

set_option maxHeartbeats 1000000 in
theorem refReads_any (n d o j t : Int) (w : World) : Calls Try.prog 9 #[.agg #[.int .i64 n, .int .i64 d, .int .i64 o, .int .i64 j], .int .i64 t] w fun e w' => e = .returned (.tuple #[.int .i64 (toldV (readB n d o j t) (atV n d o j t)), .int .i64 (toldE (readB n d o j t))]) ∧ Below w.heap.size w w' := by
  have hb : Below w.heap.size w (w.alloc (.cells #[.int .i64 n, .int .i64 d, .int .i64 o, .int .i64 j] 25)) := (Below.refl _ _).alloc (Nat.le_refl _) _
  have hW1 := Whole.new w 25 #[.int .i64 n, .int .i64 d, .int .i64 o, .int .i64 j]
  have HC := Lib.hid (fun W => refCheck_k n d o j W)
  have HN := Lib.hid (fun (h : ¬ (okK n d o j = true ∧ o ≤ t ∧ t ≤ 4294967296)) => (show toldV (readB n d o j t) (atV n d o j t) = 0 ∧ toldE (readB n d o j t) = 60 by rw [readB_no h]; exact ⟨rfl, rfl⟩))
  cases hk : okK n d o j
  · have HV := Lib.hid (HN.out (fun h => by rw [hk] at h; exact absurd h.1 (by decide)))
    have HE := Lib.hid (show refE (!false) = 60 from rfl)
    rw [hk] at HC
    clear hk
    go_enter Try.func9, Try.ntmps9
    go_wp2_with (go_at_call 17; refine (HC.out _).mono ?_; rintro e wA ⟨rfl, bA⟩; rw [HE.out]; have kA := k_then bA hb)
    go_ret2
    exact ⟨by rw [HV.out.1, HV.out.2]; rfl, kA⟩
  have HE := Lib.hid (show refE (!true) = 0 from rfl)
  rw [hk] at HC
  by_cases a1 : t < o
  · have HV := Lib.hid (HN.out (fun h => by omega))
    clear hk
    go_enter Try.func9, Try.ntmps9
    go_wp2_with (go_at_call 17; refine (HC.out _).mono ?_; rintro e wA ⟨rfl, bA⟩; rw [HE.out]; have kA := k_then bA hb; obtain ⟨e0, e1, e2, e3, ef⟩ := k_four (k_later bA hW1))
    go_ret2
    exact ⟨by rw [HV.out.1, HV.out.2]; rfl, kA⟩
  have d1 : decide (t < o) = false := decide_eq_false a1
  by_cases a2 : 4294967296 < t
  · have HV := Lib.hid (HN.out (fun h => by omega))
    clear hk
    go_enter Try.func9, Try.ntmps9
    go_wp2_with (go_at_call 17; refine (HC.out _).mono ?_; rintro e wA ⟨rfl, bA⟩; rw [HE.out]; have kA := k_then bA hb; obtain ⟨e0, e1, e2, e3, ef⟩ := k_four (k_later bA hW1))
    go_ret2
    exact ⟨by rw [HV.out.1, HV.out.2]; rfl, kA⟩
  have d2 : decide (4294967296 < t) = false := decide_eq_false a2
  have b := at_bounds hk (show o ≤ t by omega) (show t ≤ 4294967296 by omega)
  obtain ⟨⟨c1, c2, c3, c4⟩, ⟨o1, o2⟩, j1, j2⟩ := okK_yes hk
  have HT := Lib.hid (at_turns n d (t - o) j c1)
  have HR : toldV (readB n d o j t) (atV n d o j t) = j + (t - o) / d * n + (t - o) % d * n / d ∧ toldE (readB n d o j t) = 0 := by
    rw [readB_mk hk (by omega) (by omega), HT.out]; exact ⟨rfl, rfl⟩
  have q1 : 0 ≤ (t - o) / d := Int.ediv_nonneg b.t1 (by omega)
  have q2 : (t - o) / d ≤ t - o := Int.ediv_le_self _ b.t1
  have r1 : 0 ≤ (t - o) % d := Int.emod_nonneg _ (by omega)
  have r2 : (t - o) % d < d := Int.emod_lt_of_pos _ (by omega)
  have e1 : (t - o).tdiv d = (t - o) / d := Int.tdiv_eq_ediv_of_nonneg b.t1
  have e2 : (t - o).tmod d = (t - o) % d := Int.tmod_eq_emod_of_nonneg b.t1
  have hq2 := b.t2
  generalize (t - o) / d = q at *
  generalize (t - o) % d = r at *
  have m1 : 0 ≤ q * n := Int.mul_nonneg q1 (by omega)
  have m2 : q * n ≤ 4294967296 * 131072 := Int.mul_le_mul (by omega) (by omega) (by omega) (by omega)
  have p1 : 0 ≤ r * n := Int.mul_nonneg r1 (by omega)
  have p2 : r * n ≤ 65536 * 131072 := Int.mul_le_mul (by omega) (by omega) (by omega) (by omega)
  have e3 : (r * n).tdiv d = r * n / d := Int.tdiv_eq_ediv_of_nonneg p1
  have s1 : 0 ≤ r * n / d := Int.ediv_nonneg p1 (by omega)
  have s2 : r * n / d ≤ r * n := Int.ediv_le_self _ p1
  generalize hm : q * n = m at *
  generalize hp : r * n = p at *
  generalize hs : p / d = s at *
  have HR2 := Lib.hid HR
  have HK := Lib.hid b
  clear HR hk HN HT b
  go_enter Try.func9, Try.ntmps9
  go_wp2_with (go_at_call 17; refine (HC.out _).mono ?_; rintro e wA ⟨rfl, bA⟩; rw [HE.out]; have kA := k_then bA hb; obtain ⟨f0, f1, f2, f3, ff⟩ := k_four (k_later bA hW1))
  go_quiet (fail)
  go_wp2
  go_ret2
  exact ⟨by rw [HR2.out.1, HR2.out.2]; rfl, below_drewN kA _⟩

end Go.Proofs.Ytjdkndpcjjjlfaa
