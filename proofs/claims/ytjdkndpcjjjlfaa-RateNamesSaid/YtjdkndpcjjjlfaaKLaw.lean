/- The answers of rate's calls, field by field; the laws' own helpers: by contracts. No condition. -/
import Derived.Test.YtjdkndpcjjjlfaaKRefW
import Derived.Test.YtjdkndpcjjjlfaaKRefS
import Derived.Test.YtjdkndpcjjjlfaaKRefs
namespace Go.Proofs.Ytjdkndpcjjjlfaa
open Go.RowKit Go.Shelf

set_option maxHeartbeats 1000000 in
theorem refWhen_any (n d o j r : Int) (w : World) : Calls Try.prog 11 #[.agg #[.int .i64 n, .int .i64 d, .int .i64 o, .int .i64 j], .int .i64 r] w fun e w' => e = .returned (.tuple #[.int .i64 (whenV n d o j r), .int .i64 (whenE n d o j r)]) ∧ Below w.heap.size w w' := by
  have hb : Below w.heap.size w (w.alloc (.cells #[.int .i64 n, .int .i64 d, .int .i64 o, .int .i64 j] 25)) := (Below.refl _ _).alloc (Nat.le_refl _) _
  have hW1 := Whole.new w 25 #[.int .i64 n, .int .i64 d, .int .i64 o, .int .i64 j]
  cases hk : okK n d o j
  · have HV := Lib.hid (show whenV n d o j r = 0 by simp [whenV, whenB, hk])
    have HE := Lib.hid (show whenE n d o j r = 60 by simp [whenE, hk])
    have HC := Lib.hid (fun W => refCheck_k n d o j W)
    rw [hk] at HC
    have HC0 := Lib.hid (show refE (!false) = 60 from rfl)
    clear hk
    go_enter Try.func11, Try.ntmps11
    go_wp2_with (go_at_call 17; refine (HC.out _).mono ?_; rintro e wA ⟨rfl, bA⟩; rw [HC0.out]; have kA := k_then bA hb)
    go_ret2
    exact ⟨by rw [HV.out, HE.out]; rfl, kA⟩
  by_cases hr : r ≤ lastV n d o j
  · exact refWhen_go n d o j r w hk hr
  · have HV := Lib.hid (show whenV n d o j r = 0 by simp [whenV, whenB, hr])
    have HE := Lib.hid (show whenE n d o j r = 61 by simp [whenE, hk, hr])
    have HC := Lib.hid (fun W => refCheck_k n d o j W)
    have HR := Lib.hid (fun W => refReads_any n d o j 4294967296 W)
    rw [readB_last, hk, show toldV true (atV n d o j 4294967296) = lastV n d o j from rfl, show toldE true = 0 from rfl] at HR
    rw [hk] at HC
    have HC0 := Lib.hid (show refE (!true) = 0 from rfl)
    clear hk
    generalize lastV n d o j = L at *
    have hlt : L < r := by omega
    go_enter Try.func11, Try.ntmps11
    go_wp2_with (first
      | (go_at_call 17; refine (HC.out _).mono ?_; rintro e wA ⟨rfl, bA⟩; rw [HC0.out]; have kA := k_then bA hb; have hA1 := k_later bA hW1; obtain ⟨a0, a1, a2, a3, af⟩ := k_four hA1)
      | (go_at_call 9; refine (HR.out _).mono ?_; rintro e wB ⟨rfl, bB⟩; have kB := k_then bB kA))
    go_ret2
    exact ⟨by rw [HV.out, HE.out]; rfl, kB⟩

theorem set_b (n d o j b : Int) (w : World) : Calls Try.prog 12 #[.agg #[.int .i64 n, .int .i64 d, .int .i64 o, .int .i64 j], .int .i64 b] w fun e w' => e = .returned (.tuple #[.agg #[.int .i64 (setN n d o j b), .int .i64 (setD n d o j b), .int .i64 (setO n d o j b), .int .i64 (setJ n d o j b)], .int .i64 (setE n d o j b)]) ∧ Below w.heap.size w w' := set_any n d o j b w
theorem refSet_b (n d o j b : Int) (w : World) : Calls Try.prog 13 #[.agg #[.int .i64 n, .int .i64 d, .int .i64 o, .int .i64 j], .int .i64 b] w fun e w' => e = .returned (.tuple #[.agg #[.int .i64 (setN n d o j b), .int .i64 (setD n d o j b), .int .i64 (setO n d o j b), .int .i64 (setJ n d o j b)], .int .i64 (setE n d o j b)]) ∧ Below w.heap.size w w' := refSet_any n d o j b w
def orZ (b : Bool) (n : Int) : Int := if b then n else 0
theorem restart_b (n d o j t : Int) (w : World) : Calls Try.prog 14 #[.agg #[.int .i64 n, .int .i64 d, .int .i64 o, .int .i64 j], .int .i64 t] w fun e w' => e = .returned (.tuple #[.agg #[.int .i64 (orZ (reB n d o j t) n), .int .i64 (orZ (reB n d o j t) d), .int .i64 (orZ (reB n d o j t) t), .int .i64 0], .int .i64 (toldE (reB n d o j t))]) ∧ Below w.heap.size w w' := restart_any n d o j t w
theorem refRestart_b (n d o j t : Int) (w : World) : Calls Try.prog 15 #[.agg #[.int .i64 n, .int .i64 d, .int .i64 o, .int .i64 j], .int .i64 t] w fun e w' => e = .returned (.tuple #[.agg #[.int .i64 (orZ (reB n d o j t) n), .int .i64 (orZ (reB n d o j t) d), .int .i64 (orZ (reB n d o j t) t), .int .i64 0], .int .i64 (toldE (reB n d o j t))]) ∧ Below w.heap.size w w' := refRestart_any n d o j t w

set_option maxHeartbeats 400000 in
theorem some_any (w : World) : Calls Try.prog 22 #[] w fun e w' => e = .returned (.agg #[.int .i64 1001, .int .i64 1000, .int .i64 10, .int .i64 5]) ∧ Below w.heap.size w w' := by
  go_enter Try.func22, Try.ntmps22
  go_wp2
  refine bodyPost_ret (v := .agg #[.int .i64 1001, .int .i64 1000, .int .i64 10, .int .i64 5]) (by simp [results, Try.results22, go_sem]) rfl ⟨rfl, (Below.refl _ _).alloc (Nat.le_refl _) _⟩

/-- What a law's helper tells of a value and an error. -/
def orNeg (v e : Int) : Int := if e = 0 then v else -e
set_option maxHeartbeats 400000 in
theorem lreads_any (t v e : Int) (w : World) (hv : toldV (readB 1001 1000 10 5 t) (atV 1001 1000 10 5 t) = v) (he : toldE (readB 1001 1000 10 5 t) = e) : Calls Try.prog 21 #[.int .i64 t] w fun r w' => r = .returned (.int .i64 (orNeg v e)) ∧ Below w.heap.size w w' := by
  have HR := Lib.hid (fun W => reads_b 1001 1000 10 5 t W)
  rw [hv] at HR
  have h60 : toldE (readB 1001 1000 10 5 t) = 0 ∨ toldE (readB 1001 1000 10 5 t) = 60 := by cases readB 1001 1000 10 5 t <;> simp [toldE]
  rw [he] at HR h60
  clear hv he
  rcases h60 with rfl | rfl
  · have HV := Lib.hid (show orNeg v 0 = v from rfl)
    go_enter Try.func21, Try.ntmps21
    go_wp2_with (first
      | (go_at_call 22; refine (some_any _).mono ?_; rintro e wA ⟨rfl, bA⟩)
      | (go_at_call 8; refine (HR.out _).mono ?_; rintro e wB ⟨rfl, bB⟩; have kB := k_then bB bA))
    go_ret
    exact ⟨by rw [HV.out]; rfl, kB⟩
  · have HV := Lib.hid (show orNeg v 60 = -60 from rfl)
    go_enter Try.func21, Try.ntmps21
    go_wp2_with (first
      | (go_at_call 22; refine (some_any _).mono ?_; rintro e wA ⟨rfl, bA⟩)
      | (go_at_call 8; refine (HR.out _).mono ?_; rintro e wB ⟨rfl, bB⟩; have kB := k_then bB bA))
    go_ret
    exact ⟨by rw [HV.out]; rfl, kB⟩

set_option maxHeartbeats 400000 in
theorem lwhen_any (t v e : Int) (w : World) (hv : whenV 1001 1000 10 5 t = v) (he : whenE 1001 1000 10 5 t = e) : Calls Try.prog 20 #[.int .i64 t] w fun r w' => r = .returned (.int .i64 (orNeg v e)) ∧ Below w.heap.size w w' := by
  have HR := Lib.hid (fun W => when_any 1001 1000 10 5 t W)
  rw [hv] at HR
  have h60 : whenE 1001 1000 10 5 t = 0 ∨ whenE 1001 1000 10 5 t = 60 ∨ whenE 1001 1000 10 5 t = 61 := by
    unfold whenE
    split
    · split
      · exact .inl rfl
      · exact .inr (.inr rfl)
    · exact .inr (.inl rfl)
  rw [he] at HR h60
  clear hv he
  rcases h60 with rfl | rfl | rfl
  · have HV := Lib.hid (show orNeg v 0 = v from rfl)
    go_enter Try.func20, Try.ntmps20
    go_wp2_with (first
      | (go_at_call 22; refine (some_any _).mono ?_; rintro e wA ⟨rfl, bA⟩)
      | (go_at_call 10; refine (HR.out _).mono ?_; rintro e wB ⟨rfl, bB⟩; have kB := k_then bB bA))
    go_ret
    exact ⟨by rw [HV.out]; rfl, kB⟩
  · have HV := Lib.hid (show orNeg v 60 = -60 from rfl)
    go_enter Try.func20, Try.ntmps20
    go_wp2_with (first
      | (go_at_call 22; refine (some_any _).mono ?_; rintro e wA ⟨rfl, bA⟩)
      | (go_at_call 10; refine (HR.out _).mono ?_; rintro e wB ⟨rfl, bB⟩; have kB := k_then bB bA))
    go_ret
    exact ⟨by rw [HV.out]; rfl, kB⟩
  · have HV := Lib.hid (show orNeg v 61 = -61 from rfl)
    go_enter Try.func20, Try.ntmps20
    go_wp2_with (first
      | (go_at_call 22; refine (some_any _).mono ?_; rintro e wA ⟨rfl, bA⟩)
      | (go_at_call 10; refine (HR.out _).mono ?_; rintro e wB ⟨rfl, bB⟩; have kB := k_then bB bA))
    go_ret
    exact ⟨by rw [HV.out]; rfl, kB⟩

set_option maxHeartbeats 400000 in
theorem alive_r (w : World) : Calls Try.prog 23 #[] w fun e w' => e = .returned (.bool true) ∧ Below w.heap.size w w' := by
  have H1 := Lib.hid (fun W => lreads_any 10 5 0 W (by decide) (by decide))
  have H2 := Lib.hid (fun W => lreads_any 1010 1006 0 W (by decide) (by decide))
  have H3 := Lib.hid (fun W => lreads_any 9 0 60 W (by decide) (by decide))
  rw [show orNeg 5 0 = 5 from rfl] at H1
  rw [show orNeg 1006 0 = 1006 from rfl] at H2
  rw [show orNeg 0 60 = -60 from rfl] at H3
  go_enter Try.func23, Try.ntmps23
  go_wp2_with fail
  refine (H1.out _).mono ?_
  rintro e wA ⟨rfl, bA⟩
  go_wp2_with fail
  refine (H2.out _).mono ?_
  rintro e wB ⟨rfl, bB⟩
  have kB := k_then bB bA
  go_wp2_with fail
  refine (H3.out _).mono ?_
  rintro e wC ⟨rfl, bC⟩
  have kC := k_then bC kB
  go_wp2
  go_ret
  exact ⟨rfl, kC⟩

end Go.Proofs.Ytjdkndpcjjjlfaa
