/- Reads and When: by contracts. No condition. -/
import Derived.Test.YtjdkndpcjjjlfaaKTold
namespace Go.Proofs.Ytjdkndpcjjjlfaa
open Go.RowKit Go.Shelf

theorem told1_b (n d o j t : Int) (g : Nat) (ty : TypeId) (v : Value) (w : World) (hg : Whole w g ty #[v]) (hv : Doubt Try.prog w v (outB t o 4294967296)) :
    Calls Try.prog 24 #[.func (.func 25) #[] #[], .agg #[.int .i64 n, .int .i64 d, .int .i64 o, .int .i64 j], .int .i64 t, .slice (some ⟨g, 0, none⟩) 1 1] w fun e w' => e = .returned (.tuple #[.int .i64 (toldV (readB n d o j t) (atV n d o j t)), .int .i64 (toldE (readB n d o j t))]) ∧ Below w.heap.size w w' :=
  told1_any n d o j t g ty v w hg hv
theorem told0_b (n d o j r : Int) (w : World) (h2 : okK n d o j = true → r - j ≤ 8589934592) :
    Calls Try.prog 24 #[.func (.func 27) #[] #[], .agg #[.int .i64 n, .int .i64 d, .int .i64 o, .int .i64 j], .int .i64 r, .slice none 0 0] w fun e w' => e = .returned (.tuple #[.int .i64 (toldV (okK n d o j) (firstV n d o j r)), .int .i64 (toldE (okK n d o j))]) ∧ Below w.heap.size w w' :=
  told0_any n d o j r w h2

set_option maxRecDepth 100000 in
set_option maxHeartbeats 2000000 in
theorem reads_any (n d o j t : Int) (w : World) : Calls Try.prog 8 #[.agg #[.int .i64 n, .int .i64 d, .int .i64 o, .int .i64 j], .int .i64 t] w fun e w' => e = .returned (toldT (readB n d o j t) (atV n d o j t)) ∧ Below w.heap.size w w' := by
  have hb0 : Below w.heap.size w (w.alloc (.cells #[.int .i64 n, .int .i64 d, .int .i64 o, .int .i64 j] 25)) := (Below.refl _ _).alloc (Nat.le_refl _) _
  have hW1 := Whole.new w 25 #[.int .i64 n, .int .i64 d, .int .i64 o, .int .i64 j]
  obtain ⟨W, hWe⟩ : ∃ W, w.alloc (.cells #[.int .i64 n, .int .i64 d, .int .i64 o, .int .i64 j] 25) = W := ⟨_, rfl⟩
  rw [hWe] at hb0 hW1
  obtain ⟨c0, c1, c2, c3, cf⟩ := k_four hW1
  have hW0 := Below.refl W.heap.size W
  have HC := Lib.hid (fun V (hV : Below W.heap.size W V) => (⟨k_cell hV c0, k_cell hV c1, k_cell hV c2, k_cell hV c3⟩ : V.cell? ⟨w.heap.size, 0, none⟩ = some (.int .i64 n) ∧ V.cell? ⟨w.heap.size, 1, none⟩ = some (.int .i64 d) ∧ V.cell? ⟨w.heap.size, 2, none⟩ = some (.int .i64 o) ∧ V.cell? ⟨w.heap.size, 3, none⟩ = some (.int .i64 j)))
  have HW := Lib.hid hWe
  clear hWe hW1
  have HT := Lib.hid (fun g ty v W hg hv => told1_b n d o j t g ty v W hg hv)
  generalize readB n d o j t = rb at *
  generalize atV n d o j t = av at *
  have HV := Lib.hid (show toldT rb av = .tuple #[.int .i64 (toldV rb av), .int .i64 (toldE rb)] from rfl)
  generalize toldT rb av = tt at *
  generalize toldV rb av = tv at *
  generalize toldE rb = te at *
  go_enter Try.func8, Try.ntmps8
  go_wp2
  rw [HW.out]
  go_region_held3 (fun w' => w'.cell? ⟨w.heap.size, 0, none⟩ = some (.int .i64 n) ∧ w'.cell? ⟨w.heap.size, 1, none⟩ = some (.int .i64 d) ∧ w'.cell? ⟨w.heap.size, 2, none⟩ = some (.int .i64 o) ∧ w'.cell? ⟨w.heap.size, 3, none⟩ = some (.int .i64 j)) (first | exact HC.out _ kC | exact HC.out _ (kB.alloc kB.size _) | exact HC.out _ kB | exact HC.out _ (below_drewN hW0 1)) (first
    | (go_at_call 26; refine (beyond_any t o 4294967296 _).mono ?_; rintro e wB ⟨vB, rfl, dB, bB⟩; obtain ⟨fB, qB, hB⟩ := dB.open; subst hB; have kB : Below W.heap.size W wB := k_then bB (below_drewN hW0 1))
    | (go_at_call 24; refine (HT.out _ _ _ _ (Whole.new wB _ _) (dB.later ((Below.refl _ _).alloc (Nat.le_refl _) _))).mono ?_; rintro e wC ⟨rfl, bC⟩; have kC := k_then bC (kB.alloc kB.size _)))
  go_wp2
  go_ret2
  exact ⟨by rw [HV.out]; rfl, hb0.trans (kC.mono hb0.size)⟩

theorem reads_b (n d o j t : Int) (w : World) : Calls Try.prog 8 #[.agg #[.int .i64 n, .int .i64 d, .int .i64 o, .int .i64 j], .int .i64 t] w fun e w' => e = .returned (.tuple #[.int .i64 (toldV (readB n d o j t) (atV n d o j t)), .int .i64 (toldE (readB n d o j t))]) ∧ Below w.heap.size w w' :=
  reads_any n d o j t w

def lastV (n d o j : Int) : Int := atV n d o j 4294967296
def whenB (n d o j r : Int) : Bool := okK n d o j && decide (r ≤ lastV n d o j)
def whenV (n d o j r : Int) : Int := if whenB n d o j r then firstV n d o j r else 0
def whenE (n d o j r : Int) : Int := if okK n d o j then (if r ≤ lastV n d o j then 0 else 61) else 60

theorem readB_last (n d o j : Int) : readB n d o j 4294967296 = okK n d o j := by
  unfold readB
  cases h : okK n d o j
  · rfl
  · have := (okK_yes h).2.1
    rw [outB_mk this.2 (Int.le_refl _)]
    rfl
theorem last_le {n d o j : Int} (h : okK n d o j = true) : lastV n d o j ≤ 8589934592 + j := by
  have b := at_bounds h (okK_yes h).2.1.2 (Int.le_refl _)
  have := b.q2
  unfold lastV atV
  omega

set_option maxHeartbeats 2000000 in
theorem when_any (n d o j r : Int) (w : World) : Calls Try.prog 10 #[.agg #[.int .i64 n, .int .i64 d, .int .i64 o, .int .i64 j], .int .i64 r] w fun e w' => e = .returned (.tuple #[.int .i64 (whenV n d o j r), .int .i64 (whenE n d o j r)]) ∧ Below w.heap.size w w' := by
  have hb : Below w.heap.size w (w.alloc (.cells #[.int .i64 n, .int .i64 d, .int .i64 o, .int .i64 j] 25)) := (Below.refl _ _).alloc (Nat.le_refl _) _
  have hW1 := Whole.new w 25 #[.int .i64 n, .int .i64 d, .int .i64 o, .int .i64 j]
  have HR := Lib.hid (fun W => reads_b n d o j 4294967296 W)
  rw [readB_last, show atV n d o j 4294967296 = lastV n d o j from rfl] at HR
  cases hk : okK n d o j
  · have HV := Lib.hid (show whenV n d o j r = 0 by simp [whenV, whenB, hk])
    have HE := Lib.hid (show whenE n d o j r = 60 by simp [whenE, hk])
    have H1 := Lib.hid (show toldV false (lastV n d o j) = 0 from rfl)
    have H2 := Lib.hid (show toldE false = 60 from rfl)
    rw [hk] at HR
    clear hk
    go_enter Try.func10, Try.ntmps10
    go_wp2_with (go_at_call 8; refine (HR.out _).mono ?_; rintro e wA ⟨rfl, bA⟩; rw [H1.out, H2.out]; have kA := k_then bA hb)
    go_ret2
    exact ⟨by rw [HV.out, HE.out]; rfl, kA⟩
  · have hl := last_le hk
    have HF := Lib.hid (fun (h : r ≤ lastV n d o j) W => told0_b n d o j r W (fun _ => by omega))
    have H1 := Lib.hid (show toldV true (lastV n d o j) = lastV n d o j from rfl)
    have H2 := Lib.hid (show toldE true = 0 from rfl)
    have HV := Lib.hid (show r ≤ lastV n d o j → whenV n d o j r = firstV n d o j r from fun h => by simp [whenV, whenB, hk, h])
    have HE := Lib.hid (show r ≤ lastV n d o j → whenE n d o j r = 0 from fun h => by simp [whenE, hk, h])
    have HV0 := Lib.hid (show ¬ r ≤ lastV n d o j → whenV n d o j r = 0 from fun h => by simp [whenV, whenB, h])
    have HE0 := Lib.hid (show ¬ r ≤ lastV n d o j → whenE n d o j r = 61 from fun h => by simp [whenE, hk, h])
    rw [hk] at HR HF
    clear hk hl
    rw [H1.out, H2.out] at HR
    generalize lastV n d o j = l at *
    by_cases hrl : r ≤ l
    · have hd : decide (l < r) = false := decide_eq_false (by omega)
      have HV1 := Lib.hid (HV.out hrl)
      have HE1 := Lib.hid (HE.out hrl)
      have HG := Lib.hid (HF.out hrl)
      have H3 := Lib.hid (show toldV true (firstV n d o j r) = firstV n d o j r from rfl)
      rw [H2.out, H3.out] at HG
      clear HV HE HF HV0 HE0
      go_enter Try.func10, Try.ntmps10
      go_wp2_with (first
        | (go_at_call 8; refine (HR.out _).mono ?_; rintro e wA ⟨rfl, bA⟩; have kA := k_then bA hb; have hA1 := k_later bA hW1; obtain ⟨a0, a1, a2, a3, af⟩ := k_four hA1)
        | (go_at_call 24; refine (HG.out _).mono ?_; rintro e wC ⟨rfl, bC⟩; have kC := k_then bC kA))
      go_ret2
      exact ⟨by rw [HV1.out, HE1.out]; rfl, kC⟩
    · have HV1 := Lib.hid (HV0.out hrl)
      have HE1 := Lib.hid (HE0.out hrl)
      clear HV HE HF HV0 HE0
      go_enter Try.func10, Try.ntmps10
      go_wp2_with (first
        | (go_at_call 8; refine (HR.out _).mono ?_; rintro e wA ⟨rfl, bA⟩; have kA := k_then bA hb))
      go_ret2
      exact ⟨by rw [HV1.out, HE1.out]; rfl, kA⟩

end Go.Proofs.Ytjdkndpcjjjlfaa
