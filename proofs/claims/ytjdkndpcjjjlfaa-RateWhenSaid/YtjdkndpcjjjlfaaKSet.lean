/- A clock set on, and restarted: by contracts. No condition. -/
import Derived.Test.YtjdkndpcjjjlfaaKKeep
namespace Go.Proofs.Ytjdkndpcjjjlfaa
open Go.RowKit Go.Shelf

def farB (j b : Int) : Bool := decide (b < wrap64 (-4294967296 - j)) || decide (wrap64 (4294967296 - j) < b)

set_option maxHeartbeats 1000000 in
theorem far_any (n d o j b : Int) (x g : Nat) (t1 t2 : TypeId) (w : World) (h1 : Whole w x t1 #[.int .i64 b]) (h2 : Whole w g t2 #[.int .i64 n, .int .i64 d, .int .i64 o, .int .i64 j]) :
    Calls Try.prog 28 #[.pointer (some ⟨x, 0, none⟩), .pointer (some ⟨g, 0, none⟩)] w fun e w' => e = .returned (.bool (farB j b)) ∧ Below w.heap.size w w' := by
  obtain ⟨c1, f1⟩ := k_one h1
  obtain ⟨d1, d2, d3, d4, f2⟩ := k_four h2
  by_cases g1 : b < wrap64 (-4294967296 - j)
  · have HV := Lib.hid (show farB j b = true by simp [farB, g1])
    go_enter Try.func28, Try.ntmps28
    go_wp2
    go_ret
    exact ⟨by rw [HV.out]; rfl, Below.refl _ _⟩
  · have e1 : decide (b < wrap64 (-4294967296 - j)) = false := decide_eq_false g1
    have HV := Lib.hid (show farB j b = decide (wrap64 (4294967296 - j) < b) by simp [farB, g1])
    go_enter Try.func28, Try.ntmps28
    go_wp2
    go_ret
    exact ⟨by rw [HV.out]; rfl, Below.refl _ _⟩

def setB (n d o j b : Int) : Bool := okK n d o j && (decide (-4294967296 ≤ j + b) && decide (j + b ≤ 4294967296))
theorem set_ref (n d o j b : Int) : (!okK n d o j || farB j b) = !setB n d o j b := by
  unfold setB
  cases h1 : okK n d o j
  · rfl
  · obtain ⟨_, _, j1, j2⟩ := okK_yes h1
    have e1 : wrap64 (-4294967296 - j) = -4294967296 - j := by unfold wrap64; omega
    have e2 : wrap64 (4294967296 - j) = 4294967296 - j := by unfold wrap64; omega
    simp only [farB, e1, e2, Bool.not_true, Bool.false_or, Bool.true_and]
    rw [Bool.eq_iff_iff]
    simp only [Bool.or_eq_true, decide_eq_true_eq, Bool.not_eq_true', Bool.and_eq_false_iff, decide_eq_false_iff_not]
    omega

def setN (n d o j b : Int) : Int := if setB n d o j b then n else 0
def setD (n d o j b : Int) : Int := if setB n d o j b then d else 0
def setO (n d o j b : Int) : Int := if setB n d o j b then o else 0
def setJ (n d o j b : Int) : Int := if setB n d o j b then j + b else 0
def setE (n d o j b : Int) : Int := if setB n d o j b then 0 else 60
def setT (n d o j b : Int) : Value := .tuple #[.agg #[.int .i64 (setN n d o j b), .int .i64 (setD n d o j b), .int .i64 (setO n d o j b), .int .i64 (setJ n d o j b)], .int .i64 (setE n d o j b)]
theorem setT_no {n d o j b : Int} (h : setB n d o j b = false) : setT n d o j b = .tuple #[.agg #[.int .i64 0, .int .i64 0, .int .i64 0, .int .i64 0], .int .i64 60] := by
  simp [setT, setN, setD, setO, setJ, setE, h]
theorem setT_yes {n d o j b : Int} (h : setB n d o j b = true) : setT n d o j b = .tuple #[.agg #[.int .i64 n, .int .i64 d, .int .i64 o, .int .i64 (j + b)], .int .i64 0] := by
  simp [setT, setN, setD, setO, setJ, setE, h]

set_option maxHeartbeats 1000000 in
theorem set_any (n d o j b : Int) (w : World) : Calls Try.prog 12 #[.agg #[.int .i64 n, .int .i64 d, .int .i64 o, .int .i64 j], .int .i64 b] w fun e w' => e = .returned (setT n d o j b) ∧ Below w.heap.size w w' := by
  have hmf : ∀ (fn : Fn) (first cap : Array Value) (w : World), (Instr.makeFunc fn first cap).run Try.prog w = .ok (.func fn first cap) w := fun _ _ _ _ => rfl
  have HO := Lib.hid (set_ref n d o j b)
  obtain ⟨W, hWe⟩ : ∃ W, ((w.alloc (.cells #[.int .i64 n, .int .i64 d, .int .i64 o, .int .i64 j] 25)).alloc (.cells #[.int .i64 b] 2)).alloc (.cells #[.int .i64 0, .int .i64 0, .int .i64 0, .int .i64 0] 25) = W := ⟨_, rfl⟩
  have hb : Below w.heap.size w W := by rw [← hWe]; exact (((Below.refl _ _).alloc (Nat.le_refl _) _).alloc (by simp) _).alloc (by simp; omega) _
  have hW1 : Whole W w.heap.size 25 #[.int .i64 n, .int .i64 d, .int .i64 o, .int .i64 j] := by rw [← hWe]; exact ((Whole.new w _ _).alloc _).alloc _
  have hW2 : Whole W (w.heap.size + 1) 2 #[.int .i64 b] := by
    rw [← hWe]
    have := (Whole.new (w.alloc (.cells #[.int .i64 n, .int .i64 d, .int .i64 o, .int .i64 j] 25)) 2 #[.int .i64 b]).alloc (.cells #[.int .i64 0, .int .i64 0, .int .i64 0, .int .i64 0] 25)
    simpa using this
  have hW3 : Whole W (w.heap.size + 1 + 1) 25 #[.int .i64 0, .int .i64 0, .int .i64 0, .int .i64 0] := by
    rw [← hWe]
    have := Whole.new ((w.alloc (.cells #[.int .i64 n, .int .i64 d, .int .i64 o, .int .i64 j] 25)).alloc (.cells #[.int .i64 b] 2)) 25 #[.int .i64 0, .int .i64 0, .int .i64 0, .int .i64 0]
    simpa using this
  have dS : Doubt Try.prog W (.func (.func 28) #[] #[.pointer (some ⟨w.heap.size + 1, 0, none⟩), .pointer (some ⟨w.heap.size, 0, none⟩)]) (farB j b) :=
    ⟨_, _, rfl, enters_of Try.func28 (by kernel_rfl) rfl, fun V hV => far_any n d o j b _ _ _ _ V (k_later hV hW2) (k_later hV hW1)⟩
  obtain ⟨a0, a1, a2, a3, af⟩ := k_four hW1
  subst hWe
  have HS0 := Lib.hid (setT_no (n := n) (d := d) (o := o) (j := j) (b := b))
  have HS1 := Lib.hid (setT_yes (n := n) (d := d) (o := o) (j := j) (b := b))
  have HK := Lib.hid (show setB n d o j b = true → (-4294967296 ≤ j ∧ j ≤ 4294967296) ∧ -4294967296 ≤ j + b ∧ j + b ≤ 4294967296 from fun h => by
    simp only [setB, Bool.and_eq_true, decide_eq_true_eq] at h
    exact ⟨(okK_yes h.1).2.2, h.2⟩)
  go_enter Try.func12, Try.ntmps12
  go_wp2_with fail
  refine (noClock_any n d o j _).mono ?_
  rintro e wA ⟨vA, rfl, dA, bA⟩
  obtain ⟨fA, qA, hA⟩ := dA.open
  subst hA
  have kA := k_then bA hb
  have hA1 := k_later bA hW1
  have hA2 := k_later bA hW2
  have hA3 := k_later bA hW3
  have dS2 := dS.later bA
  clear hb hW1 hW2 hW3 dS a0 a1 a2 a3 af bA
  go_wp2_with fail
  refine (refused2 _ _ (!okK n d o j) (farB j b) _ _ _ _ (Whole.new wA _ _) (dA.later ((Below.refl _ _).alloc (Nat.le_refl _) _)) (dS2.later ((Below.refl _ _).alloc (Nat.le_refl _) _))).mono ?_
  rintro e wC ⟨rfl, bC⟩
  rw [HO.out]
  have kC := k_then bC (kA.alloc kA.size _)
  have hC1 := k_later bC (hA1.alloc _)
  have hC2 := k_later bC (hA2.alloc _)
  have hC3 := k_later bC (hA3.alloc _)
  clear kA hA1 hA2 hA3 dS2 dA bC
  have z1 := hC1.lt
  have z2 := hC2.lt
  have z3 := hC3.lt
  obtain ⟨a0, a1, a2, a3, af⟩ := k_four hC1
  obtain ⟨b0, bf⟩ := k_one hC2
  obtain ⟨d0, d1, d2, d3, df⟩ := k_four hC3
  cases hB : setB n d o j b
  · have HB := Lib.hid (HS0.out hB)
    clear hB
    have HE := Lib.hid (show refE (!false) = 60 from rfl)
    rw [HE.out]
    go_wp2
    refine bodyPost_ret (v := .tuple #[.agg #[.int .i64 0, .int .i64 0, .int .i64 0, .int .i64 0], .int .i64 60]) (by simp [results, Try.results12, go_sem, d0, d1, d2, d3]) rfl ⟨by rw [HB.out], ?_⟩
    repeat (first | exact kC | refine Below.setCell ?_ (by first | exact Nat.le_refl _ | (simp; omega) | simp) _)
  · have HB := Lib.hid (HS1.out hB)
    obtain ⟨⟨j1, j2⟩, j3, j4⟩ := HK.out hB
    clear hB
    have HE := Lib.hid (show refE (!true) = 0 from rfl)
    rw [HE.out]
    go_wp2
    refine bodyPost_ret (v := .tuple #[.agg #[.int .i64 n, .int .i64 d, .int .i64 o, .int .i64 (j + b)], .int .i64 0]) (by simp [results, Try.results12, go_sem, d0, d1, d2, d3]) rfl ⟨by rw [HB.out], ?_⟩
    repeat (first | exact kC | refine Below.setCell ?_ (by first | exact Nat.le_refl _ | (simp; omega) | simp) _)

def reT (n d t : Int) (b : Bool) : Value := .tuple #[.agg #[.int .i64 (if b then n else 0), .int .i64 (if b then d else 0), .int .i64 (if b then t else 0), .int .i64 0], .int .i64 (if b then 0 else 60)]
def reB (n d o j t : Int) : Bool := okK n d o j && !outB t 0 4294967296
theorem re_ref (n d o j t : Int) : (!okK n d o j || outB t 0 4294967296) = !reB n d o j t := by
  unfold reB
  cases okK n d o j <;> simp

set_option maxHeartbeats 1000000 in
theorem restart_any (n d o j t : Int) (w : World) : Calls Try.prog 14 #[.agg #[.int .i64 n, .int .i64 d, .int .i64 o, .int .i64 j], .int .i64 t] w fun e w' => e = .returned (reT n d t (reB n d o j t)) ∧ Below w.heap.size w w' := by
  have HO := Lib.hid (re_ref n d o j t)
  obtain ⟨W, hWe⟩ : ∃ W, (w.alloc (.cells #[.int .i64 n, .int .i64 d, .int .i64 o, .int .i64 j] 25)).alloc (.cells #[.int .i64 0, .int .i64 0, .int .i64 0, .int .i64 0] 25) = W := ⟨_, rfl⟩
  have hb : Below w.heap.size w W := by rw [← hWe]; exact ((Below.refl _ _).alloc (Nat.le_refl _) _).alloc (by simp) _
  have hW1 : Whole W w.heap.size 25 #[.int .i64 n, .int .i64 d, .int .i64 o, .int .i64 j] := by rw [← hWe]; exact (Whole.new w _ _).alloc _
  have hW3 : Whole W (w.heap.size + 1) 25 #[.int .i64 0, .int .i64 0, .int .i64 0, .int .i64 0] := by
    rw [← hWe]
    have := Whole.new (w.alloc (.cells #[.int .i64 n, .int .i64 d, .int .i64 o, .int .i64 j] 25)) 25 #[.int .i64 0, .int .i64 0, .int .i64 0, .int .i64 0]
    simpa using this
  obtain ⟨a0, a1, a2, a3, af⟩ := k_four hW1
  subst hWe
  generalize reB n d o j t = br at *
  go_enter Try.func14, Try.ntmps14
  go_wp2_with fail
  refine (noClock_any n d o j _).mono ?_
  rintro e wA ⟨vA, rfl, dA, bA⟩
  obtain ⟨fA, qA, hA⟩ := dA.open
  subst hA
  have kA := k_then bA hb
  have hA1 := k_later bA hW1
  have hA3 := k_later bA hW3
  clear hb hW1 hW3 a0 a1 a2 a3 af bA
  go_wp2_with fail
  refine (beyond_any t 0 4294967296 _).mono ?_
  rintro e wB ⟨vB, rfl, dB, bB⟩
  obtain ⟨fB, qB, hB⟩ := dB.open
  subst hB
  have kB := k_then bB kA
  have hB1 := k_later bB hA1
  have hB3 := k_later bB hA3
  have dA2 := dA.later bB
  clear kA hA1 hA3 dA bB
  go_wp2_with fail
  refine (refused2 _ _ (!okK n d o j) (outB t 0 4294967296) _ _ _ _ (Whole.new wB _ _) (dA2.later ((Below.refl _ _).alloc (Nat.le_refl _) _)) (dB.later ((Below.refl _ _).alloc (Nat.le_refl _) _))).mono ?_
  rintro e wC ⟨rfl, bC⟩
  rw [HO.out]
  have kC := k_then bC (kB.alloc kB.size _)
  have hC1 := k_later bC (hB1.alloc _)
  have hC3 := k_later bC (hB3.alloc _)
  clear kB hB1 hB3 dA2 dB bC
  have z1 := hC1.lt
  have z3 := hC3.lt
  obtain ⟨a0, a1, a2, a3, af⟩ := k_four hC1
  obtain ⟨d0, d1, d2, d3, df⟩ := k_four hC3
  cases br
  · have HE := Lib.hid (show refE (!false) = 60 from rfl)
    rw [HE.out]
    go_wp2
    refine bodyPost_ret (v := .tuple #[.agg #[.int .i64 0, .int .i64 0, .int .i64 0, .int .i64 0], .int .i64 60]) (by simp [results, Try.results14, go_sem, d0, d1, d2, d3]) rfl ⟨rfl, ?_⟩
    repeat (first | exact kC | refine Below.setCell ?_ (by first | exact Nat.le_refl _ | (simp; omega) | simp) _)
  · have HE := Lib.hid (show refE (!true) = 0 from rfl)
    rw [HE.out]
    go_wp2
    refine bodyPost_ret (v := .tuple #[.agg #[.int .i64 n, .int .i64 d, .int .i64 t, .int .i64 0], .int .i64 0]) (by simp [results, Try.results14, go_sem, d0, d1, d2, d3]) rfl ⟨rfl, ?_⟩
    repeat (first | exact kC | refine Below.setCell ?_ (by first | exact Nat.le_refl _ | (simp; omega) | simp) _)

end Go.Proofs.Ytjdkndpcjjjlfaa
