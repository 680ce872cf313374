/- The document's Set and Restart: by contracts. No condition. -/
import Derived.Test.YtjdkndpcjjjlfaaKChk
namespace Go.Proofs.Ytjdkndpcjjjlfaa
open Go.RowKit Go.Shelf

theorem setB_no {n d o j b : Int} (h : ¬ (okK n d o j = true ∧ -4294967296 ≤ j + b ∧ j + b ≤ 4294967296)) : setB n d o j b = false := by
  cases e : setB n d o j b
  · rfl
  · simp only [setB, Bool.and_eq_true, decide_eq_true_eq] at e
    exact absurd e h
theorem setB_mk {n d o j b : Int} (h : okK n d o j = true ∧ -4294967296 ≤ j + b ∧ j + b ≤ 4294967296) : setB n d o j b = true := by
  simp only [setB, Bool.and_eq_true, decide_eq_true_eq]
  exact h

set_option maxHeartbeats 1000000 in
theorem refSet_no (n d o j b : Int) (w : World) (h : okK n d o j = false ∨ 8589934592 < b ∨ b < -8589934592) : Calls Try.prog 13 #[.agg #[.int .i64 n, .int .i64 d, .int .i64 o, .int .i64 j], .int .i64 b] w fun e w' => e = .returned (setT n d o j b) ∧ Below w.heap.size w w' := by
  have HV : setT n d o j b = .tuple #[.agg #[.int .i64 0, .int .i64 0, .int .i64 0, .int .i64 0], .int .i64 60] := setT_no (setB_no (fun g => by
    have := (okK_yes g.1).2.2
    rcases h with h | h | h
    · rw [h] at g; exact absurd g.1 (by decide)
    · omega
    · omega))
  have HS := Lib.hid HV
  clear HV
  have hb : Below w.heap.size w ((w.alloc (.cells #[.int .i64 n, .int .i64 d, .int .i64 o, .int .i64 j] 25)).alloc (.cells #[.int .i64 0, .int .i64 0, .int .i64 0, .int .i64 0] 25)) := ((Below.refl _ _).alloc (Nat.le_refl _) _).alloc (by simp) _
  have hW3 : Whole ((w.alloc (.cells #[.int .i64 n, .int .i64 d, .int .i64 o, .int .i64 j] 25)).alloc (.cells #[.int .i64 0, .int .i64 0, .int .i64 0, .int .i64 0] 25)) (w.heap.size + 1) 25 #[.int .i64 0, .int .i64 0, .int .i64 0, .int .i64 0] := by
    have := Whole.new (w.alloc (.cells #[.int .i64 n, .int .i64 d, .int .i64 o, .int .i64 j] 25)) 25 #[.int .i64 0, .int .i64 0, .int .i64 0, .int .i64 0]
    simpa using this
  have HC := Lib.hid (fun W => refCheck_k n d o j W)
  cases hk : okK n d o j
  · have HE := Lib.hid (show refE (!false) = 60 from rfl)
    rw [hk] at HC
    clear hk h
    go_enter Try.func13, Try.ntmps13
    go_wp2_with (go_at_call 17; refine (HC.out _).mono ?_; rintro e wA ⟨rfl, bA⟩; rw [HE.out]; have kA := k_then bA hb; have hA3 := k_later bA hW3; have z3 := hA3.lt; obtain ⟨d0, d1, d2, d3, df⟩ := k_four hA3)
    refine bodyPost_ret (v := .tuple #[.agg #[.int .i64 0, .int .i64 0, .int .i64 0, .int .i64 0], .int .i64 60]) (by simp [results, Try.results13, go_sem, d0, d1, d2, d3]) rfl ⟨by rw [HS.out], ?_⟩
    repeat (first | exact kA | refine Below.setCell ?_ (by first | exact Nat.le_refl _ | (simp; omega) | simp) _)
  · have HE := Lib.hid (show refE (!true) = 0 from rfl)
    rw [hk] at HC h
    clear hk
    by_cases a1 : 8589934592 < b
    · clear h
      go_enter Try.func13, Try.ntmps13
      go_wp2_with (go_at_call 17; refine (HC.out _).mono ?_; rintro e wA ⟨rfl, bA⟩; rw [HE.out]; have kA := k_then bA hb; have hA3 := k_later bA hW3; have z3 := hA3.lt; obtain ⟨d0, d1, d2, d3, df⟩ := k_four hA3)
      refine bodyPost_ret (v := .tuple #[.agg #[.int .i64 0, .int .i64 0, .int .i64 0, .int .i64 0], .int .i64 60]) (by simp [results, Try.results13, go_sem, d0, d1, d2, d3]) rfl ⟨by rw [HS.out], ?_⟩
      repeat (first | exact kA | refine Below.setCell ?_ (by first | exact Nat.le_refl _ | (simp; omega) | simp) _)
    · have e1 : decide (8589934592 < b) = false := decide_eq_false a1
      have a2 : b < -8589934592 := by
        rcases h with h | h | h
        · cases h
        · omega
        · exact h
      clear h
      go_enter Try.func13, Try.ntmps13
      go_wp2_with (go_at_call 17; refine (HC.out _).mono ?_; rintro e wA ⟨rfl, bA⟩; rw [HE.out]; have kA := k_then bA hb; have hA3 := k_later bA hW3; have z3 := hA3.lt; obtain ⟨d0, d1, d2, d3, df⟩ := k_four hA3)
      refine bodyPost_ret (v := .tuple #[.agg #[.int .i64 0, .int .i64 0, .int .i64 0, .int .i64 0], .int .i64 60]) (by simp [results, Try.results13, go_sem, d0, d1, d2, d3]) rfl ⟨by rw [HS.out], ?_⟩
      repeat (first | exact kA | refine Below.setCell ?_ (by first | exact Nat.le_refl _ | (simp; omega) | simp) _)

theorem okK_set {n d o j b : Int} (h : okK n d o j = true) : okK n d o (j + b) = setB n d o j b := by
  obtain ⟨h1, h2, _⟩ := okK_yes h
  by_cases g : -4294967296 ≤ j + b ∧ j + b ≤ 4294967296
  · rw [setB_mk ⟨h, g⟩]
    exact okK_mk ⟨h1, h2, g⟩
  · rw [setB_no (fun e => g e.2)]
    exact okK_no (fun e => g e.2.2)

set_option maxHeartbeats 1000000 in
theorem refSet_go (n d o j b : Int) (w : World) (hk : okK n d o j = true) (a1 : ¬ 8589934592 < b) (a2 : ¬ b < -8589934592) : Calls Try.prog 13 #[.agg #[.int .i64 n, .int .i64 d, .int .i64 o, .int .i64 j], .int .i64 b] w fun e w' => e = .returned (setT n d o j b) ∧ Below w.heap.size w w' := by
  have hb : Below w.heap.size w ((w.alloc (.cells #[.int .i64 n, .int .i64 d, .int .i64 o, .int .i64 j] 25)).alloc (.cells #[.int .i64 0, .int .i64 0, .int .i64 0, .int .i64 0] 25)) := ((Below.refl _ _).alloc (Nat.le_refl _) _).alloc (by simp) _
  have hW1 := (Whole.new w 25 #[.int .i64 n, .int .i64 d, .int .i64 o, .int .i64 j]).alloc (.cells #[.int .i64 0, .int .i64 0, .int .i64 0, .int .i64 0] 25)
  have hW3 : Whole ((w.alloc (.cells #[.int .i64 n, .int .i64 d, .int .i64 o, .int .i64 j] 25)).alloc (.cells #[.int .i64 0, .int .i64 0, .int .i64 0, .int .i64 0] 25)) (w.heap.size + 1) 25 #[.int .i64 0, .int .i64 0, .int .i64 0, .int .i64 0] := by
    have := Whole.new (w.alloc (.cells #[.int .i64 n, .int .i64 d, .int .i64 o, .int .i64 j] 25)) 25 #[.int .i64 0, .int .i64 0, .int .i64 0, .int .i64 0]
    simpa using this
  have e1 : decide (8589934592 < b) = false := decide_eq_false a1
  have e2 : decide (b < -8589934592) = false := decide_eq_false a2
  obtain ⟨_, _, j1, j2⟩ := okK_yes hk
  have HC := Lib.hid (fun W => refCheck_k n d o j W)
  have HC2 := Lib.hid (fun W => refCheck_k n d o (j + b) W)
  rw [hk] at HC
  rw [okK_set hk] at HC2
  have HE := Lib.hid (show refE (!true) = 0 from rfl)
  have HE0 := Lib.hid (show refE (!false) = 60 from rfl)
  have hz : (refE (!true) != 0) = false := rfl
  clear hk
  cases hs : setB n d o j b
  · have HS := Lib.hid (setT_no hs)
    rw [hs] at HC2
    clear hs
    go_enter Try.func13, Try.ntmps13
    go_wp2_with fail
    refine (HC.out _).mono ?_
    rintro e wA ⟨rfl, bA⟩
    rw [HE.out]
    have kA := k_then bA hb
    have hA1 := k_later bA hW1
    have hA3 := k_later bA hW3
    obtain ⟨c0, c1, c2, c3, cf⟩ := k_four hA1
    clear hb hW1 hW3 bA
    go_wp2_with fail
    refine (HC2.out _).mono ?_
    rintro e wB ⟨rfl, bB⟩
    rw [HE0.out]
    have kB := k_then bB (kA.alloc kA.size _)
    have hB3 := k_later bB (hA3.alloc _)
    have z3 := hB3.lt
    obtain ⟨d0, d1, d2, d3, df⟩ := k_four hB3
    clear kA hA1 hA3 bB c0 c1 c2 c3 cf
    go_wp2
    refine bodyPost_ret (v := .tuple #[.agg #[.int .i64 0, .int .i64 0, .int .i64 0, .int .i64 0], .int .i64 60]) (by simp [results, Try.results13, go_sem, d0, d1, d2, d3]) rfl ⟨by rw [HS.out], ?_⟩
    repeat (first | exact kB | refine Below.setCell ?_ (by first | exact Nat.le_refl _ | (simp; omega) | simp) _)
  · have HS := Lib.hid (setT_yes hs)
    rw [hs] at HC2
    clear hs
    go_enter Try.func13, Try.ntmps13
    go_wp2_with fail
    refine (HC.out _).mono ?_
    rintro e wA ⟨rfl, bA⟩
    rw [HE.out]
    have kA := k_then bA hb
    have hA1 := k_later bA hW1
    have hA3 := k_later bA hW3
    obtain ⟨c0, c1, c2, c3, cf⟩ := k_four hA1
    clear hb hW1 hW3 bA
    go_wp2_with fail
    refine (HC2.out _).mono ?_
    rintro e wB ⟨rfl, bB⟩
    rw [HE.out]
    have kB := k_then bB (kA.alloc kA.size _)
    have hB3 := k_later bB (hA3.alloc _)
    have hB4 := k_later bB (Whole.new wA 25 #[.int .i64 n, .int .i64 d, .int .i64 o, .int .i64 (j + b)])
    have z3 := hB3.lt
    have z4 := hB4.lt
    obtain ⟨d0, d1, d2, d3, df⟩ := k_four hB3
    obtain ⟨g0, g1, g2, g3, gf⟩ := k_four hB4
    clear kA hA1 hA3 bB c0 c1 c2 c3 cf
    go_wp2
    refine bodyPost_ret (v := .tuple #[.agg #[.int .i64 n, .int .i64 d, .int .i64 o, .int .i64 (j + b)], .int .i64 0]) (by simp [results, Try.results13, go_sem, d0, d1, d2, d3]) rfl ⟨by rw [HS.out], ?_⟩
    repeat (first | exact kB | refine Below.setCell ?_ (by first | exact Nat.le_refl _ | (simp; omega) | simp) _)

theorem refSet_any (n d o j b : Int) (w : World) : Calls Try.prog 13 #[.agg #[.int .i64 n, .int .i64 d, .int .i64 o, .int .i64 j], .int .i64 b] w fun e w' => e = .returned (setT n d o j b) ∧ Below w.heap.size w w' := by
  cases hk : okK n d o j
  · exact refSet_no n d o j b w (.inl hk)
  by_cases a1 : 8589934592 < b
  · exact refSet_no n d o j b w (.inr (.inl a1))
  by_cases a2 : b < -8589934592
  · exact refSet_no n d o j b w (.inr (.inr a2))
  · exact refSet_go n d o j b w hk a1 a2

theorem reB_no {n d o j t : Int} (h : ¬ (okK n d o j = true ∧ 0 ≤ t ∧ t ≤ 4294967296)) : reB n d o j t = false := by
  cases e : reB n d o j t
  · rfl
  · simp only [reB, Bool.and_eq_true, Bool.not_eq_true'] at e
    exact absurd ⟨e.1, outB_no e.2⟩ h
theorem reB_mk {n d o j t : Int} (h : okK n d o j = true ∧ 0 ≤ t ∧ t ≤ 4294967296) : reB n d o j t = true := by
  unfold reB
  rw [h.1, outB_mk h.2.1 h.2.2]
  rfl

set_option maxHeartbeats 1000000 in
theorem refRestart_any (n d o j t : Int) (w : World) : Calls Try.prog 15 #[.agg #[.int .i64 n, .int .i64 d, .int .i64 o, .int .i64 j], .int .i64 t] w fun e w' => e = .returned (reT n d t (reB n d o j t)) ∧ Below w.heap.size w w' := by
  have hb : Below w.heap.size w ((w.alloc (.cells #[.int .i64 n, .int .i64 d, .int .i64 o, .int .i64 j] 25)).alloc (.cells #[.int .i64 0, .int .i64 0, .int .i64 0, .int .i64 0] 25)) := ((Below.refl _ _).alloc (Nat.le_refl _) _).alloc (by simp) _
  have hW1 := (Whole.new w 25 #[.int .i64 n, .int .i64 d, .int .i64 o, .int .i64 j]).alloc (.cells #[.int .i64 0, .int .i64 0, .int .i64 0, .int .i64 0] 25)
  have hW3 : Whole ((w.alloc (.cells #[.int .i64 n, .int .i64 d, .int .i64 o, .int .i64 j] 25)).alloc (.cells #[.int .i64 0, .int .i64 0, .int .i64 0, .int .i64 0] 25)) (w.heap.size + 1) 25 #[.int .i64 0, .int .i64 0, .int .i64 0, .int .i64 0] := by
    have := Whole.new (w.alloc (.cells #[.int .i64 n, .int .i64 d, .int .i64 o, .int .i64 j] 25)) 25 #[.int .i64 0, .int .i64 0, .int .i64 0, .int .i64 0]
    simpa using this
  have HC := Lib.hid (fun W => refCheck_k n d o j W)
  have HN := Lib.hid (fun (h : ¬ (okK n d o j = true ∧ 0 ≤ t ∧ t ≤ 4294967296)) => (show reT n d t (reB n d o j t) = .tuple #[.agg #[.int .i64 0, .int .i64 0, .int .i64 0, .int .i64 0], .int .i64 60] by rw [reB_no h]; rfl))
  have HY := Lib.hid (fun (h : okK n d o j = true ∧ 0 ≤ t ∧ t ≤ 4294967296) => (show reT n d t (reB n d o j t) = .tuple #[.agg #[.int .i64 n, .int .i64 d, .int .i64 t, .int .i64 0], .int .i64 0] by rw [reB_mk h]; rfl))
  cases hk : okK n d o j
  · have HS := Lib.hid (HN.out (fun h => by rw [hk] at h; exact absurd h.1 (by decide)))
    have HE := Lib.hid (show refE (!false) = 60 from rfl)
    rw [hk] at HC
    clear hk
    go_enter Try.func15, Try.ntmps15
    go_wp2_with (go_at_call 17; refine (HC.out _).mono ?_; rintro e wA ⟨rfl, bA⟩; rw [HE.out]; have kA := k_then bA hb; have hA3 := k_later bA hW3; have z3 := hA3.lt; obtain ⟨d0, d1, d2, d3, df⟩ := k_four hA3)
    refine bodyPost_ret (v := .tuple #[.agg #[.int .i64 0, .int .i64 0, .int .i64 0, .int .i64 0], .int .i64 60]) (by simp [results, Try.results15, go_sem, d0, d1, d2, d3]) rfl ⟨by rw [HS.out], ?_⟩
    repeat (first | exact kA | refine Below.setCell ?_ (by first | exact Nat.le_refl _ | (simp; omega) | simp) _)
  have HE := Lib.hid (show refE (!true) = 0 from rfl)
  rw [hk] at HC
  by_cases a1 : t < 0
  · have HS := Lib.hid (HN.out (fun h => by omega))
    clear hk
    go_enter Try.func15, Try.ntmps15
    go_wp2_with (go_at_call 17; refine (HC.out _).mono ?_; rintro e wA ⟨rfl, bA⟩; rw [HE.out]; have kA := k_then bA hb; have hA3 := k_later bA hW3; have z3 := hA3.lt; obtain ⟨d0, d1, d2, d3, df⟩ := k_four hA3)
    refine bodyPost_ret (v := .tuple #[.agg #[.int .i64 0, .int .i64 0, .int .i64 0, .int .i64 0], .int .i64 60]) (by simp [results, Try.results15, go_sem, d0, d1, d2, d3]) rfl ⟨by rw [HS.out], ?_⟩
    repeat (first | exact kA | refine Below.setCell ?_ (by first | exact Nat.le_refl _ | (simp; omega) | simp) _)
  have e1 : decide (t < 0) = false := decide_eq_false a1
  by_cases a2 : 4294967296 < t
  · have HS := Lib.hid (HN.out (fun h => by omega))
    clear hk
    go_enter Try.func15, Try.ntmps15
    go_wp2_with (go_at_call 17; refine (HC.out _).mono ?_; rintro e wA ⟨rfl, bA⟩; rw [HE.out]; have kA := k_then bA hb; have hA3 := k_later bA hW3; have z3 := hA3.lt; obtain ⟨d0, d1, d2, d3, df⟩ := k_four hA3)
    refine bodyPost_ret (v := .tuple #[.agg #[.int .i64 0, .int .i64 0, .int .i64 0, .int .i64 0], .int .i64 60]) (by simp [results, Try.results15, go_sem, d0, d1, d2, d3]) rfl ⟨by rw [HS.out], ?_⟩
    repeat (first | exact kA | refine Below.setCell ?_ (by first | exact Nat.le_refl _ | (simp; omega) | simp) _)
  have e2 : decide (4294967296 < t) = false := decide_eq_false a2
  have HS := Lib.hid (HY.out ⟨hk, by omega, by omega⟩)
  clear hk
  go_enter Try.func15, Try.ntmps15
  go_wp2_with (go_at_call 17; refine (HC.out _).mono ?_; rintro e wA ⟨rfl, bA⟩; rw [HE.out]; have kA := k_then bA hb; have hA1 := k_later bA hW1; have hA3 := k_later bA hW3; have z3 := hA3.lt; obtain ⟨c0, c1, c2, c3, cf⟩ := k_four hA1; obtain ⟨d0, d1, d2, d3, df⟩ := k_four hA3)
  refine bodyPost_ret (v := .tuple #[.agg #[.int .i64 n, .int .i64 d, .int .i64 t, .int .i64 0], .int .i64 0]) (by simp [results, Try.results15, go_sem, d0, d1, d2, d3]) rfl ⟨by rw [HS.out], ?_⟩
  repeat (first | exact kA | refine Below.setCell ?_ (by first | exact Nat.le_refl _ | (simp; omega) | simp) _)

end Go.Proofs.Ytjdkndpcjjjlfaa
