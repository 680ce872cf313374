/- MidpointSpread, its walk. No condition. -/
import Derived.Test.YtfpkbhnlpmnegaaZTrmL
import Derived.BigQuiet
import Derived.Deep.QuietTactic
namespace Go.Proofs.Ytfpkbhnlpmnegaa
open Go.RowKit Go.Shelf

/-- THE LAW's facts: the ends of what is left, and one more dropped. -/
theorem spr_facts {L : List Int} {n m : Nat} (hL : L.length = n) (hm : 2 * m + 1 ≤ n) (hv : ∀ x ∈ L, -2147483648 < x ∧ x < 2147483648) :
    sprT L (m : Int) = hiM L m - loM L m ∧ midT L (m : Int) = (loM L m + hiM L m) / 2 ∧ loM L m ≤ hiM L m ∧ (-2147483648 ≤ loM L m ∧ hiM L m ≤ 2147483648) ∧
      (2 * m + 3 ≤ n → errT L ((m : Int) + 1) = 0 ∧ sprT L ((m : Int) + 1) ≤ hiM L m - loM L m) ∧ (¬ 2 * m + 3 ≤ n → errT L ((m : Int) + 1) = 140) := by
  obtain ⟨-, -, -, -, -, -, -, -, hok⟩ := trm_facts hL hm hv
  have h1 : loT L (m : Int) = loM L m := by unfold loT; rw [if_pos hok, Int.toNat_natCast]
  have h2 : hiT L (m : Int) = hiM L m := by unfold hiT; rw [if_pos hok, Int.toNat_natCast]
  have b1 : -2147483648 < loM L m ∧ loM L m < 2147483648 := hv _ (srt_mem (by omega))
  have b2 : -2147483648 < hiM L m ∧ hiM L m < 2147483648 := hv _ (srt_mem (by omega))
  rw [(midT_is _ _).1, (midT_is _ _).2, h1, h2]
  refine ⟨rfl, rfl, lo_hi (by omega), ⟨by omega, by omega⟩, fun h3 => ?_, fun h3 => ?_⟩
  · obtain ⟨-, -, -, -, -, -, -, -, hok2⟩ := trm_facts (m := m + 1) hL (by omega) hv
    rw [show (m : Int) + 1 = ((m + 1 : Nat) : Int) by omega]
    have h4 : loT L ((m + 1 : Nat) : Int) = loM L (m + 1) := by unfold loT; rw [if_pos hok2, Int.toNat_natCast]
    have h5 : hiT L ((m + 1 : Nat) : Int) = hiM L (m + 1) := by unfold hiT; rw [if_pos hok2, Int.toNat_natCast]
    have h6 : loM L m ≤ loM L (m + 1) := srt_at L (by omega) (by omega)
    have h7 : hiM L (m + 1) ≤ hiM L m := srt_at L (by omega) (by omega)
    rw [(midT_is _ _).2, h4, h5]
    exact ⟨errT_ok hok2, by omega⟩
  · refine errT_no (fun h => ?_)
    obtain ⟨-, m2, e, h4⟩ := okM_parts h
    omega

set_option maxRecDepth 100000 in
set_option maxHeartbeats 16000000 in
theorem midpointSpread_walk (s : Sl) (l : List Int) (kk : Nat) (w : World) (h : RSrc inC 1 w s l) (hk : kk < 256) : Calls Try.prog 8 #[s.v, .int .u8 (kk : Int)] w fun e w' => e = .returned (.bool true) ∧ Below w.heap.size w w' := by
  have HA := Lib.hid (fun W => alive_any W)
  have hl := h.len
  have hmx := Nat.le_trans h.cap h.max
  have H := Lib.hid h
  obtain ⟨A, n, c⟩ := s
  unfold Sl.v
  dsimp only at *
  clear h
  by_cases hgo : 1 ≤ n ∧ n ≤ 30
  · obtain ⟨g1, g2⟩ := hgo
    obtain ⟨q, hq⟩ : ∃ q, q = (n - 1) / 2 := ⟨_, rfl⟩
    obtain ⟨m, hm⟩ : ∃ m, m = kk % (q + 1) := ⟨_, rfl⟩
    have hmq : m ≤ q := by rw [hm]; have := Nat.mod_lt kk (show 0 < q + 1 by omega); omega
    have g3 : 2 * m + 1 ≤ n := by omega
    have r0 : ((n : Int) == 0) = false := beq_eq_false_iff_ne.2 (by omega)
    have r1 : ¬ ((30 : Int) < (n : Int)) := by omega
    have s0 : IntKind.i64.wrap (kk : Int) = (kk : Int) := IntWalk.i64_in _ (by omega)
    have s1 : IntKind.i64.wrap ((n : Int) - 1) = (n : Int) - 1 := IntWalk.i64_in _ (by omega)
    have s2 : ((n : Int) - 1).tdiv 2 = (q : Int) := by rw [Int.tdiv_eq_ediv_of_nonneg (by omega)]; omega
    have s3 : IntKind.i64.wrap (q : Int) = (q : Int) := IntWalk.i64_in _ (by omega)
    have s4 : IntKind.i64.wrap ((q : Int) + 1) = (q : Int) + 1 := IntWalk.i64_in _ (by omega)
    have s5 : (kk : Int).tmod ((q : Int) + 1) = (m : Int) := by
      rw [Int.tmod_eq_emod_of_nonneg (by omega), hm, show (q : Int) + 1 = ((q + 1 : Nat) : Int) by omega]
      exact (Int.natCast_emod kk (q + 1)).symm
    have s6 : IntKind.i64.wrap (m : Int) = (m : Int) := IntWalk.i64_in _ (by omega)
    have s7 : ¬ ((q : Int) + 1 = 0) := by omega
    have s8 : IntKind.i64.wrap ((m : Int) + 1) = (m : Int) + 1 := IntWalk.i64_in _ (by omega)
    have s9 : IntKind.i64.wrap (2 * (m : Int)) = 2 * (m : Int) := IntWalk.i64_in _ (by omega)
    have sa : IntKind.i64.wrap (2 * (m : Int) + 3) = 2 * (m : Int) + 3 := IntWalk.i64_in _ (by omega)
    obtain ⟨N, hN⟩ : ∃ N, N = n - 2 * m := ⟨_, rfl⟩
    obtain ⟨p, hp⟩ : ∃ p, p = N - 1 := ⟨_, rfl⟩
    have sb : IntKind.i64.wrap ((N : Int) - 1) = (p : Int) := by rw [IntWalk.i64_in _ (by omega)]; omega
    have sc : ((N : Int) == 0) = false := beq_eq_false_iff_ne.2 (by omega)
    have HSM := Lib.hid (fun W (hb : Below w.heap.size w W) => some_any W ⟨A, n, c⟩ l (H.out.later hb) (by show n ≤ 1000; omega))
    obtain ⟨L, hL⟩ : ∃ L, L = someL l := ⟨_, rfl⟩
    have hLl : L.length = n := by rw [hL, someL_len, hl]
    have hLv : ∀ x ∈ L, -2147483648 < x ∧ x < 2147483648 := by rw [hL]; exact someL_ok l
    have hf := trm_facts hLl g3 hLv
    have hg := spr_facts hLl g3 hLv
    rw [← hN] at hf
    rw [← hL] at HSM
    have HLl := Lib.hid hLl
    obtain ⟨f1, f2, -, -, -, -, f7, f8, -⟩ := hf
    rw [← hp] at f8
    obtain ⟨k1, k2, k3, k4, k5, k6⟩ := hg
    have HTD := Lib.hid (fun W s' (hr : RSrc inC 1 W s' L) (hs : s'.n = n) => Trim_any W s' L (m : Int) hr (by omega))
    have HSP := Lib.hid (fun W s' (hr : RSrc inC 1 W s' L) (hs : s'.n = n) => Spread_any W s' L (m : Int) hr (by omega))
    have HOF := Lib.hid (fun W s' (hr : RSrc inC 1 W s' L) (hs : s'.n = n) => Of_any W s' L (m : Int) hr (by omega))
    have HS2P := Lib.hid (fun W s' (hr : RSrc inC 1 W s' L) (hs : s'.n = n) => Spread_any W s' L ((m : Int) + 1) hr (by omega))
    rw [f1, k1] at HSP
    rw [f1, k2] at HOF
    obtain ⟨T, hT⟩ : ∃ T, T = outT L (m : Int) := ⟨_, rfl⟩
    rw [← hT] at f2 f7 f8
    have HT := Lib.hid (And.intro hT (And.intro f1 (And.intro f2 (And.intro f7 f8))))
    have hN1 : 1 ≤ N := by omega
    have hN30 : N ≤ 30 := by omega
    have HNP := Lib.hid (And.intro hN (And.intro hp g3))
    have ep : (0 : Int) ≤ (p : Int) := by omega
    have eq : (p : Int) < (N : Int) := by omega
    have er : (0 : Int) < (N : Int) := by omega
    clear hL hq hm hmq f1 f2 f7 f8 hT hLv hN hp
    generalize loM L m = lo at *
    generalize hiM L m = hi at *
    generalize sprT L ((m : Int) + 1) = s2v at *
    generalize errT L ((m : Int) + 1) = e2v at *
    obtain ⟨mm, hmm⟩ : ∃ mm, mm = (lo + hi) / 2 := ⟨_, rfl⟩
    rw [← hmm] at HOF
    have t1 : ¬ mm < lo := by omega
    have t2 : ¬ hi < mm := by omega
    have t3 : ¬ (lo + hi < 2 * mm) := by omega
    have t4 : ¬ (2 * mm < lo + hi - 1) := by omega
    have t5 : IntKind.i64.wrap (hi - lo) = hi - lo := IntWalk.i64_in _ (by omega)
    have t6 : IntKind.i64.wrap (2 * mm) = 2 * mm := IntWalk.i64_in _ (by omega)
    have t7 : IntKind.i64.wrap (lo + hi) = lo + hi := IntWalk.i64_in _ (by omega)
    have t8 : IntKind.i64.wrap (lo + hi - 1) = lo + hi - 1 := IntWalk.i64_in _ (by omega)
    have ta : (hi - lo != hi - lo) = false := by simp
    have HK := Lib.hid (And.intro k5 k6)
    clear hmm k1 k2 k3 k4 k5 k6 hl
    by_cases h3 : 2 * m + 3 ≤ n
    · obtain ⟨z1, z2⟩ := HK.out.1 h3
      subst z1
      have z3 : (2 * (m : Int) + 3) ≤ (n : Int) := by omega
      go_enter Try.func8, Try.ntmps8
      go_upto_region 11 with (first
        | (go_at_call 16; refine (HA.out _).mono ?_; rintro e w1 ⟨rfl, hb1⟩; have HB1 := Lib.hid hb1; clear hb1)
        | (go_at_call 18; refine (HSM.out _ HB1.out).mono ?_; rintro e w2 hd; obtain ⟨A2, c2, rfl, hs2, -, hb2⟩ := newrow_src (cells := inC) (k := 1) (fun _ => rfl) hd; rw [hLl] at hs2 ⊢; have HS2 := Lib.hid hs2; have HB2 := Lib.hid (k_then hb2 HB1.out); clear hd hs2 hb2 HSM)
        | (go_at_call 9; refine (HTD.out w2 ⟨A2, n, c2⟩ HS2.out rfl).mono ?_; rintro e w3 hd; obtain ⟨A3, c3, rfl, ht1, -, -, ht4⟩ := trimD_src hd; rw [← HT.out.1, HT.out.2.2.1] at ht1 ⊢; rw [HT.out.2.1]; have HT3 := Lib.hid ht1; have HB3 := Lib.hid ht4; clear hd ht1 ht4 HTD)
        | (go_at_call 13; refine (HSP.out w3 ⟨A2, n, c2⟩ (HS2.out.later HB3.out) rfl).mono ?_; (rintro e w4 ⟨rfl, hb⟩; have HB4 := Lib.hid hb; clear hb HSP))
        | (go_at_call 11; refine (HOF.out w4 ⟨A2, n, c2⟩ (HS2.out.later (k_then HB4.out HB3.out)) rfl).mono ?_; rintro e w5 ⟨rfl, hb⟩; have HB5 := Lib.hid (k_then hb HB4.out); clear hb HOF))
      obtain ⟨gt, ot, hA3, -⟩ := HT3.out.at_ (show 0 < N by omega)
      dsimp only at hA3
      subst hA3
      have hct : ∀ j, j < N → w5.cell? ⟨gt, ot + j, none⟩ = some (.int .i64 (T.getD j 0)) := fun j hj => by
        obtain ⟨g', o', e, hc⟩ := (HT3.out.later HB5.out).get (i := j) hj
        cases e
        have := inC_cells hc
        rw [Nat.mul_one] at this
        exact this
      have ct0 := hct 0 (by omega)
      have ctp := hct p (by omega)
      rw [HT.out.2.2.2.1, Nat.add_zero] at ct0
      rw [HT.out.2.2.2.2] at ctp
      clear hct
      go_quiet (fail)
      generalize hw6 : w5.drewN nq = w6 at *
      have HB6 := Lib.hid (show Below w3.heap.size w3 w6 from by rw [← hw6]; exact below_drewN HB5.out nq)
      clear hw6 ct0 ctp
      go_wp2_with (go_at_call 13; refine (HS2P.out w6 ⟨A2, n, c2⟩ (HS2.out.later (k_then HB6.out HB3.out)) rfl).mono ?_; rintro e w7 ⟨rfl, hb⟩; have HB7 := Lib.hid (k_then (k_then (k_then hb HB6.out) HB3.out) HB2.out); clear hb)
      go_ret
      exact ⟨rfl, HB7.out⟩
    · have z1 := HK.out.2 h3
      subst z1
      have z3 : ¬ (2 * (m : Int) + 3) ≤ (n : Int) := by omega
      have Z4 := Lib.hid (decide_eq_false z3)
      go_enter Try.func8, Try.ntmps8
      go_upto_region 11 with (first
        | (go_at_call 16; refine (HA.out _).mono ?_; rintro e w1 ⟨rfl, hb1⟩; have HB1 := Lib.hid hb1; clear hb1)
        | (go_at_call 18; refine (HSM.out _ HB1.out).mono ?_; rintro e w2 hd; obtain ⟨A2, c2, rfl, hs2, -, hb2⟩ := newrow_src (cells := inC) (k := 1) (fun _ => rfl) hd; rw [hLl] at hs2 ⊢; have HS2 := Lib.hid hs2; have HB2 := Lib.hid (k_then hb2 HB1.out); clear hd hs2 hb2 HSM)
        | (go_at_call 9; refine (HTD.out w2 ⟨A2, n, c2⟩ HS2.out rfl).mono ?_; rintro e w3 hd; obtain ⟨A3, c3, rfl, ht1, -, -, ht4⟩ := trimD_src hd; rw [← HT.out.1, HT.out.2.2.1] at ht1 ⊢; rw [HT.out.2.1]; have HT3 := Lib.hid ht1; have HB3 := Lib.hid ht4; clear hd ht1 ht4 HTD)
        | (go_at_call 13; refine (HSP.out w3 ⟨A2, n, c2⟩ (HS2.out.later HB3.out) rfl).mono ?_; (rintro e w4 ⟨rfl, hb⟩; have HB4 := Lib.hid hb; clear hb HSP))
        | (go_at_call 11; refine (HOF.out w4 ⟨A2, n, c2⟩ (HS2.out.later (k_then HB4.out HB3.out)) rfl).mono ?_; rintro e w5 ⟨rfl, hb⟩; have HB5 := Lib.hid (k_then hb HB4.out); clear hb HOF))
      obtain ⟨gt, ot, hA3, -⟩ := HT3.out.at_ (show 0 < N by omega)
      dsimp only at hA3
      subst hA3
      have hct : ∀ j, j < N → w5.cell? ⟨gt, ot + j, none⟩ = some (.int .i64 (T.getD j 0)) := fun j hj => by
        obtain ⟨g', o', e, hc⟩ := (HT3.out.later HB5.out).get (i := j) hj
        cases e
        have := inC_cells hc
        rw [Nat.mul_one] at this
        exact this
      have ct0 := hct 0 (by omega)
      have ctp := hct p (by omega)
      rw [HT.out.2.2.2.1, Nat.add_zero] at ct0
      rw [HT.out.2.2.2.2] at ctp
      clear hct
      go_quiet (fail)
      generalize hw6 : w5.drewN nq = w6 at *
      have HB6 := Lib.hid (show Below w3.heap.size w3 w6 from by rw [← hw6]; exact below_drewN HB5.out nq)
      clear hw6 ct0 ctp
      go_wp2_with (go_at_call 13; refine (HS2P.out w6 ⟨A2, n, c2⟩ (HS2.out.later (k_then HB6.out HB3.out)) rfl).mono ?_; rintro e w7 ⟨rfl, hb⟩; have HB7 := Lib.hid (k_then (k_then (k_then hb HB6.out) HB3.out) HB2.out); clear hb)
      go_ret
      refine ⟨?_, HB7.out⟩
      show Ending.returned (.bool (!decide (2 * (m : Int) + 3 ≤ (n : Int)))) = Ending.returned (.bool true)
      rw [Z4.out]
      rfl
  · have r : n = 0 ∨ 30 < n := by omega
    rcases r with r | r
    · subst r
      clear hgo
      go_enter Try.func8, Try.ntmps8
      go_wp2_with (go_at_call 16; refine (HA.out _).mono ?_; rintro e w1 ⟨rfl, hb1⟩; have HB1 := Lib.hid hb1; clear hb1)
      go_ret
      exact ⟨rfl, HB1.out⟩
    · have r0 : ((n : Int) == 0) = false := beq_eq_false_iff_ne.2 (by omega)
      have r1 : (30 : Int) < (n : Int) := by omega
      clear hgo
      go_enter Try.func8, Try.ntmps8
      go_wp2_with (go_at_call 16; refine (HA.out _).mono ?_; rintro e w1 ⟨rfl, hb1⟩; have HB1 := Lib.hid hb1; clear hb1)
      go_ret
      exact ⟨rfl, HB1.out⟩
end Go.Proofs.Ytfpkbhnlpmnegaa
