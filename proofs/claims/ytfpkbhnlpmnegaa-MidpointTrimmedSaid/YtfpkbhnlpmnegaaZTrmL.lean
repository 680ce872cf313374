/- MidpointTrimmed, its walk. No condition. -/
import Derived.Test.YtfpkbhnlpmnegaaZLawM
namespace Go.Proofs.Ytfpkbhnlpmnegaa
open Go.RowKit Go.Shelf

/-- How many are as much, or more. -/
def geN (l : List Int) (v : Int) : Nat := l.countP fun x => decide (v ≤ x)
theorem geN_less (l : List Int) (v : Int) : geN l v + lessN l v = l.length := by
  induction l with
  | nil => rfl
  | cons a l ih =>
    unfold geN lessN at *
    rw [List.countP_cons, List.countP_cons, List.length_cons]
    by_cases h : a < v
    · have h2 : ¬ v ≤ a := by omega
      simp [h, h2]; omega
    · have h2 : v ≤ a := by omega
      simp [h, h2]; omega
theorem upN_take {l : List Int} {j : Nat} {v y : Int} (hy : y = l.getD j 0) (h : j < l.length) : upN (l.take (j + 1)) v = upN (l.take j) v + if y ≤ v then 1 else 0 := by
  rw [List.take_add_one, List.getElem?_eq_getElem h, hy, getD_lt h]
  unfold upN
  rw [List.countP_append, Option.toList_some, List.countP_singleton]
  simp
theorem geN_take {l : List Int} {j : Nat} {v y : Int} (hy : y = l.getD j 0) (h : j < l.length) : geN (l.take (j + 1)) v = geN (l.take j) v + if v ≤ y then 1 else 0 := by
  rw [List.take_add_one, List.getElem?_eq_getElem h, hy, getD_lt h]
  unfold geN
  rw [List.countP_append, Option.toList_some, List.countP_singleton]
  simp
theorem any_take {l : List Int} {j : Nat} {x y : Int} (hy : y = l.getD j 0) (h : j < l.length) : (l.take (j + 1)).any (fun z => decide (x = z)) = ((l.take j).any (fun z => decide (x = z)) || decide (x = y)) := by
  rw [List.take_add_one, List.getElem?_eq_getElem h, hy, getD_lt h, List.any_append]
  simp
/-- THE LAW's facts. -/
theorem trm_facts {L : List Int} {n m : Nat} (hL : L.length = n) (hm : 2 * m + 1 ≤ n) (hv : ∀ x ∈ L, -2147483648 < x ∧ x < 2147483648) :
    errT L (m : Int) = 0 ∧ (outT L (m : Int)).length = n - 2 * m ∧ (∀ j, j < n - 2 * m → L.any (fun z => decide ((outT L (m : Int)).getD j 0 = z)) = true) ∧
      (∀ j, 0 < j → j < n - 2 * m → (outT L (m : Int)).getD (j - 1) 0 ≤ (outT L (m : Int)).getD j 0) ∧ m + 1 ≤ upN L ((outT L (m : Int)).getD 0 0) ∧ m + 1 ≤ geN L ((outT L (m : Int)).getD (n - 2 * m - 1) 0) ∧
      (outT L (m : Int)).getD 0 0 = loM L m ∧ (outT L (m : Int)).getD (n - 2 * m - 1) 0 = hiM L m ∧ okM L (m : Int) = true := by
  have hok : okM L (m : Int) = true := by
    unfold okM
    rw [okV_iff.2 (fun x hx => by have := hv x hx; omega), okN_iff.2 ⟨m, rfl, by omega⟩]
    rfl
  have ho : outT L (m : Int) = trimL L m := by unfold outT; rw [if_pos hok, Int.toNat_natCast]
  rw [ho]
  have hl := trim_len (l := L) (k := m) (by omega)
  rw [hL] at hl
  have h0 := trim_at (l := L) (k := m) (i := 0) (by omega) (by omega)
  have h9 := trim_at (l := L) (k := m) (i := n - 2 * m - 1) (by omega) (by omega)
  rw [Nat.add_zero] at h0
  have e0 : (trimL L m).getD 0 0 = loM L m := h0
  have e9 : (trimL L m).getD (n - 2 * m - 1) 0 = hiM L m := by
    rw [h9]
    unfold hiM
    congr 1
    omega
  refine ⟨errT_ok hok, hl, fun j hj => ?_, fun j h1 h2 => up_at (trim_up L m) (by omega) (by omega), ?_, ?_, e0, e9, hok⟩
  · rw [List.any_eq_true]
    exact ⟨_, trim_mem (getD_mem (l := trimL L m) (i := j) (by omega)), by simp⟩
  · have := (spot_srt L (p := m) (by omega)).2
    rw [h0]
    omega
  · have h1 := (spot_srt L (p := L.length - 1 - m) (by omega)).1
    have h2 := geN_less L (hiM L m)
    rw [e9]
    unfold hiM at *
    omega

set_option maxRecDepth 100000 in
set_option maxHeartbeats 16000000 in
theorem midpointTrimmed_walk (s : Sl) (l : List Int) (kk : Nat) (w : World) (h : RSrc inC 1 w s l) (hk : kk < 256) : Calls Try.prog 7 #[s.v, .int .u8 (kk : Int)] w fun e w' => e = .returned (.bool true) ∧ Below w.heap.size w w' := by
  have HA := Lib.hid (fun W => alive_any W)
  have hl := h.len
  have hmx := Nat.le_trans h.cap h.max
  have H := Lib.hid h
  obtain ⟨A, n, c⟩ := s
  unfold Sl.v
  dsimp only at *
  clear h
  by_cases hgo : 1 ≤ n ∧ n ≤ 30
  · obtain ⟨g1, g2⟩ := hgo
    obtain ⟨q, hq⟩ : ∃ q, q = (n - 1) / 2 := ⟨_, rfl⟩
    obtain ⟨m, hm⟩ : ∃ m, m = kk % (q + 1) := ⟨_, rfl⟩
    have hmq : m ≤ q := by rw [hm]; have := Nat.mod_lt kk (show 0 < q + 1 by omega); omega
    have g3 : 2 * m + 1 ≤ n := by omega
    have r0 : ((n : Int) == 0) = false := beq_eq_false_iff_ne.2 (by omega)
    have r1 : ¬ ((30 : Int) < (n : Int)) := by omega
    have s0 : IntKind.i64.wrap (kk : Int) = (kk : Int) := IntWalk.i64_in _ (by omega)
    have s1 : IntKind.i64.wrap ((n : Int) - 1) = (n : Int) - 1 := IntWalk.i64_in _ (by omega)
    have s2 : ((n : Int) - 1).tdiv 2 = (q : Int) := by rw [Int.tdiv_eq_ediv_of_nonneg (by omega)]; omega
    have s3 : IntKind.i64.wrap (q : Int) = (q : Int) := IntWalk.i64_in _ (by omega)
    have s4 : IntKind.i64.wrap ((q : Int) + 1) = (q : Int) + 1 := IntWalk.i64_in _ (by omega)
    have s5 : (kk : Int).tmod ((q : Int) + 1) = (m : Int) := by
      rw [Int.tmod_eq_emod_of_nonneg (by omega), hm, show (q : Int) + 1 = ((q + 1 : Nat) : Int) by omega]
      exact (Int.natCast_emod kk (q + 1)).symm
    have s6 : IntKind.i64.wrap (m : Int) = (m : Int) := IntWalk.i64_in _ (by omega)
    have s7 : ¬ ((q : Int) + 1 = 0) := by omega
    obtain ⟨N, hN⟩ : ∃ N, N = n - 2 * m := ⟨_, rfl⟩
    have s8 : IntKind.i64.wrap (2 * (m : Int)) = 2 * (m : Int) := IntWalk.i64_in _ (by omega)
    have s9 : IntKind.i64.wrap ((n : Int) - 2 * (m : Int)) = (N : Int) := by rw [IntWalk.i64_in _ (by omega)]; omega
    have sa : IntKind.i64.wrap ((m : Int) + 1) = (m : Int) + 1 := IntWalk.i64_in _ (by omega)
    have sb : IntKind.i64.wrap ((N : Int) - 1) = (N : Int) - 1 := IntWalk.i64_in _ (by omega)
    have sc : ((N : Int) != (N : Int)) = false := by simp
    have HSM := Lib.hid (fun W (hb : Below w.heap.size w W) => some_any W ⟨A, n, c⟩ l (H.out.later hb) (by show n ≤ 1000; omega))
    obtain ⟨L, hL⟩ : ∃ L, L = someL l := ⟨_, rfl⟩
    have hLl : L.length = n := by rw [hL, someL_len, hl]
    have hf := trm_facts hLl g3 (by rw [hL]; exact someL_ok l)
    rw [← hN] at hf
    rw [← hL] at HSM
    have HLl := Lib.hid hLl
    obtain ⟨f1, f2, f3, f4, f5, f6, -, -, -⟩ := hf
    have HTD := Lib.hid (fun W s' (hr : RSrc inC 1 W s' L) (hs : s'.n = n) => Trim_any W s' L (m : Int) hr (by omega))
    obtain ⟨T, hT⟩ : ∃ T, T = outT L (m : Int) := ⟨_, rfl⟩
    rw [← hT] at f2 f3 f4 f5 f6
    have HT := Lib.hid (And.intro hT (And.intro f1 f2))
    have HF := Lib.hid (And.intro f3 (And.intro f4 (And.intro f5 f6)))
    have hN1 : 1 ≤ N := by omega
    have hN30 : N ≤ 30 := by omega
    have HM := Lib.hid (And.intro hq (And.intro hm (And.intro hmq hN)))
    clear hL hl hq hm hmq hN f1 f2 f3 f4 f5 f6 hT
    go_enter Try.func7, Try.ntmps7
    go_upto_region 11 with (first
      | (go_at_call 16; refine (HA.out _).mono ?_; rintro e w1 ⟨rfl, hb1⟩; have HB1 := Lib.hid hb1; clear hb1)
      | (go_at_call 18; refine (HSM.out _ HB1.out).mono ?_; rintro e w2 hd; obtain ⟨A2, c2, rfl, hs2, -, hb2⟩ := newrow_src (cells := inC) (k := 1) (fun _ => rfl) hd; rw [hLl] at hs2 ⊢; have HS2 := Lib.hid hs2; have HB2 := Lib.hid (k_then hb2 HB1.out); clear hd hs2 hb2 HSM)
      | (go_at_call 9; refine (HTD.out w2 ⟨A2, n, c2⟩ HS2.out rfl).mono ?_; rintro e w3 hd; obtain ⟨A3, c3, rfl, ht1, -, -, ht4⟩ := trimD_src hd; rw [← HT.out.1, HT.out.2.2] at ht1 ⊢; rw [HT.out.2.1]; have HS3 := Lib.hid (HS2.out.later ht4); have HT3 := Lib.hid ht1; have HB3 := Lib.hid (k_then ht4 HB2.out); clear hd ht1 ht4 HTD))
    clear r0 r1 s0 s1 s2 s3 s4 s5 s6 s7 s8 s9 sc HA
    obtain ⟨ga, oa, hA2, -⟩ := HS3.out.at_ (show 0 < n by omega)
    obtain ⟨gt, ot, hA3, -⟩ := HT3.out.at_ (show 0 < N by omega)
    dsimp only at hA2 hA3
    subst hA2 hA3
    have HCA := Lib.hid (fun j (hj : j < n) => (show w3.cell? ⟨ga, oa + j, none⟩ = some (.int .i64 (L.getD j 0)) from by
      obtain ⟨g', o', e, hc⟩ := HS3.out.get (i := j) hj
      cases e
      have := inC_cells hc
      rw [Nat.mul_one] at this
      exact this))
    have HCT := Lib.hid (fun j (hj : j < N) => (show w3.cell? ⟨gt, ot + j, none⟩ = some (.int .i64 (T.getD j 0)) from by
      obtain ⟨g', o', e, hc⟩ := HT3.out.get (i := j) hj
      cases e
      have := inC_cells hc
      rw [Nat.mul_one] at this
      exact this))
    go_loopw [63] (fun iv wr => ∃ i : Nat, i ≤ N ∧ iv = .int .i64 (i : Int) ∧ wr = w3) (fun iv _ => N - (intOf iv).toNat)
    case atStart => exact ⟨0, Nat.zero_le _, rfl, rfl⟩
    case round =>
      obtain ⟨i, hi, rfl, hww⟩ := hrel
      obtain rfl := hww.symm
      by_cases hlt : i < N
      · have c1 := HCT.out i hlt
        obtain ⟨x, hx⟩ : ∃ x, x = T.getD i 0 := ⟨_, rfl⟩
        rw [← hx] at c1
        have HX := Lib.hid hx
        have e1 : (0 : Int) ≤ (i : Int) := by omega
        have e2 : (i : Int) < (N : Int) := by omega
        clear hx
        go_wp2
        go_loopw [14, 70] (fun tv jv wr => ∃ j : Nat, j ≤ n ∧ jv = .int .i64 (j : Int) ∧ tv = .bool ((L.take j).any (fun z => decide (x = z))) ∧ wr = w3) (fun _ jv _ => n - (intOf jv).toNat)
        case atStart => exact ⟨0, Nat.zero_le _, rfl, by simp, rfl⟩
        case round =>
          obtain ⟨j, hj, rfl, rfl, hww⟩ := hrel
          obtain rfl := hww.symm
          by_cases hltj : j < n
          · have d1 := HCA.out j hltj
            obtain ⟨y, hy⟩ : ∃ y, y = L.getD j 0 := ⟨_, rfl⟩
            rw [← hy] at d1
            have hany := any_take (x := x) hy (by rw [HLl.out]; exact hltj)
            obtain ⟨b, hb⟩ : ∃ b, b = (L.take j).any (fun z => decide (x = z)) := ⟨_, rfl⟩
            rw [← hb] at hany ⊢
            have HAN := Lib.hid hany
            have e3 : (0 : Int) ≤ (j : Int) := by omega
            have e4 : (j : Int) < (n : Int) := by omega
            clear hy hb hany
            cases b with
            | true =>
              go_wp2
              go_roundw
              case rel => exact ⟨j + 1, by omega, by go_num, by rw [HAN.out]; rfl, trivial⟩
              case measure => simp [intOf]; omega
            | false =>
              by_cases hxy : x = y
              · have d2 : (x == y) = true := beq_iff_eq.2 hxy
                have HQ := Lib.hid hxy
                clear hxy
                go_wp2
                go_roundw
                case rel => exact ⟨j + 1, by omega, by go_num, by rw [HAN.out, decide_eq_true HQ.out]; rfl, trivial⟩
                case measure => simp [intOf]; omega
              · have d2 : (x == y) = false := beq_eq_false_iff_ne.2 hxy
                have HQ := Lib.hid hxy
                clear hxy
                go_wp2
                go_roundw
                case rel => exact ⟨j + 1, by omega, by go_num, by rw [HAN.out, decide_eq_false HQ.out]; rfl, trivial⟩
                case measure => simp [intOf]; omega
          · obtain rfl : j = n := by omega
            have ht : (L.take j).any (fun z => decide (x = z)) = true := by
              rw [List.take_of_length_le (by rw [HLl.out]; exact Nat.le_refl _), HX.out]
              exact HF.out.1 i hlt
            rw [ht]
            clear ht
            rcases Nat.eq_zero_or_pos i with hi0 | hi0
            · subst hi0
              go_wp2
              go_roundw
              case rel => exact ⟨1, by omega, by go_num, trivial⟩
              case measure => simp [intOf]; omega
            · obtain ⟨p, hp⟩ : ∃ p, p = i - 1 := ⟨_, rfl⟩
              have c2 := HCT.out p (by omega)
              obtain ⟨y, hy⟩ : ∃ y, y = T.getD p 0 := ⟨_, rfl⟩
              rw [← hy] at c2
              have hxy : ¬ x < y := by
                have := HF.out.2.1 i hi0 hlt
                rw [← hp, ← hy, ← HX.out] at this
                omega
              have e3 : IntKind.i64.wrap ((i : Int) - 1) = (p : Int) := by rw [IntWalk.i64_in _ (by omega)]; omega
              have e4 : (0 : Int) < (i : Int) := by omega
              have e5 : (0 : Int) ≤ (p : Int) := by omega
              have e6 : (p : Int) < (N : Int) := by omega
              clear hp hy
              go_wp2
              go_roundw
              case rel => exact ⟨i + 1, by omega, by go_num, trivial⟩
              case measure => simp [intOf]; omega
      · obtain rfl : i = N := by omega
        obtain ⟨t0, ht0⟩ : ∃ t0, t0 = T.getD 0 0 := ⟨_, rfl⟩
        obtain ⟨t9, ht9⟩ : ∃ t9, t9 = T.getD (i - 1) 0 := ⟨_, rfl⟩
        obtain ⟨p, hp⟩ : ∃ p, p = i - 1 := ⟨_, rfl⟩
        have k0 := HCT.out 0 (by omega)
        have k9 := HCT.out p (by omega)
        rw [hp, ← ht9, ← hp] at k9
        rw [← ht0] at k0
        rw [Nat.add_zero] at k0
        obtain ⟨-, -, hm0, hm9⟩ := HF.out
        rw [← ht0] at hm0
        rw [← ht9] at hm9
        have HMM := Lib.hid (And.intro hm0 hm9)
        have e8 : IntKind.i64.wrap ((i : Int) - 1) = (p : Int) := by rw [IntWalk.i64_in _ (by omega)]; omega
        have e9 : (0 : Int) ≤ (p : Int) := by omega
        have ea : (p : Int) < (i : Int) := by omega
        have eb : (0 : Int) < (i : Int) := by omega
        clear ht0 ht9 hp hm0 hm9 sb
        go_wp2
        go_loopw [10, 11, 99] (fun lv gv jv wr => ∃ j : Nat, j ≤ n ∧ jv = .int .i64 (j : Int) ∧ lv = .int .i64 ((upN (L.take j) t0 : Nat) : Int) ∧ gv = .int .i64 ((geN (L.take j) t9 : Nat) : Int) ∧ wr = w3) (fun _ _ jv _ => n - (intOf jv).toNat)
        case atStart => exact ⟨0, Nat.zero_le _, rfl, by simp [upN], by simp [geN], rfl⟩
        case round =>
          obtain ⟨j, hj, rfl, rfl, rfl, hww⟩ := hrel
          obtain rfl := hww.symm
          by_cases hltj : j < n
          · have d1 := HCA.out j hltj
            obtain ⟨y, hy⟩ : ∃ y, y = L.getD j 0 := ⟨_, rfl⟩
            rw [← hy] at d1
            have hu := upN_take (v := t0) hy (by rw [HLl.out]; exact hltj)
            have hg := geN_take (v := t9) hy (by rw [HLl.out]; exact hltj)
            have bu : upN (L.take j) t0 ≤ j := by unfold upN; exact Nat.le_trans List.countP_le_length (by rw [List.length_take]; omega)
            have bg : geN (L.take j) t9 ≤ j := by unfold geN; exact Nat.le_trans List.countP_le_length (by rw [List.length_take]; omega)
            obtain ⟨a1, ha1⟩ : ∃ a1, a1 = upN (L.take j) t0 := ⟨_, rfl⟩
            obtain ⟨a2, ha2⟩ : ∃ a2, a2 = geN (L.take j) t9 := ⟨_, rfl⟩
            rw [← ha1] at hu bu ⊢
            rw [← ha2] at hg bg ⊢
            have HU := Lib.hid (And.intro hu hg)
            have e3 : (0 : Int) ≤ (j : Int) := by omega
            have e4 : (j : Int) < (n : Int) := by omega
            have u1 : IntKind.i64.wrap ((a1 : Int) + 1) = (a1 : Int) + 1 := IntWalk.i64_in _ (by omega)
            have u2 : IntKind.i64.wrap ((a2 : Int) + 1) = (a2 : Int) + 1 := IntWalk.i64_in _ (by omega)
            clear hy hu hg ha1 ha2
            by_cases x1 : y ≤ t0
            · have HQ1 := Lib.hid x1
              by_cases x2 : t9 ≤ y
              · have HQ2 := Lib.hid x2
                go_wp2
                go_roundw
                case rel => exact ⟨j + 1, by omega, by go_num, by rw [HU.out.1, if_pos HQ1.out]; go_num, by rw [HU.out.2, if_pos HQ2.out]; go_num, trivial⟩
                case measure => simp [intOf]; omega
              · have HQ2 := Lib.hid x2
                go_wp2
                go_roundw
                case rel => exact ⟨j + 1, by omega, by go_num, by rw [HU.out.1, if_pos HQ1.out]; go_num, by rw [HU.out.2, if_neg HQ2.out]; rfl, trivial⟩
                case measure => simp [intOf]; omega
            · have HQ1 := Lib.hid x1
              by_cases x2 : t9 ≤ y
              · have HQ2 := Lib.hid x2
                go_wp2
                go_roundw
                case rel => exact ⟨j + 1, by omega, by go_num, by rw [HU.out.1, if_neg HQ1.out]; rfl, by rw [HU.out.2, if_pos HQ2.out]; go_num, trivial⟩
                case measure => simp [intOf]; omega
              · have HQ2 := Lib.hid x2
                go_wp2
                go_roundw
                case rel => exact ⟨j + 1, by omega, by go_num, by rw [HU.out.1, if_neg HQ1.out]; rfl, by rw [HU.out.2, if_neg HQ2.out]; rfl, trivial⟩
                case measure => simp [intOf]; omega
          · obtain rfl : j = n := by omega
            rw [List.take_of_length_le (by rw [HLl.out]; exact Nat.le_refl _)]
            obtain ⟨x1, x2⟩ := HMM.out
            obtain ⟨a1, ha1⟩ : ∃ a1, a1 = upN L t0 := ⟨_, rfl⟩
            obtain ⟨a2, ha2⟩ : ∃ a2, a2 = geN L t9 := ⟨_, rfl⟩
            rw [← ha1] at x1 ⊢
            rw [← ha2] at x2 ⊢
            clear ha1 ha2
            have y1 : (m : Int) + 1 ≤ (a1 : Int) := by omega
            have y2 : (m : Int) + 1 ≤ (a2 : Int) := by omega
            clear x1 x2
            go_wp2
            go_ret
            exact ⟨rfl, HB3.out⟩
  · have r : n = 0 ∨ 30 < n := by omega
    rcases r with r | r
    · subst r
      clear hgo
      go_enter Try.func7, Try.ntmps7
      go_wp2_with (go_at_call 16; refine (HA.out _).mono ?_; rintro e w1 ⟨rfl, hb1⟩; have HB1 := Lib.hid hb1; clear hb1)
      go_ret
      exact ⟨rfl, HB1.out⟩
    · have r0 : ((n : Int) == 0) = false := beq_eq_false_iff_ne.2 (by omega)
      have r1 : (30 : Int) < (n : Int) := by omega
      clear hgo
      go_enter Try.func7, Try.ntmps7
      go_wp2_with (go_at_call 16; refine (HA.out _).mono ?_; rintro e w1 ⟨rfl, hb1⟩; have HB1 := Lib.hid hb1; clear hb1)
      go_ret
      exact ⟨rfl, HB1.out⟩
end Go.Proofs.Ytfpkbhnlpmnegaa
