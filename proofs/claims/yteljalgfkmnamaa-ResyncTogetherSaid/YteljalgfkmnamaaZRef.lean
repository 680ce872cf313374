/- The document's Check, At, Trim, Of and Spread, by their contracts. No condition. -/
import Derived.Test.YteljalgfkmnamaaZOf
namespace Go.Proofs.Yteljalgfkmnamaa
open Go.RowKit Go.Shelf

set_option maxRecDepth 100000 in
set_option maxHeartbeats 2000000 in
theorem refCheckZ_any (w : World) (s : Sl) (l : List Int) (k : Int) (h : RSrc inC 1 w s l) (hn : s.n ≤ 1000) : Calls Try.prog 30 #[s.v, .int .i64 k] w fun e w' => e = .returned (.int .i64 (errT l k)) ∧ Below w.heap.size w w' := by
  have hl := h.len
  have hmx := Nat.le_trans h.cap h.max
  have H := Lib.hid h
  have HL := Lib.hid hl
  unfold errT okM
  rw [hl]
  obtain ⟨A, n, c⟩ := s
  unfold Sl.v
  dsimp only at *
  clear h hl
  by_cases hk : okN n k = true
  · obtain ⟨m, rfl, hm⟩ := okN_iff.1 hk
    rw [hk, Bool.and_true]
    obtain ⟨v, hv⟩ : ∃ v : Int, v = if okV l = true then 0 else 140 := ⟨_, rfl⟩
    rw [← hv]
    have HVV := Lib.hid hv
    clear hv
    have HM := Lib.hid hm
    have e1 : ¬ ((m : Int) < 0) := by omega
    have e2 : ¬ ((n : Int) < 1) := by omega
    have e3 : ¬ ((n : Int) < (m : Int)) := by omega
    have e4 : IntKind.i64.wrap (2 * (m : Int)) = 2 * (m : Int) := IntWalk.i64_in _ (by omega)
    have e5 : IntKind.i64.wrap (2 * (m : Int) + 1) = 2 * (m : Int) + 1 := IntWalk.i64_in _ (by omega)
    have e6 : ¬ ((n : Int) < 2 * (m : Int) + 1) := by omega
    clear hk hm
    go_enter Try.func30, Try.ntmps30
    go_wp2
    clear e1 e2 e3 e4 e5 e6
    go_loopw [5] (fun iv wr => ∃ i : Nat, i ≤ n ∧ iv = .int .i64 (i : Int) ∧ wr = w ∧ ∀ j, j < i → -4294967296 ≤ l.getD j 0 ∧ l.getD j 0 ≤ 4294967296) (fun iv _ => n - (intOf iv).toNat)
    case atStart => exact ⟨0, Nat.zero_le _, rfl, rfl, fun j hj => absurd hj (Nat.not_lt_zero _)⟩
    case round =>
      obtain ⟨i, hi, rfl, rfl, hall⟩ := hrel
      by_cases hlt : i < n
      · obtain ⟨g, o, hA0, hA2⟩ := H.out.get (i := i) hlt
        dsimp only at hA0
        subst hA0
        obtain ⟨x, hx⟩ : ∃ x, x = l.getD i 0 := ⟨_, rfl⟩
        have hx2 : l.getD i default = x := hx.symm
        rw [hx2] at hA2
        have a0 := inC_cells hA2
        rw [Nat.mul_one] at a0
        have e1 : (0 : Int) ≤ (i : Int) := by omega
        have e2 : (i : Int) < (n : Int) := by omega
        have HX := Lib.hid (And.intro hx hall)
        clear hA2 hx hx2 hall
        have bad : (x < -4294967296 ∨ 4294967296 < x) → okV l = false := fun hb => by
          rw [← Bool.not_eq_true, okV_iff]
          intro ha
          have := ha (l.getD i 0) (getD_mem (by rw [HL.out]; exact hlt))
          rw [← HX.out.1] at this
          omega
        have HBAD := Lib.hid bad
        clear bad
        by_cases q1 : x < -4294967296
        · have HB0 := Lib.hid (HBAD.out (.inl q1))
          go_wp2
          go_ret
          exact ⟨by rw [HVV.out, HB0.out]; rfl, Below.refl _ _⟩
        · by_cases q2 : 4294967296 < x
          · have HB0 := Lib.hid (HBAD.out (.inr q2))
            go_wp2
            go_ret
            exact ⟨by rw [HVV.out, HB0.out]; rfl, Below.refl _ _⟩
          · have HQ := Lib.hid (And.intro q1 q2)
            go_wp2
            go_roundw
            case rel =>
              refine ⟨i + 1, by omega, by go_num, trivial, fun j hj => ?_⟩
              rcases Nat.lt_or_ge j i with h | h
              · exact HX.out.2 j h
              · obtain rfl : j = i := by omega
                rw [← HX.out.1]
                have := HQ.out
                omega
            case measure => simp [intOf]; omega
      · have hb : okV l = true := okV_iff.2 fun x hx => by
          obtain ⟨j, hj, rfl⟩ := List.mem_iff_getElem.1 hx
          have := hall j (by have := HL.out; omega)
          rwa [getD_lt hj] at this
        have HB0 := Lib.hid hb
        clear hb hall
        go_wp2
        go_ret
        exact ⟨by rw [HVV.out, HB0.out]; rfl, Below.refl _ _⟩
  · have hk2 : okN n k = false := by simpa using hk
    rw [hk2, Bool.and_false]
    have hk3 : k < 0 ∨ (n : Int) < 2 * k + 1 := by
      unfold okN at hk2
      simp only [Bool.and_eq_false_iff, decide_eq_false_iff_not] at hk2
      omega
    have HK := Lib.hid hk3
    clear hk hk2 hk3
    by_cases q1 : k < 0
    · go_enter Try.func30, Try.ntmps30
      go_wp2
      go_ret
      exact ⟨rfl, Below.refl _ _⟩
    · by_cases q2 : (n : Int) < 1
      · go_enter Try.func30, Try.ntmps30
        go_wp2
        go_ret
        exact ⟨rfl, Below.refl _ _⟩
      · by_cases q3 : (n : Int) < k
        · go_enter Try.func30, Try.ntmps30
          go_wp2
          go_ret
          exact ⟨rfl, Below.refl _ _⟩
        · have q4 : (n : Int) < 2 * k + 1 := by have := HK.out; omega
          have e4 : IntKind.i64.wrap (2 * k) = 2 * k := IntWalk.i64_in _ (by omega)
          have e5 : IntKind.i64.wrap (2 * k + 1) = 2 * k + 1 := IntWalk.i64_in _ (by omega)
          go_enter Try.func30, Try.ntmps30
          go_wp2
          go_ret
          exact ⟨rfl, Below.refl _ _⟩

set_option maxRecDepth 100000 in
set_option maxHeartbeats 4000000 in
theorem refAt_any (w : World) (s : Sl) (l : List Int) (p : Nat) (h : RSrc inC 1 w s l) (hn : s.n ≤ 1000) (hp : p < l.length) : Calls Try.prog 31 #[s.v, .int .i64 (p : Int)] w fun e w' => e = .returned (.int .i64 ((srt l).getD p 0)) ∧ Below w.heap.size w w' := by
  have hl := h.len
  have hmx := Nat.le_trans h.cap h.max
  have H := Lib.hid h
  have HL := Lib.hid hl
  have HP := Lib.hid hp
  obtain ⟨v, hv⟩ : ∃ v, v = (srt l).getD p 0 := ⟨_, rfl⟩
  rw [← hv]
  have HVV := Lib.hid hv
  obtain ⟨g, o, hA0, _⟩ := h.at_ (by omega)
  obtain ⟨A, n, c⟩ := s
  unfold Sl.v
  dsimp only at *
  subst hA0
  have HC := Lib.hid (fun (W : World) (hb : Below w.heap.size w W) (i : Nat) (hi : i < n) => (show W.cell? ⟨g, o + i, none⟩ = some (.int .i64 (l.getD i 0)) from by
    obtain ⟨g', o', e, hc⟩ := (h.later hb).get (i := i) hi
    cases e
    have := inC_cells hc
    rw [Nat.mul_one] at this
    exact this))
  clear h hl hp hv
  go_enter Try.func31, Try.ntmps31
  go_wp2
  go_loopw [5] (fun iv wr => ∃ i : Nat, i ≤ n ∧ iv = .int .i64 (i : Int) ∧ Below w.heap.size w wr ∧ ∀ j, j < i → ¬ aheadTo l j n = p) (fun iv _ => n - (intOf iv).toNat)
  case atStart => exact ⟨0, Nat.zero_le _, rfl, Below.refl _ _, fun j hj => absurd hj (Nat.not_lt_zero _)⟩
  case round =>
    obtain ⟨i, hi, rfl, hwr, hall⟩ := hrel
    have HW := Lib.hid hwr
    have HALL := Lib.hid hall
    clear hwr hall
    obtain ⟨W0, rfl⟩ : ∃ W0, W0 = wr := ⟨_, rfl⟩
    by_cases hlt : i < n
    · have e1 : (0 : Int) ≤ (i : Int) := by omega
      have e2 : (i : Int) < (n : Int) := by omega
      obtain ⟨x, hx⟩ : ∃ x, x = l.getD i 0 := ⟨_, rfl⟩
      have HX := Lib.hid hx
      clear hx
      go_wp2
      go_loopw [6, 7] (fun av kv wr => ∃ k : Nat, k ≤ n ∧ kv = .int .i64 (k : Int) ∧ av = .int .i64 (aheadTo l i k : Int) ∧ Below w.heap.size w wr) (fun _ kv _ => n - (intOf kv).toNat)
      case atStart => exact ⟨0, Nat.zero_le _, rfl, rfl, HW.out⟩
      case round =>
        obtain ⟨k, hk, rfl, rfl, hwr2⟩ := hrel
        have HW2 := Lib.hid hwr2
        clear hwr2
        by_cases hltk : k < n
        · have c1 := HC.out wr HW2.out k hltk
          have c2 := HC.out wr HW2.out i hlt
          rw [← HX.out] at c2
          obtain ⟨y, hy⟩ : ∃ y, y = l.getD k 0 := ⟨_, rfl⟩
          rw [← hy] at c1
          have e3 : (0 : Int) ≤ (k : Int) := by omega
          have e4 : (k : Int) < (n : Int) := by omega
          have hstep : aheadTo l i (k + 1) = aheadTo l i k + if y < x ∨ (y = x ∧ k < i) then 1 else 0 := by rw [HX.out, hy]; rfl
          have hle : aheadTo l i k ≤ k := ahead_le l i k
          obtain ⟨ah, hah⟩ : ∃ ah, ah = aheadTo l i k := ⟨_, rfl⟩
          rw [← hah] at hstep hle ⊢
          have HS := Lib.hid hstep
          clear hy hstep hah
          have s1 : IntKind.i64.wrap ((ah : Int) + 1) = (ah : Int) + 1 := IntWalk.i64_in _ (by omega)
          by_cases q1 : y < x
          · have HQ := Lib.hid q1
            have d1 : decide (y < x) = true := decide_eq_true q1
            clear q1
            go_wp2
            go_quiet (fail)
            go_wp2
            go_roundw
            case rel => exact ⟨k + 1, by omega, by go_num, by rw [HS.out, if_pos (.inl HQ.out)]; go_num, below_drewN HW2.out _⟩
            case measure => simp [intOf]; omega
          · have d1 : decide (y < x) = false := decide_eq_false q1
            by_cases q2 : y = x
            · have d2 : (y == x) = true := beq_iff_eq.2 q2
              by_cases q3 : k < i
              · have d3 : decide ((k : Int) < (i : Int)) = true := decide_eq_true (by omega)
                have HQ := Lib.hid (And.intro q2 q3)
                clear q1 q2
                go_wp2
                go_quiet (fail)
                go_wp2
                go_roundw
                case rel => exact ⟨k + 1, by omega, by go_num, by rw [HS.out, if_pos (.inr HQ.out)]; go_num, below_drewN HW2.out _⟩
                case measure => simp [intOf]; omega
              · have d3 : decide ((k : Int) < (i : Int)) = false := decide_eq_false (by omega)
                have HQ := Lib.hid (And.intro q1 q3)
                clear q1 q2
                go_wp2
                go_quiet (fail)
                go_wp2
                go_roundw
                case rel => exact ⟨k + 1, by omega, by go_num, by rw [HS.out, if_neg (by have := HQ.out; omega)]; rfl, below_drewN HW2.out _⟩
                case measure => simp [intOf]; omega
            · have d2 : (y == x) = false := beq_eq_false_iff_ne.2 q2
              have HQ := Lib.hid (And.intro q1 q2)
              clear q1 q2
              go_wp2
              go_quiet (fail)
              go_wp2
              go_roundw
              case rel => exact ⟨k + 1, by omega, by go_num, by rw [HS.out, if_neg (by have := HQ.out; omega)]; rfl, below_drewN HW2.out _⟩
              case measure => simp [intOf]; omega
        · have hkn : k = n := by omega
          subst hkn
          have hle : aheadTo l i k ≤ k := ahead_le l i k
          obtain ⟨ah, hah⟩ : ∃ ah, ah = aheadTo l i k := ⟨_, rfl⟩
          rw [← hah]
          have HAH := Lib.hid hah
          clear hah
          by_cases hap : ah = p
          · have c2 := HC.out wr HW2.out i hlt
            rw [← HX.out] at c2
            have d1 : ((ah : Int) == (p : Int)) = true := beq_iff_eq.2 (by omega)
            have HQ := Lib.hid hap
            clear hap
            go_wp2
            go_ret
            refine ⟨?_, HW2.out⟩
            rw [HVV.out, HX.out, ahead_is l (i := i) (p := p) (by rw [HL.out]; exact hlt) (by rw [HL.out, ← HAH.out]; exact HQ.out) HP.out]
            rfl
          · have d1 : ((ah : Int) == (p : Int)) = false := beq_eq_false_iff_ne.2 (by omega)
            have HQ := Lib.hid hap
            clear hap
            go_wp2
            go_roundw
            case rel =>
              refine ⟨i + 1, by omega, by go_num, HW2.out, fun j hj => ?_⟩
              rcases Nat.lt_or_ge j i with h | h
              · exact HALL.out j h
              · obtain rfl : j = i := by omega
                rw [← HAH.out]
                exact HQ.out
            case measure => simp [intOf]; omega
    · exfalso
      obtain ⟨j, h1, h2⟩ := ahead_some l HP.out
      rw [HL.out] at h1 h2
      exact HALL.out j (by omega) h2
end Go.Proofs.Yteljalgfkmnamaa
